/-
  Rows of numbers; walks of the package (Cum, Own, All, Level, Fits, Shares), of the reference (All, Fits), of right and awake.
-/
import Derived.Test.YtemfdbnjncpbjaaSplMath
import Derived.Test.YtemfdbnjncpbjaaLeaf
import Derived.Test.YtemfdbnjncpbjaaRowAny
import Derived.BigRegion
namespace Go.Proofs.Ytemfdbnjncpbjaa.Spl
set_option linter.unusedVariables false
set_option maxRecDepth 100000
open Go.RowKit Go.Lib

/-! ### rows of numbers -/
def rk (k : IntKind) (x : Int) : List Value := [.int k x]
theorem encK (k : IntKind) : Enc (rk k) 1 := ⟨by decide, fun _ => rfl, fun x u h => by
  simp only [rk, List.mem_cons, List.not_mem_nil, or_false] at h
  subst h; rfl⟩
theorem row_one {kd : IntKind} {K : Nat → Prop} {w : World} {v : Value} {l : List Int} (h : RowK K w v 1 (fcells (rk kd) l)) : ∃ ao c, v = .slice ao l.length c ∧ l.length ≤ c ∧ c ≤ maxLen ∧ ∀ k x, l[k]? = some x → ∃ g o, ao = some ⟨g, o, none⟩ ∧ w.cell? ⟨g, o + k, none⟩ = some (.int kd x) := by
  obtain ⟨ao, n, c, rfl, h1, h2, h3, h4⟩ := h
  rw [fcells_length (encK kd)] at h1
  obtain rfl : l.length = n := by omega
  refine ⟨ao, c, rfl, h2, h3, fun k x hk => ?_⟩
  have kl := (List.getElem?_eq_some_iff.1 hk).1
  obtain ⟨g, o, ea, hg, hc⟩ := h4 (by omega)
  have := hc (k * 1 + 0) _ (fcells_at (encK kd) hk (j := 0) (by decide))
  rw [Nat.mul_one, Nat.add_zero] at this
  exact ⟨g, o, ea, this⟩
/-- numbers that are there -/
abbrev Nums (kd : IntKind) (w : World) (v : Value) (l : List Int) : Prop := RowK (fun _ => True) w v 1 (fcells (rk kd) l)
theorem Nums.ext {kd : IntKind} {w w' : World} {v : Value} {l : List Int} (h : Nums kd w v l) (e : Ext w w') : Nums kd w' v l := RowK.kept h (Kept.of_ext e)
theorem Nums.nil (kd : IntKind) (w : World) : Nums kd w (.slice none 0 0) [] := RowK.nil _ w 1
theorem Nums.new {kd : IntKind} {T : TypeId} {w wr : World} {v : Value} {l : List Int} (h : NewR (rk kd) T 1 w wr v l) : Nums kd wr v l := (h.row (encK kd)).mono (by decide) fun _ _ _ => trivial

theorem set_take (cur : Array Value) (k : Nat) (v : Value) (h : k < cur.size) : (cur.setIfInBounds k v).toList.take (k + 1) = cur.toList.take k ++ [v] := by
  rw [Array.toList_setIfInBounds, List.take_succ_eq_append_getElem (by simp; omega), List.getElem_set_self]
  congr 1
  rw [List.take_set_of_le (Nat.le_refl k)]
/-- a row new since w, n cells long, of which k are written: with l's first ones -/
def Fil (kd : IntKind) (T : TypeId) (w wr : World) (g n k : Nat) (l : List Int) : Prop :=
  (∃ cur : Array Value, wr.heap[g]? = some (.cells cur T (0, 0)) ∧ cur.size = n ∧ cur.toList.take k = fcells (rk kd) (l.take k)) ∧ w.heap.size ≤ g ∧ Ext w wr
theorem Fil.start (kd : IntKind) (T : TypeId) (w : World) {n : Nat} {cur : Array Value} (l : List Int) (h : cur.size = n) : Fil kd T w (w.alloc (.cells cur T)) w.heap.size n 0 l :=
  ⟨⟨cur, heap_alloc_new w _, h, by simp [fcells]⟩, Nat.le_refl _, (Ext.refl w).alloc _⟩
theorem Fil.put {kd : IntKind} {T : TypeId} {w wr : World} {g n k : Nat} {l : List Int} (h : Fil kd T w wr g n k l) (hk : k < n) {x : Int} (hx : l.take (k + 1) = l.take k ++ [x]) :
    (∃ u, wr.cell? ⟨g, k, none⟩ = some u) ∧ wr.frozen? ⟨g, k, none⟩ = false ∧ (wr.setCell ⟨g, k, none⟩ (.int kd x)).cell? ⟨g, k, none⟩ = some (.int kd x) ∧ Fil kd T w (wr.setCell ⟨g, k, none⟩ (.int kd x)) g n (k + 1) l := by
  obtain ⟨⟨cur, hrow, hs, ht⟩, hg, hx2⟩ := h
  have r2 := setRow_heap wr g cur (cur.setIfInBounds k (.int kd x)) T (0, 0) hrow
  rw [← setCell_eq_setRow _ _ _ _ _ _ _ hrow] at r2
  refine ⟨⟨cur[k], by rw [cell_of_row _ _ _ _ _ _ hrow]; simp [hs, hk]⟩, frozen_of_row _ _ _ _ _ hrow, ?_, ⟨_, r2, by simp [hs], ?_⟩, hg, hx2.setCell hg _⟩
  · rw [cell_of_row _ _ _ _ _ _ r2]
    simp [hs, hk]
  · rw [set_take cur k _ (by omega), ht, hx, fcells_append]
    rfl
theorem Fil.done {kd : IntKind} {T : TypeId} {w wr : World} {g n : Nat} {l : List Int} (h : Fil kd T w wr g n n l) (hl : l.length = n) (hn : n ≤ 1000) : Nums kd wr (.slice (some ⟨g, 0, none⟩) n n) l ∧ Ext w wr := by
  obtain ⟨⟨cur, hrow, hs, ht⟩, hg, hx⟩ := h
  refine ⟨⟨_, _, _, rfl, by rw [fcells_length (encK kd), hl], Nat.le_refl _, by unfold maxLen; omega, fun _ => ⟨g, 0, rfl, trivial, fun j u hu => ?_⟩⟩, hx⟩
  rw [Nat.zero_add, cell_of_row _ _ _ _ _ _ hrow]
  rw [List.take_of_length_le (by simp [hs]), List.take_of_length_le (by omega)] at ht
  rw [← Array.getElem?_toList, ht, hu]
theorem make_row (t e : TypeId) (kd : IntKind) (b : Nat) (ht : Try.prog.underlying t = some (.slice e)) (hi : (Try.prog.info? e).map (fun i => (i.zero, i.size, i.bytes)) = some (some (.int kd 0), 1, b)) (hb : b ≤ 1000) (n : Nat) (hn : n ≤ 1000) (w : World) :
    ∃ cur : Array Value, cur.size = n ∧ (Instr.makeSlice t (.int .i64 (n : Int)) (.int .i64 (n : Int))).run Try.prog w = .ok (.slice (some ⟨w.heap.size, 0, none⟩) n n) (w.alloc (.cells cur e)) := by
  have hbn : b * n ≤ 1000 * 1000 := Nat.mul_le_mul hb hn
  exact ⟨_, by rw [size_madeCells], run_make_row' (P := Try.prog) t e (.int kd 0) b ht hi rfl .i64 .i64 n (by omega) (by omega) w⟩

theorem infoF : (Try.prog.info? 23).map (fun i => (i.zero, i.size, i.bytes)) = some (some (.int .u64 0), 1, 8) := by kernel_rfl

theorem infoI : (Try.prog.info? 3).map (fun i => (i.zero, i.size, i.bytes)) = some (some (.int .i64 0), 1, 8) := by kernel_rfl

theorem elemsU : Elems 31 22 1 8 (.int .u64 0) := ⟨Try.underlying31, by kernel_rfl, rfl, by decide⟩

/-! ### may there be so many layers? -/
theorem mayBe_any (L : Int) (w : World) : Calls Try.prog 18 #[.int .i64 L] w fun e w' => e = .returned (.bool (decide (Lay L))) ∧ w' = w := by
  by_cases q1 : 1 ≤ L
  case' neg =>
    have ED : Hid (decide (Lay L) = false) := decide_eq_false (fun c => q1 c.1)
    have d1 : decide (1 ≤ L) = false := decide_eq_false q1
    clear q1
  case' pos =>
    have d1 : decide (1 ≤ L) = true := decide_eq_true q1
    by_cases q2 : L ≤ 8
    case' pos =>
      have ED : Hid (decide (Lay L) = true) := decide_eq_true ⟨q1, q2⟩
      have d2 : decide (L ≤ 8) = true := decide_eq_true q2
      clear q1 q2
    case' neg =>
      have ED : Hid (decide (Lay L) = false) := decide_eq_false (fun c => q2 c.2)
      have d2 : decide (L ≤ 8) = false := decide_eq_false q2
      clear q1 q2
  all_goals
    go_enter Try.func18, Try.ntmps18
    go_wp2_with fail
    go_ret
    exact ⟨ret_bool ED.out.symm, rfl⟩

theorem right_any (L : Int) (w : World) : Calls Try.prog 10 #[.int .i64 L] w fun e w' => e = .returned (.bool (decide (Lay L))) ∧ w' = w := by
  by_cases q1 : 1 ≤ L
  case' neg =>
    have ED : Hid (decide (Lay L) = false) := decide_eq_false (fun c => q1 c.1)
    have d1 : decide (1 ≤ L) = false := decide_eq_false q1
    clear q1
  case' pos =>
    have d1 : decide (1 ≤ L) = true := decide_eq_true q1
    by_cases q2 : L ≤ 8
    case' pos =>
      have ED : Hid (decide (Lay L) = true) := decide_eq_true ⟨q1, q2⟩
      have d2 : decide (L ≤ 8) = true := decide_eq_true q2
      clear q1 q2
    case' neg =>
      have ED : Hid (decide (Lay L) = false) := decide_eq_false (fun c => q2 c.2)
      have d2 : decide (L ≤ 8) = false := decide_eq_false q2
      clear q1 q2
  all_goals
    go_enter Try.func10, Try.ntmps10
    go_wp2_with fail
    go_ret
    exact ⟨ret_bool ED.out.symm, rfl⟩

/-! ### a cumulative rate -/
theorem fhalf_hv (r : Int) {n : Nat} (h : n ≤ 63) : fhalf r n = hv n r := by
  unfold fhalf
  by_cases q : n = 0
  · subst q
    simp [hv]
  · rw [if_neg (by omega), if_neg (by omega), Int.toNat_natCast, hv_pow]
theorem upTo_any {r : Int} (hr : Wd r) (L k : Nat) (hL : L ≤ 8) (hk : k < L) (w : World) : Calls Try.prog 19 #[.int .u64 r, .int .i64 (L : Int), .int .i64 (k : Int)] w fun e w' => e = .returned (.int .u64 (cum r L k)) ∧ w' = w := by
  have HF := hid (fun V => half_any r ((L : Int) - 1 - (k : Int)) hr.1 (by have := hr.2; omega) V)
  rw [show (L : Int) - 1 - (k : Int) = ((L - 1 - k : Nat) : Int) by omega, fhalf_hv r (by omega), show hv (L - 1 - k) r = cum r L k from rfl, show ((L - 1 - k : Nat) : Int) = (L : Int) - 1 - (k : Int) by omega] at HF
  have a1 : (L : Int) ≤ 8 := by omega
  have a2 : (k : Int) < (L : Int) := by omega
  have a3 : (0 : Int) ≤ (k : Int) := by omega
  clear hr
  generalize cum r L k = c at *
  generalize (L : Int) = X at *
  generalize (k : Int) = Y at *
  go_enter Try.func19, Try.ntmps19
  go_wp2_with fail
  refine (HF.out _).mono ?_
  rintro e w' ⟨rfl, ew⟩
  obtain rfl := ew.symm
  go_wp2_with fail
  go_ret
  exact ⟨rfl, rfl⟩

theorem cum_no (r L k : Int) (h : ¬ (Lay L ∧ 0 ≤ k ∧ k < L)) (w : World) : Calls Try.prog 8 #[.int .u64 r, .int .i64 L, .int .i64 k] w fun e w' => e = .returned (.tuple #[.int .u64 0, .int .i64 11]) ∧ w' = w := by
  have MB := hid (fun V => mayBe_any L V)
  by_cases q1 : Lay L
  case' neg =>
    rw [decide_eq_false q1] at MB
    clear q1 h
  case' pos =>
    rw [decide_eq_true q1] at MB
    by_cases q2 : k < 0
    case' pos => clear q1 h
    case' neg =>
      have q3 : L ≤ k := by have : ¬ (0 ≤ k ∧ k < L) := fun c => h ⟨q1, c⟩; omega
      clear q1 h
  all_goals
    go_enter Try.func8, Try.ntmps8
    go_wp2_with fail
    refine (MB.out _).mono ?_
    rintro e w' ⟨rfl, ew⟩
    obtain rfl := ew.symm
    go_wp2_with fail
    go_ret2
    exact ⟨rfl, rfl⟩

theorem cum_yes {r : Int} (hr : Wd r) (L k : Nat) (hL : L ≤ 8) (hk : k < L) (w : World) : Calls Try.prog 8 #[.int .u64 r, .int .i64 (L : Int), .int .i64 (k : Int)] w fun e w' => e = .returned (.tuple #[.int .u64 (cum r L k), .int .i64 0]) ∧ w' = w := by
  have MB := hid (fun V => mayBe_any (L : Int) V)
  rw [decide_eq_true (show Lay (L : Int) from ⟨by omega, by omega⟩)] at MB
  have UP := hid (fun V => upTo_any hr L k hL hk V)
  have a2 : (k : Int) < (L : Int) := by omega
  have a3 : (0 : Int) ≤ (k : Int) := by omega
  clear hr
  generalize cum r L k = c at *
  generalize (L : Int) = X at *
  generalize (k : Int) = Y at *
  go_enter Try.func8, Try.ntmps8
  go_wp2_with fail
  refine (MB.out _).mono ?_
  rintro e w' ⟨rfl, ew⟩
  obtain rfl := ew.symm
  go_wp2_with fail
  refine (UP.out _).mono ?_
  rintro e w' ⟨rfl, ew⟩
  obtain rfl := ew.symm
  go_wp2_with fail
  go_ret2
  exact ⟨rfl, rfl⟩

/-! ### a layer's own rate -/
def own (r : Int) (L k : Nat) : Int := if k = 0 then cum r L 0 else cum r L k - cum r L (k - 1)
theorem own_no (r L k : Int) (h : ¬ (Lay L ∧ 0 ≤ k ∧ k < L)) (w : World) : Calls Try.prog 13 #[.int .u64 r, .int .i64 L, .int .i64 k] w fun e w' => e = .returned (.tuple #[.int .u64 0, .int .i64 11]) ∧ w' = w := by
  have CN := hid (fun V => cum_no r L k h V)
  clear h
  go_enter Try.func13, Try.ntmps13
  go_wp2_with fail
  refine (CN.out _).mono ?_
  rintro e w' ⟨rfl, ew⟩
  obtain rfl := ew.symm
  go_wp2_with fail
  go_ret2
  exact ⟨rfl, rfl⟩

theorem own_yes {r : Int} (hr : Wd r) (L k : Nat) (hL : L ≤ 8) (hk : k < L) (w : World) : Calls Try.prog 13 #[.int .u64 r, .int .i64 (L : Int), .int .i64 (k : Int)] w fun e w' => e = .returned (.tuple #[.int .u64 (own r L k), .int .i64 0]) ∧ w' = w := by
  have CN := hid (fun V => cum_yes hr L k hL hk V)
  by_cases q : k = 0
  · subst q
    rw [show own r L 0 = cum r L 0 from if_pos rfl]
    generalize cum r L 0 = c at *
    rw [show ((0 : Nat) : Int) = 0 from rfl] at CN ⊢
    clear hr
    go_enter Try.func13, Try.ntmps13
    go_wp2_with fail
    refine (CN.out _).mono ?_
    rintro e w' ⟨rfl, ew⟩
    obtain rfl := ew.symm
    go_wp2_with fail
    go_ret2
    exact ⟨rfl, rfl⟩
  · obtain ⟨j, rfl⟩ : ∃ j, k = j + 1 := ⟨k - 1, by omega⟩
    rw [show own r L (j + 1) = cum r L (j + 1) - cum r L j from if_neg q]
    have le := cum_rises hr hk
    have UP := hid (fun V => upTo_any hr L j hL (by omega) V)
    have c0 := cum_room hr L j
    have c1 := cum_room hr L (j + 1)
    unfold Wd at c0 c1
    have SB := hid (fun V => sub_any (cum r L (j + 1)) (cum r L j) (by omega) (by omega) (by omega) (by omega) V)
    rw [show fsub (cum r L (j + 1)) (cum r L j) = cum r L (j + 1) - cum r L j from by unfold fsub; rw [if_neg (by omega)]] at SB
    obtain ⟨Y, eY⟩ : ∃ Y : Int, Y = ((j + 1 : Nat) : Int) := ⟨_, rfl⟩
    rw [show (j : Int) = Y - 1 by omega] at UP
    have a3 : (1 : Int) ≤ Y := by omega
    have a4 : ¬ Y = 0 := by omega
    have a5 : Y ≤ 8 := by omega
    rw [← eY] at CN ⊢
    clear hr eY c0 c1 le q hk
    generalize cum r L (j + 1) - cum r L j = d at *
    generalize cum r L (j + 1) = c at *
    generalize cum r L j = b at *
    go_enter Try.func13, Try.ntmps13
    go_wp2_with fail
    refine (CN.out _).mono ?_
    rintro e w' ⟨rfl, ew⟩
    obtain rfl := ew.symm
    go_wp2_with fail
    refine (UP.out _).mono ?_
    rintro e w' ⟨rfl, ew⟩
    obtain rfl := ew.symm
    go_wp2_with fail
    refine (SB.out _).mono ?_
    rintro e w' ⟨rfl, ew⟩
    obtain rfl := ew.symm
    go_wp2_with fail
    go_ret2
    exact ⟨rfl, rfl⟩
/-- own ones, up to a layer, are together its cumulative rate -/
def osum (r : Int) (L : Nat) : Nat → Int
  | 0 => 0
  | k + 1 => cum r L k
theorem osum_more (r : Int) (L k : Nat) : osum r L k + own r L k = osum r L (k + 1) := by
  cases k with
  | zero => simp [osum, own]
  | succ k => simp only [osum, own]; rw [if_neg (by omega), Nat.add_sub_cancel]; omega

/-! ### all of them -/
theorem all_no (r L : Int) (h : ¬ Lay L) (w : World) : Calls Try.prog 9 #[.int .u64 r, .int .i64 L] w fun e w' => e = .returned (.slice none 0 0) ∧ w' = w := by
  have MB := hid (fun V => mayBe_any L V)
  rw [decide_eq_false h] at MB
  clear h
  go_enter Try.func9, Try.ntmps9
  go_wp2_with fail
  refine (MB.out _).mono ?_
  rintro e w' ⟨rfl, ew⟩
  obtain rfl := ew.symm
  go_wp2_with fail
  go_ret
  exact ⟨rfl, rfl⟩

set_option maxHeartbeats 4000000 in
theorem all_yes {r : Int} (hr : Wd r) (N : Nat) (h1 : 1 ≤ N) (h8 : N ≤ 8) (w : World) : Calls Try.prog 9 #[.int .u64 r, .int .i64 (N : Int)] w fun e w' => ∃ g, e = .returned (.slice (some ⟨g, 0, none⟩) N N) ∧ Nums .u64 w' (.slice (some ⟨g, 0, none⟩) N N) (cums r N) ∧ Ext w w' := by
  have MB := hid (fun V => mayBe_any (N : Int) V)
  rw [decide_eq_true (show Lay (N : Int) from ⟨by omega, by omega⟩)] at MB
  have UP := hid (fun k (hk : k < N) V => upTo_any hr N k h8 hk V)
  have TK := hid (fun k (hk : k < N) => cums_take r hk)
  have LN := hid (cums_length r N)
  obtain ⟨cur, hc, mk⟩ := make_row 27 23 .u64 8 Try.underlying27 infoF (by omega) N (by omega) w
  have ST := hid (Fil.start .u64 23 w (cums r N) hc)
  clear hr hc
  generalize cums r N = l at *
  go_enter Try.func9, Try.ntmps9
  go_wp2_with fail
  refine (MB.out _).mono ?_
  rintro e w' ⟨rfl, ew⟩
  obtain rfl := ew.symm
  generalize w.heap.size = g at *
  generalize w.alloc (.cells cur 23) = w2 at *
  go_wp2_with fail
  go_loopw [6, 13] (fun _ iv wr => ∃ k : Nat, k ≤ N ∧ iv = .int .i64 (k : Int) ∧ Hid (Fil .u64 23 w wr g N k l)) (fun _ iv _ => (N - RowKit.intOf iv).toNat)
  case atStart => exact ⟨0, by omega, rfl, ST⟩
  case round =>
    obtain ⟨k, hk, rfl, FR⟩ := hrel
    clear ST mk
    by_cases q : k < N
    · have i1 : (k : Int) < (N : Int) := by omega
      have i2 : (0 : Int) ≤ (k : Int) := by omega
      have U1 := hid (UP.out k q)
      obtain ⟨⟨u, c3⟩, f3, -, g3⟩ := FR.out.put q (TK.out k q)
      have G3 := hid g3
      clear UP TK FR g3
      generalize cum r N k = c at *
      go_wp2_with fail
      refine (U1.out _).mono ?_
      rintro e w' ⟨rfl, ew⟩
      obtain rfl := ew.symm
      go_wp2_with fail
      go_roundw
      case rel => exact ⟨k + 1, by omega, by go_num, G3⟩
      case measure => simp [RowKit.intOf]; omega
    · obtain rfl : N = k := by omega
      have D := hid (FR.out.done LN.out (by omega))
      clear FR UP TK
      go_wp2_with fail
      go_ret
      exact ⟨g, rfl, D.out.1, D.out.2⟩
end Go.Proofs.Ytemfdbnjncpbjaa.Spl

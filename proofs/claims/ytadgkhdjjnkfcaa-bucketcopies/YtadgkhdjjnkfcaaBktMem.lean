/-
  A bucket in memory; walks of New, whole, Fill, Can, Spend, End, Tokens, Spent, Copy, Most, of the atomic count; of the reference's Add, Spend, End.
-/
import Derived.Test.YtadgkhdjjnkfcaaBktMath
import Derived.Test.YtadgkhdjjnkfcaaLeaf
import Derived.Test.YtadgkhdjjnkfcaaRowAny
import Derived.Test.YtadgkhdjjnkfcaaStoreCore
import Derived.Test.YtadgkhdjjnkfcaaEitherCore
import Derived.Laws.LoneSync
import Derived.Laws.Pointers
import Derived.Laws.NewBlocks
import Derived.BigRegion
namespace Go.Proofs.Ytadgkhdjjnkfcaa.Bkt
set_option linter.unusedVariables false
set_option maxRecDepth 100000
open Go.RowKit Go.Lib

def sr (s : BS) : Array Value := #[.int .i64 s.1, .int .u64 s.2.1, .int .i64 s.2.2]
theorem sr_one (s : BS) : (sr s).all (·.oneCell') = true := by simp [sr, Value.oneCell']
theorem size_s : (Try.prog.info? 62).map (·.size) = some 3 := by kernel_rfl
def BktV (w : World) (b : Nat) (s : BS) : Prop := Fit s ∧ w.heap[b]? = some (.cells (sr s) 62 (0, 0))
theorem BktV.c0 {w : World} {b : Nat} {s : BS} (h : BktV w b s) : w.cell? ⟨b, 0, none⟩ = some (.int .i64 s.1) := by
  rw [cell_of_row _ _ 0 _ _ _ h.2]; rfl
theorem BktV.c1 {w : World} {b : Nat} {s : BS} (h : BktV w b s) : w.cell? ⟨b, 1, none⟩ = some (.int .u64 s.2.1) := by
  rw [cell_of_row _ _ 1 _ _ _ h.2]; rfl
theorem BktV.c2 {w : World} {b : Nat} {s : BS} (h : BktV w b s) : w.cell? ⟨b, 2, none⟩ = some (.int .i64 s.2.2) := by
  rw [cell_of_row _ _ 2 _ _ _ h.2]; rfl
theorem BktV.free {w : World} {b : Nat} {s : BS} (h : BktV w b s) (i : Nat) : w.frozen? ⟨b, i, none⟩ = false := frozen_of_row _ _ _ _ _ h.2
theorem BktV.lt {w : World} {b : Nat} {s : BS} (h : BktV w b s) : b < w.heap.size := lt_of_row h.2
theorem BktV.kept {K : Nat → Prop} {w w' : World} {b : Nat} {s : BS} (h : BktV w b s) (k : Kept K w w') (hb : K b) : BktV w' b s := ⟨h.1, k.row hb h.2⟩
theorem BktV.ext {w w' : World} {b : Nat} {s : BS} (h : BktV w b s) (e : Ext w w') : BktV w' b s := ⟨h.1, e.row h.2⟩
theorem BktV.drewN {w : World} {b : Nat} {s : BS} (h : BktV w b s) (n : Nat) : BktV (w.drewN n) b s := h
/-- its tokens, its spent written anew -/
theorem BktV.put1 {w : World} {b : Nat} {s : BS} (h : BktV w b s) {x : Int} (f : Fit (s.1, x, s.2.2)) : BktV (w.setCell ⟨b, 1, none⟩ (.int .u64 x)) b (s.1, x, s.2.2) ∧ Kept (fun q => q ≠ b) w (w.setCell ⟨b, 1, none⟩ (.int .u64 x)) := by
  refine ⟨⟨f, ?_⟩, (Kept.refl _ w).setCell (fun hne => hne rfl) _⟩
  rw [setCell_eq_setRow _ _ _ _ _ _ _ h.2]
  exact setRow_heap _ _ _ _ _ _ h.2
theorem BktV.put2 {w : World} {b : Nat} {s : BS} (h : BktV w b s) {x : Int} (f : Fit (s.1, s.2.1, x)) : BktV (w.setCell ⟨b, 2, none⟩ (.int .i64 x)) b (s.1, s.2.1, x) ∧ Kept (fun q => q ≠ b) w (w.setCell ⟨b, 2, none⟩ (.int .i64 x)) := by
  refine ⟨⟨f, ?_⟩, (Kept.refl _ w).setCell (fun hne => hne rfl) _⟩
  rw [setCell_eq_setRow _ _ _ _ _ _ _ h.2]
  exact setRow_heap _ _ _ _ _ _ h.2

/-! ### a read and a call, either of which may come first -/
theorem loadCallE {P : Program} {md : Region.Mode} {ops : Array Oper} {Q : Exit → Act → World → Prop} {S : World → Prop} (i d j d' : Nat) {oi oj : Oper} {v : Value} {g : FuncId} {args : Array Value} {fuel : Nat} {listed : Array Bool} {a : Act} {w : World}
    (hi : ops[i]? = some oi) (hd : oi.dst = some d) (hj : ops[j]? = some oj) (hd' : oj.dst = some d')
    (hr : Region.ready md ops listed = [i, j]) (hw : Region.wanted oi (yielded ops a.tmps) = true) (hw' : Region.wanted oj (yielded ops a.tmps) = true) (he : (execOp a.eval oi).run P w = .ok (.value v) w) (he' : (execOp a.eval oj).run P w = .ok (.enter g args) w) (hS : S w)
    (h : wpAnyH P md ops Q S fuel (listed.setIfInBounds i true) (a.put (some d) v) w)
    (hc' : Calls P g args w (fun e w' => ∃ v, e = .returned v ∧ S w' ∧ wpAnyH P md ops Q S fuel (listed.setIfInBounds j true) (a.put (some d') v) w')) : wpAnyH P md ops Q S (fuel + 1) listed a w := by
  refine wpAnyH_all hr (by simp) (fun q hq => ?_)
  rcases (show q = i ∨ q = j by simpa using hq) with rfl | rfl
  · unfold wpOp
    simp only [hi, hw, if_true, Oper.wp, he, Oper.upon]
    left
    rw [hd]
    exact ⟨hS, h⟩
  · unfold wpOp
    simp only [hj, hw', if_true, Oper.wp, he', Oper.upon]
    left
    refine hc'.mono ?_
    rintro e w' ⟨v, rfl, h1, h2⟩
    simp only [hd']
    exact ⟨h1, h2⟩

/-! ### the atomic count -/
set_option maxHeartbeats 1000000 in
theorem word_load (a : Addr) (x : Int) (w : World) (h : w.cell? a = some (.int .i64 x)) :
    Calls Try.prog 28 #[.pointer (some a)] w fun e w' => e = .returned (.int .i64 x) ∧ w' = w := by
  have l0 := run_call_load (P := Try.prog) Try.func32 (by kernel_rfl) (by kernel_rfl) (by kernel_rfl) .i64 (by kernel_rfl) h
  go_enter Try.func28, Try.ntmps28
  go_wp2
  go_ret
  exact ⟨rfl, rfl⟩

set_option maxHeartbeats 1000000 in
theorem word_add (a : Addr) (x n : Int) (w : World) (h : w.cell? a = some (.int .i64 x)) (hz : w.frozen? a = false) :
    Calls Try.prog 27 #[.pointer (some a), .int .i64 n] w fun e w' => e = .returned (.int .i64 (isum x n)) ∧ w' = w.setCell a (.int .i64 (isum x n)) := by
  have l0 := run_call_add (P := Try.prog) Try.func31 (by kernel_rfl) (by kernel_rfl) (by kernel_rfl) .i64 (by kernel_rfl) (y := n) (s := isum x n) h hz (by simp [go_sem, isum])
  generalize isum x n = z at *
  go_enter Try.func27, Try.ntmps27
  go_wp2
  go_ret
  exact ⟨rfl, rfl⟩

set_option maxHeartbeats 1000000 in
theorem word_store (a : Addr) (x : Value) (y : Int) (w : World) (h : w.cell? a = some x) (hz : w.frozen? a = false) :
    Calls Try.prog 30 #[.pointer (some a), .int .i64 y] w fun e w' => e = .returned (.tuple #[]) ∧ w' = w.setCell a (.int .i64 y) := by
  have put := run_call_store (P := Try.prog) Try.func33 (by kernel_rfl) (by kernel_rfl) (by kernel_rfl) (by kernel_rfl) (k := .i64) (y := y) h hz
  go_enter Try.func30, Try.ntmps30
  go_wp2
  go_returns
  exact ⟨rfl, rfl⟩

/-! ### numbers -/
theorem fadd_wadd (a b : Int) : fadd a b = wadd a b := by
  unfold fadd wadd
  split <;> split <;> omega
theorem add_word {a b : Int} (ha : Wd a) (hb : Wd b) (w : World) : Calls Try.prog 24 #[.int .u64 a, .int .u64 b] w fun e w' => e = .returned (.int .u64 (wadd a b)) ∧ w' = w := by
  rw [← fadd_wadd]
  exact add_any a b ha.1 hb.1 (by have := ha.2; omega) (by have := hb.2; omega) w
theorem sub_word {a b : Int} (ha : Wd a) (hb : Wd b) (h : b ≤ a) (w : World) : Calls Try.prog 26 #[.int .u64 a, .int .u64 b] w fun e w' => e = .returned (.int .u64 (a - b)) ∧ w' = w := by
  have q := sub_any a b ha.1 hb.1 (by have := ha.2; omega) (by have := hb.2; omega) w
  rw [show fsub a b = a - b from by unfold fsub; rw [if_neg (by omega)]] at q
  exact q

theorem whole_of {n : Int} (h0 : 0 ≤ n) (h1 : n ≤ 1048576) (w : World) : Calls Try.prog 25 #[.int .i64 n] w fun e w' => e = .returned (.int .u64 (n * 4294967296)) ∧ w' = w := by
  have OF := hid (of_any n h0 (by omega) w)
  have e1 : max n 0 = n := by omega
  have e2 : min n 4294967295 = n := by omega
  have e3 : n % 4294967296 = n := by omega
  go_enter Try.func25, Try.ntmps25
  go_wp2_with fail
  refine OF.out.mono ?_
  rintro e w' ⟨rfl, ew⟩
  obtain rfl : w = w' := ew.symm
  go_wp2_with fail
  go_ret
  exact ⟨rfl, rfl⟩

/-! ### the bucket's own -/
theorem tokens_any (b : Nat) (s : BS) (w : World) (h : BktV w b s) : Calls Try.prog 16 #[.pointer (some ⟨b, 0, none⟩)] w fun e w' => e = .returned (.int .u64 s.2.1) ∧ w' = w := by
  have c := h.c1
  clear h
  go_enter Try.func16, Try.ntmps16
  go_wp2_with fail
  go_ret
  exact ⟨rfl, rfl⟩

theorem spent_any (b : Nat) (s : BS) (w : World) (h : BktV w b s) : Calls Try.prog 19 #[.pointer (some ⟨b, 0, none⟩)] w fun e w' => e = .returned (.int .i64 s.2.2) ∧ w' = w := by
  have c := h.c2
  have LD := hid (word_load ⟨b, 2, none⟩ s.2.2 w c)
  clear h
  go_enter Try.func19, Try.ntmps19
  go_wp2_with fail
  refine LD.out.mono ?_
  rintro e w' ⟨rfl, ew⟩
  obtain rfl : w = w' := ew.symm
  go_wp2_with fail
  go_ret
  exact ⟨rfl, rfl⟩

theorem fill_any (b : Nat) (s : BS) (r : Int) (w : World) (h : BktV w b s) (hr : Wd r) : Calls Try.prog 11 #[.pointer (some ⟨b, 0, none⟩), .int .u64 r] w fun e w' => e = .returned (.tuple #[]) ∧ BktV w' b (fil s r) ∧ Kept (fun q => q ≠ b) w w' := by
  have c1 := h.c1
  have fr := h.free 1
  have AD := hid (add_word h.1.2.1 hr w)
  have FIN := hid (h.put1 (x := wadd s.2.1 r) (fil_fit h.1 hr))
  rw [show (s.1, wadd s.2.1 r, s.2.2) = fil s r from rfl] at FIN
  generalize fil s r = t at *
  generalize wadd s.2.1 r = x at *
  clear h hr
  go_enter Try.func11, Try.ntmps11
  go_wp2_with fail
  refine AD.out.mono ?_
  rintro e w' ⟨rfl, ew⟩
  obtain rfl : w = w' := ew.symm
  go_wp2_with fail
  refine bodyPost_end (results_none Try.results11 _ _ _) rfl ?_
  exact ⟨rfl, FIN.out⟩

set_option maxHeartbeats 2000000 in
theorem can_any (b : Nat) (s : BS) (n : Int) (w : World) (h : BktV w b s) : Calls Try.prog 14 #[.pointer (some ⟨b, 0, none⟩), .int .i64 n] w fun e w' => e = .returned (.bool (decide (Can s n))) ∧ ∃ k, w' = w.drewN k := by
  have c0 := h.c0
  have c1 := h.c1
  have sz := h.1.1.2
  by_cases q1 : 1 ≤ n
  · by_cases q2 : n ≤ s.1
    · have WH := hid (fun V => whole_of (n := n) (by omega) (by omega) V)
      rw [show decide (Can s n) = decide (n * 4294967296 ≤ s.2.1) from decide_eq_decide.2 ⟨fun c => c.2.2, fun c => ⟨q1, q2, c⟩⟩]
      have d1 : decide (1 ≤ n) = true := decide_eq_true q1
      have d2 : decide (n ≤ s.1) = true := decide_eq_true q2
      clear h
      generalize n * 4294967296 = y at *
      go_enter Try.func14, Try.ntmps14
      go_wp2_with fail
      go_quiet (first
        | (go_at_call 25; refine Calls.quiet_of_same (WH.out _)))
      go_wp2_with fail
      go_ret
      exact ⟨rfl, _, rfl⟩
    · have ED : Hid (decide (Can s n) = false) := decide_eq_false (fun c => q2 c.2.1)
      have d1 : decide (1 ≤ n) = true := decide_eq_true q1
      have d2 : decide (n ≤ s.1) = false := decide_eq_false q2
      clear h
      go_enter Try.func14, Try.ntmps14
      go_wp2_with fail
      go_quiet (fail)
      go_wp2_with fail
      go_ret
      exact ⟨ret_bool ED.out.symm, _, rfl⟩
  · have ED : Hid (decide (Can s n) = false) := decide_eq_false (fun c => q1 c.1)
    have d1 : decide (1 ≤ n) = false := decide_eq_false q1
    clear h
    go_enter Try.func14, Try.ntmps14
    go_wp2_with fail
    go_quiet (fail)
    go_wp2_with fail
    go_ret
    exact ⟨ret_bool ED.out.symm, _, rfl⟩

theorem wd0 : Wd 0 := by unfold Wd; decide
theorem nm0 : Nm 0 := by unfold Nm; decide

theorem new_no (n : Int) (w : World) (hn : n < 1 ∨ 320 < n) : Calls Try.prog 10 #[.int .i64 n] w fun e w' => e = .returned (.tuple #[.pointer none, .int .i64 11]) ∧ w' = w := by
  by_cases q : n < 1
  case' pos => clear hn
  case' neg =>
    have q2 : 320 < n := by omega
    clear hn
  all_goals
    go_enter Try.func10, Try.ntmps10
    go_wp2_with fail
    go_ret2
    exact ⟨rfl, rfl⟩

theorem new_yes (n : Int) (w : World) (h1 : 1 ≤ n) (h2 : n ≤ 320) : Calls Try.prog 10 #[.int .i64 n] w fun e w' => ∃ b, e = .returned (.tuple #[.pointer (some ⟨b, 0, none⟩), .int .i64 0]) ∧ BktV w' b (n, 0, 0) ∧ w.heap.size ≤ b ∧ Ext w w' := by
  have q1 : ¬ n < 1 := by omega
  have q2 : ¬ 320 < n := by omega
  have FT : Hid (Fit (n, 0, 0)) := ⟨⟨h1, h2⟩, wd0, nm0⟩
  clear h1 h2
  go_enter Try.func10, Try.ntmps10
  go_wp2_with fail
  go_ret2
  exact ⟨_, rfl, ⟨FT.out, heap_alloc_new w _⟩, Nat.le_refl _, (Ext.refl w).alloc _⟩

set_option maxHeartbeats 4000000 in
theorem spend_any (b : Nat) (s : BS) (n : Int) (w : World) (h : BktV w b s) : Calls Try.prog 15 #[.pointer (some ⟨b, 0, none⟩), .int .i64 n] w fun e w' => e = .returned (.bool (decide (Can s n))) ∧ BktV w' b (spd s n) ∧ Kept (fun q => q ≠ b) w w' := by
  have CN := hid (can_any b s n w h)
  by_cases q : Can s n
  · rw [spd_yes q]
    rw [decide_eq_true q] at CN ⊢
    have WH := hid (fun V => whole_of (n := n) (by have := q.1; omega) (by have := q.2.1; have := h.1.1.2; omega) V)
    have y0 : Wd (n * 4294967296) := by
      have h1 := h.1.2.1.2
      unfold Wd
      have := q.1
      have := q.2.2
      omega
    have SB := hid (fun V => sub_word h.1.2.1 y0 q.2.2 V)
    have FT : Hid (Fit (s.1, s.2.1 - n * 4294967296, s.2.2)) := ⟨h.1.1, by
      have h1 := h.1.2.1
      unfold Wd at *
      have := q.2.2
      simp only
      omega, h.1.2.2⟩
    have FZ : Hid (Fit (s.1, s.2.1 - n * 4294967296, isum s.2.2 n)) := ⟨FT.out.1, FT.out.2.1, isum_room _ _⟩
    obtain ⟨z, ez⟩ : ∃ z, z = isum s.2.2 n := ⟨_, rfl⟩
    rw [← ez] at FZ ⊢
    have EZ := hid ez
    clear y0 ez
    have H := hid h
    clear h q
    generalize n * 4294967296 = y at *
    generalize s.2.1 - y = x at *
    go_enter Try.func15, Try.ntmps15
    go_wp2_with fail
    refine CN.out.mono ?_
    rintro e w' ⟨rfl, k, rfl⟩
    have H2 : Hid (BktV (w.drewN k) b s) := H.out.drewN k
    have K2 : Hid (Kept (fun q => q ≠ b) w (w.drewN k)) := (Kept.refl _ w).drewN k
    clear CN H
    generalize w.drewN k = V0 at *
    go_wp2_with fail
    have HB : Hid (BktV V0.drew b s) := H2.out.drewN 1
    have c1 := HB.out.c1
    have fr := HB.out.free 1
    have hHeld := True.intro
    refine wp_region_held_drew (S := fun _ => True) (by kernel_rfl) hHeld (fun hHeld => ?_)
    refine takeE (v := ?_) 0 9 rfl rfl (by kernel_rfl) (by kernel_rfl) (by kernel_rfl) (fun _ _ _ h => h) (Or.inl ⟨by rfl, fun V hV => ?_⟩) hHeld ?_
    rotate_left
    · (go_simp; try with_reducible rfl)
    simp only [Act.put, List.setIfInBounds_toArray, List.set_cons_zero, List.set_cons_succ]
    refine takeE (v := ?_) 1 10 rfl rfl (by kernel_rfl) (by kernel_rfl) (by kernel_rfl) (fun _ _ _ h => h) (Or.inl ⟨by rfl, fun V hV => ?_⟩) hHeld ?_
    rotate_left
    · (go_simp; try with_reducible rfl)
    simp only [Act.put, List.setIfInBounds_toArray, List.set_cons_zero, List.set_cons_succ]
    refine takeE (v := ?_) 2 11 rfl rfl (by kernel_rfl) (by kernel_rfl) (by kernel_rfl) (fun _ _ _ h => h) (Or.inl ⟨by rfl, fun V hV => ?_⟩) hHeld ?_
    rotate_left
    · (go_simp; try with_reducible rfl)
    simp only [Act.put, List.setIfInBounds_toArray, List.set_cons_zero, List.set_cons_succ]
    refine takeE (v := ?_) 3 12 rfl rfl (by kernel_rfl) (by kernel_rfl) (by kernel_rfl) (fun _ _ _ h => h) (Or.inl ⟨by rfl, fun V hV => ?_⟩) hHeld ?_
    rotate_left
    · (go_simp; try with_reducible rfl)
    simp only [Act.put, List.setIfInBounds_toArray, List.set_cons_zero, List.set_cons_succ]
    refine takeE (v := ?_) 5 14 rfl rfl (by kernel_rfl) (by kernel_rfl) (by kernel_rfl) (fun _ _ _ h => h) (Or.inl ⟨by rfl, fun V hV => ?_⟩) hHeld ?_
    rotate_left
    · (go_simp; try with_reducible rfl)
    simp only [Act.put, List.setIfInBounds_toArray, List.set_cons_zero, List.set_cons_succ]
    refine loadCallE 4 13 6 15 rfl rfl rfl rfl (by kernel_rfl) (by rfl) (by rfl) (v := .int .u64 s.2.1) (by go_simp; try with_reducible rfl) (by go_simp; first | exact ⟨rfl, rfl⟩ | rfl) hHeld ?lA ?lB
    case' lA =>
      simp only [Act.put, List.setIfInBounds_toArray, List.set_cons_zero, List.set_cons_succ]
      refine callE 6 15 rfl rfl (by kernel_rfl) (by rfl) (by go_simp; first | exact ⟨rfl, rfl⟩ | rfl) ?_
      refine (WH.out _).mono ?_
      rintro e w' ⟨rfl, ew⟩
      obtain rfl := ew.symm
      refine ⟨_, rfl, hHeld, ?_⟩
      simp only [Act.put, List.setIfInBounds_toArray, List.set_cons_zero, List.set_cons_succ]
    case' lB =>
      refine (WH.out _).mono ?_
      rintro e w' ⟨rfl, ew⟩
      obtain rfl := ew.symm
      refine ⟨_, rfl, hHeld, ?_⟩
      simp only [Act.put, List.setIfInBounds_toArray, List.set_cons_zero, List.set_cons_succ]
      refine knownE 4 13 (v := .int .u64 s.2.1) rfl rfl (by kernel_rfl) (by rfl) (by go_simp; try with_reducible rfl) hHeld ?_
      simp only [Act.put, List.setIfInBounds_toArray, List.set_cons_zero, List.set_cons_succ]
    all_goals refine callE 7 16 rfl rfl (by kernel_rfl) (by rfl) (by go_simp; first | exact ⟨rfl, rfl⟩ | rfl) ?_
    all_goals refine (SB.out _).mono ?_
    all_goals rintro e w' ⟨rfl, ew⟩
    all_goals obtain rfl := ew.symm
    all_goals refine ⟨_, rfl, hHeld, ?_⟩
    all_goals simp only [Act.put, List.setIfInBounds_toArray, List.set_cons_zero, List.set_cons_succ]
    all_goals (
      refine takeE (v := ?_) 8 17 rfl rfl (by kernel_rfl) (by kernel_rfl) (by kernel_rfl) (fun _ _ _ h => h) (Or.inl ⟨by rfl, fun V hV => ?_⟩) hHeld ?_
      rotate_left
      · (go_simp; try with_reducible rfl)
      simp only [Act.put, List.setIfInBounds_toArray, List.set_cons_zero, List.set_cons_succ])
    all_goals (
      refine takeE (v := ?_) 9 18 rfl rfl (by kernel_rfl) (by kernel_rfl) (by kernel_rfl) (fun _ _ _ h => h) (Or.inl ⟨by rfl, fun V hV => ?_⟩) hHeld ?_
      rotate_left
      · (go_simp; try with_reducible rfl)
      simp only [Act.put, List.setIfInBounds_toArray, List.set_cons_zero, List.set_cons_succ])
    all_goals refine storeE 10 rfl (by kernel_rfl) (by rfl) (w' := V0.drew.setCell ⟨b, 1, none⟩ (.int .u64 x)) (by go_simp; try with_reducible rfl) hHeld ?_
    all_goals simp only [Act.put]
    all_goals refine wpAnyH_done (by kernel_rfl) ?_ _
    all_goals obtain ⟨B3, K3⟩ := HB.out.put1 FT.out
    all_goals generalize V0.drew.setCell ⟨b, 1, none⟩ (.int .u64 x) = V3 at *
    all_goals have c2 := B3.c2
    all_goals have f2 := B3.free 2
    all_goals have AD := hid (word_add ⟨b, 2, none⟩ s.2.2 n V3 c2 f2)
    all_goals rw [← EZ.out] at AD
    all_goals have FIN := hid (B3.put2 FZ.out)
    all_goals have K4 := hid (K2.out.trans ((show Kept (fun q => q ≠ b) V0 V0.drew from (Kept.refl _ V0).drewN 1).trans (K3.trans FIN.out.2)))
    all_goals clear c1 fr B3 K3
    all_goals go_wp2_with fail
    all_goals refine AD.out.mono ?_
    all_goals rintro e w' ⟨rfl, ew⟩
    all_goals obtain rfl := ew.symm
    all_goals go_wp2_with fail
    all_goals go_ret
    all_goals exact ⟨rfl, FIN.out.1, K4.out⟩
  · rw [spd_no q]
    rw [decide_eq_false q] at CN ⊢
    have H := hid h
    clear h q
    go_enter Try.func15, Try.ntmps15
    go_wp2_with fail
    refine CN.out.mono ?_
    rintro e w' ⟨rfl, k, rfl⟩
    go_wp2_with fail
    go_ret
    exact ⟨rfl, H.out.drewN k, (Kept.refl _ w).drewN k⟩

set_option maxHeartbeats 4000000 in
theorem end_any (b : Nat) (s : BS) (w : World) (h : BktV w b s) : Calls Try.prog 17 #[.pointer (some ⟨b, 0, none⟩)] w fun e w' => e = .returned (.tuple #[]) ∧ BktV w' b (fin s) ∧ Kept (fun q => q ≠ b) w w' := by
  have sz := h.1.1
  have WH := hid (fun V => whole_of (n := s.1) (by omega) (by omega) V)
  have EM : Hid ((if s.1 * 4294967296 < s.2.1 then s.1 * 4294967296 else s.2.1) = cap (s.1 * 4294967296) s.2.1) := rfl
  have FT : Hid (Fit (s.1, cap (s.1 * 4294967296) s.2.1, s.2.2)) := fin_fit h.1
  rw [show fin s = (s.1, cap (s.1 * 4294967296) s.2.1, s.2.2) from rfl]
  have H := hid h
  have HB : Hid (BktV w.drew b s) := h.drewN 1
  clear h
  generalize cap (s.1 * 4294967296) s.2.1 = x at *
  generalize s.1 * 4294967296 = y at *
  have c1 := HB.out.c1
  have fr := HB.out.free 1
  have FIN := hid (HB.out.put1 FT.out)
  go_enter Try.func17, Try.ntmps17
  go_wp2_with fail
  refine wp_region_held_drew (S := fun V => V.cell? ⟨b, 0, none⟩ = some (.int .i64 s.1)) (by kernel_rfl) HB.out.c0 (fun hHeld => ?_)
  refine takeE (v := ?_) 0 2 rfl rfl (by kernel_rfl) (by kernel_rfl) (by kernel_rfl) (fun _ _ _ h => h) (Or.inl ⟨by rfl, fun V hV => ?_⟩) hHeld ?_
  rotate_left
  · (go_simp; try with_reducible rfl)
  simp only [Act.put, List.setIfInBounds_toArray, List.set_cons_zero, List.set_cons_succ]
  refine takeE (v := ?_) 1 3 rfl rfl (by kernel_rfl) (by kernel_rfl) (by kernel_rfl) (fun _ _ _ h => h) (Or.inl ⟨by rfl, fun V hV => ?_⟩) hHeld ?_
  rotate_left
  · (go_simp; try with_reducible rfl)
  simp only [Act.put, List.setIfInBounds_toArray, List.set_cons_zero, List.set_cons_succ]
  refine takeE (v := ?_) 2 4 rfl rfl (by kernel_rfl) (by kernel_rfl) (by kernel_rfl) (fun _ _ _ h => h) (Or.inl ⟨by rfl, fun V hV => ?_⟩) hHeld ?_
  rotate_left
  · (go_simp; try with_reducible rfl)
  simp only [Act.put, List.setIfInBounds_toArray, List.set_cons_zero, List.set_cons_succ]
  refine takeE (v := ?_) 3 5 rfl rfl (by kernel_rfl) (by kernel_rfl) (by kernel_rfl) (fun _ _ _ h => h) (Or.inl ⟨by rfl, fun V hV => ?_⟩) hHeld ?_
  rotate_left
  · (go_simp; try with_reducible rfl)
  simp only [Act.put, List.setIfInBounds_toArray, List.set_cons_zero, List.set_cons_succ]
  refine takeE (v := ?_) 5 7 rfl rfl (by kernel_rfl) (by kernel_rfl) (by kernel_rfl) (fun _ _ _ h => h) (Or.inl ⟨by rfl, fun V hV => ?_⟩) hHeld ?_
  rotate_left
  · (go_simp; try with_reducible rfl)
  simp only [Act.put, List.setIfInBounds_toArray, List.set_cons_zero, List.set_cons_succ]
  refine takeE (v := ?_) 6 8 rfl rfl (by kernel_rfl) (by kernel_rfl) (by kernel_rfl) (fun _ _ _ h => h) (Or.inl ⟨by rfl, fun V hV => ?_⟩) hHeld ?_
  rotate_left
  · (go_simp; try with_reducible rfl)
  simp only [Act.put, List.setIfInBounds_toArray, List.set_cons_zero, List.set_cons_succ]
  refine takeE (v := ?_) 7 9 rfl rfl (by kernel_rfl) (by kernel_rfl) (by kernel_rfl) (fun _ _ _ h => h) (Or.inl ⟨by rfl, fun V hV => ?_⟩) hHeld ?_
  rotate_left
  · (go_simp; try with_reducible rfl)
  simp only [Act.put, List.setIfInBounds_toArray, List.set_cons_zero, List.set_cons_succ]
  refine takeE (v := ?_) 8 10 rfl rfl (by kernel_rfl) (by kernel_rfl) (by kernel_rfl) (fun _ _ _ h => h) (Or.inl ⟨by rfl, fun V hV => ?_⟩) hHeld ?_
  rotate_left
  · (have y0 := hV; go_simp; try with_reducible rfl)
  simp only [Act.put, List.setIfInBounds_toArray, List.set_cons_zero, List.set_cons_succ]
  refine loadCallE 4 6 9 11 rfl rfl rfl rfl (by kernel_rfl) (by rfl) (by rfl) (v := .int .u64 s.2.1) (by go_simp; try with_reducible rfl) (by go_simp; first | exact ⟨rfl, rfl⟩ | rfl) hHeld ?lA ?lB
  case' lA =>
    simp only [Act.put, List.setIfInBounds_toArray, List.set_cons_zero, List.set_cons_succ]
    refine callE 9 11 rfl rfl (by kernel_rfl) (by rfl) (by go_simp; first | exact ⟨rfl, rfl⟩ | rfl) ?_
    refine (WH.out _).mono ?_
    rintro e w' ⟨rfl, ew⟩
    obtain rfl := ew.symm
    refine ⟨_, rfl, hHeld, ?_⟩
    simp only [Act.put, List.setIfInBounds_toArray, List.set_cons_zero, List.set_cons_succ]
  case' lB =>
    refine (WH.out _).mono ?_
    rintro e w' ⟨rfl, ew⟩
    obtain rfl := ew.symm
    refine ⟨_, rfl, hHeld, ?_⟩
    simp only [Act.put, List.setIfInBounds_toArray, List.set_cons_zero, List.set_cons_succ]
    refine knownE 4 6 (v := .int .u64 s.2.1) rfl rfl (by kernel_rfl) (by rfl) (by go_simp; try with_reducible rfl) hHeld ?_
    simp only [Act.put, List.setIfInBounds_toArray, List.set_cons_zero, List.set_cons_succ]
  all_goals (
    refine takeE (v := .int .u64 x) 10 12 rfl rfl (by kernel_rfl) (by kernel_rfl) (by kernel_rfl) (fun _ _ _ h => h) (Or.inl ⟨by rfl, fun V hV => ?_⟩) hHeld ?_
    · (go_simp; exact EM.out)
    simp only [Act.put, List.setIfInBounds_toArray, List.set_cons_zero, List.set_cons_succ])
  all_goals (
    refine takeE (v := ?_) 11 13 rfl rfl (by kernel_rfl) (by kernel_rfl) (by kernel_rfl) (fun _ _ _ h => h) (Or.inl ⟨by rfl, fun V hV => ?_⟩) hHeld ?_
    rotate_left
    · (go_simp; try with_reducible rfl)
    simp only [Act.put, List.setIfInBounds_toArray, List.set_cons_zero, List.set_cons_succ])
  all_goals (
    refine takeE (v := ?_) 12 14 rfl rfl (by kernel_rfl) (by kernel_rfl) (by kernel_rfl) (fun _ _ _ h => h) (Or.inl ⟨by rfl, fun V hV => ?_⟩) hHeld ?_
    rotate_left
    · (go_simp; try with_reducible rfl)
    simp only [Act.put, List.setIfInBounds_toArray, List.set_cons_zero, List.set_cons_succ])
  all_goals refine storeE 13 rfl (by kernel_rfl) (by rfl) (w' := w.drew.setCell ⟨b, 1, none⟩ (.int .u64 x)) (by go_simp; try with_reducible rfl) FIN.out.1.c0 ?_
  all_goals simp only [Act.put]
  all_goals refine wpAnyH_done (by kernel_rfl) ?_ _
  all_goals have K4 : Hid (Kept (fun q => q ≠ b) w (w.drew.setCell ⟨b, 1, none⟩ (.int .u64 x))) := (show Kept (fun q => q ≠ b) w w.drew from (Kept.refl _ w).drewN 1).trans FIN.out.2
  all_goals generalize w.drew.setCell ⟨b, 1, none⟩ (.int .u64 x) = V3 at *
  all_goals clear c1 fr
  all_goals go_wp2_with fail
  all_goals refine bodyPost_end (results_none Try.results17 _ _ _) rfl ?_
  all_goals exact ⟨rfl, FIN.out.1, K4.out⟩

set_option maxHeartbeats 4000000 in
theorem copy_any (b : Nat) (s : BS) (w : World) (h : BktV w b s) : Calls Try.prog 23 #[.pointer (some ⟨b, 0, none⟩)] w fun e w' => ∃ g, e = .returned (.pointer (some ⟨g, 0, none⟩)) ∧ BktV w' g s ∧ w.heap.size ≤ g ∧ Ext w w' := by
  have c0 := h.c0
  have c1 := h.c1
  obtain ⟨V0, e0⟩ : ∃ V0, V0 = (w.alloc (.cells #[.int .i64 s.1, .int .u64 s.2.1, .int .i64 0] 62)).drew := ⟨_, rfl⟩
  obtain ⟨g, eg⟩ : ∃ g, g = w.heap.size := ⟨_, rfl⟩
  have XX : Hid (Ext w V0) := by rw [e0]; exact ((Ext.refl w).alloc _).drewN 1
  have HA : Hid (BktV V0.drew b s) := (h.ext XX.out).drewN 1
  have HC : Hid (BktV V0.drew g (s.1, s.2.1, 0)) := by
    refine ⟨⟨h.1.1, h.1.2.1, nm0⟩, ?_⟩
    rw [e0, eg]
    exact heap_alloc_new w _
  have FIN := hid (HC.out.put2 (x := s.2.2) h.1)
  have LG : Hid (w.heap.size ≤ g) := (show w.heap.size ≤ g by omega)
  have E0 := hid e0
  have EG := hid eg
  have LD := hid (word_load ⟨b, 2, none⟩ s.2.2 V0.drew HA.out.c2)
  have ST := hid (word_store ⟨g, 2, none⟩ _ s.2.2 V0.drew HC.out.c2 (HC.out.free 2))
  clear e0 eg h
  go_enter Try.func23, Try.ntmps23
  go_wp2_with fail
  go_region
  rw [← E0.out, ← EG.out]
  go_wp2_with fail
  clear c0 c1
  have hHeld := True.intro
  refine wp_region_held_drew (S := fun _ => True) (by kernel_rfl) hHeld (fun hHeld => ?_)
  refine takeE (v := ?_) 0 14 rfl rfl (by kernel_rfl) (by kernel_rfl) (by kernel_rfl) (fun _ _ _ h => h) (Or.inl ⟨by rfl, fun V hV => ?_⟩) hHeld ?_
  rotate_left
  · (go_simp; try with_reducible rfl)
  simp only [Act.put, List.setIfInBounds_toArray, List.set_cons_zero, List.set_cons_succ]
  refine takeE (v := ?_) 1 15 rfl rfl (by kernel_rfl) (by kernel_rfl) (by kernel_rfl) (fun _ _ _ h => h) (Or.inl ⟨by rfl, fun V hV => ?_⟩) hHeld ?_
  rotate_left
  · (go_simp; try with_reducible rfl)
  simp only [Act.put, List.setIfInBounds_toArray, List.set_cons_zero, List.set_cons_succ]
  refine takeE (v := ?_) 2 16 rfl rfl (by kernel_rfl) (by kernel_rfl) (by kernel_rfl) (fun _ _ _ h => h) (Or.inl ⟨by rfl, fun V hV => ?_⟩) hHeld ?_
  rotate_left
  · (go_simp; try with_reducible rfl)
  simp only [Act.put, List.setIfInBounds_toArray, List.set_cons_zero, List.set_cons_succ]
  refine takeE (v := ?_) 3 17 rfl rfl (by kernel_rfl) (by kernel_rfl) (by kernel_rfl) (fun _ _ _ h => h) (Or.inl ⟨by rfl, fun V hV => ?_⟩) hHeld ?_
  rotate_left
  · (go_simp; try with_reducible rfl)
  simp only [Act.put, List.setIfInBounds_toArray, List.set_cons_zero, List.set_cons_succ]
  refine takeE (v := ?_) 4 18 rfl rfl (by kernel_rfl) (by kernel_rfl) (by kernel_rfl) (fun _ _ _ h => h) (Or.inl ⟨by rfl, fun V hV => ?_⟩) hHeld ?_
  rotate_left
  · (go_simp; try with_reducible rfl)
  simp only [Act.put, List.setIfInBounds_toArray, List.set_cons_zero, List.set_cons_succ]
  refine takeE (v := ?_) 5 19 rfl rfl (by kernel_rfl) (by kernel_rfl) (by kernel_rfl) (fun _ _ _ h => h) (Or.inl ⟨by rfl, fun V hV => ?_⟩) hHeld ?_
  rotate_left
  · (go_simp; try with_reducible rfl)
  simp only [Act.put, List.setIfInBounds_toArray, List.set_cons_zero, List.set_cons_succ]
  refine callE 6 20 rfl rfl (by kernel_rfl) (by rfl) (by go_simp; first | exact ⟨rfl, rfl⟩ | rfl) ?_
  refine LD.out.mono ?_
  rintro e w' ⟨rfl, ew⟩
  obtain rfl := ew.symm
  refine ⟨_, rfl, hHeld, ?_⟩
  simp only [Act.put, List.setIfInBounds_toArray, List.set_cons_zero, List.set_cons_succ]
  refine callE 7 21 rfl rfl (by kernel_rfl) (by rfl) (by go_simp; first | exact ⟨rfl, rfl⟩ | rfl) ?_
  refine ST.out.mono ?_
  rintro e w' ⟨rfl, ew⟩
  obtain rfl := ew.symm
  refine ⟨_, rfl, hHeld, ?_⟩
  simp only [Act.put, List.setIfInBounds_toArray, List.set_cons_zero, List.set_cons_succ]
  refine wpAnyH_done (by kernel_rfl) ?_ _
  have K4 : Hid (Ext w (V0.drew.setCell ⟨g, 2, none⟩ (.int .i64 s.2.2))) := (show Ext w V0.drew from XX.out.drewN 1).setCell LG.out _
  generalize V0.drew.setCell ⟨g, 2, none⟩ (.int .i64 s.2.2) = V3 at *
  go_wp2_with fail
  go_ret
  exact ⟨_, rfl, FIN.out.1, LG.out, K4.out⟩

/-! ### rates in a row; Most -/
def ru (x : Int) : List Value := [.int .u64 x]
theorem encU : Enc ru 1 := ⟨by decide, fun _ => rfl, fun x u h => by
  simp only [ru, List.mem_cons, List.not_mem_nil, or_false] at h
  subst h; rfl⟩
/-- the rates, added to a -/
def msum (a : Int) (l : List Int) : Int := l.foldl wadd a
theorem msum_take {a : Int} {l : List Int} {k : Nat} {n : Int} (h : l[k]? = some n) : msum a (l.take (k + 1)) = wadd (msum a (l.take k)) n := by
  rw [List.take_add_one, h]
  unfold msum
  rw [List.foldl_append]; rfl
theorem msum_room {a : Int} (ha : Wd a) : ∀ l : List Int, (∀ x ∈ l, Wd x) → Wd (msum a l)
  | [], _ => ha
  | x :: l, h => msum_room (wadd_room ha (h x (by simp))).1 l (fun y hy => h y (by simp [hy]))
theorem row_one {K : Nat → Prop} {w : World} {v : Value} {l : List Int} (h : RowK K w v 1 (fcells ru l)) : ∃ ao c, v = .slice ao l.length c ∧ l.length ≤ c ∧ c ≤ maxLen ∧ ∀ k x, l[k]? = some x → ∃ g o, ao = some ⟨g, o, none⟩ ∧ w.cell? ⟨g, o + k, none⟩ = some (.int .u64 x) := by
  obtain ⟨ao, n, c, rfl, h1, h2, h3, h4⟩ := h
  rw [fcells_length encU] at h1
  obtain rfl : l.length = n := by omega
  refine ⟨ao, c, rfl, h2, h3, fun k x hk => ?_⟩
  have kl := (List.getElem?_eq_some_iff.1 hk).1
  obtain ⟨g, o, ea, hg, hc⟩ := h4 (by omega)
  have := hc (k * 1 + 0) _ (fcells_at encU hk (j := 0) (by decide))
  rw [Nat.mul_one, Nat.add_zero] at this
  exact ⟨g, o, ea, this⟩

set_option maxHeartbeats 4000000 in
theorem most_any {K : Nat → Prop} (v : Value) (l : List Int) (n : Int) (w : World) (h : RowK K w v 1 (fcells ru l)) (hl : ∀ x ∈ l, Wd x) (h0 : 0 ≤ n) (h1 : n ≤ 1048576) : Calls Try.prog 20 #[v, .int .i64 n] w fun e w' => e = .returned (.int .u64 (msum (n * 4294967296) l / 4294967296)) ∧ w' = w := by
  obtain ⟨ao, cp, rfl, k1, k2, CC⟩ := row_one h
  have WH := hid (whole_of h0 h1 w)
  have GET : Hid (∀ k, k < l.length → ∃ q : Int, l[k]? = some q) := fun k hk => ⟨_, List.getElem?_eq_getElem hk⟩
  have NW : Wd (n * 4294967296) := by unfold Wd; omega
  have ROOM : Hid (∀ k, Wd (msum (n * 4294967296) (l.take k))) := fun k => msum_room NW _ (fun x hx => hl x (List.mem_of_mem_take hx))
  have STP : Hid (∀ k q, l[k]? = some q → msum (n * 4294967296) (l.take (k + 1)) = wadd (msum (n * 4294967296) (l.take k)) q ∧ Wd q ∧ ∃ g o, ao = some ⟨g, o, none⟩ ∧ w.cell? ⟨g, o + k, none⟩ = some (.int .u64 q)) := fun k q hk => ⟨msum_take hk, hl q (List.mem_of_getElem? hk), CC k q hk⟩
  have Z0 : Hid (n * 4294967296 = msum (n * 4294967296) (l.take 0)) := rfl
  obtain ⟨N, eN⟩ : ∃ N, N = l.length := ⟨_, rfl⟩
  have ZN : Hid (msum (n * 4294967296) (l.take N) = msum (n * 4294967296) l) := by show _ = _; rw [eN, List.take_length]
  rw [← eN] at GET k1 ⊢
  unfold maxLen at k2
  clear h CC hl eN NW
  generalize n * 4294967296 = a at *
  go_enter Try.func20, Try.ntmps20
  go_wp2_with fail
  refine WH.out.mono ?_
  rintro e w' ⟨rfl, ew⟩
  obtain rfl : w = w' := ew.symm
  go_wp2_with fail
  go_loopw [5, 7, 12] (fun sv _ iv wr => ∃ k : Nat, k ≤ N ∧ iv = .int .i64 (k : Int) ∧ sv = .int .u64 (msum a (l.take k)) ∧ wr = w) (fun _ _ iv _ => (N - RowKit.intOf iv).toNat)
  case atStart => exact ⟨0, by omega, rfl, by rw [← Z0.out], rfl⟩
  case round =>
    obtain ⟨k, hk, rfl, rfl, rfl⟩ := hrel
    have R0 := ROOM.out k
    by_cases q : k < N
    · have i1 : (k : Int) < (N : Int) := by omega
      have i2 : (0 : Int) ≤ (k : Int) := by omega
      obtain ⟨x, ex⟩ := GET.out k q
      obtain ⟨e1, wx, g0, q0, rfl, cc⟩ := STP.out k x ex
      have AD := hid (fun V => add_word R0 wx V)
      rw [← e1] at AD
      clear e1 wx ex R0
      obtain ⟨m, em⟩ : ∃ m, m = msum a (l.take k) := ⟨_, rfl⟩
      rw [← em] at AD ⊢
      obtain ⟨m2, em2⟩ : ∃ m, m = msum a (l.take (k + 1)) := ⟨_, rfl⟩
      rw [← em2] at AD
      have EM := hid em2
      clear em em2
      go_wp2_with fail
      refine (AD.out _).mono ?_
      rintro e w' ⟨rfl, ew⟩
      obtain rfl := ew.symm
      go_wp2_with fail
      go_roundw
      case rel => exact ⟨k + 1, by omega, by go_num, by rw [EM.out], trivial⟩
      case measure => simp [RowKit.intOf]; omega
    · obtain rfl : N = k := by omega
      rw [ZN.out] at R0 ⊢
      have WO := hid (fun V => whole_any (msum a l) R0.1 (by have := R0.2; omega) V)
      clear ROOM GET STP Z0 ZN
      have r1 : 0 ≤ msum a l / 4294967296 := by have := R0.1; omega
      have r2 : msum a l / 4294967296 < 4294967296 := by have := R0.2; omega
      obtain ⟨z2, ez2⟩ : ∃ z2, z2 = msum a l / 4294967296 := ⟨_, rfl⟩
      rw [← ez2] at WO r1 r2
      have EZ := hid ez2
      clear ez2
      obtain ⟨z, ez⟩ : ∃ z, z = msum a l := ⟨_, rfl⟩
      rw [← ez] at WO ⊢
      clear ez R0
      go_wp2_with fail
      refine (WO.out _).mono ?_
      rintro e w' ⟨rfl, ew⟩
      obtain rfl := ew.symm
      go_wp2_with fail
      go_ret
      exact ⟨ret_int EZ.out, rfl⟩

/-! ### the reference -/
theorem radd_any {a b : Int} (ha : Wd a) (hb : Wd b) (w : World) : Calls Try.prog 12 #[.int .u64 a, .int .u64 b] w fun e w' => e = .returned (.int .u64 (wadd a b)) ∧ w' = w := by
  obtain ⟨a0, a1⟩ := ha
  obtain ⟨b0, b1⟩ := hb
  by_cases q : 18446744073709551615 - b < a
  · rw [show wadd a b = 18446744073709551615 from by unfold wadd; rw [if_pos q]]
    go_enter Try.func12, Try.ntmps12
    go_wp2_with fail
    go_ret
    exact ⟨rfl, rfl⟩
  · rw [show wadd a b = a + b from by unfold wadd; rw [if_neg q]]
    go_enter Try.func12, Try.ntmps12
    go_wp2_with fail
    go_ret
    exact ⟨rfl, rfl⟩

theorem rspend_yes {s : BS} {n : Int} (h : Fit s) (q : Can s n) (w : World) : Calls Try.prog 13 #[.int .u64 s.2.1, .int .i64 s.1, .int .i64 n] w fun e w' => e = .returned (.tuple #[.int .u64 (s.2.1 - n * 4294967296), .bool true]) ∧ w' = w := by
  obtain ⟨⟨h1, h2⟩, ⟨h3, h4⟩, -⟩ := h
  obtain ⟨q1, q2, q3⟩ := q
  have d1 : ¬ n < 1 := by omega
  have d2 : ¬ s.1 < n := by omega
  have d3 : ¬ s.2.1 / 4294967296 < n := by omega
  go_enter Try.func13, Try.ntmps13
  go_wp2_with fail
  go_ret2
  exact ⟨rfl, rfl⟩

theorem rspend_no {s : BS} {n : Int} (h : Fit s) (q : ¬ Can s n) (w : World) : Calls Try.prog 13 #[.int .u64 s.2.1, .int .i64 s.1, .int .i64 n] w fun e w' => e = .returned (.tuple #[.int .u64 s.2.1, .bool false]) ∧ w' = w := by
  obtain ⟨⟨h1, h2⟩, ⟨h3, h4⟩, -⟩ := h
  by_cases q1 : n < 1
  case' pos => clear q
  case' neg =>
    by_cases q2 : s.1 < n
    case' pos => clear q
    case' neg =>
      have q3 : s.2.1 / 4294967296 < n := by unfold Can at q; omega
      have q4 : 0 ≤ n := by omega
      have q5 : n ≤ 320 := by omega
      clear q
  all_goals
    go_enter Try.func13, Try.ntmps13
    go_wp2_with fail
    go_ret2
    exact ⟨rfl, rfl⟩

theorem rspend_any {s : BS} (n : Int) (h : Fit s) (w : World) : Calls Try.prog 13 #[.int .u64 s.2.1, .int .i64 s.1, .int .i64 n] w fun e w' => e = .returned (.tuple #[.int .u64 (spd s n).2.1, .bool (decide (Can s n))]) ∧ w' = w := by
  by_cases q : Can s n
  · rw [spd_yes q, decide_eq_true q]
    exact rspend_yes h q w
  · rw [spd_no q, decide_eq_false q]
    exact rspend_no h q w

theorem rend_any {s : BS} (h : Fit s) (w : World) : Calls Try.prog 18 #[.int .u64 s.2.1, .int .i64 s.1] w fun e w' => e = .returned (.int .u64 (fin s).2.1) ∧ w' = w := by
  obtain ⟨⟨h1, h2⟩, ⟨h3, h4⟩, -⟩ := h
  by_cases q : s.1 * 4294967296 < s.2.1
  · rw [show (fin s).2.1 = s.1 * 4294967296 from by unfold fin cap; simp only; rw [if_pos q]]
    go_enter Try.func18, Try.ntmps18
    go_wp2_with fail
    go_ret
    exact ⟨rfl, rfl⟩
  · rw [show (fin s).2.1 = s.2.1 from by unfold fin cap; simp only; rw [if_neg q]]
    go_enter Try.func18, Try.ntmps18
    go_wp2_with fail
    go_ret
    exact ⟨rfl, rfl⟩
end Go.Proofs.Ytadgkhdjjnkfcaa.Bkt

/-
  A detector in memory; walks of isLayer, isTick, within, New, History, Begin, Expects, Forget, lost, isEvent.
-/
import Derived.Test.YtlglhggfhlpbjaaDetState
import Derived.Test.YtlglhggfhlpbjaaHisCopy
import Derived.Test.YtlglhggfhlpbjaaStoreCore
namespace Go.Proofs.Ytlglhggfhlpbjaa.Det
set_option linter.unusedVariables false
set_option maxRecDepth 100000
open Go.RowKit Go.Lib Go.Proofs.Ytlglhggfhlpbjaa.His

/-- the number that is told, and whether one is expected -/
def exs (x : Int) : Int := if x < 0 then 0 else x
def exi (x : Int) : Bool := decide (0 ≤ x)
def exc (x : Int) : List Value := [.int .u32 (exs x), .bool (exi x)]
theorem exs_pos {x : Int} (h : 0 ≤ x) : exs x = x := by unfold exs; omega
theorem exi_pos {x : Int} (h : 0 ≤ x) : exi x = true := decide_eq_true h
theorem exs_neg {x : Int} (h : x < 0) : exs x = 0 := by unfold exs; omega
theorem exi_neg {x : Int} (h : x < 0) : exi x = false := decide_eq_false (by omega)
theorem exc_one (x : Int) : ∀ v ∈ exc x, v.oneCell' = true := by
  intro v hv
  simp only [exc, List.mem_cons, List.not_mem_nil, or_false] at hv
  rcases hv with e | e <;> (subst e; rfl)

/-- a detector's cells -/
def dlist (h : Nat) (s : DS) : List Value :=
  [.int .u32 (exs (s.1.getD 0 (-1))), .bool (exi (s.1.getD 0 (-1))), .int .u32 (exs (s.1.getD 1 (-1))), .bool (exi (s.1.getD 1 (-1))), .int .u32 (exs (s.1.getD 2 (-1))), .bool (exi (s.1.getD 2 (-1))), .int .u32 (exs (s.1.getD 3 (-1))), .bool (exi (s.1.getD 3 (-1))), .int .u32 (exs (s.1.getD 4 (-1))), .bool (exi (s.1.getD 4 (-1))), .int .u32 (exs (s.1.getD 5 (-1))), .bool (exi (s.1.getD 5 (-1))), .int .u32 (exs (s.1.getD 6 (-1))), .bool (exi (s.1.getD 6 (-1))), .int .u32 (exs (s.1.getD 7 (-1))), .bool (exi (s.1.getD 7 (-1))), .pointer (some ⟨h, 0, none⟩), .int .i64 s.2.2.1, .bool s.2.2.2.1, .int .i64 s.2.2.2.2]
def drow (h : Nat) (s : DS) : Array Value := (dlist h s).toArray
theorem d_len (h : Nat) (s : DS) : (dlist h s).length = 20 := rfl
theorem d_num (h : Nat) (s : DS) (k : Nat) (hk : k < 8) : (dlist h s)[k * 2]? = some (.int .u32 (exs (s.1.getD k (-1)))) := by
  match k, hk with
  | 0, _ | 1, _ | 2, _ | 3, _ | 4, _ | 5, _ | 6, _ | 7, _ => rfl
theorem d_is (h : Nat) (s : DS) (k : Nat) (hk : k < 8) : (dlist h s)[k * 2 + 1]? = some (.bool (exi (s.1.getD k (-1)))) := by
  match k, hk with
  | 0, _ | 1, _ | 2, _ | 3, _ | 4, _ | 5, _ | 6, _ | 7, _ => rfl
theorem d_put (h : Nat) (s : DS) (k : Nat) (v : Int) (hk : k < 8) (hn : s.1.length = 8) : splice (dlist h s) (k * 2) (exc v) = dlist h (s.1.set k v, s.2) := by
  obtain ⟨nx, r⟩ := s
  match nx, hn with
  | [a0, a1, a2, a3, a4, a5, a6, a7], _ =>
    match k, hk with
    | 0, _ | 1, _ | 2, _ | 3, _ | 4, _ | 5, _ | 6, _ | 7, _ => rfl

/-- a detector at b, its history at h -/
def DetV (w : World) (b h : Nat) (s : DS) : Prop := FitD s ∧ w.heap[b]? = some (.cells (drow h s) 56 (0, 0)) ∧ HisV w h s.2.1.1 s.2.1.2 ∧ b ≠ h
theorem DetV.cell {w : World} {b h : Nat} {s : DS} (d : DetV w b h s) (i : Nat) (v : Value) (hv : (dlist h s)[i]? = some v) : w.cell? ⟨b, i, none⟩ = some v := by
  rw [cell_of_row _ _ i _ _ _ d.2.1]
  unfold drow
  rw [List.getElem?_toArray]
  exact hv
theorem DetV.range {w : World} {b h : Nat} {s : DS} (d : DetV w b h s) (k : Nat) (hk : k < 8) : w.rangeAt b (k * 2) (exc (s.1.getD k (-1))) := fun j v hv => by
  match j, hv with
  | 0, hv =>
    obtain rfl : _ = v := Option.some.inj hv
    exact d.cell _ _ (d_num h s k hk)
  | 1, hv =>
    obtain rfl : _ = v := Option.some.inj hv
    exact d.cell _ _ (d_is h s k hk)
  | j + 2, hv => simp [exc] at hv
theorem DetV.free {w : World} {b h : Nat} {s : DS} (d : DetV w b h s) (i : Nat) : w.frozen? ⟨b, i, none⟩ = false := frozen_of_row _ _ _ _ _ d.2.1
theorem DetV.lt {w : World} {b h : Nat} {s : DS} (d : DetV w b h s) : b < w.heap.size ∧ h < w.heap.size := ⟨lt_of_row d.2.1, d.2.2.1.lt⟩
theorem DetV.kept {K : Nat → Prop} {w w' : World} {b h : Nat} {s : DS} (d : DetV w b h s) (k : Kept K w w') (hb : K b) (hh : K h) : DetV w' b h s := ⟨d.1, k.row hb d.2.1, d.2.2.1.kept k hh, d.2.2.2⟩
theorem DetV.ext {w w' : World} {b h : Nat} {s : DS} (d : DetV w b h s) (e : Ext w w') : DetV w' b h s := ⟨d.1, e.row d.2.1, d.2.2.1.ext e, d.2.2.2⟩
/-- its history turned -/
theorem DetV.his {w w' : World} {b h : Nat} {s : DS} (d : DetV w b h s) (k : Kept (fun q => q ≠ h) w w') {o : Int} {l : List Int} (v : HisV w' h o l) : DetV w' b h (s.1, (o, l), s.2.2) :=
  ⟨⟨d.1.1, d.1.2.1, v.1, d.1.2.2.2⟩, k.row d.2.2.2 d.2.1, v, d.2.2.2⟩
/-- its own row turned -/
theorem DetV.own {w : World} {b h : Nat} {s s' : DS} (d : DetV w b h s) (F : FitD s') (e : s'.2.1 = s.2.1) (cs : Array Value) (ec : cs = drow h s') : DetV (w.setRow b cs) b h s' ∧ Kept (fun q => q ≠ b) w (w.setRow b cs) := by
  have k : Kept (fun q => q ≠ b) w (w.setRow b cs) := (Kept.refl _ w).setRow (fun hne => hne rfl) cs
  refine ⟨⟨F, ?_, ?_, d.2.2.2⟩, k⟩
  · rw [ec]; exact setRow_heap _ _ _ _ _ _ d.2.1
  · rw [e]; exact d.2.2.1.kept k (fun q => d.2.2.2 q.symm)
theorem DetV.put {w : World} {b h : Nat} {s s' : DS} (d : DetV w b h s) (i : Nat) (v : Value) (F : FitD s') (e : s'.2.1 = s.2.1) (ec : (drow h s).setIfInBounds i v = drow h s') : DetV (w.setCell ⟨b, i, none⟩ v) b h s' ∧ Kept (fun q => q ≠ b) w (w.setCell ⟨b, i, none⟩ v) := by
  rw [setCell_eq_setRow _ _ _ _ _ _ _ d.2.1]
  exact d.own F e _ ec
theorem size_ex : (Try.prog.info? 51).map (·.size) = some 2 := by kernel_rfl

theorem isLayer_any (n : Int) (w : World) : Calls Try.prog 23 #[.int .i64 n] w fun e w' => e = .returned (.bool (decide (0 ≤ n) && decide (n < 8))) ∧ w' = w := by
  by_cases q : 0 ≤ n
  · go_enter Try.func23, Try.ntmps23
    go_wp2_with fail
    go_ret
    exact ⟨by rw [decide_eq_true q, Bool.true_and]; rfl, rfl⟩
  · go_enter Try.func23, Try.ntmps23
    go_wp2_with fail
    go_ret
    exact ⟨by rw [decide_eq_false (show ¬ 0 ≤ n by omega), Bool.false_and]; rfl, rfl⟩

theorem isTick_any (n : Int) (w : World) : Calls Try.prog 24 #[.int .i64 n] w fun e w' => e = .returned (.bool (decide (0 ≤ n) && decide (n ≤ 1099511627776))) ∧ w' = w := by
  by_cases q : 0 ≤ n
  · go_enter Try.func24, Try.ntmps24
    go_wp2_with fail
    go_ret
    exact ⟨by rw [decide_eq_true q, Bool.true_and]; rfl, rfl⟩
  · go_enter Try.func24, Try.ntmps24
    go_wp2_with fail
    go_ret
    exact ⟨by rw [decide_eq_false (show ¬ 0 ≤ n by omega), Bool.false_and]; rfl, rfl⟩

theorem within_any (n : Int) (w : World) : Calls Try.prog 12 #[.int .i64 n] w fun e w' => e = .returned (.bool (decide (0 ≤ n) && decide (n ≤ 1099511627776))) ∧ w' = w := by
  by_cases q : 0 ≤ n
  · go_enter Try.func12, Try.ntmps12
    go_wp2_with fail
    go_ret
    exact ⟨by rw [decide_eq_true q, Bool.true_and]; rfl, rfl⟩
  · go_enter Try.func12, Try.ntmps12
    go_wp2_with fail
    go_ret
    exact ⟨by rw [decide_eq_false (show ¬ 0 ≤ n by omega), Bool.false_and]; rfl, rfl⟩

theorem newDet_any (w : World) : Calls Try.prog 7 #[] w fun e w' => ∃ b h, e = .returned (.pointer (some ⟨b, 0, none⟩)) ∧ DetV w' b h dnew ∧ w.heap.size ≤ b ∧ w.heap.size ≤ h ∧ Ext w w' := by
  have NW := hid (His.new_any w)
  go_enter Try.func7, Try.ntmps7
  go_wp2_with fail
  refine NW.out.mono ?_
  rintro e w1 ⟨h, rfl, h1, hb, x1⟩
  have H := hid h1
  have X := hid x1
  have HB := hid hb
  clear NW h1 x1 hb
  go_wp2_with fail
  go_ret
  refine ⟨_, h, rfl, ⟨fit_new, heap_alloc_new w1 _, H.out.ext ((Ext.refl w1).alloc _), ?_⟩, X.out.size, HB.out, X.out.alloc _⟩
  have := H.out.lt
  omega

theorem history_any (b h : Nat) (s : DS) (w : World) (d : DetV w b h s) : Calls Try.prog 17 #[.pointer (some ⟨b, 0, none⟩)] w fun e w' => e = .returned (.pointer (some ⟨h, 0, none⟩)) ∧ w' = w := by
  have c16 := d.cell 16 _ rfl
  clear d
  go_enter Try.func17, Try.ntmps17
  go_wp2_with fail
  go_ret
  exact ⟨rfl, rfl⟩

theorem begin_any (b h : Nat) (s : DS) (w : World) (d : DetV w b h s) : Calls Try.prog 22 #[.pointer (some ⟨b, 0, none⟩)] w fun e w' => e = .returned (.tuple #[.int .i64 s.2.2.1, .bool s.2.2.2.1]) ∧ Ext w w' := by
  have c17 := d.cell 17 _ rfl
  have c18 := d.cell 18 _ rfl
  obtain ⟨nx, hs, bg, sm, ls⟩ := s
  simp only at c17 c18 ⊢
  clear d
  have q17 : ∀ n, (w.drewN n).cell? ⟨b, 17, none⟩ = some (.int .i64 bg) := fun n => c17
  have q18 : ∀ n, (w.drewN n).cell? ⟨b, 18, none⟩ = some (.bool sm) := fun n => c18
  go_enter Try.func22, Try.ntmps22
  go_wp2_with fail
  go_quiet (fail)
  go_wp2_with fail
  refine bodyPost_ret (results_tmp2 Try.results22 _ _ _) rfl ?_
  exact ⟨rfl, (Ext.refl w).drewN _⟩

theorem expects_bad (b : Nat) (n : Int) (w : World) (q : n < 0 ∨ 8 ≤ n) : Calls Try.prog 16 #[.pointer (some ⟨b, 0, none⟩), .int .i64 n] w fun e w' => e = .returned (.tuple #[.int .u32 0, .bool false]) ∧ w' = w := by
  have L := isLayer_any n w
  rw [show (decide (0 ≤ n) && decide (n < 8)) = false by simp; omega] at L
  have LL := hid L
  clear L
  go_enter Try.func16, Try.ntmps16
  go_wp2_with fail
  refine LL.out.mono ?_
  rintro e w1 ⟨rfl, rfl⟩
  go_wp2_with fail
  refine bodyPost_ret (results_tmp2 Try.results16 _ _ _) rfl ?_
  exact ⟨rfl, rfl⟩

set_option maxHeartbeats 1000000 in
theorem expects_any (b h : Nat) (s : DS) (k : Nat) (w : World) (d : DetV w b h s) (hk : k < 8) : Calls Try.prog 16 #[.pointer (some ⟨b, 0, none⟩), .int .i64 (k : Int)] w fun e w' => e = .returned (.tuple #[.int .u32 (exs (s.1.getD k (-1))), .bool (exi (s.1.getD k (-1)))]) ∧ Ext w w' := by
  have L := isLayer_any (k : Int) w
  rw [show (decide (0 ≤ (k : Int)) && decide ((k : Int) < 8)) = true by simp; omega] at L
  have LL := hid L
  have RG := hid (d.range k hk)
  have SZ := hid size_ex
  have i1 : (k : Int) < 8 := by omega
  have i2 : (0 : Int) ≤ (k : Int) := by omega
  obtain ⟨x, ex⟩ : ∃ x, x = exs (s.1.getD k (-1)) := ⟨_, rfl⟩
  obtain ⟨y, ey⟩ : ∃ y, y = exi (s.1.getD k (-1)) := ⟨_, rfl⟩
  have RR : Hid (w.rangeAt b (k * 2) [.int .u32 x, .bool y]) := by rw [ex, ey]; exact RG.out
  rw [← ex, ← ey]
  clear L d RG ex ey
  go_enter Try.func16, Try.ntmps16
  go_wp2_with fail
  refine LL.out.mono ?_
  rintro e w1 ⟨rfl, rfl⟩
  go_wp2_with (refine wpList_load_mid rfl 51 _ rfl b (k * 2) rfl _ _ RR.out Try.underlying51 rfl SZ.out ?_)
  go_quiet (fail)
  go_wp2_with fail
  refine bodyPost_ret (results_tmp2 Try.results16 _ _ _) rfl ?_
  exact ⟨rfl, ((Ext.refl w1).alloc _).drewN _⟩
end Go.Proofs.Ytlglhggfhlpbjaa.Det

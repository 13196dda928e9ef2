/-
  A history in memory; walks of New, Packet, Loss, Start, Open, Closed, Copy.
-/
import Derived.Test.YtlglhggfhlpbjaaHisMath
import Derived.Test.YtlglhggfhlpbjaaRowAny
import Derived.Test.YtlglhggfhlpbjaaEverMore
import Derived.Test.YtlglhggfhlpbjaaEitherCore
import Derived.Lib.BufferMore
import Derived.BigRegion
namespace Go.Proofs.Ytlglhggfhlpbjaa.His
set_option linter.unusedVariables false
set_option maxRecDepth 100000
open Go.RowKit Go.Lib

/-- one number as it lies in a cell -/
def one (x : Int) : List Value := [.int .i64 x]
theorem encI : Enc one 1 := ⟨by decide, fun _ => rfl, fun x u h => by
  simp only [one, List.mem_cons, List.not_mem_nil, or_false] at h
  subst h
  rfl⟩
theorem elemsI : Elems 27 3 1 8 (.int .i64 0) := ⟨Try.underlying27, by kernel_rfl, rfl, by decide⟩

/-- a history's cells: the open interval, the closed ones, how many there are -/
def hlist (o : Int) (l : List Int) : List Value := [.int .i64 o, .int .i64 (l.getD 0 0), .int .i64 (l.getD 1 0), .int .i64 (l.getD 2 0), .int .i64 (l.getD 3 0), .int .i64 (l.getD 4 0), .int .i64 (l.getD 5 0), .int .i64 (l.getD 6 0), .int .i64 (l.getD 7 0), .int .i64 (l.length : Int)]
def hrow (o : Int) (l : List Int) : Array Value := (hlist o l).toArray
def HisV (w : World) (b : Nat) (o : Int) (l : List Int) : Prop := Fit o l ∧ w.heap[b]? = some (.cells (hrow o l) 68 (0, 0))
theorem HisV.cell {w : World} {b : Nat} {o : Int} {l : List Int} (h : HisV w b o l) (i : Nat) (v : Value) (hv : (hlist o l)[i]? = some v) : w.cell? ⟨b, i, none⟩ = some v := by
  rw [cell_of_row _ _ i _ _ _ h.2]
  unfold hrow
  rw [List.getElem?_toArray]
  exact hv
theorem HisV.closed {w : World} {b : Nat} {o : Int} {l : List Int} (h : HisV w b o l) (k : Nat) (hk : k < 8) : w.cell? ⟨b, 1 + k, none⟩ = some (.int .i64 (l.getD k 0)) := by
  match k, hk with
  | 0, _ => exact h.cell 1 _ rfl
  | 1, _ => exact h.cell 2 _ rfl
  | 2, _ => exact h.cell 3 _ rfl
  | 3, _ => exact h.cell 4 _ rfl
  | 4, _ => exact h.cell 5 _ rfl
  | 5, _ => exact h.cell 6 _ rfl
  | 6, _ => exact h.cell 7 _ rfl
  | 7, _ => exact h.cell 8 _ rfl
theorem HisV.free {w : World} {b : Nat} {o : Int} {l : List Int} (h : HisV w b o l) (i : Nat) : w.frozen? ⟨b, i, none⟩ = false := frozen_of_row _ _ _ _ _ h.2
theorem HisV.lt {w : World} {b : Nat} {o : Int} {l : List Int} (h : HisV w b o l) : b < w.heap.size := lt_of_row h.2
theorem HisV.kept {K : Nat → Prop} {w w' : World} {b : Nat} {o : Int} {l : List Int} (h : HisV w b o l) (k : Kept K w w') (hb : K b) : HisV w' b o l := ⟨h.1, k.row hb h.2⟩
theorem HisV.ext {w w' : World} {b : Nat} {o : Int} {l : List Int} (h : HisV w b o l) (e : Ext w w') : HisV w' b o l := ⟨h.1, e.row h.2⟩
theorem HisV.put {w : World} {b : Nat} {o o' : Int} {l l' : List Int} (h : HisV w b o l) (i : Nat) (v : Value) (F : Fit o' l') (e : (hrow o l).setIfInBounds i v = hrow o' l') : HisV (w.setCell ⟨b, i, none⟩ v) b o' l' ∧ Kept (fun q => q ≠ b) w (w.setCell ⟨b, i, none⟩ v) := by
  refine ⟨⟨F, ?_⟩, (Kept.refl _ w).setCell (fun hne => hne rfl) _⟩
  rw [setCell_eq_setRow _ _ _ _ _ _ _ h.2, ← e]
  exact setRow_heap _ _ _ _ _ _ h.2

theorem new_any (w : World) : Calls Try.prog 15 #[] w fun e w' => ∃ b, e = .returned (.pointer (some ⟨b, 0, none⟩)) ∧ HisV w' b 0 [] ∧ w.heap.size ≤ b ∧ Ext w w' := by
  go_enter Try.func15, Try.ntmps15
  go_wp2_with fail
  go_ret
  exact ⟨_, rfl, ⟨⟨by decide, by simp, fun x hx => by simp at hx⟩, heap_alloc_new w _⟩, Nat.le_refl _, (Ext.refl w).alloc _⟩

theorem open_any (b : Nat) (o : Int) (l : List Int) (w : World) (h : HisV w b o l) : Calls Try.prog 18 #[.pointer (some ⟨b, 0, none⟩)] w fun e w' => e = .returned (.int .i64 o) ∧ w' = w := by
  have c0 := h.cell 0 _ rfl
  clear h
  go_enter Try.func18, Try.ntmps18
  go_wp2_with fail
  go_ret
  exact ⟨rfl, rfl⟩

theorem packet_any (b : Nat) (o : Int) (l : List Int) (n : Int) (w : World) (h : HisV w b o l) :
    Calls Try.prog 35 #[.pointer (some ⟨b, 0, none⟩), .int .i64 n] w fun e w' => e = .returned (.int .i64 (perr o n)) ∧ HisV w' b (hst (o, l) (1, n)).1 (hst (o, l) (1, n)).2 ∧ Kept (fun q => q ≠ b) w w' := by
  have c0 := h.cell 0 _ rfl
  have ho := h.1.1
  by_cases q : n < 0 ∨ 65536 < n ∨ 1048576 < o + n
  · have e1 : perr o n = 11 := by unfold perr; rw [if_pos q]
    have e2 : hst (o, l) (1, n) = (o, l) := by unfold hst; simp only [if_true]; rw [if_pos q]
    rw [e1, e2]
    have H := hid h
    clear h e1 e2
    by_cases q1 : n < 0
    · clear q
      go_enter Try.func35, Try.ntmps35
      go_wp2_with fail
      go_ret
      exact ⟨rfl, H.out, Kept.refl _ _⟩
    by_cases q2 : 65536 < n
    · clear q
      go_enter Try.func35, Try.ntmps35
      go_wp2_with fail
      go_ret
      exact ⟨rfl, H.out, Kept.refl _ _⟩
    · have q3 : 1048576 < o + n := by omega
      clear q
      go_enter Try.func35, Try.ntmps35
      go_wp2_with fail
      go_ret
      exact ⟨rfl, H.out, Kept.refl _ _⟩
  · have e1 : perr o n = 0 := by unfold perr; rw [if_neg q]
    have e2 : hst (o, l) (1, n) = (o + n, l) := by unfold hst; simp only [if_true]; rw [if_neg q]
    rw [e1, e2]
    have P := hid (h.put (o' := o + n) (l' := l) 0 (.int .i64 (o + n)) ⟨by omega, h.1.2⟩ rfl)
    have fr := h.free 0
    have q1 : ¬ n < 0 := by omega
    have q2 : ¬ 65536 < n := by omega
    have q3 : ¬ 1048576 < o + n := by omega
    clear h e1 e2 q
    go_enter Try.func35, Try.ntmps35
    go_wp2_with fail
    go_ret
    exact ⟨rfl, P.out.1, P.out.2⟩

/-- the closed intervals moved by one place -/
theorem shifted (o : Int) (l : List Int) : splice (hlist o l) 2 ((hlist o l).drop 1 |>.take 7) = [.int .i64 o, .int .i64 (l.getD 0 0), .int .i64 (l.getD 0 0), .int .i64 (l.getD 1 0), .int .i64 (l.getD 2 0), .int .i64 (l.getD 3 0), .int .i64 (l.getD 4 0), .int .i64 (l.getD 5 0), .int .i64 (l.getD 6 0), .int .i64 (l.length : Int)] := rfl
theorem getD_loss (o : Int) (l : List Int) (k : Nat) (hk : k < 8) : ((o :: l).take 8).getD k 0 = (o :: l).getD k 0 := by
  rw [List.getD_eq_getElem?_getD, List.getD_eq_getElem?_getD, List.getElem?_take_of_lt hk]
theorem copy_down (w : World) (b : Nat) (o : Int) (l : List Int) (h : HisV w b o l) (ty : TypeId) : (Builtin.copy_ #[27, 27] ty #[.slice (some ⟨b, 2, none⟩) 7 7, .slice (some ⟨b, 1, none⟩) 8 8]).run Try.prog w = .ok (.int .i64 7) (w.setRow b (splice (hlist o l) 2 ((hlist o l).drop 1 |>.take 7)).toArray) :=
  run_copy_wide (P := Try.prog) w 27 27 ty 3 1 b 2 7 7 ⟨b, 1, none⟩ 8 8 (hlist o l) 68 ((hlist o l).drop 1 |>.take 7) Try.underlying27 (by kernel_rfl) h.2 rfl (row_src h.2 (List.take_prefix _ _)) (by simp [hlist]) (fun v hv => by
    have : v ∈ hlist o l := List.mem_of_mem_drop (List.mem_of_mem_take hv)
    simp only [hlist, List.mem_cons, List.not_mem_nil, or_false] at this
    rcases this with e | e | e | e | e | e | e | e | e | e <;> (subst e; rfl))

set_option maxHeartbeats 2000000 in
theorem loss_any (b : Nat) (o : Int) (l : List Int) (w : World) (h : HisV w b o l) :
    Calls Try.prog 34 #[.pointer (some ⟨b, 0, none⟩)] w fun e w' => e = .returned (.bool (decide (l.length = 0))) ∧ HisV w' b 0 ((o :: l).take 8) ∧ Kept (fun q => q ≠ b) w w' := by
  have c9 : w.cell? ⟨b, 9, none⟩ = some (.int .i64 (l.length : Int)) := h.cell 9 _ rfl
  have l8 := h.1.2.1
  have wd : Ext w w.drew := (Ext.refl w).drewN 1
  have CP := hid (copy_down w.drew b o l (h.ext wd) 3)
  obtain ⟨W1, eW1⟩ : ∃ W1, W1 = w.drew.setRow b (splice (hlist o l) 2 ((hlist o l).drop 1 |>.take 7)).toArray := ⟨_, rfl⟩
  rw [← eW1] at CP
  have r1 : W1.heap[b]? = some (.cells #[.int .i64 o, .int .i64 (l.getD 0 0), .int .i64 (l.getD 0 0), .int .i64 (l.getD 1 0), .int .i64 (l.getD 2 0), .int .i64 (l.getD 3 0), .int .i64 (l.getD 4 0), .int .i64 (l.getD 5 0), .int .i64 (l.getD 6 0), .int .i64 (l.length : Int)] 68 (0, 0)) := by
    rw [eW1, setRow_heap _ _ _ _ _ _ (h.ext wd).2, shifted]
  have k1 : Kept (fun q => q ≠ b) w W1 := by rw [eW1]; exact (Kept.of_ext wd).setRow (fun hne => hne rfl) _
  have F := fit_loss h.1
  obtain ⟨m, em⟩ : ∃ m : Int, m = (l.length : Int) := ⟨_, rfl⟩
  have FIN : Hid (∀ W2, W2 = (((W1.drew.setCell ⟨b, 1, none⟩ (.int .i64 o)).setCell ⟨b, 9, none⟩ (.int .i64 (min (m + 1) 8))).setCell ⟨b, 0, none⟩ (.int .i64 0)) → HisV W2 b 0 ((o :: l).take 8) ∧ Kept (fun q => q ≠ b) w W2) := by
    rintro W2 rfl
    have r1' : W1.drew.heap[b]? = _ := r1
    refine ⟨⟨F, ?_⟩, ((((k1.trans (Kept.of_ext (show Ext W1 W1.drew from (Ext.refl W1).drewN 1))).setCell (fun hne => hne rfl) _).setCell (fun hne => hne rfl) _).setCell (fun hne => hne rfl) _)⟩
    rw [setCell_eq_setRow W1.drew b 1 _ _ _ _ r1']
    have r2 := setRow_heap _ _ _ ((#[.int .i64 o, .int .i64 (l.getD 0 0), .int .i64 (l.getD 0 0), .int .i64 (l.getD 1 0), .int .i64 (l.getD 2 0), .int .i64 (l.getD 3 0), .int .i64 (l.getD 4 0), .int .i64 (l.getD 5 0), .int .i64 (l.getD 6 0), .int .i64 (l.length : Int)] : Array Value).setIfInBounds 1 (.int .i64 o)) _ _ r1'
    rw [setCell_eq_setRow _ b 9 _ _ _ _ r2]
    have r3 := setRow_heap _ _ _ (((#[.int .i64 o, .int .i64 (l.getD 0 0), .int .i64 (l.getD 0 0), .int .i64 (l.getD 1 0), .int .i64 (l.getD 2 0), .int .i64 (l.getD 3 0), .int .i64 (l.getD 4 0), .int .i64 (l.getD 5 0), .int .i64 (l.getD 6 0), .int .i64 (l.length : Int)] : Array Value).setIfInBounds 1 (.int .i64 o)).setIfInBounds 9 (.int .i64 (min (m + 1) 8))) _ _ r2
    rw [setCell_eq_setRow _ b 0 _ _ _ _ r3, setRow_heap _ _ _ _ _ _ r3]
    have e9 : min (m + 1) 8 = ((((o :: l).take 8).length : Nat) : Int) := by rw [List.length_take, List.length_cons]; omega
    unfold hrow hlist
    rw [getD_loss o l 0 (by decide), getD_loss o l 1 (by decide), getD_loss o l 2 (by decide), getD_loss o l 3 (by decide), getD_loss o l 4 (by decide), getD_loss o l 5 (by decide), getD_loss o l 6 (by decide), getD_loss o l 7 (by decide), ← e9]
    rfl
  have R1 := hid r1
  have a0 : W1.cell? ⟨b, 0, none⟩ = some (.int .i64 o) := by rw [cell_of_row _ _ 0 _ _ _ r1]; rfl
  have a1 : W1.cell? ⟨b, 1, none⟩ = some (.int .i64 (l.getD 0 0)) := by rw [cell_of_row _ _ 1 _ _ _ r1]; rfl
  have a9 : W1.cell? ⟨b, 9, none⟩ = some (.int .i64 m) := by rw [cell_of_row _ _ 9 _ _ _ r1, em]; rfl
  have f1 : ∀ i, W1.frozen? ⟨b, i, none⟩ = false := fun i => frozen_of_row _ _ _ _ _ r1
  rw [← em] at c9
  have e0 : decide (l.length = 0) = decide (m = 0) := by rw [em]; simp
  rw [e0]
  have m0 : 0 ≤ m := by omega
  have m8 : m ≤ 8 := by omega
  clear h r1 k1 F eW1 em l8 e0 R1 wd
  go_enter Try.func34, Try.ntmps34
  go_wp2_with fail
  go_region_law (refine step_copy_known rfl (.tmp 12) (.tmp 16) 27 27 rfl _ _ _ _ (by simp [Act.eval, Act.put]) (by simp [Act.eval, Act.put]) CP.out ?_)
  go_wp2_with fail
  go_region
  go_wp2_with fail
  go_ret
  exact ⟨rfl, FIN.out _ rfl⟩
end Go.Proofs.Ytlglhggfhlpbjaa.His

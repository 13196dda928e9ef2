/-
  put of a report whose receiver is not known; put. (Printed by wip/gen/clrput.py.)
-/
import Derived.Test.YteokeieddapjhaaClrPutK
namespace Go.Proofs.Yteokeieddapjhaa.Clr
set_option linter.unusedVariables false
set_option linter.unusedSimpArgs false
set_option maxRecDepth 100000
open Go.RowKit Go.Lib

set_option maxHeartbeats 2000000 in
theorem put_new {K : Nat → Prop} {w : World} {b : Nat} {lim : Int} {s : BS} (h : Bk K w b lim s) (f t x : Int) (hr : isR f) (ht : isT t) (e : la s.1 f = none) :
    Calls Try.prog 27 #[.pointer (some ⟨b, 0, none⟩), .agg #[.int .i64 f, .int .i64 t, .int .u64 x]] w fun e w' => e = .returned (.tuple #[]) ∧ Bk K w' b lim (s.1.set f.toNat (some (t, x)), s.2) ∧ Kept K w w' := by
  obtain ⟨V0, e0⟩ : ∃ V0, V0 = w.alloc (.cells #[.int .i64 f, .int .i64 t, .int .u64 x] 43) := ⟨_, rfl⟩
  have X0 := hid (tb_ext w f t x)
  have R0 := hid (tb_row w f t x)
  rw [show tb w f t x = V0 from e0.symm] at X0 R0
  have E0 := hid e0
  obtain ⟨bx, ebx⟩ : ∃ bx, bx = w.heap.size := ⟨_, rfl⟩
  rw [← ebx] at R0
  have EB := hid ebx
  have FD := hid (find_any (h.ext X0.out) f)
  rw [e] at FD
  obtain ⟨ao, n, c, en, n64, nc, cm, c0, c1, c2, o⟩ := h.view
  have nb : bx ≠ b := by have := h.lt; omega
  have nv : (Value.slice ao n c).ownBlock ≠ some bx := fun q => by have := o.lt q; omega
  have INS := hid (fun W (X : Ext w W) (hx : W.heap[bx]? = some (.cells #[.int .i64 f, .int .i64 t, .int .u64 x] 43 (0, 0))) => put_row (h.ext X) (X.cell c1) hx nb nv f t x hr ht e)
  generalize (lo s.1 f.toNat).length = k at *
  have cc := hid c1
  clear h e en c0 c2 c1 o ebx e0 ht nc cm n64
  go_enter Try.func27, Try.ntmps27
  go_wp2_with fail
  rw [← E0.out, ← EB.out]
  refine FD.out.mono ?_
  rintro e w1 ⟨k', rfl, _, hk, x1⟩
  obtain rfl := hk hr
  have X1 := hid (X0.out.trans x1)
  have R1 := hid (x1.row R0.out)
  have c3 := X1.out.cell cc.out
  clear x1 hk FD cc
  simp only [Option.isSome_none]
  go_wp2_with fail
  refine wp_region_held_drew (S := fun V => V.heap[bx]? = some (.cells #[.int .i64 f, .int .i64 t, .int .u64 x] 43 (0, 0))) (by kernel_rfl) R1.out (fun hHeld => ?_)
  refine takeE (v := ?_) 0 21 rfl rfl (by kernel_rfl) (by kernel_rfl) (by kernel_rfl) (fun _ _ _ h => h) (Or.inl ⟨by rfl, fun V hV => ?_⟩) hHeld ?_
  rotate_left
  · (go_simp; try with_reducible rfl)
  simp only [Act.put, List.setIfInBounds_toArray, List.set_cons_zero, List.set_cons_succ]
  refine takeE (v := ?_) 1 22 rfl rfl (by kernel_rfl) (by kernel_rfl) (by kernel_rfl) (fun _ _ _ h => h) (Or.inl ⟨by rfl, fun V hV => ?_⟩) hHeld ?_
  rotate_left
  · (go_simp; try with_reducible rfl)
  simp only [Act.put, List.setIfInBounds_toArray, List.set_cons_zero, List.set_cons_succ]
  refine takeE (v := ?_) 2 23 rfl rfl (by kernel_rfl) (by kernel_rfl) (by kernel_rfl) (fun _ _ _ h => h) (Or.inl ⟨by rfl, fun V hV => ?_⟩) hHeld ?_
  rotate_left
  · (go_simp; try with_reducible rfl)
  simp only [Act.put, List.setIfInBounds_toArray, List.set_cons_zero, List.set_cons_succ]
  refine takeE (v := ?_) 3 24 rfl rfl (by kernel_rfl) (by kernel_rfl) (by kernel_rfl) (fun _ _ _ h => h) (Or.inl ⟨by rfl, fun V hV => ?_⟩) hHeld ?_
  rotate_left
  · (go_simp; try with_reducible rfl)
  simp only [Act.put, List.setIfInBounds_toArray, List.set_cons_zero, List.set_cons_succ]
  refine takeE (v := ?_) 5 26 rfl rfl (by kernel_rfl) (by kernel_rfl) (by kernel_rfl) (fun _ _ _ h => h) (Or.inl ⟨by rfl, fun V hV => ?_⟩) hHeld ?_
  rotate_left
  · (go_simp; try with_reducible rfl)
  simp only [Act.put, List.setIfInBounds_toArray, List.set_cons_zero, List.set_cons_succ]
  refine takeE (v := .agg #[.int .i64 f, .int .i64 t, .int .u64 x]) 6 27 rfl rfl (by kernel_rfl) (by kernel_rfl) (by kernel_rfl) (fun _ _ _ h => h) ?_ hHeld ?_
  · exact yields_row 43 (.tmp 3) rfl (by rfl) bx (by rfl) 43 _ (0, 0) _ (fun V hV => hV) Try.underlying43 rfl (by kernel_rfl)
  simp only [Act.put, List.setIfInBounds_toArray, List.set_cons_zero, List.set_cons_succ]
  obtain ⟨W2, eW2⟩ : ∃ W2, W2 = w1.drew.alloc (.cells #[.int .i64 f, .int .i64 t, .int .u64 x] 43) := ⟨_, rfl⟩
  have XA : Ext w1 W2 := by rw [eW2]; exact ((Ext.refl w1).drewN 1).alloc _
  have c4 := XA.cell c3
  have c5 : w1.drew.cell? ⟨b, 1, none⟩ = some (.slice ao n c) := c3
  have HW : W2.heap[bx]? = some (.cells #[.int .i64 f, .int .i64 t, .int .u64 x] 43 (0, 0)) := XA.row R1.out
  have EW := hid eW2
  have II := hid (INS.out w1.drew (X1.out.drewN 1) R1.out)
  rw [show w1.drew.alloc (.cells (rep (f, t, x)).toArray 43) = W2 from eW2.symm] at II
  clear eW2 XA INS
  refine bothE 4 25 7 28 rfl rfl rfl rfl (by kernel_rfl) (by kernel_rfl) (by kernel_rfl) (by rfl) (by rfl) (by rfl) (by rfl) (v := .slice ao n c) (u := .slice (some ⟨w1.heap.size, 0, none⟩) 1 1) (w' := W2) (by go_simp) (by rw [EW.out]; go_simp; try with_reducible rfl) (by rw [EW.out]; go_simp; try with_reducible rfl) (by go_simp) hHeld HW ?lB ?mB
  case' lB =>
    simp only [Act.put, List.setIfInBounds_toArray, List.set_cons_zero, List.set_cons_succ]
  case' mB =>
    simp only [Act.put, List.setIfInBounds_toArray, List.set_cons_zero, List.set_cons_succ]
  all_goals refine callE 8 29 rfl rfl (by kernel_rfl) (by rfl) (by go_simp; first | exact ⟨rfl, rfl⟩ | rfl) ?_
  all_goals refine II.out.mono ?_
  all_goals rintro e W4 ⟨ao', n', c', rfl, R, h1, h2, h3, h4⟩
  all_goals refine ⟨_, rfl, h3, ?_⟩
  all_goals clear c3 c4 c5
  all_goals simp only [Act.put, List.setIfInBounds_toArray, List.set_cons_zero, List.set_cons_succ]
  all_goals refine takeE (v := ?_) 9 30 rfl rfl (by kernel_rfl) (by kernel_rfl) (by kernel_rfl) (fun _ _ _ h => h) (Or.inl ⟨by rfl, fun V hV => (by (go_simp; try with_reducible rfl))⟩) h3 ?_
  all_goals simp only [Act.put, List.setIfInBounds_toArray, List.set_cons_zero, List.set_cons_succ]
  all_goals refine takeE (v := ?_) 10 31 rfl rfl (by kernel_rfl) (by kernel_rfl) (by kernel_rfl) (fun _ _ _ h => h) (Or.inl ⟨by rfl, fun V hV => (by (go_simp; try with_reducible rfl))⟩) h3 ?_
  all_goals simp only [Act.put, List.setIfInBounds_toArray, List.set_cons_zero, List.set_cons_succ]
  all_goals refine storeE 11 rfl (by kernel_rfl) (by rfl) (w' := W4.setCell ⟨b, 1, none⟩ (.slice ao' n' c')) (by go_simp; try with_reducible rfl) h4 ?_
  all_goals simp only [Act.put]
  all_goals refine wpAnyH_done (by kernel_rfl) ?_ _
  all_goals clear h1 h2 h3 h4
  all_goals generalize W4.setCell ⟨b, 1, none⟩ (.slice ao' n' c') = W5 at *
  all_goals go_wp2_with fail
  all_goals refine bodyPost_end (results_none Try.results27 _ _ _) rfl ?_
  all_goals exact ⟨rfl, R.out.1, (Kept.of_ext (X1.out.drewN 1)).trans R.out.2⟩

theorem put_any {K : Nat → Prop} {w : World} {b : Nat} {lim : Int} {s : BS} (h : Bk K w b lim s) (f t x : Int) (hr : isR f) (ht : isT t) :
    Calls Try.prog 27 #[.pointer (some ⟨b, 0, none⟩), .agg #[.int .i64 f, .int .i64 t, .int .u64 x]] w fun e w' => e = .returned (.tuple #[]) ∧ Bk K w' b lim (s.1.set f.toNat (some (t, x)), s.2) ∧ Kept K w w' := by
  cases e : la s.1 f with
  | none => exact put_new h f t x hr ht e
  | some q => exact put_known h f t x ht q e
end Go.Proofs.Yteokeieddapjhaa.Clr

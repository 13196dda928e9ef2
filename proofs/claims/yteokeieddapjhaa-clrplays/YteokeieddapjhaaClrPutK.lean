/-
  put of a report whose receiver is known. (Printed by wip/gen/clrput.py.)
-/
import Derived.Test.YteokeieddapjhaaClrTurn
namespace Go.Proofs.Yteokeieddapjhaa.Clr
set_option linter.unusedVariables false
set_option linter.unusedSimpArgs false
set_option maxRecDepth 100000
open Go.RowKit Go.Lib

set_option maxHeartbeats 2000000 in
theorem put_known {K : Nat → Prop} {w : World} {b : Nat} {lim : Int} {s : BS} (h : Bk K w b lim s) (f t x : Int) (ht : isT t) (q : Int × Int) (e : la s.1 f = some q) :
    Calls Try.prog 27 #[.pointer (some ⟨b, 0, none⟩), .agg #[.int .i64 f, .int .i64 t, .int .u64 x]] w fun e w' => e = .returned (.tuple #[]) ∧ Bk K w' b lim (s.1.set f.toNat (some (t, x)), s.2) ∧ Kept K w w' := by
  obtain ⟨V0, e0⟩ : ∃ V0, V0 = w.alloc (.cells #[.int .i64 f, .int .i64 t, .int .u64 x] 43) := ⟨_, rfl⟩
  have X0 := hid (tb_ext w f t x)
  have R0 := hid (tb_row w f t x)
  rw [show tb w f t x = V0 from e0.symm] at X0 R0
  have E0 := hid e0
  obtain ⟨bx, ebx⟩ : ∃ bx, bx = w.heap.size := ⟨_, rfl⟩
  rw [← ebx] at R0
  have EB := hid ebx
  have FD := hid (find_any (h.ext X0.out) f)
  rw [e] at FD
  have hr := (la_some h.1 e).1
  have LT := (lo_len h.1 hr).2 (by rw [e]; rfl)
  obtain ⟨ao, n, c, en, n64, nc, cm, c0, c1, c2, o⟩ := h.view
  rcases o.at with ⟨_, e1⟩ | ⟨g, cap, L, e1, g1, g2, g3, g4, g5⟩
  · rw [e1] at LT; simp at LT
  rw [← en] at e1
  simp only [Value.slice.injEq, true_and] at e1
  obtain ⟨rfl, rfl⟩ := e1
  have gb : g < bx := by have := lt_of_row g1; omega
  have PUT : Hid (∀ W, Ext w W → ∃ w', (Instr.storeAt 43 (.pointer (some ⟨g, (lo s.1 f.toNat).length * 3, none⟩)) (.agg #[.int .i64 f, .int .i64 t, .int .u64 x])).run Try.prog W = .ok () w' ∧ Bk K w' b lim (s.1.set f.toNat (some (t, x)), s.2) ∧ Kept (fun i => i ≠ g) W w' ∧ Kept K W w' ∧ b ≠ g) := fun W X => Bk.anew (D := s.1.set f.toNat (some (t, x))) (y := (f, t, x)) (k := (lo s.1 f.toNat).length) (h.ext X) (X.cell c1) LT (rows_anew h.1 e t x) (fit_set h.1 _ _ _ (fun q hq => by simp at hq; rw [← hq]; exact ht))
  have C1 : Hid (∀ W, Ext w W → W.cell? ⟨b, 1, none⟩ = some (.slice (some ⟨g, 0, none⟩) n c)) := fun W X => X.cell c1
  have NE : b ≠ g := by obtain ⟨_, _, _, _, _, q⟩ := PUT.out w (Ext.refl w); exact q
  rw [← en] at LT
  generalize (lo s.1 f.toNat).length = k at *
  unfold maxLen at cm
  have i1 : (k : Int) < (n : Int) := by omega
  have i2 : (0 : Int) ≤ (k : Int) := by omega
  clear h e en c0 c2 c1 o g1 g3 g4 g5 ebx e0 ht
  go_enter Try.func27, Try.ntmps27
  go_wp2_with fail
  rw [← E0.out, ← EB.out]
  refine FD.out.mono ?_
  rintro e w1 ⟨k', rfl, _, hk, x1⟩
  obtain rfl := hk hr
  have X1 := hid (X0.out.trans x1)
  have R1 := hid (x1.row R0.out)
  clear x1 hk FD
  simp only [Option.isSome_some]
  go_wp2_with fail
  refine wp_region_held_drew (S := fun V => Kept (fun i => i ≠ g) w1 V) (by kernel_rfl) (Kept.refl _ w1) (fun hHeld => ?_)
  have cs := C1.out w1 X1.out
  refine takeE (v := ?_) 0 14 rfl rfl (by kernel_rfl) (by kernel_rfl) (by kernel_rfl) (fun _ _ _ h => h) (Or.inl ⟨by rfl, fun V hV => ?_⟩) hHeld ?_
  rotate_left
  · (go_simp; try with_reducible rfl)
  simp only [Act.put, List.setIfInBounds_toArray, List.set_cons_zero, List.set_cons_succ]
  refine takeE (v := ?_) 1 15 rfl rfl (by kernel_rfl) (by kernel_rfl) (by kernel_rfl) (fun _ _ _ h => h) (Or.inl ⟨by rfl, fun V hV => ?_⟩) hHeld ?_
  rotate_left
  · (go_simp; try with_reducible rfl)
  simp only [Act.put, List.setIfInBounds_toArray, List.set_cons_zero, List.set_cons_succ]
  refine takeE (v := ?_) 2 16 rfl rfl (by kernel_rfl) (by kernel_rfl) (by kernel_rfl) (fun _ _ _ h => h) (Or.inl ⟨by rfl, fun V hV => ?_⟩) hHeld ?_
  rotate_left
  · (go_simp; try with_reducible rfl)
  simp only [Act.put, List.setIfInBounds_toArray, List.set_cons_zero, List.set_cons_succ]
  refine takeE (v := ?_) 3 17 rfl rfl (by kernel_rfl) (by kernel_rfl) (by kernel_rfl) (fun _ _ _ h => h) (Or.inl ⟨by rfl, fun V hV => ?_⟩) hHeld ?_
  rotate_left
  · (have y1 := hV.cell (a := ⟨b, 1, none⟩) NE cs; go_simp; try with_reducible rfl)
  simp only [Act.put, List.setIfInBounds_toArray, List.set_cons_zero, List.set_cons_succ]
  refine takeE (v := ?_) 4 18 rfl rfl (by kernel_rfl) (by kernel_rfl) (by kernel_rfl) (fun _ _ _ h => h) (Or.inl ⟨by rfl, fun V hV => ?_⟩) hHeld ?_
  rotate_left
  · (go_simp; try with_reducible rfl)
  simp only [Act.put, List.setIfInBounds_toArray, List.set_cons_zero, List.set_cons_succ]
  refine takeE (v := .agg #[.int .i64 f, .int .i64 t, .int .u64 x]) 5 19 rfl rfl (by kernel_rfl) (by kernel_rfl) (by kernel_rfl) (fun _ _ _ h => h) ?_ hHeld ?_
  · exact yields_row 43 (.tmp 3) rfl (by rfl) bx (by rfl) 43 _ (0, 0) _ (fun V hV => Kept.row hV (by omega) R1.out) Try.underlying43 rfl (by kernel_rfl)
  simp only [Act.put, List.setIfInBounds_toArray, List.set_cons_zero, List.set_cons_succ]
  refine takeE (v := ?_) 6 20 rfl rfl (by kernel_rfl) (by kernel_rfl) (by kernel_rfl) (fun _ _ _ h => h) (Or.inl ⟨by rfl, fun V hV => ?_⟩) hHeld ?_
  rotate_left
  · (go_simp; try with_reducible rfl)
  simp only [Act.put, List.setIfInBounds_toArray, List.set_cons_zero, List.set_cons_succ]
  obtain ⟨w2, s1, s2, s3, s4, _⟩ := PUT.out w1.drew (X1.out.drewN 1)
  have FIN : Hid (Bk K w2 b lim (s.1.set f.toNat (some (t, x)), s.2) ∧ Kept K w w2) := ⟨s2, (Kept.of_ext (X1.out.drewN 1)).trans s4⟩
  refine storeE 7 rfl (by kernel_rfl) (by rfl) (w' := w2) (exec_store 43 (.tmp 20) (.tmp 19) rfl s1) (show Kept (fun i => i ≠ g) w1 w2 from s3) ?_
  simp only [Act.put]
  refine wpAnyH_done (by kernel_rfl) ?_ _
  clear s1 s2 s3 s4 PUT hHeld
  go_wp2_with fail
  refine bodyPost_ret (results_none Try.results27 _ _ _) rfl ?_
  exact ⟨rfl, FIN.out⟩
end Go.Proofs.Yteokeieddapjhaa.Clr

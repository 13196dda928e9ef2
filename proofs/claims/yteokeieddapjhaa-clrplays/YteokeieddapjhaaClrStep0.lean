/-
  The statements' step, each way. (Printed by wip/gen/clrstep.py.)
-/
import Derived.Test.YteokeieddapjhaaClrStepM
namespace Go.Proofs.Yteokeieddapjhaa.Clr
set_option linter.unusedVariables false
set_option linter.unusedSimpArgs false
set_option maxRecDepth 100000
open Go.RowKit Go.Lib

set_option maxHeartbeats 4000000 in
theorem step_none {K : Nat → Prop} {w : World} {b : Nat} {lim : Int} {s : BS} (h : Bk K w b lim s) (k f a lt x now : Int) (n0 : 0 ≤ now) (n1 : now ≤ 1000000) (hk : k ≠ 1 ∧ k ≠ 2 ∧ k ≠ 3) :
    Calls Try.prog 10 #[.pointer (some ⟨b, 0, none⟩), .agg (dcs s), .int .i64 lim, .int .i64 now, .agg (ocs (k, f, a, lt, x))] w fun e w' => e = .returned (.tuple #[.agg (dcs (bst s lim now (k, f, a, lt, x))), .bool true]) ∧ Bk K w' b lim (bst s lim now (k, f, a, lt, x)) ∧ Kept K w w' := by
  have ed : bst s lim now (k, f, a, lt, x) = s := by unfold bst; rw [if_neg hk.1, if_neg hk.2.1, if_neg hk.2.2]
  rw [ed]
  clear ed
  obtain ⟨C, eC⟩ : ∃ C, C = clr s := ⟨_, rfl⟩
  obtain ⟨V, p, e1, ep, S0⟩ := sboxes w s.1 C (k, f, a, lt, x) h.1.1
  have ES : dcs s = dc s.1 C := by unfold dcs; rw [eC]
  rw [ES]
  have E1 := hid e1
  have EP := hid ep
  have SS := hid S0
  have SZ0 : Hid ((dc s.1 C).size = 193) := dc_size _ _ h.1.1
  obtain ⟨z0, z1, z2, z3, z4⟩ := row_cells S0.2.1
  have H := hid h
  clear e1 ep S0
  have k1 : (k == 1) = false := beq_eq_false_iff_ne.2 hk.1
  have k2 : (k == 2) = false := beq_eq_false_iff_ne.2 hk.2.1
  have k3 : (k == 3) = false := beq_eq_false_iff_ne.2 hk.2.2
  have FIN := hid (fin_box (K := K) h.2.2.1 ((h.since SS.out.2.2.2.1)) (Kept.refl _ V) SS.out.2.2.2.1 (show w.heap.size ≤ p + 2 by have := SS.out.2.2.2.2.1; omega) SS.out.2.2.1 (dc s.1 C))
  have ONE := hid (dc_one s.1 C)
  have SZ := SZ0
  clear H h hk n0 n1 eC ES
  go_enter Try.func10, Try.ntmps10
  go_wp2_with (first
    | (refine bodyPost_ret (results_cell_tmp1 Try.results10 _ _ (p + 2) 33 _ (0, 0) _ rfl FIN.out.2.1 Try.underlying33 rfl (by rw [SZ.out]; exact size_st)) rfl ?_; exact ⟨rfl, FIN.out.2.2⟩)
    | refine wpList_alloc_zero rfl 33 rfl dz zero_st ?_
    | rw [← EP.out, ← E1.out]
    | refine wpList_load_row rfl 33 (.tmp 6) rfl p rfl 33 _ (0, 0) _ SS.out.1 Try.underlying33 rfl (by rw [SZ0.out]; exact size_st) ?_
    | refine wpList_store_row rfl 33 (.tmp 10) _ rfl (p + 2) (dc s.1 C) rfl rfl 33 _ FIN.out.1 (by rw [SZ.out]; exact size_st) (by rw [SZ.out]; exact dz_size) ONE.out ?_)
end Go.Proofs.Yteokeieddapjhaa.Clr

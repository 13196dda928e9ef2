/-
  The statements' step, each way. (Printed by wip/gen/clrstep.py.)
-/
import Derived.Test.YteokeieddapjhaaClrStepM
namespace Go.Proofs.Yteokeieddapjhaa.Clr
set_option linter.unusedVariables false
set_option linter.unusedSimpArgs false
set_option maxRecDepth 100000
open Go.RowKit Go.Lib

set_option maxHeartbeats 4000000 in
theorem step_pass2 {K : Nat → Prop} {w : World} {b : Nat} {lim : Int} {s : BS} (h : Bk K w b lim s) (f a lt x now : Int) (n0 : 0 ≤ now) (n1 : now ≤ 1000000) (y : Int × Int) (ec : cl s = some y) (q : y.1 + lim < now) :
    Calls Try.prog 10 #[.pointer (some ⟨b, 0, none⟩), .agg (dcs s), .int .i64 lim, .int .i64 now, .agg (ocs (3, f, a, lt, x))] w fun e w' => e = .returned (.tuple #[.agg (dcs (bst s lim now (3, f, a, lt, x))), .bool true]) ∧ Bk K w' b lim (bst s lim now (3, f, a, lt, x)) ∧ Kept K w w' := by
  have ed : bst s lim now (3, f, a, lt, x) = (bleave s s.2).1 := by unfold bst; rw [if_neg (by simp), if_neg (by simp), if_pos rfl]; unfold bpass; rw [ec]; simp only; rw [if_pos q]
  rw [ed]
  clear ed
  obtain ⟨C, eC⟩ : ∃ C, C = clr s := ⟨_, rfl⟩
  obtain ⟨V, p, e1, ep, S0⟩ := sboxes w s.1 C (3, f, a, lt, x) h.1.1
  have ES : dcs s = dc s.1 C := by unfold dcs; rw [eC]
  rw [ES]
  have E1 := hid e1
  have EP := hid ep
  have SS := hid S0
  have SZ0 : Hid ((dc s.1 C).size = 193) := dc_size _ _ h.1.1
  obtain ⟨z0, z1, z2, z3, z4⟩ := row_cells S0.2.1
  have H := hid h
  clear e1 ep S0
  have cc : V.cell? ⟨p, 192, none⟩ = some (.int .i64 C) := by rw [cell_of_row _ _ 192 _ _ _ SS.out.1, dc_clr _ _ h.1.1]
  obtain ⟨hr, ht⟩ := la_some h.1 ec
  obtain ⟨j, ej⟩ : ∃ j : Nat, s.2 = (j : Int) := ⟨s.2.toNat, by have := hr.1; omega⟩
  have cj : C = (j : Int) := by rw [eC]; unfold clr; rw [ec, ej]; rfl
  subst cj
  have hj : j < 64 := by have := hr.2; omega
  have j1 : (j : Int) < 64 := by omega
  have j2 : (0 : Int) ≤ (j : Int) := by omega
  have j3 : ¬ ((j : Int) < 0) := by omega
  have ey : sat s.1 j = some y := by unfold cl at ec; rw [ej, la_nat] at ec; exact ec
  have d1 : V.cell? ⟨p, j * 3 + 1, none⟩ = some (.int .i64 y.1) := by rw [cell_of_row _ _ (j * 3 + 1) _ _ _ SS.out.1, dc_at s.1 _ (by rw [h.1.1]; exact hj) (by decide), ey]; rfl
  have wy : IntKind.i64.wrap (now - y.1) = now - y.1 := IntWalk.i64_in _ (by have := ht.1; have := ht.2; omega)
  have q1 : ¬ now - y.1 ≤ lim := by omega
  have RS := hid (rleave_any s (j : Int) V h.1)
  rw [← ej] at RS
  have CA0 := hid (fun W (X : Ext w W) => pass_any (H.out.since X) now)
  have ep : bpass s lim now = bleave s s.2 := by unfold bpass; rw [ec]; simp only; rw [if_pos q]
  rw [ep] at CA0
  have eb : (bleave s s.2).2 = true := by
    have hs : (la s.1 s.2).isSome = true := by rw [show la s.1 s.2 = cl s from rfl, ec]; rfl
    unfold bleave; rw [if_pos hs]; simp
  obtain ⟨A, eA⟩ : ∃ A, A = (bleave s s.2).2 := ⟨_, rfl⟩
  obtain ⟨t, et⟩ : ∃ t, t = (bleave s s.2).1 := ⟨_, rfl⟩
  have ft : FitB t := by rw [et]; exact fit_leave h.1 _
  rw [← eA, ← et] at RS CA0
  rw [← et]
  rw [show dcs t = dc t.1 (clr t) from rfl] at RS ⊢
  rw [ES] at RS
  have LD : Hid (t.1.length = 64) := ft.1
  have SZ : Hid ((dc t.1 (clr t)).size = 193) := dc_size _ _ ft.1
  have ONE := hid (dc_one t.1 (clr t))
  rw [ej] at RS
  rw [eb] at eA
  subst eA
  clear et ft h ES eC ec ep ey ej hr ht q eb
  go_enter Try.func10, Try.ntmps10
  go_wp2_with (first
    | refine wpList_alloc_zero rfl 33 rfl dz zero_st ?_
    | rw [← EP.out, ← E1.out]
    | refine wpList_load_row rfl 33 (.tmp 6) rfl p rfl 33 _ (0, 0) _ SS.out.1 Try.underlying33 rfl (by rw [SZ0.out]; exact size_st) ?_)
  refine RS.out.mono ?_
  rintro e V3 ⟨rfl, x3⟩
  obtain ⟨V4, V5, g, e4, eg, e5, r4, r5, x5⟩ := newboxS V3 t.1 (clr t)
  have E4 := hid e4
  have EG := hid eg
  have E5 := hid e5
  have R4 := hid r4
  have R5 := hid r5
  have S5 := hid (SS.out.ext (x3.trans x5))
  have LP := lt_of_row (x3.row SS.out.2.2.1)
  have GP : Hid (g ≠ p + 2) := by show _ ≠ _; omega
  have GL : Hid (w.heap.size ≤ g) := by show _ ≤ _; have := (SS.out.2.2.2.1.trans x3).size; omega
  have XD := hid (S5.out.2.2.2.1.drewN 1)
  have CA := hid (CA0.out V5.drew XD.out)
  obtain ⟨z0, z1, z2, z3, z4⟩ := row_cells S5.out.2.1
  clear e4 eg e5 r4 r5 x3 x5 CA0 RS LP
  go_wp2_with (first
    | refine wpList_alloc_zero rfl 33 rfl dz zero_st ?_
    | rw [← EG.out, ← E4.out]
    | (refine wpList_store_row rfl 33 (.tmp 17) _ rfl g (dc t.1 (clr t)) rfl rfl 33 _ R4.out (by rw [SZ.out]; exact size_st) (by rw [SZ.out]; exact dz_size) ONE.out ?_; rw [← E5.out]))
  refine wp_region_held_drew (S := (fun W => W.heap[g]? = some (.cells (dc t.1 (clr t)) 33 (0, 0)) ∧ W.heap[p + 1]? = some (.cells (ocs (3, f, a, lt, x)) 36 (0, 0)))) (by kernel_rfl) ⟨R5.out, S5.out.2.1⟩ (fun hHeld => ?_)
  refine takeE (v := .agg (dc t.1 (clr t))) 0 100 rfl rfl (by kernel_rfl) (by kernel_rfl) (by kernel_rfl) (fun _ _ _ h => h) ?_ hHeld ?_
  · exact yields_row 33 (.tmp 17) rfl (by rfl) g (by rfl) 33 _ (0, 0) _ (fun V hV => hV.1) Try.underlying33 rfl (by rw [SZ.out]; exact size_st)
  simp only [Act.put, List.setIfInBounds_toArray, List.set_cons_zero, List.set_cons_succ]
  refine takeE (v := ?_) 1 101 rfl rfl (by kernel_rfl) (by kernel_rfl) (by kernel_rfl) (fun _ _ _ h => h) (Or.inl ⟨by rfl, fun V hV => ?_⟩) hHeld ?_
  rotate_left
  · (go_simp; try with_reducible rfl)
  simp only [Act.put, List.setIfInBounds_toArray, List.set_cons_zero, List.set_cons_succ]
  refine takeE (v := ?_) 2 102 rfl rfl (by kernel_rfl) (by kernel_rfl) (by kernel_rfl) (fun _ _ _ h => h) (Or.inl ⟨by rfl, fun V hV => ?_⟩) hHeld ?_
  rotate_left
  · (go_simp; try with_reducible rfl)
  simp only [Act.put, List.setIfInBounds_toArray, List.set_cons_zero, List.set_cons_succ]
  refine callE 3 103 rfl rfl (by kernel_rfl) (by rfl) (by go_simp; first | exact ⟨rfl, rfl⟩ | rfl) ?_
  refine CA.out.mono ?_
  rintro e V6 ⟨rfl, s6, k6⟩
  have PL : w.heap.size ≤ p := SS.out.2.2.2.2.1
  have FIN := hid (fin_box H.out.2.2.1 s6 k6 XD.out (show w.heap.size ≤ p + 2 by omega) S5.out.2.2.1 (dc t.1 (clr t)))
  have H6 : (fun W => W.heap[g]? = some (.cells (dc t.1 (clr t)) 33 (0, 0)) ∧ W.heap[p + 1]? = some (.cells (ocs (3, f, a, lt, x)) 36 (0, 0))) V6 := ⟨k6.row (g := g) (.inr ⟨GL.out, lt_of_row (show V5.drew.heap[g]? = _ from R5.out)⟩) R5.out, k6.row (g := p + 1) (.inr ⟨by omega, lt_of_row (show V5.drew.heap[p + 1]? = _ from S5.out.2.1)⟩) S5.out.2.1⟩
  have ST := hid (store_whole V6 (p + 2) t.1 (clr t) FIN.out.1 LD.out)
  clear s6 k6 CA
  refine ⟨_, rfl, H6, ?_⟩
  simp only [Act.put, List.setIfInBounds_toArray, List.set_cons_zero, List.set_cons_succ]
  have H7 : (fun W => W.heap[g]? = some (.cells (dc t.1 (clr t)) 33 (0, 0)) ∧ W.heap[p + 1]? = some (.cells (ocs (3, f, a, lt, x)) 36 (0, 0))) (V6.setRow (p + 2) (dc t.1 (clr t))) := ⟨by rw [setRow_other _ _ _ _ GP.out]; exact H6.1, by rw [setRow_other _ _ _ _ (by omega)]; exact H6.2⟩
  refine storeN 4 rfl rfl (by kernel_rfl) (by rfl) (w' := V6.setRow (p + 2) (dc t.1 (clr t))) (exec_store 33 (.tmp 10) (.tmp 100) rfl ST.out) H7 ?_
  refine takeE (v := ?_) 5 11 rfl rfl (by kernel_rfl) (by kernel_rfl) (by kernel_rfl) (fun _ _ _ h => h) (Or.inl ⟨by rfl, fun V hV => ?_⟩) H7 ?_
  rotate_left
  · (go_simp; try with_reducible rfl)
  simp only [Act.put, List.setIfInBounds_toArray, List.set_cons_zero, List.set_cons_succ]
  refine wpAnyH_done (by kernel_rfl) ?_ _
  clear hHeld H6 H7 ST
  go_wp2_with (refine bodyPost_ret (results_cell_tmp1 Try.results10 _ _ (p + 2) 33 _ (0, 0) _ rfl FIN.out.2.1 Try.underlying33 rfl (by rw [SZ.out]; exact size_st)) rfl ?_; exact ⟨rfl, FIN.out.2.2⟩)
end Go.Proofs.Yteokeieddapjhaa.Clr

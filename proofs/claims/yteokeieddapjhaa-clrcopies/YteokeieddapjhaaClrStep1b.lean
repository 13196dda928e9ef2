/-
  The statements' step, each way. (Printed by wip/gen/clrstep.py.)
-/
import Derived.Test.YteokeieddapjhaaClrStepM
namespace Go.Proofs.Yteokeieddapjhaa.Clr
set_option linter.unusedVariables false
set_option linter.unusedSimpArgs false
set_option maxRecDepth 100000
open Go.RowKit Go.Lib

set_option maxHeartbeats 4000000 in
theorem step_take2 {K : Nat → Prop} {w : World} {b : Nat} {lim : Int} {s : BS} (h : Bk K w b lim s) (f a lt x now : Int) (n0 : 0 ≤ now) (n1 : now ≤ 1000000) (q : a < -2199023255552) :
    Calls Try.prog 10 #[.pointer (some ⟨b, 0, none⟩), .agg (dcs s), .int .i64 lim, .int .i64 now, .agg (ocs (1, f, a, lt, x))] w fun e w' => e = .returned (.tuple #[.agg (dcs (bst s lim now (1, f, a, lt, x))), .bool true]) ∧ Bk K w' b lim (bst s lim now (1, f, a, lt, x)) ∧ Kept K w w' := by
  have ed : bst s lim now (1, f, a, lt, x) = (btake s lim f (now + 2199023255552) x now).1 := by have ec : now - clamp a = (now + 2199023255552) := (by unfold clamp; omega); unfold bst; rw [if_pos rfl]; simp only; rw [ec]
  rw [ed]
  clear ed
  obtain ⟨C, eC⟩ : ∃ C, C = clr s := ⟨_, rfl⟩
  obtain ⟨V, p, e1, ep, S0⟩ := sboxes w s.1 C (1, f, a, lt, x) h.1.1
  have ES : dcs s = dc s.1 C := by unfold dcs; rw [eC]
  rw [ES]
  have E1 := hid e1
  have EP := hid ep
  have SS := hid S0
  have SZ0 : Hid ((dc s.1 C).size = 193) := dc_size _ _ h.1.1
  obtain ⟨z0, z1, z2, z3, z4⟩ := row_cells S0.2.1
  have H := hid h
  clear e1 ep S0
  have wn : IntKind.i64.wrap (now + 2199023255552) = now + 2199023255552 := IntWalk.i64_in _ (by omega)
  have wm : IntKind.i64.wrap (now - (-2199023255552)) = now + 2199023255552 := by rw [show now - (-2199023255552) = now + 2199023255552 by omega]; exact wn
  have RS := hid (rtake_any s lim f (now + 2199023255552) x now V h.1)
  have CA0 := hid (fun W (X : Ext w W) => take_any (H.out.since X) f (now + 2199023255552) x now)
  obtain ⟨A, eA⟩ : ∃ A, A = (btake s lim f (now + 2199023255552) x now).2 := ⟨_, rfl⟩
  obtain ⟨t, et⟩ : ∃ t, t = (btake s lim f (now + 2199023255552) x now).1 := ⟨_, rfl⟩
  have ft : FitB t := by rw [et]; exact fit_take h.1 _ _ _ _ _
  rw [← eA, ← et] at RS CA0
  rw [← et]
  rw [show dcs t = dc t.1 (clr t) from rfl] at RS ⊢
  rw [ES] at RS
  have LD : Hid (t.1.length = 64) := ft.1
  have SZ : Hid ((dc t.1 (clr t)).size = 193) := dc_size _ _ ft.1
  have ONE := hid (dc_one t.1 (clr t))
  clear eA et ft h ES eC
  go_enter Try.func10, Try.ntmps10
  go_wp2_with (first
    | refine wpList_alloc_zero rfl 33 rfl dz zero_st ?_
    | rw [← EP.out, ← E1.out]
    | refine wpList_load_row rfl 33 (.tmp 6) rfl p rfl 33 _ (0, 0) _ SS.out.1 Try.underlying33 rfl (by rw [SZ0.out]; exact size_st) ?_)
  refine RS.out.mono ?_
  rintro e V3 ⟨rfl, x3⟩
  obtain ⟨V4, V5, g, e4, eg, e5, r4, r5, x5⟩ := newboxS V3 t.1 (clr t)
  have E4 := hid e4
  have EG := hid eg
  have E5 := hid e5
  have R4 := hid r4
  have R5 := hid r5
  have S5 := hid (SS.out.ext (x3.trans x5))
  have LP := lt_of_row (x3.row SS.out.2.2.1)
  have GP : Hid (g ≠ p + 2) := by show _ ≠ _; omega
  have GL : Hid (w.heap.size ≤ g) := by show _ ≤ _; have := (SS.out.2.2.2.1.trans x3).size; omega
  have XD := hid (S5.out.2.2.2.1.drewN 1)
  have CA := hid (CA0.out V5.drew XD.out)
  obtain ⟨z0, z1, z2, z3, z4⟩ := row_cells S5.out.2.1
  clear e4 eg e5 r4 r5 x3 x5 CA0 RS LP
  go_wp2_with (first
    | refine wpList_alloc_zero rfl 33 rfl dz zero_st ?_
    | rw [← EG.out, ← E4.out]
    | (refine wpList_store_row rfl 33 (.tmp 13) _ rfl g (dc t.1 (clr t)) rfl rfl 33 _ R4.out (by rw [SZ.out]; exact size_st) (by rw [SZ.out]; exact dz_size) ONE.out ?_; rw [← E5.out]))
  refine wp_region_held_drew (S := (fun W => W.heap[g]? = some (.cells (dc t.1 (clr t)) 33 (0, 0)) ∧ W.heap[p + 1]? = some (.cells (ocs (1, f, a, lt, x)) 36 (0, 0)))) (by kernel_rfl) ⟨R5.out, S5.out.2.1⟩ (fun hHeld => ?_)
  refine takeE (v := .agg (dc t.1 (clr t))) 0 41 rfl rfl (by kernel_rfl) (by kernel_rfl) (by kernel_rfl) (fun _ _ _ h => h) ?_ hHeld ?_
  · exact yields_row 33 (.tmp 13) rfl (by rfl) g (by rfl) 33 _ (0, 0) _ (fun V hV => hV.1) Try.underlying33 rfl (by rw [SZ.out]; exact size_st)
  simp only [Act.put, List.setIfInBounds_toArray, List.set_cons_zero, List.set_cons_succ]
  refine takeE (v := ?_) 1 42 rfl rfl (by kernel_rfl) (by kernel_rfl) (by kernel_rfl) (fun _ _ _ h => h) (Or.inl ⟨by rfl, fun V hV => ?_⟩) hHeld ?_
  rotate_left
  · (go_simp; try with_reducible rfl)
  simp only [Act.put, List.setIfInBounds_toArray, List.set_cons_zero, List.set_cons_succ]
  refine takeE (v := ?_) 2 43 rfl rfl (by kernel_rfl) (by kernel_rfl) (by kernel_rfl) (fun _ _ _ h => h) (Or.inl ⟨by rfl, fun V hV => ?_⟩) hHeld ?_
  rotate_left
  · (go_simp; try with_reducible rfl)
  simp only [Act.put, List.setIfInBounds_toArray, List.set_cons_zero, List.set_cons_succ]
  refine takeE (v := ?_) 3 44 rfl rfl (by kernel_rfl) (by kernel_rfl) (by kernel_rfl) (fun _ _ _ h => h) (Or.inl ⟨by rfl, fun V hV => ?_⟩) hHeld ?_
  rotate_left
  · (have y1 := (row_cells hV.2).2.1; go_simp; try with_reducible rfl)
  simp only [Act.put, List.setIfInBounds_toArray, List.set_cons_zero, List.set_cons_succ]
  refine takeE (v := ?_) 4 45 rfl rfl (by kernel_rfl) (by kernel_rfl) (by kernel_rfl) (fun _ _ _ h => h) (Or.inl ⟨by rfl, fun V hV => ?_⟩) hHeld ?_
  rotate_left
  · (go_simp; try with_reducible rfl)
  simp only [Act.put, List.setIfInBounds_toArray, List.set_cons_zero, List.set_cons_succ]
  refine takeE (v := ?_) 5 46 rfl rfl (by kernel_rfl) (by kernel_rfl) (by kernel_rfl) (fun _ _ _ h => h) (Or.inl ⟨by rfl, fun V hV => ?_⟩) hHeld ?_
  rotate_left
  · (go_simp; try with_reducible rfl)
  simp only [Act.put, List.setIfInBounds_toArray, List.set_cons_zero, List.set_cons_succ]
  refine takeE (v := ?_) 6 47 rfl rfl (by kernel_rfl) (by kernel_rfl) (by kernel_rfl) (fun _ _ _ h => h) (Or.inl ⟨by rfl, fun V hV => ?_⟩) hHeld ?_
  rotate_left
  · (go_simp; try with_reducible rfl)
  simp only [Act.put, List.setIfInBounds_toArray, List.set_cons_zero, List.set_cons_succ]
  refine takeE (v := ?_) 7 48 rfl rfl (by kernel_rfl) (by kernel_rfl) (by kernel_rfl) (fun _ _ _ h => h) (Or.inl ⟨by rfl, fun V hV => ?_⟩) hHeld ?_
  rotate_left
  · (go_simp; try with_reducible rfl)
  simp only [Act.put, List.setIfInBounds_toArray, List.set_cons_zero, List.set_cons_succ]
  refine takeE (v := ?_) 8 49 rfl rfl (by kernel_rfl) (by kernel_rfl) (by kernel_rfl) (fun _ _ _ h => h) (Or.inl ⟨by rfl, fun V hV => ?_⟩) hHeld ?_
  rotate_left
  · (have y1 := (row_cells hV.2).2.2.2.2; go_simp; try with_reducible rfl)
  simp only [Act.put, List.setIfInBounds_toArray, List.set_cons_zero, List.set_cons_succ]
  refine takeE (v := ?_) 9 50 rfl rfl (by kernel_rfl) (by kernel_rfl) (by kernel_rfl) (fun _ _ _ h => h) (Or.inl ⟨by rfl, fun V hV => ?_⟩) hHeld ?_
  rotate_left
  · (go_simp; try with_reducible rfl)
  simp only [Act.put, List.setIfInBounds_toArray, List.set_cons_zero, List.set_cons_succ]
  refine takeE (v := ?_) 10 51 rfl rfl (by kernel_rfl) (by kernel_rfl) (by kernel_rfl) (fun _ _ _ h => h) (Or.inl ⟨by rfl, fun V hV => ?_⟩) hHeld ?_
  rotate_left
  · (go_simp; try with_reducible rfl)
  simp only [Act.put, List.setIfInBounds_toArray, List.set_cons_zero, List.set_cons_succ]
  refine takeE (v := ?_) 12 53 rfl rfl (by kernel_rfl) (by kernel_rfl) (by kernel_rfl) (fun _ _ _ h => h) (Or.inl ⟨by rfl, fun V hV => ?_⟩) hHeld ?_
  rotate_left
  · (go_simp; try with_reducible rfl)
  simp only [Act.put, List.setIfInBounds_toArray, List.set_cons_zero, List.set_cons_succ]
  refine callE 11 52 rfl rfl (by kernel_rfl) (by rfl) (by go_simp; first | exact ⟨rfl, rfl⟩ | rfl) ?_
  refine CA.out.mono ?_
  rintro e V6 ⟨rfl, s6, k6⟩
  have PL : w.heap.size ≤ p := SS.out.2.2.2.2.1
  have FIN := hid (fin_box H.out.2.2.1 s6 k6 XD.out (show w.heap.size ≤ p + 2 by omega) S5.out.2.2.1 (dc t.1 (clr t)))
  have H6 : (fun W => W.heap[g]? = some (.cells (dc t.1 (clr t)) 33 (0, 0)) ∧ W.heap[p + 1]? = some (.cells (ocs (1, f, a, lt, x)) 36 (0, 0))) V6 := ⟨k6.row (g := g) (.inr ⟨GL.out, lt_of_row (show V5.drew.heap[g]? = _ from R5.out)⟩) R5.out, k6.row (g := p + 1) (.inr ⟨by omega, lt_of_row (show V5.drew.heap[p + 1]? = _ from S5.out.2.1)⟩) S5.out.2.1⟩
  have ST := hid (store_whole V6 (p + 2) t.1 (clr t) FIN.out.1 LD.out)
  clear s6 k6 CA
  refine ⟨_, rfl, H6, ?_⟩
  simp only [Act.put, List.setIfInBounds_toArray, List.set_cons_zero, List.set_cons_succ]
  refine takeE (v := .bool true) 13 54 rfl rfl (by kernel_rfl) (by kernel_rfl) (by kernel_rfl) (fun _ _ _ h => h) (Or.inl ⟨by rfl, fun V hV => ?_⟩) H6 ?_
  · (go_simp; try with_reducible rfl)
  simp only [Act.put, List.setIfInBounds_toArray, List.set_cons_zero, List.set_cons_succ]
  have H7 : (fun W => W.heap[g]? = some (.cells (dc t.1 (clr t)) 33 (0, 0)) ∧ W.heap[p + 1]? = some (.cells (ocs (1, f, a, lt, x)) 36 (0, 0))) (V6.setRow (p + 2) (dc t.1 (clr t))) := ⟨by rw [setRow_other _ _ _ _ GP.out]; exact H6.1, by rw [setRow_other _ _ _ _ (by omega)]; exact H6.2⟩
  refine storeN 14 rfl rfl (by kernel_rfl) (by rfl) (w' := V6.setRow (p + 2) (dc t.1 (clr t))) (exec_store 33 (.tmp 10) (.tmp 41) rfl ST.out) H7 ?_
  refine takeE (v := ?_) 15 11 rfl rfl (by kernel_rfl) (by kernel_rfl) (by kernel_rfl) (fun _ _ _ h => h) (Or.inl ⟨by rfl, fun V hV => ?_⟩) H7 ?_
  rotate_left
  · (go_simp; try with_reducible rfl)
  simp only [Act.put, List.setIfInBounds_toArray, List.set_cons_zero, List.set_cons_succ]
  refine wpAnyH_done (by kernel_rfl) ?_ _
  clear hHeld H6 H7 ST
  go_wp2_with (refine bodyPost_ret (results_cell_tmp1 Try.results10 _ _ (p + 2) 33 _ (0, 0) _ rfl FIN.out.2.1 Try.underlying33 rfl (by rw [SZ.out]; exact size_st)) rfl ?_; exact ⟨rfl, FIN.out.2.2⟩)
end Go.Proofs.Yteokeieddapjhaa.Clr

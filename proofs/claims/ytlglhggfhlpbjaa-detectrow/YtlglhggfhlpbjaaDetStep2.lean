/-
  Walks of step where a packet comes, each way by itself.
-/
import Derived.Test.YtlglhggfhlpbjaaDetStep
namespace Go.Proofs.Ytlglhggfhlpbjaa.Det
set_option linter.unusedVariables false
set_option maxRecDepth 100000
open Go.RowKit Go.Lib Go.Proofs.Ytlglhggfhlpbjaa.His

theorem store_whole (w : World) (g : Nat) (ty t : TypeId) (old cs : Array Value) (hg : w.heap[g]? = some (.cells old t (0, 0))) (hi : (Try.prog.info? ty).map (·.size) = some cs.size) (ho : old.size = cs.size) (h1 : cs.all (·.oneCell') = true) : (Instr.storeAt ty (.pointer (some ⟨g, 0, none⟩)) (.agg cs)).run Try.prog w = .ok () (w.setRow g cs) := by
  simp only [Instr.storeAt, Instr.sureAddr, Sem.run_bind, Sem.run_pure, Result.andThen_ok, run_storeVar_row w g t ty old cs hg hi ho h1]

set_option maxHeartbeats 4000000 in
theorem step_low (b h : Nat) (nx : List Int) (op : Int) (lst : List Int) (lv : Value) (bg : Int) (sm : Bool) (ls kind layer seq later rtt : Int) (w : World) (d : DetV w b h (nx, (op, lst), bg, sm, ls)) (hl : lv.oneCell' = true) (s0 : 0 ≤ seq) (s1 : seq < 4294967296) (m1 M : Int) (em1 : max later (-5) = m1) (em : min m1 1048576 = M) (hM0 : -5 ≤ M) (hM1 : M ≤ 1048576) (hk : (kind == 1) = false) (q : layer < 0) :
    Calls Try.prog 10 #[.pointer (some ⟨b, 0, none⟩), .agg (dcs nx op lv bg sm ls), .agg (opc kind layer seq later rtt)] w fun e w' => e = .returned (.tuple #[.agg (dcs nx op lv bg sm ls), .bool true]) ∧ DetV w' b h (nx, (op, lst), bg, sm, ls) ∧ Kept (fun q => q ≠ b ∧ q ≠ h) w w' := by
  obtain ⟨ls0, ls1⟩ := d.1.2.2.2.2
  simp only at ls0 ls1
  obtain ⟨V0, e0⟩ : ∃ V0, V0 = w.alloc (.cells (dcs nx op lv bg sm ls) 29) := ⟨_, rfl⟩
  obtain ⟨V1, e1⟩ : ∃ V1, V1 = V0.alloc (.cells (opc kind layer seq later rtt) 33) := ⟨_, rfl⟩
  obtain ⟨V2, e2⟩ : ∃ V2, V2 = V1.alloc (.cells zst 29) := ⟨_, rfl⟩
  have x0 : Ext w V0 := by rw [e0]; exact (Ext.refl w).alloc _
  have x1 : Ext V0 V1 := by rw [e1]; exact (Ext.refl V0).alloc _
  have x2 : Ext V1 V2 := by rw [e2]; exact (Ext.refl V1).alloc _
  obtain ⟨bx, ebx⟩ : ∃ bx, bx = w.heap.size := ⟨_, rfl⟩
  have r0 : V0.heap[bx]? = some (.cells (dcs nx op lv bg sm ls) 29 (0, 0)) := by rw [e0, ebx]; exact heap_alloc_new w _
  have z0 : V0.heap.size = bx + 1 := by rw [e0, ebx, World.size_alloc]
  have r1 : V1.heap[bx + 1]? = some (.cells (opc kind layer seq later rtt) 33 (0, 0)) := by rw [e1, ← z0]; exact heap_alloc_new V0 _
  have z1 : V1.heap.size = bx + 2 := by rw [e1, World.size_alloc, z0]
  have r2 : V2.heap[bx + 2]? = some (.cells zst 29 (0, 0)) := by rw [e2, ← z1]; exact heap_alloc_new V1 _
  have XX := x0.trans (x1.trans x2)
  have SPP : Sp w V2 b h bx (nx, (op, lst), bg, sm, ls) (dcs nx op lv bg sm ls) (opc kind layer seq later rtt) := ⟨d.ext XX, ⟨x2.row (x1.row r0), x2.row r1, r2, by omega⟩, Kept.of_ext XX, d.lt⟩
  have y0 := SPP.2.1.op 0 (.int .i64 kind) rfl
  have y1 := SPP.2.1.op 1 (.int .i64 layer) rfl
  have y2 := SPP.2.1.op 2 (.int .u32 seq) rfl
  have y3 := SPP.2.1.op 3 (.int .i64 later) rfl
  have y4 := SPP.2.1.op 4 (.int .i64 rtt) rfl
  have y12 := SPP.2.1.st 12 (.int .i64 ls) rfl
  have ONE := hid (dcs_one nx op lv bg sm ls hl)
  have RR0 := hid SPP.2.1.1
  have SS := hid SPP
  unfold zst at e2
  rw [e1, e0] at e2
  have E2 := hid e2
  have EB := hid ebx
  have OB := hid (on_bad b h _ layer seq (ls + M) rtt V2 SPP.1 (.inl (.inl q)))
  clear e0 e1 e2 x0 x1 x2 r0 r1 r2 z0 z1 ebx XX SPP d
  go_enter Try.func10, Try.ntmps10
  go_wp2_with (first | rw [← EB.out, ← E2.out])
  refine OB.out.mono ?_
  rintro e V3 ⟨rfl, x3⟩
  have S3 := hid (SS.out.ext x3)
  obtain ⟨V4, e4⟩ : ∃ V4, V4 = V3.alloc (.cells (fcs 0 false false) 40) := ⟨_, rfl⟩
  obtain ⟨f, ef⟩ : ∃ f, f = V3.heap.size := ⟨_, rfl⟩
  have R4 : V4.heap[f]? = some (.cells (fcs 0 false false) 40 (0, 0)) := by rw [e4, ef]; exact heap_alloc_new V3 _
  obtain ⟨V5, e5⟩ : ∃ V5, V5 = V4.setRow f (fcs 0 false false) := ⟨_, rfl⟩
  have lf : bx + 2 < f := by rw [ef]; exact S3.out.lt
  have S5 := hid ((S3.out.ext (show Ext V3 V4 by rw [e4]; exact (Ext.refl V3).alloc _)).row f lf (fcs 0 false false))
  have F5 : Hid (V5.heap[f]? = some (.cells (fcs 0 false false) 40 (0, 0))) := by show _ = _; rw [e5]; exact setRow_heap _ _ _ _ _ _ R4
  rw [← e5] at S5
  have RR4 := hid R4
  unfold fcs at e4
  have E4 := hid e4
  have E5 := hid e5
  have EF := hid ef
  have LF := hid lf
  clear e4 e5 ef lf R4 S3
  have FF := hid F5.out
  have RS := hid S5.out.2.1.1
  have q12 := S5.out.2.1.st 12 (.int .i64 ls) rfl
  have q0 := S5.out.2.1.op 0 (.int .i64 kind) rfl
  have q1 := S5.out.2.1.op 1 (.int .i64 layer) rfl
  have q4 := S5.out.2.1.op 4 (.int .i64 rtt) rfl
  have ONZ := ONE
  clear OB x3 SS RR0 y0 y1 y2 y3 y4 y12 ONE
  go_wp2_with (first
    | rw [← EF.out, ← E4.out]
    | (refine wpList_store_row rfl 40 _ _ rfl f (fcs 0 false false) rfl rfl 40 _ RR4.out size_fd rfl (fcs_one _ _ _) ?_; rw [← E5.out]))
  have XD5 : Ext V5 V5.drew := (Ext.refl V5).drewN 1
  have SD := hid (S5.out.ext XD5)
  have ST := hid (store_whole V5.drew (bx + 2) 29 29 zst (dcs nx op lv bg sm ls) SD.out.2.1.2.2.1 (by rw [dcs_size]; exact size_st) rfl ONZ.out)
  have FIN := hid (SD.out.done (dcs nx op lv bg sm ls))
  refine wp_region_held_drew (S := fun V => Kept (fun q => q ≠ bx + 2) V5 V) (by kernel_rfl) (Kept.of_ext XD5) (fun hHeld => ?_)
  refine takeE (v := .agg (dcs nx op lv bg sm ls)) 0 70 rfl rfl (by kernel_rfl) (by kernel_rfl) (by kernel_rfl) (fun _ _ _ h => h) ?_ hHeld ?_
  · exact yields_row 29 (.tmp 4) rfl (by rfl) bx (by rfl) 29 _ (0, 0) _ (fun V hV => Kept.row hV (by omega) RS.out) Try.underlying29 rfl (by rw [dcs_size]; exact size_st)
  simp only [Act.put, List.setIfInBounds_toArray, List.set_cons_zero, List.set_cons_succ]
  refine takeE (v := ?_) 1 71 rfl rfl (by kernel_rfl) (by kernel_rfl) (by kernel_rfl) (fun _ _ _ h => h) (Or.inl ⟨by rfl, fun V hV => ?_⟩) hHeld ?_
  rotate_left
  · (go_simp; try with_reducible rfl)
  simp only [Act.put, List.setIfInBounds_toArray, List.set_cons_zero, List.set_cons_succ]
  refine takeE (v := ?_) 2 72 rfl rfl (by kernel_rfl) (by kernel_rfl) (by kernel_rfl) (fun _ _ _ h => h) (Or.inl ⟨by rfl, fun V hV => ?_⟩) hHeld ?_
  rotate_left
  · (go_simp; try with_reducible rfl)
  simp only [Act.put, List.setIfInBounds_toArray, List.set_cons_zero, List.set_cons_succ]
  refine takeE (v := ?_) 3 73 rfl rfl (by kernel_rfl) (by kernel_rfl) (by kernel_rfl) (fun _ _ _ h => h) (Or.inl ⟨by rfl, fun V hV => ?_⟩) hHeld ?_
  rotate_left
  · (go_simp; try with_reducible rfl)
  simp only [Act.put, List.setIfInBounds_toArray, List.set_cons_zero, List.set_cons_succ]
  refine takeE (v := .agg (fcs 0 false false)) 4 74 rfl rfl (by kernel_rfl) (by kernel_rfl) (by kernel_rfl) (fun _ _ _ h => h) ?_ hHeld ?_
  · exact yields_row 40 (.tmp 10) rfl (by rfl) f (by rfl) 40 _ (0, 0) _ (fun V hV => Kept.row hV (by have := LF.out; omega) FF.out) Try.underlying40 rfl size_fd
  simp only [Act.put, List.setIfInBounds_toArray, List.set_cons_zero, List.set_cons_succ]
  refine takeE (v := ?_) 5 75 rfl rfl (by kernel_rfl) (by kernel_rfl) (by kernel_rfl) (fun _ _ _ h => h) (Or.inl ⟨by rfl, fun V hV => ?_⟩) hHeld ?_
  rotate_left
  · (go_simp; try with_reducible rfl)
  simp only [Act.put, List.setIfInBounds_toArray, List.set_cons_zero, List.set_cons_succ]
  refine takeE (v := .bool true) 6 76 rfl rfl (by kernel_rfl) (by kernel_rfl) (by kernel_rfl) (fun _ _ _ h => h) (Or.inl ⟨by rfl, fun V hV => ?_⟩) hHeld ?_
  · exact exec_eqlF 0 false false V _ _ _ rfl rfl rfl
  simp only [Act.put, List.setIfInBounds_toArray, List.set_cons_zero, List.set_cons_succ]
  refine takeE (v := ?_) 7 77 rfl rfl (by kernel_rfl) (by kernel_rfl) (by kernel_rfl) (fun _ _ _ h => h) (Or.inl ⟨by rfl, fun V hV => ?_⟩) hHeld ?_
  rotate_left
  · (go_simp; try with_reducible rfl)
  simp only [Act.put, List.setIfInBounds_toArray, List.set_cons_zero, List.set_cons_succ]
  have hH2 := hHeld.setRow (g := bx + 2) (fun hne => hne rfl) (dcs nx op lv bg sm ls)
  refine storeN 8 rfl rfl (by kernel_rfl) (by rfl) (w' := V5.drew.setRow (bx + 2) (dcs nx op lv bg sm ls)) (exec_store 29 (.tmp 6) (.tmp 70) rfl ST.out) hH2 ?_
  refine takeE (v := ?_) 9 7 rfl rfl (by kernel_rfl) (by kernel_rfl) (by kernel_rfl) (fun _ _ _ h => h) (Or.inl ⟨by rfl, fun V hV => ?_⟩) hH2 ?_
  rotate_left
  · (go_simp; try with_reducible rfl)
  simp only [Act.put, List.setIfInBounds_toArray, List.set_cons_zero, List.set_cons_succ]
  refine wpAnyH_done (by kernel_rfl) ?_ _
  clear hHeld hH2 ST SD
  go_wp2_with fail
  refine bodyPost_ret (results_cell_tmp1 Try.results10 _ _ (bx + 2) 29 _ (0, 0) _ rfl FIN.out.1 Try.underlying29 rfl (by rw [dcs_size]; exact size_st)) rfl ?_
  exact ⟨rfl, FIN.out.2⟩

set_option maxHeartbeats 4000000 in
theorem step_high (b h : Nat) (nx : List Int) (op : Int) (lst : List Int) (lv : Value) (bg : Int) (sm : Bool) (ls kind layer seq later rtt : Int) (w : World) (d : DetV w b h (nx, (op, lst), bg, sm, ls)) (hl : lv.oneCell' = true) (s0 : 0 ≤ seq) (s1 : seq < 4294967296) (m1 M : Int) (em1 : max later (-5) = m1) (em : min m1 1048576 = M) (hM0 : -5 ≤ M) (hM1 : M ≤ 1048576) (hk : (kind == 1) = false) (q : 8 ≤ layer) :
    Calls Try.prog 10 #[.pointer (some ⟨b, 0, none⟩), .agg (dcs nx op lv bg sm ls), .agg (opc kind layer seq later rtt)] w fun e w' => e = .returned (.tuple #[.agg (dcs nx op lv bg sm ls), .bool true]) ∧ DetV w' b h (nx, (op, lst), bg, sm, ls) ∧ Kept (fun q => q ≠ b ∧ q ≠ h) w w' := by
  obtain ⟨ls0, ls1⟩ := d.1.2.2.2.2
  simp only at ls0 ls1
  obtain ⟨V0, e0⟩ : ∃ V0, V0 = w.alloc (.cells (dcs nx op lv bg sm ls) 29) := ⟨_, rfl⟩
  obtain ⟨V1, e1⟩ : ∃ V1, V1 = V0.alloc (.cells (opc kind layer seq later rtt) 33) := ⟨_, rfl⟩
  obtain ⟨V2, e2⟩ : ∃ V2, V2 = V1.alloc (.cells zst 29) := ⟨_, rfl⟩
  have x0 : Ext w V0 := by rw [e0]; exact (Ext.refl w).alloc _
  have x1 : Ext V0 V1 := by rw [e1]; exact (Ext.refl V0).alloc _
  have x2 : Ext V1 V2 := by rw [e2]; exact (Ext.refl V1).alloc _
  obtain ⟨bx, ebx⟩ : ∃ bx, bx = w.heap.size := ⟨_, rfl⟩
  have r0 : V0.heap[bx]? = some (.cells (dcs nx op lv bg sm ls) 29 (0, 0)) := by rw [e0, ebx]; exact heap_alloc_new w _
  have z0 : V0.heap.size = bx + 1 := by rw [e0, ebx, World.size_alloc]
  have r1 : V1.heap[bx + 1]? = some (.cells (opc kind layer seq later rtt) 33 (0, 0)) := by rw [e1, ← z0]; exact heap_alloc_new V0 _
  have z1 : V1.heap.size = bx + 2 := by rw [e1, World.size_alloc, z0]
  have r2 : V2.heap[bx + 2]? = some (.cells zst 29 (0, 0)) := by rw [e2, ← z1]; exact heap_alloc_new V1 _
  have XX := x0.trans (x1.trans x2)
  have SPP : Sp w V2 b h bx (nx, (op, lst), bg, sm, ls) (dcs nx op lv bg sm ls) (opc kind layer seq later rtt) := ⟨d.ext XX, ⟨x2.row (x1.row r0), x2.row r1, r2, by omega⟩, Kept.of_ext XX, d.lt⟩
  have y0 := SPP.2.1.op 0 (.int .i64 kind) rfl
  have y1 := SPP.2.1.op 1 (.int .i64 layer) rfl
  have y2 := SPP.2.1.op 2 (.int .u32 seq) rfl
  have y3 := SPP.2.1.op 3 (.int .i64 later) rfl
  have y4 := SPP.2.1.op 4 (.int .i64 rtt) rfl
  have y12 := SPP.2.1.st 12 (.int .i64 ls) rfl
  have ONE := hid (dcs_one nx op lv bg sm ls hl)
  have RR0 := hid SPP.2.1.1
  have SS := hid SPP
  unfold zst at e2
  rw [e1, e0] at e2
  have E2 := hid e2
  have EB := hid ebx
  have OB := hid (on_bad b h _ layer seq (ls + M) rtt V2 SPP.1 (.inl (.inr q)))
  clear e0 e1 e2 x0 x1 x2 r0 r1 r2 z0 z1 ebx XX SPP d
  go_enter Try.func10, Try.ntmps10
  go_wp2_with (first | rw [← EB.out, ← E2.out])
  refine OB.out.mono ?_
  rintro e V3 ⟨rfl, x3⟩
  have S3 := hid (SS.out.ext x3)
  obtain ⟨V4, e4⟩ : ∃ V4, V4 = V3.alloc (.cells (fcs 0 false false) 40) := ⟨_, rfl⟩
  obtain ⟨f, ef⟩ : ∃ f, f = V3.heap.size := ⟨_, rfl⟩
  have R4 : V4.heap[f]? = some (.cells (fcs 0 false false) 40 (0, 0)) := by rw [e4, ef]; exact heap_alloc_new V3 _
  obtain ⟨V5, e5⟩ : ∃ V5, V5 = V4.setRow f (fcs 0 false false) := ⟨_, rfl⟩
  have lf : bx + 2 < f := by rw [ef]; exact S3.out.lt
  have S5 := hid ((S3.out.ext (show Ext V3 V4 by rw [e4]; exact (Ext.refl V3).alloc _)).row f lf (fcs 0 false false))
  have F5 : Hid (V5.heap[f]? = some (.cells (fcs 0 false false) 40 (0, 0))) := by show _ = _; rw [e5]; exact setRow_heap _ _ _ _ _ _ R4
  rw [← e5] at S5
  have RR4 := hid R4
  unfold fcs at e4
  have E4 := hid e4
  have E5 := hid e5
  have EF := hid ef
  have LF := hid lf
  clear e4 e5 ef lf R4 S3
  have FF := hid F5.out
  have RS := hid S5.out.2.1.1
  have q12 := S5.out.2.1.st 12 (.int .i64 ls) rfl
  have q0 := S5.out.2.1.op 0 (.int .i64 kind) rfl
  have q1 := S5.out.2.1.op 1 (.int .i64 layer) rfl
  have q4 := S5.out.2.1.op 4 (.int .i64 rtt) rfl
  have ONZ := ONE
  clear OB x3 SS RR0 y0 y1 y2 y3 y4 y12 ONE
  go_wp2_with (first
    | rw [← EF.out, ← E4.out]
    | (refine wpList_store_row rfl 40 _ _ rfl f (fcs 0 false false) rfl rfl 40 _ RR4.out size_fd rfl (fcs_one _ _ _) ?_; rw [← E5.out]))
  have XD5 : Ext V5 V5.drew := (Ext.refl V5).drewN 1
  have SD := hid (S5.out.ext XD5)
  have ST := hid (store_whole V5.drew (bx + 2) 29 29 zst (dcs nx op lv bg sm ls) SD.out.2.1.2.2.1 (by rw [dcs_size]; exact size_st) rfl ONZ.out)
  have FIN := hid (SD.out.done (dcs nx op lv bg sm ls))
  refine wp_region_held_drew (S := fun V => Kept (fun q => q ≠ bx + 2) V5 V) (by kernel_rfl) (Kept.of_ext XD5) (fun hHeld => ?_)
  refine takeE (v := .agg (dcs nx op lv bg sm ls)) 0 70 rfl rfl (by kernel_rfl) (by kernel_rfl) (by kernel_rfl) (fun _ _ _ h => h) ?_ hHeld ?_
  · exact yields_row 29 (.tmp 4) rfl (by rfl) bx (by rfl) 29 _ (0, 0) _ (fun V hV => Kept.row hV (by omega) RS.out) Try.underlying29 rfl (by rw [dcs_size]; exact size_st)
  simp only [Act.put, List.setIfInBounds_toArray, List.set_cons_zero, List.set_cons_succ]
  refine takeE (v := ?_) 1 71 rfl rfl (by kernel_rfl) (by kernel_rfl) (by kernel_rfl) (fun _ _ _ h => h) (Or.inl ⟨by rfl, fun V hV => ?_⟩) hHeld ?_
  rotate_left
  · (go_simp; try with_reducible rfl)
  simp only [Act.put, List.setIfInBounds_toArray, List.set_cons_zero, List.set_cons_succ]
  refine takeE (v := ?_) 2 72 rfl rfl (by kernel_rfl) (by kernel_rfl) (by kernel_rfl) (fun _ _ _ h => h) (Or.inl ⟨by rfl, fun V hV => ?_⟩) hHeld ?_
  rotate_left
  · (go_simp; try with_reducible rfl)
  simp only [Act.put, List.setIfInBounds_toArray, List.set_cons_zero, List.set_cons_succ]
  refine takeE (v := ?_) 3 73 rfl rfl (by kernel_rfl) (by kernel_rfl) (by kernel_rfl) (fun _ _ _ h => h) (Or.inl ⟨by rfl, fun V hV => ?_⟩) hHeld ?_
  rotate_left
  · (go_simp; try with_reducible rfl)
  simp only [Act.put, List.setIfInBounds_toArray, List.set_cons_zero, List.set_cons_succ]
  refine takeE (v := .agg (fcs 0 false false)) 4 74 rfl rfl (by kernel_rfl) (by kernel_rfl) (by kernel_rfl) (fun _ _ _ h => h) ?_ hHeld ?_
  · exact yields_row 40 (.tmp 10) rfl (by rfl) f (by rfl) 40 _ (0, 0) _ (fun V hV => Kept.row hV (by have := LF.out; omega) FF.out) Try.underlying40 rfl size_fd
  simp only [Act.put, List.setIfInBounds_toArray, List.set_cons_zero, List.set_cons_succ]
  refine takeE (v := ?_) 5 75 rfl rfl (by kernel_rfl) (by kernel_rfl) (by kernel_rfl) (fun _ _ _ h => h) (Or.inl ⟨by rfl, fun V hV => ?_⟩) hHeld ?_
  rotate_left
  · (go_simp; try with_reducible rfl)
  simp only [Act.put, List.setIfInBounds_toArray, List.set_cons_zero, List.set_cons_succ]
  refine takeE (v := .bool true) 6 76 rfl rfl (by kernel_rfl) (by kernel_rfl) (by kernel_rfl) (fun _ _ _ h => h) (Or.inl ⟨by rfl, fun V hV => ?_⟩) hHeld ?_
  · exact exec_eqlF 0 false false V _ _ _ rfl rfl rfl
  simp only [Act.put, List.setIfInBounds_toArray, List.set_cons_zero, List.set_cons_succ]
  refine takeE (v := ?_) 7 77 rfl rfl (by kernel_rfl) (by kernel_rfl) (by kernel_rfl) (fun _ _ _ h => h) (Or.inl ⟨by rfl, fun V hV => ?_⟩) hHeld ?_
  rotate_left
  · (go_simp; try with_reducible rfl)
  simp only [Act.put, List.setIfInBounds_toArray, List.set_cons_zero, List.set_cons_succ]
  have hH2 := hHeld.setRow (g := bx + 2) (fun hne => hne rfl) (dcs nx op lv bg sm ls)
  refine storeN 8 rfl rfl (by kernel_rfl) (by rfl) (w' := V5.drew.setRow (bx + 2) (dcs nx op lv bg sm ls)) (exec_store 29 (.tmp 6) (.tmp 70) rfl ST.out) hH2 ?_
  refine takeE (v := ?_) 9 7 rfl rfl (by kernel_rfl) (by kernel_rfl) (by kernel_rfl) (fun _ _ _ h => h) (Or.inl ⟨by rfl, fun V hV => ?_⟩) hH2 ?_
  rotate_left
  · (go_simp; try with_reducible rfl)
  simp only [Act.put, List.setIfInBounds_toArray, List.set_cons_zero, List.set_cons_succ]
  refine wpAnyH_done (by kernel_rfl) ?_ _
  clear hHeld hH2 ST SD
  go_wp2_with fail
  refine bodyPost_ret (results_cell_tmp1 Try.results10 _ _ (bx + 2) 29 _ (0, 0) _ rfl FIN.out.1 Try.underlying29 rfl (by rw [dcs_size]; exact size_st)) rfl ?_
  exact ⟨rfl, FIN.out.2⟩

set_option maxHeartbeats 4000000 in
theorem step_tick (b h : Nat) (nx : List Int) (op : Int) (lst : List Int) (lv : Value) (bg : Int) (sm : Bool) (ls kind layer seq later rtt : Int) (w : World) (d : DetV w b h (nx, (op, lst), bg, sm, ls)) (hl : lv.oneCell' = true) (s0 : 0 ≤ seq) (s1 : seq < 4294967296) (m1 M : Int) (em1 : max later (-5) = m1) (em : min m1 1048576 = M) (hM0 : -5 ≤ M) (hM1 : M ≤ 1048576) (hk : (kind == 1) = false) (l0 : 0 ≤ layer) (l1 : layer < 8) (q : ls + M < 0 ∨ 1099511627776 < ls + M) :
    Calls Try.prog 10 #[.pointer (some ⟨b, 0, none⟩), .agg (dcs nx op lv bg sm ls), .agg (opc kind layer seq later rtt)] w fun e w' => e = .returned (.tuple #[.agg (dcs nx op lv bg sm ls), .bool true]) ∧ DetV w' b h (nx, (op, lst), bg, sm, ls) ∧ Kept (fun q => q ≠ b ∧ q ≠ h) w w' := by
  obtain ⟨ls0, ls1⟩ := d.1.2.2.2.2
  simp only at ls0 ls1
  obtain ⟨V0, e0⟩ : ∃ V0, V0 = w.alloc (.cells (dcs nx op lv bg sm ls) 29) := ⟨_, rfl⟩
  obtain ⟨V1, e1⟩ : ∃ V1, V1 = V0.alloc (.cells (opc kind layer seq later rtt) 33) := ⟨_, rfl⟩
  obtain ⟨V2, e2⟩ : ∃ V2, V2 = V1.alloc (.cells zst 29) := ⟨_, rfl⟩
  have x0 : Ext w V0 := by rw [e0]; exact (Ext.refl w).alloc _
  have x1 : Ext V0 V1 := by rw [e1]; exact (Ext.refl V0).alloc _
  have x2 : Ext V1 V2 := by rw [e2]; exact (Ext.refl V1).alloc _
  obtain ⟨bx, ebx⟩ : ∃ bx, bx = w.heap.size := ⟨_, rfl⟩
  have r0 : V0.heap[bx]? = some (.cells (dcs nx op lv bg sm ls) 29 (0, 0)) := by rw [e0, ebx]; exact heap_alloc_new w _
  have z0 : V0.heap.size = bx + 1 := by rw [e0, ebx, World.size_alloc]
  have r1 : V1.heap[bx + 1]? = some (.cells (opc kind layer seq later rtt) 33 (0, 0)) := by rw [e1, ← z0]; exact heap_alloc_new V0 _
  have z1 : V1.heap.size = bx + 2 := by rw [e1, World.size_alloc, z0]
  have r2 : V2.heap[bx + 2]? = some (.cells zst 29 (0, 0)) := by rw [e2, ← z1]; exact heap_alloc_new V1 _
  have XX := x0.trans (x1.trans x2)
  have SPP : Sp w V2 b h bx (nx, (op, lst), bg, sm, ls) (dcs nx op lv bg sm ls) (opc kind layer seq later rtt) := ⟨d.ext XX, ⟨x2.row (x1.row r0), x2.row r1, r2, by omega⟩, Kept.of_ext XX, d.lt⟩
  have y0 := SPP.2.1.op 0 (.int .i64 kind) rfl
  have y1 := SPP.2.1.op 1 (.int .i64 layer) rfl
  have y2 := SPP.2.1.op 2 (.int .u32 seq) rfl
  have y3 := SPP.2.1.op 3 (.int .i64 later) rfl
  have y4 := SPP.2.1.op 4 (.int .i64 rtt) rfl
  have y12 := SPP.2.1.st 12 (.int .i64 ls) rfl
  have ONE := hid (dcs_one nx op lv bg sm ls hl)
  have RR0 := hid SPP.2.1.1
  have SS := hid SPP
  unfold zst at e2
  rw [e1, e0] at e2
  have E2 := hid e2
  have EB := hid ebx
  have OB := hid (on_bad b h _ layer seq (ls + M) rtt V2 SPP.1 (.inr (.inl q)))
  have WA : Hid (∀ V, Calls Try.prog 12 #[.int .i64 (ls + M)] V fun e w' => e = .returned (.bool false) ∧ w' = V) := fun V => by
    have := within_any (ls + M) V
    rw [range_no q] at this
    exact this
  clear q
  clear e0 e1 e2 x0 x1 x2 r0 r1 r2 z0 z1 ebx XX SPP d
  go_enter Try.func10, Try.ntmps10
  go_wp2_with (first | rw [← EB.out, ← E2.out])
  refine OB.out.mono ?_
  rintro e V3 ⟨rfl, x3⟩
  have S3 := hid (SS.out.ext x3)
  obtain ⟨V4, e4⟩ : ∃ V4, V4 = V3.alloc (.cells (fcs 0 false false) 40) := ⟨_, rfl⟩
  obtain ⟨f, ef⟩ : ∃ f, f = V3.heap.size := ⟨_, rfl⟩
  have R4 : V4.heap[f]? = some (.cells (fcs 0 false false) 40 (0, 0)) := by rw [e4, ef]; exact heap_alloc_new V3 _
  obtain ⟨V5, e5⟩ : ∃ V5, V5 = V4.setRow f (fcs 0 false false) := ⟨_, rfl⟩
  have lf : bx + 2 < f := by rw [ef]; exact S3.out.lt
  have S5 := hid ((S3.out.ext (show Ext V3 V4 by rw [e4]; exact (Ext.refl V3).alloc _)).row f lf (fcs 0 false false))
  have F5 : Hid (V5.heap[f]? = some (.cells (fcs 0 false false) 40 (0, 0))) := by show _ = _; rw [e5]; exact setRow_heap _ _ _ _ _ _ R4
  rw [← e5] at S5
  have RR4 := hid R4
  unfold fcs at e4
  have E4 := hid e4
  have E5 := hid e5
  have EF := hid ef
  have LF := hid lf
  clear e4 e5 ef lf R4 S3
  have FF := hid F5.out
  have RS := hid S5.out.2.1.1
  have q12 := S5.out.2.1.st 12 (.int .i64 ls) rfl
  have q0 := S5.out.2.1.op 0 (.int .i64 kind) rfl
  have q1 := S5.out.2.1.op 1 (.int .i64 layer) rfl
  have q4 := S5.out.2.1.op 4 (.int .i64 rtt) rfl
  have ONZ := ONE
  clear OB x3 SS RR0 y0 y1 y2 y3 y4 y12 ONE
  go_wp2_with (first
    | rw [← EF.out, ← E4.out]
    | (refine wpList_store_row rfl 40 _ _ rfl f (fcs 0 false false) rfl rfl 40 _ RR4.out size_fd rfl (fcs_one _ _ _) ?_; rw [← E5.out]))
  refine (WA.out _).mono ?_
  rintro e w1 ⟨rfl, ew⟩
  obtain rfl : V5 = w1 := ew.symm
  go_wp2_with fail
  have XD5 : Ext V5 V5.drew := (Ext.refl V5).drewN 1
  have SD := hid (S5.out.ext XD5)
  have ST := hid (store_whole V5.drew (bx + 2) 29 29 zst (dcs nx op lv bg sm ls) SD.out.2.1.2.2.1 (by rw [dcs_size]; exact size_st) rfl ONZ.out)
  have FIN := hid (SD.out.done (dcs nx op lv bg sm ls))
  refine wp_region_held_drew (S := fun V => Kept (fun q => q ≠ bx + 2) V5 V) (by kernel_rfl) (Kept.of_ext XD5) (fun hHeld => ?_)
  refine takeE (v := .agg (dcs nx op lv bg sm ls)) 0 70 rfl rfl (by kernel_rfl) (by kernel_rfl) (by kernel_rfl) (fun _ _ _ h => h) ?_ hHeld ?_
  · exact yields_row 29 (.tmp 4) rfl (by rfl) bx (by rfl) 29 _ (0, 0) _ (fun V hV => Kept.row hV (by omega) RS.out) Try.underlying29 rfl (by rw [dcs_size]; exact size_st)
  simp only [Act.put, List.setIfInBounds_toArray, List.set_cons_zero, List.set_cons_succ]
  refine takeE (v := ?_) 1 71 rfl rfl (by kernel_rfl) (by kernel_rfl) (by kernel_rfl) (fun _ _ _ h => h) (Or.inl ⟨by rfl, fun V hV => ?_⟩) hHeld ?_
  rotate_left
  · (go_simp; try with_reducible rfl)
  simp only [Act.put, List.setIfInBounds_toArray, List.set_cons_zero, List.set_cons_succ]
  refine takeE (v := ?_) 2 72 rfl rfl (by kernel_rfl) (by kernel_rfl) (by kernel_rfl) (fun _ _ _ h => h) (Or.inl ⟨by rfl, fun V hV => ?_⟩) hHeld ?_
  rotate_left
  · (go_simp; try with_reducible rfl)
  simp only [Act.put, List.setIfInBounds_toArray, List.set_cons_zero, List.set_cons_succ]
  refine takeE (v := ?_) 3 73 rfl rfl (by kernel_rfl) (by kernel_rfl) (by kernel_rfl) (fun _ _ _ h => h) (Or.inl ⟨by rfl, fun V hV => ?_⟩) hHeld ?_
  rotate_left
  · (go_simp; try with_reducible rfl)
  simp only [Act.put, List.setIfInBounds_toArray, List.set_cons_zero, List.set_cons_succ]
  refine takeE (v := .agg (fcs 0 false false)) 4 74 rfl rfl (by kernel_rfl) (by kernel_rfl) (by kernel_rfl) (fun _ _ _ h => h) ?_ hHeld ?_
  · exact yields_row 40 (.tmp 10) rfl (by rfl) f (by rfl) 40 _ (0, 0) _ (fun V hV => Kept.row hV (by have := LF.out; omega) FF.out) Try.underlying40 rfl size_fd
  simp only [Act.put, List.setIfInBounds_toArray, List.set_cons_zero, List.set_cons_succ]
  refine takeE (v := ?_) 5 75 rfl rfl (by kernel_rfl) (by kernel_rfl) (by kernel_rfl) (fun _ _ _ h => h) (Or.inl ⟨by rfl, fun V hV => ?_⟩) hHeld ?_
  rotate_left
  · (go_simp; try with_reducible rfl)
  simp only [Act.put, List.setIfInBounds_toArray, List.set_cons_zero, List.set_cons_succ]
  refine takeE (v := .bool true) 6 76 rfl rfl (by kernel_rfl) (by kernel_rfl) (by kernel_rfl) (fun _ _ _ h => h) (Or.inl ⟨by rfl, fun V hV => ?_⟩) hHeld ?_
  · exact exec_eqlF 0 false false V _ _ _ rfl rfl rfl
  simp only [Act.put, List.setIfInBounds_toArray, List.set_cons_zero, List.set_cons_succ]
  refine takeE (v := ?_) 7 77 rfl rfl (by kernel_rfl) (by kernel_rfl) (by kernel_rfl) (fun _ _ _ h => h) (Or.inl ⟨by rfl, fun V hV => ?_⟩) hHeld ?_
  rotate_left
  · (go_simp; try with_reducible rfl)
  simp only [Act.put, List.setIfInBounds_toArray, List.set_cons_zero, List.set_cons_succ]
  have hH2 := hHeld.setRow (g := bx + 2) (fun hne => hne rfl) (dcs nx op lv bg sm ls)
  refine storeN 8 rfl rfl (by kernel_rfl) (by rfl) (w' := V5.drew.setRow (bx + 2) (dcs nx op lv bg sm ls)) (exec_store 29 (.tmp 6) (.tmp 70) rfl ST.out) hH2 ?_
  refine takeE (v := ?_) 9 7 rfl rfl (by kernel_rfl) (by kernel_rfl) (by kernel_rfl) (fun _ _ _ h => h) (Or.inl ⟨by rfl, fun V hV => ?_⟩) hH2 ?_
  rotate_left
  · (go_simp; try with_reducible rfl)
  simp only [Act.put, List.setIfInBounds_toArray, List.set_cons_zero, List.set_cons_succ]
  refine wpAnyH_done (by kernel_rfl) ?_ _
  clear hHeld hH2 ST SD
  go_wp2_with fail
  refine bodyPost_ret (results_cell_tmp1 Try.results10 _ _ (bx + 2) 29 _ (0, 0) _ rfl FIN.out.1 Try.underlying29 rfl (by rw [dcs_size]; exact size_st)) rfl ?_
  exact ⟨rfl, FIN.out.2⟩

set_option maxHeartbeats 4000000 in
theorem step_rtt (b h : Nat) (nx : List Int) (op : Int) (lst : List Int) (lv : Value) (bg : Int) (sm : Bool) (ls kind layer seq later rtt : Int) (w : World) (d : DetV w b h (nx, (op, lst), bg, sm, ls)) (hl : lv.oneCell' = true) (s0 : 0 ≤ seq) (s1 : seq < 4294967296) (m1 M : Int) (em1 : max later (-5) = m1) (em : min m1 1048576 = M) (hM0 : -5 ≤ M) (hM1 : M ≤ 1048576) (hk : (kind == 1) = false) (l0 : 0 ≤ layer) (l1 : layer < 8) (t0 : 0 ≤ ls + M) (t1 : ls + M ≤ 1099511627776) (q : rtt < 0 ∨ 1099511627776 < rtt) :
    Calls Try.prog 10 #[.pointer (some ⟨b, 0, none⟩), .agg (dcs nx op lv bg sm ls), .agg (opc kind layer seq later rtt)] w fun e w' => e = .returned (.tuple #[.agg (dcs nx op lv bg sm ls), .bool true]) ∧ DetV w' b h (nx, (op, lst), bg, sm, ls) ∧ Kept (fun q => q ≠ b ∧ q ≠ h) w w' := by
  obtain ⟨ls0, ls1⟩ := d.1.2.2.2.2
  simp only at ls0 ls1
  obtain ⟨V0, e0⟩ : ∃ V0, V0 = w.alloc (.cells (dcs nx op lv bg sm ls) 29) := ⟨_, rfl⟩
  obtain ⟨V1, e1⟩ : ∃ V1, V1 = V0.alloc (.cells (opc kind layer seq later rtt) 33) := ⟨_, rfl⟩
  obtain ⟨V2, e2⟩ : ∃ V2, V2 = V1.alloc (.cells zst 29) := ⟨_, rfl⟩
  have x0 : Ext w V0 := by rw [e0]; exact (Ext.refl w).alloc _
  have x1 : Ext V0 V1 := by rw [e1]; exact (Ext.refl V0).alloc _
  have x2 : Ext V1 V2 := by rw [e2]; exact (Ext.refl V1).alloc _
  obtain ⟨bx, ebx⟩ : ∃ bx, bx = w.heap.size := ⟨_, rfl⟩
  have r0 : V0.heap[bx]? = some (.cells (dcs nx op lv bg sm ls) 29 (0, 0)) := by rw [e0, ebx]; exact heap_alloc_new w _
  have z0 : V0.heap.size = bx + 1 := by rw [e0, ebx, World.size_alloc]
  have r1 : V1.heap[bx + 1]? = some (.cells (opc kind layer seq later rtt) 33 (0, 0)) := by rw [e1, ← z0]; exact heap_alloc_new V0 _
  have z1 : V1.heap.size = bx + 2 := by rw [e1, World.size_alloc, z0]
  have r2 : V2.heap[bx + 2]? = some (.cells zst 29 (0, 0)) := by rw [e2, ← z1]; exact heap_alloc_new V1 _
  have XX := x0.trans (x1.trans x2)
  have SPP : Sp w V2 b h bx (nx, (op, lst), bg, sm, ls) (dcs nx op lv bg sm ls) (opc kind layer seq later rtt) := ⟨d.ext XX, ⟨x2.row (x1.row r0), x2.row r1, r2, by omega⟩, Kept.of_ext XX, d.lt⟩
  have y0 := SPP.2.1.op 0 (.int .i64 kind) rfl
  have y1 := SPP.2.1.op 1 (.int .i64 layer) rfl
  have y2 := SPP.2.1.op 2 (.int .u32 seq) rfl
  have y3 := SPP.2.1.op 3 (.int .i64 later) rfl
  have y4 := SPP.2.1.op 4 (.int .i64 rtt) rfl
  have y12 := SPP.2.1.st 12 (.int .i64 ls) rfl
  have ONE := hid (dcs_one nx op lv bg sm ls hl)
  have RR0 := hid SPP.2.1.1
  have SS := hid SPP
  unfold zst at e2
  rw [e1, e0] at e2
  have E2 := hid e2
  have EB := hid ebx
  have OB := hid (on_bad b h _ layer seq (ls + M) rtt V2 SPP.1 (.inr (.inr q)))
  have WA : Hid (∀ V, Calls Try.prog 12 #[.int .i64 (ls + M)] V fun e w' => e = .returned (.bool true) ∧ w' = V) := fun V => by
    have := within_any (ls + M) V
    rw [range_yes t0 t1] at this
    exact this
  have WB : Hid (∀ V, Calls Try.prog 12 #[.int .i64 rtt] V fun e w' => e = .returned (.bool false) ∧ w' = V) := fun V => by
    have := within_any rtt V
    rw [range_no q] at this
    exact this
  clear q
  clear e0 e1 e2 x0 x1 x2 r0 r1 r2 z0 z1 ebx XX SPP d
  go_enter Try.func10, Try.ntmps10
  go_wp2_with (first | rw [← EB.out, ← E2.out])
  refine OB.out.mono ?_
  rintro e V3 ⟨rfl, x3⟩
  have S3 := hid (SS.out.ext x3)
  obtain ⟨V4, e4⟩ : ∃ V4, V4 = V3.alloc (.cells (fcs 0 false false) 40) := ⟨_, rfl⟩
  obtain ⟨f, ef⟩ : ∃ f, f = V3.heap.size := ⟨_, rfl⟩
  have R4 : V4.heap[f]? = some (.cells (fcs 0 false false) 40 (0, 0)) := by rw [e4, ef]; exact heap_alloc_new V3 _
  obtain ⟨V5, e5⟩ : ∃ V5, V5 = V4.setRow f (fcs 0 false false) := ⟨_, rfl⟩
  have lf : bx + 2 < f := by rw [ef]; exact S3.out.lt
  have S5 := hid ((S3.out.ext (show Ext V3 V4 by rw [e4]; exact (Ext.refl V3).alloc _)).row f lf (fcs 0 false false))
  have F5 : Hid (V5.heap[f]? = some (.cells (fcs 0 false false) 40 (0, 0))) := by show _ = _; rw [e5]; exact setRow_heap _ _ _ _ _ _ R4
  rw [← e5] at S5
  have RR4 := hid R4
  unfold fcs at e4
  have E4 := hid e4
  have E5 := hid e5
  have EF := hid ef
  have LF := hid lf
  clear e4 e5 ef lf R4 S3
  have FF := hid F5.out
  have RS := hid S5.out.2.1.1
  have q12 := S5.out.2.1.st 12 (.int .i64 ls) rfl
  have q0 := S5.out.2.1.op 0 (.int .i64 kind) rfl
  have q1 := S5.out.2.1.op 1 (.int .i64 layer) rfl
  have q4 := S5.out.2.1.op 4 (.int .i64 rtt) rfl
  have ONZ := ONE
  clear OB x3 SS RR0 y0 y1 y2 y3 y4 y12 ONE
  go_wp2_with (first
    | rw [← EF.out, ← E4.out]
    | (refine wpList_store_row rfl 40 _ _ rfl f (fcs 0 false false) rfl rfl 40 _ RR4.out size_fd rfl (fcs_one _ _ _) ?_; rw [← E5.out]))
  refine (WA.out _).mono ?_
  rintro e w1 ⟨rfl, ew⟩
  obtain rfl : V5 = w1 := ew.symm
  go_wp2_with fail
  refine (WB.out _).mono ?_
  rintro e w1 ⟨rfl, ew⟩
  obtain rfl : V5 = w1 := ew.symm
  go_wp2_with fail
  have XD5 : Ext V5 V5.drew := (Ext.refl V5).drewN 1
  have SD := hid (S5.out.ext XD5)
  have ST := hid (store_whole V5.drew (bx + 2) 29 29 zst (dcs nx op lv bg sm ls) SD.out.2.1.2.2.1 (by rw [dcs_size]; exact size_st) rfl ONZ.out)
  have FIN := hid (SD.out.done (dcs nx op lv bg sm ls))
  refine wp_region_held_drew (S := fun V => Kept (fun q => q ≠ bx + 2) V5 V) (by kernel_rfl) (Kept.of_ext XD5) (fun hHeld => ?_)
  refine takeE (v := .agg (dcs nx op lv bg sm ls)) 0 70 rfl rfl (by kernel_rfl) (by kernel_rfl) (by kernel_rfl) (fun _ _ _ h => h) ?_ hHeld ?_
  · exact yields_row 29 (.tmp 4) rfl (by rfl) bx (by rfl) 29 _ (0, 0) _ (fun V hV => Kept.row hV (by omega) RS.out) Try.underlying29 rfl (by rw [dcs_size]; exact size_st)
  simp only [Act.put, List.setIfInBounds_toArray, List.set_cons_zero, List.set_cons_succ]
  refine takeE (v := ?_) 1 71 rfl rfl (by kernel_rfl) (by kernel_rfl) (by kernel_rfl) (fun _ _ _ h => h) (Or.inl ⟨by rfl, fun V hV => ?_⟩) hHeld ?_
  rotate_left
  · (go_simp; try with_reducible rfl)
  simp only [Act.put, List.setIfInBounds_toArray, List.set_cons_zero, List.set_cons_succ]
  refine takeE (v := ?_) 2 72 rfl rfl (by kernel_rfl) (by kernel_rfl) (by kernel_rfl) (fun _ _ _ h => h) (Or.inl ⟨by rfl, fun V hV => ?_⟩) hHeld ?_
  rotate_left
  · (go_simp; try with_reducible rfl)
  simp only [Act.put, List.setIfInBounds_toArray, List.set_cons_zero, List.set_cons_succ]
  refine takeE (v := ?_) 3 73 rfl rfl (by kernel_rfl) (by kernel_rfl) (by kernel_rfl) (fun _ _ _ h => h) (Or.inl ⟨by rfl, fun V hV => ?_⟩) hHeld ?_
  rotate_left
  · (go_simp; try with_reducible rfl)
  simp only [Act.put, List.setIfInBounds_toArray, List.set_cons_zero, List.set_cons_succ]
  refine takeE (v := .agg (fcs 0 false false)) 4 74 rfl rfl (by kernel_rfl) (by kernel_rfl) (by kernel_rfl) (fun _ _ _ h => h) ?_ hHeld ?_
  · exact yields_row 40 (.tmp 10) rfl (by rfl) f (by rfl) 40 _ (0, 0) _ (fun V hV => Kept.row hV (by have := LF.out; omega) FF.out) Try.underlying40 rfl size_fd
  simp only [Act.put, List.setIfInBounds_toArray, List.set_cons_zero, List.set_cons_succ]
  refine takeE (v := ?_) 5 75 rfl rfl (by kernel_rfl) (by kernel_rfl) (by kernel_rfl) (fun _ _ _ h => h) (Or.inl ⟨by rfl, fun V hV => ?_⟩) hHeld ?_
  rotate_left
  · (go_simp; try with_reducible rfl)
  simp only [Act.put, List.setIfInBounds_toArray, List.set_cons_zero, List.set_cons_succ]
  refine takeE (v := .bool true) 6 76 rfl rfl (by kernel_rfl) (by kernel_rfl) (by kernel_rfl) (fun _ _ _ h => h) (Or.inl ⟨by rfl, fun V hV => ?_⟩) hHeld ?_
  · exact exec_eqlF 0 false false V _ _ _ rfl rfl rfl
  simp only [Act.put, List.setIfInBounds_toArray, List.set_cons_zero, List.set_cons_succ]
  refine takeE (v := ?_) 7 77 rfl rfl (by kernel_rfl) (by kernel_rfl) (by kernel_rfl) (fun _ _ _ h => h) (Or.inl ⟨by rfl, fun V hV => ?_⟩) hHeld ?_
  rotate_left
  · (go_simp; try with_reducible rfl)
  simp only [Act.put, List.setIfInBounds_toArray, List.set_cons_zero, List.set_cons_succ]
  have hH2 := hHeld.setRow (g := bx + 2) (fun hne => hne rfl) (dcs nx op lv bg sm ls)
  refine storeN 8 rfl rfl (by kernel_rfl) (by rfl) (w' := V5.drew.setRow (bx + 2) (dcs nx op lv bg sm ls)) (exec_store 29 (.tmp 6) (.tmp 70) rfl ST.out) hH2 ?_
  refine takeE (v := ?_) 9 7 rfl rfl (by kernel_rfl) (by kernel_rfl) (by kernel_rfl) (fun _ _ _ h => h) (Or.inl ⟨by rfl, fun V hV => ?_⟩) hH2 ?_
  rotate_left
  · (go_simp; try with_reducible rfl)
  simp only [Act.put, List.setIfInBounds_toArray, List.set_cons_zero, List.set_cons_succ]
  refine wpAnyH_done (by kernel_rfl) ?_ _
  clear hHeld hH2 ST SD
  go_wp2_with fail
  refine bodyPost_ret (results_cell_tmp1 Try.results10 _ _ (bx + 2) 29 _ (0, 0) _ rfl FIN.out.1 Try.underlying29 rfl (by rw [dcs_size]; exact size_st)) rfl ?_
  exact ⟨rfl, FIN.out.2⟩

set_option maxHeartbeats 4000000 in
theorem step_stale (b h : Nat) (nx : List Int) (op : Int) (lst : List Int) (lv : Value) (bg : Int) (sm : Bool) (ls kind layer seq later rtt : Int) (w : World) (d : DetV w b h (nx, (op, lst), bg, sm, ls)) (hl : lv.oneCell' = true) (s0 : 0 ≤ seq) (s1 : seq < 4294967296) (m1 M : Int) (em1 : max later (-5) = m1) (em : min m1 1048576 = M) (hM0 : -5 ≤ M) (hM1 : M ≤ 1048576) (hk : (kind == 1) = false) (l0 : 0 ≤ layer) (l1 : layer < 8) (t0 : 0 ≤ ls + M) (t1 : ls + M ≤ 1099511627776) (g0 : 0 ≤ rtt) (g1 : rtt ≤ 1099511627776) (q : ls + M < ls) :
    Calls Try.prog 10 #[.pointer (some ⟨b, 0, none⟩), .agg (dcs nx op lv bg sm ls), .agg (opc kind layer seq later rtt)] w fun e w' => e = .returned (.tuple #[.agg (dcs nx op lv bg sm ls), .bool true]) ∧ DetV w' b h (nx, (op, lst), bg, sm, ls) ∧ Kept (fun q => q ≠ b ∧ q ≠ h) w w' := by
  obtain ⟨ls0, ls1⟩ := d.1.2.2.2.2
  simp only at ls0 ls1
  obtain ⟨V0, e0⟩ : ∃ V0, V0 = w.alloc (.cells (dcs nx op lv bg sm ls) 29) := ⟨_, rfl⟩
  obtain ⟨V1, e1⟩ : ∃ V1, V1 = V0.alloc (.cells (opc kind layer seq later rtt) 33) := ⟨_, rfl⟩
  obtain ⟨V2, e2⟩ : ∃ V2, V2 = V1.alloc (.cells zst 29) := ⟨_, rfl⟩
  have x0 : Ext w V0 := by rw [e0]; exact (Ext.refl w).alloc _
  have x1 : Ext V0 V1 := by rw [e1]; exact (Ext.refl V0).alloc _
  have x2 : Ext V1 V2 := by rw [e2]; exact (Ext.refl V1).alloc _
  obtain ⟨bx, ebx⟩ : ∃ bx, bx = w.heap.size := ⟨_, rfl⟩
  have r0 : V0.heap[bx]? = some (.cells (dcs nx op lv bg sm ls) 29 (0, 0)) := by rw [e0, ebx]; exact heap_alloc_new w _
  have z0 : V0.heap.size = bx + 1 := by rw [e0, ebx, World.size_alloc]
  have r1 : V1.heap[bx + 1]? = some (.cells (opc kind layer seq later rtt) 33 (0, 0)) := by rw [e1, ← z0]; exact heap_alloc_new V0 _
  have z1 : V1.heap.size = bx + 2 := by rw [e1, World.size_alloc, z0]
  have r2 : V2.heap[bx + 2]? = some (.cells zst 29 (0, 0)) := by rw [e2, ← z1]; exact heap_alloc_new V1 _
  have XX := x0.trans (x1.trans x2)
  have SPP : Sp w V2 b h bx (nx, (op, lst), bg, sm, ls) (dcs nx op lv bg sm ls) (opc kind layer seq later rtt) := ⟨d.ext XX, ⟨x2.row (x1.row r0), x2.row r1, r2, by omega⟩, Kept.of_ext XX, d.lt⟩
  have y0 := SPP.2.1.op 0 (.int .i64 kind) rfl
  have y1 := SPP.2.1.op 1 (.int .i64 layer) rfl
  have y2 := SPP.2.1.op 2 (.int .u32 seq) rfl
  have y3 := SPP.2.1.op 3 (.int .i64 later) rfl
  have y4 := SPP.2.1.op 4 (.int .i64 rtt) rfl
  have y12 := SPP.2.1.st 12 (.int .i64 ls) rfl
  have ONE := hid (dcs_one nx op lv bg sm ls hl)
  have RR0 := hid SPP.2.1.1
  have SS := hid SPP
  unfold zst at e2
  rw [e1, e0] at e2
  have E2 := hid e2
  have EB := hid ebx
  have OB := hid (on_stale b h _ layer seq (ls + M) rtt V2 SPP.1 (by unfold badOn; omega) q)
  have WA : Hid (∀ V, Calls Try.prog 12 #[.int .i64 (ls + M)] V fun e w' => e = .returned (.bool true) ∧ w' = V) := fun V => by
    have := within_any (ls + M) V
    rw [range_yes t0 t1] at this
    exact this
  have WB : Hid (∀ V, Calls Try.prog 12 #[.int .i64 rtt] V fun e w' => e = .returned (.bool true) ∧ w' = V) := fun V => by
    have := within_any rtt V
    rw [range_yes g0 g1] at this
    exact this
  clear e0 e1 e2 x0 x1 x2 r0 r1 r2 z0 z1 ebx XX SPP d
  go_enter Try.func10, Try.ntmps10
  go_wp2_with (first | rw [← EB.out, ← E2.out])
  refine OB.out.mono ?_
  rintro e V3 ⟨rfl, x3⟩
  have S3 := hid (SS.out.ext x3)
  obtain ⟨V4, e4⟩ : ∃ V4, V4 = V3.alloc (.cells (fcs 0 false false) 40) := ⟨_, rfl⟩
  obtain ⟨f, ef⟩ : ∃ f, f = V3.heap.size := ⟨_, rfl⟩
  have R4 : V4.heap[f]? = some (.cells (fcs 0 false false) 40 (0, 0)) := by rw [e4, ef]; exact heap_alloc_new V3 _
  obtain ⟨V5, e5⟩ : ∃ V5, V5 = V4.setRow f (fcs 0 false false) := ⟨_, rfl⟩
  have lf : bx + 2 < f := by rw [ef]; exact S3.out.lt
  have S5 := hid ((S3.out.ext (show Ext V3 V4 by rw [e4]; exact (Ext.refl V3).alloc _)).row f lf (fcs 0 false false))
  have F5 : Hid (V5.heap[f]? = some (.cells (fcs 0 false false) 40 (0, 0))) := by show _ = _; rw [e5]; exact setRow_heap _ _ _ _ _ _ R4
  rw [← e5] at S5
  have RR4 := hid R4
  unfold fcs at e4
  have E4 := hid e4
  have E5 := hid e5
  have EF := hid ef
  have LF := hid lf
  clear e4 e5 ef lf R4 S3
  have FF := hid F5.out
  have RS := hid S5.out.2.1.1
  have q12 := S5.out.2.1.st 12 (.int .i64 ls) rfl
  have q0 := S5.out.2.1.op 0 (.int .i64 kind) rfl
  have q1 := S5.out.2.1.op 1 (.int .i64 layer) rfl
  have q4 := S5.out.2.1.op 4 (.int .i64 rtt) rfl
  have ONZ := ONE
  clear OB x3 SS RR0 y0 y1 y2 y3 y4 y12 ONE
  go_wp2_with (first
    | rw [← EF.out, ← E4.out]
    | (refine wpList_store_row rfl 40 _ _ rfl f (fcs 0 false false) rfl rfl 40 _ RR4.out size_fd rfl (fcs_one _ _ _) ?_; rw [← E5.out]))
  refine (WA.out _).mono ?_
  rintro e w1 ⟨rfl, ew⟩
  obtain rfl : V5 = w1 := ew.symm
  go_wp2_with fail
  refine (WB.out _).mono ?_
  rintro e w1 ⟨rfl, ew⟩
  obtain rfl : V5 = w1 := ew.symm
  go_wp2_with fail
  have XD5 : Ext V5 V5.drew := (Ext.refl V5).drewN 1
  have SD := hid (S5.out.ext XD5)
  have ST := hid (store_whole V5.drew (bx + 2) 29 29 zst (dcs nx op lv bg sm ls) SD.out.2.1.2.2.1 (by rw [dcs_size]; exact size_st) rfl ONZ.out)
  have FIN := hid (SD.out.done (dcs nx op lv bg sm ls))
  refine wp_region_held_drew (S := fun V => Kept (fun q => q ≠ bx + 2) V5 V) (by kernel_rfl) (Kept.of_ext XD5) (fun hHeld => ?_)
  refine takeE (v := .agg (dcs nx op lv bg sm ls)) 0 83 rfl rfl (by kernel_rfl) (by kernel_rfl) (by kernel_rfl) (fun _ _ _ h => h) ?_ hHeld ?_
  · exact yields_row 29 (.tmp 4) rfl (by rfl) bx (by rfl) 29 _ (0, 0) _ (fun V hV => Kept.row hV (by omega) RS.out) Try.underlying29 rfl (by rw [dcs_size]; exact size_st)
  simp only [Act.put, List.setIfInBounds_toArray, List.set_cons_zero, List.set_cons_succ]
  refine takeE (v := ?_) 1 84 rfl rfl (by kernel_rfl) (by kernel_rfl) (by kernel_rfl) (fun _ _ _ h => h) (Or.inl ⟨by rfl, fun V hV => ?_⟩) hHeld ?_
  rotate_left
  · (go_simp; try with_reducible rfl)
  simp only [Act.put, List.setIfInBounds_toArray, List.set_cons_zero, List.set_cons_succ]
  refine takeE (v := ?_) 2 85 rfl rfl (by kernel_rfl) (by kernel_rfl) (by kernel_rfl) (fun _ _ _ h => h) (Or.inl ⟨by rfl, fun V hV => ?_⟩) hHeld ?_
  rotate_left
  · (go_simp; try with_reducible rfl)
  simp only [Act.put, List.setIfInBounds_toArray, List.set_cons_zero, List.set_cons_succ]
  refine takeE (v := ?_) 3 86 rfl rfl (by kernel_rfl) (by kernel_rfl) (by kernel_rfl) (fun _ _ _ h => h) (Or.inl ⟨by rfl, fun V hV => ?_⟩) hHeld ?_
  rotate_left
  · (go_simp; try with_reducible rfl)
  simp only [Act.put, List.setIfInBounds_toArray, List.set_cons_zero, List.set_cons_succ]
  refine takeE (v := .agg (fcs 0 false false)) 4 87 rfl rfl (by kernel_rfl) (by kernel_rfl) (by kernel_rfl) (fun _ _ _ h => h) ?_ hHeld ?_
  · exact yields_row 40 (.tmp 10) rfl (by rfl) f (by rfl) 40 _ (0, 0) _ (fun V hV => Kept.row hV (by have := LF.out; omega) FF.out) Try.underlying40 rfl size_fd
  simp only [Act.put, List.setIfInBounds_toArray, List.set_cons_zero, List.set_cons_succ]
  refine takeE (v := ?_) 5 88 rfl rfl (by kernel_rfl) (by kernel_rfl) (by kernel_rfl) (fun _ _ _ h => h) (Or.inl ⟨by rfl, fun V hV => ?_⟩) hHeld ?_
  rotate_left
  · (go_simp; try with_reducible rfl)
  simp only [Act.put, List.setIfInBounds_toArray, List.set_cons_zero, List.set_cons_succ]
  refine takeE (v := .bool true) 6 89 rfl rfl (by kernel_rfl) (by kernel_rfl) (by kernel_rfl) (fun _ _ _ h => h) (Or.inl ⟨by rfl, fun V hV => ?_⟩) hHeld ?_
  · exact exec_eqlF 0 false false V _ _ _ rfl rfl rfl
  simp only [Act.put, List.setIfInBounds_toArray, List.set_cons_zero, List.set_cons_succ]
  refine takeE (v := ?_) 7 90 rfl rfl (by kernel_rfl) (by kernel_rfl) (by kernel_rfl) (fun _ _ _ h => h) (Or.inl ⟨by rfl, fun V hV => ?_⟩) hHeld ?_
  rotate_left
  · (go_simp; try with_reducible rfl)
  simp only [Act.put, List.setIfInBounds_toArray, List.set_cons_zero, List.set_cons_succ]
  have hH2 := hHeld.setRow (g := bx + 2) (fun hne => hne rfl) (dcs nx op lv bg sm ls)
  refine storeN 8 rfl rfl (by kernel_rfl) (by rfl) (w' := V5.drew.setRow (bx + 2) (dcs nx op lv bg sm ls)) (exec_store 29 (.tmp 6) (.tmp 83) rfl ST.out) hH2 ?_
  refine takeE (v := ?_) 9 7 rfl rfl (by kernel_rfl) (by kernel_rfl) (by kernel_rfl) (fun _ _ _ h => h) (Or.inl ⟨by rfl, fun V hV => ?_⟩) hH2 ?_
  rotate_left
  · (go_simp; try with_reducible rfl)
  simp only [Act.put, List.setIfInBounds_toArray, List.set_cons_zero, List.set_cons_succ]
  refine wpAnyH_done (by kernel_rfl) ?_ _
  clear hHeld hH2 ST SD
  go_wp2_with fail
  refine bodyPost_ret (results_cell_tmp1 Try.results10 _ _ (bx + 2) 29 _ (0, 0) _ rfl FIN.out.1 Try.underlying29 rfl (by rw [dcs_size]; exact size_st)) rfl ?_
  exact ⟨rfl, FIN.out.2⟩

set_option maxHeartbeats 4000000 in
theorem step_good {K : Nat → Prop} (b h : Nat) (nx : List Int) (op : Int) (lst : List Int) (lv : Value) (bg : Int) (sm : Bool) (ls kind seq later rtt : Int) (ly : Nat) (w : World) (d : DetV w b h (nx, (op, lst), bg, sm, ls)) (hv : ListK K w lv lst) (hK : ∀ q, K q → q ≠ b ∧ q ≠ h) (s0 : 0 ≤ seq) (s1 : seq < 4294967296) (m1 M : Int) (em1 : max later (-5) = m1) (em : min m1 1048576 = M) (hM0 : -5 ≤ M) (hM1 : M ≤ 1048576) (hk : (kind == 1) = false) (hly : ly < 8) (t0 : 0 ≤ ls + M) (t1 : ls + M ≤ 1099511627776) (g0 : 0 ≤ rtt) (g1 : rtt ≤ 1099511627776) (q : ¬ ls + M < ls) :
    Calls Try.prog 10 #[.pointer (some ⟨b, 0, none⟩), .agg (dcs nx op lv bg sm ls), .agg (opc kind (ly : Int) seq later rtt)] w fun e w' => ∃ v', e = .returned (.tuple #[v', .bool true]) ∧ DetV w' b h (don (nx, (op, lst), bg, sm, ls) ly seq (ls + M) rtt).1 ∧ DIn (fun q => K q ∨ w.heap.size ≤ q) w' v' (don (nx, (op, lst), bg, sm, ls) ly seq (ls + M) rtt).1 ∧ Kept (fun q => q ≠ b ∧ q ≠ h) w w' := by
  obtain ⟨ls0, ls1⟩ := d.1.2.2.2.2
  simp only at ls0 ls1
  have hl : lv.oneCell' = true := by
    obtain ⟨ao, c, rfl, _⟩ := hv.slice
    rfl
  have FD := hid d.1
  have HV := hid hv
  have l0 : (0 : Int) ≤ (ly : Int) := by omega
  have l1 : (ly : Int) < 8 := by omega
  obtain ⟨V0, e0⟩ : ∃ V0, V0 = w.alloc (.cells (dcs nx op lv bg sm ls) 29) := ⟨_, rfl⟩
  obtain ⟨V1, e1⟩ : ∃ V1, V1 = V0.alloc (.cells (opc kind (ly : Int) seq later rtt) 33) := ⟨_, rfl⟩
  obtain ⟨V2, e2⟩ : ∃ V2, V2 = V1.alloc (.cells zst 29) := ⟨_, rfl⟩
  have x0 : Ext w V0 := by rw [e0]; exact (Ext.refl w).alloc _
  have x1 : Ext V0 V1 := by rw [e1]; exact (Ext.refl V0).alloc _
  have x2 : Ext V1 V2 := by rw [e2]; exact (Ext.refl V1).alloc _
  obtain ⟨bx, ebx⟩ : ∃ bx, bx = w.heap.size := ⟨_, rfl⟩
  have r0 : V0.heap[bx]? = some (.cells (dcs nx op lv bg sm ls) 29 (0, 0)) := by rw [e0, ebx]; exact heap_alloc_new w _
  have z0 : V0.heap.size = bx + 1 := by rw [e0, ebx, World.size_alloc]
  have r1 : V1.heap[bx + 1]? = some (.cells (opc kind (ly : Int) seq later rtt) 33 (0, 0)) := by rw [e1, ← z0]; exact heap_alloc_new V0 _
  have z1 : V1.heap.size = bx + 2 := by rw [e1, World.size_alloc, z0]
  have r2 : V2.heap[bx + 2]? = some (.cells zst 29 (0, 0)) := by rw [e2, ← z1]; exact heap_alloc_new V1 _
  have XX := x0.trans (x1.trans x2)
  have SPP : Sp w V2 b h bx (nx, (op, lst), bg, sm, ls) (dcs nx op lv bg sm ls) (opc kind (ly : Int) seq later rtt) := ⟨d.ext XX, ⟨x2.row (x1.row r0), x2.row r1, r2, by omega⟩, Kept.of_ext XX, d.lt⟩
  have y0 := SPP.2.1.op 0 (.int .i64 kind) rfl
  have y1 := SPP.2.1.op 1 (.int .i64 (ly : Int)) rfl
  have y2 := SPP.2.1.op 2 (.int .u32 seq) rfl
  have y3 := SPP.2.1.op 3 (.int .i64 later) rfl
  have y4 := SPP.2.1.op 4 (.int .i64 rtt) rfl
  have y12 := SPP.2.1.st 12 (.int .i64 ls) rfl
  have ONE := hid (dcs_one nx op lv bg sm ls hl)
  have RR0 := hid SPP.2.1.1
  have SS := hid SPP
  unfold zst at e2
  rw [e1, e0] at e2
  have E2 := hid e2
  have EB := hid ebx
  have OG := on_good b h _ ly seq (ls + M) rtt V2 SPP.1 (by unfold badOn; omega) (by simp only; omega) s0 s1
  have OR : Hid (∀ V, Kept (fun q => q ≠ b ∧ q ≠ h) w V → Calls Try.prog 20 #[.agg (dcs nx op lv bg sm ls), .int .i64 (ly : Int), .int .u32 seq, .int .i64 (ls + M), .int .i64 rtt] V fun e w' => ∃ lv' , e = .returned (.tuple #[.agg (dcs (don (nx, (op, lst), bg, sm, ls) ly seq (ls + M) rtt).1.1 (don (nx, (op, lst), bg, sm, ls) ly seq (ls + M) rtt).1.2.1.1 lv' (don (nx, (op, lst), bg, sm, ls) ly seq (ls + M) rtt).1.2.2.1 (don (nx, (op, lst), bg, sm, ls) ly seq (ls + M) rtt).1.2.2.2.1 (don (nx, (op, lst), bg, sm, ls) ly seq (ls + M) rtt).1.2.2.2.2), .int .i64 (don (nx, (op, lst), bg, sm, ls) ly seq (ls + M) rtt).2.1, .bool (don (nx, (op, lst), bg, sm, ls) ly seq (ls + M) rtt).2.2.1, .bool (don (nx, (op, lst), bg, sm, ls) ly seq (ls + M) rtt).2.2.2]) ∧ ListK (fun q => (K q ∧ q < w.heap.size) ∨ V.heap.size ≤ q) w' lv' (don (nx, (op, lst), bg, sm, ls) ly seq (ls + M) rtt).1.2.1.2 ∧ Ext V w') := fun V kv => by
    refine (on_ref (K := fun q => K q ∧ q < w.heap.size) (nx, (op, lst), bg, sm, ls) _ ly seq (ls + M) rtt V ⟨lv, rfl, (HV.out.mono (fun q hq hk => ⟨hk, hq⟩)).kept kv (fun q hq => hK q hq.1)⟩ FD.out hly s0 s1 t0 t1).mono ?_
    rintro e w' ⟨v', rfl, ⟨lv', rfl, hL⟩, x⟩
    exact ⟨lv', rfl, hL, x⟩
  have WA : Hid (∀ V, Calls Try.prog 12 #[.int .i64 (ls + M)] V fun e w' => e = .returned (.bool true) ∧ w' = V) := fun V => by
    have := within_any (ls + M) V
    rw [range_yes t0 t1] at this
    exact this
  have WB : Hid (∀ V, Calls Try.prog 12 #[.int .i64 rtt] V fun e w' => e = .returned (.bool true) ∧ w' = V) := fun V => by
    have := within_any rtt V
    rw [range_yes g0 g1] at this
    exact this
  generalize don (nx, (op, lst), bg, sm, ls) ly seq (ls + M) rtt = R at *
  obtain ⟨⟨nx', ⟨op', lst'⟩, bg', sm', ls'⟩, L, ev, fi⟩ := R
  unfold fnd at OG
  simp only at OG OR ⊢
  have OB := hid OG
  clear OG FD HV
  clear e0 e1 e2 x0 x1 x2 r0 r1 r2 z0 z1 ebx XX SPP d
  go_enter Try.func10, Try.ntmps10
  go_wp2_with (first | rw [← EB.out, ← E2.out])
  refine OB.out.mono ?_
  rintro e V3 ⟨rfl, d3, k3⟩
  have S3 := hid (SS.out.det k3 d3)
  obtain ⟨V4, e4⟩ : ∃ V4, V4 = V3.alloc (.cells (fcs 0 false false) 40) := ⟨_, rfl⟩
  obtain ⟨f, ef⟩ : ∃ f, f = V3.heap.size := ⟨_, rfl⟩
  have R4 : V4.heap[f]? = some (.cells (fcs 0 false false) 40 (0, 0)) := by rw [e4, ef]; exact heap_alloc_new V3 _
  obtain ⟨V5, e5⟩ : ∃ V5, V5 = V4.setRow f (fcs L ev fi) := ⟨_, rfl⟩
  have lf : bx + 2 < f := by rw [ef]; exact S3.out.lt
  have S5 := hid ((S3.out.ext (show Ext V3 V4 by rw [e4]; exact (Ext.refl V3).alloc _)).row f lf (fcs L ev fi))
  have F5 : Hid (V5.heap[f]? = some (.cells (fcs L ev fi) 40 (0, 0))) := by show _ = _; rw [e5]; exact setRow_heap _ _ _ _ _ _ R4
  rw [← e5] at S5
  have RR4 := hid R4
  unfold fcs at e4
  have E4 := hid e4
  have E5 := hid e5
  have EF := hid ef
  have LF := hid lf
  clear e4 e5 ef lf R4 S3
  have RS := hid S5.out.2.1.1
  have q12 := S5.out.2.1.st 12 (.int .i64 ls) rfl
  have q0 := S5.out.2.1.op 0 (.int .i64 kind) rfl
  have q1 := S5.out.2.1.op 1 (.int .i64 (ly : Int)) rfl
  have q2 := S5.out.2.1.op 2 (.int .u32 seq) rfl
  have q4 := S5.out.2.1.op 4 (.int .i64 rtt) rfl
  clear OB k3 d3 SS RR0 y0 y1 y2 y3 y4 y12 ONE
  go_wp2_with (first
    | rw [← EF.out, ← E4.out]
    | (refine wpList_store_row rfl 40 _ _ rfl f (fcs L ev fi) rfl rfl 40 _ RR4.out size_fd rfl (fcs_one _ _ _) ?_; rw [← E5.out]))
  refine (WA.out _).mono ?_
  rintro e w1 ⟨rfl, ew⟩
  obtain rfl : V5 = w1 := ew.symm
  go_wp2_with (refine wpList_load_row rfl 29 _ rfl bx rfl 29 _ (0, 0) _ RS.out Try.underlying29 rfl (by rw [dcs_size]; exact size_st) ?_)
  refine (WB.out _).mono ?_
  rintro e w1 ⟨rfl, ew⟩
  obtain rfl : V5 = w1 := ew.symm
  go_wp2_with (refine wpList_load_row rfl 29 _ rfl bx rfl 29 _ (0, 0) _ RS.out Try.underlying29 rfl (by rw [dcs_size]; exact size_st) ?_)
  refine (OR.out _ S5.out.2.2.1).mono ?_
  rintro e V6 ⟨lv', rfl, hL, x6⟩
  have S6 := hid (S5.out.ext x6)
  have F6 := hid (x6.row F5.out)
  have hl' : lv'.oneCell' = true := by
    obtain ⟨ao, c, rfl, _⟩ := hL.slice
    rfl
  have ONZ := hid (dcs_one nx' op' lv' bg' sm' ls' hl')
  obtain ⟨V7, e7⟩ : ∃ V7, V7 = V6.alloc (.cells zst 29) := ⟨_, rfl⟩
  obtain ⟨g, eg⟩ : ∃ g, g = V6.heap.size := ⟨_, rfl⟩
  have R7 : V7.heap[g]? = some (.cells zst 29 (0, 0)) := by rw [e7, eg]; exact heap_alloc_new V6 _
  obtain ⟨V8, e8⟩ : ∃ V8, V8 = V7.setRow g (dcs nx' op' lv' bg' sm' ls') := ⟨_, rfl⟩
  have lg : bx + 2 < g := by rw [eg]; exact S6.out.lt
  have fg : f < g := by rw [eg]; exact lt_of_row F6.out
  have X67 : Ext V6 V7 := by rw [e7]; exact (Ext.refl V6).alloc _
  have X68 : Ext V6 V8 := by rw [e8]; exact X67.setRow (by omega) _
  have S8 := hid ((S6.out.ext X67).row g lg (dcs nx' op' lv' bg' sm' ls'))
  have F8 : Hid (V8.heap[g]? = some (.cells (dcs nx' op' lv' bg' sm' ls') 29 (0, 0))) := by show _ = _; rw [e8]; exact setRow_heap _ _ _ _ _ _ R7
  rw [← e8] at S8
  have FF := hid (X68.row F6.out)
  have RR7 := hid R7
  have LL : Hid (∀ r, ListK (fun q => K q ∨ w.heap.size ≤ q) (V8.drew.setRow (bx + 2) r) lv' lst') := fun r => by
    have a1 := S5.out.lt
    have a2 := S5.out.2.1.2.2.2
    have a3 := S5.out.2.2.1.size
    refine ((hL.ext (X68.trans ((Ext.refl V8).drewN 1))).kept (L := fun q => q ≠ bx + 2) ((Kept.refl _ V8.drew).setRow (fun hne => hne rfl) r) (fun q hq => by omega)).mono (fun q _ hq => ?_)
    rcases hq with hq | hq
    · exact .inl hq.1
    · exact .inr (Nat.le_trans a3 hq)
  unfold zst at e7
  have E7 := hid e7
  have E8 := hid e8
  have EG := hid eg
  have LG := hid (And.intro lg fg)
  clear e7 e8 eg lg fg X67 X68 R7 hL x6 hl' F5 S5 F6 S6 OR q12 q0 q1 q2 q4 RS RR4
  go_wp2_with (first
    | rw [← EG.out, ← E7.out]
    | (refine wpList_store_row rfl 29 _ _ rfl g (dcs nx' op' lv' bg' sm' ls') rfl rfl 29 _ RR7.out (by rw [dcs_size]; exact size_st) rfl ONZ.out ?_; rw [← E8.out]))
  have XD8 : Ext V8 V8.drew := (Ext.refl V8).drewN 1
  have SD := hid (S8.out.ext XD8)
  have ST := hid (store_whole V8.drew (bx + 2) 29 29 zst (dcs nx' op' lv' bg' sm' ls') SD.out.2.1.2.2.1 (by rw [dcs_size]; exact size_st) rfl ONZ.out)
  have FIN := hid (SD.out.done (dcs nx' op' lv' bg' sm' ls'))
  refine wp_region_held_drew (S := fun V => Kept (fun q => q ≠ bx + 2) V8 V) (by kernel_rfl) (Kept.of_ext XD8) (fun hHeld => ?_)
  refine takeE (v := .agg (dcs nx' op' lv' bg' sm' ls')) 0 105 rfl rfl (by kernel_rfl) (by kernel_rfl) (by kernel_rfl) (fun _ _ _ h => h) ?_ hHeld ?_
  · exact yields_row 29 (.tmp 12) rfl (by rfl) g (by rfl) 29 _ (0, 0) _ (fun V hV => Kept.row hV (by have := LG.out; omega) F8.out) Try.underlying29 rfl (by rw [dcs_size]; exact size_st)
  simp only [Act.put, List.setIfInBounds_toArray, List.set_cons_zero, List.set_cons_succ]
  refine takeE (v := ?_) 1 106 rfl rfl (by kernel_rfl) (by kernel_rfl) (by kernel_rfl) (fun _ _ _ h => h) (Or.inl ⟨by rfl, fun V hV => ?_⟩) hHeld ?_
  rotate_left
  · (go_simp; try with_reducible rfl)
  simp only [Act.put, List.setIfInBounds_toArray, List.set_cons_zero, List.set_cons_succ]
  refine takeE (v := ?_) 2 107 rfl rfl (by kernel_rfl) (by kernel_rfl) (by kernel_rfl) (fun _ _ _ h => h) (Or.inl ⟨by rfl, fun V hV => ?_⟩) hHeld ?_
  rotate_left
  · (go_simp; try with_reducible rfl)
  simp only [Act.put, List.setIfInBounds_toArray, List.set_cons_zero, List.set_cons_succ]
  refine takeE (v := ?_) 3 108 rfl rfl (by kernel_rfl) (by kernel_rfl) (by kernel_rfl) (fun _ _ _ h => h) (Or.inl ⟨by rfl, fun V hV => ?_⟩) hHeld ?_
  rotate_left
  · (go_simp; try with_reducible rfl)
  simp only [Act.put, List.setIfInBounds_toArray, List.set_cons_zero, List.set_cons_succ]
  refine takeE (v := .agg (fcs L ev fi)) 4 109 rfl rfl (by kernel_rfl) (by kernel_rfl) (by kernel_rfl) (fun _ _ _ h => h) ?_ hHeld ?_
  · exact yields_row 40 (.tmp 10) rfl (by rfl) f (by rfl) 40 _ (0, 0) _ (fun V hV => Kept.row hV (by have := LF.out; omega) FF.out) Try.underlying40 rfl size_fd
  simp only [Act.put, List.setIfInBounds_toArray, List.set_cons_zero, List.set_cons_succ]
  refine takeE (v := ?_) 5 110 rfl rfl (by kernel_rfl) (by kernel_rfl) (by kernel_rfl) (fun _ _ _ h => h) (Or.inl ⟨by rfl, fun V hV => ?_⟩) hHeld ?_
  rotate_left
  · (go_simp; try with_reducible rfl)
  simp only [Act.put, List.setIfInBounds_toArray, List.set_cons_zero, List.set_cons_succ]
  refine takeE (v := ?_) 6 111 rfl rfl (by kernel_rfl) (by kernel_rfl) (by kernel_rfl) (fun _ _ _ h => h) (Or.inl ⟨by rfl, fun V hV => ?_⟩) hHeld ?_
  rotate_left
  · (go_simp; try with_reducible rfl)
  simp only [Act.put, List.setIfInBounds_toArray, List.set_cons_zero, List.set_cons_succ]
  refine takeE (v := ?_) 7 112 rfl rfl (by kernel_rfl) (by kernel_rfl) (by kernel_rfl) (fun _ _ _ h => h) (Or.inl ⟨by rfl, fun V hV => ?_⟩) hHeld ?_
  rotate_left
  · (go_simp; try with_reducible rfl)
  simp only [Act.put, List.setIfInBounds_toArray, List.set_cons_zero, List.set_cons_succ]
  refine takeE (v := ?_) 8 113 rfl rfl (by kernel_rfl) (by kernel_rfl) (by kernel_rfl) (fun _ _ _ h => h) (Or.inl ⟨by rfl, fun V hV => ?_⟩) hHeld ?_
  rotate_left
  · (go_simp; try with_reducible rfl)
  simp only [Act.put, List.setIfInBounds_toArray, List.set_cons_zero, List.set_cons_succ]
  refine takeE (v := .bool true) 9 114 rfl rfl (by kernel_rfl) (by kernel_rfl) (by kernel_rfl) (fun _ _ _ h => h) (Or.inl ⟨by rfl, fun V hV => ?_⟩) hHeld ?_
  · exact exec_eqlF L ev fi V _ _ _ rfl rfl rfl
  simp only [Act.put, List.setIfInBounds_toArray, List.set_cons_zero, List.set_cons_succ]
  refine takeE (v := ?_) 10 115 rfl rfl (by kernel_rfl) (by kernel_rfl) (by kernel_rfl) (fun _ _ _ h => h) (Or.inl ⟨by rfl, fun V hV => ?_⟩) hHeld ?_
  rotate_left
  · (go_simp; try with_reducible rfl)
  simp only [Act.put, List.setIfInBounds_toArray, List.set_cons_zero, List.set_cons_succ]
  have hH2 := hHeld.setRow (g := bx + 2) (fun hne => hne rfl) (dcs nx' op' lv' bg' sm' ls')
  refine storeN 11 rfl rfl (by kernel_rfl) (by rfl) (w' := V8.drew.setRow (bx + 2) (dcs nx' op' lv' bg' sm' ls')) (exec_store 29 (.tmp 6) (.tmp 105) rfl ST.out) hH2 ?_
  refine takeE (v := ?_) 12 7 rfl rfl (by kernel_rfl) (by kernel_rfl) (by kernel_rfl) (fun _ _ _ h => h) (Or.inl ⟨by rfl, fun V hV => ?_⟩) hH2 ?_
  rotate_left
  · (go_simp; try with_reducible rfl)
  simp only [Act.put, List.setIfInBounds_toArray, List.set_cons_zero, List.set_cons_succ]
  refine wpAnyH_done (by kernel_rfl) ?_ _
  clear hHeld hH2 ST SD
  go_wp2_with fail
  refine bodyPost_ret (results_cell_tmp1 Try.results10 _ _ (bx + 2) 29 _ (0, 0) _ rfl FIN.out.1 Try.underlying29 rfl (by rw [dcs_size]; exact size_st)) rfl ?_
  refine ⟨_, rfl, FIN.out.2.1, ⟨lv', rfl, ?_⟩, FIN.out.2.2⟩
  exact LL.out _

end Go.Proofs.Ytlglhggfhlpbjaa.Det

/-
  Walks of step, each way by itself.
-/
import Derived.Test.YtlglhggfhlpbjaaDetAwake
import Derived.Test.YtlglhggfhlpbjaaDetState
namespace Go.Proofs.Ytlglhggfhlpbjaa.Det
set_option linter.unusedVariables false
set_option maxRecDepth 100000
open Go.RowKit Go.Lib Go.Proofs.Ytlglhggfhlpbjaa.His

theorem size_op : (Try.prog.info? 33).map (·.size) = some 5 := by kernel_rfl
def opc (kind layer seq later rtt : Int) : Array Value := #[.int .i64 kind, .int .i64 layer, .int .u32 seq, .int .i64 later, .int .i64 rtt]
/-- three boxes: a state, a call, the result's state -/
def B3 (w V : World) (bx : Nat) (d oc : Array Value) : Prop := V.heap[bx]? = some (.cells d 29 (0, 0)) ∧ V.heap[bx + 1]? = some (.cells oc 33 (0, 0)) ∧ V.heap[bx + 2]? = some (.cells zst 29 (0, 0)) ∧ w.heap.size ≤ bx
theorem B3.kept {w V V' : World} {bx b h : Nat} {d oc : Array Value} (c : B3 w V bx d oc) (k : Kept (fun q => q ≠ b ∧ q ≠ h) V V') (hb : b < w.heap.size) (hh : h < w.heap.size) : B3 w V' bx d oc :=
  ⟨k.row (by have := c.2.2.2; omega) c.1, k.row (by have := c.2.2.2; omega) c.2.1, k.row (by have := c.2.2.2; omega) c.2.2.1, c.2.2.2⟩
theorem B3.ext {w V V' : World} {bx : Nat} {d oc : Array Value} (c : B3 w V bx d oc) (k : Ext V V') : B3 w V' bx d oc := ⟨k.row c.1, k.row c.2.1, k.row c.2.2.1, c.2.2.2⟩
theorem B3.put {w V : World} {bx : Nat} {d oc d' : Array Value} (c : B3 w V bx d oc) (i : Nat) (v : Value) (e : d.setIfInBounds i v = d') : B3 w (V.setCell ⟨bx, i, none⟩ v) bx d' oc := by
  have k : Kept (fun q => q ≠ bx) V (V.setCell ⟨bx, i, none⟩ v) := (Kept.refl _ V).setCell (fun hne => hne rfl) _
  refine ⟨?_, k.row (by omega) c.2.1, k.row (by omega) c.2.2.1, c.2.2.2⟩
  rw [setCell_eq_setRow _ _ _ _ _ _ _ c.1, ← e]
  exact setRow_heap _ _ _ _ _ _ c.1
theorem B3.st {w V : World} {bx : Nat} {d oc : Array Value} (c : B3 w V bx d oc) (i : Nat) (v : Value) (e : d[i]? = some v) : V.cell? ⟨bx, i, none⟩ = some v := by rw [cell_of_row _ _ i _ _ _ c.1, e]
theorem B3.fr {w V : World} {bx : Nat} {d oc : Array Value} (c : B3 w V bx d oc) (i : Nat) : V.frozen? ⟨bx, i, none⟩ = false := frozen_of_row _ _ _ _ _ c.1
theorem B3.op {w V : World} {bx : Nat} {d oc : Array Value} (c : B3 w V bx d oc) (i : Nat) (v : Value) (e : oc[i]? = some v) : V.cell? ⟨bx + 1, i, none⟩ = some v := by rw [cell_of_row _ _ i _ _ _ c.2.1, e]
/-- blocks that are new may be written -/
theorem Kept.new {w V : World} {K : Nat → Prop} (k : Kept K w V) (f : Nat) (hf : w.heap.size ≤ f) (cs : Array Value) : Kept K w (V.setRow f cs) := by
  have q : Kept (fun q => q ≠ f) V (V.setRow f cs) := (Kept.refl _ V).setRow (fun hne => hne rfl) cs
  refine ⟨⟨q.1.1.trans k.1.1, q.1.2.1.trans k.1.2.1, q.1.2.2.1.trans k.1.2.2.1, Nat.le_trans k.size q.size⟩, fun i hi hq => ?_⟩
  rw [q.2 i (Nat.lt_of_lt_of_le hi k.size) (by omega), k.2 i hi hq]
theorem Kept.newc {w V : World} {K : Nat → Prop} (k : Kept K w V) (p : Addr) (hf : w.heap.size ≤ p.block) (v : Value) : Kept K w (V.setCell p v) := by
  have q : Kept (fun q => q ≠ p.block) V (V.setCell p v) := (Kept.refl _ V).setCell (fun hne => hne rfl) v
  refine ⟨⟨q.1.1.trans k.1.1, q.1.2.1.trans k.1.2.1, q.1.2.2.1.trans k.1.2.2.1, Nat.le_trans k.size q.size⟩, fun i hi hq => ?_⟩
  rw [q.2 i (Nat.lt_of_lt_of_le hi k.size) (by omega), k.2 i hi hq]
/-- all that a step keeps: the detector, the boxes, what was there -/
def Sp (w V : World) (b h bx : Nat) (s : DS) (d oc : Array Value) : Prop := DetV V b h s ∧ B3 w V bx d oc ∧ Kept (fun q => q ≠ b ∧ q ≠ h) w V ∧ b < w.heap.size ∧ h < w.heap.size
theorem Sp.ext {w V V' : World} {b h bx : Nat} {s : DS} {d oc : Array Value} (c : Sp w V b h bx s d oc) (e : Ext V V') : Sp w V' b h bx s d oc := ⟨c.1.ext e, c.2.1.ext e, c.2.2.1.trans (Kept.of_ext e), c.2.2.2⟩
theorem Sp.det {w V V' : World} {b h bx : Nat} {s s' : DS} {d oc : Array Value} (c : Sp w V b h bx s d oc) (k : Kept (fun q => q ≠ b ∧ q ≠ h) V V') (e : DetV V' b h s') : Sp w V' b h bx s' d oc := ⟨e, c.2.1.kept k c.2.2.2.1 c.2.2.2.2, c.2.2.1.trans k, c.2.2.2⟩
theorem Sp.put {w V : World} {b h bx : Nat} {s : DS} {d oc d' : Array Value} (c : Sp w V b h bx s d oc) (i : Nat) (v : Value) (e : d.setIfInBounds i v = d') : Sp w (V.setCell ⟨bx, i, none⟩ v) b h bx s d' oc := by
  have k : Kept (fun q => q ≠ bx) V (V.setCell ⟨bx, i, none⟩ v) := (Kept.refl _ V).setCell (fun hne => hne rfl) _
  have l := c.2.1.2.2.2
  exact ⟨c.1.kept k (by have := c.2.2.2; omega) (by have := c.2.2.2; omega), c.2.1.put i v e, Kept.newc c.2.2.1 _ l _, c.2.2.2⟩
theorem Sp.row {w V : World} {b h bx : Nat} {s : DS} {d oc : Array Value} (c : Sp w V b h bx s d oc) (f : Nat) (hf : bx + 2 < f) (cs : Array Value) : Sp w (V.setRow f cs) b h bx s d oc := by
  have k : Kept (fun q => q ≠ f) V (V.setRow f cs) := (Kept.refl _ V).setRow (fun hne => hne rfl) _
  have l := c.2.1.2.2.2
  exact ⟨c.1.kept k (by have := c.2.2.2; omega) (by have := c.2.2.2; omega), ⟨k.row (by omega) c.2.1.1, k.row (by omega) c.2.1.2.1, k.row (by omega) c.2.1.2.2.1, l⟩, Kept.new c.2.2.1 _ (by omega) _, c.2.2.2⟩
theorem Sp.done {w V : World} {b h bx : Nat} {s : DS} {d oc : Array Value} (c : Sp w V b h bx s d oc) (r : Array Value) : (V.setRow (bx + 2) r).heap[bx + 2]? = some (.cells r 29 (0, 0)) ∧ DetV (V.setRow (bx + 2) r) b h s ∧ Kept (fun q => q ≠ b ∧ q ≠ h) w (V.setRow (bx + 2) r) := by
  have k : Kept (fun q => q ≠ bx + 2) V (V.setRow (bx + 2) r) := (Kept.refl _ V).setRow (fun hne => hne rfl) _
  have l := c.2.1.2.2.2
  exact ⟨setRow_heap _ _ _ _ _ _ c.2.1.2.2.1, c.1.kept k (by have := c.2.2.2; omega) (by have := c.2.2.2; omega), Kept.new c.2.2.1 _ (by omega) _⟩
theorem Sp.lt {w V : World} {b h bx : Nat} {s : DS} {d oc : Array Value} (c : Sp w V b h bx s d oc) : bx + 2 < V.heap.size := lt_of_row c.2.1.2.2.1

set_option maxHeartbeats 2000000 in
theorem step_forget (b h : Nat) (nx : List Int) (op : Int) (lst : List Int) (lv : Value) (bg : Int) (sm : Bool) (ls kind seq later rtt : Int) (ly : Nat) (w : World) (d : DetV w b h (nx, (op, lst), bg, sm, ls)) (hl : lv.oneCell' = true) (s0 : 0 ≤ seq) (s1 : seq < 4294967296) (hk : kind = 1) (hly : ly < 8) :
    Calls Try.prog 10 #[.pointer (some ⟨b, 0, none⟩), .agg (dcs nx op lv bg sm ls), .agg (opc kind (ly : Int) seq later rtt)] w fun e w' => e = .returned (.tuple #[.agg (dcs (nx.set ly (-1)) op lv bg sm ls), .bool true]) ∧ DetV w' b h (nx.set ly (-1), (op, lst), bg, sm, ls) ∧ Kept (fun q => q ≠ b ∧ q ≠ h) w w' := by
  subst hk
  have hn : nx.length = 8 := d.1.1
  obtain ⟨V0, e0⟩ : ∃ V0, V0 = w.alloc (.cells (dcs nx op lv bg sm ls) 29) := ⟨_, rfl⟩
  obtain ⟨V1, e1⟩ : ∃ V1, V1 = V0.alloc (.cells (opc 1 (ly : Int) seq later rtt) 33) := ⟨_, rfl⟩
  obtain ⟨V2, e2⟩ : ∃ V2, V2 = V1.alloc (.cells zst 29) := ⟨_, rfl⟩
  have x0 : Ext w V0 := by rw [e0]; exact (Ext.refl w).alloc _
  have x1 : Ext V0 V1 := by rw [e1]; exact (Ext.refl V0).alloc _
  have x2 : Ext V1 V2 := by rw [e2]; exact (Ext.refl V1).alloc _
  obtain ⟨bx, ebx⟩ : ∃ bx, bx = w.heap.size := ⟨_, rfl⟩
  have r0 : V0.heap[bx]? = some (.cells (dcs nx op lv bg sm ls) 29 (0, 0)) := by rw [e0, ebx]; exact heap_alloc_new w _
  have z0 : V0.heap.size = bx + 1 := by rw [e0, ebx, World.size_alloc]
  have r1 : V1.heap[bx + 1]? = some (.cells (opc 1 (ly : Int) seq later rtt) 33 (0, 0)) := by rw [e1, ← z0]; exact heap_alloc_new V0 _
  have z1 : V1.heap.size = bx + 2 := by rw [e1, World.size_alloc, z0]
  have r2 : V2.heap[bx + 2]? = some (.cells zst 29 (0, 0)) := by rw [e2, ← z1]; exact heap_alloc_new V1 _
  have XX := x0.trans (x1.trans x2)
  have SPP : Sp w V2 b h bx (nx, (op, lst), bg, sm, ls) (dcs nx op lv bg sm ls) (opc 1 (ly : Int) seq later rtt) := ⟨d.ext XX, ⟨x2.row (x1.row r0), x2.row r1, r2, by omega⟩, Kept.of_ext XX, d.lt⟩
  have y0 := SPP.2.1.op 0 (.int .i64 1) rfl
  have y1 := SPP.2.1.op 1 (.int .i64 (ly : Int)) rfl
  have y2 := SPP.2.1.op 2 (.int .u32 seq) rfl
  have y3 := SPP.2.1.op 3 (.int .i64 later) rfl
  have y4 := SPP.2.1.op 4 (.int .i64 rtt) rfl
  have y12 := SPP.2.1.st 12 (.int .i64 ls) rfl
  have ONE := hid (dcs_one nx op lv bg sm ls hl)
  have RR0 := hid SPP.2.1.1
  have SS := hid SPP
  unfold zst at e2
  rw [e1, e0] at e2
  have E2 := hid e2
  have EB := hid ebx
  have FG := hid (forget_any b h _ ly V2 SS.out.1 hly)
  have hk1 : (0 : Int) ≤ (ly : Int) := by omega
  have hk2 : (ly : Int) < 8 := by omega
  have DN := hid (fun (V : World) (c : Sp w V b h bx (nx.set ly (-1), (op, lst), bg, sm, ls) (dcs nx op lv bg sm ls) (opc 1 (ly : Int) seq later rtt)) => (show Sp w (V.setCell ⟨bx, ly, none⟩ (.int .i64 (-1))) b h bx (nx.set ly (-1), (op, lst), bg, sm, ls) (dcs (nx.set ly (-1)) op lv bg sm ls) (opc 1 (ly : Int) seq later rtt) from c.put ly _ (dcs_next nx op lv bg sm ls ly (-1) hly hn)))
  have CL := hid (dcs_at nx op lv bg sm ls ly hly)
  have ON2 := hid (dcs_one (nx.set ly (-1)) op lv bg sm ls hl)
  clear e0 e1 e2 x0 x1 x2 r0 r1 r2 z0 z1 ebx XX SPP d
  go_enter Try.func10, Try.ntmps10
  go_wp2_with (first | rw [← EB.out, ← E2.out])
  refine FG.out.mono ?_
  rintro e V3 ⟨rfl, d3, k3⟩
  have S3 := hid (SS.out.det (k3.mono fun _ hq => hq.1) d3)
  have c3 := S3.out.2.1.st ly _ CL.out
  have g3 := S3.out.2.1.fr ly
  obtain ⟨V4, e4⟩ : ∃ V4, V4 = V3.setCell ⟨bx, ly, none⟩ (.int .i64 (-1)) := ⟨_, rfl⟩
  have S4 := hid (DN.out V3 S3.out)
  rw [← e4] at S4
  have E4 := hid e4
  have RR4 := hid S4.out.2.1.1
  have FIN := hid (S4.out.done (dcs (nx.set ly (-1)) op lv bg sm ls))
  have w1 := S3.out.2.1.op 1 (.int .i64 (ly : Int)) rfl
  clear d3 k3 e4 FG DN CL SS y0 y1 y2 y3 y4 y12
  go_wp2_with (first
    | rw [← E4.out]
    | refine wpList_load_row rfl 29 _ rfl bx rfl 29 _ (0, 0) _ RR4.out Try.underlying29 rfl (by rw [dcs_size]; exact size_st) ?_
    | refine wpList_store_row rfl 29 _ _ rfl (bx + 2) _ rfl rfl 29 _ S4.out.2.1.2.2.1 (by rw [dcs_size]; exact size_st) rfl ON2.out ?_)
  refine bodyPost_ret (results_cell_tmp1 Try.results10 _ _ (bx + 2) 29 _ (0, 0) _ rfl FIN.out.1 Try.underlying29 rfl (by rw [dcs_size]; exact size_st)) rfl ?_
  exact ⟨rfl, FIN.out.2⟩

set_option maxHeartbeats 2000000 in
theorem step_forget_low (b h : Nat) (nx : List Int) (op : Int) (lst : List Int) (lv : Value) (bg : Int) (sm : Bool) (ls kind layer seq later rtt : Int) (w : World) (d : DetV w b h (nx, (op, lst), bg, sm, ls)) (hl : lv.oneCell' = true) (s0 : 0 ≤ seq) (s1 : seq < 4294967296) (hk : kind = 1) (q : layer < 0) :
    Calls Try.prog 10 #[.pointer (some ⟨b, 0, none⟩), .agg (dcs nx op lv bg sm ls), .agg (opc kind layer seq later rtt)] w fun e w' => e = .returned (.tuple #[.agg (dcs nx op lv bg sm ls), .bool true]) ∧ DetV w' b h (nx, (op, lst), bg, sm, ls) ∧ Kept (fun q => q ≠ b ∧ q ≠ h) w w' := by
  subst hk
  obtain ⟨V0, e0⟩ : ∃ V0, V0 = w.alloc (.cells (dcs nx op lv bg sm ls) 29) := ⟨_, rfl⟩
  obtain ⟨V1, e1⟩ : ∃ V1, V1 = V0.alloc (.cells (opc 1 layer seq later rtt) 33) := ⟨_, rfl⟩
  obtain ⟨V2, e2⟩ : ∃ V2, V2 = V1.alloc (.cells zst 29) := ⟨_, rfl⟩
  have x0 : Ext w V0 := by rw [e0]; exact (Ext.refl w).alloc _
  have x1 : Ext V0 V1 := by rw [e1]; exact (Ext.refl V0).alloc _
  have x2 : Ext V1 V2 := by rw [e2]; exact (Ext.refl V1).alloc _
  obtain ⟨bx, ebx⟩ : ∃ bx, bx = w.heap.size := ⟨_, rfl⟩
  have r0 : V0.heap[bx]? = some (.cells (dcs nx op lv bg sm ls) 29 (0, 0)) := by rw [e0, ebx]; exact heap_alloc_new w _
  have z0 : V0.heap.size = bx + 1 := by rw [e0, ebx, World.size_alloc]
  have r1 : V1.heap[bx + 1]? = some (.cells (opc 1 layer seq later rtt) 33 (0, 0)) := by rw [e1, ← z0]; exact heap_alloc_new V0 _
  have z1 : V1.heap.size = bx + 2 := by rw [e1, World.size_alloc, z0]
  have r2 : V2.heap[bx + 2]? = some (.cells zst 29 (0, 0)) := by rw [e2, ← z1]; exact heap_alloc_new V1 _
  have XX := x0.trans (x1.trans x2)
  have SPP : Sp w V2 b h bx (nx, (op, lst), bg, sm, ls) (dcs nx op lv bg sm ls) (opc 1 layer seq later rtt) := ⟨d.ext XX, ⟨x2.row (x1.row r0), x2.row r1, r2, by omega⟩, Kept.of_ext XX, d.lt⟩
  have y0 := SPP.2.1.op 0 (.int .i64 1) rfl
  have y1 := SPP.2.1.op 1 (.int .i64 layer) rfl
  have y2 := SPP.2.1.op 2 (.int .u32 seq) rfl
  have y3 := SPP.2.1.op 3 (.int .i64 later) rfl
  have y4 := SPP.2.1.op 4 (.int .i64 rtt) rfl
  have y12 := SPP.2.1.st 12 (.int .i64 ls) rfl
  have ONE := hid (dcs_one nx op lv bg sm ls hl)
  have RR0 := hid SPP.2.1.1
  have SS := hid SPP
  unfold zst at e2
  rw [e1, e0] at e2
  have E2 := hid e2
  have EB := hid ebx
  have FG := hid (forget_bad b layer V2 (by omega))
  clear e0 e1 e2 x0 x1 x2 r0 r1 r2 z0 z1 ebx XX SPP d
  go_enter Try.func10, Try.ntmps10
  go_wp2_with (first | rw [← EB.out, ← E2.out])
  refine FG.out.mono ?_
  rintro e V3 ⟨rfl, rfl⟩
  have FIN := hid (SS.out.done (dcs nx op lv bg sm ls))
  clear FG
  go_wp2_with (first
    | refine wpList_load_row rfl 29 _ rfl bx rfl 29 _ (0, 0) _ RR0.out Try.underlying29 rfl (by rw [dcs_size]; exact size_st) ?_
    | refine wpList_store_row rfl 29 _ _ rfl (bx + 2) _ rfl rfl 29 _ SS.out.2.1.2.2.1 (by rw [dcs_size]; exact size_st) rfl ONE.out ?_)
  refine bodyPost_ret (results_cell_tmp1 Try.results10 _ _ (bx + 2) 29 _ (0, 0) _ rfl FIN.out.1 Try.underlying29 rfl (by rw [dcs_size]; exact size_st)) rfl ?_
  exact ⟨rfl, FIN.out.2⟩

set_option maxHeartbeats 2000000 in
theorem step_forget_high (b h : Nat) (nx : List Int) (op : Int) (lst : List Int) (lv : Value) (bg : Int) (sm : Bool) (ls kind layer seq later rtt : Int) (w : World) (d : DetV w b h (nx, (op, lst), bg, sm, ls)) (hl : lv.oneCell' = true) (s0 : 0 ≤ seq) (s1 : seq < 4294967296) (hk : kind = 1) (q : 8 ≤ layer) :
    Calls Try.prog 10 #[.pointer (some ⟨b, 0, none⟩), .agg (dcs nx op lv bg sm ls), .agg (opc kind layer seq later rtt)] w fun e w' => e = .returned (.tuple #[.agg (dcs nx op lv bg sm ls), .bool true]) ∧ DetV w' b h (nx, (op, lst), bg, sm, ls) ∧ Kept (fun q => q ≠ b ∧ q ≠ h) w w' := by
  subst hk
  obtain ⟨V0, e0⟩ : ∃ V0, V0 = w.alloc (.cells (dcs nx op lv bg sm ls) 29) := ⟨_, rfl⟩
  obtain ⟨V1, e1⟩ : ∃ V1, V1 = V0.alloc (.cells (opc 1 layer seq later rtt) 33) := ⟨_, rfl⟩
  obtain ⟨V2, e2⟩ : ∃ V2, V2 = V1.alloc (.cells zst 29) := ⟨_, rfl⟩
  have x0 : Ext w V0 := by rw [e0]; exact (Ext.refl w).alloc _
  have x1 : Ext V0 V1 := by rw [e1]; exact (Ext.refl V0).alloc _
  have x2 : Ext V1 V2 := by rw [e2]; exact (Ext.refl V1).alloc _
  obtain ⟨bx, ebx⟩ : ∃ bx, bx = w.heap.size := ⟨_, rfl⟩
  have r0 : V0.heap[bx]? = some (.cells (dcs nx op lv bg sm ls) 29 (0, 0)) := by rw [e0, ebx]; exact heap_alloc_new w _
  have z0 : V0.heap.size = bx + 1 := by rw [e0, ebx, World.size_alloc]
  have r1 : V1.heap[bx + 1]? = some (.cells (opc 1 layer seq later rtt) 33 (0, 0)) := by rw [e1, ← z0]; exact heap_alloc_new V0 _
  have z1 : V1.heap.size = bx + 2 := by rw [e1, World.size_alloc, z0]
  have r2 : V2.heap[bx + 2]? = some (.cells zst 29 (0, 0)) := by rw [e2, ← z1]; exact heap_alloc_new V1 _
  have XX := x0.trans (x1.trans x2)
  have SPP : Sp w V2 b h bx (nx, (op, lst), bg, sm, ls) (dcs nx op lv bg sm ls) (opc 1 layer seq later rtt) := ⟨d.ext XX, ⟨x2.row (x1.row r0), x2.row r1, r2, by omega⟩, Kept.of_ext XX, d.lt⟩
  have y0 := SPP.2.1.op 0 (.int .i64 1) rfl
  have y1 := SPP.2.1.op 1 (.int .i64 layer) rfl
  have y2 := SPP.2.1.op 2 (.int .u32 seq) rfl
  have y3 := SPP.2.1.op 3 (.int .i64 later) rfl
  have y4 := SPP.2.1.op 4 (.int .i64 rtt) rfl
  have y12 := SPP.2.1.st 12 (.int .i64 ls) rfl
  have ONE := hid (dcs_one nx op lv bg sm ls hl)
  have RR0 := hid SPP.2.1.1
  have SS := hid SPP
  unfold zst at e2
  rw [e1, e0] at e2
  have E2 := hid e2
  have EB := hid ebx
  have FG := hid (forget_bad b layer V2 (by omega))
  clear e0 e1 e2 x0 x1 x2 r0 r1 r2 z0 z1 ebx XX SPP d
  go_enter Try.func10, Try.ntmps10
  go_wp2_with (first | rw [← EB.out, ← E2.out])
  refine FG.out.mono ?_
  rintro e V3 ⟨rfl, rfl⟩
  have FIN := hid (SS.out.done (dcs nx op lv bg sm ls))
  clear FG
  go_wp2_with (first
    | refine wpList_load_row rfl 29 _ rfl bx rfl 29 _ (0, 0) _ RR0.out Try.underlying29 rfl (by rw [dcs_size]; exact size_st) ?_
    | refine wpList_store_row rfl 29 _ _ rfl (bx + 2) _ rfl rfl 29 _ SS.out.2.1.2.2.1 (by rw [dcs_size]; exact size_st) rfl ONE.out ?_)
  refine bodyPost_ret (results_cell_tmp1 Try.results10 _ _ (bx + 2) 29 _ (0, 0) _ rfl FIN.out.1 Try.underlying29 rfl (by rw [dcs_size]; exact size_st)) rfl ?_
  exact ⟨rfl, FIN.out.2⟩

end Go.Proofs.Ytlglhggfhlpbjaa.Det

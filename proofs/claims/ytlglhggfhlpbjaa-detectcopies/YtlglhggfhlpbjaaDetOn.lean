/-
  The reference of layer 15: walks of On, each way by itself.
-/
import Derived.Test.YtlglhggfhlpbjaaDetRef
namespace Go.Proofs.Ytlglhggfhlpbjaa.Det
set_option linter.unusedVariables false
set_option maxRecDepth 100000
open Go.RowKit Go.Lib Go.Proofs.Ytlglhggfhlpbjaa.His

def aft (seq : Int) : Int := (seq + 1) % 4294967296
theorem results_cell_tmp3 {P : Program} {fn : Func} {p t u v : Tmp} {ty : TypeId} (h : fn.results = #[.cell p ty, .tmp t, .tmp u, .tmp v]) (tmps : Array Value) (w : World) (g : Nat) (tt : TypeId) (cs : Array Value) (fr : Nat × Nat) (d : TypeDesc)
    (hp : tmps.getD p undef = .pointer (some ⟨g, 0, none⟩)) (hg : w.heap[g]? = some (.cells cs tt fr))
    (hu : P.underlying ty = some d) (hd : (match d with | .struct _ | .array _ _ => true | _ => false) = true) (hi : (P.info? ty).map (·.size) = some cs.size) :
    (results fn tmps).run P w = .ok (.tuple #[.agg cs, tmps.getD t undef, tmps.getD u undef, tmps.getD v undef]) w := by
  have hp' : tmps[p]?.getD undef = .pointer (some ⟨g, 0, none⟩) := by simpa using hp
  simp [results, h, hp', asAddr, run_loadVar_row w g tt ty cs fr d hg hu hd hi]
/-- a box of a state, a result's box behind it; a cell of the former is written -/
def Bx (w V : World) (bx : Nat) (d : Array Value) : Prop := V.heap[bx]? = some (.cells d 29 (0, 0)) ∧ V.heap[bx + 1]? = some (.cells zst 29 (0, 0)) ∧ Ext w V ∧ w.heap.size ≤ bx
theorem Bx.put {w V : World} {bx : Nat} {d d' : Array Value} (h : Bx w V bx d) (i : Nat) (v : Value) (e : d.setIfInBounds i v = d') : Bx w (V.setCell ⟨bx, i, none⟩ v) bx d' := by
  refine ⟨?_, ?_, h.2.2.1.setCell (by exact h.2.2.2) _, h.2.2.2⟩
  · rw [setCell_eq_setRow _ _ _ _ _ _ _ h.1, ← e]
    exact setRow_heap _ _ _ _ _ _ h.1
  · rw [heap_setCell_other _ _ _ _ (by simp)]
    exact h.2.1
theorem Bx.ext {w V V' : World} {bx : Nat} {d : Array Value} (h : Bx w V bx d) (e : Ext V V') : Bx w V' bx d := ⟨e.row h.1, e.row h.2.1, h.2.2.1.trans e, h.2.2.2⟩
theorem Bx.cell {w V : World} {bx : Nat} {d : Array Value} (h : Bx w V bx d) (i : Nat) (v : Value) (e : d[i]? = some v) : V.cell? ⟨bx, i, none⟩ = some v := by rw [cell_of_row _ _ i _ _ _ h.1, e]
theorem Bx.free {w V : World} {bx : Nat} {d : Array Value} (h : Bx w V bx d) (i : Nat) : V.frozen? ⟨bx, i, none⟩ = false := frozen_of_row _ _ _ _ _ h.1
theorem Bx.done {w V : World} {bx : Nat} {d : Array Value} (h : Bx w V bx d) (r : Array Value) : Ext w (V.setRow (bx + 1) r) ∧ (V.setRow (bx + 1) r).heap[bx + 1]? = some (.cells r 29 (0, 0)) := ⟨h.2.2.1.setRow (by have := h.2.2.2; omega) _, setRow_heap _ _ _ _ _ _ h.2.1⟩

set_option maxHeartbeats 2000000 in
theorem on_none (nx : List Int) (op : Int) (lv : Value) (bg : Int) (sm : Bool) (ls : Int) (ly : Nat) (seq tick rtt : Int) (w : World) (hly : ly < 8) (hn : nx.length = 8) (hl : lv.oneCell' = true) (o0 : 0 ≤ op) (o1 : op ≤ 1048576) (s0 : 0 ≤ seq) (s1 : seq < 4294967296) (h : nx.getD ly (-1) < 0) :
    Calls Try.prog 20 #[.agg (dcs nx op lv bg sm ls), .int .i64 (ly : Int), .int .u32 seq, .int .i64 tick, .int .i64 rtt] w fun e w' => e = .returned (.tuple #[.agg (dcs (nx.set ly (aft seq)) (cnt op 1) lv bg sm tick), .int .i64 0, .bool false, .bool false]) ∧ Ext w w' := by
  obtain ⟨V0, e0⟩ : ∃ V0, V0 = w.alloc (.cells (dcs nx op lv bg sm ls) 29) := ⟨_, rfl⟩
  obtain ⟨V1, e1⟩ : ∃ V1, V1 = V0.alloc (.cells zst 29) := ⟨_, rfl⟩
  have x0 : Ext w V0 := by rw [e0]; exact (Ext.refl w).alloc _
  have x1 : Ext V0 V1 := by rw [e1]; exact (Ext.refl V0).alloc _
  obtain ⟨bx, ebx⟩ : ∃ bx, bx = w.heap.size := ⟨_, rfl⟩
  have r0 : V0.heap[bx]? = some (.cells (dcs nx op lv bg sm ls) 29 (0, 0)) := by rw [e0, ebx]; exact heap_alloc_new w _
  have sz : V0.heap.size = bx + 1 := by rw [e0, ebx, World.size_alloc]
  have B1 : Bx w V1 bx (dcs nx op lv bg sm ls) := ⟨x1.row r0, by rw [e1, ← sz]; exact heap_alloc_new V0 _, x0.trans x1, by omega⟩
  have f12 := B1.free 12
  have c12 := B1.cell 12 _ rfl
  unfold zst at e1
  rw [e0] at e1
  have E1 := hid e1
  have EB := hid ebx
  obtain ⟨V2, e2⟩ : ∃ V2, V2 = V1.setCell ⟨bx, 12, none⟩ (.int .i64 tick) := ⟨_, rfl⟩
  have B2 : Bx w V2 bx (dcs nx op lv bg sm tick) := by rw [e2]; exact B1.put 12 _ rfl
  have E2 := hid e2
  have cl := B2.cell ly _ (dcs_at nx op lv bg sm tick ly hly)
  have fl := B2.free ly
  have i1 : (ly : Int) < 8 := by omega
  have i2 : (0 : Int) ≤ (ly : Int) := by omega
  clear e0 e1 e2 x0 x1 r0 sz ebx B1
  obtain ⟨V3, e3⟩ : ∃ V3, V3 = V2.setCell ⟨bx, ly, none⟩ (.int .i64 (aft seq)) := ⟨_, rfl⟩
  have B3 : Bx w V3 bx (dcs (nx.set ly (aft seq)) op lv bg sm tick) := by rw [e3]; exact B2.put ly _ (dcs_next nx op lv bg sm tick ly (aft seq) hly hn)
  have R3 := hid B3.1
  have BB := hid B3
  have E3 := hid e3
  have CN := hid (count_any (nx.set ly (aft seq)) op lv bg sm tick 1 V3 o0 o1 (by decide) (by decide) hl)
  have ONE := hid (dcs_one (nx.set ly (aft seq)) (cnt op 1) lv bg sm tick hl)
  generalize nx.getD ly (-1) = x at *
  obtain ⟨A, eA⟩ : ∃ A, A = aft seq := ⟨_, rfl⟩
  have wa : (seq + 1) % 4294967296 = A := eA.symm
  rw [← eA] at E3 R3 BB CN ONE ⊢
  clear B2 B3 e3 eA hn hly
  go_enter Try.func20, Try.ntmps20
  go_wp2_with (first
    | rw [← EB.out, ← E1.out]
    | rw [← E2.out]
    | rw [← E3.out]
    | refine wpList_load_row rfl 29 (.tmp 5) rfl bx rfl 29 _ (0, 0) _ R3.out Try.underlying29 rfl (by rw [dcs_size]; exact size_st) ?_)
  refine CN.out.mono ?_
  rintro e V4 ⟨rfl, x4⟩
  have B4 := hid (BB.out.ext x4)
  have FIN := hid (B4.out.done (dcs (nx.set ly A) (cnt op 1) lv bg sm tick))
  clear CN x4 BB R3
  go_wp2_with (refine wpList_store_row rfl 29 (.tmp 10) (.tmp 43) rfl (bx + 1) _ rfl rfl 29 _ B4.out.2.1 (by rw [dcs_size]; exact size_st) rfl ONE.out ?_)
  try simp only [Act.put, List.setIfInBounds_toArray, List.set_cons_zero, List.set_cons_succ]
  refine bodyPost_ret (results_cell_tmp3 Try.results20 _ _ (bx + 1) 29 _ (0, 0) _ rfl FIN.out.2 Try.underlying29 rfl (by rw [dcs_size]; exact size_st)) rfl ?_
  exact ⟨rfl, FIN.out.1⟩

set_option maxHeartbeats 2000000 in
theorem on_expected (nx : List Int) (op : Int) (lv : Value) (bg : Int) (sm : Bool) (ls : Int) (ly : Nat) (seq tick rtt : Int) (w : World) (hly : ly < 8) (hn : nx.length = 8) (hl : lv.oneCell' = true) (o0 : 0 ≤ op) (o1 : op ≤ 1048576) (s0 : 0 ≤ seq) (s1 : seq < 4294967296) (h : nx.getD ly (-1) = seq) :
    Calls Try.prog 20 #[.agg (dcs nx op lv bg sm ls), .int .i64 (ly : Int), .int .u32 seq, .int .i64 tick, .int .i64 rtt] w fun e w' => e = .returned (.tuple #[.agg (dcs (nx.set ly (aft seq)) (cnt op 1) lv bg sm tick), .int .i64 0, .bool false, .bool false]) ∧ Ext w w' := by
  obtain ⟨V0, e0⟩ : ∃ V0, V0 = w.alloc (.cells (dcs nx op lv bg sm ls) 29) := ⟨_, rfl⟩
  obtain ⟨V1, e1⟩ : ∃ V1, V1 = V0.alloc (.cells zst 29) := ⟨_, rfl⟩
  have x0 : Ext w V0 := by rw [e0]; exact (Ext.refl w).alloc _
  have x1 : Ext V0 V1 := by rw [e1]; exact (Ext.refl V0).alloc _
  obtain ⟨bx, ebx⟩ : ∃ bx, bx = w.heap.size := ⟨_, rfl⟩
  have r0 : V0.heap[bx]? = some (.cells (dcs nx op lv bg sm ls) 29 (0, 0)) := by rw [e0, ebx]; exact heap_alloc_new w _
  have sz : V0.heap.size = bx + 1 := by rw [e0, ebx, World.size_alloc]
  have B1 : Bx w V1 bx (dcs nx op lv bg sm ls) := ⟨x1.row r0, by rw [e1, ← sz]; exact heap_alloc_new V0 _, x0.trans x1, by omega⟩
  have f12 := B1.free 12
  have c12 := B1.cell 12 _ rfl
  unfold zst at e1
  rw [e0] at e1
  have E1 := hid e1
  have EB := hid ebx
  obtain ⟨V2, e2⟩ : ∃ V2, V2 = V1.setCell ⟨bx, 12, none⟩ (.int .i64 tick) := ⟨_, rfl⟩
  have B2 : Bx w V2 bx (dcs nx op lv bg sm tick) := by rw [e2]; exact B1.put 12 _ rfl
  have E2 := hid e2
  have cl := B2.cell ly _ (dcs_at nx op lv bg sm tick ly hly)
  have fl := B2.free ly
  have i1 : (ly : Int) < 8 := by omega
  have i2 : (0 : Int) ≤ (ly : Int) := by omega
  clear e0 e1 e2 x0 x1 r0 sz ebx B1
  obtain ⟨V3, e3⟩ : ∃ V3, V3 = V2.setCell ⟨bx, ly, none⟩ (.int .i64 (aft seq)) := ⟨_, rfl⟩
  have B3 : Bx w V3 bx (dcs (nx.set ly (aft seq)) op lv bg sm tick) := by rw [e3]; exact B2.put ly _ (dcs_next nx op lv bg sm tick ly (aft seq) hly hn)
  have R3 := hid B3.1
  have BB := hid B3
  have E3 := hid e3
  have CN := hid (count_any (nx.set ly (aft seq)) op lv bg sm tick 1 V3 o0 o1 (by decide) (by decide) hl)
  have ONE := hid (dcs_one (nx.set ly (aft seq)) (cnt op 1) lv bg sm tick hl)
  generalize nx.getD ly (-1) = x at *
  obtain ⟨A, eA⟩ : ∃ A, A = aft seq := ⟨_, rfl⟩
  have wa : (seq + 1) % 4294967296 = A := eA.symm
  rw [← eA] at E3 R3 BB CN ONE ⊢
  clear B2 B3 e3 eA hn hly
  subst h
  have hs : ¬ x < 0 := by omega
  go_enter Try.func20, Try.ntmps20
  go_wp2_with (first
    | rw [← EB.out, ← E1.out]
    | rw [← E2.out]
    | rw [← E3.out]
    | refine wpList_load_row rfl 29 (.tmp 5) rfl bx rfl 29 _ (0, 0) _ R3.out Try.underlying29 rfl (by rw [dcs_size]; exact size_st) ?_)
  refine CN.out.mono ?_
  rintro e V4 ⟨rfl, x4⟩
  have B4 := hid (BB.out.ext x4)
  have FIN := hid (B4.out.done (dcs (nx.set ly A) (cnt op 1) lv bg sm tick))
  clear CN x4 BB R3
  go_wp2_with (refine wpList_store_row rfl 29 (.tmp 10) (.tmp 43) rfl (bx + 1) _ rfl rfl 29 _ B4.out.2.1 (by rw [dcs_size]; exact size_st) rfl ONE.out ?_)
  try simp only [Act.put, List.setIfInBounds_toArray, List.set_cons_zero, List.set_cons_succ]
  refine bodyPost_ret (results_cell_tmp3 Try.results20 _ _ (bx + 1) 29 _ (0, 0) _ rfl FIN.out.2 Try.underlying29 rfl (by rw [dcs_size]; exact size_st)) rfl ?_
  exact ⟨rfl, FIN.out.1⟩

set_option maxHeartbeats 2000000 in
theorem on_far (nx : List Int) (op : Int) (lv : Value) (bg : Int) (sm : Bool) (ls : Int) (ly : Nat) (seq tick rtt : Int) (w : World) (hly : ly < 8) (hn : nx.length = 8) (hl : lv.oneCell' = true) (o0 : 0 ≤ op) (o1 : op ≤ 1048576) (s0 : 0 ≤ seq) (s1 : seq < 4294967296) (hx0 : 0 ≤ nx.getD ly (-1)) (hx1 : nx.getD ly (-1) < 4294967296) (hne : nx.getD ly (-1) ≠ seq) (h : 256 < Ser.fgap (nx.getD ly (-1)) seq) :
    Calls Try.prog 20 #[.agg (dcs nx op lv bg sm ls), .int .i64 (ly : Int), .int .u32 seq, .int .i64 tick, .int .i64 rtt] w fun e w' => e = .returned (.tuple #[.agg (dcs (nx.set ly (aft seq)) (cnt op 1) lv bg sm tick), .int .i64 0, .bool false, .bool false]) ∧ Ext w w' := by
  obtain ⟨V0, e0⟩ : ∃ V0, V0 = w.alloc (.cells (dcs nx op lv bg sm ls) 29) := ⟨_, rfl⟩
  obtain ⟨V1, e1⟩ : ∃ V1, V1 = V0.alloc (.cells zst 29) := ⟨_, rfl⟩
  have x0 : Ext w V0 := by rw [e0]; exact (Ext.refl w).alloc _
  have x1 : Ext V0 V1 := by rw [e1]; exact (Ext.refl V0).alloc _
  obtain ⟨bx, ebx⟩ : ∃ bx, bx = w.heap.size := ⟨_, rfl⟩
  have r0 : V0.heap[bx]? = some (.cells (dcs nx op lv bg sm ls) 29 (0, 0)) := by rw [e0, ebx]; exact heap_alloc_new w _
  have sz : V0.heap.size = bx + 1 := by rw [e0, ebx, World.size_alloc]
  have B1 : Bx w V1 bx (dcs nx op lv bg sm ls) := ⟨x1.row r0, by rw [e1, ← sz]; exact heap_alloc_new V0 _, x0.trans x1, by omega⟩
  have f12 := B1.free 12
  have c12 := B1.cell 12 _ rfl
  unfold zst at e1
  rw [e0] at e1
  have E1 := hid e1
  have EB := hid ebx
  obtain ⟨V2, e2⟩ : ∃ V2, V2 = V1.setCell ⟨bx, 12, none⟩ (.int .i64 tick) := ⟨_, rfl⟩
  have B2 : Bx w V2 bx (dcs nx op lv bg sm tick) := by rw [e2]; exact B1.put 12 _ rfl
  have E2 := hid e2
  have cl := B2.cell ly _ (dcs_at nx op lv bg sm tick ly hly)
  have fl := B2.free ly
  have i1 : (ly : Int) < 8 := by omega
  have i2 : (0 : Int) ≤ (ly : Int) := by omega
  clear e0 e1 e2 x0 x1 r0 sz ebx B1
  obtain ⟨V3, e3⟩ : ∃ V3, V3 = V2.setCell ⟨bx, ly, none⟩ (.int .i64 (aft seq)) := ⟨_, rfl⟩
  have B3 : Bx w V3 bx (dcs (nx.set ly (aft seq)) op lv bg sm tick) := by rw [e3]; exact B2.put ly _ (dcs_next nx op lv bg sm tick ly (aft seq) hly hn)
  have R3 := hid B3.1
  have BB := hid B3
  have E3 := hid e3
  have CN := hid (count_any (nx.set ly (aft seq)) op lv bg sm tick 1 V3 o0 o1 (by decide) (by decide) hl)
  have ONE := hid (dcs_one (nx.set ly (aft seq)) (cnt op 1) lv bg sm tick hl)
  have GP : Hid (∀ V, Calls Try.prog 28 #[.int .u32 (nx.getD ly (-1)), .int .u32 seq] V fun e w' => e = .returned (.int .i64 (Ser.fgap (nx.getD ly (-1)) seq)) ∧ w' = V) := fun V => Ser.refGap_any _ _ hx0 s0 hx1 s1 V
  have hxb : (nx.getD ly (-1) == seq) = false := by rw [beq_eq_false_iff_ne]; exact hne
  have hx2 : ¬ nx.getD ly (-1) < 0 := by omega
  obtain ⟨gr0, gr1⟩ := Ser.fgap_room (nx.getD ly (-1)) seq
  clear hne
  generalize Ser.fgap (nx.getD ly (-1)) seq = G at *
  generalize nx.getD ly (-1) = x at *
  obtain ⟨A, eA⟩ : ∃ A, A = aft seq := ⟨_, rfl⟩
  have wa : (seq + 1) % 4294967296 = A := eA.symm
  rw [← eA] at E3 R3 BB CN ONE ⊢
  clear B2 B3 e3 eA hn hly
  go_enter Try.func20, Try.ntmps20
  go_wp2_with (first
    | rw [← EB.out, ← E1.out]
    | rw [← E2.out]
    | rw [← E3.out]
    | refine wpList_load_row rfl 29 (.tmp 5) rfl bx rfl 29 _ (0, 0) _ R3.out Try.underlying29 rfl (by rw [dcs_size]; exact size_st) ?_)
  refine (GP.out _).mono ?_
  rintro e wg ⟨rfl, rfl⟩
  clear GP
  go_wp2_with (first
    | rw [← EB.out, ← E1.out]
    | rw [← E2.out]
    | rw [← E3.out]
    | refine wpList_load_row rfl 29 (.tmp 5) rfl bx rfl 29 _ (0, 0) _ R3.out Try.underlying29 rfl (by rw [dcs_size]; exact size_st) ?_)
  refine CN.out.mono ?_
  rintro e V4 ⟨rfl, x4⟩
  have B4 := hid (BB.out.ext x4)
  have FIN := hid (B4.out.done (dcs (nx.set ly A) (cnt op 1) lv bg sm tick))
  clear CN x4 BB R3
  go_wp2_with (refine wpList_store_row rfl 29 (.tmp 10) (.tmp 58) rfl (bx + 1) _ rfl rfl 29 _ B4.out.2.1 (by rw [dcs_size]; exact size_st) rfl ONE.out ?_)
  try simp only [Act.put, List.setIfInBounds_toArray, List.set_cons_zero, List.set_cons_succ]
  refine bodyPost_ret (results_cell_tmp3 Try.results20 _ _ (bx + 1) 29 _ (0, 0) _ rfl FIN.out.2 Try.underlying29 rfl (by rw [dcs_size]; exact size_st)) rfl ?_
  exact ⟨rfl, FIN.out.1⟩

set_option maxHeartbeats 2000000 in
theorem on_old (nx : List Int) (op : Int) (lv : Value) (bg : Int) (sm : Bool) (ls : Int) (ly : Nat) (seq tick rtt : Int) (w : World) (hly : ly < 8) (hn : nx.length = 8) (hl : lv.oneCell' = true) (o0 : 0 ≤ op) (o1 : op ≤ 1048576) (s0 : 0 ≤ seq) (s1 : seq < 4294967296) (hx0 : 0 ≤ nx.getD ly (-1)) (hx1 : nx.getD ly (-1) < 4294967296) (hne : nx.getD ly (-1) ≠ seq) (h : Ser.fgap (nx.getD ly (-1)) seq ≤ 0) :
    Calls Try.prog 20 #[.agg (dcs nx op lv bg sm ls), .int .i64 (ly : Int), .int .u32 seq, .int .i64 tick, .int .i64 rtt] w fun e w' => e = .returned (.tuple #[.agg (dcs nx op lv bg sm tick), .int .i64 0, .bool false, .bool false]) ∧ Ext w w' := by
  obtain ⟨V0, e0⟩ : ∃ V0, V0 = w.alloc (.cells (dcs nx op lv bg sm ls) 29) := ⟨_, rfl⟩
  obtain ⟨V1, e1⟩ : ∃ V1, V1 = V0.alloc (.cells zst 29) := ⟨_, rfl⟩
  have x0 : Ext w V0 := by rw [e0]; exact (Ext.refl w).alloc _
  have x1 : Ext V0 V1 := by rw [e1]; exact (Ext.refl V0).alloc _
  obtain ⟨bx, ebx⟩ : ∃ bx, bx = w.heap.size := ⟨_, rfl⟩
  have r0 : V0.heap[bx]? = some (.cells (dcs nx op lv bg sm ls) 29 (0, 0)) := by rw [e0, ebx]; exact heap_alloc_new w _
  have sz : V0.heap.size = bx + 1 := by rw [e0, ebx, World.size_alloc]
  have B1 : Bx w V1 bx (dcs nx op lv bg sm ls) := ⟨x1.row r0, by rw [e1, ← sz]; exact heap_alloc_new V0 _, x0.trans x1, by omega⟩
  have f12 := B1.free 12
  have c12 := B1.cell 12 _ rfl
  unfold zst at e1
  rw [e0] at e1
  have E1 := hid e1
  have EB := hid ebx
  obtain ⟨V2, e2⟩ : ∃ V2, V2 = V1.setCell ⟨bx, 12, none⟩ (.int .i64 tick) := ⟨_, rfl⟩
  have B2 : Bx w V2 bx (dcs nx op lv bg sm tick) := by rw [e2]; exact B1.put 12 _ rfl
  have E2 := hid e2
  have cl := B2.cell ly _ (dcs_at nx op lv bg sm tick ly hly)
  have fl := B2.free ly
  have i1 : (ly : Int) < 8 := by omega
  have i2 : (0 : Int) ≤ (ly : Int) := by omega
  clear e0 e1 e2 x0 x1 r0 sz ebx B1
  have R3 := hid B2.1
  have B4 := hid B2
  have E3 := E2
  have ONE := hid (dcs_one nx op lv bg sm tick hl)
  have FIN := hid (B4.out.done (dcs nx op lv bg sm tick))
  obtain ⟨D, eD⟩ : ∃ D, D = dcs nx op lv bg sm tick := ⟨_, rfl⟩
  have SZ : Hid (D.size = 13) := by show _ = _; rw [eD]; rfl
  rw [← eD] at R3 B4 ONE FIN ⊢
  have GP : Hid (∀ V, Calls Try.prog 28 #[.int .u32 (nx.getD ly (-1)), .int .u32 seq] V fun e w' => e = .returned (.int .i64 (Ser.fgap (nx.getD ly (-1)) seq)) ∧ w' = V) := fun V => Ser.refGap_any _ _ hx0 s0 hx1 s1 V
  have hxb : (nx.getD ly (-1) == seq) = false := by rw [beq_eq_false_iff_ne]; exact hne
  have hx2 : ¬ nx.getD ly (-1) < 0 := by omega
  obtain ⟨gr0, gr1⟩ := Ser.fgap_room (nx.getD ly (-1)) seq
  clear hne
  generalize Ser.fgap (nx.getD ly (-1)) seq = G at *
  generalize nx.getD ly (-1) = x at *
  have g1 : ¬ 256 < G := by omega
  clear B2 hn hly eD
  go_enter Try.func20, Try.ntmps20
  go_wp2_with (first
    | rw [← EB.out, ← E1.out]
    | rw [← E2.out]
    | rw [← E3.out]
    | refine wpList_load_row rfl 29 (.tmp 5) rfl bx rfl 29 _ (0, 0) _ R3.out Try.underlying29 rfl (by rw [dcs_size]; exact size_st) ?_)
  refine (GP.out _).mono ?_
  rintro e wg ⟨rfl, rfl⟩
  clear GP
  go_wp2_with (first
    | refine wpList_load_row rfl 29 (.tmp 5) rfl bx rfl 29 _ (0, 0) _ R3.out Try.underlying29 rfl (by rw [SZ.out]; exact size_st) ?_
    | refine wpList_store_row rfl 29 (.tmp 10) (.tmp 61) rfl (bx + 1) _ rfl rfl 29 _ B4.out.2.1 (by rw [SZ.out]; exact size_st) (by rw [SZ.out]; rfl) ONE.out ?_)
  try simp only [Act.put, List.setIfInBounds_toArray, List.set_cons_zero, List.set_cons_succ]
  refine bodyPost_ret (results_cell_tmp3 Try.results20 _ _ (bx + 1) 29 _ (0, 0) _ rfl FIN.out.2 Try.underlying29 rfl (by rw [SZ.out]; exact size_st)) rfl ?_
  exact ⟨rfl, FIN.out.1⟩

set_option maxHeartbeats 2000000 in
theorem on_within (nx : List Int) (op : Int) (lv : Value) (bg : Int) (sm : Bool) (ls : Int) (ly : Nat) (seq tick rtt : Int) (w : World) (hly : ly < 8) (hn : nx.length = 8) (hl : lv.oneCell' = true) (o0 : 0 ≤ op) (o1 : op ≤ 1048576) (s0 : 0 ≤ seq) (s1 : seq < 4294967296) (hx0 : 0 ≤ nx.getD ly (-1)) (hx1 : nx.getD ly (-1) < 4294967296) (hne : nx.getD ly (-1) ≠ seq) (h0 : 0 < Ser.fgap (nx.getD ly (-1)) seq) (h1 : Ser.fgap (nx.getD ly (-1)) seq ≤ 256) (hsm : sm = true) (t0 : 0 ≤ tick) (t1 : tick ≤ 10000000000000) (b0 : 0 ≤ bg) (b1 : bg ≤ 10000000000000) (ht : tick - bg ≤ rtt) :
    Calls Try.prog 20 #[.agg (dcs nx op lv bg sm ls), .int .i64 (ly : Int), .int .u32 seq, .int .i64 tick, .int .i64 rtt] w fun e w' => e = .returned (.tuple #[.agg (dcs (nx.set ly (aft seq)) (cnt (cnt op (Ser.fgap (nx.getD ly (-1)) seq)) 1) lv bg sm tick), .int .i64 (Ser.fgap (nx.getD ly (-1)) seq), .bool false, .bool false]) ∧ Ext w w' := by
  subst hsm
  obtain ⟨V0, e0⟩ : ∃ V0, V0 = w.alloc (.cells (dcs nx op lv bg true ls) 29) := ⟨_, rfl⟩
  obtain ⟨V1, e1⟩ : ∃ V1, V1 = V0.alloc (.cells zst 29) := ⟨_, rfl⟩
  have x0 : Ext w V0 := by rw [e0]; exact (Ext.refl w).alloc _
  have x1 : Ext V0 V1 := by rw [e1]; exact (Ext.refl V0).alloc _
  obtain ⟨bx, ebx⟩ : ∃ bx, bx = w.heap.size := ⟨_, rfl⟩
  have r0 : V0.heap[bx]? = some (.cells (dcs nx op lv bg true ls) 29 (0, 0)) := by rw [e0, ebx]; exact heap_alloc_new w _
  have sz : V0.heap.size = bx + 1 := by rw [e0, ebx, World.size_alloc]
  have B1 : Bx w V1 bx (dcs nx op lv bg true ls) := ⟨x1.row r0, by rw [e1, ← sz]; exact heap_alloc_new V0 _, x0.trans x1, by omega⟩
  have f12 := B1.free 12
  have c12 := B1.cell 12 _ rfl
  unfold zst at e1
  rw [e0] at e1
  have E1 := hid e1
  have EB := hid ebx
  obtain ⟨V2, e2⟩ : ∃ V2, V2 = V1.setCell ⟨bx, 12, none⟩ (.int .i64 tick) := ⟨_, rfl⟩
  have B2 : Bx w V2 bx (dcs nx op lv bg true tick) := by rw [e2]; exact B1.put 12 _ rfl
  have E2 := hid e2
  have cl := B2.cell ly _ (dcs_at nx op lv bg true tick ly hly)
  have fl := B2.free ly
  have i1 : (ly : Int) < 8 := by omega
  have i2 : (0 : Int) ≤ (ly : Int) := by omega
  clear e0 e1 e2 x0 x1 r0 sz ebx B1
  have c11 : V2.cell? ⟨bx, 11, none⟩ = some (.bool true) := B2.cell 11 _ rfl
  have c10 : V2.cell? ⟨bx, 10, none⟩ = some (.int .i64 bg) := B2.cell 10 _ rfl
  obtain ⟨V3, e3⟩ : ∃ V3, V3 = V2.setCell ⟨bx, ly, none⟩ (.int .i64 (aft seq)) := ⟨_, rfl⟩
  have B3 : Bx w V3 bx (dcs (nx.set ly (aft seq)) op lv bg true tick) := by rw [e3]; exact B2.put ly _ (dcs_next nx op lv bg true tick ly (aft seq) hly hn)
  have R3 := hid B3.1
  have BB := hid B3
  have E3 := hid e3
  have GP : Hid (∀ V, Calls Try.prog 28 #[.int .u32 (nx.getD ly (-1)), .int .u32 seq] V fun e w' => e = .returned (.int .i64 (Ser.fgap (nx.getD ly (-1)) seq)) ∧ w' = V) := fun V => Ser.refGap_any _ _ hx0 s0 hx1 s1 V
  have hxb : (nx.getD ly (-1) == seq) = false := by rw [beq_eq_false_iff_ne]; exact hne
  have hx2 : ¬ nx.getD ly (-1) < 0 := by omega
  obtain ⟨gr0, gr1⟩ := Ser.fgap_room (nx.getD ly (-1)) seq
  clear hne
  generalize Ser.fgap (nx.getD ly (-1)) seq = G at *
  generalize nx.getD ly (-1) = x at *
  obtain ⟨A, eA⟩ : ∃ A, A = aft seq := ⟨_, rfl⟩
  have wa : (seq + 1) % 4294967296 = A := eA.symm
  rw [← eA] at E3 R3 BB ⊢
  obtain ⟨q0, q1⟩ := cnt_room op G o0 o1 (by omega)
  have CN := hid (fun V => count_any (nx.set ly A) op lv bg true tick G V o0 o1 (by omega) (by omega) hl)
  have CM := hid (fun V => count_any (nx.set ly A) (cnt op G) lv bg true tick 1 V q0 q1 (by decide) (by decide) hl)
  have ONE := hid (dcs_one (nx.set ly A) (cnt (cnt op G) 1) lv bg true tick hl)
  have g1 : ¬ 256 < G := by omega
  have g2 : ¬ G ≤ 0 := by omega
  have g3 : ¬ rtt < tick - bg := by omega
  clear B2 B3 e3 eA hn hly q0 q1
  go_enter Try.func20, Try.ntmps20
  go_wp2_with (first
    | rw [← EB.out, ← E1.out]
    | rw [← E2.out]
    | rw [← E3.out]
    | refine wpList_load_row rfl 29 (.tmp 5) rfl bx rfl 29 _ (0, 0) _ R3.out Try.underlying29 rfl (by rw [dcs_size]; exact size_st) ?_)
  refine (GP.out _).mono ?_
  rintro e wg ⟨rfl, rfl⟩
  clear GP
  go_wp2_with (first
    | rw [← EB.out, ← E1.out]
    | rw [← E2.out]
    | rw [← E3.out]
    | refine wpList_load_row rfl 29 (.tmp 5) rfl bx rfl 29 _ (0, 0) _ R3.out Try.underlying29 rfl (by rw [dcs_size]; exact size_st) ?_)
  refine (CN.out _).mono ?_
  rintro e V4 ⟨rfl, x4⟩
  have B3 := hid (BB.out.ext x4)
  clear CN x4 BB R3
  go_wp2_with fail
  refine (CM.out _).mono ?_
  rintro e V5 ⟨rfl, x5⟩
  have B4 := hid (B3.out.ext x5)
  have FIN := hid (B4.out.done (dcs (nx.set ly A) (cnt (cnt op G) 1) lv bg true tick))
  clear CM x5 B3
  go_wp2_with (refine wpList_store_row rfl 29 (.tmp 10) (.tmp 106) rfl (bx + 1) _ rfl rfl 29 _ B4.out.2.1 (by rw [dcs_size]; exact size_st) rfl ONE.out ?_)
  try simp only [Act.put, List.setIfInBounds_toArray, List.set_cons_zero, List.set_cons_succ]
  refine bodyPost_ret (results_cell_tmp3 Try.results20 _ _ (bx + 1) 29 _ (0, 0) _ rfl FIN.out.2 Try.underlying29 rfl (by rw [dcs_size]; exact size_st)) rfl ?_
  exact ⟨rfl, FIN.out.1⟩
end Go.Proofs.Ytlglhggfhlpbjaa.Det

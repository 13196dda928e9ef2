/-
  Walks of come, each way by itself.
-/
import Derived.Test.YtlglhggfhlpbjaaDetCome
namespace Go.Proofs.Ytlglhggfhlpbjaa.Det
set_option linter.unusedVariables false
set_option maxRecDepth 100000
open Go.RowKit Go.Lib Go.Proofs.Ytlglhggfhlpbjaa.His

theorem hst_packet (o : Int) (l : List Int) (n : Int) (n0 : 0 ≤ n) (n1 : n ≤ 65536) : hst (o, l) (1, n) = (cnt o n, l) := by
  unfold hst cnt
  simp only [if_true]
  by_cases q : o + n ≤ 1048576
  · rw [if_neg (by omega), if_pos q]
  · rw [if_pos (by omega), if_neg q]
theorem packet_det (b h : Nat) (s : DS) (n : Int) (w : World) (d : DetV w b h s) (n0 : 0 ≤ n) (n1 : n ≤ 65536) :
    Calls Try.prog 35 #[.pointer (some ⟨h, 0, none⟩), .int .i64 n] w fun e w' => (∃ c, e = .returned (.int .i64 c)) ∧ DetV w' b h (s.1, (cnt s.2.1.1 n, s.2.1.2), s.2.2) ∧ Kept (fun q => q ≠ h) w w' := by
  refine (packet_any h s.2.1.1 s.2.1.2 n w d.2.2.1).mono ?_
  rintro e w' ⟨rfl, v, k⟩
  rw [hst_packet _ _ _ n0 n1] at v
  exact ⟨⟨_, rfl⟩, d.his k v, k⟩
theorem loss_det (b h : Nat) (s : DS) (w : World) (d : DetV w b h s) :
    Calls Try.prog 34 #[.pointer (some ⟨h, 0, none⟩)] w fun e w' => e = .returned (.bool (decide (s.2.1.2.length = 0))) ∧ DetV w' b h (s.1, (0, (s.2.1.1 :: s.2.1.2).take 8), s.2.2) ∧ Kept (fun q => q ≠ h) w w' := by
  refine (loss_any h s.2.1.1 s.2.1.2 w d.2.2.1).mono ?_
  rintro e w' ⟨rfl, v, k⟩
  exact ⟨rfl, d.his k v, k⟩

def fcs (n : Int) (e f : Bool) : Array Value := #[.int .i64 n, .bool e, .bool f]
theorem size_fd : (Try.prog.info? 40).map (·.size) = some 3 := by kernel_rfl
theorem fcs_one (n : Int) (e f : Bool) : (fcs n e f).all (·.oneCell') = true := by simp [fcs, Value.oneCell']
/-- a detector, the result's box and another one -/
def Cm (w V : World) (b h bx : Nat) (s : DS) : Prop := DetV V b h s ∧ V.heap[bx]? = some (.cells (fcs 0 false false) 40 (0, 0)) ∧ Kept (fun q => q ≠ b ∧ q ≠ h) w V ∧ w.heap.size ≤ bx ∧ b < w.heap.size ∧ h < w.heap.size
theorem Cm.ext {w V V' : World} {b h bx : Nat} {s : DS} (c : Cm w V b h bx s) (e : Ext V V') : Cm w V' b h bx s := ⟨c.1.ext e, e.row c.2.1, c.2.2.1.trans (Kept.of_ext e), c.2.2.2⟩
theorem Cm.his {w V V' : World} {b h bx : Nat} {s s' : DS} (c : Cm w V b h bx s) (d : DetV V' b h s') (k : Kept (fun q => q ≠ h) V V') : Cm w V' b h bx s' :=
  ⟨d, k.row (by have := c.2.2.2; omega) c.2.1, c.2.2.1.trans (k.mono fun _ hq => hq.2), c.2.2.2⟩
theorem Cm.own {w V V' : World} {b h bx : Nat} {s s' : DS} (c : Cm w V b h bx s) (d : DetV V' b h s') (k : Kept (fun q => q ≠ b) V V') : Cm w V' b h bx s' :=
  ⟨d, k.row (by have := c.2.2.2; omega) c.2.1, c.2.2.1.trans (k.mono fun _ hq => hq.1), c.2.2.2⟩
theorem Cm.done {w V : World} {b h bx : Nat} {s : DS} (c : Cm w V b h bx s) (cs : Array Value) : DetV (V.setRow bx cs) b h s ∧ Kept (fun q => q ≠ b ∧ q ≠ h) w (V.setRow bx cs) ∧ (V.setRow bx cs).heap[bx]? = some (.cells cs 40 (0, 0)) := by
  have k : Kept (fun q => q ≠ bx) V (V.setRow bx cs) := (Kept.refl _ V).setRow (fun hne => hne rfl) cs
  refine ⟨c.1.kept k (by have := c.2.2.2; omega) (by have := c.2.2.2; omega), ?_, setRow_heap _ _ _ _ _ _ c.2.1⟩
  refine ⟨⟨k.1.1.trans c.2.2.1.1.1, k.1.2.1.trans c.2.2.1.1.2.1, k.1.2.2.1.trans c.2.2.1.1.2.2.1, Nat.le_trans c.2.2.1.size k.size⟩, fun i hi hq => ?_⟩
  rw [k.2 i (Nat.lt_of_lt_of_le hi c.2.2.1.size) (by have := c.2.2.2; omega), c.2.2.1.2 i hi hq]

theorem Cm.f_lt {w V : World} {b h bx : Nat} {s : DS} (c : Cm w V b h bx s) : b < V.heap.size ∧ h < V.heap.size ∧ bx < V.heap.size := ⟨c.1.lt.1, c.1.lt.2, lt_of_row c.2.1⟩
theorem Cm.box {w V : World} {b h bx : Nat} {s : DS} (c : Cm w V b h bx s) (f : Nat) (cs : Array Value) (fb : f ≠ b) (fh : f ≠ h) (fx : f ≠ bx) (fw : w.heap.size ≤ f) : Cm w (V.setRow f cs) b h bx s := by
  have k : Kept (fun q => q ≠ f) V (V.setRow f cs) := (Kept.refl _ V).setRow (fun hne => hne rfl) cs
  refine ⟨c.1.kept k (fun q => fb q.symm) (fun q => fh q.symm), k.row (fun q => fx q.symm) c.2.1, ?_, c.2.2.2⟩
  refine ⟨⟨k.1.1.trans c.2.2.1.1.1, k.1.2.1.trans c.2.2.1.1.2.1, k.1.2.2.1.trans c.2.2.1.1.2.2.1, Nat.le_trans c.2.2.1.size k.size⟩, fun i hi hq => ?_⟩
  rw [k.2 i (Nat.lt_of_lt_of_le hi c.2.2.1.size) (by omega), c.2.2.1.2 i hi hq]
theorem put_next (b h : Nat) (s : DS) (k : Nat) (v : Int) (V : World) (d : DetV V b h s) (hk : k < 8) (v0 : 0 ≤ v) (v1 : v < 4294967296) : ∃ V', (Instr.storeAt 51 (.pointer (some ⟨b, k * 2, none⟩)) (.agg #[.int .u32 v, .bool true])).run Try.prog V = .ok () V' ∧ DetV V' b h (s.1.set k v, s.2) ∧ Kept (fun q => q ≠ b) V V' := by
  have nf := next_fit d.1 k v hk (by omega) v1
  have st := store_part V b (k * 2) 51 56 (exc v) (dlist h s) d.2.1 size_ex (by rw [d_len]; simp [exc]; omega) (exc_one v)
  have ow := d.own (s' := (s.1.set k v, s.2)) ⟨nf.1, nf.2, d.1.2.2⟩ rfl _ (show (splice (dlist h s) (k * 2) (exc v)).toArray = drow h (s.1.set k v, s.2) by rw [d_put h s k v hk d.1.1]; rfl)
  have e : (exc v).toArray = #[.int .u32 v, .bool true] := by unfold exc; rw [exs_pos v0, exi_pos v0]
  rw [← e]
  exact ⟨_, st, ow⟩
theorem begun_det (b h : Nat) (s : DS) (V : World) (d : DetV V b h s) : ∃ V', (Instr.storeAt 54 (.pointer (some ⟨b, 17, none⟩)) (.agg #[.int .i64 s.2.2.2.2, .bool true])).run Try.prog V = .ok () V' ∧ DetV V' b h (s.1, s.2.1, s.2.2.2.2, true, s.2.2.2.2) ∧ Kept (fun q => q ≠ b) V V' := by
  have st := store_part V b 17 54 56 [.int .i64 s.2.2.2.2, .bool true] (dlist h s) d.2.1 (show _ = some 2 by kernel_rfl) (by rw [d_len]; simp) (fun v hv => by
    simp only [List.mem_cons, List.not_mem_nil, or_false] at hv
    rcases hv with e | e <;> (subst e; rfl))
  have ow := d.own (s' := (s.1, s.2.1, s.2.2.2.2, true, s.2.2.2.2)) ⟨d.1.1, d.1.2.1, d.1.2.2.1, d.1.2.2.2.2, d.1.2.2.2.2⟩ rfl _ (show (splice (dlist h s) 17 [.int .i64 s.2.2.2.2, .bool true]).toArray = drow h (s.1, s.2.1, s.2.2.2.2, true, s.2.2.2.2) from rfl)
  exact ⟨_, st, ow⟩

set_option maxHeartbeats 2000000 in
theorem come_old (b h : Nat) (s : DS) (ly : Nat) (seq rtt : Int) (w : World) (d : DetV w b h s) (hly : ly < 8) (s0 : 0 ≤ seq) (s1 : seq < 4294967296) (hL : dlost (s.1.getD ly (-1)) seq = (0, false)) :
    Calls Try.prog 25 #[.pointer (some ⟨b, 0, none⟩), .int .i64 (ly : Int), .int .u32 seq, .int .i64 rtt] w fun e w' => e = .returned (.agg (fcs 0 false false)) ∧ DetV w' b h s ∧ Kept (fun q => q ≠ b ∧ q ≠ h) w w' := by
  obtain ⟨x0, x1⟩ := d.1.2.1 ly hly
  obtain ⟨V0, e0⟩ : ∃ V0, V0 = w.alloc (.cells (fcs 0 false false) 40) := ⟨_, rfl⟩
  have X0 : Ext w V0 := by rw [e0]; exact (Ext.refl w).alloc _
  obtain ⟨bx, ebx⟩ : ∃ bx, bx = w.heap.size := ⟨_, rfl⟩
  have CM : Cm w V0 b h bx s := ⟨d.ext X0, by rw [e0, ebx]; exact heap_alloc_new w _, Kept.of_ext X0, by omega, d.lt⟩
  have LO := hid (lost_any (s.1.getD ly (-1)) seq V0 x0 x1 s0 s1)
  rw [hL] at LO
  have RG := hid (CM.1.range ly hly)
  have SZ := hid size_ex
  have EB := hid ebx
  have C0 := hid CM
  have i1 : (ly : Int) < 8 := by omega
  have i2 : (0 : Int) ≤ (ly : Int) := by omega
  obtain ⟨cs, ecs⟩ : ∃ cs, cs = exc (s.1.getD ly (-1)) := ⟨_, rfl⟩
  have c2 : Hid (cs.length = 2) := by rw [ecs]; exact rfl
  have ONE := hid (fcs_one 0 false false)
  rw [← ecs] at RG LO
  unfold fcs at e0
  have E0 := hid e0
  clear d CM X0 e0 ebx ecs hL x0 x1
  go_enter Try.func25, Try.ntmps25
  go_wp2_with (first
    | rw [← EB.out, ← E0.out]
    | refine wpList_load_mid rfl 51 _ rfl b (ly * 2) rfl _ _ RG.out Try.underlying51 rfl (by rw [c2.out]; exact SZ.out) ?_)
  refine LO.out.mono ?_
  rintro e V1 ⟨rfl, x1⟩
  have C1 := hid (C0.out.ext x1)
  have FIN := hid (C1.out.done (fcs 0 false false))
  clear LO x1 C0 RG
  go_wp2_with (refine wpList_store_row rfl 40 _ _ rfl bx _ rfl rfl 40 _ C1.out.2.1 size_fd rfl ONE.out ?_)
  refine bodyPost_ret (results_cell_row Try.results25 _ _ bx 40 _ (0, 0) _ rfl FIN.out.2.2 Try.underlying40 rfl size_fd) rfl ?_
  exact ⟨rfl, FIN.out.1, FIN.out.2.1⟩
set_option maxHeartbeats 2000000 in
theorem come_none (b h : Nat) (s : DS) (ly : Nat) (seq rtt : Int) (w : World) (d : DetV w b h s) (hly : ly < 8) (s0 : 0 ≤ seq) (s1 : seq < 4294967296) (hL : dlost (s.1.getD ly (-1)) seq = (0, true)) :
    Calls Try.prog 25 #[.pointer (some ⟨b, 0, none⟩), .int .i64 (ly : Int), .int .u32 seq, .int .i64 rtt] w fun e w' => e = .returned (.agg (fcs 0 false false)) ∧ DetV w' b h (s.1.set ly (aft seq), (cnt (cnt s.2.1.1 0) 1, s.2.1.2), s.2.2) ∧ Kept (fun q => q ≠ b ∧ q ≠ h) w w' := by
  obtain ⟨x0, x1⟩ := d.1.2.1 ly hly
  obtain ⟨V0, e0⟩ : ∃ V0, V0 = w.alloc (.cells (fcs 0 false false) 40) := ⟨_, rfl⟩
  have X0 : Ext w V0 := by rw [e0]; exact (Ext.refl w).alloc _
  obtain ⟨bx, ebx⟩ : ∃ bx, bx = w.heap.size := ⟨_, rfl⟩
  have CM : Cm w V0 b h bx s := ⟨d.ext X0, by rw [e0, ebx]; exact heap_alloc_new w _, Kept.of_ext X0, by omega, d.lt⟩
  have LO := hid (lost_any (s.1.getD ly (-1)) seq V0 x0 x1 s0 s1)
  rw [hL] at LO
  have RG := hid (CM.1.range ly hly)
  have SZ := hid size_ex
  have EB := hid ebx
  have C0 := hid CM
  have i1 : (ly : Int) < 8 := by omega
  have i2 : (0 : Int) ≤ (ly : Int) := by omega
  obtain ⟨cs, ecs⟩ : ∃ cs, cs = exc (s.1.getD ly (-1)) := ⟨_, rfl⟩
  have c2 : Hid (cs.length = 2) := by rw [ecs]; exact rfl
  rw [← ecs] at RG LO
  obtain ⟨A, eA⟩ : ∃ A, A = aft seq := ⟨_, rfl⟩
  have NX : Hid (∀ V, Calls Try.prog 32 #[.int .u32 seq, .int .i64 1] V fun e w' => e = .returned (.int .u32 A) ∧ w' = V) := fun V => by
    rw [eA]
    exact Ser.next_any seq 1 s0 s1 (by decide) (by decide) V
  have PN : Hid (∀ V, DetV V b h s → ∃ V', (Instr.storeAt 51 (.pointer (some ⟨b, ly * 2, none⟩)) (.agg #[.int .u32 A, .bool true])).run Try.prog V = .ok () V' ∧ DetV V' b h (s.1.set ly A, s.2) ∧ Kept (fun q => q ≠ b) V V') := fun V dv => by
    rw [eA]
    exact put_next b h s ly (aft seq) V dv hly (aft_room seq).1 (aft_room seq).2
  rw [← eA]
  unfold fcs at e0
  have E0 := hid e0
  clear d CM X0 e0 ebx ecs hL x0 x1 eA
  go_enter Try.func25, Try.ntmps25
  go_wp2_with (first
    | rw [← EB.out, ← E0.out]
    | refine wpList_load_mid rfl 51 _ rfl b (ly * 2) rfl _ _ RG.out Try.underlying51 rfl (by rw [c2.out]; exact SZ.out) ?_)
  refine LO.out.mono ?_
  rintro e V1 ⟨rfl, x1⟩
  have C1 := hid (C0.out.ext (x1.trans ((Ext.refl V1).drewN 1)))
  clear LO x1 C0 RG
  go_wp2_with fail
  refine wp_region_held_drew (S := fun _ => True) (by kernel_rfl) trivial (fun hHeld => ?_)
  refine takeE (v := ?_) 0 26 rfl rfl (by kernel_rfl) (by kernel_rfl) (by kernel_rfl) (fun _ _ _ h => h) (Or.inl ⟨by rfl, fun V hV => ?_⟩) hHeld ?_
  rotate_left
  · (go_simp; try with_reducible rfl)
  simp only [Act.put, List.setIfInBounds_toArray, List.set_cons_zero, List.set_cons_succ]
  refine takeE (v := ?_) 1 27 rfl rfl (by kernel_rfl) (by kernel_rfl) (by kernel_rfl) (fun _ _ _ h => h) (Or.inl ⟨by rfl, fun V hV => ?_⟩) hHeld ?_
  rotate_left
  · (go_simp; try with_reducible rfl)
  simp only [Act.put, List.setIfInBounds_toArray, List.set_cons_zero, List.set_cons_succ]
  refine takeE (v := ?_) 2 28 rfl rfl (by kernel_rfl) (by kernel_rfl) (by kernel_rfl) (fun _ _ _ h => h) (Or.inl ⟨by rfl, fun V hV => ?_⟩) hHeld ?_
  rotate_left
  · (go_simp; try with_reducible rfl)
  simp only [Act.put, List.setIfInBounds_toArray, List.set_cons_zero, List.set_cons_succ]
  refine takeE (v := ?_) 5 31 rfl rfl (by kernel_rfl) (by kernel_rfl) (by kernel_rfl) (fun _ _ _ h => h) (Or.inl ⟨by rfl, fun V hV => ?_⟩) hHeld ?_
  rotate_left
  · (go_simp; try with_reducible rfl)
  simp only [Act.put, List.setIfInBounds_toArray, List.set_cons_zero, List.set_cons_succ]
  refine takeE (v := ?_) 6 32 rfl rfl (by kernel_rfl) (by kernel_rfl) (by kernel_rfl) (fun _ _ _ h => h) (Or.inl ⟨by rfl, fun V hV => ?_⟩) hHeld ?_
  rotate_left
  · (go_simp; try with_reducible rfl)
  simp only [Act.put, List.setIfInBounds_toArray, List.set_cons_zero, List.set_cons_succ]
  refine callE 3 29 rfl rfl (by kernel_rfl) (by rfl) (by go_simp; first | exact ⟨rfl, rfl⟩ | rfl) ?_
  refine (NX.out _).mono ?_
  rintro e V2 ⟨rfl, rfl⟩
  refine ⟨_, rfl, trivial, ?_⟩
  simp only [Act.put, List.setIfInBounds_toArray, List.set_cons_zero, List.set_cons_succ]
  refine takeE (v := ?_) 4 30 rfl rfl (by kernel_rfl) (by kernel_rfl) (by kernel_rfl) (fun _ _ _ h => h) (Or.inl ⟨by rfl, fun V hV => ?_⟩) hHeld ?_
  rotate_left
  · (go_simp; try with_reducible rfl)
  simp only [Act.put, List.setIfInBounds_toArray, List.set_cons_zero, List.set_cons_succ]
  refine takeE (v := ?_) 7 33 rfl rfl (by kernel_rfl) (by kernel_rfl) (by kernel_rfl) (fun _ _ _ h => h) (Or.inl ⟨by rfl, fun V hV => ?_⟩) hHeld ?_
  rotate_left
  · (go_simp; try with_reducible rfl)
  simp only [Act.put, List.setIfInBounds_toArray, List.set_cons_zero, List.set_cons_succ]
  obtain ⟨V2, st, d2, k2⟩ := PN.out _ C1.out.1
  refine storeE 8 rfl (by kernel_rfl) (by rfl) (w' := V2) (exec_store 51 (.tmp 33) (.tmp 30) rfl st) trivial ?_
  simp only [Act.put]
  refine wpAnyH_done (by kernel_rfl) ?_ _
  have C2 := hid (C1.out.own d2 k2)
  clear st d2 k2 PN C1 NX hHeld
  obtain ⟨V3, e3⟩ : ∃ V3, V3 = V2.alloc (.cells (fcs 0 false false) 40) := ⟨_, rfl⟩
  obtain ⟨f, ef⟩ : ∃ f, f = V2.heap.size := ⟨_, rfl⟩
  have X3 : Ext V2 V3 := by rw [e3]; exact (Ext.refl V2).alloc _
  have F3 : V3.heap[f]? = some (.cells (fcs 0 false false) 40 (0, 0)) := by rw [e3, ef]; exact heap_alloc_new V2 _
  have fl := C2.out.f_lt
  rw [← ef] at fl
  have C3 := C2.out.ext X3
  have R3 := hid F3
  obtain ⟨V4, e4⟩ : ∃ V4, V4 = V3.setRow f (fcs 0 false false) := ⟨_, rfl⟩
  have BX4 : Hid (V4.heap[f]? = some (.cells (fcs 0 false false) 40 (0, 0)) ∧ b < f ∧ h < f ∧ bx < f) := ⟨by rw [e4]; exact setRow_heap _ _ _ _ _ _ F3, fl⟩
  have C4 : Hid (Cm w V4 b h bx (s.1.set ly A, s.2)) := by show Cm _ _ _ _ _ _; rw [e4]; exact C3.box f _ (by omega) (by omega) (by omega) (by have := C3.2.2.2; omega)
  unfold fcs at e3
  have E3 := hid e3
  have EF := hid ef
  have E4 := hid e4
  clear e3 e4 ef X3 F3 fl C2 C3
  have h16 := C4.out.1.cell 16 _ rfl
  go_wp2_with (first
    | rw [← EF.out, ← E3.out]
    | (refine wpList_store_row rfl 40 _ _ rfl f (fcs 0 false false) rfl rfl 40 _ R3.out size_fd rfl (fcs_one _ _ _) ?_; rw [← E4.out]))
  refine (packet_det b h _ 0 _ C4.out.1 (by omega) (by omega)).mono ?_
  rintro e V5 ⟨⟨_, rfl⟩, d5, k5⟩
  have C5 := hid (C4.out.his d5 k5)
  have BX5 := hid (And.intro (k5.row (by have := BX4.out.2; omega) BX4.out.1) BX4.out.2)
  clear h16 C4 BX4 d5 k5
  have h16 := C5.out.1.cell 16 _ rfl
  go_wp2_with fail
  refine (packet_det b h _ 1 _ C5.out.1 (by omega) (by omega)).mono ?_
  rintro e V6 ⟨⟨_, rfl⟩, d6, k6⟩
  have C6 := hid (C5.out.his d6 k6)
  have BX6 := hid (And.intro (k6.row (by have := BX5.out.2; omega) BX5.out.1) BX5.out.2)
  clear h16 C5 BX5 d6 k6
  have h16 := C6.out.1.cell 16 _ rfl
  have FIN := hid (C6.out.done (fcs 0 false false))
  go_wp2_with (first
    | refine wpList_load_row rfl 40 _ rfl f rfl 40 _ (0, 0) _ BX6.out.1 Try.underlying40 rfl size_fd ?_
    | refine wpList_store_row rfl 40 _ _ rfl bx _ rfl rfl 40 _ C6.out.2.1 size_fd rfl (fcs_one _ _ _) ?_)
  refine bodyPost_ret (results_cell_row Try.results25 _ _ bx 40 _ (0, 0) _ rfl FIN.out.2.2 Try.underlying40 rfl size_fd) rfl ?_
  exact ⟨rfl, FIN.out.1, FIN.out.2.1⟩

set_option maxHeartbeats 2000000 in
theorem come_same (b h : Nat) (s : DS) (ly : Nat) (seq rtt : Int) (w : World) (d : DetV w b h s) (hly : ly < 8) (s0 : 0 ≤ seq) (s1 : seq < 4294967296) (L : Int) (hL : dlost (s.1.getD ly (-1)) seq = (L, true)) (l0 : 0 < L) (l1 : L ≤ 256) (ev : decide (s.2.2.2.1 = false ∨ rtt < s.2.2.2.2 - s.2.2.1) = false) :
    Calls Try.prog 25 #[.pointer (some ⟨b, 0, none⟩), .int .i64 (ly : Int), .int .u32 seq, .int .i64 rtt] w fun e w' => e = .returned (.agg (fcs L false false)) ∧ DetV w' b h (s.1.set ly (aft seq), (cnt (cnt s.2.1.1 L) 1, s.2.1.2), s.2.2) ∧ Kept (fun q => q ≠ b ∧ q ≠ h) w w' := by
  obtain ⟨x0, x1⟩ := d.1.2.1 ly hly
  obtain ⟨V0, e0⟩ : ∃ V0, V0 = w.alloc (.cells (fcs 0 false false) 40) := ⟨_, rfl⟩
  have X0 : Ext w V0 := by rw [e0]; exact (Ext.refl w).alloc _
  obtain ⟨bx, ebx⟩ : ∃ bx, bx = w.heap.size := ⟨_, rfl⟩
  have CM : Cm w V0 b h bx s := ⟨d.ext X0, by rw [e0, ebx]; exact heap_alloc_new w _, Kept.of_ext X0, by omega, d.lt⟩
  have LO := hid (lost_any (s.1.getD ly (-1)) seq V0 x0 x1 s0 s1)
  rw [hL] at LO
  have RG := hid (CM.1.range ly hly)
  have SZ := hid size_ex
  have EB := hid ebx
  have C0 := hid CM
  have i1 : (ly : Int) < 8 := by omega
  have i2 : (0 : Int) ≤ (ly : Int) := by omega
  obtain ⟨cs, ecs⟩ : ∃ cs, cs = exc (s.1.getD ly (-1)) := ⟨_, rfl⟩
  have c2 : Hid (cs.length = 2) := by rw [ecs]; exact rfl
  rw [← ecs] at RG LO
  obtain ⟨A, eA⟩ : ∃ A, A = aft seq := ⟨_, rfl⟩
  have NX : Hid (∀ V, Calls Try.prog 32 #[.int .u32 seq, .int .i64 1] V fun e w' => e = .returned (.int .u32 A) ∧ w' = V) := fun V => by
    rw [eA]
    exact Ser.next_any seq 1 s0 s1 (by decide) (by decide) V
  have PN : Hid (∀ V, DetV V b h s → ∃ V', (Instr.storeAt 51 (.pointer (some ⟨b, ly * 2, none⟩)) (.agg #[.int .u32 A, .bool true])).run Try.prog V = .ok () V' ∧ DetV V' b h (s.1.set ly A, s.2) ∧ Kept (fun q => q ≠ b) V V') := fun V dv => by
    rw [eA]
    exact put_next b h s ly (aft seq) V dv hly (aft_room seq).1 (aft_room seq).2
  rw [← eA]
  have LB : Hid (0 ≤ L ∧ L ≤ 65536) := ⟨by omega, by omega⟩
  unfold fcs at e0
  have E0 := hid e0
  clear d CM X0 e0 ebx ecs hL x0 x1 eA
  go_enter Try.func25, Try.ntmps25
  go_wp2_with (first
    | rw [← EB.out, ← E0.out]
    | refine wpList_load_mid rfl 51 _ rfl b (ly * 2) rfl _ _ RG.out Try.underlying51 rfl (by rw [c2.out]; exact SZ.out) ?_)
  refine LO.out.mono ?_
  rintro e V1 ⟨rfl, x1⟩
  have C1 := hid (C0.out.ext (x1.trans ((Ext.refl V1).drewN 1)))
  clear LO x1 C0 RG
  go_wp2_with fail
  refine wp_region_held_drew (S := fun _ => True) (by kernel_rfl) trivial (fun hHeld => ?_)
  refine takeE (v := ?_) 0 26 rfl rfl (by kernel_rfl) (by kernel_rfl) (by kernel_rfl) (fun _ _ _ h => h) (Or.inl ⟨by rfl, fun V hV => ?_⟩) hHeld ?_
  rotate_left
  · (go_simp; try with_reducible rfl)
  simp only [Act.put, List.setIfInBounds_toArray, List.set_cons_zero, List.set_cons_succ]
  refine takeE (v := ?_) 1 27 rfl rfl (by kernel_rfl) (by kernel_rfl) (by kernel_rfl) (fun _ _ _ h => h) (Or.inl ⟨by rfl, fun V hV => ?_⟩) hHeld ?_
  rotate_left
  · (go_simp; try with_reducible rfl)
  simp only [Act.put, List.setIfInBounds_toArray, List.set_cons_zero, List.set_cons_succ]
  refine takeE (v := ?_) 2 28 rfl rfl (by kernel_rfl) (by kernel_rfl) (by kernel_rfl) (fun _ _ _ h => h) (Or.inl ⟨by rfl, fun V hV => ?_⟩) hHeld ?_
  rotate_left
  · (go_simp; try with_reducible rfl)
  simp only [Act.put, List.setIfInBounds_toArray, List.set_cons_zero, List.set_cons_succ]
  refine takeE (v := ?_) 5 31 rfl rfl (by kernel_rfl) (by kernel_rfl) (by kernel_rfl) (fun _ _ _ h => h) (Or.inl ⟨by rfl, fun V hV => ?_⟩) hHeld ?_
  rotate_left
  · (go_simp; try with_reducible rfl)
  simp only [Act.put, List.setIfInBounds_toArray, List.set_cons_zero, List.set_cons_succ]
  refine takeE (v := ?_) 6 32 rfl rfl (by kernel_rfl) (by kernel_rfl) (by kernel_rfl) (fun _ _ _ h => h) (Or.inl ⟨by rfl, fun V hV => ?_⟩) hHeld ?_
  rotate_left
  · (go_simp; try with_reducible rfl)
  simp only [Act.put, List.setIfInBounds_toArray, List.set_cons_zero, List.set_cons_succ]
  refine callE 3 29 rfl rfl (by kernel_rfl) (by rfl) (by go_simp; first | exact ⟨rfl, rfl⟩ | rfl) ?_
  refine (NX.out _).mono ?_
  rintro e V2 ⟨rfl, rfl⟩
  refine ⟨_, rfl, trivial, ?_⟩
  simp only [Act.put, List.setIfInBounds_toArray, List.set_cons_zero, List.set_cons_succ]
  refine takeE (v := ?_) 4 30 rfl rfl (by kernel_rfl) (by kernel_rfl) (by kernel_rfl) (fun _ _ _ h => h) (Or.inl ⟨by rfl, fun V hV => ?_⟩) hHeld ?_
  rotate_left
  · (go_simp; try with_reducible rfl)
  simp only [Act.put, List.setIfInBounds_toArray, List.set_cons_zero, List.set_cons_succ]
  refine takeE (v := ?_) 7 33 rfl rfl (by kernel_rfl) (by kernel_rfl) (by kernel_rfl) (fun _ _ _ h => h) (Or.inl ⟨by rfl, fun V hV => ?_⟩) hHeld ?_
  rotate_left
  · (go_simp; try with_reducible rfl)
  simp only [Act.put, List.setIfInBounds_toArray, List.set_cons_zero, List.set_cons_succ]
  obtain ⟨V2, st, d2, k2⟩ := PN.out _ C1.out.1
  refine storeE 8 rfl (by kernel_rfl) (by rfl) (w' := V2) (exec_store 51 (.tmp 33) (.tmp 30) rfl st) trivial ?_
  simp only [Act.put]
  refine wpAnyH_done (by kernel_rfl) ?_ _
  have C2 := hid (C1.out.own d2 k2)
  clear st d2 k2 PN C1 NX hHeld
  obtain ⟨V3, e3⟩ : ∃ V3, V3 = V2.alloc (.cells (fcs 0 false false) 40) := ⟨_, rfl⟩
  obtain ⟨f, ef⟩ : ∃ f, f = V2.heap.size := ⟨_, rfl⟩
  have X3 : Ext V2 V3 := by rw [e3]; exact (Ext.refl V2).alloc _
  have F3 : V3.heap[f]? = some (.cells (fcs 0 false false) 40 (0, 0)) := by rw [e3, ef]; exact heap_alloc_new V2 _
  have fl := C2.out.f_lt
  rw [← ef] at fl
  have C3 := C2.out.ext X3
  have R3 := hid F3
  obtain ⟨V4, e4⟩ : ∃ V4, V4 = V3.setRow f (fcs L false false) := ⟨_, rfl⟩
  have BX4 : Hid (V4.heap[f]? = some (.cells (fcs L false false) 40 (0, 0)) ∧ b < f ∧ h < f ∧ bx < f) := ⟨by rw [e4]; exact setRow_heap _ _ _ _ _ _ F3, fl⟩
  have C4 : Hid (Cm w V4 b h bx (s.1.set ly A, s.2)) := by show Cm _ _ _ _ _ _; rw [e4]; exact C3.box f _ (by omega) (by omega) (by omega) (by have := C3.2.2.2; omega)
  unfold fcs at e3
  have E3 := hid e3
  have EF := hid ef
  have E4 := hid e4
  clear e3 e4 ef X3 F3 fl C2 C3
  have h16 := C4.out.1.cell 16 _ rfl
  go_wp2_with (first
    | rw [← EF.out, ← E3.out]
    | (refine wpList_store_row rfl 40 _ _ rfl f (fcs L false false) rfl rfl 40 _ R3.out size_fd rfl (fcs_one _ _ _) ?_; rw [← E4.out]))
  have IE := hid (isEvent_any b h _ rtt V4 C4.out.1)
  simp only at IE
  rw [ev] at IE
  refine IE.out.mono ?_
  rintro e V5 ⟨rfl, x5⟩
  have C5 := hid (C4.out.ext x5)
  have BX5 := hid (And.intro (x5.row BX4.out.1) BX4.out.2)
  clear IE x5 C4 BX4 h16
  have h16 := C5.out.1.cell 16 _ rfl
  go_wp2_with fail
  refine (packet_det b h _ L _ C5.out.1 (by omega) (by omega)).mono ?_
  rintro e V6 ⟨⟨_, rfl⟩, d6, k6⟩
  have C6 := hid (C5.out.his d6 k6)
  have BX6 := hid (And.intro (k6.row (by have := BX5.out.2; omega) BX5.out.1) BX5.out.2)
  clear h16 C5 BX5 d6 k6
  have h16 := C6.out.1.cell 16 _ rfl
  go_wp2_with fail
  refine (packet_det b h _ 1 _ C6.out.1 (by omega) (by omega)).mono ?_
  rintro e V7 ⟨⟨_, rfl⟩, d7, k7⟩
  have C7 := hid (C6.out.his d7 k7)
  have BX7 := hid (And.intro (k7.row (by have := BX6.out.2; omega) BX6.out.1) BX6.out.2)
  clear h16 C6 BX6 d7 k7
  have h16 := C7.out.1.cell 16 _ rfl
  have FIN := hid (C7.out.done (fcs L false false))
  go_wp2_with (first
    | refine wpList_load_row rfl 40 _ rfl f rfl 40 _ (0, 0) _ BX7.out.1 Try.underlying40 rfl size_fd ?_
    | refine wpList_store_row rfl 40 _ _ rfl bx _ rfl rfl 40 _ C7.out.2.1 size_fd rfl (fcs_one _ _ _) ?_)
  refine bodyPost_ret (results_cell_row Try.results25 _ _ bx 40 _ (0, 0) _ rfl FIN.out.2.2 Try.underlying40 rfl size_fd) rfl ?_
  exact ⟨rfl, FIN.out.1, FIN.out.2.1⟩

set_option maxHeartbeats 2000000 in
theorem come_event (b h : Nat) (s : DS) (ly : Nat) (seq rtt : Int) (w : World) (d : DetV w b h s) (hly : ly < 8) (s0 : 0 ≤ seq) (s1 : seq < 4294967296) (L : Int) (hL : dlost (s.1.getD ly (-1)) seq = (L, true)) (l0 : 0 < L) (l1 : L ≤ 256) (ev : decide (s.2.2.2.1 = false ∨ rtt < s.2.2.2.2 - s.2.2.1) = true) :
    Calls Try.prog 25 #[.pointer (some ⟨b, 0, none⟩), .int .i64 (ly : Int), .int .u32 seq, .int .i64 rtt] w fun e w' => e = .returned (.agg (fcs L true (decide (s.2.1.2.length = 0)))) ∧ DetV w' b h (s.1.set ly (aft seq), (cnt (cnt 0 L) 1, (s.2.1.1 :: s.2.1.2).take 8), s.2.2.2.2, true, s.2.2.2.2) ∧ Kept (fun q => q ≠ b ∧ q ≠ h) w w' := by
  obtain ⟨FI, eFI⟩ : ∃ FI, FI = decide (s.2.1.2.length = 0) := ⟨_, rfl⟩
  rw [← eFI]
  have FE := hid eFI
  obtain ⟨x0, x1⟩ := d.1.2.1 ly hly
  obtain ⟨V0, e0⟩ : ∃ V0, V0 = w.alloc (.cells (fcs 0 false false) 40) := ⟨_, rfl⟩
  have X0 : Ext w V0 := by rw [e0]; exact (Ext.refl w).alloc _
  obtain ⟨bx, ebx⟩ : ∃ bx, bx = w.heap.size := ⟨_, rfl⟩
  have CM : Cm w V0 b h bx s := ⟨d.ext X0, by rw [e0, ebx]; exact heap_alloc_new w _, Kept.of_ext X0, by omega, d.lt⟩
  have LO := hid (lost_any (s.1.getD ly (-1)) seq V0 x0 x1 s0 s1)
  rw [hL] at LO
  have RG := hid (CM.1.range ly hly)
  have SZ := hid size_ex
  have EB := hid ebx
  have C0 := hid CM
  have i1 : (ly : Int) < 8 := by omega
  have i2 : (0 : Int) ≤ (ly : Int) := by omega
  obtain ⟨cs, ecs⟩ : ∃ cs, cs = exc (s.1.getD ly (-1)) := ⟨_, rfl⟩
  have c2 : Hid (cs.length = 2) := by rw [ecs]; exact rfl
  rw [← ecs] at RG LO
  obtain ⟨A, eA⟩ : ∃ A, A = aft seq := ⟨_, rfl⟩
  have NX : Hid (∀ V, Calls Try.prog 32 #[.int .u32 seq, .int .i64 1] V fun e w' => e = .returned (.int .u32 A) ∧ w' = V) := fun V => by
    rw [eA]
    exact Ser.next_any seq 1 s0 s1 (by decide) (by decide) V
  have PN : Hid (∀ V, DetV V b h s → ∃ V', (Instr.storeAt 51 (.pointer (some ⟨b, ly * 2, none⟩)) (.agg #[.int .u32 A, .bool true])).run Try.prog V = .ok () V' ∧ DetV V' b h (s.1.set ly A, s.2) ∧ Kept (fun q => q ≠ b) V V') := fun V dv => by
    rw [eA]
    exact put_next b h s ly (aft seq) V dv hly (aft_room seq).1 (aft_room seq).2
  rw [← eA]
  have LB : Hid (0 ≤ L ∧ L ≤ 65536) := ⟨by omega, by omega⟩
  unfold fcs at e0
  have E0 := hid e0
  clear d CM X0 e0 ebx ecs hL x0 x1 eA eFI
  go_enter Try.func25, Try.ntmps25
  go_wp2_with (first
    | rw [← EB.out, ← E0.out]
    | refine wpList_load_mid rfl 51 _ rfl b (ly * 2) rfl _ _ RG.out Try.underlying51 rfl (by rw [c2.out]; exact SZ.out) ?_)
  refine LO.out.mono ?_
  rintro e V1 ⟨rfl, x1⟩
  have C1 := hid (C0.out.ext (x1.trans ((Ext.refl V1).drewN 1)))
  clear LO x1 C0 RG
  go_wp2_with fail
  refine wp_region_held_drew (S := fun _ => True) (by kernel_rfl) trivial (fun hHeld => ?_)
  refine takeE (v := ?_) 0 26 rfl rfl (by kernel_rfl) (by kernel_rfl) (by kernel_rfl) (fun _ _ _ h => h) (Or.inl ⟨by rfl, fun V hV => ?_⟩) hHeld ?_
  rotate_left
  · (go_simp; try with_reducible rfl)
  simp only [Act.put, List.setIfInBounds_toArray, List.set_cons_zero, List.set_cons_succ]
  refine takeE (v := ?_) 1 27 rfl rfl (by kernel_rfl) (by kernel_rfl) (by kernel_rfl) (fun _ _ _ h => h) (Or.inl ⟨by rfl, fun V hV => ?_⟩) hHeld ?_
  rotate_left
  · (go_simp; try with_reducible rfl)
  simp only [Act.put, List.setIfInBounds_toArray, List.set_cons_zero, List.set_cons_succ]
  refine takeE (v := ?_) 2 28 rfl rfl (by kernel_rfl) (by kernel_rfl) (by kernel_rfl) (fun _ _ _ h => h) (Or.inl ⟨by rfl, fun V hV => ?_⟩) hHeld ?_
  rotate_left
  · (go_simp; try with_reducible rfl)
  simp only [Act.put, List.setIfInBounds_toArray, List.set_cons_zero, List.set_cons_succ]
  refine takeE (v := ?_) 5 31 rfl rfl (by kernel_rfl) (by kernel_rfl) (by kernel_rfl) (fun _ _ _ h => h) (Or.inl ⟨by rfl, fun V hV => ?_⟩) hHeld ?_
  rotate_left
  · (go_simp; try with_reducible rfl)
  simp only [Act.put, List.setIfInBounds_toArray, List.set_cons_zero, List.set_cons_succ]
  refine takeE (v := ?_) 6 32 rfl rfl (by kernel_rfl) (by kernel_rfl) (by kernel_rfl) (fun _ _ _ h => h) (Or.inl ⟨by rfl, fun V hV => ?_⟩) hHeld ?_
  rotate_left
  · (go_simp; try with_reducible rfl)
  simp only [Act.put, List.setIfInBounds_toArray, List.set_cons_zero, List.set_cons_succ]
  refine callE 3 29 rfl rfl (by kernel_rfl) (by rfl) (by go_simp; first | exact ⟨rfl, rfl⟩ | rfl) ?_
  refine (NX.out _).mono ?_
  rintro e V2 ⟨rfl, rfl⟩
  refine ⟨_, rfl, trivial, ?_⟩
  simp only [Act.put, List.setIfInBounds_toArray, List.set_cons_zero, List.set_cons_succ]
  refine takeE (v := ?_) 4 30 rfl rfl (by kernel_rfl) (by kernel_rfl) (by kernel_rfl) (fun _ _ _ h => h) (Or.inl ⟨by rfl, fun V hV => ?_⟩) hHeld ?_
  rotate_left
  · (go_simp; try with_reducible rfl)
  simp only [Act.put, List.setIfInBounds_toArray, List.set_cons_zero, List.set_cons_succ]
  refine takeE (v := ?_) 7 33 rfl rfl (by kernel_rfl) (by kernel_rfl) (by kernel_rfl) (fun _ _ _ h => h) (Or.inl ⟨by rfl, fun V hV => ?_⟩) hHeld ?_
  rotate_left
  · (go_simp; try with_reducible rfl)
  simp only [Act.put, List.setIfInBounds_toArray, List.set_cons_zero, List.set_cons_succ]
  obtain ⟨V2, st, d2, k2⟩ := PN.out _ C1.out.1
  refine storeE 8 rfl (by kernel_rfl) (by rfl) (w' := V2) (exec_store 51 (.tmp 33) (.tmp 30) rfl st) trivial ?_
  simp only [Act.put]
  refine wpAnyH_done (by kernel_rfl) ?_ _
  have C2 := hid (C1.out.own d2 k2)
  clear st d2 k2 PN C1 NX hHeld
  obtain ⟨V3, e3⟩ : ∃ V3, V3 = V2.alloc (.cells (fcs 0 false false) 40) := ⟨_, rfl⟩
  obtain ⟨f, ef⟩ : ∃ f, f = V2.heap.size := ⟨_, rfl⟩
  have X3 : Ext V2 V3 := by rw [e3]; exact (Ext.refl V2).alloc _
  have F3 : V3.heap[f]? = some (.cells (fcs 0 false false) 40 (0, 0)) := by rw [e3, ef]; exact heap_alloc_new V2 _
  have fl := C2.out.f_lt
  rw [← ef] at fl
  have C3 := C2.out.ext X3
  have R3 := hid F3
  obtain ⟨V4, e4⟩ : ∃ V4, V4 = V3.setRow f (fcs L false false) := ⟨_, rfl⟩
  have BX4 : Hid (V4.heap[f]? = some (.cells (fcs L false false) 40 (0, 0)) ∧ b < f ∧ h < f ∧ bx < f) := ⟨by rw [e4]; exact setRow_heap _ _ _ _ _ _ F3, fl⟩
  have C4 : Hid (Cm w V4 b h bx (s.1.set ly A, s.2)) := by show Cm _ _ _ _ _ _; rw [e4]; exact C3.box f _ (by omega) (by omega) (by omega) (by have := C3.2.2.2; omega)
  unfold fcs at e3
  have E3 := hid e3
  have EF := hid ef
  have E4 := hid e4
  clear e3 e4 ef X3 F3 fl C2 C3
  have h16 := C4.out.1.cell 16 _ rfl
  go_wp2_with (first
    | rw [← EF.out, ← E3.out]
    | (refine wpList_store_row rfl 40 _ _ rfl f (fcs L false false) rfl rfl 40 _ R3.out size_fd rfl (fcs_one _ _ _) ?_; rw [← E4.out]))
  have IE := hid (isEvent_any b h _ rtt V4 C4.out.1)
  simp only at IE
  rw [ev] at IE
  refine IE.out.mono ?_
  rintro e V5 ⟨rfl, x5⟩
  have C5 := hid (C4.out.ext x5)
  have BX5 := hid (And.intro (x5.row BX4.out.1) BX4.out.2)
  clear IE x5 C4 BX4 h16
  have h16 := C5.out.1.cell 16 _ rfl
  go_wp2_with fail
  have LS := hid (loss_det b h _ V5 C5.out.1)
  simp only at LS
  rw [← FE.out] at LS
  refine LS.out.mono ?_
  rintro e V6 ⟨rfl, d6, k6⟩
  have C6 := C5.out.his d6 k6
  have R6 : V6.heap[f]? = some (.cells (fcs L false false) 40 (0, 0)) := k6.row (by have := BX5.out.2; omega) BX5.out.1
  obtain ⟨V7, e7⟩ : ∃ V7, V7 = (V6.setCell ⟨f, 1, none⟩ (.bool true)).setCell ⟨f, 2, none⟩ (.bool FI) := ⟨_, rfl⟩
  have e7' : V7 = V6.setRow f (fcs L true FI) := by
    have q1 := setRow_heap _ _ _ ((fcs L false false).setIfInBounds 1 (.bool true)) _ _ R6
    rw [e7, setCell_eq_setRow _ _ _ _ _ _ _ R6, setCell_eq_setRow _ _ _ _ _ _ _ q1, setRow_setRow]
    rfl
  have C7 : Hid (Cm w V7 b h bx (s.1.set ly A, (0, (s.2.1.1 :: s.2.1.2).take 8), s.2.2)) := by
    show Cm _ _ _ _ _ _
    rw [e7']
    exact C6.box f _ (by have := BX5.out.2; omega) (by have := BX5.out.2; omega) (by have := BX5.out.2; omega) (by have := BX5.out.2; have := C6.2.2.2; omega)
  have BX7 : Hid (V7.heap[f]? = some (.cells (fcs L true FI) 40 (0, 0)) ∧ b < f ∧ h < f ∧ bx < f) := ⟨by rw [e7']; exact setRow_heap _ _ _ _ _ _ R6, BX5.out.2⟩
  have f1 : V6.cell? ⟨f, 1, none⟩ = some (.bool false) := by rw [cell_of_row _ _ 1 _ _ _ R6]; rfl
  have f2 : V6.cell? ⟨f, 2, none⟩ = some (.bool false) := by rw [cell_of_row _ _ 2 _ _ _ R6]; rfl
  have g1 : ∀ i, V6.frozen? ⟨f, i, none⟩ = false := fun i => frozen_of_row _ _ _ _ _ R6
  have E7 := hid e7
  clear e7 e7' R6 C6 d6 k6 C5 BX5 h16 LS
  have h19 := C7.out.1.cell 19 _ rfl
  obtain ⟨V8, st8, d8, k8⟩ := begun_det b h _ V7 C7.out.1
  have C8 := hid (C7.out.own d8 k8)
  have BX8 := hid (And.intro (k8.row (by have := BX7.out.2; omega) BX7.out.1) BX7.out.2)
  have ST8 := hid st8
  clear d8 k8 st8
  have h16 := C8.out.1.cell 16 _ rfl
  go_wp2_with (first
    | rw [← E7.out]
    | refine wpList_store_known rfl 54 _ _ rfl _ _ rfl rfl ST8.out ?_)
  clear C7 BX7 h19 ST8
  refine (packet_det b h _ L _ C8.out.1 (by omega) (by omega)).mono ?_
  rintro e V9 ⟨⟨_, rfl⟩, d9, k9⟩
  have C9 := hid (C8.out.his d9 k9)
  have BX9 := hid (And.intro (k9.row (by have := BX8.out.2; omega) BX8.out.1) BX8.out.2)
  clear h16 C8 BX8 d9 k9
  have h16 := C9.out.1.cell 16 _ rfl
  go_wp2_with fail
  refine (packet_det b h _ 1 _ C9.out.1 (by omega) (by omega)).mono ?_
  rintro e V10 ⟨⟨_, rfl⟩, d10, k10⟩
  have C10 := hid (C9.out.his d10 k10)
  have BX10 := hid (And.intro (k10.row (by have := BX9.out.2; omega) BX9.out.1) BX9.out.2)
  clear h16 C9 BX9 d10 k10
  have h16 := C10.out.1.cell 16 _ rfl
  have FIN := hid (C10.out.done (fcs L true FI))
  go_wp2_with (first
    | refine wpList_load_row rfl 40 _ rfl f rfl 40 _ (0, 0) _ BX10.out.1 Try.underlying40 rfl size_fd ?_
    | refine wpList_store_row rfl 40 _ _ rfl bx _ rfl rfl 40 _ C10.out.2.1 size_fd rfl (fcs_one _ _ _) ?_)
  refine bodyPost_ret (results_cell_row Try.results25 _ _ bx 40 _ (0, 0) _ rfl FIN.out.2.2 Try.underlying40 rfl size_fd) rfl ?_
  exact ⟨rfl, FIN.out.1, FIN.out.2.1⟩

end Go.Proofs.Ytlglhggfhlpbjaa.Det

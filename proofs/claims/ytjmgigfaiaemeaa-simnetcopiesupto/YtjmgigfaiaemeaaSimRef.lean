/-
  Walks of the reference: lay.
-/
import Derived.Test.YtjmgigfaiaemeaaMMath
import Derived.Test.YtjmgigfaiaemeaaPipRef
import Derived.Test.YtjmgigfaiaemeaaMCore
namespace Go.Proofs.Ytjmgigfaiaemeaa.Sim
set_option linter.unusedVariables false
set_option maxRecDepth 100000
open Go.RowKit Go.Lib Go.Proofs.Ytjmgigfaiaemeaa.Crc
open Go.Proofs.Ytjmgigfaiaemeaa.Pip hiding NewR

/-- the second of two results lies in a cell, as a whole row -/
theorem results_tmp_cell {P : Program} {fn : Func} {p u : Tmp} {ty : TypeId} (h : fn.results = #[.tmp u, .cell p ty]) (tmps : Array Value) (w : World) (g : Nat) (t : TypeId) (cs : Array Value) (fr : Nat × Nat) (d : TypeDesc)
    (hp : tmps.getD p undef = .pointer (some ⟨g, 0, none⟩)) (hg : w.heap[g]? = some (.cells cs t fr))
    (hu : P.underlying ty = some d) (hd : (match d with | .struct _ | .array _ _ => true | _ => false) = true) (hi : (P.info? ty).map (·.size) = some cs.size) :
    (results fn tmps).run P w = .ok (.tuple #[tmps.getD u undef, .agg cs]) w := by
  have hp' : tmps[p]?.getD undef = .pointer (some ⟨g, 0, none⟩) := by simpa using hp
  simp [results, h, hp', asAddr, run_loadVar_row w g t ty cs fr d hg hu hd hi]
/-- a whole row stored, as a run -/
theorem run_store_whole {P : Program} (w : World) (g : Nat) (t ty : TypeId) (old cells : Array Value) (hg : w.heap[g]? = some (.cells old t (0, 0))) (hi : (P.info? ty).map (·.size) = some cells.size)
    (ho : old.size = cells.size) (h1 : cells.all (·.oneCell') = true) : (Instr.storeAt ty (.pointer (some ⟨g, 0, none⟩)) (.agg cells)).run P w = .ok () (w.setRow g cells) := by
  simp only [Instr.storeAt, Instr.sureAddr, Sem.run_bind, Sem.run_pure, Result.andThen_ok, run_storeVar_row w g t ty old cells hg hi ho h1]

/-- the counts as they lie in cells -/
def scs (s : Cts) : Array Value := #[.int .i64 s.1, .int .i64 s.2.1, .int .i64 s.2.2.1, .int .i64 s.2.2.2.1, .int .i64 s.2.2.2.2.1, .int .i64 s.2.2.2.2.2]
theorem scs_one (s : Cts) : (scs s).all (·.oneCell') = true := by simp [scs, Value.oneCell']

theorem size_sts : (Try.prog.info? 38).map (·.size) = some 6 := by kernel_rfl
theorem size_rmsg : (Try.prog.info? 106).map (·.size) = some 2 := by kernel_rfl

/-- a message of the reference as it lies in cells -/
def renc (g : Int × List UInt8) : List Value := [.int .i64 g.1, .string (str g.2)]
theorem encR : Enc renc 2 := ⟨by decide, fun _ => rfl, fun x u h => by
  simp only [renc, List.mem_cons, List.not_mem_nil, or_false] at h
  rcases h with rfl | rfl <;> rfl⟩
theorem rcells_f (l : Ms) : fcells renc l = rcells l := rfl

theorem elemsM : Elems 78 106 2 24 (.agg #[.int .i64 0, .string ⟨#[]⟩]) := ⟨Try.underlying78, by kernel_rfl, rfl, by decide⟩

/-- what lay and Give tell -/
def Tells (K : Nat → Prop) (w : World) (r : Ms × Cts) (e : Ending) (w' : World) : Prop :=
  ∃ v', e = .returned (.tuple #[v', .agg (scs r.2)]) ∧ RowK (fun i => K i ∨ (w.heap.size ≤ i ∧ i < w'.heap.size)) w' v' 2 (rcells r.1) ∧ Ext w w'

/-- the boxes of lay: a message, counts, what is told -/
def bx (w : World) (m S : Array Value) : World := ((w.alloc (.cells m 106)).alloc (.cells S 38)).alloc (.cells #[.int .i64 0, .int .i64 0, .int .i64 0, .int .i64 0, .int .i64 0, .int .i64 0] 38)
theorem bx_ext (w : World) (m S : Array Value) : Ext w (bx w m S) := (((Ext.refl w).alloc _).alloc _).alloc _
theorem bx_rows (w : World) (m S : Array Value) : (bx w m S).heap[w.heap.size]? = some (.cells m 106 (0, 0)) ∧ (bx w m S).heap[w.heap.size + 1]? = some (.cells S 38 (0, 0)) ∧
    (bx w m S).heap[w.heap.size + 1 + 1]? = some (.cells #[.int .i64 0, .int .i64 0, .int .i64 0, .int .i64 0, .int .i64 0, .int .i64 0] 38 (0, 0)) := by
  have s1 : (w.alloc (.cells m 106)).heap.size = w.heap.size + 1 := by simp
  have s2 : ((w.alloc (.cells m 106)).alloc (.cells S 38)).heap.size = w.heap.size + 1 + 1 := by simp
  refine ⟨?_, ?_, ?_⟩
  · exact (((Ext.refl (w.alloc (.cells m 106))).alloc _).alloc _).row (heap_alloc_new w _)
  · rw [← s1]; exact ((Ext.refl _).alloc _).row (heap_alloc_new _ _)
  · rw [← s2]; exact heap_alloc_new _ _

set_option maxHeartbeats 4000000 in
theorem lay_any (K : Nat → Prop) (v : Value) (l : Ms) (room due : Int) (tx : List UInt8) (s : Cts) (w : World) (hv : RowK K w v 2 (rcells l)) (hl : l.length ≤ 1000) (hs : SB 1000000000 s) :
    Calls Try.prog 54 #[v, .int .i64 room, .agg #[.int .i64 due, .string (str tx)], .agg (scs s)] w fun e w' => Tells K w (lay1 l room (due, tx) s) e w' := by
  obtain ⟨s0, s1, s2, s3, s4, s5⟩ := s
  obtain ⟨b0, b1, b2, b3, b4, b5⟩ := hs
  simp only at b0 b1 b2 b3 b4 b5
  obtain ⟨n, en⟩ : ∃ n, n = w.heap.size := ⟨_, rfl⟩
  have EN := hid en
  have HV := hid hv
  obtain ⟨ao, c, rfl, k1, k2, kk⟩ := hv.view
  clear kk hv
  unfold maxLen at k2
  have hl2 : ((l.length : Nat) : Int) ≤ 1000 := by omega
  by_cases h : room ≤ (l.length : Int)
  · have eL : lay1 l room (due, tx) (s0, s1, s2, s3, s4, s5) = (l, sDrop (s0, s1, s2, s3, s4, s5)) := by unfold lay1; rw [if_pos h]
    rw [eL]
    obtain ⟨V, eV⟩ : ∃ V, V = bx w #[.int .i64 due, .string (str tx)] #[.int .i64 s0, .int .i64 s1, .int .i64 (s2 + 1), .int .i64 s3, .int .i64 s4, .int .i64 s5] := ⟨_, rfl⟩
    have EV : Hid (V = ((w.alloc (.cells #[.int .i64 due, .string (str tx)] 106)).alloc (.cells #[.int .i64 s0, .int .i64 s1, .int .i64 (s2 + 1), .int .i64 s3, .int .i64 s4, .int .i64 s5] 38)).alloc (.cells #[.int .i64 0, .int .i64 0, .int .i64 0, .int .i64 0, .int .i64 0, .int .i64 0] 38)) := eV
    have RS := bx_rows w #[.int .i64 due, .string (str tx)] #[.int .i64 s0, .int .i64 s1, .int .i64 (s2 + 1), .int .i64 s3, .int .i64 s4, .int .i64 s5]
    have XV := bx_ext w #[.int .i64 due, .string (str tx)] #[.int .i64 s0, .int .i64 s1, .int .i64 (s2 + 1), .int .i64 s3, .int .i64 s4, .int .i64 s5]
    rw [← eV] at RS XV
    rw [← en] at RS
    have R1 := hid RS.2.1
    have R2 := hid RS.2.2
    have FIN : Hid (∀ U, Kept (fun i => i ≠ n + 1 + 1) V U → RowK (fun i => K i ∨ (w.heap.size ≤ i ∧ i < U.heap.size)) U (.slice ao l.length c) 2 (rcells l) ∧ Ext w U) := fun U hU => by
      have XU : Ext w U := Below.trans XV (hU.below XV.size (fun i hi => by have := EN.out; omega))
      exact ⟨(HV.out.kept (Kept.of_ext XU)).mono (by decide) (fun i _ hk => .inl hk), XU⟩
    have w1 : IntKind.i64.wrap (s2 + 1) = s2 + 1 := IntWalk.i64_in _ (by omega)
    have g1 : scs (s0, s1, s2, s3, s4, s5) = #[.int .i64 s0, .int .i64 s1, .int .i64 s2, .int .i64 s3, .int .i64 s4, .int .i64 s5] := rfl
    have g2 : Hid (scs (sDrop (s0, s1, s2, s3, s4, s5)) = #[.int .i64 s0, .int .i64 s1, .int .i64 (s2 + 1), .int .i64 s3, .int .i64 s4, .int .i64 s5]) := rfl
    rw [g1]
    clear RS XV eV eL en g1
    go_enter Try.func54, Try.ntmps54
    go_wp2_with fail
    rw [← EN.out, ← EV.out]
    refine wp_region_held_drew (S := fun U => U.heap[n + 1]? = some (.cells #[.int .i64 s0, .int .i64 s1, .int .i64 (s2 + 1), .int .i64 s3, .int .i64 s4, .int .i64 s5] 38 (0, 0))) (by kernel_rfl) R1.out (fun hHeld => ?_)
    refine takeE (v := ?_) 0 19 rfl rfl (by kernel_rfl) (by kernel_rfl) (by kernel_rfl) (fun _ _ _ h => h) (Or.inl ⟨by rfl, fun V hV => ?_⟩) hHeld ?_
    rotate_left
    · (go_simp; try with_reducible rfl)
    simp only [Act.put, List.setIfInBounds_toArray, List.set_cons_zero, List.set_cons_succ]
    refine takeE (v := .agg #[.int .i64 s0, .int .i64 s1, .int .i64 (s2 + 1), .int .i64 s3, .int .i64 s4, .int .i64 s5]) 1 20 rfl rfl (by kernel_rfl) (by kernel_rfl) (by kernel_rfl) (fun _ _ _ h => h) ?_ hHeld ?_
    · exact yields_row 38 (.tmp 7) rfl (by rfl) (n + 1) (by rfl) 38 _ (0, 0) _ (fun U hU => hU) Try.underlying38 rfl (by kernel_rfl)
    simp only [Act.put, List.setIfInBounds_toArray, List.set_cons_zero, List.set_cons_succ]
    refine takeE (v := ?_) 2 8 rfl rfl (by kernel_rfl) (by kernel_rfl) (by kernel_rfl) (fun _ _ _ h => h) (Or.inl ⟨by rfl, fun V hV => ?_⟩) hHeld ?_
    rotate_left
    · (go_simp; try with_reducible rfl)
    simp only [Act.put, List.setIfInBounds_toArray, List.set_cons_zero, List.set_cons_succ]
    have R4 : Hid ((V.drew.setRow (n + 1 + 1) #[.int .i64 s0, .int .i64 s1, .int .i64 (s2 + 1), .int .i64 s3, .int .i64 s4, .int .i64 s5]).heap[n + 1 + 1]? = some (.cells #[.int .i64 s0, .int .i64 s1, .int .i64 (s2 + 1), .int .i64 s3, .int .i64 s4, .int .i64 s5] 38 (0, 0))) := setRow_heap _ _ _ _ _ _ R2.out
    have F := hid (FIN.out (V.drew.setRow (n + 1 + 1) #[.int .i64 s0, .int .i64 s1, .int .i64 (s2 + 1), .int .i64 s3, .int .i64 s4, .int .i64 s5]) (((Kept.refl _ V).drewN 1).setRow (fun hne => hne rfl) _))
    refine storeE 3 rfl (by kernel_rfl) (by rfl) (w' := V.drew.setRow (n + 1 + 1) #[.int .i64 s0, .int .i64 s1, .int .i64 (s2 + 1), .int .i64 s3, .int .i64 s4, .int .i64 s5]) (exec_store 38 (.tmp 9) (.tmp 20) rfl (run_store_whole V.drew (n + 1 + 1) 38 38 _ _ R2.out size_sts rfl (by simp [Value.oneCell']))) ?_ ?_
    · show (V.setRow (n + 1 + 1) _).heap[n + 1]? = _
      rw [setRow_other _ _ _ _ (by omega)]
      exact R1.out
    simp only [Act.put]
    refine wpAnyH_done (by kernel_rfl) ?_ _
    generalize V.drew.setRow (n + 1 + 1) #[.int .i64 s0, .int .i64 s1, .int .i64 (s2 + 1), .int .i64 s3, .int .i64 s4, .int .i64 s5] = U at *
    clear hHeld FIN R1 R2
    go_wp2_with fail
    refine bodyPost_ret (results_tmp_cell Try.results54 _ _ (n + 1 + 1) 38 _ (0, 0) _ rfl R4.out Try.underlying38 rfl size_sts) rfl ?_
    exact ⟨_, by rw [g2.out]; rfl, F.out⟩
  · have eL : lay1 l room (due, tx) (s0, s1, s2, s3, s4, s5) = (l ++ [(due, tx)], (s0, s1, s2, s3, s4, s5)) := by unfold lay1; rw [if_neg h]
    rw [eL]
    obtain ⟨V, eV⟩ : ∃ V, V = bx w #[.int .i64 due, .string (str tx)] #[.int .i64 s0, .int .i64 s1, .int .i64 s2, .int .i64 s3, .int .i64 s4, .int .i64 s5] := ⟨_, rfl⟩
    have EV : Hid (V = ((w.alloc (.cells #[.int .i64 due, .string (str tx)] 106)).alloc (.cells #[.int .i64 s0, .int .i64 s1, .int .i64 s2, .int .i64 s3, .int .i64 s4, .int .i64 s5] 38)).alloc (.cells #[.int .i64 0, .int .i64 0, .int .i64 0, .int .i64 0, .int .i64 0, .int .i64 0] 38)) := eV
    have RS := bx_rows w #[.int .i64 due, .string (str tx)] #[.int .i64 s0, .int .i64 s1, .int .i64 s2, .int .i64 s3, .int .i64 s4, .int .i64 s5]
    have XV := bx_ext w #[.int .i64 due, .string (str tx)] #[.int .i64 s0, .int .i64 s1, .int .i64 s2, .int .i64 s3, .int .i64 s4, .int .i64 s5]
    rw [← eV] at RS XV
    rw [← en] at RS
    have R0 := hid RS.1
    have R1 := hid RS.2.1
    have R2 := hid RS.2.2
    obtain ⟨v1, V1, r1, N1, gb⟩ := (NewR.nil renc 106 2 V).put elemsM encR 78 (.slice ao l.length c) l (HV.out.kept (Kept.of_ext XV)) (by simp; omega)
    rw [List.nil_append] at N1
    have NN := hid N1
    have RR1 := hid r1
    have XV' := hid XV
    have g1 : scs (s0, s1, s2, s3, s4, s5) = #[.int .i64 s0, .int .i64 s1, .int .i64 s2, .int .i64 s3, .int .i64 s4, .int .i64 s5] := rfl
    have SV : Hid (n + 1 + 1 < V.heap.size) := lt_of_row R2.out
    have LL : Hid (l.length ≤ 1000) := hl
    rw [g1]
    clear RS XV eV eL en N1 r1 gb
    go_enter Try.func54, Try.ntmps54
    go_wp2_with (at_builtin; rw [← EV.out]; refine wpList_append_run _ rfl (.tmp 21) (.tmp 22) 78 78 rfl _ _ rfl rfl _ _ RR1.out ?_)
    rw [← EN.out]
    refine wp_region_held_drew (S := fun U => U.heap[n]? = some (.cells #[.int .i64 due, .string (str tx)] 106 (0, 0)) ∧ U.heap[n + 1]? = some (.cells #[.int .i64 s0, .int .i64 s1, .int .i64 s2, .int .i64 s3, .int .i64 s4, .int .i64 s5] 38 (0, 0))) (by kernel_rfl) ⟨NN.out.2.2.row R0.out, NN.out.2.2.row R1.out⟩ (fun hHeld => ?_)
    refine takeE (v := ?_) 0 24 rfl rfl (by kernel_rfl) (by kernel_rfl) (by kernel_rfl) (fun _ _ _ h => h) (Or.inl ⟨by rfl, fun V hV => ?_⟩) hHeld ?_
    rotate_left
    · (go_simp; try with_reducible rfl)
    simp only [Act.put, List.setIfInBounds_toArray, List.set_cons_zero, List.set_cons_succ]
    refine takeE (v := .agg #[.int .i64 due, .string (str tx)]) 1 25 rfl rfl (by kernel_rfl) (by kernel_rfl) (by kernel_rfl) (fun _ _ _ h => h) ?_ hHeld ?_
    · exact yields_row 106 (.tmp 6) rfl (by rfl) n (by rfl) 106 _ (0, 0) _ (fun U hU => hU.1) Try.underlying106 rfl (by kernel_rfl)
    simp only [Act.put, List.setIfInBounds_toArray, List.set_cons_zero, List.set_cons_succ]
    refine takeE (v := .agg #[.int .i64 s0, .int .i64 s1, .int .i64 s2, .int .i64 s3, .int .i64 s4, .int .i64 s5]) 4 28 rfl rfl (by kernel_rfl) (by kernel_rfl) (by kernel_rfl) (fun _ _ _ h => h) ?_ hHeld ?_
    · exact yields_row 38 (.tmp 7) rfl (by rfl) (n + 1) (by rfl) 38 _ (0, 0) _ (fun U hU => hU.2) Try.underlying38 rfl (by kernel_rfl)
    simp only [Act.put, List.setIfInBounds_toArray, List.set_cons_zero, List.set_cons_succ]
    have XD : Ext V1 V1.drew := (Ext.refl V1).drewN 1
    have XA := XD.alloc (.cells #[.int .i64 due, .string (str tx)] 106)
    obtain ⟨v2, V2, r2, N2, _⟩ := (NN.out.ext XA).put elemsM encR 78 (.slice (some ⟨V1.heap.size, 0, none⟩) 1 1) [(due, tx)] (one_row encR 106 V1.drew (due, tx)) (by have := LL.out; simp; omega)
    have Q0 := N2.2.2.row R0.out
    have Q1 := N2.2.2.row R1.out
    have Q2 := N2.2.2.row R2.out
    have A0 := (NN.out.2.2.trans XA).row R0.out
    have A1 := (NN.out.2.2.trans XA).row R1.out
    refine knownE 2 26 rfl rfl (by kernel_rfl) (by rfl) (w' := V1.drew.alloc (.cells #[.int .i64 due, .string (str tx)] 106)) (v := .slice (some ⟨V1.heap.size, 0, none⟩) 1 1) (by go_simp; try with_reducible rfl) ⟨A0, A1⟩ ?_
    simp only [Act.put, List.setIfInBounds_toArray, List.set_cons_zero, List.set_cons_succ]
    refine knownE 3 27 rfl rfl (by kernel_rfl) (by rfl) (w' := V2) (v := v2) (exec_append (.tmp 24) (.tmp 26) 78 rfl _ _ _ _ rfl rfl r2) ⟨Q0, Q1⟩ ?_
    simp only [Act.put, List.setIfInBounds_toArray, List.set_cons_zero, List.set_cons_succ]
    refine takeE (v := ?_) 5 8 rfl rfl (by kernel_rfl) (by kernel_rfl) (by kernel_rfl) (fun _ _ _ h => h) (Or.inl ⟨by rfl, fun V hV => ?_⟩) ⟨Q0, Q1⟩ ?_
    rotate_left
    · (go_simp; try with_reducible rfl)
    simp only [Act.put, List.setIfInBounds_toArray, List.set_cons_zero, List.set_cons_succ]
    have R4 : Hid ((V2.setRow (n + 1 + 1) #[.int .i64 s0, .int .i64 s1, .int .i64 s2, .int .i64 s3, .int .i64 s4, .int .i64 s5]).heap[n + 1 + 1]? = some (.cells #[.int .i64 s0, .int .i64 s1, .int .i64 s2, .int .i64 s3, .int .i64 s4, .int .i64 s5] 38 (0, 0))) := setRow_heap _ _ _ _ _ _ Q2
    have KU : Kept (fun i => i ≠ n + 1 + 1) V2 (V2.setRow (n + 1 + 1) #[.int .i64 s0, .int .i64 s1, .int .i64 s2, .int .i64 s3, .int .i64 s4, .int .i64 s5]) := (Kept.refl _ V2).setRow (fun hne => hne rfl) _
    have X2 := XV'.out.trans N2.2.2
    have F : Hid (RowK (fun i => K i ∨ (w.heap.size ≤ i ∧ i < (V2.setRow (n + 1 + 1) #[.int .i64 s0, .int .i64 s1, .int .i64 s2, .int .i64 s3, .int .i64 s4, .int .i64 s5]).heap.size)) (V2.setRow (n + 1 + 1) #[.int .i64 s0, .int .i64 s1, .int .i64 s2, .int .i64 s3, .int .i64 s4, .int .i64 s5]) v2 2 (rcells (l ++ [(due, tx)])) ∧ Ext w (V2.setRow (n + 1 + 1) #[.int .i64 s0, .int .i64 s1, .int .i64 s2, .int .i64 s3, .int .i64 s4, .int .i64 s5])) := by
      refine ⟨?_, Below.trans X2 (KU.below X2.size (fun i hi => by have := EN.out; omega))⟩
      have q := (N2.row encR).mono (L := fun i => i ≠ n + 1 + 1 ∧ w.heap.size ≤ i ∧ i < V2.heap.size) (by decide) (fun i hi h => ⟨by have := SV.out; omega, by have := XV'.out.size; omega, hi⟩)
      refine RowK.mono (RowK.kept q (KU.mono (fun i h => h.1))) (by decide) (fun i hi h => .inr ⟨h.2.1, hi⟩)
    refine storeE 6 rfl (by kernel_rfl) (by rfl) (w' := V2.setRow (n + 1 + 1) #[.int .i64 s0, .int .i64 s1, .int .i64 s2, .int .i64 s3, .int .i64 s4, .int .i64 s5]) (exec_store 38 (.tmp 9) (.tmp 28) rfl (run_store_whole V2 (n + 1 + 1) 38 38 _ _ Q2 size_sts rfl (by simp [Value.oneCell']))) ?_ ?_
    · exact ⟨KU.row (by omega) Q0, KU.row (by omega) Q1⟩
    simp only [Act.put]
    refine wpAnyH_done (by kernel_rfl) ?_ _
    generalize V2.setRow (n + 1 + 1) #[.int .i64 s0, .int .i64 s1, .int .i64 s2, .int .i64 s3, .int .i64 s4, .int .i64 s5] = U at *
    clear hHeld R0 R1 R2 Q0 Q1 Q2 A0 A1 N2 r2 KU X2 NN RR1 XA XD
    go_wp2_with fail
    refine bodyPost_ret (results_tmp_cell Try.results54 _ _ (n + 1 + 1) 38 _ (0, 0) _ rfl R4.out Try.underlying38 rfl size_sts) rfl ?_
    exact ⟨_, rfl, F.out⟩
end Go.Proofs.Ytjmgigfaiaemeaa.Sim

/-
  The walk of the reference's Give: a message by its fate.
-/
import Derived.Test.YtjmgigfaiaemeaaSimTurn
namespace Go.Proofs.Ytjmgigfaiaemeaa.Sim
set_option linter.unusedVariables false
set_option maxRecDepth 100000
open Go.RowKit Go.Lib Go.Proofs.Ytjmgigfaiaemeaa.Crc
open Go.Proofs.Ytjmgigfaiaemeaa.Pip hiding NewR

/-- the boxes of Give: a fate, counts, what is told -/
def gx (w : World) (f S : Array Value) : World := ((w.alloc (.cells f 103)).alloc (.cells S 38)).alloc (.cells #[.int .i64 0, .int .i64 0, .int .i64 0, .int .i64 0, .int .i64 0, .int .i64 0] 38)
theorem gx_ext (w : World) (m S : Array Value) : Ext w (gx w m S) := (((Ext.refl w).alloc _).alloc _).alloc _
theorem gx_rows (w : World) (m S : Array Value) : (gx w m S).heap[w.heap.size]? = some (.cells m 103 (0, 0)) ∧ (gx w m S).heap[w.heap.size + 1]? = some (.cells S 38 (0, 0)) ∧
    (gx w m S).heap[w.heap.size + 1 + 1]? = some (.cells #[.int .i64 0, .int .i64 0, .int .i64 0, .int .i64 0, .int .i64 0, .int .i64 0] 38 (0, 0)) := by
  have s1 : (w.alloc (.cells m 103)).heap.size = w.heap.size + 1 := by simp
  have s2 : ((w.alloc (.cells m 103)).alloc (.cells S 38)).heap.size = w.heap.size + 1 + 1 := by simp
  refine ⟨?_, ?_, ?_⟩
  · exact (((Ext.refl (w.alloc (.cells m 103))).alloc _).alloc _).row (heap_alloc_new w _)
  · rw [← s1]; exact ((Ext.refl _).alloc _).row (heap_alloc_new _ _)
  · rw [← s2]; exact heap_alloc_new _ _
/-- a row of a list, while a box is written -/
theorem row_set {K L : Nat → Prop} {w w1 : World} {v : Value} {c : List Value} {g : Nat} (S : Array Value) (h : RowK L w1 v 2 c) (hL : ∀ i, i < w1.heap.size → L i → i ≠ g ∧ (K i ∨ w.heap.size ≤ i)) (X : Ext w w1) (hg : w.heap.size ≤ g) :
    RowK (fun i => K i ∨ (w.heap.size ≤ i ∧ i < (w1.setRow g S).heap.size)) (w1.setRow g S) v 2 c ∧ Ext w (w1.setRow g S) := by
  have KU : Kept (fun i => i ≠ g) w1 (w1.setRow g S) := (Kept.refl _ w1).setRow (fun hne => hne rfl) _
  have q := h.mono (L := fun i => i ≠ g ∧ (K i ∨ w.heap.size ≤ i)) (by decide) hL
  exact ⟨(RowK.kept q (KU.mono (fun i h => h.1))).mono (by decide) (fun i hi h => h.2.imp id (fun h2 => ⟨h2, hi⟩)), Below.trans X (KU.below X.size (fun i hi => by omega))⟩

set_option maxHeartbeats 8000000 in
theorem give_lost (K : Nat → Prop) (v : Value) (l : Ms) (room due kind N : Int) (tx : List UInt8) (s : Cts) (w : World) (hv : RowK K w v 2 (rcells l)) (hl : l.length ≤ 900) (hs : SB 900000000 s) (ht : tx.length ≤ 1000) (hd0 : 0 ≤ due) (hd1 : due ≤ 2199023255552) (hk : kind = 1) :
    Calls Try.prog 41 #[v, .int .i64 room, .int .i64 due, .string (str tx), .agg #[.int .i64 kind, .int .i64 N], .agg (scs s)] w fun e w' => Tells K w (give1 l room due tx (kind, N) s) e w' := by
  have HSB := hid hs
  obtain ⟨s0, s1, s2, s3, s4, s5⟩ := s
  obtain ⟨b0, b1, b2, b3, b4, b5⟩ := hs
  simp only at b0 b1 b2 b3 b4 b5
  obtain ⟨n, en⟩ : ∃ n, n = w.heap.size := ⟨_, rfl⟩
  have EN := hid en
  have HV := hid (hv.mono (L := fun i => K i ∧ i < w.heap.size) (by decide) (fun i hi h => ⟨h, hi⟩))
  obtain ⟨ao, c, rfl, k1, k2, kk⟩ := hv.view
  clear kk hv
  unfold maxLen at k2
  have hl2 : ((l.length : Nat) : Int) ≤ 900 := by omega
  have LLN := hid hl
  have w0 : IntKind.i64.wrap (s0 + 1) = s0 + 1 := IntWalk.i64_in _ (by omega)
  have w1 : IntKind.i64.wrap (s1 + 1) = s1 + 1 := IntWalk.i64_in _ (by omega)
  have w3 : IntKind.i64.wrap (s3 + 1) = s3 + 1 := IntWalk.i64_in _ (by omega)
  have w4 : IntKind.i64.wrap (s4 + 1) = s4 + 1 := IntWalk.i64_in _ (by omega)
  have w5 : IntKind.i64.wrap (s5 + 1) = s5 + 1 := IntWalk.i64_in _ (by omega)
  have g1 : scs (s0, s1, s2, s3, s4, s5) = #[.int .i64 s0, .int .i64 s1, .int .i64 s2, .int .i64 s3, .int .i64 s4, .int .i64 s5] := rfl
  obtain ⟨V, eV⟩ : ∃ V, V = gx w #[.int .i64 kind, .int .i64 N] #[.int .i64 (s0 + 1), .int .i64 (s1 + 1), .int .i64 s2, .int .i64 s3, .int .i64 s4, .int .i64 s5] := ⟨_, rfl⟩
  have EV : Hid (V = ((w.alloc (.cells #[.int .i64 kind, .int .i64 N] 103)).alloc (.cells #[.int .i64 (s0 + 1), .int .i64 (s1 + 1), .int .i64 s2, .int .i64 s3, .int .i64 s4, .int .i64 s5] 38)).alloc (.cells #[.int .i64 0, .int .i64 0, .int .i64 0, .int .i64 0, .int .i64 0, .int .i64 0] 38)) := eV
  have RS := gx_rows w #[.int .i64 kind, .int .i64 N] #[.int .i64 (s0 + 1), .int .i64 (s1 + 1), .int .i64 s2, .int .i64 s3, .int .i64 s4, .int .i64 s5]
  have XV := hid (gx_ext w #[.int .i64 kind, .int .i64 N] #[.int .i64 (s0 + 1), .int .i64 (s1 + 1), .int .i64 s2, .int .i64 s3, .int .i64 s4, .int .i64 s5])
  rw [← eV] at RS XV
  rw [← en] at RS
  have R0 := hid RS.1
  have R1 := hid RS.2.1
  have R2 := hid RS.2.2
  have SV : Hid (n + 1 + 1 < V.heap.size) := lt_of_row R2.out
  clear RS eV
  subst hk
  have eL : give1 l room due tx (1, N) (s0, s1, s2, s3, s4, s5) = (l, sLost (sSent (s0, s1, s2, s3, s4, s5))) := by unfold give1; rw [if_pos rfl]
  rw [eL]
  have g2 : Hid (scs (sLost (sSent (s0, s1, s2, s3, s4, s5))) = #[.int .i64 (s0 + 1), .int .i64 (s1 + 1), .int .i64 s2, .int .i64 s3, .int .i64 s4, .int .i64 s5]) := rfl
  rw [g1]
  clear eL g1 en w3 w4 w5 LLN HSB
  go_enter Try.func41, Try.ntmps41
  go_wp2_with fail
  rw [← EN.out, ← EV.out]
  refine wp_region_held_drew (S := fun U => U.heap[n + 1]? = some (.cells #[.int .i64 (s0 + 1), .int .i64 (s1 + 1), .int .i64 s2, .int .i64 s3, .int .i64 s4, .int .i64 s5] 38 (0, 0))) (by kernel_rfl) R1.out (fun hHeld => ?_)
  refine takeE (v := ?_) 0 25 rfl rfl (by kernel_rfl) (by kernel_rfl) (by kernel_rfl) (fun _ _ _ h => h) (Or.inl ⟨by rfl, fun V hV => ?_⟩) hHeld ?_
  rotate_left
  · (go_simp; try with_reducible rfl)
  simp only [Act.put, List.setIfInBounds_toArray, List.set_cons_zero, List.set_cons_succ]
  refine takeE (v := .agg #[.int .i64 (s0 + 1), .int .i64 (s1 + 1), .int .i64 s2, .int .i64 s3, .int .i64 s4, .int .i64 s5]) 1 26 rfl rfl (by kernel_rfl) (by kernel_rfl) (by kernel_rfl) (fun _ _ _ h => h) ?_ hHeld ?_
  · exact yields_row 38 (.tmp 11) rfl (by rfl) (n + 1) (by rfl) 38 _ (0, 0) _ (fun U hU => hU) Try.underlying38 rfl (by kernel_rfl)
  simp only [Act.put, List.setIfInBounds_toArray, List.set_cons_zero, List.set_cons_succ]
  refine takeE (v := ?_) 2 12 rfl rfl (by kernel_rfl) (by kernel_rfl) (by kernel_rfl) (fun _ _ _ h => h) (Or.inl ⟨by rfl, fun V hV => ?_⟩) hHeld ?_
  rotate_left
  · (go_simp; try with_reducible rfl)
  simp only [Act.put, List.setIfInBounds_toArray, List.set_cons_zero, List.set_cons_succ]
  have R4 : Hid ((V.drew.setRow (n + 1 + 1) #[.int .i64 (s0 + 1), .int .i64 (s1 + 1), .int .i64 s2, .int .i64 s3, .int .i64 s4, .int .i64 s5]).heap[n + 1 + 1]? = some (.cells #[.int .i64 (s0 + 1), .int .i64 (s1 + 1), .int .i64 s2, .int .i64 s3, .int .i64 s4, .int .i64 s5] 38 (0, 0))) := setRow_heap _ _ _ _ _ _ R2.out
  have F := hid (row_set (K := K) #[.int .i64 (s0 + 1), .int .i64 (s1 + 1), .int .i64 s2, .int .i64 s3, .int .i64 s4, .int .i64 s5] ((HV.out.kept (Kept.of_ext XV.out)).kept (((Kept.refl _ V).drewN 1))) (fun i hi h => ⟨by have := EN.out; omega, .inl h.1⟩) (XV.out.drewN 1) (show w.heap.size ≤ n + 1 + 1 by have := EN.out; omega))
  refine storeE 3 rfl (by kernel_rfl) (by rfl) (w' := V.drew.setRow (n + 1 + 1) #[.int .i64 (s0 + 1), .int .i64 (s1 + 1), .int .i64 s2, .int .i64 s3, .int .i64 s4, .int .i64 s5]) (exec_store 38 (.tmp 13) (.tmp 26) rfl (run_store_whole V.drew (n + 1 + 1) 38 38 _ _ R2.out size_sts rfl (by simp [Value.oneCell']))) ?_ ?_
  · show (V.setRow (n + 1 + 1) _).heap[n + 1]? = _
    rw [setRow_other _ _ _ _ (by omega)]
    exact R1.out
  simp only [Act.put]
  refine wpAnyH_done (by kernel_rfl) ?_ _
  have F2 : Hid (RowK (fun i => K i ∨ (w.heap.size ≤ i ∧ i < (V.drew.setRow (n + 1 + 1) #[.int .i64 (s0 + 1), .int .i64 (s1 + 1), .int .i64 s2, .int .i64 s3, .int .i64 s4, .int .i64 s5]).heap.size)) (V.drew.setRow (n + 1 + 1) #[.int .i64 (s0 + 1), .int .i64 (s1 + 1), .int .i64 s2, .int .i64 s3, .int .i64 s4, .int .i64 s5]) (.slice ao l.length c) 2 (rcells l) ∧ Ext w (V.drew.setRow (n + 1 + 1) #[.int .i64 (s0 + 1), .int .i64 (s1 + 1), .int .i64 s2, .int .i64 s3, .int .i64 s4, .int .i64 s5])) := F
  clear F
  generalize V.drew.setRow (n + 1 + 1) #[.int .i64 (s0 + 1), .int .i64 (s1 + 1), .int .i64 s2, .int .i64 s3, .int .i64 s4, .int .i64 s5] = U at *
  clear hHeld R1 R2
  go_wp2_with fail
  refine bodyPost_ret (results_tmp_cell Try.results41 _ _ (n + 1 + 1) 38 _ (0, 0) _ rfl R4.out Try.underlying38 rfl size_sts) rfl ?_
  exact ⟨_, by rw [g2.out]; rfl, F2.out⟩

set_option maxHeartbeats 8000000 in
theorem give_plain (K : Nat → Prop) (v : Value) (l : Ms) (room due kind N : Int) (tx : List UInt8) (s : Cts) (w : World) (hv : RowK K w v 2 (rcells l)) (hl : l.length ≤ 900) (hs : SB 900000000 s) (ht : tx.length ≤ 1000) (hd0 : 0 ≤ due) (hd1 : due ≤ 2199023255552) (hk1 : ¬ kind = 1) (hk2 : ¬ kind = 2) (hk3 : ¬ kind = 3) (hk4 : ¬ kind = 4) :
    Calls Try.prog 41 #[v, .int .i64 room, .int .i64 due, .string (str tx), .agg #[.int .i64 kind, .int .i64 N], .agg (scs s)] w fun e w' => Tells K w (give1 l room due tx (kind, N) s) e w' := by
  have HSB := hid hs
  obtain ⟨s0, s1, s2, s3, s4, s5⟩ := s
  obtain ⟨b0, b1, b2, b3, b4, b5⟩ := hs
  simp only at b0 b1 b2 b3 b4 b5
  obtain ⟨n, en⟩ : ∃ n, n = w.heap.size := ⟨_, rfl⟩
  have EN := hid en
  have HV := hid (hv.mono (L := fun i => K i ∧ i < w.heap.size) (by decide) (fun i hi h => ⟨h, hi⟩))
  obtain ⟨ao, c, rfl, k1, k2, kk⟩ := hv.view
  clear kk hv
  unfold maxLen at k2
  have hl2 : ((l.length : Nat) : Int) ≤ 900 := by omega
  have LLN := hid hl
  have w0 : IntKind.i64.wrap (s0 + 1) = s0 + 1 := IntWalk.i64_in _ (by omega)
  have w1 : IntKind.i64.wrap (s1 + 1) = s1 + 1 := IntWalk.i64_in _ (by omega)
  have w3 : IntKind.i64.wrap (s3 + 1) = s3 + 1 := IntWalk.i64_in _ (by omega)
  have w4 : IntKind.i64.wrap (s4 + 1) = s4 + 1 := IntWalk.i64_in _ (by omega)
  have w5 : IntKind.i64.wrap (s5 + 1) = s5 + 1 := IntWalk.i64_in _ (by omega)
  have g1 : scs (s0, s1, s2, s3, s4, s5) = #[.int .i64 s0, .int .i64 s1, .int .i64 s2, .int .i64 s3, .int .i64 s4, .int .i64 s5] := rfl
  obtain ⟨V, eV⟩ : ∃ V, V = gx w #[.int .i64 kind, .int .i64 N] #[.int .i64 (s0 + 1), .int .i64 s1, .int .i64 s2, .int .i64 s3, .int .i64 s4, .int .i64 s5] := ⟨_, rfl⟩
  have EV : Hid (V = ((w.alloc (.cells #[.int .i64 kind, .int .i64 N] 103)).alloc (.cells #[.int .i64 (s0 + 1), .int .i64 s1, .int .i64 s2, .int .i64 s3, .int .i64 s4, .int .i64 s5] 38)).alloc (.cells #[.int .i64 0, .int .i64 0, .int .i64 0, .int .i64 0, .int .i64 0, .int .i64 0] 38)) := eV
  have RS := gx_rows w #[.int .i64 kind, .int .i64 N] #[.int .i64 (s0 + 1), .int .i64 s1, .int .i64 s2, .int .i64 s3, .int .i64 s4, .int .i64 s5]
  have XV := hid (gx_ext w #[.int .i64 kind, .int .i64 N] #[.int .i64 (s0 + 1), .int .i64 s1, .int .i64 s2, .int .i64 s3, .int .i64 s4, .int .i64 s5])
  rw [← eV] at RS XV
  rw [← en] at RS
  have R0 := hid RS.1
  have R1 := hid RS.2.1
  have R2 := hid RS.2.2
  have SV : Hid (n + 1 + 1 < V.heap.size) := lt_of_row R2.out
  clear RS eV
  have eL : give1 l room due tx (kind, N) (s0, s1, s2, s3, s4, s5) = lay1 l room (due, tx) (sSent (s0, s1, s2, s3, s4, s5)) := by unfold give1; rw [if_neg hk1, if_neg hk2, if_neg hk3, if_neg hk4]
  rw [eL]
  obtain ⟨r, er⟩ : ∃ r, r = lay1 l room (due, tx) (sSent (s0, s1, s2, s3, s4, s5)) := ⟨_, rfl⟩
  have LAY : Hid (∀ U, Ext V U → Calls Try.prog 54 #[.slice ao l.length c, .int .i64 room, .agg #[.int .i64 (due), .string (str tx)], .agg #[.int .i64 (s0 + 1), .int .i64 s1, .int .i64 s2, .int .i64 s3, .int .i64 s4, .int .i64 s5]] U fun e w' => Tells (fun i => K i ∧ i < w.heap.size) U r e w') := fun U hU => by
    rw [er]
    exact lay_any _ _ l room (due) tx (sSent (s0, s1, s2, s3, s4, s5)) U ((HV.out.kept (Kept.of_ext (XV.out.trans hU)))) (by have := LLN.out; omega) (SB.mono HSB.out.sent (by decide))
  rw [← er]
  rw [g1]
  clear eL g1 en HV er
  have XU : Hid (Ext V V) := Ext.refl V
  go_enter Try.func41, Try.ntmps41
  go_wp2_with fail
  rw [← EN.out, ← EV.out]
  refine (LAY.out V XU.out).mono ?_
  rintro e w9 ⟨v9, rfl, rw9, x9⟩
  have X9 := XV.out.trans (XU.out.trans x9)
  have Q2 := hid (x9.row (XU.out.row R2.out))
  have F := hid (row_set (K := K) (w := w) (g := n + 1 + 1) (scs r.2) rw9 (fun i hi h => ⟨by have := EN.out; have := SV.out; have := XU.out.size; omega, h.elim (fun h => .inl h.1) (fun h => .inr (by have := XV.out.size; have := XU.out.size; omega))⟩) X9 (by have := EN.out; omega))
  have SONE := hid (scs_one r.2)
  have SS : Hid ((scs r.2).size = 6) := rfl
  have ER := hid (show scs r.2 = scs r.2 from rfl)
  obtain ⟨S9, eS9⟩ : ∃ S9, S9 = scs r.2 := ⟨_, rfl⟩
  rw [← eS9] at F SONE SS
  rw [← eS9]
  have ES := hid eS9
  have R4 : Hid ((w9.setRow (n + 1 + 1) S9).heap[n + 1 + 1]? = some (.cells S9 38 (0, 0))) := setRow_heap _ _ _ _ _ _ Q2.out
  clear rw9 x9 X9 eS9 ER LAY
  go_wp2_with (refine wpList_store_row rfl 38 (.tmp 13) (.tmp 82) rfl (n + 1 + 1) S9 rfl rfl 38 #[.int .i64 0, .int .i64 0, .int .i64 0, .int .i64 0, .int .i64 0, .int .i64 0] Q2.out (by rw [SS.out]; exact size_sts) (by rw [SS.out]; rfl) SONE.out ?_)
  refine bodyPost_ret (results_tmp_cell Try.results41 _ _ (n + 1 + 1) 38 _ (0, 0) _ rfl R4.out Try.underlying38 rfl (by rw [SS.out]; exact size_sts)) rfl ?_
  exact ⟨_, by rw [ES.out]; rfl, F.out⟩

set_option maxHeartbeats 8000000 in
theorem give_turned (K : Nat → Prop) (v : Value) (l : Ms) (room due kind N : Int) (tx : List UInt8) (s : Cts) (w : World) (hv : RowK K w v 2 (rcells l)) (hl : l.length ≤ 900) (hs : SB 900000000 s) (ht : tx.length ≤ 1000) (hd0 : 0 ≤ due) (hd1 : due ≤ 2199023255552) (hk : kind = 4) (hN0 : -9223372036854775808 ≤ N) (hN1 : N ≤ 9223372036854775807) :
    Calls Try.prog 41 #[v, .int .i64 room, .int .i64 due, .string (str tx), .agg #[.int .i64 kind, .int .i64 N], .agg (scs s)] w fun e w' => Tells K w (give1 l room due tx (kind, N) s) e w' := by
  have HSB := hid hs
  obtain ⟨s0, s1, s2, s3, s4, s5⟩ := s
  obtain ⟨b0, b1, b2, b3, b4, b5⟩ := hs
  simp only at b0 b1 b2 b3 b4 b5
  obtain ⟨n, en⟩ : ∃ n, n = w.heap.size := ⟨_, rfl⟩
  have EN := hid en
  have HV := hid (hv.mono (L := fun i => K i ∧ i < w.heap.size) (by decide) (fun i hi h => ⟨h, hi⟩))
  obtain ⟨ao, c, rfl, k1, k2, kk⟩ := hv.view
  clear kk hv
  unfold maxLen at k2
  have hl2 : ((l.length : Nat) : Int) ≤ 900 := by omega
  have LLN := hid hl
  have w0 : IntKind.i64.wrap (s0 + 1) = s0 + 1 := IntWalk.i64_in _ (by omega)
  have w1 : IntKind.i64.wrap (s1 + 1) = s1 + 1 := IntWalk.i64_in _ (by omega)
  have w3 : IntKind.i64.wrap (s3 + 1) = s3 + 1 := IntWalk.i64_in _ (by omega)
  have w4 : IntKind.i64.wrap (s4 + 1) = s4 + 1 := IntWalk.i64_in _ (by omega)
  have w5 : IntKind.i64.wrap (s5 + 1) = s5 + 1 := IntWalk.i64_in _ (by omega)
  have g1 : scs (s0, s1, s2, s3, s4, s5) = #[.int .i64 s0, .int .i64 s1, .int .i64 s2, .int .i64 s3, .int .i64 s4, .int .i64 s5] := rfl
  obtain ⟨V, eV⟩ : ∃ V, V = gx w #[.int .i64 kind, .int .i64 N] #[.int .i64 (s0 + 1), .int .i64 s1, .int .i64 s2, .int .i64 s3, .int .i64 s4, .int .i64 (s5 + 1)] := ⟨_, rfl⟩
  have EV : Hid (V = ((w.alloc (.cells #[.int .i64 kind, .int .i64 N] 103)).alloc (.cells #[.int .i64 (s0 + 1), .int .i64 s1, .int .i64 s2, .int .i64 s3, .int .i64 s4, .int .i64 (s5 + 1)] 38)).alloc (.cells #[.int .i64 0, .int .i64 0, .int .i64 0, .int .i64 0, .int .i64 0, .int .i64 0] 38)) := eV
  have RS := gx_rows w #[.int .i64 kind, .int .i64 N] #[.int .i64 (s0 + 1), .int .i64 s1, .int .i64 s2, .int .i64 s3, .int .i64 s4, .int .i64 (s5 + 1)]
  have XV := hid (gx_ext w #[.int .i64 kind, .int .i64 N] #[.int .i64 (s0 + 1), .int .i64 s1, .int .i64 s2, .int .i64 s3, .int .i64 s4, .int .i64 (s5 + 1)])
  rw [← eV] at RS XV
  rw [← en] at RS
  have R0 := hid RS.1
  have R1 := hid RS.2.1
  have R2 := hid RS.2.2
  have SV : Hid (n + 1 + 1 < V.heap.size) := lt_of_row R2.out
  clear RS eV
  subst hk
  have eL : give1 l room due tx (4, N) (s0, s1, s2, s3, s4, s5) = lay1 l room (due, (cturn tx N)) (sTurn (sSent (s0, s1, s2, s3, s4, s5))) := by unfold give1; dsimp only; rw [if_neg (by decide), if_neg (by decide), if_neg (by decide), if_pos rfl]
  rw [eL]
  obtain ⟨r, er⟩ : ∃ r, r = lay1 l room (due, (cturn tx N)) (sTurn (sSent (s0, s1, s2, s3, s4, s5))) := ⟨_, rfl⟩
  have LAY : Hid (∀ U, Ext V U → Calls Try.prog 54 #[.slice ao l.length c, .int .i64 room, .agg #[.int .i64 (due), .string (str (cturn tx N))], .agg #[.int .i64 (s0 + 1), .int .i64 s1, .int .i64 s2, .int .i64 s3, .int .i64 s4, .int .i64 (s5 + 1)]] U fun e w' => Tells (fun i => K i ∧ i < w.heap.size) U r e w') := fun U hU => by
    rw [er]
    exact lay_any _ _ l room (due) (cturn tx N) (sTurn (sSent (s0, s1, s2, s3, s4, s5))) U ((HV.out.kept (Kept.of_ext (XV.out.trans hU)))) (by have := LLN.out; omega) (SB.mono HSB.out.sent.turn (by decide))
  rw [← er]
  rw [g1]
  clear eL g1 en HV er
  have TU := hid (refTurn_any tx N V ht hN0 hN1)
  go_enter Try.func41, Try.ntmps41
  go_wp2_with fail
  rw [← EN.out, ← EV.out]
  refine TU.out.mono ?_
  rintro e w7 ⟨rfl, x7⟩
  have XU := hid x7
  have rs := x7.row R1.out
  have y0 : w7.cell? ⟨n + 1, 0, none⟩ = some (.int .i64 (s0 + 1)) := by rw [cell_of_row w7 _ 0 _ _ _ rs]; rfl
  have y1 : w7.cell? ⟨n + 1, 1, none⟩ = some (.int .i64 s1) := by rw [cell_of_row w7 _ 1 _ _ _ rs]; rfl
  have y2 : w7.cell? ⟨n + 1, 2, none⟩ = some (.int .i64 s2) := by rw [cell_of_row w7 _ 2 _ _ _ rs]; rfl
  have y3 : w7.cell? ⟨n + 1, 3, none⟩ = some (.int .i64 s3) := by rw [cell_of_row w7 _ 3 _ _ _ rs]; rfl
  have y4 : w7.cell? ⟨n + 1, 4, none⟩ = some (.int .i64 s4) := by rw [cell_of_row w7 _ 4 _ _ _ rs]; rfl
  have y5 : w7.cell? ⟨n + 1, 5, none⟩ = some (.int .i64 (s5 + 1)) := by rw [cell_of_row w7 _ 5 _ _ _ rs]; rfl
  clear TU x7 rs
  go_wp2_with fail
  refine (LAY.out w7 XU.out).mono ?_
  clear y0 y1 y2 y3 y4 y5
  rintro e w9 ⟨v9, rfl, rw9, x9⟩
  have X9 := XV.out.trans (XU.out.trans x9)
  have Q2 := hid (x9.row (XU.out.row R2.out))
  have F := hid (row_set (K := K) (w := w) (g := n + 1 + 1) (scs r.2) rw9 (fun i hi h => ⟨by have := EN.out; have := SV.out; have := XU.out.size; omega, h.elim (fun h => .inl h.1) (fun h => .inr (by have := XV.out.size; have := XU.out.size; omega))⟩) X9 (by have := EN.out; omega))
  have SONE := hid (scs_one r.2)
  have SS : Hid ((scs r.2).size = 6) := rfl
  have ER := hid (show scs r.2 = scs r.2 from rfl)
  obtain ⟨S9, eS9⟩ : ∃ S9, S9 = scs r.2 := ⟨_, rfl⟩
  rw [← eS9] at F SONE SS
  rw [← eS9]
  have ES := hid eS9
  have R4 : Hid ((w9.setRow (n + 1 + 1) S9).heap[n + 1 + 1]? = some (.cells S9 38 (0, 0))) := setRow_heap _ _ _ _ _ _ Q2.out
  clear rw9 x9 X9 eS9 ER LAY
  go_wp2_with (refine wpList_store_row rfl 38 (.tmp 13) (.tmp 82) rfl (n + 1 + 1) S9 rfl rfl 38 #[.int .i64 0, .int .i64 0, .int .i64 0, .int .i64 0, .int .i64 0, .int .i64 0] Q2.out (by rw [SS.out]; exact size_sts) (by rw [SS.out]; rfl) SONE.out ?_)
  refine bodyPost_ret (results_tmp_cell Try.results41 _ _ (n + 1 + 1) 38 _ (0, 0) _ rfl R4.out Try.underlying38 rfl (by rw [SS.out]; exact size_sts)) rfl ?_
  exact ⟨_, by rw [ES.out]; rfl, F.out⟩

set_option maxHeartbeats 8000000 in
theorem give_late1 (K : Nat → Prop) (v : Value) (l : Ms) (room due kind N : Int) (tx : List UInt8) (s : Cts) (w : World) (hv : RowK K w v 2 (rcells l)) (hl : l.length ≤ 900) (hs : SB 900000000 s) (ht : tx.length ≤ 1000) (hd0 : 0 ≤ due) (hd1 : due ≤ 2199023255552) (hk : kind = 3) (hN : 64 < N) :
    Calls Try.prog 41 #[v, .int .i64 room, .int .i64 due, .string (str tx), .agg #[.int .i64 kind, .int .i64 N], .agg (scs s)] w fun e w' => Tells K w (give1 l room due tx (kind, N) s) e w' := by
  have HSB := hid hs
  obtain ⟨s0, s1, s2, s3, s4, s5⟩ := s
  obtain ⟨b0, b1, b2, b3, b4, b5⟩ := hs
  simp only at b0 b1 b2 b3 b4 b5
  obtain ⟨n, en⟩ : ∃ n, n = w.heap.size := ⟨_, rfl⟩
  have EN := hid en
  have HV := hid (hv.mono (L := fun i => K i ∧ i < w.heap.size) (by decide) (fun i hi h => ⟨h, hi⟩))
  obtain ⟨ao, c, rfl, k1, k2, kk⟩ := hv.view
  clear kk hv
  unfold maxLen at k2
  have hl2 : ((l.length : Nat) : Int) ≤ 900 := by omega
  have LLN := hid hl
  have w0 : IntKind.i64.wrap (s0 + 1) = s0 + 1 := IntWalk.i64_in _ (by omega)
  have w1 : IntKind.i64.wrap (s1 + 1) = s1 + 1 := IntWalk.i64_in _ (by omega)
  have w3 : IntKind.i64.wrap (s3 + 1) = s3 + 1 := IntWalk.i64_in _ (by omega)
  have w4 : IntKind.i64.wrap (s4 + 1) = s4 + 1 := IntWalk.i64_in _ (by omega)
  have w5 : IntKind.i64.wrap (s5 + 1) = s5 + 1 := IntWalk.i64_in _ (by omega)
  have g1 : scs (s0, s1, s2, s3, s4, s5) = #[.int .i64 s0, .int .i64 s1, .int .i64 s2, .int .i64 s3, .int .i64 s4, .int .i64 s5] := rfl
  obtain ⟨V, eV⟩ : ∃ V, V = gx w #[.int .i64 kind, .int .i64 N] #[.int .i64 (s0 + 1), .int .i64 s1, .int .i64 s2, .int .i64 s3, .int .i64 (s4 + 1), .int .i64 s5] := ⟨_, rfl⟩
  have EV : Hid (V = ((w.alloc (.cells #[.int .i64 kind, .int .i64 N] 103)).alloc (.cells #[.int .i64 (s0 + 1), .int .i64 s1, .int .i64 s2, .int .i64 s3, .int .i64 (s4 + 1), .int .i64 s5] 38)).alloc (.cells #[.int .i64 0, .int .i64 0, .int .i64 0, .int .i64 0, .int .i64 0, .int .i64 0] 38)) := eV
  have RS := gx_rows w #[.int .i64 kind, .int .i64 N] #[.int .i64 (s0 + 1), .int .i64 s1, .int .i64 s2, .int .i64 s3, .int .i64 (s4 + 1), .int .i64 s5]
  have XV := hid (gx_ext w #[.int .i64 kind, .int .i64 N] #[.int .i64 (s0 + 1), .int .i64 s1, .int .i64 s2, .int .i64 s3, .int .i64 (s4 + 1), .int .i64 s5])
  rw [← eV] at RS XV
  rw [← en] at RS
  have R0 := hid RS.1
  have R1 := hid RS.2.1
  have R2 := hid RS.2.2
  have SV : Hid (n + 1 + 1 < V.heap.size) := lt_of_row R2.out
  clear RS eV
  subst hk
  have wd : IntKind.i64.wrap (due + 64) = due + 64 := IntWalk.i64_in _ (by omega)
  have eL : give1 l room due tx (3, N) (s0, s1, s2, s3, s4, s5) = lay1 l room (due + 64, tx) (sLate (sSent (s0, s1, s2, s3, s4, s5))) := by unfold give1; dsimp only; rw [if_neg (by decide), if_neg (by decide), if_pos rfl]; unfold cl; rw [if_pos hN]
  rw [eL]
  obtain ⟨r, er⟩ : ∃ r, r = lay1 l room (due + 64, tx) (sLate (sSent (s0, s1, s2, s3, s4, s5))) := ⟨_, rfl⟩
  have LAY : Hid (∀ U, Ext V U → Calls Try.prog 54 #[.slice ao l.length c, .int .i64 room, .agg #[.int .i64 (due + 64), .string (str tx)], .agg #[.int .i64 (s0 + 1), .int .i64 s1, .int .i64 s2, .int .i64 s3, .int .i64 (s4 + 1), .int .i64 s5]] U fun e w' => Tells (fun i => K i ∧ i < w.heap.size) U r e w') := fun U hU => by
    rw [er]
    exact lay_any _ _ l room (due + 64) tx (sLate (sSent (s0, s1, s2, s3, s4, s5))) U ((HV.out.kept (Kept.of_ext (XV.out.trans hU)))) (by have := LLN.out; omega) (SB.mono HSB.out.sent.late (by decide))
  rw [← er]
  rw [g1]
  clear eL g1 en HV er
  have XU : Hid (Ext V V) := Ext.refl V
  go_enter Try.func41, Try.ntmps41
  go_wp2_with fail
  rw [← EN.out, ← EV.out]
  refine (LAY.out V XU.out).mono ?_
  rintro e w9 ⟨v9, rfl, rw9, x9⟩
  have X9 := XV.out.trans (XU.out.trans x9)
  have Q2 := hid (x9.row (XU.out.row R2.out))
  have F := hid (row_set (K := K) (w := w) (g := n + 1 + 1) (scs r.2) rw9 (fun i hi h => ⟨by have := EN.out; have := SV.out; have := XU.out.size; omega, h.elim (fun h => .inl h.1) (fun h => .inr (by have := XV.out.size; have := XU.out.size; omega))⟩) X9 (by have := EN.out; omega))
  have SONE := hid (scs_one r.2)
  have SS : Hid ((scs r.2).size = 6) := rfl
  have ER := hid (show scs r.2 = scs r.2 from rfl)
  obtain ⟨S9, eS9⟩ : ∃ S9, S9 = scs r.2 := ⟨_, rfl⟩
  rw [← eS9] at F SONE SS
  rw [← eS9]
  have ES := hid eS9
  have R4 : Hid ((w9.setRow (n + 1 + 1) S9).heap[n + 1 + 1]? = some (.cells S9 38 (0, 0))) := setRow_heap _ _ _ _ _ _ Q2.out
  clear rw9 x9 X9 eS9 ER LAY
  go_wp2_with (refine wpList_store_row rfl 38 (.tmp 13) (.tmp 82) rfl (n + 1 + 1) S9 rfl rfl 38 #[.int .i64 0, .int .i64 0, .int .i64 0, .int .i64 0, .int .i64 0, .int .i64 0] Q2.out (by rw [SS.out]; exact size_sts) (by rw [SS.out]; rfl) SONE.out ?_)
  refine bodyPost_ret (results_tmp_cell Try.results41 _ _ (n + 1 + 1) 38 _ (0, 0) _ rfl R4.out Try.underlying38 rfl (by rw [SS.out]; exact size_sts)) rfl ?_
  exact ⟨_, by rw [ES.out]; rfl, F.out⟩

set_option maxHeartbeats 8000000 in
theorem give_late2 (K : Nat → Prop) (v : Value) (l : Ms) (room due kind N : Int) (tx : List UInt8) (s : Cts) (w : World) (hv : RowK K w v 2 (rcells l)) (hl : l.length ≤ 900) (hs : SB 900000000 s) (ht : tx.length ≤ 1000) (hd0 : 0 ≤ due) (hd1 : due ≤ 2199023255552) (hk : kind = 3) (hN : ¬ 64 < N) (hN2 : 0 < N) :
    Calls Try.prog 41 #[v, .int .i64 room, .int .i64 due, .string (str tx), .agg #[.int .i64 kind, .int .i64 N], .agg (scs s)] w fun e w' => Tells K w (give1 l room due tx (kind, N) s) e w' := by
  have HSB := hid hs
  obtain ⟨s0, s1, s2, s3, s4, s5⟩ := s
  obtain ⟨b0, b1, b2, b3, b4, b5⟩ := hs
  simp only at b0 b1 b2 b3 b4 b5
  obtain ⟨n, en⟩ : ∃ n, n = w.heap.size := ⟨_, rfl⟩
  have EN := hid en
  have HV := hid (hv.mono (L := fun i => K i ∧ i < w.heap.size) (by decide) (fun i hi h => ⟨h, hi⟩))
  obtain ⟨ao, c, rfl, k1, k2, kk⟩ := hv.view
  clear kk hv
  unfold maxLen at k2
  have hl2 : ((l.length : Nat) : Int) ≤ 900 := by omega
  have LLN := hid hl
  have w0 : IntKind.i64.wrap (s0 + 1) = s0 + 1 := IntWalk.i64_in _ (by omega)
  have w1 : IntKind.i64.wrap (s1 + 1) = s1 + 1 := IntWalk.i64_in _ (by omega)
  have w3 : IntKind.i64.wrap (s3 + 1) = s3 + 1 := IntWalk.i64_in _ (by omega)
  have w4 : IntKind.i64.wrap (s4 + 1) = s4 + 1 := IntWalk.i64_in _ (by omega)
  have w5 : IntKind.i64.wrap (s5 + 1) = s5 + 1 := IntWalk.i64_in _ (by omega)
  have g1 : scs (s0, s1, s2, s3, s4, s5) = #[.int .i64 s0, .int .i64 s1, .int .i64 s2, .int .i64 s3, .int .i64 s4, .int .i64 s5] := rfl
  obtain ⟨V, eV⟩ : ∃ V, V = gx w #[.int .i64 kind, .int .i64 N] #[.int .i64 (s0 + 1), .int .i64 s1, .int .i64 s2, .int .i64 s3, .int .i64 (s4 + 1), .int .i64 s5] := ⟨_, rfl⟩
  have EV : Hid (V = ((w.alloc (.cells #[.int .i64 kind, .int .i64 N] 103)).alloc (.cells #[.int .i64 (s0 + 1), .int .i64 s1, .int .i64 s2, .int .i64 s3, .int .i64 (s4 + 1), .int .i64 s5] 38)).alloc (.cells #[.int .i64 0, .int .i64 0, .int .i64 0, .int .i64 0, .int .i64 0, .int .i64 0] 38)) := eV
  have RS := gx_rows w #[.int .i64 kind, .int .i64 N] #[.int .i64 (s0 + 1), .int .i64 s1, .int .i64 s2, .int .i64 s3, .int .i64 (s4 + 1), .int .i64 s5]
  have XV := hid (gx_ext w #[.int .i64 kind, .int .i64 N] #[.int .i64 (s0 + 1), .int .i64 s1, .int .i64 s2, .int .i64 s3, .int .i64 (s4 + 1), .int .i64 s5])
  rw [← eV] at RS XV
  rw [← en] at RS
  have R0 := hid RS.1
  have R1 := hid RS.2.1
  have R2 := hid RS.2.2
  have SV : Hid (n + 1 + 1 < V.heap.size) := lt_of_row R2.out
  clear RS eV
  subst hk
  have wd : IntKind.i64.wrap (due + 64) = due + 64 := IntWalk.i64_in _ (by omega)
  have wn : IntKind.i64.wrap (due + N) = due + N := IntWalk.i64_in _ (by omega)
  have eL : give1 l room due tx (3, N) (s0, s1, s2, s3, s4, s5) = lay1 l room (due + N, tx) (sLate (sSent (s0, s1, s2, s3, s4, s5))) := by unfold give1; dsimp only; rw [if_neg (by decide), if_neg (by decide), if_pos rfl]; unfold cl; rw [if_neg hN, if_pos hN2]
  rw [eL]
  obtain ⟨r, er⟩ : ∃ r, r = lay1 l room (due + N, tx) (sLate (sSent (s0, s1, s2, s3, s4, s5))) := ⟨_, rfl⟩
  have LAY : Hid (∀ U, Ext V U → Calls Try.prog 54 #[.slice ao l.length c, .int .i64 room, .agg #[.int .i64 (due + N), .string (str tx)], .agg #[.int .i64 (s0 + 1), .int .i64 s1, .int .i64 s2, .int .i64 s3, .int .i64 (s4 + 1), .int .i64 s5]] U fun e w' => Tells (fun i => K i ∧ i < w.heap.size) U r e w') := fun U hU => by
    rw [er]
    exact lay_any _ _ l room (due + N) tx (sLate (sSent (s0, s1, s2, s3, s4, s5))) U ((HV.out.kept (Kept.of_ext (XV.out.trans hU)))) (by have := LLN.out; omega) (SB.mono HSB.out.sent.late (by decide))
  rw [← er]
  rw [g1]
  clear eL g1 en HV er
  have XU : Hid (Ext V V) := Ext.refl V
  go_enter Try.func41, Try.ntmps41
  go_wp2_with fail
  rw [← EN.out, ← EV.out]
  refine (LAY.out V XU.out).mono ?_
  rintro e w9 ⟨v9, rfl, rw9, x9⟩
  have X9 := XV.out.trans (XU.out.trans x9)
  have Q2 := hid (x9.row (XU.out.row R2.out))
  have F := hid (row_set (K := K) (w := w) (g := n + 1 + 1) (scs r.2) rw9 (fun i hi h => ⟨by have := EN.out; have := SV.out; have := XU.out.size; omega, h.elim (fun h => .inl h.1) (fun h => .inr (by have := XV.out.size; have := XU.out.size; omega))⟩) X9 (by have := EN.out; omega))
  have SONE := hid (scs_one r.2)
  have SS : Hid ((scs r.2).size = 6) := rfl
  have ER := hid (show scs r.2 = scs r.2 from rfl)
  obtain ⟨S9, eS9⟩ : ∃ S9, S9 = scs r.2 := ⟨_, rfl⟩
  rw [← eS9] at F SONE SS
  rw [← eS9]
  have ES := hid eS9
  have R4 : Hid ((w9.setRow (n + 1 + 1) S9).heap[n + 1 + 1]? = some (.cells S9 38 (0, 0))) := setRow_heap _ _ _ _ _ _ Q2.out
  clear rw9 x9 X9 eS9 ER LAY
  go_wp2_with (refine wpList_store_row rfl 38 (.tmp 13) (.tmp 82) rfl (n + 1 + 1) S9 rfl rfl 38 #[.int .i64 0, .int .i64 0, .int .i64 0, .int .i64 0, .int .i64 0, .int .i64 0] Q2.out (by rw [SS.out]; exact size_sts) (by rw [SS.out]; rfl) SONE.out ?_)
  refine bodyPost_ret (results_tmp_cell Try.results41 _ _ (n + 1 + 1) 38 _ (0, 0) _ rfl R4.out Try.underlying38 rfl (by rw [SS.out]; exact size_sts)) rfl ?_
  exact ⟨_, by rw [ES.out]; rfl, F.out⟩

set_option maxHeartbeats 8000000 in
theorem give_late3 (K : Nat → Prop) (v : Value) (l : Ms) (room due kind N : Int) (tx : List UInt8) (s : Cts) (w : World) (hv : RowK K w v 2 (rcells l)) (hl : l.length ≤ 900) (hs : SB 900000000 s) (ht : tx.length ≤ 1000) (hd0 : 0 ≤ due) (hd1 : due ≤ 2199023255552) (hk : kind = 3) (hN : ¬ 64 < N) (hN2 : ¬ 0 < N) :
    Calls Try.prog 41 #[v, .int .i64 room, .int .i64 due, .string (str tx), .agg #[.int .i64 kind, .int .i64 N], .agg (scs s)] w fun e w' => Tells K w (give1 l room due tx (kind, N) s) e w' := by
  have HSB := hid hs
  obtain ⟨s0, s1, s2, s3, s4, s5⟩ := s
  obtain ⟨b0, b1, b2, b3, b4, b5⟩ := hs
  simp only at b0 b1 b2 b3 b4 b5
  obtain ⟨n, en⟩ : ∃ n, n = w.heap.size := ⟨_, rfl⟩
  have EN := hid en
  have HV := hid (hv.mono (L := fun i => K i ∧ i < w.heap.size) (by decide) (fun i hi h => ⟨h, hi⟩))
  obtain ⟨ao, c, rfl, k1, k2, kk⟩ := hv.view
  clear kk hv
  unfold maxLen at k2
  have hl2 : ((l.length : Nat) : Int) ≤ 900 := by omega
  have LLN := hid hl
  have w0 : IntKind.i64.wrap (s0 + 1) = s0 + 1 := IntWalk.i64_in _ (by omega)
  have w1 : IntKind.i64.wrap (s1 + 1) = s1 + 1 := IntWalk.i64_in _ (by omega)
  have w3 : IntKind.i64.wrap (s3 + 1) = s3 + 1 := IntWalk.i64_in _ (by omega)
  have w4 : IntKind.i64.wrap (s4 + 1) = s4 + 1 := IntWalk.i64_in _ (by omega)
  have w5 : IntKind.i64.wrap (s5 + 1) = s5 + 1 := IntWalk.i64_in _ (by omega)
  have g1 : scs (s0, s1, s2, s3, s4, s5) = #[.int .i64 s0, .int .i64 s1, .int .i64 s2, .int .i64 s3, .int .i64 s4, .int .i64 s5] := rfl
  obtain ⟨V, eV⟩ : ∃ V, V = gx w #[.int .i64 kind, .int .i64 N] #[.int .i64 (s0 + 1), .int .i64 s1, .int .i64 s2, .int .i64 s3, .int .i64 (s4 + 1), .int .i64 s5] := ⟨_, rfl⟩
  have EV : Hid (V = ((w.alloc (.cells #[.int .i64 kind, .int .i64 N] 103)).alloc (.cells #[.int .i64 (s0 + 1), .int .i64 s1, .int .i64 s2, .int .i64 s3, .int .i64 (s4 + 1), .int .i64 s5] 38)).alloc (.cells #[.int .i64 0, .int .i64 0, .int .i64 0, .int .i64 0, .int .i64 0, .int .i64 0] 38)) := eV
  have RS := gx_rows w #[.int .i64 kind, .int .i64 N] #[.int .i64 (s0 + 1), .int .i64 s1, .int .i64 s2, .int .i64 s3, .int .i64 (s4 + 1), .int .i64 s5]
  have XV := hid (gx_ext w #[.int .i64 kind, .int .i64 N] #[.int .i64 (s0 + 1), .int .i64 s1, .int .i64 s2, .int .i64 s3, .int .i64 (s4 + 1), .int .i64 s5])
  rw [← eV] at RS XV
  rw [← en] at RS
  have R0 := hid RS.1
  have R1 := hid RS.2.1
  have R2 := hid RS.2.2
  have SV : Hid (n + 1 + 1 < V.heap.size) := lt_of_row R2.out
  clear RS eV
  subst hk
  have wd : IntKind.i64.wrap (due + 64) = due + 64 := IntWalk.i64_in _ (by omega)
  have eL : give1 l room due tx (3, N) (s0, s1, s2, s3, s4, s5) = lay1 l room (due, tx) (sLate (sSent (s0, s1, s2, s3, s4, s5))) := by unfold give1; dsimp only; rw [if_neg (by decide), if_neg (by decide), if_pos rfl]; unfold cl; rw [if_neg hN, if_neg hN2, Int.add_zero]
  rw [eL]
  obtain ⟨r, er⟩ : ∃ r, r = lay1 l room (due, tx) (sLate (sSent (s0, s1, s2, s3, s4, s5))) := ⟨_, rfl⟩
  have LAY : Hid (∀ U, Ext V U → Calls Try.prog 54 #[.slice ao l.length c, .int .i64 room, .agg #[.int .i64 (due), .string (str tx)], .agg #[.int .i64 (s0 + 1), .int .i64 s1, .int .i64 s2, .int .i64 s3, .int .i64 (s4 + 1), .int .i64 s5]] U fun e w' => Tells (fun i => K i ∧ i < w.heap.size) U r e w') := fun U hU => by
    rw [er]
    exact lay_any _ _ l room (due) tx (sLate (sSent (s0, s1, s2, s3, s4, s5))) U ((HV.out.kept (Kept.of_ext (XV.out.trans hU)))) (by have := LLN.out; omega) (SB.mono HSB.out.sent.late (by decide))
  rw [← er]
  rw [g1]
  clear eL g1 en HV er
  have XU : Hid (Ext V V) := Ext.refl V
  go_enter Try.func41, Try.ntmps41
  go_wp2_with fail
  rw [← EN.out, ← EV.out]
  refine (LAY.out V XU.out).mono ?_
  rintro e w9 ⟨v9, rfl, rw9, x9⟩
  have X9 := XV.out.trans (XU.out.trans x9)
  have Q2 := hid (x9.row (XU.out.row R2.out))
  have F := hid (row_set (K := K) (w := w) (g := n + 1 + 1) (scs r.2) rw9 (fun i hi h => ⟨by have := EN.out; have := SV.out; have := XU.out.size; omega, h.elim (fun h => .inl h.1) (fun h => .inr (by have := XV.out.size; have := XU.out.size; omega))⟩) X9 (by have := EN.out; omega))
  have SONE := hid (scs_one r.2)
  have SS : Hid ((scs r.2).size = 6) := rfl
  have ER := hid (show scs r.2 = scs r.2 from rfl)
  obtain ⟨S9, eS9⟩ : ∃ S9, S9 = scs r.2 := ⟨_, rfl⟩
  rw [← eS9] at F SONE SS
  rw [← eS9]
  have ES := hid eS9
  have R4 : Hid ((w9.setRow (n + 1 + 1) S9).heap[n + 1 + 1]? = some (.cells S9 38 (0, 0))) := setRow_heap _ _ _ _ _ _ Q2.out
  clear rw9 x9 X9 eS9 ER LAY
  go_wp2_with (refine wpList_store_row rfl 38 (.tmp 13) (.tmp 82) rfl (n + 1 + 1) S9 rfl rfl 38 #[.int .i64 0, .int .i64 0, .int .i64 0, .int .i64 0, .int .i64 0, .int .i64 0] Q2.out (by rw [SS.out]; exact size_sts) (by rw [SS.out]; rfl) SONE.out ?_)
  refine bodyPost_ret (results_tmp_cell Try.results41 _ _ (n + 1 + 1) 38 _ (0, 0) _ rfl R4.out Try.underlying38 rfl (by rw [SS.out]; exact size_sts)) rfl ?_
  exact ⟨_, by rw [ES.out]; rfl, F.out⟩

set_option maxHeartbeats 8000000 in
theorem give_doubled (K : Nat → Prop) (v : Value) (l : Ms) (room due kind N : Int) (tx : List UInt8) (s : Cts) (w : World) (hv : RowK K w v 2 (rcells l)) (hl : l.length ≤ 900) (hs : SB 900000000 s) (ht : tx.length ≤ 1000) (hd0 : 0 ≤ due) (hd1 : due ≤ 2199023255552) (hk : kind = 2) :
    Calls Try.prog 41 #[v, .int .i64 room, .int .i64 due, .string (str tx), .agg #[.int .i64 kind, .int .i64 N], .agg (scs s)] w fun e w' => Tells K w (give1 l room due tx (kind, N) s) e w' := by
  have HSB := hid hs
  obtain ⟨s0, s1, s2, s3, s4, s5⟩ := s
  obtain ⟨b0, b1, b2, b3, b4, b5⟩ := hs
  simp only at b0 b1 b2 b3 b4 b5
  obtain ⟨n, en⟩ : ∃ n, n = w.heap.size := ⟨_, rfl⟩
  have EN := hid en
  have HV := hid (hv.mono (L := fun i => K i ∧ i < w.heap.size) (by decide) (fun i hi h => ⟨h, hi⟩))
  obtain ⟨ao, c, rfl, k1, k2, kk⟩ := hv.view
  clear kk hv
  unfold maxLen at k2
  have hl2 : ((l.length : Nat) : Int) ≤ 900 := by omega
  have LLN := hid hl
  have w0 : IntKind.i64.wrap (s0 + 1) = s0 + 1 := IntWalk.i64_in _ (by omega)
  have w1 : IntKind.i64.wrap (s1 + 1) = s1 + 1 := IntWalk.i64_in _ (by omega)
  have w3 : IntKind.i64.wrap (s3 + 1) = s3 + 1 := IntWalk.i64_in _ (by omega)
  have w4 : IntKind.i64.wrap (s4 + 1) = s4 + 1 := IntWalk.i64_in _ (by omega)
  have w5 : IntKind.i64.wrap (s5 + 1) = s5 + 1 := IntWalk.i64_in _ (by omega)
  have g1 : scs (s0, s1, s2, s3, s4, s5) = #[.int .i64 s0, .int .i64 s1, .int .i64 s2, .int .i64 s3, .int .i64 s4, .int .i64 s5] := rfl
  obtain ⟨V, eV⟩ : ∃ V, V = gx w #[.int .i64 kind, .int .i64 N] #[.int .i64 (s0 + 1), .int .i64 s1, .int .i64 s2, .int .i64 (s3 + 1), .int .i64 s4, .int .i64 s5] := ⟨_, rfl⟩
  have EV : Hid (V = ((w.alloc (.cells #[.int .i64 kind, .int .i64 N] 103)).alloc (.cells #[.int .i64 (s0 + 1), .int .i64 s1, .int .i64 s2, .int .i64 (s3 + 1), .int .i64 s4, .int .i64 s5] 38)).alloc (.cells #[.int .i64 0, .int .i64 0, .int .i64 0, .int .i64 0, .int .i64 0, .int .i64 0] 38)) := eV
  have RS := gx_rows w #[.int .i64 kind, .int .i64 N] #[.int .i64 (s0 + 1), .int .i64 s1, .int .i64 s2, .int .i64 (s3 + 1), .int .i64 s4, .int .i64 s5]
  have XV := hid (gx_ext w #[.int .i64 kind, .int .i64 N] #[.int .i64 (s0 + 1), .int .i64 s1, .int .i64 s2, .int .i64 (s3 + 1), .int .i64 s4, .int .i64 s5])
  rw [← eV] at RS XV
  rw [← en] at RS
  have R0 := hid RS.1
  have R1 := hid RS.2.1
  have R2 := hid RS.2.2
  have SV : Hid (n + 1 + 1 < V.heap.size) := lt_of_row R2.out
  clear RS eV
  subst hk
  obtain ⟨r8, er8⟩ : ∃ r8, r8 = lay1 l room (due, tx) (sDbl (sSent (s0, s1, s2, s3, s4, s5))) := ⟨_, rfl⟩
  obtain ⟨r, er⟩ : ∃ r, r = lay1 r8.1 room (due, tx) r8.2 := ⟨_, rfl⟩
  have eL : give1 l room due tx (2, N) (s0, s1, s2, s3, s4, s5) = r := by unfold give1; dsimp only; rw [if_neg (by decide), if_pos rfl, ← er8, er]
  rw [eL]
  have LAY8 : Hid (∀ U, Ext V U → Calls Try.prog 54 #[.slice ao l.length c, .int .i64 room, .agg #[.int .i64 due, .string (str tx)], .agg #[.int .i64 (s0 + 1), .int .i64 s1, .int .i64 s2, .int .i64 (s3 + 1), .int .i64 s4, .int .i64 s5]] U fun e w' => Tells (fun i => K i ∧ i < w.heap.size) U r8 e w') := fun U hU => by
    rw [er8]
    exact lay_any _ _ l room due tx (sDbl (sSent (s0, s1, s2, s3, s4, s5))) U ((HV.out.kept (Kept.of_ext (XV.out.trans hU)))) (by have := LLN.out; omega) (SB.mono HSB.out.sent.dbl (by decide))
  have L8 : Hid (r8.1.length ≤ 1000 ∧ SB 1000000000 r8.2) := ⟨by rw [er8]; have := lay1_length (l := l) (room := room) (m := (due, tx)) (s := (sDbl (sSent (s0, s1, s2, s3, s4, s5)))); have := LLN.out; omega, by rw [er8]; exact (lay1_bound (SB.mono HSB.out.sent.dbl (show (900000000 : Int) + 1 + 1 ≤ 900000002 by decide))).mono (by decide)⟩
  have LAY9 : Hid (∀ U (KK : Nat → Prop) (v8 : Value), RowK KK U v8 2 (rcells r8.1) → Calls Try.prog 54 #[v8, .int .i64 room, .agg #[.int .i64 due, .string (str tx)], .agg (scs r8.2)] U fun e w' => Tells KK U r e w') := fun U KK v8 h8 => by
    rw [er]
    exact lay_any KK v8 r8.1 room due tx r8.2 U h8 L8.out.1 L8.out.2
  rw [g1]
  clear eL g1 en HV er er8
  go_enter Try.func41, Try.ntmps41
  go_wp2_with fail
  rw [← EN.out, ← EV.out]
  refine (LAY8.out V (Ext.refl V)).mono ?_
  rintro e w8 ⟨v8, rfl, rw8, x8⟩
  have SONE8 := hid (scs_one r8.2)
  obtain ⟨S8, eS8⟩ : ∃ S8, S8 = scs r8.2 := ⟨_, rfl⟩
  have SS8 : Hid (S8.size = 6) := by show _ = _; rw [eS8]; rfl
  rw [← eS8] at SONE8 LAY9
  rw [← eS8]
  have q0 := x8.row R0.out
  have Q1 := hid (x8.row R1.out)
  have q2 := x8.row R2.out
  obtain ⟨U1, eU1⟩ : ∃ U1, U1 = w8.setRow (n + 1) S8 := ⟨_, rfl⟩
  have KU1 : Kept (fun i => i ≠ n + 1) w8 U1 := by rw [eU1]; exact (Kept.refl _ w8).setRow (fun hne => hne rfl) _
  have P1 : Hid (U1.heap[n + 1]? = some (.cells S8 38 (0, 0))) := by rw [eU1]; exact setRow_heap _ _ _ _ _ _ Q1.out
  have P0 := KU1.row (show n ≠ n + 1 by omega) q0
  have P2 := hid (KU1.row (show n + 1 + 1 ≠ n + 1 by omega) q2)
  have XU1 : Hid (Ext w U1) := Below.trans (XV.out.trans x8) (KU1.below (XV.out.trans x8).size (fun i hi => by have := EN.out; omega))
  have z0 : U1.cell? ⟨n, 0, none⟩ = some (.int .i64 2) := by rw [cell_of_row U1 _ 0 _ _ _ P0]; rfl
  have RW8 : Hid (RowK (fun i => (K i ∧ i < w.heap.size) ∨ (V.heap.size ≤ i ∧ i < w8.heap.size)) U1 v8 2 (rcells r8.1)) := by
    have q := rw8.mono (L := fun i => i ≠ n + 1 ∧ ((K i ∧ i < w.heap.size) ∨ (V.heap.size ≤ i ∧ i < w8.heap.size))) (by decide) (fun i hi h => ⟨by have := EN.out; have := SV.out; omega, h⟩)
    exact (RowK.kept q (KU1.mono (fun i h => h.1))).mono (by decide) (fun i hi h => h.2)
  have L9 := hid (LAY9.out U1 _ v8 RW8.out)
  have EU1 := hid eU1
  have V8 : Hid (V.heap.size ≤ w8.heap.size ∧ w8.heap.size ≤ U1.heap.size) := ⟨x8.size, KU1.size⟩
  rw [eU1] at z0
  clear rw8 x8 eS8 q0 q2 eU1 KU1 P0 LAY8 LAY9 RW8
  have P1' : Hid ((w8.setRow (n + 1) S8).heap[n + 1]? = some (.cells S8 38 (0, 0))) := by rw [← EU1.out]; exact P1.out
  go_wp2_with (first
    | refine wpList_store_row rfl 38 (.tmp 11) (.tmp 43) rfl (n + 1) S8 rfl rfl 38 _ Q1.out (by rw [SS8.out]; exact size_sts) (by rw [SS8.out]; rfl) SONE8.out ?_
    | refine wpList_load_row rfl 38 (.tmp 11) rfl (n + 1) rfl 38 S8 (0, 0) _ P1'.out Try.underlying38 rfl (by rw [SS8.out]; exact size_sts) ?_)
  rw [← EU1.out]
  refine L9.out.mono ?_
  rintro e w9 ⟨v9, rfl, rw9, x9⟩
  have X9 := XU1.out.trans x9
  have Q2 := hid (x9.row P2.out)
  have F := hid (row_set (K := K) (w := w) (g := n + 1 + 1) (scs r.2) rw9 (fun i hi h => ⟨by have := EN.out; have := SV.out; have := V8.out; omega, h.elim (fun h => h.elim (fun h => .inl h.1) (fun h => .inr (by have := XV.out.size; omega))) (fun h => .inr (by have := XV.out.size; have := V8.out; omega))⟩) X9 (by have := EN.out; omega))
  have SONE := hid (scs_one r.2)
  have SS : Hid ((scs r.2).size = 6) := rfl
  obtain ⟨S9, eS9⟩ : ∃ S9, S9 = scs r.2 := ⟨_, rfl⟩
  rw [← eS9] at F SONE SS
  rw [← eS9]
  have ES := hid eS9
  have R4 : Hid ((w9.setRow (n + 1 + 1) S9).heap[n + 1 + 1]? = some (.cells S9 38 (0, 0))) := setRow_heap _ _ _ _ _ _ Q2.out
  clear rw9 x9 X9 eS9 z0
  go_wp2_with (refine wpList_store_row rfl 38 (.tmp 13) (.tmp 82) rfl (n + 1 + 1) S9 rfl rfl 38 #[.int .i64 0, .int .i64 0, .int .i64 0, .int .i64 0, .int .i64 0, .int .i64 0] Q2.out (by rw [SS.out]; exact size_sts) (by rw [SS.out]; rfl) SONE.out ?_)
  refine bodyPost_ret (results_tmp_cell Try.results41 _ _ (n + 1 + 1) 38 _ (0, 0) _ rfl R4.out Try.underlying38 rfl (by rw [SS.out]; exact size_sts)) rfl ?_
  exact ⟨_, by rw [ES.out]; rfl, F.out⟩

theorem refGive_any (K : Nat → Prop) (v : Value) (l : Ms) (room due kind N : Int) (tx : List UInt8) (s : Cts) (w : World) (hv : RowK K w v 2 (rcells l)) (hl : l.length ≤ 900) (hs : SB 900000000 s) (ht : tx.length ≤ 1000) (hd0 : 0 ≤ due) (hd1 : due ≤ 2199023255552) (hN0 : -9223372036854775808 ≤ N) (hN1 : N ≤ 9223372036854775807) :
    Calls Try.prog 41 #[v, .int .i64 room, .int .i64 due, .string (str tx), .agg #[.int .i64 kind, .int .i64 N], .agg (scs s)] w fun e w' => Tells K w (give1 l room due tx (kind, N) s) e w' := by
  by_cases h1 : kind = 1
  · exact give_lost K v l room due kind N tx s w hv hl hs ht hd0 hd1 h1
  by_cases h2 : kind = 2
  · exact give_doubled K v l room due kind N tx s w hv hl hs ht hd0 hd1 h2
  by_cases h3 : kind = 3
  · by_cases q1 : 64 < N
    · exact give_late1 K v l room due kind N tx s w hv hl hs ht hd0 hd1 h3 q1
    · by_cases q2 : 0 < N
      · exact give_late2 K v l room due kind N tx s w hv hl hs ht hd0 hd1 h3 q1 q2
      · exact give_late3 K v l room due kind N tx s w hv hl hs ht hd0 hd1 h3 q1 q2
  by_cases h4 : kind = 4
  · exact give_turned K v l room due kind N tx s w hv hl hs ht hd0 hd1 h4 hN0 hN1
  · exact give_plain K v l room due kind N tx s w hv hl hs ht hd0 hd1 h1 h2 h3 h4
end Go.Proofs.Ytjmgigfaiaemeaa.Sim

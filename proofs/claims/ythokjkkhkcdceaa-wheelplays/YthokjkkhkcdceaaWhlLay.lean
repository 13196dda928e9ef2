/-
  The walk of put.
-/
import Derived.Test.YthokjkkhkcdceaaWhlPut
namespace Go.Proofs.Ythokjkkhkcdceaa
set_option linter.unusedVariables false
set_option maxRecDepth 100000
open Go.RowKit Go.Lib

set_option maxHeartbeats 1000000 in
theorem put_any (K : Nat → Prop) (b : Nat) (t : Int) (l : Sts) (pi tk : Int) (w : World) (hw : WhK K w b t l) (hn : ∀ q ∈ l, q.1 ≠ pi) (htk : 0 ≤ tk ∧ tk ≤ 2199023255552) (hl : l.length < 1024) :
    Calls Try.prog 30 #[.pointer (some ⟨b, 0, none⟩), .agg #[.int .i64 pi, .int .i64 tk]] w fun e w' =>
      e = .returned (.tuple #[]) ∧ WhK K w' b t (ins (pi, tk) l) ∧ Kept K w w' := by
  obtain ⟨v, hu⟩ := hw.un
  have WL := hid (hw.1.ins hn htk hl)
  have TT := hid hw.2.1
  obtain ⟨k, hk, ek⟩ := spoke_of (pi, tk)
  simp only at ek
  have SI := hid (fun j => sp_ins (p := (pi, tk)) hw.1.1 j)
  have HN : Hid (∀ q ∈ sp l k, q.1 ≠ pi) := fun q hq => hn q (mem_sp.1 hq).1
  have HS := hid (sp_srt hw.1.1 k)
  have LL : (sp l k).length ≤ 1024 := Nat.le_trans (sp_le l k) (by omega)
  obtain ⟨W, eW⟩ : ∃ W, W = w.alloc (.cells #[.int .i64 pi, .int .i64 tk] 60) := ⟨_, rfl⟩
  have XW : Ext w W := by rw [eW]; exact (Ext.refl w).alloc _
  have R0 : Hid (W.heap[w.heap.size]? = some (.cells #[.int .i64 pi, .int .i64 tk] 60 (0, 0))) := by rw [eW]; exact heap_alloc_new w _
  have SZ : Hid (W.heap.size = w.heap.size + 1) := by rw [eW]; show _ = _; simp
  have U2 := hid (hu.more XW)
  have HU := hid hu
  have EW := hid eW
  have XX := hid XW
  have EK := hid ek
  have e64 : tk.tmod 64 = (k : Int) := by rw [Int.tmod_eq_emod_of_nonneg htk.1]; exact ek
  obtain ⟨ao, cp, ev, k1, k2, _⟩ := (hu.1.own hk).view
  have cW := U2.out.1.cell hk
  rw [ev] at cW
  have EV := hid ev
  unfold maxLen at k2
  have bl := hu.1.lt
  have b1 : b ≠ w.heap.size := by omega
  have c0 : W.cell? ⟨w.heap.size, 0, none⟩ = some (.int .i64 pi) := by rw [cell_of_row _ _ 0 _ _ _ R0.out]; rfl
  have c1 : W.cell? ⟨w.heap.size, 1, none⟩ = some (.int .i64 tk) := by rw [cell_of_row _ _ 1 _ _ _ R0.out]; rfl
  have B := hid (fun V (X : Ext W V) => bsearch_any (v k) (sp l k) (pi, tk) V ((U2.out.1.own hk).ext X) HS.out HN.out LL)
  clear hw hu eW XW ev hn ek
  rw [EV.out] at B
  have i3 : (k : Int) < 64 := by omega
  have i4 : (0 : Int) ≤ (k : Int) := by omega
  go_enter Try.func30, Try.ntmps30
  go_wp2_with fail
  rw [← EW.out]
  go_quiet (fail)
  go_wp2_with fail
  refine wp_region_held_drew (S := fun V => Ext W V) (by kernel_rfl) (Below.drew ((Ext.refl W).drewN nq)) (fun hHeld => ?_)
  refine takeE (v := ?_) 0 15 rfl rfl (by kernel_rfl) (by kernel_rfl) (by kernel_rfl) (fun _ _ _ h => h) (Or.inl ⟨by rfl, fun V hV => ?_⟩) hHeld ?_
  rotate_left
  · (have q0 := hV.cell c0; have q1 := hV.cell c1; have q2 := hV.cell cW; go_simp; try with_reducible rfl)
  simp only [Act.put, List.setIfInBounds_toArray, List.set_cons_zero, List.set_cons_succ]
  refine takeE (v := ?_) 1 16 rfl rfl (by kernel_rfl) (by kernel_rfl) (by kernel_rfl) (fun _ _ _ h => h) (Or.inl ⟨by rfl, fun V hV => ?_⟩) hHeld ?_
  rotate_left
  · (have q0 := hV.cell c0; have q1 := hV.cell c1; have q2 := hV.cell cW; go_simp; try with_reducible rfl)
  simp only [Act.put, List.setIfInBounds_toArray, List.set_cons_zero, List.set_cons_succ]
  refine takeE (v := ?_) 2 17 rfl rfl (by kernel_rfl) (by kernel_rfl) (by kernel_rfl) (fun _ _ _ h => h) (Or.inl ⟨by rfl, fun V hV => ?_⟩) hHeld ?_
  rotate_left
  · (have q0 := hV.cell c0; have q1 := hV.cell c1; have q2 := hV.cell cW; go_simp; try with_reducible rfl)
  simp only [Act.put, List.setIfInBounds_toArray, List.set_cons_zero, List.set_cons_succ]
  refine takeE (v := ?_) 3 18 rfl rfl (by kernel_rfl) (by kernel_rfl) (by kernel_rfl) (fun _ _ _ h => h) (Or.inl ⟨by rfl, fun V hV => ?_⟩) hHeld ?_
  rotate_left
  · (have q0 := hV.cell c0; have q1 := hV.cell c1; have q2 := hV.cell cW; go_simp; try with_reducible rfl)
  simp only [Act.put, List.setIfInBounds_toArray, List.set_cons_zero, List.set_cons_succ]
  refine callE 4 19 rfl rfl (by kernel_rfl) (by rfl) (by go_simp; first | exact ⟨rfl, rfl⟩ | rfl) ?_
  refine (B.out _ hHeld).mono ?_
  rintro e V2 ⟨q, y, rfl, hq, A1, A2, x2⟩
  refine ⟨_, rfl, hHeld.trans x2, ?_⟩
  replace hHeld := hHeld.trans x2
  clear x2
  simp only [Act.put, List.setIfInBounds_toArray, List.set_cons_zero, List.set_cons_succ]
  refine takeE (v := ?_) 5 14 rfl rfl (by kernel_rfl) (by kernel_rfl) (by kernel_rfl) (fun _ _ _ h => h) (Or.inl ⟨by rfl, fun V hV => ?_⟩) hHeld ?_
  rotate_left
  · (go_simp; try with_reducible rfl)
  simp only [Act.put, List.setIfInBounds_toArray, List.set_cons_zero, List.set_cons_succ]
  refine takeE (v := ?_) 6 20 rfl rfl (by kernel_rfl) (by kernel_rfl) (by kernel_rfl) (fun _ _ _ h => h) (Or.inl ⟨by rfl, fun V hV => ?_⟩) hHeld ?_
  rotate_left
  · (go_simp; try with_reducible rfl)
  simp only [Act.put, List.setIfInBounds_toArray, List.set_cons_zero, List.set_cons_succ]
  refine takeE (v := ?_) 7 21 rfl rfl (by kernel_rfl) (by kernel_rfl) (by kernel_rfl) (fun _ _ _ h => h) (Or.inl ⟨by rfl, fun V hV => ?_⟩) hHeld ?_
  rotate_left
  · (go_simp; try with_reducible rfl)
  simp only [Act.put, List.setIfInBounds_toArray, List.set_cons_zero, List.set_cons_succ]
  refine takeE (v := ?_) 8 5 rfl rfl (by kernel_rfl) (by kernel_rfl) (by kernel_rfl) (fun _ _ _ h => h) (Or.inl ⟨by rfl, fun V hV => ?_⟩) hHeld ?_
  rotate_left
  · (go_simp; try with_reducible rfl)
  simp only [Act.put, List.setIfInBounds_toArray, List.set_cons_zero, List.set_cons_succ]
  refine takeE (v := ?_) 9 6 rfl rfl (by kernel_rfl) (by kernel_rfl) (by kernel_rfl) (fun _ _ _ h => h) (Or.inl ⟨by rfl, fun V hV => ?_⟩) hHeld ?_
  rotate_left
  · (go_simp; try with_reducible rfl)
  simp only [Act.put, List.setIfInBounds_toArray, List.set_cons_zero, List.set_cons_succ]
  refine wpAnyH_done (by kernel_rfl) ?_ _
  have XV := hid hHeld
  have IN : Hid (ins (pi, tk) (sp l k) = (sp l k).take q ++ [(pi, tk)] ++ (sp l k).drop q) := ins_at _ q hq A1 A2
  have HQ := hid hq
  clear hHeld A1 A2 B
  have RB : Hid (V2.drew.heap[w.heap.size]? = some (.cells #[.int .i64 pi, .int .i64 tk] 60 (0, 0))) := XV.out.row R0.out
  have cV : V2.cell? ⟨b, 1 + k, none⟩ = _ := XV.out.cell cW
  obtain ⟨V3, e3⟩ : ∃ V3, V3 = V2.drew.alloc (.cells #[.int .i64 pi, .int .i64 tk] 60) := ⟨_, rfl⟩
  have X3 : Ext W V3 := by rw [e3]; exact (XV.out.drewN 1).alloc _
  have c3 : V3.cell? ⟨b, 1 + k, none⟩ = _ := X3.cell cW
  have n3 : V3.heap[V2.heap.size]? = some (.cells (gcells [(pi, tk)] ++ []).toArray 60 (0, 0)) := by rw [e3]; exact heap_alloc_new V2.drew _
  have o3 : OwnT V3 (.slice (some ⟨V2.heap.size, 0, none⟩) 1 1) [(pi, tk)] := own_of_rowT rfl n3 (Nat.le_refl _) (by unfold maxLen; omega) rfl
  have vs : V2.heap.size ≥ W.heap.size := XV.out.size
  have I := insert_any V3 (v k) (.slice (some ⟨V2.heap.size, 0, none⟩) 1 1) (sp l k) [(pi, tk)] q ((U2.out.1.own hk).ext X3) o3 (fun g e e2 => by
    have := (World.ownsRow.lt (U2.out.1.own hk) g e).2
    simp [Value.ownBlock] at e2
    omega) HQ.out (by omega) (by simp)
  have U3 := hid (U2.out.ext X3)
  rw [EV.out] at I
  have II := hid I
  have E3 := hid e3
  have X33 := hid X3
  clear I e3 o3 n3 X3 cW c0 c1
  go_wp2_with fail
  refine wp_region_held_drew (S := fun V => V.heap[w.heap.size]? = some (.cells #[.int .i64 pi, .int .i64 tk] 60 (0, 0))) (by kernel_rfl) RB.out (fun hHeld => ?_)
  refine takeE (v := ?_) 0 22 rfl rfl (by kernel_rfl) (by kernel_rfl) (by kernel_rfl) (fun _ _ _ h => h) (Or.inl ⟨by rfl, fun V hV => ?_⟩) hHeld ?_
  rotate_left
  · (go_simp; try with_reducible rfl)
  simp only [Act.put, List.setIfInBounds_toArray, List.set_cons_zero, List.set_cons_succ]
  refine takeE (v := ?_) 1 23 rfl rfl (by kernel_rfl) (by kernel_rfl) (by kernel_rfl) (fun _ _ _ h => h) (Or.inl ⟨by rfl, fun V hV => ?_⟩) hHeld ?_
  rotate_left
  · (go_simp; try with_reducible rfl)
  simp only [Act.put, List.setIfInBounds_toArray, List.set_cons_zero, List.set_cons_succ]
  refine takeE (v := ?_) 2 24 rfl rfl (by kernel_rfl) (by kernel_rfl) (by kernel_rfl) (fun _ _ _ h => h) (Or.inl ⟨by rfl, fun V hV => ?_⟩) hHeld ?_
  rotate_left
  · (go_simp; try with_reducible rfl)
  simp only [Act.put, List.setIfInBounds_toArray, List.set_cons_zero, List.set_cons_succ]
  refine takeE (v := ?_) 4 26 rfl rfl (by kernel_rfl) (by kernel_rfl) (by kernel_rfl) (fun _ _ _ h => h) (Or.inl ⟨by rfl, fun V hV => ?_⟩) hHeld ?_
  rotate_left
  · (go_simp; try with_reducible rfl)
  simp only [Act.put, List.setIfInBounds_toArray, List.set_cons_zero, List.set_cons_succ]
  refine takeE (v := ?_) 5 27 rfl rfl (by kernel_rfl) (by kernel_rfl) (by kernel_rfl) (fun _ _ _ h => h) (Or.inl ⟨by rfl, fun V hV => ?_⟩) hHeld ?_
  rotate_left
  · (have q0 := cell_of_row V _ 0 _ _ _ hV; have q1 := cell_of_row V _ 1 _ _ _ hV; simp at q0 q1; go_simp; try with_reducible rfl)
  simp only [Act.put, List.setIfInBounds_toArray, List.set_cons_zero, List.set_cons_succ]
  refine bothE 3 25 6 28 rfl rfl rfl rfl (by kernel_rfl) (by kernel_rfl) (by kernel_rfl) (by rfl) (by rfl) (by rfl) (by rfl) (v := .slice ao (sp l k).length cp) (u := .slice (some ⟨V2.heap.size, 0, none⟩) 1 1) (w' := V3) (by go_simp) (by rw [E3.out]; go_simp) (by rw [E3.out]; go_simp) (by go_simp) hHeld (by rw [E3.out]; exact ((Ext.refl V2.drew).alloc _).row hHeld) ?_ ?_
  · simp only [Act.put, List.setIfInBounds_toArray, List.set_cons_zero, List.set_cons_succ]
    refine callE 7 29 rfl rfl (by kernel_rfl) (by rfl) (by go_simp; first | exact ⟨rfl, rfl⟩ | rfl) ?_
    refine II.out.mono ?_
    rintro e V4 ⟨s', rfl, hT⟩
    have hT2 : Turned V3 V4 (v k) s' ((sp l k).take q ++ [(pi, tk)] ++ (sp l k).drop q) := by rw [EV.out]; exact hT
    obtain ⟨U5, K5, c5, f5⟩ := U3.out.put hk hT2 (l' := ins (pi, tk) l) (by rw [SI.out k, if_pos EK.out, IN.out]) (fun j _ hj => by rw [SI.out j, if_neg (fun e => hj (by have h0 := EK.out; have h1 : tk % 64 = (j : Int) := e; omega))])
    have U6 := hid U5
    have K6 := hid K5
    rw [EV.out] at c5
    have s4 : V4.heap[w.heap.size]? = some (.cells #[.int .i64 pi, .int .i64 tk] 60 (0, 0)) := by
      have h1 : V3.heap[w.heap.size]? = some (.cells #[.int .i64 pi, .int .i64 tk] 60 (0, 0)) := X33.out.row R0.out
      rw [hT2.2.1.block _ (lt_of_row h1) (fun e => by
        have := (World.ownsRow.lt (HU.out.1.own hk) _ e.symm).2
        omega), h1]
    have s5 : (V4.setCell ⟨b, 1 + k, none⟩ s').heap[w.heap.size]? = some (.cells #[.int .i64 pi, .int .i64 tk] 60 (0, 0)) := by rw [heap_setCell_other _ _ _ _ (fun e => b1 e.symm), s4]
    obtain ⟨a1, m1, c1, e1⟩ := owns_slice hT.1
    subst e1
    refine ⟨_, rfl, s4, ?_⟩
    clear hT hT2 U5 K5 II hHeld
    have hHeld := s4
    clear s4
    simp only [Act.put, List.setIfInBounds_toArray, List.set_cons_zero, List.set_cons_succ]
    refine takeE (v := ?_) 8 30 rfl rfl (by kernel_rfl) (by kernel_rfl) (by kernel_rfl) (fun _ _ _ h => h) (Or.inl ⟨by rfl, fun V hV => ?_⟩) hHeld ?_
    rotate_left
    · (go_simp; try with_reducible rfl)
    simp only [Act.put, List.setIfInBounds_toArray, List.set_cons_zero, List.set_cons_succ]
    refine storeE 9 rfl (by kernel_rfl) (by rfl) (w' := V4.setCell ⟨b, 1 + k, none⟩ (.slice a1 m1 c1)) (by go_simp; try with_reducible rfl) s5 ?_
    simp only [Act.put]
    refine wpAnyH_done (by kernel_rfl) ?_ _
    clear c5 f5 hHeld s5
    generalize V4.setCell ⟨b, 1 + k, none⟩ (.slice a1 m1 c1) = V5 at *
    go_end0
    exact ⟨rfl, ⟨WL.out, TT.out, _, U6.out.less (fun i hi => .inl hi)⟩, (Kept.of_ext (XX.out.trans X33.out)).trans (K6.out.mono (fun i hi => .inl hi))⟩
  · simp only [Act.put, List.setIfInBounds_toArray, List.set_cons_zero, List.set_cons_succ]
    refine callE 7 29 rfl rfl (by kernel_rfl) (by rfl) (by go_simp; first | exact ⟨rfl, rfl⟩ | rfl) ?_
    refine II.out.mono ?_
    rintro e V4 ⟨s', rfl, hT⟩
    have hT2 : Turned V3 V4 (v k) s' ((sp l k).take q ++ [(pi, tk)] ++ (sp l k).drop q) := by rw [EV.out]; exact hT
    obtain ⟨U5, K5, c5, f5⟩ := U3.out.put hk hT2 (l' := ins (pi, tk) l) (by rw [SI.out k, if_pos EK.out, IN.out]) (fun j _ hj => by rw [SI.out j, if_neg (fun e => hj (by have h0 := EK.out; have h1 : tk % 64 = (j : Int) := e; omega))])
    have U6 := hid U5
    have K6 := hid K5
    rw [EV.out] at c5
    have s4 : V4.heap[w.heap.size]? = some (.cells #[.int .i64 pi, .int .i64 tk] 60 (0, 0)) := by
      have h1 : V3.heap[w.heap.size]? = some (.cells #[.int .i64 pi, .int .i64 tk] 60 (0, 0)) := X33.out.row R0.out
      rw [hT2.2.1.block _ (lt_of_row h1) (fun e => by
        have := (World.ownsRow.lt (HU.out.1.own hk) _ e.symm).2
        omega), h1]
    have s5 : (V4.setCell ⟨b, 1 + k, none⟩ s').heap[w.heap.size]? = some (.cells #[.int .i64 pi, .int .i64 tk] 60 (0, 0)) := by rw [heap_setCell_other _ _ _ _ (fun e => b1 e.symm), s4]
    obtain ⟨a1, m1, c1, e1⟩ := owns_slice hT.1
    subst e1
    refine ⟨_, rfl, s4, ?_⟩
    clear hT hT2 U5 K5 II hHeld
    have hHeld := s4
    clear s4
    simp only [Act.put, List.setIfInBounds_toArray, List.set_cons_zero, List.set_cons_succ]
    refine takeE (v := ?_) 8 30 rfl rfl (by kernel_rfl) (by kernel_rfl) (by kernel_rfl) (fun _ _ _ h => h) (Or.inl ⟨by rfl, fun V hV => ?_⟩) hHeld ?_
    rotate_left
    · (go_simp; try with_reducible rfl)
    simp only [Act.put, List.setIfInBounds_toArray, List.set_cons_zero, List.set_cons_succ]
    refine storeE 9 rfl (by kernel_rfl) (by rfl) (w' := V4.setCell ⟨b, 1 + k, none⟩ (.slice a1 m1 c1)) (by go_simp; try with_reducible rfl) s5 ?_
    simp only [Act.put]
    refine wpAnyH_done (by kernel_rfl) ?_ _
    clear c5 f5 hHeld s5
    generalize V4.setCell ⟨b, 1 + k, none⟩ (.slice a1 m1 c1) = V5 at *
    go_end0
    exact ⟨rfl, ⟨WL.out, TT.out, _, U6.out.less (fun i hi => .inl hi)⟩, (Kept.of_ext (XX.out.trans X33.out)).trans (K6.out.mono (fun i hi => .inl hi))⟩
end Go.Proofs.Ythokjkkhkcdceaa

/-
  The walk of take.
-/
import Derived.Test.YthokjkkhkcdceaaWhlPut
namespace Go.Proofs.Ythokjkkhkcdceaa
set_option linter.unusedVariables false
set_option maxRecDepth 100000
open Go.RowKit Go.Lib

set_option maxHeartbeats 400000 in
theorem take_any (K : Nat → Prop) (b : Nat) (t : Int) (l : Sts) (k j : Nat) (w : World) (hw : WhK K w b t l) (hk : k < 64) (hj : j < (sp l k).length) :
    Calls Try.prog 27 #[.pointer (some ⟨b, 0, none⟩), .int .i64 (k : Int), .int .i64 (j : Int)] w fun e w' =>
      e = .returned (.agg #[.int .i64 ((sp l k).getD j (0, 0)).1, .int .i64 ((sp l k).getD j (0, 0)).2]) ∧ WhK K w' b t (wo ((sp l k).getD j (0, 0)).1 l) ∧ Kept K w w' := by
  obtain ⟨v, hu⟩ := hw.un
  have WL := hid (hw.1.wo ((sp l k).getD j (0, 0)).1)
  have TT := hid hw.2.1
  have ST := hid (sp_take l hw.1.2.1 hj)
  obtain ⟨ao, cp, ev, k1, k2, vw⟩ := (hu.1.own hk).view
  obtain ⟨g, rfl, x1, x2⟩ := vw j hj
  have JL := hid hj
  have HU := hid hu
  have b0 : b < w.heap.size := hu.1.lt
  have g0 : g < w.heap.size := block_lt_of_cell x1
  have b1 : b ≠ w.heap.size := by omega
  have g1 : g ≠ w.heap.size := by omega
  have c := hu.1.cell hk
  rw [ev] at c
  have EV := hid ev
  unfold maxLen at k2
  clear hw hu vw ev
  generalize (sp l k).getD j (0, 0) = p at *
  obtain ⟨pi, tk⟩ := p
  simp only at *
  obtain ⟨W, eW⟩ : ∃ W, W = (w.alloc (.cells #[.int .i64 0, .int .i64 0] 60)).alloc (.cells #[.int .i64 pi, .int .i64 tk] 60) := ⟨_, rfl⟩
  have XW : Ext w W := by rw [eW]; exact ((Ext.refl w).alloc _).alloc _
  have R0 : Hid (W.heap[w.heap.size]? = some (.cells #[.int .i64 0, .int .i64 0] 60 (0, 0))) := by rw [eW]; exact heap_alloc2_old w _ _
  have R1 : Hid (W.heap[w.heap.size + 1]? = some (.cells #[.int .i64 pi, .int .i64 tk] 60 (0, 0))) := by rw [eW]; exact heap_alloc2_new w _ _
  have SZ : Hid (W.heap.size = w.heap.size + 2) := by rw [eW]; show _ = _; simp
  have U2 := hid (HU.out.more XW)
  have EW := hid eW
  have cW := XW.cell c
  have XX := hid XW
  clear eW XW
  have i1 : (j : Int) < ((sp l k).length : Int) := by omega
  obtain ⟨n, en⟩ : ∃ n, n = (sp l k).length := ⟨_, rfl⟩
  rw [← en] at i1 k1 c cW EV
  have EN := hid en
  clear en hj
  have i2 : (0 : Int) ≤ (j : Int) := by omega
  have i3 : (k : Int) < 64 := by omega
  have i4 : (0 : Int) ≤ (k : Int) := by omega
  have wj : IntKind.i64.wrap ((j : Int) + 1) = (j : Int) + 1 := IntWalk.i64_in _ (by omega)
  have D := delete_any W.drew (v k) (sp l k) j (((U2.out.ext ((Ext.refl W).drewN 1)).1).own hk) JL.out
  rw [EV.out] at D
  have DD := hid D
  clear D
  go_enter Try.func27, Try.ntmps27
  go_wp2_with fail
  rw [← EW.out]
  clear c x1 x2
  refine wp_region_held_drew (S := fun _ => True) (by kernel_rfl) trivial (fun hHeld => ?_)
  refine takeE (v := ?_) 0 17 rfl rfl (by kernel_rfl) (by kernel_rfl) (by kernel_rfl) (fun _ _ _ h => h) (Or.inl ⟨by rfl, fun V hV => ?_⟩) hHeld ?_
  rotate_left
  · (go_simp; try with_reducible rfl)
  simp only [Act.put, List.setIfInBounds_toArray, List.set_cons_zero, List.set_cons_succ]
  refine takeE (v := ?_) 1 18 rfl rfl (by kernel_rfl) (by kernel_rfl) (by kernel_rfl) (fun _ _ _ h => h) (Or.inl ⟨by rfl, fun V hV => ?_⟩) hHeld ?_
  rotate_left
  · (go_simp; try with_reducible rfl)
  simp only [Act.put, List.setIfInBounds_toArray, List.set_cons_zero, List.set_cons_succ]
  refine takeE (v := ?_) 2 19 rfl rfl (by kernel_rfl) (by kernel_rfl) (by kernel_rfl) (fun _ _ _ h => h) (Or.inl ⟨by rfl, fun V hV => ?_⟩) hHeld ?_
  rotate_left
  · (go_simp; try with_reducible rfl)
  simp only [Act.put, List.setIfInBounds_toArray, List.set_cons_zero, List.set_cons_succ]
  refine takeE (v := ?_) 3 20 rfl rfl (by kernel_rfl) (by kernel_rfl) (by kernel_rfl) (fun _ _ _ h => h) (Or.inl ⟨by rfl, fun V hV => ?_⟩) hHeld ?_
  rotate_left
  · (go_simp; try with_reducible rfl)
  simp only [Act.put, List.setIfInBounds_toArray, List.set_cons_zero, List.set_cons_succ]
  refine takeE (v := ?_) 4 21 rfl rfl (by kernel_rfl) (by kernel_rfl) (by kernel_rfl) (fun _ _ _ h => h) (Or.inl ⟨by rfl, fun V hV => ?_⟩) hHeld ?_
  rotate_left
  · (go_simp; try with_reducible rfl)
  simp only [Act.put, List.setIfInBounds_toArray, List.set_cons_zero, List.set_cons_succ]
  refine takeE (v := ?_) 5 22 rfl rfl (by kernel_rfl) (by kernel_rfl) (by kernel_rfl) (fun _ _ _ h => h) (Or.inl ⟨by rfl, fun V hV => ?_⟩) hHeld ?_
  rotate_left
  · (go_simp; try with_reducible rfl)
  simp only [Act.put, List.setIfInBounds_toArray, List.set_cons_zero, List.set_cons_succ]
  refine takeE (v := ?_) 6 23 rfl rfl (by kernel_rfl) (by kernel_rfl) (by kernel_rfl) (fun _ _ _ h => h) (Or.inl ⟨by rfl, fun V hV => ?_⟩) hHeld ?_
  rotate_left
  · (go_simp; try with_reducible rfl)
  simp only [Act.put, List.setIfInBounds_toArray, List.set_cons_zero, List.set_cons_succ]
  refine takeE (v := ?_) 8 25 rfl rfl (by kernel_rfl) (by kernel_rfl) (by kernel_rfl) (fun _ _ _ h => h) (Or.inl ⟨by rfl, fun V hV => ?_⟩) hHeld ?_
  rotate_left
  · (go_simp; try with_reducible rfl)
  simp only [Act.put, List.setIfInBounds_toArray, List.set_cons_zero, List.set_cons_succ]
  refine takeE (v := ?_) 9 26 rfl rfl (by kernel_rfl) (by kernel_rfl) (by kernel_rfl) (fun _ _ _ h => h) (Or.inl ⟨by rfl, fun V hV => ?_⟩) hHeld ?_
  rotate_left
  · (go_simp; try with_reducible rfl)
  simp only [Act.put, List.setIfInBounds_toArray, List.set_cons_zero, List.set_cons_succ]
  refine takeE (v := ?_) 10 27 rfl rfl (by kernel_rfl) (by kernel_rfl) (by kernel_rfl) (fun _ _ _ h => h) (Or.inl ⟨by rfl, fun V hV => ?_⟩) hHeld ?_
  rotate_left
  · (go_simp; try with_reducible rfl)
  simp only [Act.put, List.setIfInBounds_toArray, List.set_cons_zero, List.set_cons_succ]
  refine takeE (v := ?_) 12 29 rfl rfl (by kernel_rfl) (by kernel_rfl) (by kernel_rfl) (fun _ _ _ h => h) (Or.inl ⟨by rfl, fun V hV => ?_⟩) hHeld ?_
  rotate_left
  · (go_simp; try with_reducible rfl)
  simp only [Act.put, List.setIfInBounds_toArray, List.set_cons_zero, List.set_cons_succ]
  refine takeE (v := ?_) 13 30 rfl rfl (by kernel_rfl) (by kernel_rfl) (by kernel_rfl) (fun _ _ _ h => h) (Or.inl ⟨by rfl, fun V hV => ?_⟩) hHeld ?_
  rotate_left
  · (go_simp; try with_reducible rfl)
  simp only [Act.put, List.setIfInBounds_toArray, List.set_cons_zero, List.set_cons_succ]
  refine knownE 7 24 rfl rfl (by kernel_rfl) (by rfl) (w' := W.drew) (v := .slice (some ⟨g, 0, none⟩) n cp) (by go_simp) trivial ?_
  simp only [Act.put, List.setIfInBounds_toArray, List.set_cons_zero, List.set_cons_succ]
  refine callE 11 28 rfl rfl (by kernel_rfl) (by rfl) (by go_simp; first | exact ⟨rfl, rfl⟩ | rfl) ?_
  refine DD.out.mono ?_
  rintro e W2 ⟨s', rfl, hT⟩
  have hT2 : Turned W.drew W2 (v k) s' ((sp l k).take j ++ (sp l k).drop (j + 1)) := by rw [EV.out]; exact hT
  obtain ⟨U3, K3, c3, f3⟩ := (U2.out.ext ((Ext.refl W).drewN 1)).put hk hT2 ST.out.1 (fun i _ hi => ST.out.2 i hi)
  have U4 := hid U3
  have K4 := hid K3
  rw [EV.out] at c3
  obtain ⟨a1, m1, c1, e1⟩ := owns_slice hT.1
  subst e1
  refine ⟨_, rfl, trivial, ?_⟩
  clear hT hT2 U3 K3 DD
  simp only [Act.put, List.setIfInBounds_toArray, List.set_cons_zero, List.set_cons_succ]
  refine takeE (v := ?_) 14 31 rfl rfl (by kernel_rfl) (by kernel_rfl) (by kernel_rfl) (fun _ _ _ h => h) (Or.inl ⟨by rfl, fun V hV => ?_⟩) hHeld ?_
  rotate_left
  · (go_simp; try with_reducible rfl)
  simp only [Act.put, List.setIfInBounds_toArray, List.set_cons_zero, List.set_cons_succ]
  refine storeE 15 rfl (by kernel_rfl) (by rfl) (w' := W2.setCell ⟨b, 1 + k, none⟩ (.slice a1 m1 c1)) (by go_simp; try with_reducible rfl) trivial ?_
  simp only [Act.put]
  refine wpAnyH_done (by kernel_rfl) ?_ _
  clear c3 f3
  generalize W2.setCell ⟨b, 1 + k, none⟩ (.slice a1 m1 c1) = W3 at *
  have r0 : Hid (W3.heap[w.heap.size]? = some (.cells #[.int .i64 0, .int .i64 0] 60 (0, 0))) := by
    have := SZ.out
    exact K4.out.row (.inr ⟨Nat.le_refl _, by omega⟩) (show W.drew.heap[w.heap.size]? = _ from R0.out)
  have r1 : Hid (W3.heap[w.heap.size + 1]? = some (.cells #[.int .i64 pi, .int .i64 tk] 60 (0, 0))) := by
    have := SZ.out
    exact K4.out.row (.inr ⟨by omega, by omega⟩) (show W.drew.heap[w.heap.size + 1]? = _ from R1.out)
  have ONE : Hid ((#[Value.int .i64 pi, .int .i64 tk]).all (·.oneCell') = true) := by show _ = _; simp [Value.oneCell']
  go_wp2_with (first
    | refine wpList_load_row rfl 60 _ rfl (w.heap.size + 1) rfl 60 #[.int .i64 pi, .int .i64 tk] (0, 0) _ r1.out Try.underlying60 rfl (by kernel_rfl) ?_
    | refine wpList_store_row rfl 60 _ _ rfl w.heap.size #[.int .i64 pi, .int .i64 tk] rfl rfl 60 #[.int .i64 0, .int .i64 0] r0.out (by kernel_rfl) rfl ONE.out ?_)
  have r2 : (W3.setRow w.heap.size #[.int .i64 pi, .int .i64 tk]).heap[w.heap.size]? = some (.cells #[.int .i64 pi, .int .i64 tk] 60 (0, 0)) := setRow_heap _ _ _ _ _ _ r0.out
  refine bodyPost_ret (results_cell_row Try.results27 _ _ w.heap.size 60 #[.int .i64 pi, .int .i64 tk] (0, 0) _ rfl r2 Try.underlying60 rfl (by kernel_rfl)) rfl ?_
  have kk : (fun i => K i ∨ (w.heap.size ≤ i ∧ i < W.heap.size)) w.heap.size := .inr ⟨Nat.le_refl _, by have := SZ.out; omega⟩
  refine ⟨rfl, ⟨WL.out, TT.out, _, (U4.out.row kk _).less (fun i hi => .inl hi)⟩, ?_⟩
  have nk : ¬ K w.heap.size := fun hk2 => by have := HU.out.2.2.2.2 _ hk2; omega
  exact ((Kept.of_ext (XX.out.drewN 1)).trans (K4.out.mono (fun i hi => .inl hi))).setRow nk _
end Go.Proofs.Ythokjkkhkcdceaa

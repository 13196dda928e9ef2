/-
  Walks of New, slices.Clone, Copy.
-/
import Derived.Test.YtjmgigfaiaemeaaGrpOps
import Derived.Lib.BufferMore
namespace Go.Proofs.Ytjmgigfaiaemeaa.Grp
set_option linter.unusedVariables false
set_option maxRecDepth 100000
open Go.RowKit Go.Lib

theorem new_bad (n j lv : Int) (w : World) (h : n < 1 ∨ 64 < n ∨ j < 0 ∨ 64 < j ∨ lv < 0 ∨ 64 < lv) :
    Calls Try.prog 17 #[.int .i64 n, .int .i64 j, .int .i64 lv] w fun e w' => e = .returned (.tuple #[.pointer none, .int .i64 11]) ∧ w' = w := by
  have J := isDelay_any j w
  have L := isDelay_any lv w
  by_cases h1 : n < 1
  · clear h J L
    go_enter Try.func17, Try.ntmps17
    go_wp2_with fail
    go_ret2
    exact ⟨rfl, rfl⟩
  by_cases h2 : 64 < n
  · clear h J L
    go_enter Try.func17, Try.ntmps17
    go_wp2_with fail
    go_ret2
    exact ⟨rfl, rfl⟩
  by_cases h3 : j < 0 ∨ 64 < j
  · rw [show (decide (0 ≤ j) && decide (j ≤ 64)) = false by simp; omega] at J
    have JJ := hid J
    clear h J L h3
    go_enter Try.func17, Try.ntmps17
    go_wp2_with fail
    refine JJ.out.mono ?_
    rintro e w1 ⟨rfl, rfl⟩
    go_wp2_with fail
    go_ret2
    exact ⟨rfl, rfl⟩
  · rw [show (decide (0 ≤ j) && decide (j ≤ 64)) = true by simp; omega] at J
    rw [show (decide (0 ≤ lv) && decide (lv ≤ 64)) = false by simp; omega] at L
    have JJ := hid J
    have LL := hid L
    clear h J L h3
    go_enter Try.func17, Try.ntmps17
    go_wp2_with fail
    refine JJ.out.mono ?_
    rintro e w1 ⟨rfl, rfl⟩
    go_wp2_with fail
    refine LL.out.mono ?_
    rintro e w1 ⟨rfl, rfl⟩
    go_wp2_with fail
    go_ret2
    exact ⟨rfl, rfl⟩

/-- a group half made: k receivers -/
def Half (w wr : World) (b : Nat) (j lv : Int) (v : Value) (k : Nat) : Prop :=
  wr.heap[b]? = some (.cells #[.int .i64 j, .int .i64 lv, v] 86 (0, 0)) ∧ w.heap.size ≤ b ∧ NewR tri 83 3 w wr v (List.replicate k (0, -1, -1))
theorem Half.step {w wr : World} {b : Nat} {j lv : Int} {v : Value} {k : Nat} (h : Half w wr b j lv v k) (hk : k ≤ 64) :
    ∃ v' w', (Builtin.append_ #[84, 84] 84 #[v, .slice (some ⟨wr.heap.size, 0, none⟩) 1 1]).run Try.prog (wr.alloc (.cells #[.int .i64 0, .int .i64 (-1), .int .i64 (-1)] 83)) = .ok v' w' ∧ (∃ ao c, v' = .slice ao (k + 1) c) ∧
      w'.cell? ⟨b, 2, none⟩ = some v ∧ w'.frozen? ⟨b, 2, none⟩ = false ∧ Half w (w'.setCell ⟨b, 2, none⟩ v') b j lv v' (k + 1) := by
  obtain ⟨h1, h2, h3⟩ := h
  obtain ⟨v', w', r, N, gb⟩ := h3.step elemsR encT 84 (0, -1, -1) (by simp; omega)
  have er : List.replicate k ((0, -1, -1) : Tri) ++ [(0, -1, -1)] = List.replicate (k + 1) (0, -1, -1) := (List.replicate_succ' ..).symm
  rw [er] at N
  have A := (Ext.refl wr).alloc (.cells #[.int .i64 0, .int .i64 (-1), .int .i64 (-1)] 83)
  have b1 : (wr.alloc (.cells (tri (0, -1, -1)).toArray 83)).heap[b]? = some (.cells #[.int .i64 j, .int .i64 lv, v] 86 (0, 0)) := A.row h1
  have nb : v.ownBlock ≠ some b := h3.1.apart h1 (by decide)
  have b2 : w'.heap[b]? = some (.cells #[.int .i64 j, .int .i64 lv, v] 86 (0, 0)) := by
    rw [gb.block b (lt_of_row b1) (fun e => nb e.symm)]
    exact b1
  have nb2 : v'.ownBlock ≠ some b := N.1.apart b2 (by decide)
  have e1 : w'.setCell ⟨b, 2, none⟩ v' = w'.setRow b #[.int .i64 j, .int .i64 lv, v'] := setCell_eq_setRow w' b 2 _ _ _ _ b2
  obtain ⟨ao, c, ev, _⟩ := N.slice
  rw [List.length_replicate] at ev
  refine ⟨v', w', r, ⟨ao, c, ev⟩, by rw [cell_of_row _ _ 2 _ _ _ b2]; rfl, frozen_of_row _ _ _ _ _ b2, ?_, h2, ?_, N.2.1, N.2.2.setCell (p := ⟨b, 2, none⟩) h2 v'⟩
  · rw [e1]
    exact setRow_heap _ _ _ _ _ _ b2
  · exact N.1.kept (K := fun i => i ≠ b) ((Kept.refl _ w').setCell (fun hne => hne rfl) _) (fun q e => by rintro rfl; exact nb2 e)
theorem Half.done {w wr : World} {b : Nat} {j lv : Int} {v : Value} {n : Nat} (h : Half w wr b j lv v n) (h1 : 1 ≤ n) (h2 : n ≤ 64) (j1 : 0 ≤ j) (j2 : j ≤ 64) (l1 : 0 ≤ lv) (l2 : lv ≤ 64) : ∃ g cap, Grp wr b g cap n j lv [] ∧ w.heap.size ≤ b ∧ w.heap.size ≤ g ∧ Ext w wr := by
  obtain ⟨q1, q2, q3⟩ := h
  have e0 : rcs j lv [] n = List.replicate n (0, -1, -1) := rcs_start j lv n
  rcases q3.1.at with ⟨_, e⟩ | ⟨g, cap, L, ev, _⟩
  · have := congrArg List.length e
    simp at this
    omega
  · rw [List.length_replicate] at ev
    subst ev
    refine ⟨g, cap, ⟨⟨h1, h2, j1, j2, l1, l2, Fit.nil _⟩, q1, ?_⟩, q2, q3.2.1 g rfl, q3.2.2⟩
    rw [e0]
    exact q3.1

set_option maxHeartbeats 2000000 in
theorem new_any (n : Nat) (j lv : Int) (w : World) (h1 : 1 ≤ n) (h2 : n ≤ 64) (j1 : 0 ≤ j) (j2 : j ≤ 64) (l1 : 0 ≤ lv) (l2 : lv ≤ 64) :
    Calls Try.prog 17 #[.int .i64 (n : Int), .int .i64 j, .int .i64 lv] w fun e w' => ∃ b g cap, e = .returned (.tuple #[.pointer (some ⟨b, 0, none⟩), .int .i64 0]) ∧ Grp w' b g cap n j lv [] ∧ w.heap.size ≤ b ∧ w.heap.size ≤ g ∧ Ext w w' := by
  have J := isDelay_any j w
  have L := isDelay_any lv w
  rw [show (decide (0 ≤ j) && decide (j ≤ 64)) = true by simp; omega] at J
  rw [show (decide (0 ≤ lv) && decide (lv ≤ 64)) = true by simp; omega] at L
  have JJ := hid J
  have LL := hid L
  have H0 : Hid (Half w (w.alloc (.cells #[.int .i64 j, .int .i64 lv, .slice none 0 0] 86)) w.heap.size j lv (.slice none 0 0) 0) :=
    ⟨heap_alloc_new w _, Nat.le_refl _, (NewR.nil tri 83 3 w).ext ((Ext.refl w).alloc _)⟩
  have n1 : ¬ (n : Int) < 1 := by omega
  have n2 : ¬ (64 : Int) < (n : Int) := by omega
  have DONE : Hid (∀ wr v b, Half w wr b j lv v n → ∃ g cap, Grp wr b g cap n j lv [] ∧ w.heap.size ≤ b ∧ w.heap.size ≤ g ∧ Ext w wr) := fun wr v b h => h.done h1 h2 j1 j2 l1 l2
  obtain ⟨b, eb⟩ : ∃ b, b = w.heap.size := ⟨_, rfl⟩
  obtain ⟨W, eW⟩ : ∃ W, W = w.alloc (.cells #[.int .i64 j, .int .i64 lv, .slice none 0 0] 86) := ⟨_, rfl⟩
  rw [← eb, ← eW] at H0
  have EB := hid eb
  have EW := hid eW
  clear J L eb eW
  go_enter Try.func17, Try.ntmps17
  go_wp2_with fail
  refine JJ.out.mono ?_
  rintro e w1 ⟨rfl, rfl⟩
  go_wp2_with fail
  refine LL.out.mono ?_
  rintro e w1 ⟨rfl, rfl⟩
  clear JJ LL
  go_wp2_with fail
  rw [← EB.out, ← EW.out]
  go_loopw [30] (fun i wr => ∃ (k : Nat) (v : Value), k ≤ n ∧ i = .int .i64 (k : Int) ∧ Hid (Half w1 wr b j lv v k)) (fun i _ => (n - intOf i).toNat)
  case atStart => exact ⟨0, _, by omega, rfl, H0⟩
  case round =>
    obtain ⟨k, v, hk, rfl, HH⟩ := hrel
    clear H0 EB EW
    by_cases h : k < n
    · obtain ⟨v', w', r, ⟨ao', c', e'⟩, d1, d2, S⟩ := HH.out.step (by omega)
      have c2 : wr.cell? ⟨b, 2, none⟩ = some v := by rw [cell_of_row _ _ 2 _ _ _ HH.out.1]; rfl
      obtain ⟨ao, c, ev, _⟩ := HH.out.2.2.slice
      rw [List.length_replicate] at ev
      subst ev e'
      have R := hid r
      have SS := hid S
      have i1 : (k : Int) < (n : Int) := by omega
      clear r S HH
      go_wp2_with (at_builtin; refine wpList_append_run _ rfl (.tmp 36) (.tmp 38) 84 84 rfl _ _ rfl rfl _ _ R.out ?_)
      go_roundw
      case rel => exact ⟨k + 1, _, by omega, by go_num, SS⟩
      case measure => simp [intOf]; omega
    · obtain rfl : k = n := by omega
      obtain ⟨g, cap, F⟩ := DONE.out _ _ _ HH.out
      have FF := hid F
      clear F DONE HH
      go_wp2_with fail
      go_ret2
      exact ⟨b, g, cap, rfl, FF.out⟩

set_option maxHeartbeats 1000000 in
theorem clone_any (w : World) (g n cap : Nat) (l : List Tri) (hs : Own tri 83 3 w (.slice (some ⟨g, 0, none⟩) n cap) l) (hl : l.length ≤ 1000) :
    Calls Try.prog 46 #[.slice (some ⟨g, 0, none⟩) n cap] w fun e w' => ∃ v, e = .returned v ∧ NewR tri 83 3 w w' v l := by
  obtain ⟨w1, e1⟩ : ∃ w1, w1 = w.alloc (.cells #[] 83) := ⟨_, rfl⟩
  have X1 : Ext w w1 := by rw [e1]; exact (Ext.refl w).alloc _
  have N0 : NewR tri 83 3 w w1 (.slice (some ⟨w.heap.size, 0, none⟩) 0 0) [] := ⟨by rw [e1]; exact Own.made _ _ _ w, fun k hk => by simp only [Value.ownBlock, Option.some.injEq] at hk; omega, X1⟩
  obtain ⟨v', w', r, N, _⟩ := N0.put elemsR encT 84 (.slice (some ⟨g, 0, none⟩) n cap) l (hs.ext X1).row (by simp; omega)
  rw [List.nil_append] at N
  have T := hid N
  obtain ⟨ao, c, ev, k1, k2, kk⟩ := hs.view encT
  clear kk
  obtain ⟨a', c', e', kk⟩ := N.slice
  clear kk
  obtain ⟨Y, eY⟩ : ∃ Y, Y = l.length := ⟨_, rfl⟩
  rw [← eY] at e'
  subst e'
  simp only [Value.slice.injEq] at ev
  have R := hid r
  have E1 := hid e1
  obtain ⟨rfl, en, rfl⟩ := ev
  have n1 : n ≤ cap := by omega
  unfold maxLen at k2
  clear hs N X1 N0 r e1 k1 en eY
  have hn := Lib.run_eql_slice_some_nil (P := Try.prog) w ⟨g, 0, none⟩ n cap Try.underlying84
  go_enter Try.func46, Try.ntmps46
  go_wp2_with (at_builtin; rw [← E1.out]; refine wpList_append_run _ rfl (.tmp 5) (.tmp 6) 84 84 rfl _ _ rfl rfl _ _ R.out ?_)
  go_ret
  exact ⟨_, rfl, T.out⟩

/-- a copy of a group in new memory -/
theorem copy_grp {w W : World} {b g cap n : Nat} {j lv : Int} {l : List Tri} {v : Value} (h : Grp w b g cap n j lv l) (N : NewR tri 83 3 w W v (rcs j lv l n)) :
    ∃ g' c', v = .slice (some ⟨g', 0, none⟩) n c' ∧ Grp (W.alloc (.cells #[.int .i64 j, .int .i64 lv, .slice (some ⟨g', 0, none⟩) n c'] 86)) W.heap.size g' c' n j lv l ∧ w.heap.size ≤ W.heap.size ∧ w.heap.size ≤ g' ∧ Ext w (W.alloc (.cells #[.int .i64 j, .int .i64 lv, .slice (some ⟨g', 0, none⟩) n c'] 86)) := by
  rcases N.1.at with ⟨_, e⟩ | ⟨g', c', L, ev, _⟩
  · have := congrArg List.length e
    rw [rcs_length] at this
    have := h.1.1
    simp at *
    omega
  · rw [rcs_length] at ev
    subst ev
    exact ⟨g', c', rfl, ⟨h.1, heap_alloc_new W _, N.1.ext ((Ext.refl W).alloc _)⟩, N.2.2.size, N.2.1 g' rfl, N.2.2.alloc _⟩

set_option maxHeartbeats 2000000 in
theorem copy_any (b g cap n : Nat) (j lv : Int) (l : List Tri) (w : World) (h : Grp w b g cap n j lv l) :
    Calls Try.prog 27 #[.pointer (some ⟨b, 0, none⟩)] w fun e w' => ∃ c g' cap', e = .returned (.pointer (some ⟨c, 0, none⟩)) ∧ Grp w' c g' cap' n j lv l ∧ w.heap.size ≤ c ∧ w.heap.size ≤ g' ∧ Ext w w' := by
  obtain ⟨c0, c1, c2⟩ := h.cells
  have HH := hid h
  have CL : Hid (Calls Try.prog 46 #[.slice (some ⟨g, 0, none⟩) n cap] w.drew fun e w' => ∃ v, e = .returned v ∧ NewR tri 83 3 w w' v (rcs j lv l n)) := by
    refine (clone_any w.drew g n cap (rcs j lv l n) (h.2.2.ext ((Ext.refl w).drewN 1)) (by rw [rcs_length]; have := h.1.2.1; omega)).mono ?_
    rintro e w' ⟨v, h1, h2⟩
    exact ⟨v, h1, h2.1, h2.2.1, (show Ext w w.drew from (Ext.refl w).drewN 1).trans h2.2.2⟩
  obtain ⟨r1, r2, _⟩ := h.rows
  unfold maxLen at r2
  clear h
  go_enter Try.func27, Try.ntmps27
  go_wp2_with fail
  refine wp_region_held_drew (S := fun V => Ext w V) (by kernel_rfl) (Below.drew (Ext.refl w)) (fun hHeld => ?_)
  refine takeE (v := ?_) 0 3 rfl rfl (by kernel_rfl) (by kernel_rfl) (by kernel_rfl) (fun _ _ _ h => h) (Or.inl ⟨by rfl, fun V hV => ?_⟩) hHeld ?_
  rotate_left
  · (go_simp; try with_reducible rfl)
  simp only [Act.put, List.setIfInBounds_toArray, List.set_cons_zero, List.set_cons_succ]
  refine takeE (v := ?_) 1 4 rfl rfl (by kernel_rfl) (by kernel_rfl) (by kernel_rfl) (fun _ _ _ h => h) (Or.inl ⟨by rfl, fun V hV => ?_⟩) hHeld ?_
  rotate_left
  · (go_simp; try with_reducible rfl)
  simp only [Act.put, List.setIfInBounds_toArray, List.set_cons_zero, List.set_cons_succ]
  refine takeE (v := ?_) 2 5 rfl rfl (by kernel_rfl) (by kernel_rfl) (by kernel_rfl) (fun _ _ _ h => h) (Or.inl ⟨by rfl, fun V hV => ?_⟩) hHeld ?_
  rotate_left
  · (go_simp; try with_reducible rfl)
  simp only [Act.put, List.setIfInBounds_toArray, List.set_cons_zero, List.set_cons_succ]
  refine takeE (v := ?_) 3 6 rfl rfl (by kernel_rfl) (by kernel_rfl) (by kernel_rfl) (fun _ _ _ h => h) (Or.inl ⟨by rfl, fun V hV => ?_⟩) hHeld ?_
  rotate_left
  · (have y0 := hV.cell c0; have y1 := hV.cell c1; have y2 := hV.cell c2; go_simp; try with_reducible rfl)
  simp only [Act.put, List.setIfInBounds_toArray, List.set_cons_zero, List.set_cons_succ]
  refine takeE (v := ?_) 4 7 rfl rfl (by kernel_rfl) (by kernel_rfl) (by kernel_rfl) (fun _ _ _ h => h) (Or.inl ⟨by rfl, fun V hV => ?_⟩) hHeld ?_
  rotate_left
  · (go_simp; try with_reducible rfl)
  simp only [Act.put, List.setIfInBounds_toArray, List.set_cons_zero, List.set_cons_succ]
  refine takeE (v := ?_) 5 8 rfl rfl (by kernel_rfl) (by kernel_rfl) (by kernel_rfl) (fun _ _ _ h => h) (Or.inl ⟨by rfl, fun V hV => ?_⟩) hHeld ?_
  rotate_left
  · (go_simp; try with_reducible rfl)
  simp only [Act.put, List.setIfInBounds_toArray, List.set_cons_zero, List.set_cons_succ]
  refine takeE (v := ?_) 6 9 rfl rfl (by kernel_rfl) (by kernel_rfl) (by kernel_rfl) (fun _ _ _ h => h) (Or.inl ⟨by rfl, fun V hV => ?_⟩) hHeld ?_
  rotate_left
  · (go_simp; try with_reducible rfl)
  simp only [Act.put, List.setIfInBounds_toArray, List.set_cons_zero, List.set_cons_succ]
  refine takeE (v := ?_) 7 10 rfl rfl (by kernel_rfl) (by kernel_rfl) (by kernel_rfl) (fun _ _ _ h => h) (Or.inl ⟨by rfl, fun V hV => ?_⟩) hHeld ?_
  rotate_left
  · (have y0 := hV.cell c0; have y1 := hV.cell c1; have y2 := hV.cell c2; go_simp; try with_reducible rfl)
  simp only [Act.put, List.setIfInBounds_toArray, List.set_cons_zero, List.set_cons_succ]
  refine takeE (v := ?_) 8 11 rfl rfl (by kernel_rfl) (by kernel_rfl) (by kernel_rfl) (fun _ _ _ h => h) (Or.inl ⟨by rfl, fun V hV => ?_⟩) hHeld ?_
  rotate_left
  · (go_simp; try with_reducible rfl)
  simp only [Act.put, List.setIfInBounds_toArray, List.set_cons_zero, List.set_cons_succ]
  refine takeE (v := ?_) 9 12 rfl rfl (by kernel_rfl) (by kernel_rfl) (by kernel_rfl) (fun _ _ _ h => h) (Or.inl ⟨by rfl, fun V hV => ?_⟩) hHeld ?_
  rotate_left
  · (go_simp; try with_reducible rfl)
  simp only [Act.put, List.setIfInBounds_toArray, List.set_cons_zero, List.set_cons_succ]
  refine takeE (v := ?_) 10 13 rfl rfl (by kernel_rfl) (by kernel_rfl) (by kernel_rfl) (fun _ _ _ h => h) (Or.inl ⟨by rfl, fun V hV => ?_⟩) hHeld ?_
  rotate_left
  · (go_simp; try with_reducible rfl)
  simp only [Act.put, List.setIfInBounds_toArray, List.set_cons_zero, List.set_cons_succ]
  refine takeE (v := ?_) 11 14 rfl rfl (by kernel_rfl) (by kernel_rfl) (by kernel_rfl) (fun _ _ _ h => h) (Or.inl ⟨by rfl, fun V hV => ?_⟩) hHeld ?_
  rotate_left
  · (have y0 := hV.cell c0; have y1 := hV.cell c1; have y2 := hV.cell c2; go_simp; try with_reducible rfl)
  simp only [Act.put, List.setIfInBounds_toArray, List.set_cons_zero, List.set_cons_succ]
  refine callE 12 15 rfl rfl (by kernel_rfl) (by rfl) (by go_simp; first | exact ⟨rfl, rfl⟩ | rfl) ?_
  refine CL.out.mono ?_
  rintro e W2 ⟨v', rfl, N⟩
  obtain ⟨g', cap', rfl, F⟩ := copy_grp HH.out N
  have FF := hid F
  have X3 := N.2.2
  clear N F CL
  refine ⟨_, rfl, X3, ?_⟩
  simp only [Act.put, List.setIfInBounds_toArray, List.set_cons_zero, List.set_cons_succ]
  refine takeE (v := ?_) 13 16 rfl rfl (by kernel_rfl) (by kernel_rfl) (by kernel_rfl) (fun _ _ _ h => h) (Or.inl ⟨by rfl, fun V hV => ?_⟩) X3 ?_
  rotate_left
  · (go_simp; try with_reducible rfl)
  simp only [Act.put, List.setIfInBounds_toArray, List.set_cons_zero, List.set_cons_succ]
  refine knownE 14 17 rfl rfl (by kernel_rfl) (by rfl) (w' := W2.alloc (.cells #[.int .i64 j, .int .i64 lv, .slice (some ⟨g', 0, none⟩) n cap'] 86)) (v := .pointer (some ⟨W2.heap.size, 0, none⟩)) (by go_simp; try with_reducible rfl) (X3.alloc _) ?_
  simp only [Act.put, List.setIfInBounds_toArray, List.set_cons_zero, List.set_cons_succ]
  refine takeE (v := ?_) 15 2 rfl rfl (by kernel_rfl) (by kernel_rfl) (by kernel_rfl) (fun _ _ _ h => h) (Or.inl ⟨by rfl, fun V hV => ?_⟩) (X3.alloc _) ?_
  rotate_left
  · (go_simp; try with_reducible rfl)
  simp only [Act.put, List.setIfInBounds_toArray, List.set_cons_zero, List.set_cons_succ]
  refine wpAnyH_done (by kernel_rfl) ?_ _
  go_wp2_with fail
  go_ret
  exact ⟨_, g', cap', rfl, FF.out⟩
end Go.Proofs.Ytjmgigfaiaemeaa.Grp

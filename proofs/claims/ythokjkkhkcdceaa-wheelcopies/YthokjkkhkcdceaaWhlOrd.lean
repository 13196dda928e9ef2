/-
  Walks of cmp.Compare, cmp.Or, order, within, and the closure of find.
-/
import Derived.Test.YthokjkkhkcdceaaWhlIns
import Derived.Test.YthokjkkhkcdceaaEverMore
import Derived.Test.YthokjkkhkcdceaaWhlShelf
import Derived.Deep.RegionWith
namespace Go.Proofs.Ythokjkkhkcdceaa
set_option linter.unusedVariables false
set_option maxRecDepth 100000
open Go.RowKit Go.Lib Go.Sort

def cmp3 (a b : Int) : Int := if a < b then -1 else if b < a then 1 else 0
def ord (p q : Int × Int) : Int := if cmp3 p.2 q.2 ≠ 0 then cmp3 p.2 q.2 else cmp3 p.1 q.1
theorem ord_lt (p q : Int × Int) : ord p q < 0 ↔ blt p q := by
  unfold ord cmp3 blt
  repeat' split
  all_goals omega
theorem ord_eq (p q : Int × Int) : ord p q = 0 ↔ p = q := by
  unfold ord cmp3
  rcases p with ⟨a, b⟩
  rcases q with ⟨c, d⟩
  simp only [Prod.mk.injEq]
  repeat' split
  all_goals omega

theorem isNaN_any (a : Int) (w : World) : Calls Try.prog 58 #[.int .i64 a] w fun e w' => e = .returned (.bool false) ∧ w' = w := by
  go_enter Try.func58, Try.ntmps58
  go_wp2
  go_ret
  exact ⟨rfl, rfl⟩
theorem compare_any (a b : Int) (w : World) : Calls Try.prog 45 #[.int .i64 a, .int .i64 b] w fun e w' => e = .returned (.int .i64 (cmp3 a b)) ∧ w' = w := by
  have C := fun x W => isNaN_any x W
  by_cases h : a < b
  · have e : cmp3 a b = -1 := by unfold cmp3; rw [if_pos h]
    rw [e]
    clear e
    go_enter Try.func45, Try.ntmps45
    go_wp2_with (go_at_call 58; refine (C _ _).mono ?_; rintro e w' ⟨rfl, rfl⟩)
    go_ret
    exact ⟨rfl, rfl⟩
  · by_cases k : b < a
    · have e : cmp3 a b = 1 := by unfold cmp3; rw [if_neg h, if_pos k]
      rw [e]
      clear e
      go_enter Try.func45, Try.ntmps45
      go_wp2_with (go_at_call 58; refine (C _ _).mono ?_; rintro e w' ⟨rfl, rfl⟩)
      go_ret
      exact ⟨rfl, rfl⟩
    · have e : cmp3 a b = 0 := by unfold cmp3; rw [if_neg h, if_neg k]
      rw [e]
      clear e
      go_enter Try.func45, Try.ntmps45
      go_wp2_with (go_at_call 58; refine (C _ _).mono ?_; rintro e w' ⟨rfl, rfl⟩)
      go_ret
      exact ⟨rfl, rfl⟩

set_option maxHeartbeats 1000000 in
theorem or_any (a b : Int) (g : Nat) (w : World) (c1 : w.cell? ⟨g, 0, none⟩ = some (.int .i64 a)) (c2 : w.cell? ⟨g, 1, none⟩ = some (.int .i64 b)) :
    Calls Try.prog 44 #[.slice (some ⟨g, 0, none⟩) 2 2] w fun e w' => e = .returned (.int .i64 (if a ≠ 0 then a else b)) ∧ w' = w := by
  by_cases h : a = 0
  · subst h
    by_cases k : b = 0
    · subst k
      go_enter Try.func44, Try.ntmps44
      go_wp2
      go_loopw [5, 8] (fun _ i wr => wr = w ∧ ∃ n : Nat, n ≤ 2 ∧ i = .int .i64 (n : Int)) (fun _ i _ => (2 - intOf i).toNat)
      case atStart => exact ⟨rfl, 0, by omega, rfl⟩
      case round =>
        obtain ⟨rfl, n, hn, rfl⟩ := hrel
        rcases (show n = 0 ∨ n = 1 ∨ n = 2 by omega) with rfl | rfl | rfl
        · go_wp2
          go_roundw
          case rel => exact ⟨trivial, 1, by omega, by go_num⟩
          case measure => simp [intOf]
        · go_wp2
          go_roundw
          case rel => exact ⟨trivial, 2, by omega, by go_num⟩
          case measure => simp [intOf]
        · go_wp2
          go_ret
          exact ⟨rfl, rfl⟩
    · go_enter Try.func44, Try.ntmps44
      go_wp2
      go_loopw [5, 8] (fun _ i wr => wr = w ∧ ∃ n : Nat, n ≤ 1 ∧ i = .int .i64 (n : Int)) (fun _ i _ => (2 - intOf i).toNat)
      case atStart => exact ⟨rfl, 0, by omega, rfl⟩
      case round =>
        obtain ⟨rfl, n, hn, rfl⟩ := hrel
        rcases (show n = 0 ∨ n = 1 by omega) with rfl | rfl
        · go_wp2
          go_roundw
          case rel => exact ⟨trivial, 1, by omega, by go_num⟩
          case measure => simp [intOf]
        · go_wp2
          go_ret
          exact ⟨rfl, rfl⟩
  · rw [if_pos h]
    go_enter Try.func44, Try.ntmps44
    go_wp2
    go_loopw [5, 8] (fun _ i wr => wr = w ∧ i = .int .i64 0) (fun _ i _ => (2 - intOf i).toNat)
    case atStart => exact ⟨rfl, rfl⟩
    case round =>
      obtain ⟨rfl, rfl⟩ := hrel
      go_wp2
      go_ret
      exact ⟨rfl, rfl⟩

theorem within_any (t : Int) (w : World) : Calls Try.prog 29 #[.int .i64 t] w fun e w' => e = .returned (.bool (decide (0 ≤ t ∧ t ≤ 2199023255552))) ∧ w' = w := by
  by_cases h1 : 0 ≤ t
  · by_cases h2 : t ≤ 2199023255552
    · rw [show decide (0 ≤ t ∧ t ≤ 2199023255552) = true by simp [h1, h2]]
      go_enter Try.func29, Try.ntmps29
      go_wp2
      go_ret
      exact ⟨rfl, rfl⟩
    · rw [show decide (0 ≤ t ∧ t ≤ 2199023255552) = false by simp [h2]]
      go_enter Try.func29, Try.ntmps29
      go_wp2
      go_ret
      exact ⟨rfl, rfl⟩
  · rw [show decide (0 ≤ t ∧ t ≤ 2199023255552) = false by simp [h1]]
    go_enter Try.func29, Try.ntmps29
    go_wp2
    go_ret
    exact ⟨rfl, rfl⟩

theorem isid_any (a b id : Int) (g : Nat) (w : World) (hg : g < w.heap.size) (hc : w.cell? ⟨g, 0, none⟩ = some (.int .i64 id)) :
    Calls Try.prog 37 #[.agg #[.int .i64 a, .int .i64 b], .pointer (some ⟨g, 0, none⟩)] w fun e w' => e = .returned (.bool (decide (a = id))) ∧ Ext w w' := by
  have hne : g ≠ w.heap.size := by omega
  have X : Hid (Ext w (w.alloc (.cells #[.int .i64 a, .int .i64 b] 60))) := (Ext.refl w).alloc _
  by_cases h : a = id
  · subst h
    go_enter Try.func37, Try.ntmps37
    go_wp2
    go_ret
    exact ⟨by simp, X.out⟩
  · go_enter Try.func37, Try.ntmps37
    go_wp2
    go_ret
    exact ⟨by simp [h], X.out⟩

set_option maxHeartbeats 2000000 in
/-- order makes memory and tells a number -/
theorem order_any (a b c d : Int) (w : World) :
    Calls Try.prog 35 #[.agg #[.int .i64 a, .int .i64 b], .agg #[.int .i64 c, .int .i64 d]] w fun e w' => e = .returned (.int .i64 (ord (a, b) (c, d))) ∧ ∃ q os', w' = grow (w.drewN q) os' := by
  have C := fun W => compare_any b d W
  have D := fun W => compare_any a c W
  have R : ∀ o1 o2 o3, Hid (∃ q' os', (((w.alloc o1).alloc o2).drew).alloc o3 = grow (w.drewN q') os') := fun o1 o2 o3 => ⟨1, #[o1, o2, o3], by rw [show #[o1, o2, o3] = #[o1] ++ #[o2] ++ #[o3] from rfl, ← grow_grow, ← grow_grow, alloc_eq_grow, alloc_eq_grow, alloc_eq_grow]; rfl⟩
  have F : ord (a, b) (c, d) = if cmp3 b d ≠ 0 then cmp3 b d else cmp3 a c := rfl
  rw [F]
  clear F
  generalize cmp3 b d = X at *
  generalize cmp3 a c = Y at *
  obtain ⟨Z, eZ⟩ : ∃ Z, Z = (if X ≠ 0 then X else Y) := ⟨_, rfl⟩
  have E : ∀ g W, W.cell? ⟨g, 0, none⟩ = some (.int .i64 X) → W.cell? ⟨g, 1, none⟩ = some (.int .i64 Y) → Calls Try.prog 44 #[.slice (some ⟨g, 0, none⟩) 2 2] W fun e w' => e = .returned (.int .i64 Z) ∧ w' = W := fun g W h1 h2 => by rw [eZ]; exact or_any X Y g W h1 h2
  rw [← eZ]
  clear eZ
  have A1 : ∀ V, Ext ((w.alloc (.cells #[.int .i64 a, .int .i64 b] 60)).alloc (.cells #[.int .i64 c, .int .i64 d] 60)) V → V.cell? ⟨w.heap.size, 0, none⟩ = some (.int .i64 a) ∧ V.cell? ⟨w.heap.size, 1, none⟩ = some (.int .i64 b) ∧ V.cell? ⟨w.heap.size + 1, 0, none⟩ = some (.int .i64 c) ∧ V.cell? ⟨w.heap.size + 1, 1, none⟩ = some (.int .i64 d) := fun V h =>
    ⟨h.cell (by rw [cell_of_row _ _ 0 _ _ _ (heap_alloc2_old w _ _)]; rfl), h.cell (by rw [cell_of_row _ _ 1 _ _ _ (heap_alloc2_old w _ _)]; rfl), h.cell (by rw [cell_of_row _ _ 0 _ _ _ (heap_alloc2_new w _ _)]; rfl), h.cell (by rw [cell_of_row _ _ 1 _ _ _ (heap_alloc2_new w _ _)]; rfl)⟩
  have NN : ∀ (W : World) (o : Obj), W.heap.size = w.heap.size + 2 → (W.alloc o).heap[w.heap.size + 2]? = some o := fun W o h => by rw [← h]; exact heap_alloc_new W o
  have AA := hid A1
  clear A1
  go_enter Try.func35, Try.ntmps35
  go_wp2
  refine wp_region_held_drew (S := fun V => Ext ((w.alloc (.cells #[.int .i64 a, .int .i64 b] 60)).alloc (.cells #[.int .i64 c, .int .i64 d] 60)) V) (by kernel_rfl) (Below.drew (Ext.refl _)) (fun hHeld => ?_)
  refine takeE (v := ?_) 0 5 rfl rfl (by kernel_rfl) (by kernel_rfl) (by kernel_rfl) (fun _ _ _ h => h) (Or.inl ⟨by rfl, fun V hV => ?_⟩) hHeld ?_
  rotate_left
  · (obtain ⟨c1, c2, c3, c4⟩ := AA.out V hV; go_simp; try with_reducible rfl)
  simp only [Act.put, List.setIfInBounds_toArray, List.set_cons_zero, List.set_cons_succ]
  refine takeE (v := ?_) 1 6 rfl rfl (by kernel_rfl) (by kernel_rfl) (by kernel_rfl) (fun _ _ _ h => h) (Or.inl ⟨by rfl, fun V hV => ?_⟩) hHeld ?_
  rotate_left
  · (obtain ⟨c1, c2, c3, c4⟩ := AA.out V hV; go_simp; try with_reducible rfl)
  simp only [Act.put, List.setIfInBounds_toArray, List.set_cons_zero, List.set_cons_succ]
  refine takeE (v := ?_) 2 7 rfl rfl (by kernel_rfl) (by kernel_rfl) (by kernel_rfl) (fun _ _ _ h => h) (Or.inl ⟨by rfl, fun V hV => ?_⟩) hHeld ?_
  rotate_left
  · (obtain ⟨c1, c2, c3, c4⟩ := AA.out V hV; go_simp; try with_reducible rfl)
  simp only [Act.put, List.setIfInBounds_toArray, List.set_cons_zero, List.set_cons_succ]
  refine takeE (v := ?_) 3 8 rfl rfl (by kernel_rfl) (by kernel_rfl) (by kernel_rfl) (fun _ _ _ h => h) (Or.inl ⟨by rfl, fun V hV => ?_⟩) hHeld ?_
  rotate_left
  · (obtain ⟨c1, c2, c3, c4⟩ := AA.out V hV; go_simp; try with_reducible rfl)
  simp only [Act.put, List.setIfInBounds_toArray, List.set_cons_zero, List.set_cons_succ]
  refine takeE (v := ?_) 5 10 rfl rfl (by kernel_rfl) (by kernel_rfl) (by kernel_rfl) (fun _ _ _ h => h) (Or.inl ⟨by rfl, fun V hV => ?_⟩) hHeld ?_
  rotate_left
  · (obtain ⟨c1, c2, c3, c4⟩ := AA.out V hV; go_simp; try with_reducible rfl)
  simp only [Act.put, List.setIfInBounds_toArray, List.set_cons_zero, List.set_cons_succ]
  refine takeE (v := ?_) 6 11 rfl rfl (by kernel_rfl) (by kernel_rfl) (by kernel_rfl) (fun _ _ _ h => h) (Or.inl ⟨by rfl, fun V hV => ?_⟩) hHeld ?_
  rotate_left
  · (obtain ⟨c1, c2, c3, c4⟩ := AA.out V hV; go_simp; try with_reducible rfl)
  simp only [Act.put, List.setIfInBounds_toArray, List.set_cons_zero, List.set_cons_succ]
  refine takeE (v := ?_) 7 12 rfl rfl (by kernel_rfl) (by kernel_rfl) (by kernel_rfl) (fun _ _ _ h => h) (Or.inl ⟨by rfl, fun V hV => ?_⟩) hHeld ?_
  rotate_left
  · (obtain ⟨c1, c2, c3, c4⟩ := AA.out V hV; go_simp; try with_reducible rfl)
  simp only [Act.put, List.setIfInBounds_toArray, List.set_cons_zero, List.set_cons_succ]
  refine takeE (v := ?_) 8 13 rfl rfl (by kernel_rfl) (by kernel_rfl) (by kernel_rfl) (fun _ _ _ h => h) (Or.inl ⟨by rfl, fun V hV => ?_⟩) hHeld ?_
  rotate_left
  · (obtain ⟨c1, c2, c3, c4⟩ := AA.out V hV; go_simp; try with_reducible rfl)
  simp only [Act.put, List.setIfInBounds_toArray, List.set_cons_zero, List.set_cons_succ]
  refine callE 4 9 rfl rfl (by kernel_rfl) (by rfl) (by go_simp; first | exact ⟨rfl, rfl⟩ | rfl) ?_
  refine (C _).mono ?_
  rintro e w' ⟨rfl, rfl⟩
  refine ⟨_, rfl, hHeld, ?_⟩
  simp only [Act.put, List.setIfInBounds_toArray, List.set_cons_zero, List.set_cons_succ]
  refine callE 9 14 rfl rfl (by kernel_rfl) (by rfl) (by go_simp; first | exact ⟨rfl, rfl⟩ | rfl) ?_
  refine (D _).mono ?_
  rintro e w' ⟨rfl, rfl⟩
  refine ⟨_, rfl, hHeld, ?_⟩
  simp only [Act.put, List.setIfInBounds_toArray, List.set_cons_zero, List.set_cons_succ]
  refine knownE 10 15 rfl rfl (by kernel_rfl) (by rfl) (w' := (((w.alloc (.cells #[.int .i64 a, .int .i64 b] 60)).alloc (.cells #[.int .i64 c, .int .i64 d] 60)).drew).alloc (.cells #[.int .i64 X, .int .i64 Y] 3)) (v := .slice (some ⟨w.heap.size + 2, 0, none⟩) 2 2) (by go_simp) (hHeld.alloc _) ?_
  have hH2 := hHeld.alloc (.cells #[.int .i64 X, .int .i64 Y] 3)
  replace hHeld := hH2
  clear hH2
  simp only [Act.put, List.setIfInBounds_toArray, List.set_cons_zero, List.set_cons_succ]
  refine callE 11 16 rfl rfl (by kernel_rfl) (by rfl) (by go_simp; first | exact ⟨rfl, rfl⟩ | rfl) ?_
  refine (E _ _ (by rw [cell_of_row _ _ 0 _ _ _ (NN _ _ (by simp))]; rfl) (by rw [cell_of_row _ _ 1 _ _ _ (NN _ _ (by simp))]; rfl)).mono ?_
  rintro e w' ⟨rfl, rfl⟩
  refine ⟨_, rfl, hHeld, ?_⟩
  simp only [Act.put, List.setIfInBounds_toArray, List.set_cons_zero, List.set_cons_succ]
  refine takeE (v := ?_) 12 4 rfl rfl (by kernel_rfl) (by kernel_rfl) (by kernel_rfl) (fun _ _ _ h => h) (Or.inl ⟨by rfl, fun V hV => ?_⟩) hHeld ?_
  rotate_left
  · (go_simp; try with_reducible rfl)
  simp only [Act.put, List.setIfInBounds_toArray, List.set_cons_zero, List.set_cons_succ]
  refine wpAnyH_done (by kernel_rfl) ?_ _
  go_wp2
  go_ret
  exact ⟨rfl, (R _ _ _).out⟩
end Go.Proofs.Ythokjkkhkcdceaa

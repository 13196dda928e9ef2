/-
  A group in memory; walks of isDelay, isLevel, isTick, has, comes, levelAt, Level, Asked, Count.
-/
import Derived.Test.YtjmgigfaiaemeaaMCore
import Derived.Test.YtjmgigfaiaemeaaMMath
import Derived.Deep.QuietTactic
import Derived.BigQuiet
namespace Go.Proofs.Ytjmgigfaiaemeaa.Grp
set_option linter.unusedVariables false
set_option maxRecDepth 100000
open Go.RowKit Go.Lib

theorem ret_int {k : IntKind} {a b : Int} (h : a = b) : Ending.returned (.int k a) = .returned (.int k b) := by rw [h]

/-- three numbers as they lie in cells -/
def tri (x : Tri) : List Value := [.int .i64 x.1, .int .i64 x.2.1, .int .i64 x.2.2]
theorem encT : Enc tri 3 := ⟨by decide, fun _ => rfl, fun x u h => by
  simp only [tri, List.mem_cons, List.not_mem_nil, or_false] at h
  rcases h with rfl | rfl | rfl <;> rfl⟩

theorem elemsR : Elems 84 83 3 24 (.agg #[.int .i64 0, .int .i64 0, .int .i64 0]) := ⟨Try.underlying84, by kernel_rfl, rfl, by decide⟩
theorem elemsA : Elems 36 72 3 24 (.agg #[.int .i64 0, .int .i64 0, .int .i64 0]) := ⟨Try.underlying36, by kernel_rfl, rfl, by decide⟩

/-- a group of n with these delays in block b, its receivers in block g, behind what was asked -/
def Grp (w : World) (b g cap n : Nat) (j lv : Int) (l : List Tri) : Prop :=
  (1 ≤ n ∧ n ≤ 64 ∧ 0 ≤ j ∧ j ≤ 64 ∧ 0 ≤ lv ∧ lv ≤ 64 ∧ Fit n l) ∧ w.heap[b]? = some (.cells #[.int .i64 j, .int .i64 lv, .slice (some ⟨g, 0, none⟩) n cap] 86 (0, 0)) ∧ Own tri 83 3 w (.slice (some ⟨g, 0, none⟩) n cap) (rcs j lv l n)
theorem Grp.kept {w w' : World} {b g cap n : Nat} {j lv : Int} {l : List Tri} (h : Grp w b g cap n j lv l) {K : Nat → Prop} (k : Kept K w w') (hb : K b) (hg : K g) : Grp w' b g cap n j lv l :=
  ⟨h.1, k.row hb h.2.1, h.2.2.kept k (fun q e => by simp only [Value.ownBlock, Option.some.injEq] at e; rw [← e]; exact hg)⟩
theorem Grp.ext {w w' : World} {b g cap n : Nat} {j lv : Int} {l : List Tri} (h : Grp w b g cap n j lv l) (e : Ext w w') : Grp w' b g cap n j lv l := h.kept (K := fun _ => True) (Kept.of_ext e) trivial trivial
theorem Grp.ne {w : World} {b g cap n : Nat} {j lv : Int} {l : List Tri} (h : Grp w b g cap n j lv l) : b ≠ g := by
  rintro rfl
  exact h.2.2.apart h.2.1 (by decide) rfl
theorem Grp.lt {w : World} {b g cap n : Nat} {j lv : Int} {l : List Tri} (h : Grp w b g cap n j lv l) : b < w.heap.size ∧ g < w.heap.size := ⟨lt_of_row h.2.1, h.2.2.lt rfl⟩
theorem Grp.cells {w : World} {b g cap n : Nat} {j lv : Int} {l : List Tri} (h : Grp w b g cap n j lv l) : w.cell? ⟨b, 0, none⟩ = some (.int .i64 j) ∧ w.cell? ⟨b, 1, none⟩ = some (.int .i64 lv) ∧ w.cell? ⟨b, 2, none⟩ = some (.slice (some ⟨g, 0, none⟩) n cap) :=
  ⟨by rw [cell_of_row w b 0 _ _ _ h.2.1]; rfl, by rw [cell_of_row w b 1 _ _ _ h.2.1]; rfl, by rw [cell_of_row w b 2 _ _ _ h.2.1]; rfl⟩
theorem Grp.rows {w : World} {b g cap n : Nat} {j lv : Int} {l : List Tri} (h : Grp w b g cap n j lv l) : n ≤ cap ∧ cap ≤ maxLen ∧ ∀ i, i < n →
    w.cell? ⟨g, i * 3, none⟩ = some (.int .i64 (st j lv l i).1) ∧ w.cell? ⟨g, i * 3 + 1, none⟩ = some (.int .i64 (st j lv l i).2.1) ∧ w.cell? ⟨g, i * 3 + 2, none⟩ = some (.int .i64 (st j lv l i).2.2) := by
  obtain ⟨ao, c, e, h1, h2, h3⟩ := h.2.2.view encT
  rw [rcs_length] at e h1
  simp only [Value.slice.injEq] at e
  obtain ⟨rfl, _, rfl⟩ := e
  refine ⟨h1, h2, fun i hi => ?_⟩
  obtain ⟨g', e, hc⟩ := h3 i _ (rcs_at j lv l n i hi)
  simp only [Option.some.injEq, Addr.mk.injEq, and_true] at e
  subst e
  exact ⟨hc 0 _ rfl, hc 1 _ rfl, hc 2 _ rfl⟩

theorem isDelay_any (a : Int) (w : World) : Calls Try.prog 38 #[.int .i64 a] w fun e w' => e = .returned (.bool (decide (0 ≤ a) && decide (a ≤ 64))) ∧ w' = w := by
  by_cases h : 0 ≤ a
  · go_enter Try.func38, Try.ntmps38
    go_wp2
    go_ret
    exact ⟨by simp [h], rfl⟩
  · go_enter Try.func38, Try.ntmps38
    go_wp2
    go_ret
    exact ⟨by simp; omega, rfl⟩
theorem isLevel_any (a : Int) (w : World) : Calls Try.prog 29 #[.int .i64 a] w fun e w' => e = .returned (.bool (decide (-1 ≤ a) && decide (a < 8))) ∧ w' = w := by
  by_cases h : -1 ≤ a
  · go_enter Try.func29, Try.ntmps29
    go_wp2
    go_ret
    exact ⟨by simp [h], rfl⟩
  · go_enter Try.func29, Try.ntmps29
    go_wp2
    go_ret
    exact ⟨by simp; omega, rfl⟩
theorem isTick_any (a : Int) (w : World) : Calls Try.prog 30 #[.int .i64 a] w fun e w' => e = .returned (.bool (decide (0 ≤ a) && decide (a ≤ 1099511627776))) ∧ w' = w := by
  by_cases h : 0 ≤ a
  · go_enter Try.func30, Try.ntmps30
    go_wp2
    go_ret
    exact ⟨by simp [h], rfl⟩
  · go_enter Try.func30, Try.ntmps30
    go_wp2
    go_ret
    exact ⟨by simp; omega, rfl⟩
theorem has_any (b n cap : Nat) (ao : Option Addr) (r : Int) (w : World) (h : w.cell? ⟨b, 2, none⟩ = some (.slice ao n cap)) :
    Calls Try.prog 28 #[.pointer (some ⟨b, 0, none⟩), .int .i64 r] w fun e w' => e = .returned (.bool (decide (0 ≤ r) && decide (r < n))) ∧ w' = w := by
  by_cases h0 : 0 ≤ r
  · go_enter Try.func28, Try.ntmps28
    go_wp2
    go_ret
    exact ⟨by simp [h0], rfl⟩
  · go_enter Try.func28, Try.ntmps28
    go_wp2
    go_ret
    exact ⟨by simp; omega, rfl⟩

theorem comes_any (b : Nat) (j lv : Int) (x : Tri) (w : World) (hj : 0 ≤ j ∧ j ≤ 64) (hl : 0 ≤ lv ∧ lv ≤ 64) (hx : rfit x) (h0 : w.cell? ⟨b, 0, none⟩ = some (.int .i64 j)) (h1 : w.cell? ⟨b, 1, none⟩ = some (.int .i64 lv)) :
    Calls Try.prog 47 #[.pointer (some ⟨b, 0, none⟩), .agg #[.int .i64 x.1, .int .i64 x.2.1, .int .i64 x.2.2]] w fun e w' => e = .returned (.int .i64 (cm j lv x)) ∧ Ext w w' := by
  obtain ⟨t, lev, asked⟩ := x
  obtain ⟨x1, x2, x3, x4, x5, x6⟩ := hx
  simp only at x1 x2 x3 x4 x5 x6 ⊢
  obtain ⟨W, eW⟩ : ∃ W, W = w.alloc (.cells #[.int .i64 t, .int .i64 lev, .int .i64 asked] 83) := ⟨_, rfl⟩
  have X : Ext w W := by rw [eW]; exact (Ext.refl w).alloc _
  have XX := hid X
  have EW := hid eW
  have b0 := heap_alloc_new w (.cells #[.int .i64 t, .int .i64 lev, .int .i64 asked] 83)
  rw [← eW] at b0
  have c0 : W.cell? ⟨w.heap.size, 0, none⟩ = some (.int .i64 t) := by rw [cell_of_row _ _ 0 _ _ _ b0]; rfl
  have c1 : W.cell? ⟨w.heap.size, 1, none⟩ = some (.int .i64 lev) := by rw [cell_of_row _ _ 1 _ _ _ b0]; rfl
  have c2 : W.cell? ⟨w.heap.size, 2, none⟩ = some (.int .i64 asked) := by rw [cell_of_row _ _ 2 _ _ _ b0]; rfl
  have d0 := X.cell h0
  have d1 := X.cell h1
  rw [eW] at c0 c1 c2 d0 d1
  have wj : IntKind.i64.wrap (t + j) = t + j := IntWalk.i64_in _ (by omega)
  have wl : IntKind.i64.wrap (t + lv) = t + lv := IntWalk.i64_in _ (by omega)
  by_cases h : lev < asked
  · have ec : cm j lv (t, lev, asked) = t + j := by unfold cm; rw [if_pos h]
    rw [ec]
    clear h0 h1 X eW b0 ec
    go_enter Try.func47, Try.ntmps47
    go_wp2_with fail
    go_quiet (fail)
    go_wp2_with fail
    go_ret
    exact ⟨rfl, by rw [← EW.out]; exact XX.out.drewN _⟩
  · have ec : cm j lv (t, lev, asked) = t + lv := by unfold cm; rw [if_neg h]
    rw [ec]
    clear h0 h1 X eW b0 ec
    go_enter Try.func47, Try.ntmps47
    go_wp2_with fail
    go_quiet (fail)
    go_wp2_with fail
    go_ret
    exact ⟨rfl, by rw [← EW.out]; exact XX.out.drewN _⟩

set_option maxHeartbeats 1000000 in
theorem levelAt_any (b : Nat) (j lv : Int) (x : Tri) (now : Int) (w : World) (hj : 0 ≤ j ∧ j ≤ 64) (hl : 0 ≤ lv ∧ lv ≤ 64) (hx : rfit x) (h0 : w.cell? ⟨b, 0, none⟩ = some (.int .i64 j)) (h1 : w.cell? ⟨b, 1, none⟩ = some (.int .i64 lv)) :
    Calls Try.prog 31 #[.pointer (some ⟨b, 0, none⟩), .agg #[.int .i64 x.1, .int .i64 x.2.1, .int .i64 x.2.2], .int .i64 now] w fun e w' => e = .returned (.int .i64 (lat j lv x now)) ∧ Ext w w' := by
  obtain ⟨W, eW⟩ : ∃ W, W = w.alloc (.cells #[.int .i64 x.1, .int .i64 x.2.1, .int .i64 x.2.2] 83) := ⟨_, rfl⟩
  have X : Ext w W := by rw [eW]; exact (Ext.refl w).alloc _
  have XX := hid X
  have EW := hid eW
  have b0 := heap_alloc_new w (.cells #[.int .i64 x.1, .int .i64 x.2.1, .int .i64 x.2.2] 83)
  rw [← eW] at b0
  have B0 := hid b0
  have C := hid (comes_any b j lv x W hj hl hx (X.cell h0) (X.cell h1))
  have L : Hid (lat j lv x now = if now < cm j lv x then x.2.1 else x.2.2) := rfl
  generalize lat j lv x now = y at *
  generalize cm j lv x = d at *
  obtain ⟨t, lev, asked⟩ := x
  simp only at *
  have c0 : W.cell? ⟨w.heap.size, 0, none⟩ = some (.int .i64 t) := by rw [cell_of_row _ _ 0 _ _ _ b0]; rfl
  have c1 : W.cell? ⟨w.heap.size, 1, none⟩ = some (.int .i64 lev) := by rw [cell_of_row _ _ 1 _ _ _ b0]; rfl
  have c2 : W.cell? ⟨w.heap.size, 2, none⟩ = some (.int .i64 asked) := by rw [cell_of_row _ _ 2 _ _ _ b0]; rfl
  have G1 : Hid (∀ V, Ext W V → V.cell? ⟨w.heap.size, 1, none⟩ = some (.int .i64 lev) ∧ V.cell? ⟨w.heap.size, 2, none⟩ = some (.int .i64 asked)) := fun V hV => ⟨hV.cell c1, hV.cell c2⟩
  rw [eW] at c0 c1 c2
  clear h0 h1 X eW b0 hj hl hx
  by_cases h : now < d
  · have ey : y = lev := by rw [L.out, if_pos h]
    subst ey
    go_enter Try.func31, Try.ntmps31
    go_wp2_with fail
    rw [← EW.out]
    refine C.out.mono ?_
    rintro e w1 ⟨rfl, x1⟩
    obtain ⟨g1, g2⟩ := G1.out w1 x1
    have X1 := hid (XX.out.trans x1)
    clear C x1 c0 c1 c2
    go_wp2_with fail
    go_ret
    exact ⟨rfl, X1.out⟩
  · have ey : y = asked := by rw [L.out, if_neg h]
    subst ey
    go_enter Try.func31, Try.ntmps31
    go_wp2_with fail
    rw [← EW.out]
    refine C.out.mono ?_
    rintro e w1 ⟨rfl, x1⟩
    obtain ⟨g1, g2⟩ := G1.out w1 x1
    have X1 := hid (XX.out.trans x1)
    clear C x1 c0 c1 c2
    go_wp2_with fail
    go_ret
    exact ⟨rfl, X1.out⟩
end Go.Proofs.Ytjmgigfaiaemeaa.Grp

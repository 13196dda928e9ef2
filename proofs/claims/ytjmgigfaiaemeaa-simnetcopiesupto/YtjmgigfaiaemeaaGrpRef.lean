/-
  Walks of the reference's Last and Level; of the statements' right and wrong.
-/
import Derived.Test.YtjmgigfaiaemeaaGrpNew
namespace Go.Proofs.Ytjmgigfaiaemeaa.Grp
set_option linter.unusedVariables false
set_option maxRecDepth 100000
open Go.RowKit Go.Lib

/-- what was asked, as it lies in memory -/
theorem rows_view {K : Nat → Prop} {w : World} {v : Value} {l : List Tri} (h : RowK K w v 3 (fcells tri l)) : ∃ ao c, v = .slice ao l.length c ∧ l.length ≤ c ∧ c ≤ maxLen ∧ ∀ k x, l[k]? = some x → ∃ g o, ao = some ⟨g, o, none⟩ ∧ K g ∧
    w.cell? ⟨g, o + k * 3, none⟩ = some (.int .i64 x.1) ∧ w.cell? ⟨g, o + k * 3 + 1, none⟩ = some (.int .i64 x.2.1) ∧ w.cell? ⟨g, o + k * 3 + 2, none⟩ = some (.int .i64 x.2.2) := by
  obtain ⟨ao, n, c, e, h1, h2, h3, h4⟩ := h
  rw [fcells_length encT] at h1
  obtain rfl : l.length = n := by omega
  refine ⟨ao, c, e, h2, h3, fun k x hk => ?_⟩
  have hl := (List.getElem?_eq_some_iff.1 hk).1
  obtain ⟨g, o, ea, hg, hc⟩ := h4 (by omega)
  have key : ∀ j u, j < 3 → (tri x)[j]? = some u → w.cell? ⟨g, o + k * 3 + j, none⟩ = some u := fun j u hj hu => by
    have := hc (k * 3 + j) u (by rw [fcells_at encT hk hj]; exact hu)
    rw [← Nat.add_assoc] at this
    exact this
  exact ⟨g, o, ea, hg, key 0 _ (by decide) rfl, key 1 _ (by decide) rfl, key 2 _ (by decide) rfl⟩

set_option maxHeartbeats 4000000 in
theorem refLevel_any (K : Nat → Prop) (n : Int) (v : Value) (l : List Tri) (r j lv now : Int) (w : World) (hv : RowK K w v 3 (fcells tri l)) (hl : l.length ≤ 1000) (hF : Fit n l) (j1 : 0 ≤ j) (j2 : j ≤ 64) (l1 : 0 ≤ lv) (l2 : lv ≤ 64) :
    Calls Try.prog 21 #[v, .int .i64 r, .int .i64 j, .int .i64 lv, .int .i64 now] w fun e w' => e = .returned (.int .i64 (lat j lv (st j lv l r) now)) ∧ Ext w w' := by
  obtain ⟨ao, c, rfl, k1, k2, vw⟩ := rows_view hv
  have VW := hid vw
  have FF := hid hF
  have ST := hid (st_take j lv l)
  have LT : Hid (st j lv (l.take l.length) r = st j lv l r) := by show _ = _; rw [List.take_length]
  unfold maxLen at k2
  clear vw hF hv
  obtain ⟨N, eN⟩ : ∃ N, N = l.length := ⟨_, rfl⟩
  have EN := hid eN
  rw [← eN] at k1 hl LT
  rw [← eN]
  clear eN
  obtain ⟨y, ey⟩ : ∃ y, lat j lv (st j lv l r) now = y := ⟨_, rfl⟩
  rw [ey]
  have EY := hid ey
  clear ey
  go_enter Try.func21, Try.ntmps21
  go_wp2_with fail
  go_loopw [11, 12, 13, 14, 15] (fun level next due i _ wr => ∃ (k : Nat) (a b d : Int), k ≤ N ∧ i = .int .i64 (k : Int) ∧ level = .int .i64 a ∧ next = .int .i64 b ∧ due = .int .i64 d ∧ Hid (Doc j lv (st j lv (l.take k) r) a b d) ∧ Hid (Ext w wr)) (fun _ _ _ i _ _ => (N - intOf i).toNat)
  case atStart => exact ⟨0, -1, -1, 0, by omega, rfl, rfl, rfl, rfl, Doc.start j lv r, Ext.refl w⟩
  case round =>
    obtain ⟨k, a, b, d, hk, rfl, rfl, rfl, rfl, D, X⟩ := hrel
    by_cases h : k < N
    · have hk2 : k < l.length := by rw [← EN.out]; exact h
      obtain ⟨x, ex⟩ : ∃ x, l[k]? = some x := ⟨_, List.getElem?_eq_getElem hk2⟩
      have xf : fit n x := FF.out x (List.mem_of_getElem? ex)
      have S1 := ST.out k x ex r
      obtain ⟨g, o, rfl, _, x0, x1, x2⟩ := VW.out k x ex
      have y0 := X.out.cell x0
      have y1 := X.out.cell x1
      have y2 := X.out.cell x2
      have i1 : (k : Int) < (N : Int) := by omega
      have i2 : (0 : Int) ≤ (k : Int) := by omega
      have X1 : Hid (Ext w (wr.alloc (.cells #[.int .i64 x.1, .int .i64 x.2.1, .int .i64 x.2.2] 72))) := X.out.alloc _
      obtain ⟨xr, xl, xn⟩ := x
      obtain ⟨f1, f2, f3, f4, f5, f6⟩ := xf
      simp only at *
      have wj : IntKind.i64.wrap (xn + j) = xn + j := IntWalk.i64_in _ (by omega)
      have wl : IntKind.i64.wrap (xn + lv) = xn + lv := IntWalk.i64_in _ (by omega)
      clear x0 x1 x2 ex hk2 X
      unfold st1 at S1
      simp only at S1
      by_cases hr : xr = r
      · subst hr
        rw [if_pos rfl] at S1
        have A := D.out.ask (xr, xl, xn)
        rw [← S1] at A
        simp only at A
        have AA := hid A
        clear S1 A D
        by_cases h1 : d ≤ xn
        · simp only [if_pos h1] at AA
          by_cases h2 : b < xl
          · simp only [if_pos h2] at AA
            go_wp2_with fail
            go_roundw
            case rel => exact ⟨k + 1, _, _, _, by omega, by go_num, rfl, rfl, rfl, AA, X1⟩
            case measure => simp [intOf]; omega
          · simp only [if_neg h2] at AA
            go_wp2_with fail
            go_roundw
            case rel => exact ⟨k + 1, _, _, _, by omega, by go_num, rfl, rfl, rfl, AA, X1⟩
            case measure => simp [intOf]; omega
        · simp only [if_neg h1] at AA
          by_cases h2 : a < xl
          · simp only [if_pos h2] at AA
            go_wp2_with fail
            go_roundw
            case rel => exact ⟨k + 1, _, _, _, by omega, by go_num, rfl, rfl, rfl, AA, X1⟩
            case measure => simp [intOf]; omega
          · simp only [if_neg h2] at AA
            go_wp2_with fail
            go_roundw
            case rel => exact ⟨k + 1, _, _, _, by omega, by go_num, rfl, rfl, rfl, AA, X1⟩
            case measure => simp [intOf]; omega
      · rw [if_neg hr] at S1
        have D1 : Hid (Doc j lv (st j lv (l.take (k + 1)) r) a b d) := by rw [S1]; exact D.out
        clear S1 D
        go_wp2_with fail
        go_roundw
        case rel => exact ⟨k + 1, _, _, _, by omega, by go_num, rfl, rfl, rfl, D1, X1⟩
        case measure => simp [intOf]; omega
    · obtain rfl : k = N := by omega
      have R := D.out.at now
      rw [LT.out, EY.out] at R
      have RR := hid R
      clear R LT D EY
      by_cases h1 : d ≤ now
      · have ey : b = y := by have := RR.out; rw [if_pos h1] at this; exact this
        subst ey
        go_wp2_with fail
        go_ret
        exact ⟨rfl, X.out⟩
      · have ey : a = y := by have := RR.out; rw [if_neg h1] at this; exact this
        subst ey
        go_wp2_with fail
        go_ret
        exact ⟨rfl, X.out⟩

/-- may there be such a group? -/
def okCase (n j lv : Int) (m : Nat) : Prop := 1 ≤ n ∧ n ≤ 64 ∧ 0 ≤ j ∧ j ≤ 64 ∧ 0 ≤ lv ∧ lv ≤ 64 ∧ m ≤ 60

end Go.Proofs.Ytjmgigfaiaemeaa.Grp

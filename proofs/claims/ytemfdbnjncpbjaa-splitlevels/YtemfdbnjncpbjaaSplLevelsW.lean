/-
  SplitLevels' walk.
-/
import Derived.Test.YtemfdbnjncpbjaaSplCalls
namespace Go.Proofs.Ytemfdbnjncpbjaa.splitLevels
set_option linter.unusedVariables false
set_option maxRecDepth 100000
open Go.RowKit Go.Lib Go.Proofs.Ytemfdbnjncpbjaa.Spl

set_option maxHeartbeats 16000000 in
theorem walk (o r L : Int) (w : World) (wf0 : (Lit.int .u64 o).wf = true) (wf1 : (Lit.int .u64 r).wf = true) (wf2 : (Lit.int .i64 L).wf = true) : Calls Try.prog 5 #[.int .u64 o, .int .u64 r, .int .i64 L] w fun e w' => e = .returned (.bool true) ∧ Ext w w' := by
  have hr : Wd r := by have := Go.bounds_u64 wf1; unfold Wd; omega
  clear wf0 wf1 wf2
  have AW := hid (fun V => awake_any V)
  have RG := hid (fun V => right_any L V)
  by_cases bad : ¬ Lay L
  · have LV := hid (fun V => level_no o r L bad V)
    rw [decide_eq_false bad] at RG
    clear hr bad
    go_enter Try.func5, Try.ntmps5
    go_wp2_with fail
    refine (LV.out _).mono ?_
    rintro e w' ⟨rfl, ew⟩
    obtain rfl := ew.symm
    go_wp2_with fail
    refine (RG.out _).mono ?_
    rintro e w' ⟨rfl, ew⟩
    obtain rfl := ew.symm
    go_wp2_with fail
    refine (AW.out _).mono ?_
    rintro e wz ⟨rfl, xz⟩
    have XZ := hid xz
    clear xz
    go_wp2_with fail
    go_ret
    exact ⟨rfl, XZ.out⟩
  obtain ⟨l1, l8⟩ := Classical.not_not.1 bad
  rw [decide_eq_true (show Lay L from ⟨l1, l8⟩)] at RG
  obtain ⟨N, eN⟩ : ∃ N : Nat, L = (N : Int) := ⟨L.toNat, by omega⟩
  subst eN
  have n1 : 1 ≤ N := by omega
  have n8 : N ≤ 8 := by omega
  have LV := hid (fun V => level_yes o hr N n1 n8 V)
  have RF := hid (fun V => refAll_any hr N n1 n8 V)
  have FI := hid (fun v V (R : Nums .u64 V v (cums r N)) => refFits_any o v _ V R)
  have FIS := hid (fit_is o (cums r N))
  have LN := hid (cums_length r N)
  generalize cums r N = l at *
  obtain ⟨m, em⟩ : ∃ m, m = fit o l := ⟨_, rfl⟩
  rw [← em] at LV FI FIS
  clear hr bad em
  go_enter Try.func5, Try.ntmps5
  go_wp2_with fail
  refine (LV.out _).mono ?_
  rintro e w1 ⟨rfl, x1⟩
  have X1 := hid x1
  clear x1 LV
  go_wp2_with fail
  refine (RG.out _).mono ?_
  rintro e w' ⟨rfl, ew⟩
  obtain rfl := ew.symm
  go_wp2_with fail
  refine (RF.out _).mono ?_
  rintro e w2 ⟨v, rfl, rv, x2⟩
  have FW := hid (FI.out v w2 rv)
  have X2 := hid (X1.out.trans x2)
  obtain ⟨ao, cp, ev, k1, k2, CC⟩ := row_one rv
  rw [LN.out] at ev k1
  subst ev
  unfold maxLen at k2
  obtain ⟨f1, f2, f3⟩ := FIS.out
  rw [LN.out] at f1
  have GET : Hid (∀ j, j < N → ∃ x, l[j]? = some x) := fun j hj => ⟨_, List.getElem?_eq_getElem (by have := LN.out; omega)⟩
  have LOW : Hid (0 < m → ∃ x g q, x ≤ o ∧ ao = some ⟨g, q, none⟩ ∧ w2.cell? ⟨g, q + (m - 1), none⟩ = some (.int .u64 x)) := fun h => by
    obtain ⟨x, ex⟩ := GET.out (m - 1) (by omega)
    obtain ⟨g, q, e1, c1⟩ := CC _ x ex
    exact ⟨x, g, q, f2 (m - 1) x (by omega) ex, e1, c1⟩
  have UPP : Hid (m < N → ∃ x g q, o < x ∧ ao = some ⟨g, q, none⟩ ∧ w2.cell? ⟨g, q + m, none⟩ = some (.int .u64 x)) := fun h => by
    obtain ⟨x, ex⟩ := GET.out m h
    obtain ⟨g, q, e1, c1⟩ := CC _ x ex
    exact ⟨x, g, q, f3 x ex, e1, c1⟩
  clear rv x2 RF FI FIS LN X1 CC GET f2 f3 RG
  obtain ⟨J, eJ⟩ : ∃ J : Int, J = (m : Int) - 1 := ⟨_, rfl⟩
  rw [← eJ] at FW ⊢
  by_cases c1 : m = 0
  case' pos =>
    obtain ⟨y, g, q, y1, rfl, cy⟩ := UPP.out (by omega)
    rw [c1, Nat.add_zero] at cy
    have j1 : J = -1 := by omega
    subst j1
    have d3 : ¬ (N : Int) ≤ -1 + 1 := by omega
    clear UPP LOW
  case' neg =>
    obtain ⟨x, g, q, x1, ea, cx⟩ := LOW.out (by omega)
    subst ea
    have j1 : 0 ≤ J := by omega
    have j2 : J < (N : Int) := by omega
    have j3 : J.toNat = m - 1 := by omega
    have d1 : decide (J < 0) = false := decide_eq_false (by omega)
    by_cases c2 : m = N
    case' pos =>
      have d3 : decide ((N : Int) ≤ J + 1) = true := decide_eq_true (by omega)
      clear UPP LOW c1 c2
    case' neg =>
      obtain ⟨y, g2, q2, y1, ea, cy⟩ := UPP.out (by omega)
      simp only [Option.some.injEq, Addr.mk.injEq] at ea
      obtain ⟨rfl, rfl, -⟩ := ea
      have d3 : decide ((N : Int) ≤ J + 1) = false := decide_eq_false (by omega)
      have j4 : (J + 1).toNat = m := by omega
      have j5 : 0 ≤ J + 1 := by omega
      have j6 : J + 1 < (N : Int) := by omega
      clear UPP LOW c1 c2
  all_goals
    clear eJ
    go_wp2_with fail
    refine FW.out.mono ?_
    rintro e w' ⟨rfl, ew⟩
    obtain rfl := ew.symm
    go_wp2_with fail
    refine (AW.out _).mono ?_
    rintro e wz ⟨rfl, xz⟩
    have XZ := hid (X2.out.trans xz)
    clear xz
    go_wp2_with fail
    go_ret
    exact ⟨rfl, XZ.out⟩
end Go.Proofs.Ytemfdbnjncpbjaa.splitLevels

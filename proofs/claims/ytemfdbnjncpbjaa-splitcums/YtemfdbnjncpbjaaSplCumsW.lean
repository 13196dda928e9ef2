/-
  SplitCums' walk.
-/
import Derived.Test.YtemfdbnjncpbjaaSplCalls
import Derived.Deep.QuietTactic
import Derived.BigQuiet
namespace Go.Proofs.Ytemfdbnjncpbjaa.splitCums
set_option linter.unusedVariables false
set_option maxRecDepth 100000
open Go.RowKit Go.Lib Go.Proofs.Ytemfdbnjncpbjaa.Spl

set_option maxHeartbeats 16000000 in
theorem walk (r L k : Int) (w : World) (wf0 : (Lit.int .u64 r).wf = true) (wf1 : (Lit.int .i64 L).wf = true) (wf2 : (Lit.int .i64 k).wf = true) : Calls Try.prog 3 #[.int .u64 r, .int .i64 L, .int .i64 k] w fun e w' => e = .returned (.bool true) ∧ Ext w w' := by
  have hr : Wd r := by have := Go.bounds_u64 wf0; unfold Wd; omega
  clear wf0 wf1 wf2
  have AW := hid (fun V => awake_any V)
  have RG := hid (fun V => right_any L V)
  by_cases bad : ¬ Lay L
  · have CN := hid (fun V => cum_no r L k (fun c => bad c.1) V)
    have AN := hid (fun V => all_no r L bad V)
    rw [decide_eq_false bad] at RG
    clear hr bad
    go_enter Try.func3, Try.ntmps3
    go_wp2_with fail
    refine (CN.out _).mono ?_
    rintro e w' ⟨rfl, ew⟩
    obtain rfl := ew.symm
    go_wp2_with fail
    refine (AN.out _).mono ?_
    rintro e w' ⟨rfl, ew⟩
    obtain rfl := ew.symm
    go_wp2_with fail
    refine (RG.out _).mono ?_
    rintro e w' ⟨rfl, ew⟩
    obtain rfl := ew.symm
    go_wp2_with fail
    refine (AW.out _).mono ?_
    rintro e wz ⟨rfl, xz⟩
    have XZ := hid xz
    clear xz
    go_wp2_with fail
    go_ret
    exact ⟨rfl, XZ.out⟩
  obtain ⟨l1, l8⟩ := Classical.not_not.1 bad
  rw [decide_eq_true (show Lay L from ⟨l1, l8⟩)] at RG
  obtain ⟨N, eN⟩ : ∃ N : Nat, L = (N : Int) := ⟨L.toNat, by omega⟩
  subst eN
  have n1 : 1 ≤ N := by omega
  have n8 : N ≤ 8 := by omega
  have CU : ∃ x e : Int, Hid (∀ V, Calls Try.prog 8 #[.int .u64 r, .int .i64 (N : Int), .int .i64 k] V fun z w' => z = .returned (.tuple #[.int .u64 x, .int .i64 e]) ∧ w' = V) ∧ Hid ((x = 0 ∧ e = 11 ∧ (k < 0 ∨ (N : Int) ≤ k)) ∨ (e = 0 ∧ ∃ j : Nat, j < N ∧ k = (j : Int) ∧ x = cum r N j)) := by
    by_cases q : 0 ≤ k ∧ k < (N : Int)
    · obtain ⟨j, ej⟩ : ∃ j : Nat, k = (j : Int) := ⟨k.toNat, by omega⟩
      subst ej
      exact ⟨_, _, fun V => cum_yes hr N j n8 (by omega) V, .inr ⟨rfl, j, by omega, rfl, rfl⟩⟩
    · exact ⟨_, _, fun V => cum_no r N k (fun c => q c.2) V, .inl ⟨rfl, rfl, by omega⟩⟩
  obtain ⟨x, e0, CN, CF⟩ := CU
  have AL := hid (fun V => all_yes hr N n1 n8 V)
  have RF := hid (fun V => refAll_any hr N n1 n8 V)
  have LN := hid (cums_length r N)
  have AT := hid (fun j (hj : j < N) => cums_at r hj)
  have UPP := hid (fun j (hj : j + 1 < N) => cum_rises hr hj)
  have LAST := hid (cum_last r n1)
  generalize cums r N = l at *
  clear hr bad
  go_enter Try.func3, Try.ntmps3
  go_wp2_with fail
  refine (CN.out _).mono ?_
  rintro e w' ⟨rfl, ew⟩
  obtain rfl := ew.symm
  go_wp2_with fail
  refine (AL.out _).mono ?_
  rintro e w1 ⟨g, rfl, ra, x1⟩
  have RA := hid ra
  have X1 := hid x1
  clear ra x1 AL CN
  go_wp2_with fail
  refine (RG.out _).mono ?_
  rintro e w' ⟨rfl, ew⟩
  obtain rfl := ew.symm
  go_wp2_with fail
  refine (RF.out _).mono ?_
  rintro e w2 ⟨v, rfl, rv, x2⟩
  have RA2 := hid (RA.out.ext x2)
  have X2 := hid (X1.out.trans x2)
  obtain ⟨ao, cp, ev, k1, k2, CC⟩ := row_one rv
  obtain ⟨ao2, cp2, ev2, -, -, CA⟩ := row_one RA2.out
  simp only [Value.slice.injEq] at ev2
  obtain ⟨rfl, -, rfl⟩ := ev2
  rw [LN.out] at ev k1
  subst ev
  have CC2 : Hid (∀ j, j < N → ∃ g o, ao = some ⟨g, o, none⟩ ∧ w2.cell? ⟨g, o + j, none⟩ = some (.int .u64 (cum r N j))) := fun j hj => CC j _ (AT.out j hj)
  have CA2 : Hid (∀ j, j < N → w2.cell? ⟨g, j, none⟩ = some (.int .u64 (cum r N j))) := fun j hj => by
    obtain ⟨g1, o1, e1, c1⟩ := CA j _ (AT.out j hj)
    simp only [Option.some.injEq, Addr.mk.injEq] at e1
    obtain ⟨rfl, rfl, -⟩ := e1
    rwa [Nat.zero_add] at c1
  unfold maxLen at k2
  obtain ⟨M, eM⟩ : ∃ M : Nat, N = M + 1 := ⟨N - 1, by omega⟩
  have c0 := CA2.out M (by omega)
  have lst := LAST.out
  rw [show N - 1 = M by omega] at lst
  rw [lst] at c0
  clear lst
  have i0 : ((N : Int) - 1).toNat = M := by omega
  have i1 : (N : Int) - 1 = (M : Int) := by omega
  clear rv x2 RF RA RA2 RG CC CA LN AT LAST X1
  clear eM
  go_wp2_with fail
  clear c0 i0 i1
  go_loopw [11, 58] (fun _ iv wr => ∃ (j n : Nat), j ≤ N ∧ iv = .int .i64 (j : Int) ∧ wr = w2.drewN n) (fun _ iv _ => (N - RowKit.intOf iv).toNat)
  case atStart => exact ⟨0, 0, by omega, rfl, rfl⟩
  case round =>
    obtain ⟨j, n, hj, rfl, rfl⟩ := hrel
    by_cases q : j < N
    · have i1 : (j : Int) < (N : Int) := by omega
      have i2 : (0 : Int) ≤ (j : Int) := by omega
      obtain ⟨g0, o0, rfl, cc⟩ := CC2.out j q
      have ca := CA2.out j q
      by_cases q0 : j = 0
      · obtain ⟨J, eJ⟩ : ∃ J : Int, J = (j : Int) := ⟨_, rfl⟩
        rw [← eJ] at i1 i2 ⊢
        have i4 : decide (0 < J) = false := decide_eq_false (by omega)
        have i5 : J.toNat = 0 := by omega
        subst q0
        rw [Nat.add_zero] at cc
        clear CC2 CA2 UPP AW CF eJ
        generalize cum r N 0 = c at *
        go_wp2_with fail
        go_quiet (fail)
        go_wp2_with fail
        go_roundw
        case rel => exact ⟨1, _, by omega, by go_num, rfl⟩
        case measure => simp [RowKit.intOf]; omega
      · obtain ⟨i, rfl⟩ : ∃ i, j = i + 1 := ⟨j - 1, by omega⟩
        have cb := CA2.out i (by omega)
        have le := UPP.out i q
        have i3 : ¬ cum r N (i + 1) < cum r N i := by omega
        obtain ⟨J, eJ⟩ : ∃ J : Int, J = ((i + 1 : Nat) : Int) := ⟨_, rfl⟩
        have EJ := hid eJ
        rw [← eJ] at i1 i2 ⊢
        have i4 : 0 < J := by omega
        have i5 : J.toNat = i + 1 := by omega
        have i6 : (J - 1).toNat = i := by omega
        have i7 : J ≤ 8 := by omega
        clear CC2 CA2 UPP AW CF le eJ
        generalize cum r N (i + 1) = c at *
        generalize cum r N i = b at *
        go_wp2_with fail
        go_quiet (fail)
        go_wp2_with fail
        go_roundw
        case rel => exact ⟨i + 2, _, by omega, by rw [EJ.out]; go_num, rfl⟩
        case measure => simp [RowKit.intOf]; omega
    · obtain rfl : N = j := by omega
      rcases CF.out with ⟨rfl, rfl, kb⟩ | ⟨rfl, j, hj2, rfl, rfl⟩
      · clear CC2 CA2 UPP CF
        by_cases b0 : k < 0
        case' pos => clear kb
        case' neg =>
          have b1 : (N : Int) ≤ k := by omega
          clear kb
        all_goals
          go_wp2_with fail
          refine (AW.out _).mono ?_
          rintro e wz ⟨rfl, xz⟩
          have XZ := hid (X2.out.trans (((Ext.refl w2).drewN n).trans xz))
          clear xz
          go_wp2_with fail
          go_ret
          exact ⟨rfl, XZ.out⟩
      · have cc : (w2.drewN n).cell? ⟨g, j, none⟩ = _ := CA2.out j hj2
        have i1 : (j : Int) < (N : Int) := by omega
        have i2 : (0 : Int) ≤ (j : Int) := by omega
        have i3 : ¬ (j : Int) < 0 := by omega
        clear CC2 CA2 UPP CF
        generalize cum r N j = c at *
        go_wp2_with fail
        refine (AW.out _).mono ?_
        rintro e wz ⟨rfl, xz⟩
        have XZ := hid (X2.out.trans (((Ext.refl w2).drewN n).trans xz))
        clear xz
        go_wp2_with fail
        go_ret
        exact ⟨rfl, XZ.out⟩
end Go.Proofs.Ytemfdbnjncpbjaa.splitCums

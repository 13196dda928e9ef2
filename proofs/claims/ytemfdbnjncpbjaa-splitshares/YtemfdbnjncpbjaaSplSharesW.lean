/-
  SplitShares' walk.
-/
import Derived.Test.YtemfdbnjncpbjaaSplCalls
namespace Go.Proofs.Ytemfdbnjncpbjaa.splitShares
set_option linter.unusedVariables false
set_option maxRecDepth 100000
open Go.RowKit Go.Lib Go.Proofs.Ytemfdbnjncpbjaa.Spl

set_option maxHeartbeats 16000000 in
theorem walk (L : Int) (w : World) (wf0 : (Lit.int .i64 L).wf = true) : Calls Try.prog 7 #[.int .i64 L] w fun e w' => e = .returned (.bool true) ∧ Ext w w' := by
  clear wf0
  have AW := hid (fun V => awake_any V)
  have RG := hid (fun V => right_any L V)
  by_cases bad : ¬ Lay L
  · have SN := hid (fun V => shares_no L bad V)
    rw [decide_eq_false bad] at RG
    clear bad
    go_enter Try.func7, Try.ntmps7
    go_wp2_with fail
    refine (SN.out _).mono ?_
    rintro e w' ⟨rfl, ew⟩
    obtain rfl := ew.symm
    go_wp2_with fail
    refine (RG.out _).mono ?_
    rintro e w' ⟨rfl, ew⟩
    obtain rfl := ew.symm
    go_wp2_with fail
    refine (AW.out _).mono ?_
    rintro e wz ⟨rfl, xz⟩
    have XZ := hid xz
    clear xz
    go_wp2_with fail
    go_ret
    exact ⟨rfl, XZ.out⟩
  obtain ⟨l1, l8⟩ := Classical.not_not.1 bad
  rw [decide_eq_true (show Lay L from ⟨l1, l8⟩)] at RG
  obtain ⟨N, eN⟩ : ∃ N : Nat, L = (N : Int) := ⟨L.toNat, by omega⟩
  subst eN
  have n1 : 1 ≤ N := by omega
  have n8 : N ≤ 8 := by omega
  have SY := hid (fun V => shares_yes N n1 n8 V)
  have SUM := hid blw_more
  have RM := hid (fun k (hk : k < N) => And.intro (blw_room (k := k) (by omega)) (shr_room (k := k) (by omega)))
  have BE := hid (fun k (hk : 0 < k) => shr_below hk)
  have S0 : Hid (shr 0 = 1) := by show shr 0 = 1; decide
  have Z0 : Hid ((0 : Int) = blw 0) := rfl
  have LN := hid (shrs_length N)
  have AT := hid (fun j (hj : j < N) => shrs_at hj)
  generalize shrs N = l at *
  clear bad
  go_enter Try.func7, Try.ntmps7
  go_wp2_with fail
  refine (SY.out _).mono ?_
  rintro e w1 ⟨g, rfl, ra, x1⟩
  have X1 := hid x1
  obtain ⟨ao, cp, ev, -, -, CC⟩ := row_one ra
  simp only [Value.slice.injEq] at ev
  obtain ⟨rfl, -, rfl⟩ := ev
  have CA : Hid (∀ j, j < N → w1.cell? ⟨g, j, none⟩ = some (.int .i64 (shr j))) := fun j hj => by
    obtain ⟨g1, o1, e1, c1⟩ := CC j _ (AT.out j hj)
    simp only [Option.some.injEq, Addr.mk.injEq] at e1
    obtain ⟨rfl, rfl, -⟩ := e1
    rwa [Nat.zero_add] at c1
  clear ra x1 CC AT LN SY
  go_wp2_with fail
  refine (RG.out _).mono ?_
  rintro e w' ⟨rfl, ew⟩
  obtain rfl := ew.symm
  go_wp2_with fail
  go_loopw [4, 5, 6, 20] (fun sv _ _ iv wr => ∃ k : Nat, k ≤ N ∧ iv = .int .i64 (k : Int) ∧ sv = .int .i64 (blw k) ∧ wr = w1) (fun _ _ _ iv _ => (N - RowKit.intOf iv).toNat)
  case atStart => exact ⟨0, by omega, rfl, by rw [← Z0.out], rfl⟩
  case round =>
    obtain ⟨k, hk, rfl, rfl, rfl⟩ := hrel
    by_cases q : k < N
    · have i1 : (k : Int) < (N : Int) := by omega
      have i2 : (0 : Int) ≤ (k : Int) := by omega
      have ca := CA.out k q
      obtain ⟨⟨r0, r1⟩, r2, r3⟩ := RM.out k q
      have SM := hid (SUM.out k)
      by_cases q0 : k = 0
      · subst q0
        rw [S0.out] at ca SM r2 r3
        rw [← Z0.out] at SM r0 r1 ⊢
        clear CA RM SUM BE S0 AW
        go_wp2_with fail
        go_roundw
        case rel => exact ⟨1, by omega, by go_num, by rw [← SM.out]; rfl, trivial⟩
        case measure => simp [RowKit.intOf]; omega
      · have be := BE.out k (by omega)
        have q1 : 0 < (k : Int) := by omega
        obtain ⟨b, eb⟩ : ∃ b, b = blw k := ⟨_, rfl⟩
        rw [← eb] at be SM r0 r1 ⊢
        rw [be] at ca SM r2 r3
        clear CA RM SUM BE S0 AW eb be
        go_wp2_with fail
        go_roundw
        case rel => exact ⟨k + 1, by omega, by go_num, by rw [← SM.out], trivial⟩
        case measure => simp [RowKit.intOf]; omega
    · obtain rfl : N = k := by omega
      clear CA RM SUM BE S0 Z0 hk q RG
      have c8 : N = 1 ∨ N = 2 ∨ N = 3 ∨ N = 4 ∨ N = 5 ∨ N = 6 ∨ N = 7 ∨ N = 8 := by omega
      have bb : (N = 1 ∧ blw N = 1) ∨ (N = 2 ∧ blw N = 2) ∨ (N = 3 ∧ blw N = 4) ∨ (N = 4 ∧ blw N = 8) ∨ (N = 5 ∧ blw N = 16) ∨ (N = 6 ∧ blw N = 32) ∨ (N = 7 ∧ blw N = 64) ∨ (N = 8 ∧ blw N = 128) := by
        rcases c8 with rfl | rfl | rfl | rfl | rfl | rfl | rfl | rfl <;> decide
      obtain ⟨b, eb⟩ : ∃ b, b = blw N := ⟨_, rfl⟩
      rw [← eb] at bb ⊢
      clear eb c8 n1 n8 l1 l8
      rcases bb with ⟨rfl, rfl⟩ | ⟨rfl, rfl⟩ | ⟨rfl, rfl⟩ | ⟨rfl, rfl⟩ | ⟨rfl, rfl⟩ | ⟨rfl, rfl⟩ | ⟨rfl, rfl⟩ | ⟨rfl, rfl⟩
      all_goals
        go_wp2_with fail
        refine (AW.out _).mono ?_
        rintro e wz ⟨rfl, xz⟩
        have XZ := hid (X1.out.trans xz)
        clear xz
        go_wp2_with fail
        go_ret
        exact ⟨rfl, XZ.out⟩
end Go.Proofs.Ytemfdbnjncpbjaa.splitShares

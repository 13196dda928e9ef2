/-
  The walk of FixParts: Whole, Of and Half are what they say, for every number.
-/
import Derived.Test.YthipbhpggeekbaaAwake
import Derived.OpenShut
namespace Go.Proofs.Ythipbhpggeekbaa.fixParts
set_option linter.unusedVariables false
open Go.RowKit

theorem halved (a : Int) (j : Nat) : a / 2 ^ j / 2 = a / 2 ^ (j + 1) := by
  rw [Int.pow_succ]
  exact Int.ediv_ediv_of_nonneg (show (0:Int) ≤ 2 ^ j from Int.le_of_lt (Int.pow_pos (by decide)))

theorem half_room (a : Int) (j : Nat) (h0 : 0 ≤ a) (h1 : a ≤ 18446744073709551615) : 0 ≤ a / 2 ^ j ∧ a / 2 ^ j ≤ 18446744073709551615 := by
  have p : (0:Int) < 2 ^ j := Int.pow_pos (by decide)
  exact ⟨Int.ediv_nonneg h0 (by omega), by have := Int.ediv_le_self (2 ^ j) h0; omega⟩

theorem nought_on (a : Int) (i j : Nat) (h0 : 0 ≤ a) (h : a / 2 ^ i = 0) (hij : i ≤ j) : a / 2 ^ j = 0 := by
  have p : (0:Int) < 2 ^ i := Int.pow_pos (by decide)
  have e : (2:Int) ^ j = 2 ^ i * 2 ^ (j - i) := by rw [← Int.pow_add]; congr 1; omega
  rw [e, ← Int.ediv_ediv_of_nonneg (by omega), h]
  simp

theorem at_end (a k : Int) (j : Nat) (h0 : 0 ≤ a) (h1 : a ≤ 18446744073709551615) (hj : j = 0 ∨ (j : Int) ≤ k) (h : ¬ ((j : Int) < k ∧ 0 < a / 2 ^ j)) : fhalf a k = a / 2 ^ j := by
  have r := half_room a j h0 h1
  unfold fhalf
  by_cases c1 : k < 1
  · rw [if_pos c1]
    have : j = 0 := by omega
    subst this; simp
  · rw [if_neg c1]
    by_cases c2 : 63 < k
    · rw [if_pos c2]
      by_cases c3 : (j : Int) < k
      · omega
      · have : a / 2 ^ 64 = 0 := by
          rw [show (2:Int) ^ 64 = 18446744073709551616 from rfl]; omega
        rw [nought_on a 64 j h0 this (by omega)]
    · rw [if_neg c2]
      by_cases c3 : (j : Int) < k
      · have : a / 2 ^ j = 0 := by omega
        rw [this, nought_on a j k.toNat h0 this (by omega)]
      · congr 2; omega

set_option maxHeartbeats 1000000 in
theorem walk (a0 : Int) (a1 : Int) (a2 : Int) (w0 : (Lit.int .u64 a0).wf = true) (w1 : (Lit.int .u32 a1).wf = true) (w2 : (Lit.int .i64 a2).wf = true) (w : World) :
    Calls Try.prog 7 #[.int .u64 a0, .int .u32 a1, .int .i64 a2] w fun e w' => e = .returned (.bool true) ∧ Grown w w' := by
  obtain ⟨b0, b0'⟩ := bounds_u64 w0
  obtain ⟨b1, b1'⟩ := bounds_u32 w1
  obtain ⟨b2, b2'⟩ := bounds_i64 w2
  clear w0 w1 w2
  go_enter Try.func7, Try.ntmps7
  go_wp2_with fail
  refine (whole_any a0 (by omega) (by omega) _).mono ?_
  rintro e w' ⟨rfl, rfl⟩
  go_wp2_with fail
  refine (of_any a1 (by omega) (by omega) _).mono ?_
  rintro e w' ⟨rfl, rfl⟩
  go_wp2_with fail
  refine (of_any a1 (by omega) (by omega) _).mono ?_
  rintro e w' ⟨rfl, rfl⟩
  go_wp2_with fail
  refine (whole_any (a1 * 4294967296) (by omega) (by omega) _).mono ?_
  rintro e w' ⟨rfl, rfl⟩
  have e1 : a1 * 4294967296 / 4294967296 = a1 := by omega
  rw [e1]
  clear e1
  go_wp2_with fail
  go_loop [7, 8] (fun t i => ∃ (j : Nat) (v : Int), t = .int .u64 v ∧ i = .int .i64 j ∧ 0 ≤ v ∧ v ≤ 18446744073709551615 ∧ (j = 0 ∨ (j : Int) ≤ a2) ∧ Hid (v = a0 / 2 ^ j)) (fun _ i => (a2 - intOf i).toNat)
  case atStart => exact ⟨0, a0, rfl, rfl, b0, b0', Or.inl rfl, by show a0 = _; simp⟩
  case round =>
    obtain ⟨j, v, rfl, rfl, hv0, hv1, hj, HV⟩ := hrel
    by_cases h : (j : Int) < a2 ∧ 0 < v
    · obtain ⟨h1, h2⟩ := h
      have HV2 : Hid (v / 2 = a0 / 2 ^ (j + 1)) := by show v / 2 = _; rw [HV.out, halved]
      clear hj
      go_wp2_with fail
      go_round
      case rel => exact ⟨j + 1, v / 2, rfl, by go_num, by omega, by omega, by omega, HV2⟩
      case measure => simp [intOf]; omega
    · have hend := at_end a0 a2 j b0 b0' hj (by rw [← HV.out]; exact h)
      rw [← HV.out] at hend
      have c := half_any a0 a2 (by omega) (by omega)
      rw [hend] at c
      clear hend hj
      by_cases h1 : (j : Int) < a2
      case' pos => have h2 : ¬ 0 < v := by omega
      all_goals
        clear h
        go_wp2_with fail
        refine (c _).mono ?_
        rintro e w' ⟨rfl, rfl⟩
        go_wp2_with fail
        refine (awake_any _).mono ?_
        rintro e w' ⟨rfl, n, rfl⟩
        go_wp2_with fail
        go_ret
        exact ⟨rfl, grown_drewN _ _⟩
end Go.Proofs.Ythipbhpggeekbaa.fixParts

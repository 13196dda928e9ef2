/-
  The walk of SerialWide: the number that is meant has these last bits, and none with them is nearer, for every near and every number.
-/
import Derived.Test.YtpkdjmhflgaknaaSerial
import Derived.OpenShut
namespace Go.Proofs.Ytpkdjmhflgaknaa.serialWide
set_option linter.unusedVariables false
open Go.RowKit

theorem bits (m a : Int) (ha : 0 ≤ a) (ha' : a < 4294967296) (h : 0 ≤ m) (h' : m ≤ 1099511627776) : fwide m a % 4294967296 = a := by
  unfold fwide fway; split <;> omega
theorem below (m a : Int) (h : 0 ≤ m) (h' : m ≤ 1099511627776) : ffar (fwide m a) m < ffar (fwide m a - 4294967296) m := by
  unfold ffar fwide fway; (repeat' split) <;> omega
theorem above (m a : Int) (h : 0 ≤ m) (h' : m ≤ 1099511627776) : ffar (fwide m a) m ≤ ffar (fwide m a + 4294967296) m := by
  unfold ffar fwide fway; (repeat' split) <;> omega
theorem outside (m a : Int) (h : m < 0 ∨ 1099511627776 < m) : fwide m a = 0 := by unfold fwide; rw [if_pos h]

set_option maxHeartbeats 1000000 in
theorem walk (a0 : Int) (a1 : Int) (w0 : (Lit.int .i64 a0).wf = true) (w1 : (Lit.int .u32 a1).wf = true) (w : World) :
    Calls Try.prog 5 #[.int .i64 a0, .int .u32 a1] w fun e w' => e = .returned (.bool true) ∧ Grown w w' := by
  obtain ⟨b0, b0'⟩ := bounds_i64 w0
  obtain ⟨b1, b1'⟩ := bounds_u32 w1
  clear w0 w1
  have r := fwide_room a0 a1
  have c1 := wide_any a0 a1 (by omega) (by omega) (by omega) (by omega) w
  by_cases h1 : a0 < 0
  · rw [outside a0 a1 (Or.inl h1)] at c1
    clear r
    go_enter Try.func5, Try.ntmps5
    go_wp2_with fail
    refine c1.mono ?_
    rintro e w' ⟨rfl, rfl⟩
    go_wp2_with fail
    refine (awake5_any _).mono ?_
    rintro e w' ⟨rfl, rfl⟩
    go_wp2_with fail
    go_ret
    exact ⟨rfl, Grown.refl _⟩
  · by_cases h2 : 1099511627776 < a0
    · rw [outside a0 a1 (Or.inr h2)] at c1
      clear r
      go_enter Try.func5, Try.ntmps5
      go_wp2_with fail
      refine c1.mono ?_
      rintro e w' ⟨rfl, rfl⟩
      go_wp2_with fail
      refine (awake5_any _).mono ?_
      rintro e w' ⟨rfl, rfl⟩
      go_wp2_with fail
      go_ret
      exact ⟨rfl, Grown.refl _⟩
    · have k1 := bits a0 a1 (by omega) (by omega) (by omega) (by omega)
      have k2 := below a0 a1 (by omega) (by omega)
      have k3 := above a0 a1 (by omega) (by omega)
      generalize fwide a0 a1 = n at r c1 k1 k2 k3
      have c2 := far_any n a0 (by omega) (by omega) (by omega) (by omega) w
      have c3 := far_any (n - 4294967296) a0 (by omega) (by omega) (by omega) (by omega) w
      have c4 := far_any (n + 4294967296) a0 (by omega) (by omega) (by omega) (by omega) w
      generalize ffar n a0 = x at k2 k3 c2
      generalize ffar (n - 4294967296) a0 = y at k2 c3
      generalize ffar (n + 4294967296) a0 = z at k3 c4
      go_enter Try.func5, Try.ntmps5
      go_wp2_with fail
      refine c1.mono ?_
      rintro e w' ⟨rfl, rfl⟩
      go_wp2_with fail
      refine c2.mono ?_
      rintro e w' ⟨rfl, rfl⟩
      go_wp2_with fail
      refine c3.mono ?_
      rintro e w' ⟨rfl, rfl⟩
      go_wp2_with fail
      refine c4.mono ?_
      rintro e w' ⟨rfl, rfl⟩
      go_wp2_with fail
      refine (awake5_any _).mono ?_
      rintro e w' ⟨rfl, rfl⟩
      go_wp2_with fail
      go_ret
      exact ⟨rfl, Grown.refl _⟩
end Go.Proofs.Ytpkdjmhflgaknaa.serialWide

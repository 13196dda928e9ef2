/-
  Walks of package fix's small calls and of math/bits' Mul64, Len64, LeadingZeros64: what each returns, for every argument; the world is as it was.
-/
import Derived.Test.YtemfdbnjncpbjaaProg
import Derived.Test.YtemfdbnjncpbjaaFxMath
import Derived.WalkKit
import Derived.WalkSpells
import Derived.WalkLawsBesides
import Derived.Lib.Mul64
import Derived.Laws.Bits64b
namespace Go.Proofs.Ytemfdbnjncpbjaa
set_option linter.unusedVariables false
open Go.RowKit Go.Lib

theorem hid {p : Prop} (h : p) : Hid p := h
theorem ret_int {k : IntKind} {a b : Int} (h : a = b) : Ending.returned (.int k a) = .returned (.int k b) := by rw [h]

theorem ret_bool {a b : Bool} (h : a = b) : Ending.returned (.bool a) = .returned (.bool b) := by rw [h]

/-- the sum, or the greatest word -/
def fadd (a b : Int) : Int := if 18446744073709551615 < a + b then 18446744073709551615 else a + b
/-- the difference, or 0 -/
def fsub (a b : Int) : Int := if a < b then 0 else a - b

set_option maxHeartbeats 400000 in
theorem sub_any (a b : Int) (ha : 0 ≤ a) (hb : 0 ≤ b) (ha' : a < 18446744073709551616) (hb' : b < 18446744073709551616) (w : World) :
    Calls Try.prog 21 #[.int .u64 a, .int .u64 b] w fun e w' => e = .returned (.int .u64 (fsub a b)) ∧ w' = w := by
  by_cases h : a < b
  · go_enter Try.func21, Try.ntmps21
    go_wp2
    go_ret
    exact ⟨ret_int (by unfold fsub; rw [if_pos h]), rfl⟩
  · go_enter Try.func21, Try.ntmps21
    go_wp2
    go_ret
    exact ⟨ret_int (by unfold fsub; rw [if_neg (by omega)]), rfl⟩

set_option maxHeartbeats 400000 in
theorem of_any (a : Int) (ha : 0 ≤ a) (ha' : a < 4294967296) (w : World) :
    Calls Try.prog 20 #[.int .u32 a] w fun e w' => e = .returned (.int .u64 (a * 4294967296)) ∧ w' = w := by
  go_enter Try.func20, Try.ntmps20
  go_wp2
  go_ret
  exact ⟨rfl, rfl⟩

/-- halved k times -/
def fhalf (a k : Int) : Int := if k < 1 then a else if 63 < k then 0 else a / 2 ^ k.toNat

set_option maxHeartbeats 400000 in
theorem half_any (a k : Int) (ha : 0 ≤ a) (ha' : a < 18446744073709551616) (w : World) :
    Calls Try.prog 22 #[.int .u64 a, .int .i64 k] w fun e w' => e = .returned (.int .u64 (fhalf a k)) ∧ w' = w := by
  by_cases h0 : k < 1
  · go_enter Try.func22, Try.ntmps22
    go_wp2
    go_ret
    exact ⟨ret_int (by unfold fhalf; rw [if_pos h0]), rfl⟩
  · by_cases h1 : 63 < k
    · go_enter Try.func22, Try.ntmps22
      go_wp2
      go_ret
      exact ⟨ret_int (by unfold fhalf; rw [if_neg (by omega), if_pos h1]), rfl⟩
    · go_enter Try.func22, Try.ntmps22
      go_wp2
      go_ret
      exact ⟨ret_int (by unfold fhalf; rw [if_neg (by omega), if_neg (by omega)]), rfl⟩

theorem mask32 (a : Int) (h0 : 0 ≤ a) (ha : a < 18446744073709551616) : bits .and .u64 a 4294967295 = a % 4294967296 := by
  obtain ⟨n, rfl⟩ := Int.eq_ofNat_of_zero_le h0
  rw [show ((4294967295 : Int)) = ((4294967295 : Nat) : Int) from rfl, bits_and_u64_nat n 4294967295 (by omega) (by omega),
    show n &&& 4294967295 = n % 4294967296 from Nat.and_two_pow_sub_one_eq_mod n 32]
  omega

theorem mask32_mod (a : Int) : bits .and .u64 (a % 18446744073709551616) 4294967295 = a % 4294967296 := by
  rw [mask32 _ (by omega) (by omega)]; omega

/-- bits that lie apart: their 'or' is their sum -/
theorem or_parts (a b : Int) (s : Nat) (ha : 0 ≤ a) (hb : 0 ≤ b) (hb' : b < 2 ^ s) (h : a * 2 ^ s < 18446744073709551616) (hb2 : b < 18446744073709551616) :
    bits .or .u64 (a * 2 ^ s) b = a * 2 ^ s + b := by
  obtain ⟨m, rfl⟩ := Int.eq_ofNat_of_zero_le ha
  obtain ⟨n, rfl⟩ := Int.eq_ofNat_of_zero_le hb
  have e : ((m : Int) * 2 ^ s) = ((2 ^ s * m : Nat) : Int) := by rw [Int.natCast_mul, Int.mul_comm, Int.natCast_pow]; rfl
  have hn : n < 2 ^ s := by have : ((2 ^ s : Nat) : Int) = 2 ^ s := Int.natCast_pow 2 s; omega
  rw [e] at h ⊢
  rw [bits_or_u64_nat _ _ (by omega) (by omega), ← Nat.two_pow_add_eq_or_of_lt hn]
  omega

end Go.Proofs.Ytemfdbnjncpbjaa

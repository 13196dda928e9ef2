/-
  Walks of math/bits' Len64 and LeadingZeros64: how many bits a number has; the world is as it was.
-/
import Derived.Test.YtolcnliebjiejaaProg
import Derived.Test.YtolcnliebjiejaaFxMath
import Derived.Lib.Strings
import Derived.Lib.Slices
import Derived.Lib.Small
import Derived.Lib.Walk
import Derived.Lib.BitFns
namespace Go.Proofs.Ytolcnliebjiejaa
set_option linter.unusedVariables false

set_option maxHeartbeats 4000000 in
set_option maxRecDepth 100000 in
theorem len64_any (x : Int) (w : World) (h0 : 0 ≤ x) (h1 : x ≤ 18446744073709551615) :
    Calls Try.prog 30 #[.int .u64 x] w fun e w' => e = .returned (.int .i64 (Lib.bitLen x.toNat)) ∧ w' = w := by
  go_enter Try.func30, Try.ntmps30
  go_wp2
  all_goals (go_ret; refine ⟨congrArg Ending.returned (congrArg (Value.int IntKind.i64) ?_), rfl⟩)
  · obtain ⟨a, b, c⟩ := FxMath.len_top x 72057594037927936 56 (by decide) h0 (Or.inr (by omega)) (by omega) h1
    rw [show x / 4294967296 / 65536 / 256 = x / 72057594037927936 by omega]
    omega
  · obtain ⟨a, b, c⟩ := FxMath.len_top x 281474976710656 48 (by decide) h0 (Or.inr (by omega)) (by omega) h1
    rw [show x / 4294967296 / 65536 = x / 281474976710656 by omega]
    omega
  · obtain ⟨a, b, c⟩ := FxMath.len_top x 1099511627776 40 (by decide) h0 (Or.inr (by omega)) (by omega) h1
    rw [show x / 4294967296 / 256 = x / 1099511627776 by omega]
    omega
  · obtain ⟨a, b, c⟩ := FxMath.len_top x 4294967296 32 (by decide) h0 (Or.inr (by omega)) (by omega) h1
    omega
  · obtain ⟨a, b, c⟩ := FxMath.len_top x 16777216 24 (by decide) h0 (Or.inr (by omega)) (by omega) h1
    rw [show x / 65536 / 256 = x / 16777216 by omega]
    omega
  · obtain ⟨a, b, c⟩ := FxMath.len_top x 65536 16 (by decide) h0 (Or.inr (by omega)) (by omega) h1
    omega
  · obtain ⟨a, b, c⟩ := FxMath.len_top x 256 8 (by decide) h0 (Or.inr (by omega)) (by omega) h1
    omega
  · obtain ⟨a, b, c⟩ := FxMath.len_top x 1 0 (by decide) h0 (Or.inl rfl) (by omega) h1
    rw [show x / 1 = x by omega] at a b c
    omega

theorem lz64_any (x : Int) (w : World) (h0 : 0 ≤ x) (h1 : x ≤ 18446744073709551615) :
    Calls Try.prog 29 #[.int .u64 x] w fun e w' => e = .returned (.int .i64 (64 - (Lib.bitLen x.toNat : Int))) ∧ w' = w := by
  have l := Lib.bitLen_le x.toNat 64 (by omega) (by omega)
  go_enter Try.func29, Try.ntmps29
  go_wp2_with (go_at_call 30; refine (len64_any x _ h0 h1).mono ?_; rintro e w' ⟨rfl, rfl⟩)
  go_ret
  exact ⟨congrArg Ending.returned (congrArg (Value.int IntKind.i64) (by omega)), rfl⟩

/-- the leading noughts of a number that isn't 0: so many steps up its highest bit is set -/
theorem lz64_up (y : Int) (w : World) (h0 : 0 < y) (h1 : y < 18446744073709551616) :
    Calls Try.prog 29 #[.int .u64 y] w fun e w' => ∃ s : Nat, s < 64 ∧ 9223372036854775808 ≤ y * 2 ^ s ∧ y * 2 ^ s < 18446744073709551616 ∧ e = .returned (.int .i64 (s : Int)) ∧ w' = w := by
  refine (lz64_any y w (by omega) (by omega)).mono ?_
  rintro e w' ⟨rfl, rfl⟩
  obtain ⟨a, b, c, d⟩ := FxMath.lead y.toNat (by omega) (by omega)
  have ey : ((y.toNat * 2 ^ (64 - Lib.bitLen y.toNat) : Nat) : Int) = y * 2 ^ (64 - Lib.bitLen y.toNat) := by
    rw [Int.natCast_mul, Int.toNat_of_nonneg (by omega), Int.natCast_pow]; rfl
  refine ⟨64 - Lib.bitLen y.toNat, by omega, by omega, by omega, congrArg Ending.returned (congrArg (Value.int IntKind.i64) (by omega)), rfl⟩
end Go.Proofs.Ytolcnliebjiejaa

/-
  Logarithms by a table, as plain numbers: what the chapter says a logarithm is, that it rises, that twice a number has one more. No program.
-/
import Derived.Test.YtcjohgfmdnimjaaDoorFxMath
namespace Go.Proofs.YtcjohgfmdnimjaaDoor
set_option linter.unusedVariables false

/-- the table -/
def tab (i : Nat) : Int := [0, 5732, 11136, 16248, 21098, 25711, 30109, 34312, 38336, 42196, 45904, 49472, 52911, 56229, 59434, 62534, 65536].getD i 0

theorem tab_up : ∀ i, i < 16 → 0 < tab (i + 1) - tab i ∧ tab (i + 1) - tab i ≤ 5732 := by decide
theorem tab_rises : ∀ i, i < 17 → ∀ j, j < 17 → i ≤ j → tab i ≤ tab j := by decide
theorem tab_room : ∀ i, i < 17 → 0 ≤ tab i ∧ tab i ≤ 65536 := by decide
theorem tab_low : ∀ i, i < 16 → tab i < 65536 := by decide

/-- the part of the way within a power of two -/
def lgPart (m : Int) : Int :=
  tab (m / 576460752303423488).toNat + (tab ((m / 576460752303423488).toNat + 1) - tab (m / 576460752303423488).toNat) * (m % 576460752303423488 / 2147483648) / 268435456
/-- the logarithm of a number whose highest bit lies s below the top, m being what is behind it -/
def lgAt (s : Nat) (m : Int) : Int := (31 - (s : Int)) * 65536 + lgPart m
/-- the logarithm -/
def flog (a : Int) : Int := lgAt (64 - Lib.bitLen a.toNat) (a * 2 ^ (64 - Lib.bitLen a.toNat) - 9223372036854775808)

theorem part_step (d r : Int) (hd : 0 < d) (hr : 0 ≤ r) (hr' : r < 268435456) : 0 ≤ d * r / 268435456 ∧ d * r / 268435456 < d := by
  refine ⟨Int.ediv_nonneg (Int.mul_nonneg (by omega) hr) (by decide), ?_⟩
  refine Int.ediv_lt_of_lt_mul (by decide) ?_
  exact Int.mul_lt_mul_of_pos_left hr' hd

theorem lgPart_room (m : Int) (h0 : 0 ≤ m) (h1 : m < 9223372036854775808) :
    tab (m / 576460752303423488).toNat ≤ lgPart m ∧ lgPart m < tab ((m / 576460752303423488).toNat + 1) := by
  have hi : (m / 576460752303423488).toNat < 16 := by omega
  obtain ⟨u1, u2⟩ := tab_up _ hi
  obtain ⟨p1, p2⟩ := part_step _ (m % 576460752303423488 / 2147483648) u1 (by omega) (by omega)
  unfold lgPart
  omega

theorem lgPart_range (m : Int) (h0 : 0 ≤ m) (h1 : m < 9223372036854775808) : 0 ≤ lgPart m ∧ lgPart m < 65536 := by
  have hi : (m / 576460752303423488).toNat < 16 := by omega
  have r := lgPart_room m h0 h1
  have t1 := tab_room _ (show (m / 576460752303423488).toNat < 17 by omega)
  have t2 := tab_room _ (show (m / 576460752303423488).toNat + 1 < 17 by omega)
  omega

theorem lgPart_rises (m n : Int) (h0 : 0 ≤ m) (h1 : m ≤ n) (h2 : n < 9223372036854775808) : lgPart m ≤ lgPart n := by
  by_cases h : m / 576460752303423488 = n / 576460752303423488
  · have hi : (n / 576460752303423488).toNat < 16 := by omega
    obtain ⟨u1, u2⟩ := tab_up _ hi
    unfold lgPart
    rw [h]
    have hr : m % 576460752303423488 / 2147483648 ≤ n % 576460752303423488 / 2147483648 := Int.ediv_le_ediv (by decide) (by omega)
    have := Int.ediv_le_ediv (c := 268435456) (by decide) (Int.mul_le_mul_of_nonneg_left hr (Int.le_of_lt u1))
    omega
  · have r1 := lgPart_room m h0 (by omega)
    have r2 := lgPart_room n (by omega) h2
    have hle : m / 576460752303423488 ≤ n / 576460752303423488 := Int.ediv_le_ediv (by decide) h1
    have := tab_rises ((m / 576460752303423488).toNat + 1) (by omega) (n / 576460752303423488).toNat (by omega) (by omega)
    omega

/-- so many steps up the highest bit is set: that is one number -/
theorem steps_one (a : Int) (s t : Nat) (hs : 9223372036854775808 ≤ a * 2 ^ s) (hs' : a * 2 ^ s < 18446744073709551616) (ht : 9223372036854775808 ≤ a * 2 ^ t) (ht' : a * 2 ^ t < 18446744073709551616) : s = t := by
  have key : ∀ (u v : Nat), 9223372036854775808 ≤ a * 2 ^ u → a * 2 ^ v < 18446744073709551616 → v ≤ u := by
    intro u v hu hv
    apply Decidable.byContradiction
    intro hlt
    have e : (2:Int) ^ v = 2 ^ u * 2 * 2 ^ (v - u - 1) := by
      rw [← Int.pow_succ, ← Int.pow_add]; congr 1; omega
    have p : (0:Int) < 2 ^ (v - u - 1) := Int.pow_pos (by decide)
    rw [e, ← Int.mul_assoc, ← Int.mul_assoc] at hv
    have : a * 2 ^ u * 2 * 1 ≤ a * 2 ^ u * 2 * 2 ^ (v - u - 1) := Int.mul_le_mul_of_nonneg_left (by omega) (by omega)
    omega
  have := key s t hs ht'
  have := key t s ht hs'
  omega

theorem lead_int (a : Int) (h : 0 < a) (h1 : a < 18446744073709551616) :
    64 - Lib.bitLen a.toNat < 64 ∧ 9223372036854775808 ≤ a * 2 ^ (64 - Lib.bitLen a.toNat) ∧ a * 2 ^ (64 - Lib.bitLen a.toNat) < 18446744073709551616 := by
  obtain ⟨x, y, c, d⟩ := FxMath.lead a.toNat (by omega) (by omega)
  have ey : ((a.toNat * 2 ^ (64 - Lib.bitLen a.toNat) : Nat) : Int) = a * 2 ^ (64 - Lib.bitLen a.toNat) := by
    rw [Int.natCast_mul, Int.toNat_of_nonneg (by omega), Int.natCast_pow]; rfl
  omega

theorem flog_at (a : Int) (s : Nat) (h : 0 < a) (h1 : a < 18446744073709551616) (hs : 9223372036854775808 ≤ a * 2 ^ s) (hs' : a * 2 ^ s < 18446744073709551616) :
    flog a = lgAt s (a * 2 ^ s - 9223372036854775808) := by
  obtain ⟨x, y, z⟩ := lead_int a h h1
  unfold flog
  rw [steps_one a _ s y z hs hs']

theorem flog_room (a : Int) (h : 0 < a) (h1 : a < 18446744073709551616) : -2097152 ≤ flog a ∧ flog a < 2097152 := by
  obtain ⟨x, y, z⟩ := lead_int a h h1
  have r := lgPart_range (a * 2 ^ (64 - Lib.bitLen a.toNat) - 9223372036854775808) (by omega) (by omega)
  unfold flog lgAt
  generalize lgPart _ = q at *
  omega

theorem flog_rises (a b : Int) (h : 0 < a) (hab : a ≤ b) (h1 : b < 18446744073709551616) : flog a ≤ flog b := by
  obtain ⟨x, y, z⟩ := lead_int a h (by omega)
  obtain ⟨x', y', z'⟩ := lead_int b (by omega) h1
  have ra := lgPart_range (a * 2 ^ (64 - Lib.bitLen a.toNat) - 9223372036854775808) (by omega) (by omega)
  have rb := lgPart_range (b * 2 ^ (64 - Lib.bitLen b.toNat) - 9223372036854775808) (by omega) (by omega)
  unfold flog lgAt
  generalize 64 - Lib.bitLen a.toNat = s at *
  generalize 64 - Lib.bitLen b.toNat = t at *
  have hst : t ≤ s := by
    apply Decidable.byContradiction
    intro hlt
    have e : (2:Int) ^ t = 2 ^ s * 2 * 2 ^ (t - s - 1) := by
      rw [← Int.pow_succ, ← Int.pow_add]; congr 1; omega
    have p : (0:Int) < 2 ^ (t - s - 1) := Int.pow_pos (by decide)
    have q : (0:Int) < 2 ^ s := Int.pow_pos (by decide)
    have ab : a * 2 ^ s ≤ b * 2 ^ s := Int.mul_le_mul_of_nonneg_right hab (Int.le_of_lt q)
    rw [e, ← Int.mul_assoc, ← Int.mul_assoc] at z'
    have : b * 2 ^ s * 2 * 1 ≤ b * 2 ^ s * 2 * 2 ^ (t - s - 1) := Int.mul_le_mul_of_nonneg_left (by omega) (by omega)
    omega
  by_cases hs : s = t
  · subst hs
    have q : (0:Int) < 2 ^ s := Int.pow_pos (by decide)
    have ab : a * 2 ^ s ≤ b * 2 ^ s := Int.mul_le_mul_of_nonneg_right hab (Int.le_of_lt q)
    have := lgPart_rises (a * 2 ^ s - 9223372036854775808) (b * 2 ^ s - 9223372036854775808) (by omega) (by omega) (by omega)
    omega
  · generalize lgPart _ = p at *
    generalize lgPart _ = q at *
    omega

theorem flog_double (a : Int) (h : 0 < a) (h1 : a < 9223372036854775808) : flog (2 * a) = flog a + 65536 := by
  obtain ⟨x, y, z⟩ := lead_int a h (by omega)
  have hs : 64 - Lib.bitLen a.toNat ≠ 0 := by
    intro e
    rw [e] at y
    omega
  obtain ⟨s, es⟩ := Nat.exists_eq_succ_of_ne_zero hs
  rw [flog_at a _ h (by omega) y z]
  rw [es] at y z ⊢
  have e : 2 * a * 2 ^ s = a * 2 ^ (s + 1) := by
    rw [Int.pow_succ, ← Int.mul_assoc, Int.mul_comm 2 a, Int.mul_assoc a 2, Int.mul_comm 2 (2 ^ s), Int.mul_assoc]
  have y2 : 9223372036854775808 ≤ 2 * a * 2 ^ s := by rw [e]; exact y
  have z2 : 2 * a * 2 ^ s < 18446744073709551616 := by rw [e]; exact z
  rw [flog_at (2 * a) s (by omega) (by omega) y2 z2, e]
  unfold lgAt
  generalize lgPart _ = p at *
  simp only [Nat.succ_eq_add_one]
  omega

/-- its other sign, with 32 bits behind the point -/
def fneg (a : Int) : Int := if 0 < flog a then 0 else -flog a * 65536
/-- to the natural base -/
def fln (a : Int) : Int := flog a * 45426 / 65536

theorem fneg_room (a : Int) (h : 0 < a) (h1 : a < 18446744073709551616) : 0 ≤ fneg a ∧ fneg a < 18446744073709551616 := by
  have := flog_room a h h1
  unfold fneg
  split <;> omega

theorem fneg_falls (a b : Int) (h : 0 < a) (hab : a ≤ b) (h1 : b < 18446744073709551616) : fneg b ≤ fneg a := by
  have := flog_rises a b h hab h1
  unfold fneg
  split <;> split <;> omega

theorem fln_room (a : Int) (h : 0 < a) (h1 : a < 18446744073709551616) : -2097152 ≤ fln a ∧ fln a < 2097152 := by
  have := flog_room a h h1
  unfold fln
  omega
end Go.Proofs.YtcjohgfmdnimjaaDoor

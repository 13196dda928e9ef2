/-
  Plain arithmetic under package fix and math/bits: no program in sight. Quotients digit by digit, roots bit by bit.
-/
import Derived.Lib.BitFns
namespace Go.Proofs.Ytemfdbnjncpbjaa.FxMath
set_option linter.unusedVariables false

/-! ### how many bits a number has -/
theorem bitLenAux_lt : ∀ (f x : Nat), x < 2 ^ f → x < 2 ^ Lib.bitLenAux f x
  | 0, x, h => by simpa [Lib.bitLenAux] using h
  | f + 1, x, h => by
    simp only [Lib.bitLenAux]
    split
    · next hx => subst hx; simp
    · have := bitLenAux_lt f (x / 2) (by rw [Nat.pow_succ] at h; omega)
      rw [Nat.add_comm, Nat.pow_succ]; omega

theorem bitLenAux_ge : ∀ (f x : Nat), 0 < x → x < 2 ^ f → 2 ^ Lib.bitLenAux f x ≤ 2 * x
  | 0, x, h, h1 => by simp at h1; omega
  | f + 1, x, h, h1 => by
    simp only [Lib.bitLenAux]
    rw [if_neg (by omega), Nat.add_comm, Nat.pow_succ]
    by_cases hx : x / 2 = 0
    · rw [hx]
      have : Lib.bitLenAux f 0 = 0 := by cases f <;> simp [Lib.bitLenAux]
      rw [this]; simp; omega
    · have := bitLenAux_ge f (x / 2) (by omega) (by rw [Nat.pow_succ] at h1; omega)
      omega

/-- A number of 64 bits, moved up by its leading noughts, has its highest bit set, and no more than 64 bits. -/
theorem lead (x : Nat) (h : 0 < x) (h1 : x < 18446744073709551616) :
    Lib.bitLen x ≤ 64 ∧ 0 < Lib.bitLen x ∧ 9223372036854775808 ≤ x * 2 ^ (64 - Lib.bitLen x) ∧ x * 2 ^ (64 - Lib.bitLen x) < 18446744073709551616 := by
  have hl := Lib.bitLen_le x 64 (by omega) (by simpa using h1)
  have ha := bitLenAux_lt 64 x (by simpa using h1)
  have hb := bitLenAux_ge 64 x h (by simpa using h1)
  unfold Lib.bitLen at *
  generalize Lib.bitLenAux 64 x = n at *
  have hn : 0 < n := by
    rcases Nat.eq_zero_or_pos n with e | e
    · subst e; simp at ha; omega
    · exact e
  refine ⟨hl, hn, ?_, ?_⟩
  · have e : (2:Nat) ^ n * 2 ^ (64 - n) = 18446744073709551616 := by rw [← Nat.pow_add, show n + (64 - n) = 64 by omega]
    have := Nat.mul_le_mul_right (2 ^ (64 - n)) hb
    rw [e, Nat.mul_assoc] at this
    omega
  · have e : (2:Nat) ^ n * 2 ^ (64 - n) = 18446744073709551616 := by rw [← Nat.pow_add, show n + (64 - n) = 64 by omega]
    have := Nat.mul_lt_mul_of_pos_right ha (Nat.two_pow_pos (64 - n))
    rw [e] at this; exact this

/-! ### one digit of a quotient: V has 64 bits, the highest set; U < V; d is a digit of 32 bits -/
/-- what is true of the guess q, and of what is left, r, at the head of the loop -/
def Guess (U V d q r : Int) : Prop :=
  q * (V / 4294967296) + r = U ∧ 0 ≤ r ∧ r < 4294967296 ∧ 0 ≤ q ∧ U * 4294967296 + d < q * V + V

theorem mulV (q V : Int) : q * V = 4294967296 * (q * (V / 4294967296)) + q * (V % 4294967296) := by
  have h : V = 4294967296 * (V / 4294967296) + V % 4294967296 := by omega
  conv => lhs; rw [h]
  rw [Int.mul_add, Int.mul_left_comm]

theorem guess_start (U V d : Int) (hU : 0 ≤ U) (hV : 9223372036854775808 ≤ V) (hV' : V < 18446744073709551616) (hd' : d < 4294967296) :
    Guess U V d (U / (V / 4294967296)) (U - U / (V / 4294967296) * (V / 4294967296)) := by
  have hv1 : 0 < V / 4294967296 := by omega
  have h1 := Int.mul_ediv_add_emod U (V / 4294967296)
  have h2 := Int.emod_nonneg U (show V / 4294967296 ≠ 0 by omega)
  have h3 := Int.emod_lt_of_pos U hv1
  rw [Int.mul_comm] at h1
  have hq : 0 ≤ U / (V / 4294967296) := Int.ediv_nonneg hU (by omega)
  have hz : 0 ≤ U / (V / 4294967296) * (V % 4294967296) := Int.mul_nonneg hq (by omega)
  have hm := mulV (U / (V / 4294967296)) V
  unfold Guess
  generalize U / (V / 4294967296) * (V / 4294967296) = P1 at *
  generalize U / (V / 4294967296) * (V % 4294967296) = P0 at *
  rw [hm]
  refine ⟨by omega, by omega, by omega, hq, by omega⟩

theorem guess_start_room (U V : Int) (hU : 0 ≤ U) (hU' : U < 18446744073709551616) (hV : 9223372036854775808 ≤ V) :
    (U.tdiv (V / 4294967296)) % 18446744073709551616 = U / (V / 4294967296) ∧
    (U - (U / (V / 4294967296) * (V / 4294967296)) % 18446744073709551616) % 18446744073709551616 = U - U / (V / 4294967296) * (V / 4294967296) := by
  have hv1 : 0 < V / 4294967296 := by omega
  have h1 := Int.mul_ediv_add_emod U (V / 4294967296)
  have h2 := Int.emod_nonneg U (show V / 4294967296 ≠ 0 by omega)
  have hq : 0 ≤ U / (V / 4294967296) := Int.ediv_nonneg hU (by omega)
  have hP := Int.mul_nonneg hq (show 0 ≤ V / 4294967296 by omega)
  have hle := Int.ediv_le_self (V / 4294967296) hU
  rw [Int.tdiv_eq_ediv_of_nonneg hU]
  rw [Int.mul_comm] at h1
  generalize U / (V / 4294967296) * (V / 4294967296) = P at *
  generalize U / (V / 4294967296) = q at *
  omega

/-- the guess is too great: one less will do -/
theorem guess_down (U V d q r : Int) (hV : 9223372036854775808 ≤ V) (hUV : U < V) (hd : 0 ≤ d) (hd' : d < 4294967296) (g : Guess U V d q r)
    (t : 4294967296 ≤ q ∨ 4294967296 * r + d < q * (V % 4294967296)) :
    1 ≤ q ∧ (q - 1) * (V / 4294967296) + (r + V / 4294967296) = U ∧ U * 4294967296 + d < (q - 1) * V + V := by
  obtain ⟨h1, h2, h3, h4, h5⟩ := g
  have hm := mulV q V
  have e1 : (q - 1) * (V / 4294967296) = q * (V / 4294967296) - V / 4294967296 := by rw [Int.sub_mul]; omega
  have e2 : (q - 1) * V = q * V - V := by rw [Int.sub_mul]; omega
  rw [e1, e2]
  rcases t with t | t
  · have := Int.mul_le_mul_of_nonneg_right t (show 0 ≤ V by omega)
    refine ⟨by omega, by omega, by omega⟩
  · have hq : 1 ≤ q := by
      rcases Int.lt_or_le q 1 with e | e
      · have : q = 0 := by omega
        subst this; simp at t; omega
      · exact e
    refine ⟨hq, by omega, by omega⟩

/-- the loop ends by its test: the guess is the quotient's digit -/
theorem guess_stop (U V d q r : Int) (hV : 9223372036854775808 ≤ V) (g : Guess U V d q r) (t : q * (V % 4294967296) ≤ 4294967296 * r + d) :
    q = (U * 4294967296 + d) / V := by
  obtain ⟨h1, h2, h3, h4, h5⟩ := g
  have hm := mulV q V
  have : q * V ≤ U * 4294967296 + d := by omega
  exact ((Int.ediv_emod_unique (show 0 < V by omega)).2 ⟨show (U * 4294967296 + d - q * V) + V * q = _ by rw [Int.mul_comm V q]; omega, by omega, by omega⟩).1.symm

/-- the loop ends by its break: so is it there -/
theorem guess_break (U V d q r : Int) (hd : 0 ≤ d) (hV : 9223372036854775808 ≤ V) (hUV : U < V) (hq : 0 ≤ q)
    (h1 : q * (V / 4294967296) + r = U) (h5 : U * 4294967296 + d < q * V + V) (t : 4294967296 ≤ r) :
    q = (U * 4294967296 + d) / V := by
  have hm := mulV q V
  have hq' : q < 4294967296 := by
    rcases Int.lt_or_le q 4294967296 with e | e
    · exact e
    · have := Int.mul_le_mul_of_nonneg_right e (show 0 ≤ V / 4294967296 by omega)
      omega
  have h6 : q * (V % 4294967296) ≤ 4294967295 * 4294967295 := by
    have a := Int.mul_le_mul (show q ≤ 4294967295 by omega) (show V % 4294967296 ≤ 4294967295 by omega) (by omega) (by omega)
    exact a
  have : q * V ≤ U * 4294967296 + d := by omega
  exact ((Int.ediv_emod_unique (show 0 < V by omega)).2 ⟨show (U * 4294967296 + d - q * V) + V * q = _ by rw [Int.mul_comm V q]; omega, by omega, by omega⟩).1.symm

/-- no product of the loop's test wraps -/
theorem guess_room (U V d q r : Int) (hV : 9223372036854775808 ≤ V) (hV' : V < 18446744073709551616) (hUV : U < V) (g : Guess U V d q r) :
    q ≤ 8589934592 ∧ (q < 4294967296 → q * (V % 4294967296) < 18446744073709551616 ∧ 0 ≤ q * (V % 4294967296)) := by
  obtain ⟨h1, h2, h3, h4, h5⟩ := g
  refine ⟨?_, fun h => ⟨?_, Int.mul_nonneg h4 (by omega)⟩⟩
  · rcases Int.lt_or_le 8589934592 q with e | e
    · have := Int.mul_le_mul (show 8589934593 ≤ q by omega) (show 2147483648 ≤ V / 4294967296 by omega) (by omega) (by omega)
      omega
    · exact e
  · have a := Int.mul_le_mul (show q ≤ 4294967295 by omega) (show V % 4294967296 ≤ 4294967295 by omega) (by omega) (by omega)
    omega

/-- what is left behind the digit, though the steps wrap -/
theorem rest_wraps (U V d : Int) (hV : 9223372036854775808 ≤ V) (hV' : V < 18446744073709551616) :
    ((U * 4294967296 % 18446744073709551616 + d) % 18446744073709551616 - ((U * 4294967296 + d) / V * V) % 18446744073709551616) % 18446744073709551616 = (U * 4294967296 + d) % V := by
  have h1 := Int.mul_ediv_add_emod (U * 4294967296 + d) V
  have h2 := Int.emod_nonneg (U * 4294967296 + d) (show V ≠ 0 by omega)
  have h3 := Int.emod_lt_of_pos (U * 4294967296 + d) (show 0 < V by omega)
  rw [Int.mul_comm] at h1
  generalize (U * 4294967296 + d) / V * V = P at *
  omega

/-- two digits are the quotient -/
theorem two_digits (U V d e : Int) (hV : 0 < V) :
    (U * 18446744073709551616 + d * 4294967296 + e) / V = (U * 4294967296 + d) / V * 4294967296 + ((U * 4294967296 + d) % V * 4294967296 + e) / V := by
  have h1 := Int.mul_ediv_add_emod (U * 4294967296 + d) V
  have e1 : U * 18446744073709551616 + d * 4294967296 + e = ((U * 4294967296 + d) % V * 4294967296 + e) + V * ((U * 4294967296 + d) / V * 4294967296) := by
    rw [← Int.mul_assoc]; omega
  rw [e1, Int.add_mul_ediv_left _ _ (by omega)]
  omega

theorem two_digits_rest (U V d e : Int) :
    (U * 18446744073709551616 + d * 4294967296 + e) % V = ((U * 4294967296 + d) % V * 4294967296 + e) % V := by
  have h1 := Int.mul_ediv_add_emod (U * 4294967296 + d) V
  have e1 : U * 18446744073709551616 + d * 4294967296 + e = ((U * 4294967296 + d) % V * 4294967296 + e) + V * ((U * 4294967296 + d) / V * 4294967296) := by
    rw [← Int.mul_assoc]; omega
  rw [e1, Int.add_mul_emod_self_left]

/-- a digit is one: below 2^32 -/
theorem digit_lt (U V d : Int) (hU : 0 ≤ U) (hUV : U < V) (hd : 0 ≤ d) (hd' : d < 4294967296) : 0 ≤ (U * 4294967296 + d) / V ∧ (U * 4294967296 + d) / V < 4294967296 :=
  ⟨Int.ediv_nonneg (by omega) (by omega), Int.ediv_lt_of_lt_mul (by omega) (by omega)⟩

/-- the end of the division: what is told -/
theorem div_ends (U V L : Int) (hU : 0 ≤ U) (hUV : U < V) (hV : 9223372036854775808 ≤ V) (hV' : V < 18446744073709551616) :
    ((U * 4294967296 + L % 18446744073709551616 / 4294967296) / V * 4294967296 % 18446744073709551616 +
        ((U * 4294967296 + L % 18446744073709551616 / 4294967296) % V * 4294967296 + L % 4294967296) / V) % 18446744073709551616 = (U * 18446744073709551616 + L % 18446744073709551616) / V ∧
    (((U * 4294967296 + L % 18446744073709551616 / 4294967296) % V * 4294967296 % 18446744073709551616 + L % 4294967296) % 18446744073709551616 -
        ((U * 4294967296 + L % 18446744073709551616 / 4294967296) % V * 4294967296 + L % 4294967296) / V * V % 18446744073709551616) % 18446744073709551616 = (U * 18446744073709551616 + L % 18446744073709551616) % V := by
  have a1 := digit_lt U V (L % 18446744073709551616 / 4294967296) hU hUV (by omega) (by omega)
  have r1 := Int.emod_nonneg (U * 4294967296 + L % 18446744073709551616 / 4294967296) (show V ≠ 0 by omega)
  have r2 := Int.emod_lt_of_pos (U * 4294967296 + L % 18446744073709551616 / 4294967296) (show 0 < V by omega)
  have a2 := digit_lt ((U * 4294967296 + L % 18446744073709551616 / 4294967296) % V) V (L % 4294967296) r1 r2 (by omega) (by omega)
  have e := two_digits U V (L % 18446744073709551616 / 4294967296) (L % 4294967296) (by omega)
  have f := two_digits_rest U V (L % 18446744073709551616 / 4294967296) (L % 4294967296)
  have g : U * 18446744073709551616 + L % 18446744073709551616 / 4294967296 * 4294967296 + L % 4294967296 = U * 18446744073709551616 + L % 18446744073709551616 := by omega
  rw [g] at e f
  refine ⟨?_, ?_⟩
  · rw [e]; omega
  · rw [f]; exact rest_wraps _ V _ hV hV'

/-! ### the high word of a product, by halves -/
theorem halves (x1 x0 y1 y0 : Int) : (x1 * 4294967296 + x0) * (y1 * 4294967296 + y0) = x1 * y1 * 18446744073709551616 + (x1 * y0 + x0 * y1) * 4294967296 + x0 * y0 := by
  have e1 : x1 * 4294967296 * (y1 * 4294967296) = x1 * y1 * 18446744073709551616 := by
    rw [Int.mul_assoc, ← Int.mul_assoc 4294967296 y1 4294967296, Int.mul_comm 4294967296 y1, Int.mul_assoc, Int.mul_assoc]; rfl
  have e2 : x1 * 4294967296 * y0 = x1 * y0 * 4294967296 := by rw [Int.mul_right_comm]
  have e3 : x0 * (y1 * 4294967296) = x0 * y1 * 4294967296 := by rw [Int.mul_assoc]
  rw [Int.add_mul, Int.mul_add, Int.mul_add, e1, e2, e3]
  omega

theorem mul_high (x y : Int) (h0 : 0 ≤ x) (k0 : 0 ≤ y) (hx : x < 18446744073709551616) (hy : y < 18446744073709551616) :
    (((x / 4294967296 * (y / 4294967296)) % 18446744073709551616 +
          ((x / 4294967296 * (y % 4294967296)) % 18446744073709551616 + (x % 4294967296 * (y % 4294967296)) % 18446744073709551616 / 4294967296) % 18446744073709551616 / 4294967296) % 18446744073709551616 +
        (((x / 4294967296 * (y % 4294967296)) % 18446744073709551616 + (x % 4294967296 * (y % 4294967296)) % 18446744073709551616 / 4294967296) % 4294967296 +
              (x % 4294967296 * (y / 4294967296)) % 18446744073709551616) % 18446744073709551616 / 4294967296) % 18446744073709551616 =
      x * y / 18446744073709551616 := by
  have e := halves (x / 4294967296) (x % 4294967296) (y / 4294967296) (y % 4294967296)
  rw [show x / 4294967296 * 4294967296 + x % 4294967296 = x by omega, show y / 4294967296 * 4294967296 + y % 4294967296 = y by omega] at e
  have le (a b : Int) (ha : 0 ≤ a) (ha' : a ≤ 4294967295) (hb : 0 ≤ b) (hb' : b ≤ 4294967295) : 0 ≤ a * b ∧ a * b ≤ 18446744065119617025 :=
    ⟨Int.mul_nonneg ha hb, Int.mul_le_mul ha' hb' hb (by omega)⟩
  have b1 := le (x / 4294967296) (y / 4294967296) (by omega) (by omega) (by omega) (by omega)
  have b2 := le (x / 4294967296) (y % 4294967296) (by omega) (by omega) (by omega) (by omega)
  have b3 := le (x % 4294967296) (y / 4294967296) (by omega) (by omega) (by omega) (by omega)
  have b4 := le (x % 4294967296) (y % 4294967296) (by omega) (by omega) (by omega) (by omega)
  rw [e]
  generalize x / 4294967296 * (y / 4294967296) = a at *
  generalize x / 4294967296 * (y % 4294967296) = b at *
  generalize x % 4294967296 * (y / 4294967296) = c at *
  generalize x % 4294967296 * (y % 4294967296) = d at *
  clear e
  omega

/-! ### a number's length, from its highest byte -/
theorem len_top (x d : Int) (c : Nat) (hd : d = 2 ^ c) (h0 : 0 ≤ x) (hc : c = 0 ∨ d ≤ x) (h1 : x < 256 * d) (hx : x ≤ 18446744073709551615) :
    (Lib.bitLen x.toNat : Int) = c + Lib.len8 (x / d % 256) ∧ 0 ≤ Lib.len8 (x / d % 256) ∧ Lib.len8 (x / d % 256) ≤ 8 := by
  have hd0 : 0 < d := by rw [hd]; exact Int.pow_pos (by decide)
  have hq : x / d < 256 := Int.ediv_lt_of_lt_mul hd0 h1
  have hq0 : 0 ≤ x / d := Int.ediv_nonneg h0 (by omega)
  have em : x / d % 256 = x / d := Int.emod_eq_of_lt hq0 hq
  have l8 := Lib.len8_of (x / d % 256) (by omega) (by omega)
  have le := Lib.bitLen_le8' (x / d % 256) (by omega) (by omega)
  refine ⟨?_, by omega, by omega⟩
  rw [l8, em]
  have et : (x / d).toNat = x.toNat / 2 ^ c := by
    have : ((x.toNat / 2 ^ c : Nat) : Int) = x / d := by
      rw [Int.natCast_ediv, Int.toNat_of_nonneg h0, hd]; rfl
    omega
  rw [et]
  rcases hc with hc | hc
  · subst hc; simp
  · rw [Lib.bitLen_shift c x.toNat (by
      have : ((2 ^ c : Nat) : Int) = d := by rw [hd]; exact Int.natCast_pow 2 c
      omega) (by omega)]
    omega

/-! ### both words moved up, so that the divisor's highest bit is set -/
theorem norm_lo (lo : Int) (s : Nat) (hs : s < 64) (hl : 0 ≤ lo) (hl' : lo < 18446744073709551616) :
    0 ≤ lo / 2 ^ (64 - s) ∧ lo / 2 ^ (64 - s) < 2 ^ s ∧ lo * 2 ^ s = lo / 2 ^ (64 - s) * 18446744073709551616 + lo * 2 ^ s % 18446744073709551616 := by
  have hp : (2:Int) ^ (64 - s) * 2 ^ s = 18446744073709551616 := by rw [← Int.pow_add, show 64 - s + s = 64 by omega]; rfl
  have p1 : (0:Int) < 2 ^ (64 - s) := Int.pow_pos (by decide)
  have p2 : (0:Int) < 2 ^ s := Int.pow_pos (by decide)
  have h1 := Int.mul_ediv_add_emod lo (2 ^ (64 - s))
  have h2 := Int.emod_nonneg lo (show (2:Int) ^ (64 - s) ≠ 0 by omega)
  have h3 := Int.emod_lt_of_pos lo p1
  have e : lo * 2 ^ s = lo / 2 ^ (64 - s) * 18446744073709551616 + lo % 2 ^ (64 - s) * 2 ^ s := by
    conv => lhs; rw [← h1]
    rw [Int.add_mul, Int.mul_comm (2 ^ (64 - s)), Int.mul_assoc, hp]
  have b1 : 0 ≤ lo % 2 ^ (64 - s) * 2 ^ s := Int.mul_nonneg h2 (by omega)
  have b2 : lo % 2 ^ (64 - s) * 2 ^ s < 18446744073709551616 := by
    have := Int.mul_lt_mul_of_pos_right h3 p2
    rw [hp] at this; exact this
  refine ⟨Int.ediv_nonneg hl (by omega), ?_, ?_⟩
  · apply Int.ediv_lt_of_lt_mul p1; rw [Int.mul_comm, hp]; exact hl'
  · generalize lo / 2 ^ (64 - s) = a at *
    generalize lo % 2 ^ (64 - s) * 2 ^ s = b at *
    generalize lo * 2 ^ s = c at *
    omega

theorem norm_hi (hi y a : Int) (s : Nat) (hh : 0 ≤ hi) (hy : hi < y) (hV : y * 2 ^ s < 18446744073709551616) (ha : 0 ≤ a) (ha' : a < 2 ^ s) :
    0 ≤ hi * 2 ^ s ∧ hi * 2 ^ s < 18446744073709551616 ∧ hi * 2 ^ s + a < y * 2 ^ s := by
  have p2 : (0:Int) < 2 ^ s := Int.pow_pos (by decide)
  have h := Int.mul_le_mul_of_nonneg_right (show hi + 1 ≤ y by omega) (show (0:Int) ≤ 2 ^ s by omega)
  rw [Int.add_mul] at h
  have := Int.mul_nonneg hh (show (0:Int) ≤ 2 ^ s by omega)
  omega

/-- a quotient, and what is left, of two numbers that were moved up alike -/
theorem div_moved (x y : Int) (s : Nat) : x * 2 ^ s / (y * 2 ^ s) = x / y ∧ x * 2 ^ s % (y * 2 ^ s) = x % y * 2 ^ s := by
  have p2 : (0:Int) < 2 ^ s := Int.pow_pos (by decide)
  refine ⟨Int.mul_ediv_mul_of_pos_left _ _ p2, ?_⟩
  rw [Int.mul_comm x, Int.mul_comm y, Int.mul_emod_mul_of_pos _ _ p2, Int.mul_comm]

/-! ### a root, bit by bit -/
theorem sq_add (r t : Int) : (r + t) * (r + t) = r * r + 2 * (r * t) + t * t := by
  rw [Int.add_mul, Int.mul_add, Int.mul_add, Int.mul_comm t r]; omega

/-- what is true of the root's high bits, c times 2^k, at the head of the loop -/
def Rooted (A : Int) (k : Nat) (c : Int) : Prop :=
  0 ≤ c ∧ (c + 1) * 2 ^ k ≤ 281474976710656 ∧ (c * 2 ^ k) * (c * 2 ^ k) ≤ A ∧ A < ((c + 1) * 2 ^ k) * ((c + 1) * 2 ^ k)

theorem rooted_start (A : Int) (h0 : 0 ≤ A) (h1 : A < 79228162514264337593543950336) : Rooted A 48 0 := by
  refine ⟨by omega, by decide, by simpa using h0, ?_⟩
  simp; omega

theorem two_c (c : Int) (k : Nat) : c * 2 ^ (k + 1) + 2 ^ k = (2 * c + 1) * 2 ^ k ∧ c * 2 ^ (k + 1) = 2 * c * 2 ^ k ∧ (c + 1) * 2 ^ (k + 1) = (2 * c + 1 + 1) * 2 ^ k := by
  rw [Int.pow_succ]
  generalize (2:Int) ^ k = t
  refine ⟨?_, ?_, ?_⟩
  · rw [Int.add_mul, Int.mul_comm t 2, ← Int.mul_assoc, Int.mul_comm c 2]; omega
  · rw [Int.mul_comm t 2, ← Int.mul_assoc, Int.mul_comm c 2]
  · rw [Int.mul_comm t 2, ← Int.mul_assoc, Int.mul_comm (c + 1) 2]; congr 1; omega

theorem root_yes (A : Int) (k : Nat) (c : Int) (g : Rooted A (k + 1) c) (t : ((2 * c + 1) * 2 ^ k) * ((2 * c + 1) * 2 ^ k) ≤ A) : Rooted A k (2 * c + 1) := by
  obtain ⟨a, b, d, e⟩ := g
  obtain ⟨_, _, h3⟩ := two_c c k
  rw [h3] at b e
  exact ⟨by omega, b, t, e⟩

theorem root_no (A : Int) (k : Nat) (c : Int) (g : Rooted A (k + 1) c) (t : A < ((2 * c + 1) * 2 ^ k) * ((2 * c + 1) * 2 ^ k)) : Rooted A k (2 * c) := by
  obtain ⟨a, b, d, e⟩ := g
  obtain ⟨_, h2, h3⟩ := two_c c k
  rw [h3] at b e
  rw [h2] at d
  have p : (0:Int) < 2 ^ k := Int.pow_pos (by decide)
  refine ⟨by omega, ?_, d, t⟩
  rw [Int.add_mul _ 1, Int.one_mul] at b
  omega

theorem root_room (A : Int) (k : Nat) (c : Int) (g : Rooted A k c) : 0 ≤ c * 2 ^ k ∧ c * 2 ^ k < 281474976710656 ∧ c * 2 ^ k + 2 ^ k ≤ 281474976710656 ∧ (0:Int) < 2 ^ k := by
  obtain ⟨a, b, d, e⟩ := g
  have p : (0:Int) < 2 ^ k := Int.pow_pos (by decide)
  have := Int.mul_nonneg a (show (0:Int) ≤ 2 ^ k by omega)
  rw [Int.add_mul, Int.one_mul] at b
  omega

end Go.Proofs.Ytemfdbnjncpbjaa.FxMath

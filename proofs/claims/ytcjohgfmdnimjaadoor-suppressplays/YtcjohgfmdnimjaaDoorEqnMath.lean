/-
  The rate as plain numbers: the root, the divisor, the rate; how it goes with p, rtt and size; what the loss of a rate is.
-/
import Derived.Test.YtcjohgfmdnimjaaDoorFix
namespace Go.Proofs.YtcjohgfmdnimjaaDoor
set_option linter.unusedVariables false
open Go.RowKit

/-! ### the root as a function -/
/-- the root's bits from the k-th down, c being those above -/
def rootFrom (A : Int) : Nat → Int → Int
  | 0, c => c
  | k + 1, c => if ((2 * c + 1) * 2 ^ k) * ((2 * c + 1) * 2 ^ k) ≤ A then rootFrom A k (2 * c + 1) else rootFrom A k (2 * c)

/-- the root of a number of fix -/
def froot (a : Int) : Int := rootFrom (a * 4294967296) 48 0

theorem rootFrom_ok (A : Int) : ∀ (k : Nat) (c : Int), FxMath.Rooted A k c →
    0 ≤ rootFrom A k c ∧ rootFrom A k c < 281474976710656 ∧ rootFrom A k c * rootFrom A k c ≤ A ∧ A < (rootFrom A k c + 1) * (rootFrom A k c + 1)
  | 0, c, g => by
    have b := FxMath.root_room _ _ _ g
    obtain ⟨g1, g2, g3, g4⟩ := g
    simp only [Int.pow_zero, Int.mul_one] at g3 g4 b
    exact ⟨g1, b.2.1, g3, g4⟩
  | k + 1, c, g => by
    rw [rootFrom]
    by_cases t : ((2 * c + 1) * 2 ^ k) * ((2 * c + 1) * 2 ^ k) ≤ A
    · rw [if_pos t]; exact rootFrom_ok A k _ (FxMath.root_yes A k c g t)
    · rw [if_neg t]; exact rootFrom_ok A k _ (FxMath.root_no A k c g (by omega))

theorem froot_ok (a : Int) (ha : 0 ≤ a) (ha' : a < 18446744073709551616) :
    0 ≤ froot a ∧ froot a < 281474976710656 ∧ froot a * froot a ≤ a * 4294967296 ∧ a * 4294967296 < (froot a + 1) * (froot a + 1) :=
  rootFrom_ok _ 48 0 (FxMath.rooted_start (a * 4294967296) (by omega) (by omega))

theorem root_le (r s A B : Int) (hs : 0 ≤ s) (h1 : r * r ≤ A) (h2 : B < (s + 1) * (s + 1)) (h : A ≤ B) : r ≤ s := by
  rcases Int.lt_or_le s r with k | k
  · have := Int.mul_le_mul (show s + 1 ≤ r by omega) (show s + 1 ≤ r by omega) (by omega) (by omega)
    omega
  · exact k

theorem froot_mono (a b : Int) (ha : 0 ≤ a) (h : a ≤ b) (hb : b < 18446744073709551616) : froot a ≤ froot b := by
  have ⟨_, _, h1, _⟩ := froot_ok a ha (by omega)
  have ⟨h2, _, _, h3⟩ := froot_ok b (by omega) hb
  exact root_le _ _ _ _ h2 h1 h3 (by omega)

theorem froot_is (a r : Int) (ha : 0 ≤ a) (ha' : a < 18446744073709551616) (h0 : 0 ≤ r) (h1 : r * r ≤ a * 4294967296) (h2 : a * 4294967296 < (r + 1) * (r + 1)) : r = froot a := by
  have ⟨k0, _, k1, k2⟩ := froot_ok a ha ha'
  have e1 := root_le _ _ _ _ k0 h1 k2 (Int.le_refl _)
  have e2 := root_le _ _ _ _ h0 k1 h2 (Int.le_refl _)
  omega

/-! ### each step's room, and that it goes one way -/
theorem fadd_room (a b : Int) (ha : 0 ≤ a) (hb : 0 ≤ b) : 0 ≤ fadd a b ∧ fadd a b < 18446744073709551616 := by
  unfold fadd; split <;> omega
theorem fadd_mono (a b c d : Int) (h : a ≤ c) (k : b ≤ d) : fadd a b ≤ fadd c d := by
  unfold fadd; split <;> split <;> omega
theorem fadd_ge (a b : Int) (ha' : a < 18446744073709551616) (hb : 0 ≤ b) : a ≤ fadd a b := by
  unfold fadd; split <;> omega
theorem ftimes_room (a b : Int) (ha : 0 ≤ a) (hb : 0 ≤ b) : 0 ≤ ftimes a b ∧ ftimes a b < 18446744073709551616 := by
  have := Int.mul_nonneg ha hb
  unfold ftimes; split <;> omega
theorem ftimes_mono (a b c d : Int) (ha : 0 ≤ a) (hb : 0 ≤ b) (h : a ≤ c) (k : b ≤ d) : ftimes a b ≤ ftimes c d := by
  have := Int.mul_le_mul h k hb (by omega)
  unfold ftimes; split <;> split <;> omega

theorem fratio_room (a b : Int) (ha : 0 ≤ a) (hb : 0 ≤ b) (ha' : a < 18446744073709551616) : 0 ≤ fratio a b ∧ fratio a b < 18446744073709551616 := by
  unfold fratio
  split
  · omega
  · next h => exact ⟨Int.ediv_nonneg (by omega) hb, Int.ediv_lt_of_lt_mul (by omega) (by omega)⟩

/-- a greater dividend never has a lesser quotient -/
theorem fratio_up (a c b : Int) (ha : 0 ≤ a) (hb : 0 ≤ b) (h : a ≤ c) : fratio a b ≤ fratio c b := by
  unfold fratio
  by_cases h2 : b ≤ c / 4294967296
  · rw [if_pos h2]
    by_cases h1 : b ≤ a / 4294967296
    · rw [if_pos h1]; omega
    · rw [if_neg h1]
      have : a * 4294967296 / b < 18446744073709551616 := Int.ediv_lt_of_lt_mul (by omega) (by omega)
      omega
  · rw [if_neg h2, if_neg (by omega)]
    exact Int.ediv_le_ediv (by omega) (by omega)

/-- a greater divisor never has a greater quotient -/
theorem fratio_down (a b d : Int) (ha : 0 ≤ a) (hb : 0 ≤ b) (h : b ≤ d) : fratio a d ≤ fratio a b := by
  unfold fratio
  by_cases h2 : b ≤ a / 4294967296
  · rw [if_pos h2]
    by_cases h1 : d ≤ a / 4294967296
    · rw [if_pos h1]; omega
    · rw [if_neg h1]
      have : a * 4294967296 / d < 18446744073709551616 := Int.ediv_lt_of_lt_mul (by omega) (by omega)
      omega
  · rw [if_neg h2, if_neg (by omega)]
    have hq : 0 ≤ a * 4294967296 / d := Int.ediv_nonneg (by omega) (by omega)
    apply (Int.le_ediv_iff_mul_le (by omega)).2
    have h1 := Int.ediv_mul_le (a * 4294967296) (show d ≠ 0 by omega)
    have h2 := Int.mul_le_mul_of_nonneg_left h hq
    omega

/-! ### the rate -/
/-- the sum by which the round trip is multiplied -/
def fpart (p : Int) : Int :=
  fadd (froot (ftimes p 2863311530)) (ftimes (ftimes 51539607552 (froot (ftimes p 1610612736))) (ftimes p (fadd 4294967296 (ftimes 137438953472 (ftimes p p)))))
/-- what the size is divided by -/
def fdivisor (rtt p : Int) : Int := ftimes rtt (fpart p)
/-- the rate -/
def frate (size rtt p : Int) : Int := fratio (size * 4294967296) (fdivisor rtt p)

theorem fpart_room (p : Int) (h0 : 0 ≤ p) (h1 : p < 18446744073709551616) : 0 ≤ fpart p ∧ fpart p < 18446744073709551616 := by
  have a1 := ftimes_room p 2863311530 h0 (by decide)
  have a2 := froot_ok _ a1.1 a1.2
  have b1 := ftimes_room p 1610612736 h0 (by decide)
  have b2 := froot_ok _ b1.1 b1.2
  have b3 := ftimes_room 51539607552 _ (by decide) b2.1
  have c1 := ftimes_room p p h0 h0
  have c2 := ftimes_room 137438953472 _ (by decide) c1.1
  have c3 := fadd_room 4294967296 _ (by decide) c2.1
  have c4 := ftimes_room p _ h0 c3.1
  have d1 := ftimes_room _ _ b3.1 c4.1
  exact fadd_room _ _ a2.1 d1.1

theorem fpart_mono (p q : Int) (h0 : 0 ≤ p) (h : p ≤ q) (h1 : q < 18446744073709551616) : fpart p ≤ fpart q := by
  have a1 := ftimes_room p 2863311530 h0 (by decide)
  have b1 := ftimes_room p 1610612736 h0 (by decide)
  have b2 := froot_ok _ b1.1 b1.2
  have b3 := ftimes_room 51539607552 _ (by decide) b2.1
  have c1 := ftimes_room p p h0 h0
  have c2 := ftimes_room 137438953472 _ (by decide) c1.1
  have c3 := fadd_room 4294967296 _ (by decide) c2.1
  have c4 := ftimes_room p _ h0 c3.1
  have A1 := ftimes_room q 2863311530 (by omega) (by decide)
  have B1 := ftimes_room q 1610612736 (by omega) (by decide)
  have ma := froot_mono _ _ a1.1 (ftimes_mono p 2863311530 q 2863311530 h0 (by decide) h (by decide)) A1.2
  have mb := froot_mono _ _ b1.1 (ftimes_mono p 1610612736 q 1610612736 h0 (by decide) h (by decide)) B1.2
  have mb3 := ftimes_mono 51539607552 _ 51539607552 _ (by decide) b2.1 (by decide) mb
  have mc := ftimes_mono p p q q h0 h0 h h
  have mc2 := ftimes_mono 137438953472 _ 137438953472 _ (by decide) c1.1 (by decide) mc
  have mc3 := fadd_mono 4294967296 _ 4294967296 _ (by decide) mc2
  have mc4 := ftimes_mono _ _ _ _ h0 c3.1 h mc3
  exact fadd_mono _ _ _ _ ma (ftimes_mono _ _ _ _ b3.1 c4.1 mb3 mc4)

theorem fdivisor_room (rtt p : Int) (k0 : 0 ≤ rtt) (h0 : 0 ≤ p) (h1 : p < 18446744073709551616) : 0 ≤ fdivisor rtt p ∧ fdivisor rtt p < 18446744073709551616 :=
  ftimes_room _ _ k0 (fpart_room p h0 h1).1

theorem frate_room (size rtt p : Int) (s0 : 0 ≤ size) (s1 : size < 4294967296) (k0 : 0 ≤ rtt) (h0 : 0 ≤ p) (h1 : p < 18446744073709551616) : 0 ≤ frate size rtt p ∧ frate size rtt p < 18446744073709551616 :=
  fratio_room _ _ (by omega) (fdivisor_room rtt p k0 h0 h1).1 (by omega)

theorem frate_p (size rtt p q : Int) (s0 : 0 ≤ size) (k0 : 0 ≤ rtt) (h0 : 0 ≤ p) (h : p ≤ q) (h1 : q < 18446744073709551616) : frate size rtt q ≤ frate size rtt p :=
  fratio_down _ _ _ (by omega) (fdivisor_room rtt p k0 h0 (by omega)).1 (ftimes_mono _ _ _ _ k0 (fpart_room p h0 (by omega)).1 (Int.le_refl _) (fpart_mono p q h0 h h1))

theorem frate_rtt (size rtt rtt' p : Int) (s0 : 0 ≤ size) (k0 : 0 ≤ rtt) (h : rtt ≤ rtt') (h0 : 0 ≤ p) (h1 : p < 18446744073709551616) : frate size rtt' p ≤ frate size rtt p :=
  fratio_down _ _ _ (by omega) (fdivisor_room rtt p k0 h0 h1).1 (ftimes_mono _ _ _ _ k0 (fpart_room p h0 h1).1 h (Int.le_refl _))

theorem frate_size (size size' rtt p : Int) (s0 : 0 ≤ size) (h : size ≤ size') (k0 : 0 ≤ rtt) (h0 : 0 ≤ p) (h1 : p < 18446744073709551616) : frate size rtt p ≤ frate size' rtt p :=
  fratio_up _ _ _ (by omega) (fdivisor_room rtt p k0 h0 h1).1 (by omega)

/-- a divisor of 0 has the greatest number as its rate -/
theorem frate_zero (size rtt p : Int) (s0 : 0 ≤ size) (h : fdivisor rtt p = 0) : frate size rtt p = 18446744073709551615 := by
  unfold frate fratio; rw [h, if_pos (by omega)]

theorem fdivisor_zero (rtt : Int) : fdivisor rtt 0 = 0 := by
  have : fpart 0 = 0 := by decide +kernel
  unfold fdivisor; rw [this]; unfold ftimes; rw [Int.mul_zero]; rfl

theorem frate_known : frate 1000 4294967296 42949672 = 48246328655604 := by decide +kernel

/-! ### the loss of a rate -/
/-- r is the least p from 1 to One whose rate isn't above this one, or One -/
def IsLoss (size rtt rate r : Int) : Prop :=
  1 ≤ r ∧ r ≤ 4294967296 ∧ (r < 4294967296 → frate size rtt r ≤ rate) ∧ ∀ q, 1 ≤ q → q < r → rate < frate size rtt q

theorem IsLoss.same {size rtt rate r s : Int} (h : IsLoss size rtt rate r) (k : IsLoss size rtt rate s) : r = s := by
  obtain ⟨h1, h2, h3, h4⟩ := h
  obtain ⟨k1, k2, k3, k4⟩ := k
  rcases Int.lt_or_le r s with e | e
  · have := k4 r h1 e
    have := h3 (by omega)
    omega
  · rcases Int.lt_or_le s r with e' | e'
    · have := h4 s k1 e'
      have := k3 (by omega)
      omega
    · omega

/-- what is true of low and high at the head of Loss's loop -/
def Seek (size rtt rate l h : Int) : Prop :=
  1 ≤ l ∧ l ≤ h ∧ h ≤ 4294967296 ∧ (h < 4294967296 → frate size rtt h ≤ rate) ∧ ∀ q, 1 ≤ q → q < l → rate < frate size rtt q

theorem seek_start (size rtt rate : Int) : Seek size rtt rate 1 4294967296 :=
  ⟨by omega, by omega, by omega, by omega, by omega⟩

theorem seek_yes (size rtt rate l h m : Int) (g : Seek size rtt rate l h) (hm : l ≤ m) (hm' : m < h) (t : frate size rtt m ≤ rate) : Seek size rtt rate l m := by
  obtain ⟨h1, h2, h3, h4, h5⟩ := g
  exact ⟨h1, hm, by omega, fun _ => t, h5⟩

theorem seek_no (size rtt rate l h m : Int) (s0 : 0 ≤ size) (k0 : 0 ≤ rtt) (g : Seek size rtt rate l h) (hm : l ≤ m) (hm' : m < h) (t : rate < frate size rtt m) : Seek size rtt rate (m + 1) h := by
  obtain ⟨h1, h2, h3, h4, h5⟩ := g
  refine ⟨by omega, by omega, h3, h4, fun q hq hq' => ?_⟩
  have := frate_p size rtt q m s0 k0 (by omega) (by omega) (by omega)
  omega

theorem seek_end (size rtt rate l h : Int) (g : Seek size rtt rate l h) (t : ¬ l < h) : IsLoss size rtt rate h := by
  obtain ⟨h1, h2, h3, h4, h5⟩ := g
  have : l = h := by omega
  subst this
  exact ⟨h1, h3, h4, h5⟩

/-- what First tells -/
def ffirst (r : Int) : Int := fratio 4294967296 r / 4294967296

theorem ffirst_is (r : Int) (h1 : 1 ≤ r) (h2 : r ≤ 4294967296) : ffirst r = max (min (4294967296 / r) 4294967295) 1 := by
  unfold ffirst fratio
  by_cases h : r = 1
  · subst h; rfl
  · rw [if_neg (by omega), Int.ediv_ediv_of_nonneg (by omega), Int.mul_ediv_mul_of_pos_left _ _ (by omega)]
    have e1 : 1 ≤ 4294967296 / r := (Int.le_ediv_iff_mul_le (by omega)).2 (by omega)
    have e2 : 4294967296 / r < 4294967296 := Int.ediv_lt_of_lt_mul (by omega) (by omega)
    omega

theorem ffirst_ge (r : Int) (h1 : 1 ≤ r) (h2 : r ≤ 42949672) : 100 ≤ ffirst r := by
  have := fratio_down 4294967296 r 42949672 (by decide) (by omega) h2
  rw [show fratio 4294967296 42949672 = 429496739200 by decide] at this
  unfold ffirst
  omega
end Go.Proofs.YtcjohgfmdnimjaaDoor

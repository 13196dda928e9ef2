/-
  Rates halved layer by layer, shares, how many of a row's first rates are enough: as plain numbers; no program.
-/
import Derived.Test.YtemfdbnjncpbjaaProg
import Derived.Lib.Hide
namespace Go.Proofs.Ytemfdbnjncpbjaa.Spl
set_option linter.unusedVariables false

/-- a word of 64 bits -/
def Wd (x : Int) : Prop := 0 ≤ x ∧ x ≤ 18446744073709551615

/-- halved n times -/
def hv : Nat → Int → Int
  | 0, r => r
  | n + 1, r => hv n r / 2
theorem hv_room {r : Int} (h : Wd r) : ∀ n, Wd (hv n r)
  | 0 => h
  | n + 1 => by
    have := hv_room h n
    unfold Wd at *
    simp only [hv]
    omega
theorem hv_pow (r : Int) : ∀ n : Nat, hv n r = r / 2 ^ n
  | 0 => by simp [hv]
  | n + 1 => by
    rw [hv, hv_pow r n, Int.pow_succ, Int.ediv_ediv_of_nonneg (Int.pow_nonneg (by decide))]

/-- the cumulative rate of layer k -/
def cum (r : Int) (L k : Nat) : Int := hv (L - 1 - k) r
theorem cum_room {r : Int} (h : Wd r) (L k : Nat) : Wd (cum r L k) := hv_room h _
theorem cum_last (r : Int) {L : Nat} (h : 0 < L) : cum r L (L - 1) = r := by
  unfold cum
  rw [Nat.sub_self]
  rfl
theorem cum_step (r : Int) {L k : Nat} (h : k + 1 < L) : cum r L k = cum r L (k + 1) / 2 := by
  unfold cum
  rw [show L - 1 - k = (L - 1 - (k + 1)) + 1 by omega]
  rfl
theorem cum_rises {r : Int} (hr : Wd r) {L k : Nat} (h : k + 1 < L) : cum r L k ≤ cum r L (k + 1) := by
  have h1 := cum_room hr L (k + 1)
  unfold Wd at h1
  rw [cum_step r h]
  omega
/-- all of them -/
def cums (r : Int) (L : Nat) : List Int := (List.range L).map (cum r L)
theorem cums_length (r : Int) (L : Nat) : (cums r L).length = L := by simp [cums]
theorem cums_at (r : Int) {L k : Nat} (h : k < L) : (cums r L)[k]? = some (cum r L k) := by simp [cums, h]
theorem cums_take (r : Int) {L k : Nat} (h : k < L) : (cums r L).take (k + 1) = (cums r L).take k ++ [cum r L k] := by
  rw [List.take_add_one, cums_at r h]
  rfl
theorem cums_is {r : Int} {L k : Nat} {x : Int} (h : (cums r L)[k]? = some x) : k < L ∧ x = cum r L k := by
  have hk := (List.getElem?_eq_some_iff.1 h).1
  rw [cums_length] at hk
  rw [cums_at r hk] at h
  exact ⟨hk, (Option.some.inj h).symm⟩

/-! ### up to which place -/
/-- so many of the first ones are at most o, not one more -/
def IsFit (o : Int) (l : List Int) (m : Nat) : Prop := m ≤ l.length ∧ (∀ j x, j < m → l[j]? = some x → x ≤ o) ∧ ∀ x, l[m]? = some x → o < x
theorem IsFit.same {o : Int} {l : List Int} {m n : Nat} (h : IsFit o l m) (k : IsFit o l n) : m = n := by
  obtain ⟨h1, h2, h3⟩ := h
  obtain ⟨k1, k2, k3⟩ := k
  rcases Nat.lt_trichotomy m n with q | q | q
  · have e := List.getElem?_eq_getElem (show m < l.length by omega)
    have a := h3 _ e
    have b := k2 m _ q e
    omega
  · exact q
  · have e := List.getElem?_eq_getElem (show n < l.length by omega)
    have a := k3 _ e
    have b := h2 n _ q e
    omega
def fit (o : Int) : List Int → Nat
  | [] => 0
  | x :: l => if x ≤ o then fit o l + 1 else 0
theorem fit_is (o : Int) : ∀ l : List Int, IsFit o l (fit o l)
  | [] => ⟨Nat.le_refl _, fun j x h => absurd h (by simp [fit]), fun x h => by simp at h⟩
  | y :: l => by
    obtain ⟨h1, h2, h3⟩ := fit_is o l
    by_cases q : y ≤ o
    · rw [show fit o (y :: l) = fit o l + 1 from if_pos q]
      refine ⟨by simp; omega, fun j x hj hx => ?_, fun x hx => h3 x (by simpa using hx)⟩
      cases j with
      | zero => simp at hx; omega
      | succ j => exact h2 j x (by omega) (by simpa using hx)
    · rw [show fit o (y :: l) = 0 from if_neg q]
      refine ⟨by simp, fun j x hj => absurd hj (by omega), fun x hx => ?_⟩
      simp at hx
      omega
theorem fit_stop {o x : Int} {l : List Int} {k : Nat} (h : ∀ j y, j < k → l[j]? = some y → y ≤ o) (hx : l[k]? = some x) (q : o < x) : fit o l = k := by
  refine (fit_is o l).same ⟨?_, h, fun y hy => ?_⟩
  · have := (List.getElem?_eq_some_iff.1 hx).1
    omega
  · rw [hx] at hy
    have := Option.some.inj hy
    omega
theorem fit_all {o : Int} {l : List Int} (h : ∀ j y, j < l.length → l[j]? = some y → y ≤ o) : fit o l = l.length :=
  (fit_is o l).same ⟨Nat.le_refl _, h, fun y hy => by simp at hy⟩
theorem fit_room (o : Int) (l : List Int) : fit o l ≤ l.length := (fit_is o l).1
/-- one more is enough -/
theorem low_more {o x : Int} {l : List Int} {k : Nat} (h : ∀ j y, j < k → l[j]? = some y → y ≤ o) (hx : l[k]? = some x) (q : x ≤ o) : ∀ j y, j < k + 1 → l[j]? = some y → y ≤ o := by
  intro j y hj hy
  by_cases e : j = k
  · subst e
    rw [hx] at hy
    have := Option.some.inj hy
    omega
  · exact h j y (by omega) hy

/-! ### shares -/
/-- what lies below layer k; layer k's share -/
def blw : Nat → Int
  | 0 => 0
  | k + 1 => 2 ^ k
def shr (k : Nat) : Int := max (blw k) 1
theorem two_pos (k : Nat) : (1 : Int) ≤ 2 ^ k := by
  have h : (0 : Int) < 2 ^ k := Int.pow_pos (by decide)
  omega
theorem blw_more : ∀ k, blw k + shr k = blw (k + 1)
  | 0 => by decide
  | k + 1 => by
    have h := two_pos k
    rw [shr, show blw (k + 1) = 2 ^ k from rfl, show blw (k + 1 + 1) = 2 ^ (k + 1) from rfl, Int.max_eq_left h, Int.pow_succ]
    omega
theorem shr_below {k : Nat} (h : 0 < k) : shr k = blw k := by
  obtain ⟨n, rfl⟩ : ∃ n, k = n + 1 := ⟨k - 1, by omega⟩
  exact Int.max_eq_left (two_pos n)
theorem blw_room {k : Nat} (h : k ≤ 8) : 0 ≤ blw k ∧ blw k ≤ 128 := by
  have : k = 0 ∨ k = 1 ∨ k = 2 ∨ k = 3 ∨ k = 4 ∨ k = 5 ∨ k = 6 ∨ k = 7 ∨ k = 8 := by omega
  rcases this with rfl | rfl | rfl | rfl | rfl | rfl | rfl | rfl | rfl <;> decide
theorem shr_room {k : Nat} (h : k ≤ 7) : 1 ≤ shr k ∧ shr k ≤ 128 := by
  have := blw_room (k := k) (by omega)
  unfold shr
  omega
def shrs (L : Nat) : List Int := (List.range L).map shr
theorem shrs_length (L : Nat) : (shrs L).length = L := by simp [shrs]
theorem shrs_at {L k : Nat} (h : k < L) : (shrs L)[k]? = some (shr k) := by simp [shrs, h]
theorem shrs_take {L k : Nat} (h : k < L) : (shrs L).take (k + 1) = (shrs L).take k ++ [shr k] := by
  rw [List.take_add_one, shrs_at h]
  rfl
theorem shrs_is {L k : Nat} {x : Int} (h : (shrs L)[k]? = some x) : k < L ∧ x = shr k := by
  have hk := (List.getElem?_eq_some_iff.1 h).1
  rw [shrs_length] at hk
  rw [shrs_at hk] at h
  exact ⟨hk, (Option.some.inj h).symm⟩

/-- may there be so many layers? -/
abbrev Lay (L : Int) : Prop := 1 ≤ L ∧ L ≤ 8

end Go.Proofs.Ytemfdbnjncpbjaa.Spl

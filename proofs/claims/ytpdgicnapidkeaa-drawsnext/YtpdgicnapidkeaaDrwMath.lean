/-
  Draws as plain numbers: a step, many steps, steps doubled; the draw with a number. (No program.)
-/
import Derived.Test.YtpdgicnapidkeaaProg
import Derived.Lib.Hide
namespace Go.Proofs.Ytpdgicnapidkeaa
set_option linter.unusedVariables false

/-- a step of the form t y + p, its last 32 bits -/
def aff (t p y : Int) : Int := (t * y + p) % 4294967296
/-- so many of them -/
def affs (t p : Int) : Nat → Int → Int
  | 0, y => y
  | n + 1, y => affs t p n (aff t p y)
/-- the step of the document -/
def lcg (y : Int) : Int := (1664525 * y + 1013904223) % 4294967296

theorem aff_room (t p y : Int) : 0 ≤ aff t p y ∧ aff t p y < 4294967296 := by unfold aff; omega
theorem lcg_room (y : Int) : 0 ≤ lcg y ∧ lcg y < 4294967296 := by unfold lcg; omega
theorem affs_room (t p : Int) : ∀ (n : Nat) (y : Int), 0 ≤ y → y < 4294967296 → 0 ≤ affs t p n y ∧ affs t p n y < 4294967296
  | 0, y, h, h' => ⟨h, h'⟩
  | n + 1, y, h, h' => affs_room t p n _ (aff_room t p y).1 (aff_room t p y).2
theorem affs_last (t p : Int) : ∀ (n : Nat) (y : Int), affs t p (n + 1) y = aff t p (affs t p n y)
  | 0, y => rfl
  | n + 1, y => by rw [affs, affs_last t p n, affs]

/-- a step done twice is a step of the same form -/
theorem aff_two (t p y : Int) : aff t p (aff t p y) = aff (t * t % 4294967296) ((p + p * t % 4294967296) % 4294967296) y := by
  unfold aff
  rw [Int.emod_def (t * y + p), Int.emod_def (t * t), Int.emod_def (p * t), Int.emod_def (p + _)]
  generalize (t * y + p) / 4294967296 = q1
  generalize t * t / 4294967296 = q2
  generalize p * t / 4294967296 = q3
  generalize (p + (p * t - 4294967296 * q3)) / 4294967296 = q4
  rw [Int.emod_eq_emod_iff_emod_sub_eq_zero]
  refine Int.emod_eq_zero_of_dvd ⟨q2 * y + q3 + q4 - t * q1, ?_⟩
  grind
theorem affs_two (t p : Int) : ∀ (n : Nat) (y : Int), affs t p (2 * n) y = affs (t * t % 4294967296) ((p + p * t % 4294967296) % 4294967296) n y
  | 0, y => rfl
  | n + 1, y => by
    rw [show 2 * (n + 1) = 2 * n + 1 + 1 by omega, affs, affs, affs_two t p n, affs, aff_two]

/-- the last one of a list; 0 behind no draws at all -/
def lastOf (l : List Int) : Int := l.getD (l.length - 1) 0
/-- the draw with the number i -/
def dr (l : List Int) (i : Nat) : Int := if i < l.length then l.getD i 0 else affs 1664525 1013904223 (i - l.length + 1) (lastOf l)
/-- each of a list has 32 bits -/
def Room (l : List Int) : Prop := ∀ i, 0 ≤ l.getD i 0 ∧ l.getD i 0 < 4294967296

theorem lastOf_room {l : List Int} (h : Room l) : 0 ≤ lastOf l ∧ lastOf l < 4294967296 := h _
theorem dr_room {l : List Int} (h : Room l) (i : Nat) : 0 ≤ dr l i ∧ dr l i < 4294967296 := by
  unfold dr
  split
  · exact h i
  · exact affs_room _ _ _ _ (h _).1 (h _).2
theorem dr_in (l : List Int) (i : Nat) (h : i < l.length) : dr l i = l.getD i 0 := by unfold dr; rw [if_pos h]
/-- the one ahead of the draw with the number i -/
def ahead (l : List Int) : Nat → Int
  | 0 => 0
  | i + 1 => dr l i
theorem dr_behind (l : List Int) (i : Nat) (h : l.length ≤ i) : dr l i = lcg (ahead l i) := by
  have e : dr l i = affs 1664525 1013904223 (i - l.length + 1) (lastOf l) := by unfold dr; rw [if_neg (by omega)]
  rw [e, affs_last]
  show aff _ _ _ = aff 1664525 1013904223 _
  congr 1
  cases i with
  | zero =>
    have : l.length = 0 := by omega
    have e2 : l = [] := List.eq_nil_of_length_eq_zero this
    subst e2
    rfl
  | succ i =>
    show _ = dr l i
    unfold dr
    by_cases h2 : i < l.length
    · rw [if_pos h2]
      have e3 : i + 1 - l.length = 0 := by omega
      rw [e3]
      unfold affs lastOf
      congr 1
      omega
    · rw [if_neg h2]
      congr 1
      omega
theorem ahead_room {l : List Int} (h : Room l) (i : Nat) : 0 ≤ ahead l i ∧ ahead l i < 4294967296 := by
  cases i with
  | zero => exact ⟨by show (0 : Int) ≤ 0; omega, by show (0 : Int) < _; omega⟩
  | succ i => exact dr_room h i

/-- the first n draws -/
def drs (l : List Int) (n : Nat) : List Int := (List.range n).map (dr l)
theorem drs_length (l : List Int) (n : Nat) : (drs l n).length = n := by unfold drs; simp
theorem drs_at (l : List Int) (n i : Nat) (h : i < n) : (drs l n)[i]? = some (dr l i) := by unfold drs; simp [h]
theorem drs_snoc (l : List Int) (n : Nat) : drs l (n + 1) = drs l n ++ [dr l n] := by unfold drs; rw [List.range_succ, List.map_append]; rfl
end Go.Proofs.Ytpdgicnapidkeaa

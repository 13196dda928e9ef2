/-
  A speed as plain words: held, free, left; its bounds; held by one limit for long. (No program. Written ahead, in round 18: not yet leant on.)
-/
import Derived.Test.YtolcnliebjiejaaProg
namespace Go.Proofs.Ytolcnliebjiejaa.Spd
set_option linter.unusedVariables false

/-- a word -/
def Wd (x : Int) : Prop := 0 ≤ x ∧ x ≤ 18446744073709551615
/-- the sum of two words, or the greatest one -/
def ssum (a b : Int) : Int := if 18446744073709551615 - b < a then 18446744073709551615 else a + b
def sless (a b : Int) : Int := if a < b then a else b
/-- at least the floor -/
def sup (fl x : Int) : Int := if x < fl then fl else x
/-- a packet of a bytes more in b ticks -/
def pace (a b : Int) : Int := a * 4294967296 / b
def held (fl r x a b : Int) : Int := sup fl (sless x (ssum r (pace a b)))
def free (fl r x : Int) : Int := sup fl (sless (ssum r r) (ssum x x))
def left (fl r : Int) : Int := sup fl (r / 2)
theorem ssum_room {a b : Int} (ha : Wd a) (hb : Wd b) : Wd (ssum a b) ∧ a ≤ ssum a b ∧ b ≤ ssum a b := by
  unfold Wd ssum at *
  split <;> omega
theorem pace_room {a b : Int} (a1 : 1 ≤ a) (a2 : a ≤ 320) (b1 : 1 ≤ b) : Wd (pace a b) ∧ pace a b ≤ a * 4294967296 := by
  unfold Wd pace
  have h0 : 0 ≤ a * 4294967296 / b := Int.ediv_nonneg (by omega) (by omega)
  have h1 : a * 4294967296 / b ≤ a * 4294967296 := Int.ediv_le_self _ (by omega)
  omega
theorem pace_one (a : Int) : pace a 1 = a * 4294967296 := by unfold pace; rw [Int.ediv_one]
theorem sup_room {fl x : Int} (hf : Wd fl) (hx : Wd x) : Wd (sup fl x) ∧ fl ≤ sup fl x ∧ x ≤ sup fl x := by
  unfold Wd sup at *
  split <;> omega
theorem sless_room {a b : Int} (ha : Wd a) (hb : Wd b) : Wd (sless a b) := by
  unfold Wd sless at *
  split <;> omega
theorem held_room {fl r x a b : Int} (hf : Wd fl) (hr : Wd r) (hx : Wd x) (a1 : 1 ≤ a) (a2 : a ≤ 320) (b1 : 1 ≤ b) : Wd (held fl r x a b) ∧ fl ≤ held fl r x a b := by
  have := sup_room hf (sless_room hx (ssum_room hr (pace_room a1 a2 b1).1).1)
  exact ⟨this.1, this.2.1⟩
theorem free_room {fl r x : Int} (hf : Wd fl) (hr : Wd r) (hx : Wd x) : Wd (free fl r x) ∧ fl ≤ free fl r x := by
  have := sup_room hf (sless_room (ssum_room hr hr).1 (ssum_room hx hx).1)
  exact ⟨this.1, this.2.1⟩
theorem left_room {fl r : Int} (hf : Wd fl) (hr : Wd r) : Wd (left fl r) ∧ fl ≤ left fl r := by
  have := sup_room hf (show Wd (r / 2) by unfold Wd at *; omega)
  exact ⟨this.1, this.2.1⟩
/-- held: at most the limit, or the floor; at most a step more, or the floor -/
theorem held_most (fl r x a b : Int) : (held fl r x a b ≤ x ∨ held fl r x a b = fl) ∧ (held fl r x a b ≤ ssum r (pace a b) ∨ held fl r x a b = fl) := by
  unfold held sup sless
  generalize ssum r (pace a b) = y
  repeat' split
  all_goals omega
/-- free: at most twice what it was; at most twice what was reported, or the floor -/
theorem free_most {fl r x : Int} (hf : Wd fl) (hr : Wd r) (hx : Wd x) (h : fl ≤ r) : free fl r x ≤ ssum r r ∧ (free fl r x ≤ ssum x x ∨ free fl r x = fl) := by
  have := (ssum_room hr hr).2.1
  unfold free sup sless
  generalize ssum r r = y at *
  generalize ssum x x = z
  constructor
  · repeat' split
    all_goals omega
  · repeat' split
    all_goals omega
theorem left_most {fl r : Int} (hr : Wd r) (h : fl ≤ r) : left fl r ≤ r := by
  unfold left sup Wd at *
  split <;> omega

/-- held by one limit, k times -/
def again (fl x a : Int) : Nat → Int → Int
  | 0, r => r
  | k + 1, r => held fl (again fl x a k r) x a 1
theorem again_low {fl x a r : Int} (hf : Wd fl) (hr : Wd r) (hx : x ≤ 8589934592000) (x0 : 0 ≤ x) (a1 : 1 ≤ a) (a2 : a ≤ 320) (h : fl ≤ r) : ∀ k : Nat, Wd (again fl x a k r) ∧ fl ≤ again fl x a k r ∧ (x ≤ again fl x a k r ∨ (k : Int) * 4294967296 ≤ again fl x a k r) ∧ (1 ≤ k → again fl x a k r ≤ x ∨ again fl x a k r = fl) := by
  intro k
  induction k with
  | zero => exact ⟨hr, h, .inr (by simp only [again]; have := hr.1; omega), fun q => by omega⟩
  | succ k ih =>
    obtain ⟨i1, i2, i3, _⟩ := ih
    have hw : Wd x := ⟨x0, by omega⟩
    have rm := held_room hf i1 hw a1 a2 (b := 1) (by decide)
    refine ⟨rm.1, rm.2, ?_, fun _ => (held_most fl (again fl x a k r) x a 1).1⟩
    simp only [again]
    generalize again fl x a k r = y at *
    have p1 := pace_one a
    unfold held
    rw [p1]
    unfold Wd at *
    unfold sup sless ssum
    have kc : ((k + 1 : Nat) : Int) = (k : Int) + 1 := by omega
    repeat' split
    all_goals omega
theorem again_end {fl x a r : Int} (hf : Wd fl) (hr : Wd r) (hx : x ≤ 8589934592000) (x0 : 0 ≤ x) (a1 : 1 ≤ a) (a2 : a ≤ 320) (h : fl ≤ r) : again fl x a 2001 r = sup fl x := by
  obtain ⟨_, h2, h3, h4⟩ := again_low (a := a) hf hr hx x0 a1 a2 h 2001
  have h5 := h4 (by decide)
  unfold sup
  split <;> omega
end Go.Proofs.Ytolcnliebjiejaa.Spd

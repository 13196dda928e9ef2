/-
  A bucket as plain words: filled, spent from, a tick's end; ticks gone through; how much may be spent in some of them. (No program.)
-/
import Derived.Test.YtadgkhdjjnkfcaaProg
import Derived.Lib.Hide
namespace Go.Proofs.Ytadgkhdjjnkfcaa.Bkt
set_option linter.unusedVariables false

/-- a word; an int -/
def Wd (x : Int) : Prop := 0 ≤ x ∧ x ≤ 18446744073709551615
def Nm (x : Int) : Prop := -9223372036854775808 ≤ x ∧ x ≤ 9223372036854775807
/-- size, tokens, spent -/
abbrev BS := Int × Int × Int
def Fit (s : BS) : Prop := (1 ≤ s.1 ∧ s.1 ≤ 320) ∧ Wd s.2.1 ∧ Nm s.2.2
/-- the sum of two words, or the greatest one -/
def wadd (a b : Int) : Int := if 18446744073709551615 - b < a then 18446744073709551615 else a + b
/-- an int's sum -/
def isum (a b : Int) : Int := IntKind.i64.wrap (a + b)
abbrev Can (s : BS) (n : Int) : Prop := 1 ≤ n ∧ n ≤ s.1 ∧ n * 4294967296 ≤ s.2.1
def fil (s : BS) (r : Int) : BS := (s.1, wadd s.2.1 r, s.2.2)
def spd (s : BS) (n : Int) : BS := if Can s n then (s.1, s.2.1 - n * 4294967296, isum s.2.2 n) else s
/-- at most x -/
def cap (x t : Int) : Int := if x < t then x else t
def fin (s : BS) : BS := (s.1, cap (s.1 * 4294967296) s.2.1, s.2.2)

theorem wadd_room {a b : Int} (ha : Wd a) (hb : Wd b) : Wd (wadd a b) ∧ wadd a b ≤ a + b := by
  unfold Wd wadd at *
  split <;> omega
theorem isum_room (a b : Int) : Nm (isum a b) := by
  unfold Nm isum
  rw [IntKind.wrap_i64]
  omega
theorem isum_in {a b : Int} (h : Nm (a + b)) : isum a b = a + b := by
  unfold Nm at h
  unfold isum
  rw [IntKind.wrap_i64]
  omega
theorem fil_fit {s : BS} {r : Int} (h : Fit s) (hr : Wd r) : Fit (fil s r) := ⟨h.1, (wadd_room h.2.1 hr).1, h.2.2⟩
theorem spd_fit {s : BS} (n : Int) (h : Fit s) : Fit (spd s n) := by
  unfold spd
  split
  · rename_i c
    obtain ⟨h1, h2, h3⟩ := h
    refine ⟨h1, ?_, isum_room _ _⟩
    unfold Wd at *
    have := c.1
    have := c.2.2
    simp only
    omega
  · exact h
theorem fin_fit {s : BS} (h : Fit s) : Fit (fin s) := by
  obtain ⟨h1, h2, h3⟩ := h
  refine ⟨h1, ?_, h3⟩
  unfold Wd fin cap at *
  simp only
  split <;> omega
theorem spd_size (s : BS) (n : Int) : (spd s n).1 = s.1 := by
  unfold spd
  split <;> rfl
theorem spd_yes {s : BS} {n : Int} (h : Can s n) : spd s n = (s.1, s.2.1 - n * 4294967296, isum s.2.2 n) := if_pos h
theorem spd_no {s : BS} {n : Int} (h : ¬ Can s n) : spd s n = s := if_neg h

/-- spent, packet by packet -/
def spl (s : BS) (l : List Int) : BS := l.foldl spd s
theorem spl_snoc (s : BS) (l : List Int) (n : Int) : spl s (l ++ [n]) = spd (spl s l) n := by
  unfold spl; rw [List.foldl_append]; rfl
theorem spl_take {s : BS} {l : List Int} {k : Nat} {n : Int} (h : l[k]? = some n) : spl s (l.take (k + 1)) = spd (spl s (l.take k)) n := by
  rw [List.take_add_one, h]
  exact spl_snoc s _ n
/-- a tick: its rate, its packets -/
def tick (s : BS) (r : Int) (l : List Int) : BS := fin (spl (fil s r) l)
end Go.Proofs.Ytadgkhdjjnkfcaa.Bkt

/-
  What becomes of a message, as plain numbers and lists: six counts, a fate (kind, number), a list of what is on its way. (No program.)
-/
import Derived.Test.YtkhdfcjdbhhikaaPipMath
import Derived.Test.YtkhdfcjdbhhikaaCrcMath
namespace Go.Proofs.Ytkhdfcjdbhhikaa.Sim
set_option linter.unusedVariables false
open Go.Proofs.Ytkhdfcjdbhhikaa.Pip Go.Proofs.Ytkhdfcjdbhhikaa.Crc

/-- sent, lost, dropped, doubled, late, turned -/
abbrev Cts := Int × Int × Int × Int × Int × Int
def sSent (s : Cts) : Cts := (s.1 + 1, s.2)
def sLost (s : Cts) : Cts := (s.1, s.2.1 + 1, s.2.2)
def sDrop (s : Cts) : Cts := (s.1, s.2.1, s.2.2.1 + 1, s.2.2.2)
def sDbl (s : Cts) : Cts := (s.1, s.2.1, s.2.2.1, s.2.2.2.1 + 1, s.2.2.2.2)
def sLate (s : Cts) : Cts := (s.1, s.2.1, s.2.2.1, s.2.2.2.1, s.2.2.2.2.1 + 1, s.2.2.2.2.2)
def sTurn (s : Cts) : Cts := (s.1, s.2.1, s.2.2.1, s.2.2.2.1, s.2.2.2.2.1, s.2.2.2.2.2 + 1)
/-- each count is from 0 to b -/
def SB (b : Int) (s : Cts) : Prop := (0 ≤ s.1 ∧ s.1 ≤ b) ∧ (0 ≤ s.2.1 ∧ s.2.1 ≤ b) ∧ (0 ≤ s.2.2.1 ∧ s.2.2.1 ≤ b) ∧ (0 ≤ s.2.2.2.1 ∧ s.2.2.2.1 ≤ b) ∧ (0 ≤ s.2.2.2.2.1 ∧ s.2.2.2.2.1 ≤ b) ∧ (0 ≤ s.2.2.2.2.2 ∧ s.2.2.2.2.2 ≤ b)
theorem SB.sent {b : Int} {s : Cts} (h : SB b s) : SB (b + 1) (sSent s) := by unfold SB sSent at *; simp only; omega
theorem SB.lost {b : Int} {s : Cts} (h : SB b s) : SB (b + 1) (sLost s) := by unfold SB sLost at *; simp only; omega
theorem SB.drop {b : Int} {s : Cts} (h : SB b s) : SB (b + 1) (sDrop s) := by unfold SB sDrop at *; simp only; omega
theorem SB.dbl {b : Int} {s : Cts} (h : SB b s) : SB (b + 1) (sDbl s) := by unfold SB sDbl at *; simp only; omega
theorem SB.late {b : Int} {s : Cts} (h : SB b s) : SB (b + 1) (sLate s) := by unfold SB sLate at *; simp only; omega
theorem SB.turn {b : Int} {s : Cts} (h : SB b s) : SB (b + 1) (sTurn s) := by unfold SB sTurn at *; simp only; omega
theorem SB.mono {b c : Int} {s : Cts} (h : SB b s) (hc : b ≤ c) : SB c s := by unfold SB at *; omega

/-- one copy -/
def lay1 (l : Ms) (room : Int) (m : Int × List UInt8) (s : Cts) : Ms × Cts := if room ≤ (l.length : Int) then (l, sDrop s) else (l ++ [m], s)
theorem lay1_bound {b : Int} {l : Ms} {room : Int} {m : Int × List UInt8} {s : Cts} (h : SB b s) : SB (b + 1) (lay1 l room m s).2 := by
  unfold lay1
  split
  · exact h.drop
  · exact h.mono (by omega)
theorem lay1_length {l : Ms} {room : Int} {m : Int × List UInt8} {s : Cts} : (lay1 l room m s).1.length ≤ l.length + 1 := by
  unfold lay1
  split <;> simp
/-- how much later -/
def cl (n : Int) : Int := if 64 < n then 64 else if 0 < n then n else 0
theorem cl_room (n : Int) : 0 ≤ cl n ∧ cl n ≤ 64 := by unfold cl; split <;> (try split) <;> omega
/-- a message by its fate -/
def give1 (l : Ms) (room due : Int) (t : List UInt8) (f : Int × Int) (s : Cts) : Ms × Cts :=
  if f.1 = 1 then (l, sLost (sSent s)) else
  if f.1 = 2 then lay1 (lay1 l room (due, t) (sDbl (sSent s))).1 room (due, t) (lay1 l room (due, t) (sDbl (sSent s))).2 else
  if f.1 = 3 then lay1 l room (due + cl f.2, t) (sLate (sSent s)) else
  if f.1 = 4 then lay1 l room (due, cturn t f.2) (sTurn (sSent s)) else
  lay1 l room (due, t) (sSent s)
theorem give1_bound {b : Int} {l : Ms} {room due : Int} {t : List UInt8} {f : Int × Int} {s : Cts} (h : SB b s) : SB (b + 4) (give1 l room due t f s).2 := by
  unfold give1
  split
  · exact h.sent.lost.mono (by omega)
  · split
    · exact (lay1_bound (lay1_bound h.sent.dbl)).mono (by omega)
    · split
      · exact (lay1_bound h.sent.late).mono (by omega)
      · split
        · exact (lay1_bound h.sent.turn).mono (by omega)
        · exact (lay1_bound h.sent).mono (by omega)
theorem give1_length {l : Ms} {room due : Int} {t : List UInt8} {f : Int × Int} {s : Cts} : (give1 l room due t f s).1.length ≤ l.length + 2 := by
  unfold give1
  split
  · simp
  · split
    · exact Nat.le_trans lay1_length (Nat.succ_le_succ lay1_length)
    · split
      · exact Nat.le_trans lay1_length (by omega)
      · split
        · exact Nat.le_trans lay1_length (by omega)
        · exact Nat.le_trans lay1_length (by omega)

/-- one bit of a byte, as the reference turns it -/
theorem bit_fin : ∀ (c : Fin 256) (j : Fin 8), (if c.val / 2 ^ j.val % 2 = 1 then c.val - 2 ^ j.val else c.val + 2 ^ j.val) = c.val ^^^ 2 ^ j.val := by decide +kernel
theorem bit_turn (c j : Nat) (hc : c < 256) (hj : j < 8) : (if c / 2 ^ j % 2 = 1 then c - 2 ^ j else c + 2 ^ j) = c ^^^ 2 ^ j := bit_fin ⟨c, hc⟩ ⟨j, hj⟩
theorem bit_sub (c j : Nat) (h : c / 2 ^ j % 2 = 1) : 2 ^ j ≤ c := by
  rcases Nat.lt_or_ge c (2 ^ j) with q | q
  · rw [Nat.div_eq_of_lt q] at h
    omega
  · exact q

/-- where the bit lies -/
theorem place_emod (n : Nat) (bit : Int) (hn : 0 < n) : ∃ A : Nat, bit % (8 * (n : Int)) = (A : Int) ∧ A < 8 * n ∧ A / 8 = cplace n bit ∧ ((A % 8 : Nat) : Int) = bit % 8 := by
  have h1 := Int.emod_nonneg bit (show (8 * (n : Int)) ≠ 0 by omega)
  have h2 := Int.emod_lt_of_pos bit (show (0 : Int) < 8 * (n : Int) by omega)
  have h3 := Int.mul_ediv_add_emod bit (8 * (n : Int))
  rw [Int.mul_assoc] at h3
  generalize bit % (8 * (n : Int)) = A at *
  obtain ⟨a, rfl⟩ : ∃ a : Nat, A = (a : Int) := ⟨A.toNat, by omega⟩
  generalize bit / (8 * (n : Int)) = q at *
  generalize hm : (n : Int) * q = m at *
  refine ⟨a, rfl, by omega, ?_, by omega⟩
  unfold cplace
  have e : bit / 8 = ((a / 8 : Nat) : Int) + (n : Int) * q := by rw [hm]; omega
  rw [e, Int.add_mul_emod_self_left, Int.emod_eq_of_lt (by omega) (by omega)]
  omega
/-- the first k bytes, one bit turned -/
theorem cturn_take (l : List UInt8) (bit : Int) (k : Nat) (hk : k < l.length) : (cturn l bit).take (k + 1) = (cturn l bit).take k ++ [if k = cplace l.length bit then l.getD k 0 ^^^ cmask bit else l.getD k 0] := by
  rw [List.take_add_one]
  congr 1
  unfold cturn
  rw [List.getElem?_set]
  by_cases e : cplace l.length bit = k
  · subst e
    simp [hk]
  · rw [if_neg e, if_neg (fun h => e h.symm), List.getD_eq_getElem?_getD, List.getElem?_eq_getElem hk]
    rfl
end Go.Proofs.Ytkhdfcjdbhhikaa.Sim

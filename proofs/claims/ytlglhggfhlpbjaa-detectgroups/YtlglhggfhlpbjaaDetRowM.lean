/-
  One packet as plain numbers: what it shows, and what the state is then.
-/
import Derived.Test.YtlglhggfhlpbjaaDetLaw
import Derived.OpenShut
import Derived.Handy
namespace Go.Proofs.Ytlglhggfhlpbjaa.Det
set_option linter.unusedVariables false
set_option maxRecDepth 100000
open Go.RowKit Go.Lib Go.Proofs.Ytlglhggfhlpbjaa.His

theorem and7 (a : Int) : ∃ ly : Nat, bits .and .i64 a 7 = (ly : Int) ∧ ly < 8 := by
  have h2 : (BitVec.ofInt 64 (7 : Int)).toNat = 7 := by decide
  have h3 : (BitVec.ofInt 64 a).toNat &&& 7 ≤ 7 := Nat.and_le_right
  refine ⟨(BitVec.ofInt 64 a).toNat &&& 7, ?_, by omega⟩
  show IntKind.i64.wrap ((BitVec.ofInt 64 a &&& BitVec.ofInt 64 (7 : Int)).toNat : Int) = _
  rw [BitVec.toNat_and, h2]
  exact IntWalk.i64_in _ (by omega)
theorem fgap_near (a seq n : Int) (a0 : 0 ≤ a) (a1 : a < 4294967296) (n0 : 0 ≤ n) (n1 : n ≤ 1000) (e : seq = (a + n) % 4294967296) : Ser.fgap a seq = n := by
  have h : Ser.fway a seq = n := by unfold Ser.fway; omega
  unfold Ser.fgap
  rw [h, if_neg (by omega)]

/-- a packet n behind the one that is expected -/
theorem don_row (s : DS) (ly : Nat) (a seq n tick rtt : Int) (hn : s.1.length = 8) (hly : ly < 8) (ea : s.1.getD ly (-1) = a) (a0 : 0 ≤ a) (a1 : a < 4294967296) (n0 : 0 ≤ n) (n1 : n ≤ 256) (e : seq = (a + n) % 4294967296) :
    (don s ly seq tick rtt).2.1 = n ∧ (don s ly seq tick rtt).1.1.getD ly (-1) = aft seq ∧ (don s ly seq tick rtt).1.2.2.2.2 = tick := by
  have g := fgap_near a seq n a0 a1 n0 (by omega) e
  have hset : ∀ v, (s.1.set ly v).getD ly (-1) = v := fun v => by rw [getD_set _ _ _ _ (by omega), if_pos rfl]
  unfold don
  rw [ea, g]
  by_cases q : n = 0
  · rw [if_pos (.inr (.inl (by omega)))]
    exact ⟨q.symm, hset _, rfl⟩
  · rw [if_neg (by omega), if_neg (by omega)]
    by_cases c : s.2.2.2.1 = false ∨ rtt < tick - s.2.2.1
    · rw [if_pos c]
      exact ⟨rfl, hset _, rfl⟩
    · rw [if_neg c]
      exact ⟨rfl, hset _, rfl⟩

/-- the first packet of a layer -/
theorem don_first (s : DS) (ly : Nat) (seq tick rtt : Int) (hn : s.1.length = 8) (hly : ly < 8) (ea : s.1.getD ly (-1) < 0) :
    (don s ly seq tick rtt).2.1 = 0 ∧ (don s ly seq tick rtt).1.1.getD ly (-1) = aft seq ∧ (don s ly seq tick rtt).1.2.2.2.2 = tick := by
  unfold don
  rw [if_pos (.inl ea)]
  exact ⟨rfl, by show (s.1.set ly (aft seq)).getD ly (-1) = _; rw [getD_set _ _ _ _ (by omega), if_pos rfl], rfl⟩

/-- there was an event just if an interval is closed -/
def Evs (s : DS) : Prop := s.2.2.2.1 = true ↔ s.2.1.2 ≠ []
theorem don_group (s : DS) (ly : Nat) (seq tick rtt : Int) (E : Evs s) (s0 : -1 ≤ s.1.getD ly (-1)) :
    0 ≤ (don s ly seq tick rtt).2.1 ∧ (don s ly seq tick rtt).2.1 ≤ 2147483647 ∧ (don s ly seq tick rtt).2.2.1 = decide (0 < (don s ly seq tick rtt).2.1 ∧ (s.2.2.2.1 = false ∨ rtt < tick - s.2.2.1)) ∧ (don s ly seq tick rtt).2.2.2 = ((don s ly seq tick rtt).2.2.1 && !s.2.2.2.1)
    ∧ (don s ly seq tick rtt).1.2.2.1 = (if (don s ly seq tick rtt).2.2.1 then tick else s.2.2.1) ∧ (don s ly seq tick rtt).1.2.2.2.1 = ((don s ly seq tick rtt).2.2.1 || s.2.2.2.1) ∧ Evs (don s ly seq tick rtt).1 ∧ (don s ly seq tick rtt).1.2.2.2.2 = tick := by
  have r := Ser.fgap_room (s.1.getD ly (-1)) seq
  unfold don
  by_cases c1 : s.1.getD ly (-1) < 0 ∨ s.1.getD ly (-1) = seq ∨ 256 < Ser.fgap (s.1.getD ly (-1)) seq
  · rw [if_pos c1]
    exact ⟨Int.le_refl 0, (by decide : (0 : Int) ≤ 2147483647), by simp, rfl, rfl, rfl, E, rfl⟩
  · rw [if_neg c1]
    by_cases c2 : Ser.fgap (s.1.getD ly (-1)) seq ≤ 0
    · rw [if_pos c2]
      exact ⟨Int.le_refl 0, (by decide : (0 : Int) ≤ 2147483647), by simp, rfl, rfl, rfl, E, rfl⟩
    · rw [if_neg c2]
      by_cases c3 : s.2.2.2.1 = false ∨ rtt < tick - s.2.2.1
      · rw [if_pos c3]
        refine ⟨by simp only; omega, r.2, ?_, ?_, rfl, rfl, ?_, rfl⟩
        · rw [decide_eq_true ⟨by simp only; omega, c3⟩]
        · simp only [Bool.true_and]
          unfold Evs at E
          cases h : s.2.2.2.1 with
          | true =>
            have := E.1 h
            rw [beq_eq_false_iff_ne.2 (by
              intro q
              exact this (List.eq_nil_of_length_eq_zero (by omega)))]
            rfl
          | false =>
            have hl : s.2.1.2 = [] := Classical.byContradiction fun q => by rw [E.2 q] at h; cases h
            rw [hl]
            rfl
        · unfold Evs
          simp
      · rw [if_neg c3]
        refine ⟨by simp only; omega, r.2, ?_, rfl, rfl, rfl, E, rfl⟩
        rw [decide_eq_false (fun q => c3 q.2)]
end Go.Proofs.Ytlglhggfhlpbjaa.Det

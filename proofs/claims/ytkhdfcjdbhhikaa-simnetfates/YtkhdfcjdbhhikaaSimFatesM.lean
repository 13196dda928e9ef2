/-
  Many messages to one receiver, as plain lists: how many come, which of them are plain. (No program.)
-/
import Derived.Test.YtkhdfcjdbhhikaaSimMath
namespace Go.Proofs.Ytkhdfcjdbhhikaa.Sim
set_option linter.unusedVariables false
open Go.Proofs.Ytkhdfcjdbhhikaa.Pip Go.Proofs.Ytkhdfcjdbhhikaa.Crc

theorem ins_perm (l : Ms) (m : Int × List UInt8) : (ins l m).Perm (m :: l) := by
  unfold ins
  refine List.perm_middle.trans ?_
  rw [List.take_append_drop]
theorem ord_perm (x : Ms) : (ord x).Perm x := by
  induction x using snoc_ind with
  | h0 => exact List.Perm.refl _
  | hs x m ih =>
    rw [ord_snoc]
    exact ((ins_perm _ _).trans (ih.cons m)).trans (List.perm_append_singleton m x).symm

theorem cmask_ne (bit : Int) : cmask bit ≠ 0 := by
  unfold cmask
  have h : (bit % 8).toNat < 8 := by omega
  generalize (bit % 8).toNat = k at *
  match k, h with
  | 0, _ | 1, _ | 2, _ | 3, _ | 4, _ | 5, _ | 6, _ | 7, _ => decide
theorem xor_ne (a b : UInt8) (h : b ≠ 0) : a ^^^ b ≠ a := by
  intro e
  apply h
  have : a ^^^ (a ^^^ b) = a ^^^ a := by rw [e]
  rw [← UInt8.xor_assoc, UInt8.xor_self, UInt8.zero_xor] at this
  exact this
theorem cturn_ne (l : List UInt8) (bit : Int) (h : 0 < l.length) : cturn l bit ≠ l := by
  intro e
  have hp := cplace_lt l.length bit h
  have h1 : (cturn l bit)[cplace l.length bit]? = l[cplace l.length bit]? := by rw [e]
  unfold cturn at h1
  rw [List.getElem?_set_self hp, List.getElem?_eq_getElem hp] at h1
  simp only [Option.some.injEq] at h1
  rw [List.getD_eq_getElem?_getD, List.getElem?_eq_getElem hp] at h1
  exact xor_ne _ _ (cmask_ne bit) h1

/-- how many a fate brings -/
def wf1 (f : Int × Int) : Nat := if f.1 = 1 then 0 else if f.1 = 2 then 2 else 1
/-- the messages among these with just this text -/
def pln (t : List UInt8) (l : Ms) : Nat := l.countP fun m => m.2 == t
theorem pln_snoc (t : List UInt8) (l : Ms) (m : Int × List UInt8) : pln t (l ++ [m]) = pln t l + if m.2 = t then 1 else 0 := by
  unfold pln
  rw [List.countP_append, List.countP_singleton]
  by_cases h : m.2 = t <;> simp [h]
theorem pln_ord (t : List UInt8) (x : Ms) : pln t (ord x) = pln t x := (ord_perm x).countP_eq _
/-- behind k messages -/
def FInv (t : List UInt8) (k W : Nat) (l : Ms) (s : Cts) : Prop :=
  l.length = W ∧ (∀ m ∈ l, m.1 ≤ 100) ∧ s.1 = (k : Int) ∧ s.2.2.1 = 0 ∧ (W : Int) = s.1 - s.2.1 + s.2.2.2.1 ∧ (pln t l : Int) = (W : Int) - (if 0 < t.length then s.2.2.2.2.2 else 0)
theorem FInv.start (t : List UInt8) : FInv t 0 0 [] (0, 0, 0, 0, 0, 0) := ⟨rfl, fun m h => by simp at h, rfl, rfl, rfl, by simp [pln]⟩
theorem lay_room {l : Ms} {m : Int × List UInt8} {s : Cts} (h : l.length < 256) : lay1 l 256 m s = (l ++ [m], s) := by
  unfold lay1
  rw [if_neg (by omega)]
theorem FInv.step {t : List UInt8} {k W : Nat} {l : Ms} {s : Cts} (h : FInv t k W l s) (hW : W ≤ 200) (d : Int) (hd : d ≤ 30) (f : Int × Int) : FInv t (k + 1) (W + wf1 f) (give1 l 256 d t f s).1 (give1 l 256 d t f s).2 := by
  obtain ⟨h1, h2, h3, h4, h5, h6⟩ := h
  obtain ⟨s0, s1, s2, s3, s4, s5⟩ := s
  simp only at h3 h4 h5 h6
  have cr := cl_room f.2
  have all : ∀ (x : Ms) (m : Int × List UInt8), (∀ m ∈ x, m.1 ≤ 100) → m.1 ≤ 100 → ∀ q ∈ x ++ [m], q.1 ≤ 100 := fun x m hx hm q hq => by
    rcases List.mem_append.1 hq with h | h
    · exact hx q h
    · simp only [List.mem_singleton] at h; rw [h]; exact hm
  unfold give1 wf1
  by_cases f1 : f.1 = 1
  · rw [if_pos f1, if_pos f1]
    refine ⟨h1, h2, ?_, h4, ?_, ?_⟩ <;> simp only [sLost, sSent] <;> (try split at h6) <;> (try split) <;> omega
  rw [if_neg f1, if_neg f1]
  by_cases f2 : f.1 = 2
  · have e1 : lay1 l 256 (d, t) (sDbl (sSent (s0, s1, s2, s3, s4, s5))) = (l ++ [(d, t)], sDbl (sSent (s0, s1, s2, s3, s4, s5))) := lay_room (by omega)
    have e2 : lay1 (l ++ [(d, t)]) 256 (d, t) (sDbl (sSent (s0, s1, s2, s3, s4, s5))) = (l ++ [(d, t)] ++ [(d, t)], sDbl (sSent (s0, s1, s2, s3, s4, s5))) := lay_room (by simp; omega)
    rw [if_pos f2, if_pos f2, e1]
    simp only [e2]
    refine ⟨by simp; omega, all _ _ (all _ _ h2 (by simp only; omega)) (by simp only; omega), ?_, h4, ?_, ?_⟩
    · simp only [sDbl, sSent]; omega
    · simp only [sDbl, sSent]; omega
    · rw [pln_snoc, pln_snoc, if_pos rfl]
      simp only [sDbl, sSent]
      split at h6 <;> (first | rw [if_pos ‹_›] | rw [if_neg ‹_›]) <;> omega
  rw [if_neg f2, if_neg f2]
  by_cases f3 : f.1 = 3
  · rw [if_pos f3, lay_room (by omega)]
    refine ⟨by simp; omega, all _ _ h2 (by simp only; omega), ?_, h4, ?_, ?_⟩
    · simp only [sLate, sSent]; omega
    · simp only [sLate, sSent]; omega
    · rw [pln_snoc, if_pos rfl]
      simp only [sLate, sSent]
      split at h6 <;> (first | rw [if_pos ‹_›] | rw [if_neg ‹_›]) <;> omega
  rw [if_neg f3]
  by_cases f4 : f.1 = 4
  · rw [if_pos f4, lay_room (by omega)]
    refine ⟨by simp; omega, all _ _ h2 (by simp only; omega), ?_, h4, ?_, ?_⟩
    · simp only [sTurn, sSent]; omega
    · simp only [sTurn, sSent]; omega
    · rw [pln_snoc]
      simp only [sTurn, sSent]
      by_cases ht : 0 < t.length
      · rw [if_pos ht] at h6 ⊢
        rw [if_neg (cturn_ne t f.2 ht)]
        omega
      · rw [if_neg ht] at h6 ⊢
        have e : t = [] := List.eq_nil_of_length_eq_zero (by omega)
        have e2 : cturn t f.2 = t := by subst e; rfl
        rw [if_pos e2]
        omega
  · rw [if_neg f4, lay_room (by omega)]
    refine ⟨by simp; omega, all _ _ h2 (by simp only; omega), ?_, h4, ?_, ?_⟩
    · simp only [sSent]; omega
    · simp only [sSent]; omega
    · rw [pln_snoc, if_pos rfl]
      simp only [sSent]
      split at h6 <;> (first | rw [if_pos ‹_›] | rw [if_neg ‹_›]) <;> omega
end Go.Proofs.Ytkhdfcjdbhhikaa.Sim

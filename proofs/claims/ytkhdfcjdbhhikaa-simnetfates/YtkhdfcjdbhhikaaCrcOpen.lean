/-
  Walks of Open.
-/
import Derived.Test.YtkhdfcjdbhhikaaCrcSeal
import Derived.Test.YtkhdfcjdbhhikaaEverCore
namespace Go.Proofs.Ytkhdfcjdbhhikaa.Crc
set_option linter.unusedVariables false
open Go.RowKit Go.Lib

theorem byte_eq (a b : UInt8) : ((a.toNat : Int) == (b.toNat : Int)) = (a == b) := by
  rw [Bool.eq_iff_iff, beq_iff_eq, beq_iff_eq]
  constructor
  · intro h; exact UInt8.toNat_inj.1 (by omega)
  · intro h; rw [h]

/-- a slice of bytes at a place -/
def BytesAt (w : World) (g o c : Nat) (l : List UInt8) : Prop := ∀ k, k < l.length → g < w.heap.size ∧ w.cell? ⟨g, o + k, none⟩ = some (.int .u8 ((l.getD k 0).toNat : Int))
theorem _root_.Go.Proofs.Ytkhdfcjdbhhikaa.Bytes.at {w : World} {v : Value} {l : List UInt8} (h : Bytes w v l) (h0 : 0 < l.length) : ∃ g o c, v = .slice (some ⟨g, o, none⟩) l.length c ∧ l.length ≤ c ∧ c ≤ maxLen ∧ BytesAt w g o c l := by
  obtain ⟨ao, c, rfl, h1, h2, h3⟩ := h
  obtain ⟨g, o, ha, _⟩ := h3 0 h0
  subst ha
  refine ⟨g, o, c, rfl, h1, h2, fun k hk => ?_⟩
  obtain ⟨g', o', ha', hg, hc⟩ := h3 k hk
  cases ha'
  exact ⟨hg, hc⟩
theorem BytesAt.take {w : World} {g o c : Nat} {l : List UInt8} (h : BytesAt w g o c l) (m : Nat) (hm : m ≤ l.length) (hc : l.length ≤ c) (hx : c ≤ maxLen) : Bytes w (.slice (some ⟨g, o, none⟩) m c) (l.take m) := by
  have e : (l.take m).length = m := by rw [List.length_take]; omega
  refine ⟨_, c, by rw [e], by rw [e]; omega, hx, fun k hk => ?_⟩
  rw [e] at hk
  obtain ⟨hg, hcell⟩ := h k (by omega)
  refine ⟨g, o, rfl, hg, ?_⟩
  rw [hcell, List.getD_eq_getElem?_getD, List.getD_eq_getElem?_getD, List.getElem?_take_of_lt hk]
theorem BytesAt.drop {w : World} {g o c : Nat} {l : List UInt8} (h : BytesAt w g o c l) (m n : Nat) (hm : m + n = l.length) (hc : l.length ≤ c) (hx : c ≤ maxLen) : Bytes w (.slice (some ⟨g, o + m, none⟩) n (c - m)) (l.drop m) := by
  have e : (l.drop m).length = n := by rw [List.length_drop]; omega
  refine ⟨_, c - m, by rw [e], by rw [e]; omega, by omega, fun k hk => ?_⟩
  rw [e] at hk
  obtain ⟨hg, hcell⟩ := h (m + k) (by omega)
  refine ⟨g, o + m, rfl, hg, ?_⟩
  rw [Nat.add_assoc, hcell, List.getD_eq_getElem?_getD, List.getD_eq_getElem?_getD, List.getElem?_drop]

end Go.Proofs.Ytkhdfcjdbhhikaa.Crc

/-
  A []uint32 argument as it comes in: its numbers, as they lie in memory.
-/
import Derived.Test.YtpdgicnapidkeaaRows
import Derived.Test.YtpdgicnapidkeaaDrwRef
import Derived.ProofKit
import Derived.ChangeSlices
import Derived.Carry
import Derived.Lib.SmallJoins
namespace Go.Proofs.Ytpdgicnapidkeaa
open Go.ChangeShapes Go.WideShapes Go.ChangeAt Go.RowKit Go.Joins Go.Deep
set_option linter.unusedVariables false
set_option maxRecDepth 100000

theorem own10 : ownKnob Try.prog.godebug = none := by kernel_rfl
theorem laidOut10 : laidOutB Try.prog = true := by kernel_rfl
theorem cellsU32 : Try.prog.cellsOf 27 = 1 := by kernel_rfl

theorem openU32s {H : Type} {enc : TypeId × Value → H} {W : World} {base : Nat} {held : Bool} {r : Reach} {b0 : Nat} {v : Value} {x : DataW H} {p : List MemPlace}
    (hv : Value.okWide Try.prog W r b0 22 v) (h : DataW.Trod enc Try.prog W base (fun _ => true) held 22 v x p) : ∃ l, IsU32s W v l := by
  obtain ⟨a0, len, cap, rfl⟩ := okWide_slice Try.underlying22 hv
  obtain ⟨fuel, hf⟩ := h
  rcases open_ints Try.underlying22 Try.underlying27 cellsU32 hf with ⟨hcs, _⟩ | ⟨a, len', cap', zs, hcs, _, hl, hm, hzs, _, hx, hwf⟩
  · simp [Value.cells] at hcs
    obtain ⟨rfl, rfl, rfl⟩ := hcs
    exact ⟨[], RowK.nil _ _ _, .inl rfl, room0⟩
  · simp [Value.cells] at hcs
    obtain ⟨rfl, rfl, rfl⟩ := hcs
    simp only [if_true] at hzs
    have hlen : (zs.take len).length = len := by rw [List.length_take]; omega
    have e : ∀ k, k < len → (zs.take len).getD k 0 = zs.getD k 0 := fun k hk => by
      rw [List.getD_eq_getElem?_getD, List.getD_eq_getElem?_getD, List.getElem?_take_of_lt hk]
    refine ⟨zs.take len, ⟨some a, len, cap, rfl, by rw [ucells_length, hlen, Nat.mul_one], hl, hm, fun h0 => ?_⟩, .inr ⟨_, _, _, rfl⟩, fun k => ?_⟩
    · obtain ⟨g, o, spot⟩ := a
      have hspot : spot = none := by simpa [Addr.add] using World.cell?_spot (hx 0 (by omega))
      subst hspot
      refine ⟨g, o, rfl, True.intro, fun j u hu => ?_⟩
      have hj := (List.getElem?_eq_some_iff.1 hu).1
      rw [ucells_length, hlen] at hj
      rw [ucells_at _ j (by rw [hlen]; exact hj), e j hj] at hu
      cases hu
      have h1 := hx j (by omega)
      rw [WideShapes.add_plain] at h1
      exact h1
    · by_cases hk : k < len
      · rw [e k hk]
        have hk2 : k < zs.length := by omega
        have hin : zs.getD k 0 ∈ zs := by
          rw [List.getD_eq_getElem?_getD, List.getElem?_eq_getElem hk2]; exact List.getElem_mem hk2
        obtain ⟨b1, b2⟩ := bounds_u32 (hwf _ hin)
        exact ⟨b1, by omega⟩
      · rw [List.getD_eq_getElem?_getD, List.getElem?_eq_none (by rw [hlen]; omega)]
        exact ⟨by decide, by decide⟩
end Go.Proofs.Ytpdgicnapidkeaa

/-
  Rates that came in as an argument: what lies in memory.
-/
import Derived.Test.YtemfdbnjncpbjaaRows
import Derived.Test.YtemfdbnjncpbjaaSplMem
import Derived.ProofKit
import Derived.ChangeSlices
import Derived.OpenShut
import Derived.Lib.SmallJoins
import Derived.Deep.SlicePairs
import Derived.Carry
namespace Go.Proofs.Ytemfdbnjncpbjaa.Spl
open Go.ChangeShapes Go.WideShapes Go.ChangeAt Go.RowKit Go.Joins Go.Deep
set_option linter.unusedVariables false
set_option maxRecDepth 100000

theorem ownC : ownKnob Try.prog.godebug = none := by kernel_rfl

theorem laidOutC : laidOutB Try.prog = true := by kernel_rfl

theorem cellsF : Try.prog.cellsOf 23 = 1 := by kernel_rfl

theorem addr_plain {W : World} {a : Addr} {v : Value} (h : W.cell? (a.add 0) = some v) : ∃ g o, a = ⟨g, o, none⟩ := by
  obtain ⟨g, o, spot⟩ := a
  have hspot : spot = none := by simpa [Addr.add] using World.cell?_spot h
  exact ⟨g, o, by rw [hspot]⟩

/-- rates that came in: they are there, each a word of 64 bits -/
abbrev RatesIn (W : World) (v : Value) (l : List Int) : Prop := Nums .u64 W v l ∧ ∀ x ∈ l, Wd x

theorem openRates {H : Type} {enc : TypeId × Value → H} {W : World} {base : Nat} {held : Bool} {r : Reach} {b0 : Nat} {v : Value} {x : DataW H} {p : List MemPlace}
    (hv : Value.okWide Try.prog W r b0 27 v) (h : DataW.Trod enc Try.prog W base (fun _ => true) held 27 v x p) : ∃ l, RatesIn W v l := by
  obtain ⟨a0, len, cap, rfl⟩ := okWide_slice Try.underlying27 hv
  obtain ⟨fuel, hf⟩ := h
  rcases open_ints Try.underlying27 Try.underlying23 cellsF hf with ⟨hcs, _⟩ | ⟨a, len', cap', zs, hcs, _, hl, hm, hzs, _, hx, hwf⟩
  · simp [Value.cells] at hcs
    obtain ⟨rfl, rfl, rfl⟩ := hcs
    exact ⟨[], RowK.nil _ _ _, fun y hy => by simp at hy⟩
  · simp [Value.cells] at hcs
    obtain ⟨rfl, rfl, rfl⟩ := hcs
    simp only [if_true] at hzs
    have hlen : (zs.take len).length = len := by rw [List.length_take]; omega
    refine ⟨zs.take len, ⟨some a, len, cap, rfl, by rw [fcells_length (encK .u64), hlen], hl, hm, fun h0 => ?_⟩, fun y hy => ?_⟩
    · obtain ⟨g, o, rfl⟩ := addr_plain (hx 0 (by omega))
      refine ⟨g, o, rfl, trivial, fun j u hu => ?_⟩
      have hj := (List.getElem?_eq_some_iff.1 hu).1
      rw [fcells_length (encK .u64), hlen, Nat.mul_one] at hj
      have hj2 : j < zs.length := by omega
      have e : (zs.take len)[j]? = some (zs.getD j 0) := by rw [List.getElem?_take_of_lt hj, List.getD_eq_getElem?_getD, List.getElem?_eq_getElem hj2]; rfl
      have ga := fcells_at (encK .u64) e (j := 0) (by decide)
      rw [Nat.mul_one, Nat.add_zero, hu] at ga
      have h1 := hx j hj2
      rw [WideShapes.add_plain] at h1
      rw [h1, ga]
      rfl
    · have hin := List.mem_of_mem_take hy
      obtain ⟨b1, b2⟩ := bounds_u64 (hwf _ hin)
      exact ⟨b1, show y ≤ 18446744073709551615 by omega⟩
end Go.Proofs.Ytemfdbnjncpbjaa.Spl

/-
  Samples that came in as an argument: what lies in memory.
-/
import Derived.Test.YtgdjdcedjegkjaaRows
import Derived.Test.YtgdjdcedjegkjaaTrpPlay
import Derived.ProofKit
import Derived.ChangeSlices
import Derived.OpenShut
import Derived.Lib.SmallJoins
import Derived.Deep.SlicePairs
import Derived.Deep.Strs
import Derived.Carry
namespace Go.Proofs.Ytgdjdcedjegkjaa.Trp
open Go.ChangeShapes Go.WideShapes Go.ChangeAt Go.RowKit Go.Joins Go.Deep
set_option linter.unusedVariables false
set_option maxRecDepth 100000

theorem ownT : ownKnob Try.prog.godebug = none := by kernel_rfl
theorem laidOutT : laidOutB Try.prog = true := by kernel_rfl
theorem cellsI : Try.prog.cellsOf 3 = 1 := by kernel_rfl
theorem cellsO : Try.prog.cellsOf 35 = 3 := by kernel_rfl
theorem addr_plain {W : World} {a : Addr} {v : Value} (h : W.cell? (a.add 0) = some v) : ∃ g o, a = ⟨g, o, none⟩ := by
  obtain ⟨g, o, spot⟩ := a
  have hspot : spot = none := by simpa [Addr.add] using World.cell?_spot h
  exact ⟨g, o, by rw [hspot]⟩

theorem openA {H : Type} {enc : TypeId × Value → H} {W : World} {base fuel : Nat} {held : Bool} {a0 : Option Addr} {len0 cap0 : Nat} {x : DataW H × List MemPlace}
    (hf : DataW.trod enc Try.prog W base (fun _ => true) held fuel 24 [.slice a0 len0 cap0] = some x) : ∃ l, OpsK (fun _ => True) W (.slice a0 len0 cap0) l := by
  rcases open_slice Try.underlying24 hf with ⟨hcs, _⟩ | ⟨a, len, cap, m, n, D, Pl, hcs, _, hl, hm, hmm, _, hx⟩
  · simp at hcs
    obtain ⟨rfl, rfl, rfl⟩ := hcs
    exact ⟨[], RowK.nil _ _ _⟩
  · simp at hcs
    obtain ⟨rfl, rfl, rfl⟩ := hcs
    simp only [if_true] at hmm
    have num : ∀ i, i < len0 → ∃ q : Tri, W.cell? (a.add (i * 3)) = some (.int .i64 q.1) ∧ W.cell? (a.add (i * 3 + 1)) = some (.int .i64 q.2.1) ∧ W.cell? (a.add (i * 3 + 2)) = some (.int .i64 q.2.2) := by
      intro i hi
      obtain ⟨cs', h1, h2⟩ := hx i (by omega)
      rw [cellsO] at h1
      obtain ⟨_, hlen, hcell⟩ := World.cells?_some h1
      obtain ⟨y0, y1, y2, k, _, _, t0, t1, t2⟩ := trod_struct3 Try.underlying35 h2
      match cs', hlen with
      | [v0, v1, v2], _ =>
        simp [cellsI] at t0 t1 t2
        obtain ⟨n0, e0, _⟩ := DataW.trod_int Try.underlying3 t0
        obtain ⟨n1, e1, _⟩ := DataW.trod_int Try.underlying3 t1
        obtain ⟨n2, e2, _⟩ := DataW.trod_int Try.underlying3 t2
        simp at e0 e1 e2
        subst e0 e1 e2
        have c0 := hcell 0 (by omega)
        have c1 := hcell 1 (by omega)
        have c2 := hcell 2 (by omega)
        rw [add_add] at c0 c1 c2
        exact ⟨(n0, n1, n2), by simpa using c0, by simpa using c1, by simpa using c2⟩
    obtain ⟨q, hq⟩ := choose_lt num
    have hlen : ((List.range len0).map q).length = len0 := by simp
    refine ⟨(List.range len0).map q, some a, len0, cap0, rfl, by rw [fcells_length encT, hlen], hl, hm, fun h0 => ?_⟩
    obtain ⟨g, o, rfl⟩ := addr_plain (a := a) (by simpa using (hq 0 h0).1)
    refine ⟨g, o, rfl, trivial, fun j u hu => ?_⟩
    have hj : j < len0 * 3 := by rw [← hlen, ← fcells_length encT]; exact (List.getElem?_eq_some_iff.1 hu).1
    have hi : j / 3 < len0 := by omega
    have e : ((List.range len0).map q)[j / 3]? = some (q (j / 3)) := by simp [hi]
    have h1 := hq (j / 3) hi
    rw [Addr.add_mid, Addr.add_mid, Addr.add_mid] at h1
    have hm3 : j % 3 = 0 ∨ j % 3 = 1 ∨ j % 3 = 2 := by omega
    rcases hm3 with hm2 | hm2 | hm2
    · have ej : j = j / 3 * 3 := by omega
      have ga := fcells_at encT e (j := 0) (by decide)
      rw [Nat.add_zero, ← ej, hu] at ga
      rw [ej, h1.1, ga]
      rfl
    · have ej : j = j / 3 * 3 + 1 := by omega
      have ga := fcells_at encT e (j := 1) (by decide)
      rw [← ej, hu] at ga
      rw [ej, h1.2.1, ga]
      rfl
    · have ej : j = j / 3 * 3 + 2 := by omega
      have ga := fcells_at encT e (j := 2) (by decide)
      rw [← ej, hu] at ga
      rw [ej, h1.2.2, ga]
      rfl

theorem openOps {H : Type} {enc : TypeId × Value → H} {W : World} {base : Nat} {held : Bool} {r : Reach} {b0 : Nat} {v : Value} {x : DataW H} {p : List MemPlace}
    (hv : Value.okWide Try.prog W r b0 24 v) (h : DataW.Trod enc Try.prog W base (fun _ => true) held 24 v x p) : ∃ l, OpsK (fun _ => True) W v l := by
  obtain ⟨a0, len0, cap0, rfl⟩ := okWide_slice Try.underlying24 hv
  obtain ⟨fuel, hf⟩ := h
  simp only [Value.cells] at hf
  exact openA hf
end Go.Proofs.Ytgdjdcedjegkjaa.Trp

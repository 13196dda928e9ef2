/-
  Slices of calls and of stretches that came in as arguments: what lies in memory.
-/
import Derived.Test.YtbolhkafdgiggaaRows
import Derived.Test.YtbolhkafdgiggaaRngPlayed
import Derived.ProofKit
import Derived.ChangeSlices
import Derived.OpenShut
import Derived.Lib.SmallJoins
import Derived.Deep.SlicePairs
import Derived.Deep.Strs
import Derived.Carry
namespace Go.Proofs.Ytbolhkafdgiggaa
open Go.ChangeShapes Go.WideShapes Go.ChangeAt Go.RowKit Go.Joins Go.Deep
set_option linter.unusedVariables false
set_option maxRecDepth 100000

theorem own8 : ownKnob Try.prog.godebug = none := by kernel_rfl
theorem laidOut8 : laidOutB Try.prog = true := by kernel_rfl
theorem cellsI8 : Try.prog.cellsOf 3 = 1 := by kernel_rfl
theorem cellsTwo8 : Try.prog.cellsOf 33 = 2 := by kernel_rfl
theorem cellsOp8 : Try.prog.cellsOf 28 = 3 := by kernel_rfl
theorem addr_plain {W : World} {a : Addr} {v : Value} (h : W.cell? (a.add 0) = some v) : ∃ g o, a = ⟨g, o, none⟩ := by
  obtain ⟨g, o, spot⟩ := a
  have hspot : spot = none := by simpa [Addr.add] using World.cell?_spot h
  exact ⟨g, o, by rw [hspot]⟩

theorem openOps {H : Type} {enc : TypeId × Value → H} {W : World} {base : Nat} {held : Bool} {r : Reach} {b0 : Nat} {v : Value} {x : DataW H} {p : List MemPlace}
    (hv : Value.okWide Try.prog W r b0 22 v) (h : DataW.Trod enc Try.prog W base (fun _ => true) held 22 v x p) : ∃ l, RowK (fun _ => True) W v 3 (ocells l) := by
  obtain ⟨a0, len0, cap0, rfl⟩ := okWide_slice Try.underlying22 hv
  obtain ⟨fuel, hf⟩ := h
  rcases open_slice Try.underlying22 hf with ⟨hcs, _⟩ | ⟨a, len, cap, m, n, D, Pl, hcs, _, hl, hm, hmm, _, hx⟩
  · simp [Value.cells] at hcs
    obtain ⟨rfl, rfl, rfl⟩ := hcs
    exact ⟨[], RowK.nil _ _ _⟩
  · simp [Value.cells] at hcs
    obtain ⟨rfl, rfl, rfl⟩ := hcs
    simp only [if_true] at hmm
    have num : ∀ i, i < len0 → ∃ q : Int × Int × Int, W.cell? (a.add (i * 3)) = some (.int .i64 q.1) ∧ W.cell? (a.add (i * 3 + 1)) = some (.int .i64 q.2.1) ∧ W.cell? (a.add (i * 3 + 2)) = some (.int .i64 q.2.2) := by
      intro i hi
      obtain ⟨cs', h1, h2⟩ := hx i (by omega)
      rw [cellsOp8] at h1
      obtain ⟨_, hlen, hcell⟩ := World.cells?_some h1
      obtain ⟨y0, y1, y2, k, _, _, t0, t1, t2⟩ := trod_struct3 Try.underlying28 h2
      match cs', hlen with
      | [v0, v1, v2], _ =>
        simp [cellsI8] at t0 t1 t2
        obtain ⟨n0, e0, _⟩ := DataW.trod_int Try.underlying3 t0
        obtain ⟨n1, e1, _⟩ := DataW.trod_int Try.underlying3 t1
        obtain ⟨n2, e2, _⟩ := DataW.trod_int Try.underlying3 t2
        simp at e0 e1 e2
        subst e0 e1 e2
        have c0 := hcell 0 (by omega)
        have c1 := hcell 1 (by omega)
        have c2 := hcell 2 (by omega)
        rw [add_add] at c0 c1 c2
        exact ⟨(n0, n1, n2), by simpa using c0, by simpa using c1, by simpa using c2⟩
    obtain ⟨q, hq⟩ := choose_lt num
    have hlen : ((List.range len0).map q).length = len0 := by simp
    refine ⟨(List.range len0).map q, some a, len0, cap0, rfl, by rw [ocells_length, hlen], hl, hm, fun h0 => ?_⟩
    obtain ⟨g, o, rfl⟩ := addr_plain (a := a) (by simpa using (hq 0 h0).1)
    refine ⟨g, o, rfl, trivial, fun j u hu => ?_⟩
    have hj : j < len0 * 3 := by rw [← hlen, ← ocells_length]; exact (List.getElem?_eq_some_iff.1 hu).1
    have hi : j / 3 < len0 := by omega
    have e : ((List.range len0).map q).getD (j / 3) (0, 0, 0) = q (j / 3) := by simp [List.getD_eq_getElem?_getD, hi]
    have ga := ocells_at ((List.range len0).map q) (j / 3) (by rw [hlen]; exact hi)
    rw [e] at ga
    have h1 := hq (j / 3) hi
    rw [Addr.add_mid, Addr.add_mid, Addr.add_mid] at h1
    have hm3 : j % 3 = 0 ∨ j % 3 = 1 ∨ j % 3 = 2 := by omega
    rcases hm3 with hm2 | hm2 | hm2
    · have ej : j = j / 3 * 3 := by omega
      rw [ej] at hu ⊢
      rw [ga.1] at hu
      rw [h1.1]; exact hu
    · have ej : j = j / 3 * 3 + 1 := by omega
      rw [ej] at hu ⊢
      rw [ga.2.1] at hu
      rw [h1.2.1]; exact hu
    · have ej : j = j / 3 * 3 + 2 := by omega
      rw [ej] at hu ⊢
      rw [ga.2.2] at hu
      rw [h1.2.2]; exact hu

theorem openG8 {H : Type} {enc : TypeId × Value → H} {W : World} {base : Nat} {held : Bool} {r : Reach} {b0 : Nat} {v : Value} {x : DataW H} {p : List MemPlace}
    (hv : Value.okWide Try.prog W r b0 31 v) (h : DataW.Trod enc Try.prog W base (fun _ => true) held 31 v x p) : ∃ l, RowK (fun _ => True) W v 2 (gcells l) := by
  obtain ⟨a0, len0, cap0, rfl⟩ := okWide_slice Try.underlying31 hv
  obtain ⟨fuel, hf⟩ := h
  rcases open_slice Try.underlying31 hf with ⟨hcs, _⟩ | ⟨a, len, cap, m, n, D, Pl, hcs, _, hl, hm, hmm, _, hx⟩
  · simp [Value.cells] at hcs
    obtain ⟨rfl, rfl, rfl⟩ := hcs
    exact ⟨[], RowK.nil _ _ _⟩
  · simp [Value.cells] at hcs
    obtain ⟨rfl, rfl, rfl⟩ := hcs
    simp only [if_true] at hmm
    have num : ∀ i, i < len0 → ∃ q : Int × Int, W.cell? (a.add (i * 2)) = some (.int .i64 q.1) ∧ W.cell? (a.add (i * 2 + 1)) = some (.int .i64 q.2) := by
      intro i hi
      obtain ⟨cs', h1, h2⟩ := hx i (by omega)
      rw [cellsTwo8] at h1
      obtain ⟨_, hlen, hcell⟩ := World.cells?_some h1
      obtain ⟨xs, k, hk, hxy, _, hxl, hf⟩ := DataW.trod_array Try.underlying33 h2
      match xs, hxl, cs', hlen with
      | [y0, y1], _, [v0, v1], _ =>
        have g0 := hf 0 (by decide)
        have g1 := hf 1 (by decide)
        simp [cellsI8] at g0 g1
        obtain ⟨n0, e0, _⟩ := DataW.trod_int Try.underlying3 g0
        obtain ⟨n1, e1, _⟩ := DataW.trod_int Try.underlying3 g1
        simp at e0 e1
        subst e0 e1
        have c0 := hcell 0 (by omega)
        have c1 := hcell 1 (by omega)
        rw [add_add] at c0 c1
        exact ⟨(n0, n1), by simpa using c0, by simpa using c1⟩
    obtain ⟨q, hq⟩ := choose_lt num
    have hlen : ((List.range len0).map q).length = len0 := by simp
    refine ⟨(List.range len0).map q, some a, len0, cap0, rfl, by rw [gcells_length, hlen], hl, hm, fun h0 => ?_⟩
    obtain ⟨g, o, rfl⟩ := addr_plain (a := a) (by simpa using (hq 0 h0).1)
    refine ⟨g, o, rfl, trivial, fun j u hu => ?_⟩
    have hj : j < len0 * 2 := by rw [← hlen, ← gcells_length]; exact (List.getElem?_eq_some_iff.1 hu).1
    have hi : j / 2 < len0 := by omega
    have e : ((List.range len0).map q).getD (j / 2) (0, 0) = q (j / 2) := by simp [List.getD_eq_getElem?_getD, hi]
    have ga := gcells_at ((List.range len0).map q) (j / 2) (by rw [hlen]; exact hi)
    rw [e] at ga
    have h1 := hq (j / 2) hi
    rw [Addr.add_mid, Addr.add_mid] at h1
    rcases Nat.mod_two_eq_zero_or_one j with hm2 | hm2
    · have ej : j = j / 2 * 2 := by omega
      rw [ej] at hu ⊢
      rw [ga.1] at hu
      rw [h1.1]; exact hu
    · have ej : j = j / 2 * 2 + 1 := by omega
      rw [ej] at hu ⊢
      rw [ga.2] at hu
      rw [h1.2]; exact hu
end Go.Proofs.Ytbolhkafdgiggaa

/-
  Calls and a struct that came in as arguments: what they hold.
-/
import Derived.Test.YtolcnliebjiejaaRows
import Derived.Test.YtolcnliebjiejaaSpdPlay
import Derived.ProofKit
import Derived.ChangeSlices
import Derived.OpenShut
import Derived.Lib.SmallJoins
import Derived.Deep.SlicePairs
import Derived.Carry
namespace Go.Proofs.Ytolcnliebjiejaa.Spd
open Go.ChangeShapes Go.WideShapes Go.ChangeAt Go.RowKit Go.Joins Go.Deep
set_option linter.unusedVariables false
set_option maxRecDepth 100000

theorem ownV : ownKnob Try.prog.godebug = none := by kernel_rfl
theorem laidOutV : laidOutB Try.prog = true := by kernel_rfl
theorem cellsO : Try.prog.cellsOf 31 = 4 := by kernel_rfl
theorem cellsI : Try.prog.cellsOf 3 = 1 := by kernel_rfl
theorem cellsF : Try.prog.cellsOf 23 = 1 := by kernel_rfl
theorem cellsS : Try.prog.cellsOf 41 = 4 := by kernel_rfl

theorem openOps {H : Type} {enc : TypeId × Value → H} {W : World} {base : Nat} {held : Bool} {r : Reach} {b0 : Nat} {v : Value} {x : DataW H} {p : List MemPlace}
    (hv : Value.okWide Try.prog W r b0 24 v) (h : DataW.Trod enc Try.prog W base (fun _ => true) held 24 v x p) : ∃ l, OpsIn W v l := by
  obtain ⟨a0, len0, cap0, rfl⟩ := okWide_slice Try.underlying24 hv
  obtain ⟨fuel, hf⟩ := h
  rcases open_slice Try.underlying24 hf with ⟨hcs, _⟩ | ⟨a, len, cap, m, n, D, Pl, hcs, _, hl, hm, hmm, _, hx⟩
  · simp [Value.cells] at hcs
    obtain ⟨rfl, rfl, rfl⟩ := hcs
    exact ⟨[], RowK.nil _ _ _, fun o ho => by simp at ho⟩
  · simp [Value.cells] at hcs
    obtain ⟨rfl, rfl, rfl⟩ := hcs
    simp only [if_true] at hmm
    have num : ∀ i, i < len0 → ∃ q : OpS, (∀ j, j < 4 → W.cell? (a.add (i * 4 + j)) = (four q)[j]?) ∧ FitO q := by
      intro i hi
      obtain ⟨cs', h1, h2⟩ := hx i (by omega)
      rw [cellsO] at h1
      obtain ⟨_, hlen, hcell⟩ := World.cells?_some h1
      obtain ⟨xs, k, _, _, _, hxl, hall⟩ := DataW.trod_struct Try.underlying31 h2
      match xs, hxl, cs', hlen with
      | [y0, y1, y2, y3], _, [v0, v1, v2, v3], _ =>
        have t0 := hall 0 _ rfl
        have t1 := hall 1 _ rfl
        have t2 := hall 2 _ rfl
        have t3 := hall 3 _ rfl
        simp [cellsI, cellsF] at t0 t1 t2 t3
        obtain ⟨n0, e0, _⟩ := DataW.trod_int Try.underlying3 t0
        obtain ⟨n1, e1, _⟩ := DataW.trod_int Try.underlying3 t1
        obtain ⟨n2, e2, _⟩ := DataW.trod_int Try.underlying3 t2
        obtain ⟨n3, e3, _, f3⟩ := DataW.trod_int Try.underlying23 t3
        simp at e0 e1 e2 e3
        subst e0 e1 e2 e3
        obtain ⟨u0, u1⟩ := bounds_u64 f3
        refine ⟨(n0, n1, n2, n3), fun j hj => ?_, ⟨u0, show n3 ≤ 18446744073709551615 by omega⟩⟩
        have c := hcell j (by omega)
        rw [add_add] at c
        rw [c]
        match j, hj with
        | 0, _ | 1, _ | 2, _ | 3, _ => rfl
    obtain ⟨q, hq⟩ := choose_lt num
    have hlen : ((List.range len0).map q).length = len0 := by simp
    refine ⟨(List.range len0).map q, ⟨some a, len0, cap0, rfl, by rw [fcells_length encO, hlen], hl, hm, fun h0 => ?_⟩, fun o ho => ?_⟩
    · obtain ⟨g, o, spot⟩ := a
      have hspot : spot = none := by simpa [Addr.add] using World.cell?_spot ((hq 0 h0).1 0 (by decide))
      subst hspot
      refine ⟨g, o, rfl, trivial, fun j u hu => ?_⟩
      have hj : j < len0 * 4 := by rw [← hlen, ← fcells_length encO]; exact (List.getElem?_eq_some_iff.1 hu).1
      have hi : j / 4 < len0 := by omega
      have e : ((List.range len0).map q)[j / 4]? = some (q (j / 4)) := by simp [hi]
      have h1 := (hq (j / 4) hi).1 (j % 4) (by omega)
      rw [Addr.add_mid] at h1
      have ej : j / 4 * 4 + j % 4 = j := by omega
      have ga := fcells_at encO e (j := j % 4) (by omega)
      rw [ej, hu] at ga
      rw [ej] at h1
      rw [h1, ga]
    · obtain ⟨i, hi, rfl⟩ := List.mem_map.1 ho
      exact (hq i (List.mem_range.1 hi)).2

theorem array4 {α : Type} {cs : Array α} (h : cs.size = 4) : ∃ c0 c1 c2 c3, cs = #[c0, c1, c2, c3] := by
  obtain ⟨l⟩ := cs
  match l, h with
  | [c0, c1, c2, c3], _ => exact ⟨c0, c1, c2, c3, rfl⟩
theorem openComes {H : Type} {enc : TypeId × Value → H} {W : World} {base : Nat} {held : Bool} {r : Reach} {b0 : Nat} {v : Value} {x : DataW H} {p : List MemPlace}
    (hv : Value.okWide Try.prog W r b0 41 v) (h : DataW.Trod enc Try.prog W base (fun _ => true) held 41 v x p) : ∃ z : Int × Int × Int × Int, ComesIn v z := by
  obtain ⟨cs, rfl, hsz⟩ := okWide_struct Try.underlying41 hv
  obtain ⟨c0, c1, c2, c3, rfl⟩ := array4 (hsz.trans cellsS)
  obtain ⟨fuel, hf⟩ := h
  obtain ⟨xs, k, _, _, _, hxl, hall⟩ := DataW.trod_struct Try.underlying41 hf
  match xs, hxl with
  | [y0, y1, y2, y3], _ =>
    have t0 := hall 0 _ rfl
    have t1 := hall 1 _ rfl
    have t2 := hall 2 _ rfl
    have t3 := hall 3 _ rfl
    simp [Value.cells, cellsI, cellsF] at t0 t1 t2 t3
    obtain ⟨n0, e0, _, f0⟩ := DataW.trod_int Try.underlying23 t0
    obtain ⟨n1, e1, _, f1⟩ := DataW.trod_int Try.underlying23 t1
    obtain ⟨n2, e2, _, f2⟩ := DataW.trod_int Try.underlying23 t2
    obtain ⟨n3, e3, _⟩ := DataW.trod_int Try.underlying3 t3
    simp at e0 e1 e2 e3
    subst e0 e1 e2 e3
    obtain ⟨u0, u1⟩ := bounds_u64 f0
    obtain ⟨u2, u3⟩ := bounds_u64 f1
    obtain ⟨u4, u5⟩ := bounds_u64 f2
    exact ⟨(n0, n1, n2, n3), rfl, ⟨u0, show n0 ≤ 18446744073709551615 by omega⟩, ⟨u2, show n1 ≤ 18446744073709551615 by omega⟩, u4, show n2 ≤ 18446744073709551615 by omega⟩
end Go.Proofs.Ytolcnliebjiejaa.Spd

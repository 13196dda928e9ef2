/-
  Calls and structs that came in as arguments: what they hold.
-/
import Derived.Test.YtcjohgfmdnimjaaDoorLaidSteps
import Derived.Test.YtcjohgfmdnimjaaDoorSupPlay
import Derived.ProofKit
import Derived.ChangeSlices
import Derived.OpenShut
import Derived.Lib.SmallJoins
import Derived.Deep.SlicePairs
import Derived.Carry
namespace Go.Proofs.YtcjohgfmdnimjaaDoor.Sup
open Go.ChangeShapes Go.WideShapes Go.ChangeAt Go.RowKit Go.Joins Go.Deep
set_option linter.unusedVariables false
set_option maxRecDepth 100000

theorem ownU : ownKnob Tryd.prog.godebug = none := by kernel_rfl
theorem laidOutU : laidOutB Tryd.prog = true := by kernel_rfl
theorem cellsO : Tryd.prog.cellsOf 39 = 5 := by kernel_rfl
theorem cellsI : Tryd.prog.cellsOf 3 = 1 := by kernel_rfl
theorem cellsF : Tryd.prog.cellsOf 23 = 1 := by kernel_rfl
theorem cellsS : Tryd.prog.cellsOf 31 = 4 := by kernel_rfl
theorem cellsT : Tryd.prog.cellsOf 51 = 6 := by kernel_rfl

theorem openOps {H : Type} {enc : TypeId × Value → H} {W : World} {base : Nat} {held : Bool} {r : Reach} {b0 : Nat} {v : Value} {x : DataW H} {p : List MemPlace}
    (hv : Value.okWide Tryd.prog W r b0 33 v) (h : DataW.Trod enc Tryd.prog W base (fun _ => true) held 33 v x p) : ∃ l, OpsIn W v l := by
  obtain ⟨a0, len0, cap0, rfl⟩ := okWide_slice Tryd.underlying33 hv
  obtain ⟨fuel, hf⟩ := h
  rcases open_slice Tryd.underlying33 hf with ⟨hcs, _⟩ | ⟨a, len, cap, m, n, D, Pl, hcs, _, hl, hm, hmm, _, hx⟩
  · simp [Value.cells] at hcs
    obtain ⟨rfl, rfl, rfl⟩ := hcs
    exact ⟨[], RowK.nil _ _ _, fun o ho => by simp at ho⟩
  · simp [Value.cells] at hcs
    obtain ⟨rfl, rfl, rfl⟩ := hcs
    simp only [if_true] at hmm
    have num : ∀ i, i < len0 → ∃ q : OpS, (∀ j, j < 5 → W.cell? (a.add (i * 5 + j)) = (five q)[j]?) ∧ FitO q := by
      intro i hi
      obtain ⟨cs', h1, h2⟩ := hx i (by omega)
      rw [cellsO] at h1
      obtain ⟨_, hlen, hcell⟩ := World.cells?_some h1
      obtain ⟨xs, k, _, _, _, hxl, hall⟩ := DataW.trod_struct Tryd.underlying39 h2
      match xs, hxl, cs', hlen with
      | [y0, y1, y2, y3, y4], _, [v0, v1, v2, v3, v4], _ =>
        have t0 := hall 0 _ rfl
        have t1 := hall 1 _ rfl
        have t2 := hall 2 _ rfl
        have t3 := hall 3 _ rfl
        have t4 := hall 4 _ rfl
        simp [cellsI, cellsF] at t0 t1 t2 t3 t4
        obtain ⟨n0, e0, _⟩ := DataW.trod_int Tryd.underlying3 t0
        obtain ⟨n1, e1, _⟩ := DataW.trod_int Tryd.underlying3 t1
        obtain ⟨n2, e2, _⟩ := DataW.trod_int Tryd.underlying3 t2
        obtain ⟨n3, e3, _⟩ := DataW.trod_int Tryd.underlying3 t3
        obtain ⟨n4, e4, _, f4⟩ := DataW.trod_int Tryd.underlying23 t4
        simp at e0 e1 e2 e3 e4
        subst e0 e1 e2 e3 e4
        obtain ⟨u0, u1⟩ := bounds_u64 f4
        refine ⟨(n0, n1, n2, n3, n4), fun j hj => ?_, ⟨u0, show n4 < 18446744073709551616 by omega⟩⟩
        have c := hcell j (by omega)
        rw [add_add] at c
        rw [c]
        match j, hj with
        | 0, _ | 1, _ | 2, _ | 3, _ | 4, _ => rfl
    obtain ⟨q, hq⟩ := choose_lt num
    have hlen : ((List.range len0).map q).length = len0 := by simp
    refine ⟨(List.range len0).map q, ⟨some a, len0, cap0, rfl, by rw [fcells_length encO, hlen], hl, hm, fun h0 => ?_⟩, fun o ho => ?_⟩
    · obtain ⟨g, o, spot⟩ := a
      have hspot : spot = none := by simpa [Addr.add] using World.cell?_spot ((hq 0 h0).1 0 (by decide))
      subst hspot
      refine ⟨g, o, rfl, trivial, fun j u hu => ?_⟩
      have hj : j < len0 * 5 := by rw [← hlen, ← fcells_length encO]; exact (List.getElem?_eq_some_iff.1 hu).1
      have hi : j / 5 < len0 := by omega
      have e : ((List.range len0).map q)[j / 5]? = some (q (j / 5)) := by simp [hi]
      have h1 := (hq (j / 5) hi).1 (j % 5) (by omega)
      rw [Addr.add_mid] at h1
      have ej : j / 5 * 5 + j % 5 = j := by omega
      have ga := fcells_at encO e (j := j % 5) (by omega)
      rw [ej, hu] at ga
      rw [ej] at h1
      rw [h1, ga]
    · obtain ⟨i, hi, rfl⟩ := List.mem_map.1 ho
      exact (hq i (List.mem_range.1 hi)).2

theorem array4 {α : Type} {cs : Array α} (h : cs.size = 4) : ∃ c0 c1 c2 c3, cs = #[c0, c1, c2, c3] := by
  obtain ⟨l⟩ := cs
  match l, h with
  | [c0, c1, c2, c3], _ => exact ⟨c0, c1, c2, c3, rfl⟩
theorem array6 {α : Type} {cs : Array α} (h : cs.size = 6) : ∃ c0 c1 c2 c3 c4 c5, cs = #[c0, c1, c2, c3, c4, c5] := by
  obtain ⟨l⟩ := cs
  match l, h with
  | [c0, c1, c2, c3, c4, c5], _ => exact ⟨c0, c1, c2, c3, c4, c5, rfl⟩
theorem openShares {H : Type} {enc : TypeId × Value → H} {W : World} {base : Nat} {held : Bool} {r : Reach} {b0 : Nat} {v : Value} {x : DataW H} {p : List MemPlace}
    (hv : Value.okWide Tryd.prog W r b0 31 v) (h : DataW.Trod enc Tryd.prog W base (fun _ => true) held 31 v x p) : ∃ z : Int × Int × Int × Int, SharesIn v z := by
  obtain ⟨cs, rfl, hsz⟩ := okWide_struct Tryd.underlying31 hv
  obtain ⟨c0, c1, c2, c3, rfl⟩ := array4 (hsz.trans cellsS)
  obtain ⟨fuel, hf⟩ := h
  obtain ⟨xs, k, _, _, _, hxl, hall⟩ := DataW.trod_struct Tryd.underlying31 hf
  match xs, hxl with
  | [y0, y1, y2, y3], _ =>
    have t0 := hall 0 _ rfl
    have t1 := hall 1 _ rfl
    have t2 := hall 2 _ rfl
    have t3 := hall 3 _ rfl
    simp [Value.cells, cellsI, cellsF] at t0 t1 t2 t3
    obtain ⟨n0, e0, _, f0⟩ := DataW.trod_int Tryd.underlying23 t0
    obtain ⟨n1, e1, _, f1⟩ := DataW.trod_int Tryd.underlying23 t1
    obtain ⟨n2, e2, _⟩ := DataW.trod_int Tryd.underlying3 t2
    obtain ⟨n3, e3, _⟩ := DataW.trod_int Tryd.underlying3 t3
    simp at e0 e1 e2 e3
    subst e0 e1 e2 e3
    obtain ⟨u0, u1⟩ := bounds_u64 f0
    obtain ⟨u2, u3⟩ := bounds_u64 f1
    exact ⟨(n0, n1, n2, n3), rfl, ⟨u0, show n0 < 18446744073709551616 by omega⟩, u2, show n1 < 18446744073709551616 by omega⟩

theorem openTwo {H : Type} {enc : TypeId × Value → H} {W : World} {base : Nat} {held : Bool} {r : Reach} {b0 : Nat} {v : Value} {x : DataW H} {p : List MemPlace}
    (hv : Value.okWide Tryd.prog W r b0 51 v) (h : DataW.Trod enc Tryd.prog W base (fun _ => true) held 51 v x p) : ∃ z : Int × Int × Int × Int × Int × Int, TwoIn v z := by
  obtain ⟨cs, rfl, hsz⟩ := okWide_struct Tryd.underlying51 hv
  obtain ⟨c0, c1, c2, c3, c4, c5, rfl⟩ := array6 (hsz.trans cellsT)
  obtain ⟨fuel, hf⟩ := h
  obtain ⟨xs, k, _, _, _, hxl, hall⟩ := DataW.trod_struct Tryd.underlying51 hf
  match xs, hxl with
  | [y0, y1, y2, y3, y4, y5], _ =>
    have t0 := hall 0 _ rfl
    have t1 := hall 1 _ rfl
    have t2 := hall 2 _ rfl
    have t3 := hall 3 _ rfl
    have t4 := hall 4 _ rfl
    have t5 := hall 5 _ rfl
    simp [Value.cells, cellsI, cellsF] at t0 t1 t2 t3 t4 t5
    obtain ⟨n0, e0, _, f0⟩ := DataW.trod_int Tryd.underlying23 t0
    obtain ⟨n1, e1, _, f1⟩ := DataW.trod_int Tryd.underlying23 t1
    obtain ⟨n2, e2, _, f2⟩ := DataW.trod_int Tryd.underlying23 t2
    obtain ⟨n3, e3, _, f3⟩ := DataW.trod_int Tryd.underlying23 t3
    obtain ⟨n4, e4, _⟩ := DataW.trod_int Tryd.underlying3 t4
    obtain ⟨n5, e5, _⟩ := DataW.trod_int Tryd.underlying3 t5
    simp at e0 e1 e2 e3 e4 e5
    subst e0 e1 e2 e3 e4 e5
    obtain ⟨u0, u1⟩ := bounds_u64 f0
    obtain ⟨u2, u3⟩ := bounds_u64 f1
    obtain ⟨u4, u5⟩ := bounds_u64 f2
    obtain ⟨u6, u7⟩ := bounds_u64 f3
    exact ⟨(n0, n1, n2, n3, n4, n5), rfl, ⟨u0, show n0 < 18446744073709551616 by omega⟩, ⟨u2, show n1 < 18446744073709551616 by omega⟩, ⟨u4, show n2 < 18446744073709551616 by omega⟩, u6, show n3 < 18446744073709551616 by omega⟩
end Go.Proofs.YtcjohgfmdnimjaaDoor.Sup

/-
  Rates, ticks, a window that came in as arguments: what lies in memory; how long they may be where the reading is small.
-/
import Derived.Test.YtadgkhdjjnkfcaaBulkCore
import Derived.Test.YtadgkhdjjnkfcaaBktWin
import Derived.ProofKit
import Derived.ChangeSlices
import Derived.OpenShut
import Derived.Lib.SmallJoins
import Derived.Deep.SlicePairs
import Derived.Carry
namespace Go.Proofs.Ytadgkhdjjnkfcaa.Bkt
open Go.ChangeShapes Go.WideShapes Go.ChangeAt Go.RowKit Go.Joins Go.Deep
set_option linter.unusedVariables false
set_option maxRecDepth 100000

theorem ownK : ownKnob Try.prog.godebug = none := by kernel_rfl
theorem laidOutK : laidOutB Try.prog = true := by kernel_rfl
theorem cellsI : Try.prog.cellsOf 3 = 1 := by kernel_rfl
theorem cellsF : Try.prog.cellsOf 30 = 1 := by kernel_rfl
theorem cellsIs : Try.prog.cellsOf 31 = 1 := by kernel_rfl
theorem cellsT : Try.prog.cellsOf 33 = 2 := by kernel_rfl
theorem cellsTs : Try.prog.cellsOf 22 = 1 := by kernel_rfl
theorem cellsW : Try.prog.cellsOf 44 = 4 := by kernel_rfl
theorem addr_plain {W : World} {a : Addr} {v : Value} (h : W.cell? (a.add 0) = some v) : ∃ g o, a = ⟨g, o, none⟩ := by
  obtain ⟨g, o, spot⟩ := a
  have hspot : spot = none := by simpa [Addr.add] using World.cell?_spot h
  exact ⟨g, o, by rw [hspot]⟩

theorem openRates {H : Type} {enc : TypeId × Value → H} {W : World} {base : Nat} {held : Bool} {r : Reach} {b0 : Nat} {v : Value} {x : DataW H} {p : List MemPlace}
    (hv : Value.okWide Try.prog W r b0 45 v) (h : DataW.Trod enc Try.prog W base (fun _ => true) held 45 v x p) : ∃ l, RatesIn W v l := by
  obtain ⟨a0, len, cap, rfl⟩ := okWide_slice Try.underlying45 hv
  obtain ⟨fuel, hf⟩ := h
  rcases open_ints Try.underlying45 Try.underlying30 cellsF hf with ⟨hcs, _⟩ | ⟨a, len', cap', zs, hcs, _, hl, hm, hzs, _, hx, hwf⟩
  · simp [Value.cells] at hcs
    obtain ⟨rfl, rfl, rfl⟩ := hcs
    exact ⟨[], RowK.nil _ _ _, fun y hy => by simp at hy⟩
  · simp [Value.cells] at hcs
    obtain ⟨rfl, rfl, rfl⟩ := hcs
    simp only [if_true] at hzs
    have hlen : (zs.take len).length = len := by rw [List.length_take]; omega
    refine ⟨zs.take len, ⟨some a, len, cap, rfl, by rw [fcells_length encU, hlen], hl, hm, fun h0 => ?_⟩, fun y hy => ?_⟩
    · obtain ⟨g, o, rfl⟩ := addr_plain (hx 0 (by omega))
      refine ⟨g, o, rfl, trivial, fun j u hu => ?_⟩
      have hj := (List.getElem?_eq_some_iff.1 hu).1
      rw [fcells_length encU, hlen, Nat.mul_one] at hj
      have hj2 : j < zs.length := by omega
      have e : (zs.take len)[j]? = some (zs.getD j 0) := by rw [List.getElem?_take_of_lt hj, List.getD_eq_getElem?_getD, List.getElem?_eq_getElem hj2]; rfl
      have ga := fcells_at encU e (j := 0) (by decide)
      rw [Nat.mul_one, Nat.add_zero, hu] at ga
      have h1 := hx j hj2
      rw [WideShapes.add_plain] at h1
      rw [h1, ga]
      rfl
    · have hin := List.mem_of_mem_take hy
      obtain ⟨b1, b2⟩ := bounds_u64 (hwf _ hin)
      exact ⟨b1, show y ≤ 18446744073709551615 by omega⟩

theorem openI {H : Type} {enc : TypeId × Value → H} {W : World} {base fuel : Nat} {held : Bool} {v : Value} {x : DataW H × List MemPlace}
    (h : DataW.trod enc Try.prog W base (fun _ => true) held fuel 31 [v] = some x) : ∃ (s : Sl) (l : List Int), v = sval s ∧ RowK (fun _ => True) W v 1 (fcells ri l) ∧ l.length ≤ Rows.uptoBulk x.1 := by
  rcases open_ints Try.underlying31 Try.underlying3 cellsI h with ⟨hcs, _⟩ | ⟨a, len, cap, zs, hcs, _, hl, hm, hzs, hxe, hx, hwf⟩
  · simp at hcs
    subst hcs
    exact ⟨(none, 0, 0), [], rfl, RowK.nil _ _ _, Nat.zero_le _⟩
  · simp at hcs
    subst hcs
    simp only [if_true] at hzs
    have hlen : (zs.take len).length = len := by rw [List.length_take]; omega
    refine ⟨(some a, len, cap), zs.take len, rfl, ⟨some a, len, cap, rfl, by rw [fcells_length encI, hlen], hl, hm, fun h0 => ?_⟩, ?_⟩
    · obtain ⟨g, o, rfl⟩ := addr_plain (hx 0 (by omega))
      refine ⟨g, o, rfl, trivial, fun j u hu => ?_⟩
      have hj := (List.getElem?_eq_some_iff.1 hu).1
      rw [fcells_length encI, hlen, Nat.mul_one] at hj
      have hj2 : j < zs.length := by omega
      have e : (zs.take len)[j]? = some (zs.getD j 0) := by rw [List.getElem?_take_of_lt hj, List.getD_eq_getElem?_getD, List.getElem?_eq_getElem hj2]; rfl
      have ga := fcells_at encI e (j := 0) (by decide)
      rw [Nat.mul_one, Nat.add_zero, hu] at ga
      have h1 := hx j hj2
      rw [WideShapes.add_plain] at h1
      rw [h1, ga]
      rfl
    · rw [hxe, hlen]
      have h1 := bulk_count (lits (H := H) .i64 (zs.take len))
      have h2 := bulk_slice (lits (H := H) .i64 (zs.take len)) (lits .i64 (zs.drop len))
      have h3 : (lits (H := H) .i64 (zs.take len)).length = len := by unfold lits; rw [List.length_map]; exact hlen
      have h4 : len ≤ Rows.uptoBulkAll (lits (H := H) .i64 (zs.take len)) := by omega
      exact Nat.le_trans h4 h2

theorem openT {H : Type} {enc : TypeId × Value → H} {W : World} {base fuel : Nat} {held : Bool} {a0 : Option Addr} {len0 cap0 : Nat} {x : DataW H × List MemPlace}
    (hf : DataW.trod enc Try.prog W base (fun _ => true) held fuel 22 [.slice a0 len0 cap0] = some x) : ∃ l, TicksIn W (.slice a0 len0 cap0) l ∧ l.length ≤ Rows.uptoBulk x.1 ∧ ∀ o ∈ l, o.2.2.length ≤ Rows.uptoBulk x.1 := by
  rcases open_slice Try.underlying22 hf with ⟨hcs, _⟩ | ⟨a, len, cap, m, n, D, Pl, hcs, _, hl, hm, hmm, hxe, hx⟩
  · simp at hcs
    obtain ⟨rfl, rfl, rfl⟩ := hcs
    exact ⟨[], ⟨RowK.nil _ _ _, fun f hf => by cases hf⟩, Nat.zero_le _, fun f hf => by cases hf⟩
  · simp at hcs
    obtain ⟨rfl, rfl, rfl⟩ := hcs
    simp only [if_true] at hmm
    have num : ∀ i, i < len0 → ∃ q : TkS, W.cell? (a.add (i * 2)) = some (.int .u64 q.1) ∧ W.cell? (a.add (i * 2 + 1)) = some (sval q.2.1) ∧ (Wd q.1 ∧ RowK (fun _ => True) W (sval q.2.1) 1 (fcells ri q.2.2)) ∧ q.2.2.length ≤ Rows.uptoBulk (D i) := by
      intro i hi
      obtain ⟨cs', h1, h2⟩ := hx i (by omega)
      rw [cellsT] at h1
      obtain ⟨_, hlen, hcell⟩ := World.cells?_some h1
      obtain ⟨xs, k, _, hDe, _, hxl, hall⟩ := DataW.trod_struct Try.underlying33 h2
      match xs, hxl, cs', hlen with
      | [y0, y1], _, [v0, v1], _ =>
        have t0 := hall 0 _ rfl
        have t1 := hall 1 _ rfl
        simp [cellsF, cellsIs] at t0 t1
        obtain ⟨n0, e0, _, f0⟩ := DataW.trod_int Try.underlying30 t0
        obtain ⟨s1, tx, e1, r1, b1⟩ := openI t1
        simp at e0
        subst e0 e1
        obtain ⟨u0, u1⟩ := bounds_u64 f0
        have c0 := hcell 0 (by omega)
        have c1 := hcell 1 (by omega)
        rw [add_add] at c0 c1
        simp only [List.map_cons, List.map_nil, Prod.mk.injEq] at hDe
        refine ⟨(n0, s1, tx), by simpa using c0, by simpa using c1, ⟨⟨u0, show n0 ≤ 18446744073709551615 by omega⟩, r1⟩, ?_⟩
        rw [hDe.1]
        exact Nat.le_trans b1 (Nat.le_trans (bulk_part (by simp)) (bulk_agg _))
    obtain ⟨q, hq⟩ := choose_lt num
    have hlen : ((List.range len0).map q).length = len0 := by simp
    have hb : Rows.uptoBulkAll ((List.range len0).map D) ≤ Rows.uptoBulk x.1 := by rw [hxe]; exact bulk_slice _ _
    refine ⟨(List.range len0).map q, ⟨⟨some a, len0, cap0, rfl, by rw [fcells_length encT, hlen], hl, hm, fun h0 => ?_⟩, fun f hf => by
      obtain ⟨j, hj, rfl⟩ := List.mem_map.1 hf
      exact (hq j (List.mem_range.1 hj)).2.2.1⟩, ?_, fun f hf => ?_⟩
    · obtain ⟨g, o, rfl⟩ := addr_plain (a := a) (by simpa using (hq 0 h0).1)
      refine ⟨g, o, rfl, trivial, fun j u hu => ?_⟩
      have hj : j < len0 * 2 := by rw [← hlen, ← fcells_length encT]; exact (List.getElem?_eq_some_iff.1 hu).1
      have hi : j / 2 < len0 := by omega
      have e : ((List.range len0).map q)[j / 2]? = some (q (j / 2)) := by simp [hi]
      have h1 := hq (j / 2) hi
      rw [Addr.add_mid, Addr.add_mid] at h1
      have hm3 : j % 2 = 0 ∨ j % 2 = 1 := by omega
      rcases hm3 with hm2 | hm2
      · have ej : j = j / 2 * 2 := by omega
        have ga := fcells_at encT e (j := 0) (by decide)
        rw [Nat.add_zero, ← ej, hu] at ga
        rw [ej, h1.1, ga]
        rfl
      · have ej : j = j / 2 * 2 + 1 := by omega
        have ga := fcells_at encT e (j := 1) (by decide)
        rw [← ej, hu] at ga
        rw [ej, h1.2.1, ga]
        rfl
    · have := bulk_count ((List.range len0).map D)
      simp at this ⊢
      omega
    · obtain ⟨j, hj, rfl⟩ := List.mem_map.1 hf
      have h1 := (hq j (List.mem_range.1 hj)).2.2.2
      have h2 := bulk_part (d := D j) (l := (List.range len0).map D) (List.mem_map_of_mem hj)
      omega

theorem openTicks {H : Type} {enc : TypeId × Value → H} {W : World} {base : Nat} {held : Bool} {r : Reach} {b0 : Nat} {v : Value} {x : DataW H} {p : List MemPlace}
    (hv : Value.okWide Try.prog W r b0 22 v) (h : DataW.Trod enc Try.prog W base (fun _ => true) held 22 v x p) : ∃ l, TicksIn W v l := by
  obtain ⟨a0, len0, cap0, rfl⟩ := okWide_slice Try.underlying22 hv
  obtain ⟨fuel, hf⟩ := h
  have hf' : DataW.trod enc Try.prog W base (fun _ => true) held fuel 22 [.slice a0 len0 cap0] = some (x, p) := hf
  obtain ⟨l, h1, _⟩ := openT hf'
  exact ⟨l, h1⟩

theorem array4 {α : Type} {cs : Array α} (h : cs.size = 4) : ∃ c0 c1 c2 c3, cs = #[c0, c1, c2, c3] := by
  obtain ⟨l⟩ := cs
  match l, h with
  | [c0, c1, c2, c3], _ => exact ⟨c0, c1, c2, c3, rfl⟩
theorem openWindow {H : Type} {enc : TypeId × Value → H} {W : World} {base : Nat} {held : Bool} {r : Reach} {b0 : Nat} {v : Value} {x : DataW H} {p : List MemPlace}
    (hv : Value.okWide Try.prog W r b0 44 v) (h : DataW.Trod enc Try.prog W base (fun _ => true) held 44 v x p) : ∃ z : Int × Value × List TkS × Int × Int, WindowIn W v z ∧ z.2.2.1.length ≤ Rows.uptoBulk x ∧ ∀ o ∈ z.2.2.1, o.2.2.length ≤ Rows.uptoBulk x := by
  obtain ⟨cs, rfl, hsz⟩ := okWide_struct Try.underlying44 hv
  obtain ⟨c0, c1, c2, c3, rfl⟩ := array4 (hsz.trans cellsW)
  obtain ⟨fuel, hf⟩ := h
  obtain ⟨xs, k, _, hxe, _, hxl, hall⟩ := DataW.trod_struct Try.underlying44 hf
  match xs, hxl with
  | [y0, y1, y2, y3], _ =>
    have t0 := hall 0 _ rfl
    have t1 := hall 1 _ rfl
    have t2 := hall 2 _ rfl
    have t3 := hall 3 _ rfl
    simp [Value.cells, cellsI, cellsTs] at t0 t1 t2 t3
    obtain ⟨n0, e0, _⟩ := DataW.trod_int Try.underlying3 t0
    obtain ⟨n2, e2, _⟩ := DataW.trod_int Try.underlying3 t2
    obtain ⟨n3, e3, _⟩ := DataW.trod_int Try.underlying3 t3
    simp at e0 e2 e3
    subst e0 e2 e3
    obtain ⟨sa, sn, sc, es⟩ : ∃ sa sn sc, c1 = .slice sa sn sc := by
      rcases open_slice Try.underlying22 t1 with ⟨hcs, _⟩ | ⟨a, len, cap, m, n, D, Pl, hcs, _⟩
      · simp at hcs; exact ⟨_, _, _, hcs⟩
      · simp at hcs; exact ⟨_, _, _, hcs⟩
    subst es
    obtain ⟨l, hl, hb1, hb2⟩ := openT t1
    have hx : Rows.uptoBulk y1.1 ≤ Rows.uptoBulk x := by
      simp only [List.map_cons, List.map_nil, Prod.mk.injEq] at hxe
      rw [hxe.1]
      exact Nat.le_trans (bulk_part (by simp)) (bulk_agg _)
    exact ⟨(n0, _, l, n2, n3), ⟨rfl, hl⟩, Nat.le_trans hb1 hx, fun o ho => Nat.le_trans (hb2 o ho) hx⟩
end Go.Proofs.Ytadgkhdjjnkfcaa.Bkt

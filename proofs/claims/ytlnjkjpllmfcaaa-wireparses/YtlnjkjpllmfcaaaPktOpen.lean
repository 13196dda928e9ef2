/-
  A packet as it comes in as an argument: its numbers and lists, as they lie in memory.
-/
import Derived.Test.YtlnjkjpllmfcaaaRows
import Derived.Test.YtlnjkjpllmfcaaaAwake7
import Derived.ProofKit
import Derived.ChangeSlices
import Derived.Carry
import Derived.Lib.SmallJoins
import Derived.Deep.SlicePairs
import Derived.OpenShut
namespace Go.Proofs.Ytlnjkjpllmfcaaa
open Go.ChangeShapes Go.WideShapes Go.ChangeAt Go.RowKit Go.Joins Go.Deep
set_option linter.unusedVariables false
set_option maxRecDepth 100000

theorem own7 : ownKnob Try.prog.godebug = none := by kernel_rfl
theorem laidOut7 : laidOutB Try.prog = true := by kernel_rfl
theorem cellsF7 : Try.prog.cellsOf 24 = 1 := by kernel_rfl
theorem cellsU87 : Try.prog.cellsOf 5 = 1 := by kernel_rfl
theorem cellsU327 : Try.prog.cellsOf 22 = 1 := by kernel_rfl
theorem cellsI7 : Try.prog.cellsOf 3 = 1 := by kernel_rfl
theorem cellsTwo7 : Try.prog.cellsOf 53 = 2 := by kernel_rfl
theorem cellsPk7 : Try.prog.cellsOf 29 = 13 := by kernel_rfl
theorem cellsSA7 : Try.prog.cellsOf 25 = 1 := by kernel_rfl
theorem cellsSG7 : Try.prog.cellsOf 26 = 1 := by kernel_rfl
theorem cellsSD7 : Try.prog.cellsOf 27 = 1 := by kernel_rfl

theorem addr_spot {W : World} {a : Addr} {v : Value} (h : W.cell? (a.add 0) = some v) : ∃ g o, a = ⟨g, o, none⟩ := by
  obtain ⟨g, o, spot⟩ := a
  have hspot : spot = none := by simpa [Addr.add] using World.cell?_spot h
  exact ⟨g, o, by rw [hspot]⟩

theorem openA {H : Type} {enc : TypeId × Value → H} {W : World} {base fuel : Nat} {held : Bool} {v : Value} {x : DataW H × List MemPlace}
    (h : DataW.trod enc Try.prog W base (fun _ => true) held fuel 25 [v] = some x) : ∃ l, RowK (fun _ => True) W v 1 (acells l) := by
  rcases open_ints Try.underlying25 Try.underlying24 cellsF7 h with ⟨hcs, _⟩ | ⟨a, len, cap, zs, hcs, _, hl, hm, hzs, _, hx, hwf⟩
  · simp at hcs
    subst hcs
    exact ⟨[], RowK.nil _ _ _⟩
  · simp at hcs
    subst hcs
    simp only [if_true] at hzs
    have hlen : ((zs.take len).map fun z => UInt64.ofNat z.toNat).length = len := by rw [List.length_map, List.length_take]; omega
    refine ⟨(zs.take len).map fun z => UInt64.ofNat z.toNat, some a, len, cap, rfl, by rw [acells_length, hlen, Nat.mul_one], hl, hm, fun h0 => ?_⟩
    obtain ⟨g, o, rfl⟩ := addr_spot (hx 0 (by omega))
    refine ⟨g, o, rfl, trivial, fun j u hu => ?_⟩
    have hj : j < len := by rw [← hlen, ← acells_length]; exact (List.getElem?_eq_some_iff.1 hu).1
    have hj2 : j < zs.length := by omega
    have h1 := hx j hj2
    rw [addr_on] at h1
    rw [h1, ← hu, acells_at _ j (by rw [hlen]; exact hj)]
    have hin : zs.getD j 0 ∈ zs := by rw [List.getD_eq_getElem?_getD, List.getElem?_eq_getElem hj2]; exact List.getElem_mem hj2
    obtain ⟨b1, b2⟩ := bounds_u64 (hwf _ hin)
    have e1 : ((zs.take len).map fun z => UInt64.ofNat z.toNat).getD j 0 = UInt64.ofNat (zs.getD j 0).toNat := by
      rw [List.getD_eq_getElem?_getD, List.getD_eq_getElem?_getD, List.getElem?_map, List.getElem?_take_of_lt hj, List.getElem?_eq_getElem hj2]
      rfl
    rw [e1, UInt64.toNat_ofNat']
    congr 2
    omega

theorem openD {H : Type} {enc : TypeId × Value → H} {W : World} {base fuel : Nat} {held : Bool} {v : Value} {x : DataW H × List MemPlace}
    (h : DataW.trod enc Try.prog W base (fun _ => true) held fuel 27 [v] = some x) : ∃ l, RowK (fun _ => True) W v 1 (bcells l) := by
  rcases open_ints Try.underlying27 Try.underlying5 cellsU87 h with ⟨hcs, _⟩ | ⟨a, len, cap, zs, hcs, _, hl, hm, hzs, _, hx, hwf⟩
  · simp at hcs
    subst hcs
    exact ⟨[], RowK.nil _ _ _⟩
  · simp at hcs
    subst hcs
    simp only [if_true] at hzs
    have hlen : ((zs.take len).map fun z => UInt8.ofNat z.toNat).length = len := by rw [List.length_map, List.length_take]; omega
    refine ⟨(zs.take len).map fun z => UInt8.ofNat z.toNat, some a, len, cap, rfl, by rw [bcells_length, hlen, Nat.mul_one], hl, hm, fun h0 => ?_⟩
    obtain ⟨g, o, rfl⟩ := addr_spot (hx 0 (by omega))
    refine ⟨g, o, rfl, trivial, fun j u hu => ?_⟩
    have hj : j < len := by rw [← hlen, ← bcells_length]; exact (List.getElem?_eq_some_iff.1 hu).1
    have hj2 : j < zs.length := by omega
    have h1 := hx j hj2
    rw [addr_on] at h1
    rw [h1, ← hu, bcells_at _ j (by rw [hlen]; exact hj)]
    have hin : zs.getD j 0 ∈ zs := by rw [List.getD_eq_getElem?_getD, List.getElem?_eq_getElem hj2]; exact List.getElem_mem hj2
    obtain ⟨b1, b2⟩ := bounds_u8 (hwf _ hin)
    have e1 : ((zs.take len).map fun z => UInt8.ofNat z.toNat).getD j 0 = UInt8.ofNat (zs.getD j 0).toNat := by
      rw [List.getD_eq_getElem?_getD, List.getD_eq_getElem?_getD, List.getElem?_map, List.getElem?_take_of_lt hj, List.getElem?_eq_getElem hj2]
      rfl
    rw [e1, UInt8.toNat_ofNat']
    congr 2
    omega

theorem openG {H : Type} {enc : TypeId × Value → H} {W : World} {base fuel : Nat} {held : Bool} {v : Value} {x : DataW H × List MemPlace}
    (h : DataW.trod enc Try.prog W base (fun _ => true) held fuel 26 [v] = some x) : ∃ l, RowK (fun _ => True) W v 2 (gcells l) := by
  rcases open_slice Try.underlying26 h with ⟨hcs, _⟩ | ⟨a, len, cap, m, n, D, Pl, hcs, _, hl, hm, hmm, _, hx⟩
  · simp at hcs
    subst hcs
    exact ⟨[], RowK.nil _ _ _⟩
  · simp at hcs
    subst hcs
    simp only [if_true] at hmm
    have num : ∀ i, i < len → ∃ q : Int × Int, W.cell? (a.add (i * 2)) = some (.int .i64 q.1) ∧ W.cell? (a.add (i * 2 + 1)) = some (.int .i64 q.2) := by
      intro i hi
      obtain ⟨cs', h1, h2⟩ := hx i (by omega)
      rw [cellsTwo7] at h1
      obtain ⟨_, hlen, hcell⟩ := World.cells?_some h1
      obtain ⟨xs, k, hk, hxy, _, hxl, hf⟩ := DataW.trod_array Try.underlying53 h2
      match xs, hxl, cs', hlen with
      | [y0, y1], _, [v0, v1], _ =>
        have g0 := hf 0 (by decide)
        have g1 := hf 1 (by decide)
        simp [cellsI7] at g0 g1
        obtain ⟨n0, e0, _⟩ := DataW.trod_int Try.underlying3 g0
        obtain ⟨n1, e1, _⟩ := DataW.trod_int Try.underlying3 g1
        simp at e0 e1
        subst e0 e1
        have c0 := hcell 0 (by omega)
        have c1 := hcell 1 (by omega)
        rw [add_add] at c0 c1
        exact ⟨(n0, n1), by simpa using c0, by simpa using c1⟩
    obtain ⟨q, hq⟩ := choose_lt num
    have hlen : ((List.range len).map q).length = len := by simp
    refine ⟨(List.range len).map q, some a, len, cap, rfl, by rw [gcells_length, hlen], hl, hm, fun h0 => ?_⟩
    obtain ⟨g, o, rfl⟩ := addr_spot (a := a) (by simpa using (hq 0 h0).1)
    refine ⟨g, o, rfl, trivial, fun j u hu => ?_⟩
    have hj : j < len * 2 := by rw [← hlen, ← gcells_length]; exact (List.getElem?_eq_some_iff.1 hu).1
    have hi : j / 2 < len := by omega
    have e : ((List.range len).map q).getD (j / 2) (0, 0) = q (j / 2) := by simp [List.getD_eq_getElem?_getD, hi]
    have ga := gcells_at ((List.range len).map q) (j / 2) (by rw [hlen]; exact hi)
    rw [e] at ga
    have h1 := hq (j / 2) hi
    rw [addr_on, addr_on] at h1
    rcases Nat.mod_two_eq_zero_or_one j with hm2 | hm2
    · have ej : j = j / 2 * 2 := by omega
      rw [← hu, ej, ga.1]
      exact h1.1
    · have ej : j = j / 2 * 2 + 1 := by omega
      rw [← hu, ej, ga.2]
      exact h1.2

theorem array13 {α : Type} {cs : Array α} (h : cs.size = 13) : ∃ c0 c1 c2 c3 c4 c5 c6 c7 c8 c9 c10 c11 c12, cs = #[c0, c1, c2, c3, c4, c5, c6, c7, c8, c9, c10, c11, c12] := by
  obtain ⟨l⟩ := cs
  match l, h with
  | [c0, c1, c2, c3, c4, c5, c6, c7, c8, c9, c10, c11, c12], _ => exact ⟨c0, c1, c2, c3, c4, c5, c6, c7, c8, c9, c10, c11, c12, rfl⟩

/-- the packet of ten numbers and three lists -/
def pkOf (n0 n1 n2 n3 n4 n5 n6 n7 n8 n9 : Int) (a : List UInt64) (g : List (Int × Int)) (d : List UInt8) : Pk :=
  (fun i => match i with | 0 => n0 | 1 => n1 | 2 => n2 | 3 => n3 | 4 => n4 | 5 => n5 | 6 => n6 | 7 => n7 | 8 => n8 | _ => n9, a, g, d)

theorem openPk {H : Type} {enc : TypeId × Value → H} {W : World} {base : Nat} {held : Bool} {r : Reach} {b0 : Nat} {v : Value} {x : DataW H} {p : List MemPlace}
    (hv : Value.okWide Try.prog W r b0 29 v) (h : DataW.Trod enc Try.prog W base (fun _ => true) held 29 v x p) : ∃ q, PVal W v q ∧ bnd q := by
  obtain ⟨cs, rfl, hsz⟩ := okWide_struct Try.underlying29 hv
  obtain ⟨c0, c1, c2, c3, c4, c5, c6, c7, c8, c9, c10, c11, c12, rfl⟩ := array13 (hsz.trans cellsPk7)
  obtain ⟨fuel, hf⟩ := h
  obtain ⟨xs, n, _, _, _, hlen, hall⟩ := DataW.trod_struct Try.underlying29 hf
  match xs, hlen with
  | [y0, y1, y2, y3, y4, y5, y6, y7, y8, y9, y10, y11, y12], _ =>
    have t0 : DataW.trod enc Try.prog W base (fun _ => true) held n 3 [c0] = some y0 := by
      have := hall 0 _ rfl
      simpa [Value.cells, cellsI7] using this
    have t1 : DataW.trod enc Try.prog W base (fun _ => true) held n 3 [c1] = some y1 := by
      have := hall 1 _ rfl
      simpa [Value.cells, cellsI7] using this
    have t2 : DataW.trod enc Try.prog W base (fun _ => true) held n 3 [c2] = some y2 := by
      have := hall 2 _ rfl
      simpa [Value.cells, cellsI7] using this
    have t3 : DataW.trod enc Try.prog W base (fun _ => true) held n 22 [c3] = some y3 := by
      have := hall 3 _ rfl
      simpa [Value.cells, cellsU327] using this
    have t4 : DataW.trod enc Try.prog W base (fun _ => true) held n 3 [c4] = some y4 := by
      have := hall 4 _ rfl
      simpa [Value.cells, cellsI7] using this
    have t5 : DataW.trod enc Try.prog W base (fun _ => true) held n 3 [c5] = some y5 := by
      have := hall 5 _ rfl
      simpa [Value.cells, cellsI7] using this
    have t6 : DataW.trod enc Try.prog W base (fun _ => true) held n 3 [c6] = some y6 := by
      have := hall 6 _ rfl
      simpa [Value.cells, cellsI7] using this
    have t7 : DataW.trod enc Try.prog W base (fun _ => true) held n 3 [c7] = some y7 := by
      have := hall 7 _ rfl
      simpa [Value.cells, cellsI7] using this
    have t8 : DataW.trod enc Try.prog W base (fun _ => true) held n 3 [c8] = some y8 := by
      have := hall 8 _ rfl
      simpa [Value.cells, cellsI7] using this
    have t9 : DataW.trod enc Try.prog W base (fun _ => true) held n 24 [c9] = some y9 := by
      have := hall 9 _ rfl
      simpa [Value.cells, cellsF7] using this
    have t10 : DataW.trod enc Try.prog W base (fun _ => true) held n 25 [c10] = some y10 := by
      have := hall 10 _ rfl
      simpa [Value.cells, cellsSA7] using this
    have t11 : DataW.trod enc Try.prog W base (fun _ => true) held n 26 [c11] = some y11 := by
      have := hall 11 _ rfl
      simpa [Value.cells, cellsSG7] using this
    have t12 : DataW.trod enc Try.prog W base (fun _ => true) held n 27 [c12] = some y12 := by
      have := hall 12 _ rfl
      simpa [Value.cells, cellsSD7] using this
    obtain ⟨n0, e0, _, w0⟩ := DataW.trod_int Try.underlying3 t0
    obtain ⟨n1, e1, _, w1⟩ := DataW.trod_int Try.underlying3 t1
    obtain ⟨n2, e2, _, w2⟩ := DataW.trod_int Try.underlying3 t2
    obtain ⟨n3, e3, _, w3⟩ := DataW.trod_int Try.underlying22 t3
    obtain ⟨n4, e4, _, w4⟩ := DataW.trod_int Try.underlying3 t4
    obtain ⟨n5, e5, _, w5⟩ := DataW.trod_int Try.underlying3 t5
    obtain ⟨n6, e6, _, w6⟩ := DataW.trod_int Try.underlying3 t6
    obtain ⟨n7, e7, _, w7⟩ := DataW.trod_int Try.underlying3 t7
    obtain ⟨n8, e8, _, w8⟩ := DataW.trod_int Try.underlying3 t8
    obtain ⟨n9, e9, _, w9⟩ := DataW.trod_int Try.underlying24 t9
    simp only [List.cons.injEq, and_true] at e0 e1 e2 e3 e4 e5 e6 e7 e8 e9
    subst e0 e1 e2 e3 e4 e5 e6 e7 e8 e9
    obtain ⟨la, ha⟩ := openA t10
    obtain ⟨lg, hg⟩ := openG t11
    obtain ⟨ld, hd⟩ := openD t12
    refine ⟨pkOf n0 n1 n2 n3 n4 n5 n6 n7 n8 n9 la lg ld, ⟨c10, c11, c12, rfl, ha, hg, hd⟩, ⟨?_, fun i hi => ?_⟩⟩
    · have b3 := bounds_u32 w3
      have b9 := bounds_u64 w9
      show 0 ≤ n3 ∧ n3 < 4294967296 ∧ 0 ≤ n9 ∧ n9 < 18446744073709551616
      omega
    · have b0 := bounds_i64 w0
      have b1 := bounds_i64 w1
      have b2 := bounds_i64 w2
      have b3 := bounds_u32 w3
      have b4 := bounds_i64 w4
      have b5 := bounds_i64 w5
      have b6 := bounds_i64 w6
      have b7 := bounds_i64 w7
      have b8 := bounds_i64 w8
      have : i = 0 ∨ i = 1 ∨ i = 2 ∨ i = 3 ∨ i = 4 ∨ i = 5 ∨ i = 6 ∨ i = 7 ∨ i = 8 := by omega
      rcases this with rfl | rfl | rfl | rfl | rfl | rfl | rfl | rfl | rfl <;> simp only [pkOf] <;> omega
end Go.Proofs.Ytlnjkjpllmfcaaa

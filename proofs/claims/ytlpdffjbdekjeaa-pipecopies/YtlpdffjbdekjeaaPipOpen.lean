/-
  A slice of calls that came in as an argument: what lies in memory.
-/
import Derived.Test.YtlpdffjbdekjeaaRows
import Derived.Test.YtlpdffjbdekjeaaPipOps2
import Derived.ProofKit
import Derived.ChangeSlices
import Derived.OpenShut
import Derived.Lib.SmallJoins
import Derived.Deep.SlicePairs
import Derived.Deep.Strs
import Derived.Carry
namespace Go.Proofs.Ytlpdffjbdekjeaa
open Go.ChangeShapes Go.WideShapes Go.ChangeAt Go.RowKit Go.Joins Go.Deep
set_option linter.unusedVariables false
set_option maxRecDepth 100000

theorem ownP : ownKnob Try.prog.godebug = none := by kernel_rfl
theorem laidOutP : laidOutB Try.prog = true := by kernel_rfl
theorem cellsIP : Try.prog.cellsOf 3 = 1 := by kernel_rfl
theorem cellsOpP : Try.prog.cellsOf 32 = 4 := by kernel_rfl
theorem cellsU8P : Try.prog.cellsOf 5 = 1 := by kernel_rfl
theorem cellsSDP : Try.prog.cellsOf 30 = 1 := by kernel_rfl
theorem addr_plain {W : World} {a : Addr} {v : Value} (h : W.cell? (a.add 0) = some v) : ∃ g o, a = ⟨g, o, none⟩ := by
  obtain ⟨g, o, spot⟩ := a
  have hspot : spot = none := by simpa [Addr.add] using World.cell?_spot h
  exact ⟨g, o, by rw [hspot]⟩

theorem openD {H : Type} {enc : TypeId × Value → H} {W : World} {base fuel : Nat} {held : Bool} {v : Value} {x : DataW H × List MemPlace}
    (h : DataW.trod enc Try.prog W base (fun _ => true) held fuel 30 [v] = some x) : ∃ l, RowK (fun _ => True) W v 1 (bcells l) ∧ Plain v := by
  rcases open_ints Try.underlying30 Try.underlying5 cellsU8P h with ⟨hcs, _⟩ | ⟨a, len, cap, zs, hcs, _, hl, hm, hzs, _, hx, hwf⟩
  · simp at hcs
    subst hcs
    exact ⟨[], RowK.nil _ _ _, .inl rfl⟩
  · simp at hcs
    subst hcs
    simp only [if_true] at hzs
    have hlen : ((zs.take len).map fun z => UInt8.ofNat z.toNat).length = len := by rw [List.length_map, List.length_take]; omega
    refine ⟨(zs.take len).map fun z => UInt8.ofNat z.toNat, ⟨some a, len, cap, rfl, by rw [bcells_length, hlen, Nat.mul_one], hl, hm, fun h0 => ?_⟩, .inr ⟨_, _, _, rfl⟩⟩
    obtain ⟨g, o, rfl⟩ := addr_plain (hx 0 (by omega))
    refine ⟨g, o, rfl, trivial, fun j u hu => ?_⟩
    have hj : j < len := by rw [← hlen, ← bcells_length]; exact (List.getElem?_eq_some_iff.1 hu).1
    have hj2 : j < zs.length := by omega
    have h1 := hx j hj2
    rw [addr_on] at h1
    rw [h1, ← hu, bcells_at _ j (by rw [hlen]; exact hj)]
    have hin : zs.getD j 0 ∈ zs := by rw [List.getD_eq_getElem?_getD, List.getElem?_eq_getElem hj2]; exact List.getElem_mem hj2
    obtain ⟨b1, b2⟩ := bounds_u8 (hwf _ hin)
    have e1 : ((zs.take len).map fun z => UInt8.ofNat z.toNat).getD j 0 = UInt8.ofNat (zs.getD j 0).toNat := by
      rw [List.getD_eq_getElem?_getD, List.getD_eq_getElem?_getD, List.getElem?_map, List.getElem?_take_of_lt hj, List.getElem?_eq_getElem hj2]
      rfl
    rw [e1, UInt8.toNat_ofNat']
    congr 2
    omega

theorem openOps {H : Type} {enc : TypeId × Value → H} {W : World} {base : Nat} {held : Bool} {r : Reach} {b0 : Nat} {v : Value} {x : DataW H} {p : List MemPlace}
    (hv : Value.okWide Try.prog W r b0 22 v) (h : DataW.Trod enc Try.prog W base (fun _ => true) held 22 v x p) : ∃ l, OpsIn W v l := by
  obtain ⟨a0, len0, cap0, rfl⟩ := okWide_slice Try.underlying22 hv
  obtain ⟨fuel, hf⟩ := h
  rcases open_slice Try.underlying22 hf with ⟨hcs, _⟩ | ⟨a, len, cap, m, n, D, Pl, hcs, _, hl, hm, hmm, _, hx⟩
  · simp [Value.cells] at hcs
    obtain ⟨rfl, rfl, rfl⟩ := hcs
    exact ⟨[], RowK.nil _ _ _, fun o ho => by cases ho⟩
  · simp [Value.cells] at hcs
    obtain ⟨rfl, rfl, rfl⟩ := hcs
    simp only [if_true] at hmm
    have num : ∀ i, i < len0 → ∃ q : Int × Int × Int × Sl, W.cell? (a.add (i * 4)) = some (.int .i64 q.1) ∧ W.cell? (a.add (i * 4 + 1)) = some (.int .i64 q.2.1) ∧ W.cell? (a.add (i * 4 + 2)) = some (.int .i64 q.2.2.1) ∧ W.cell? (a.add (i * 4 + 3)) = some (sval q.2.2.2) ∧ ∃ t, Bytes W (sval q.2.2.2) t ∧ Plain (sval q.2.2.2) := by
      intro i hi
      obtain ⟨cs', h1, h2⟩ := hx i (by omega)
      rw [cellsOpP] at h1
      obtain ⟨_, hlen, hcell⟩ := World.cells?_some h1
      obtain ⟨y0, y1, y2, y3, k, _, _, t0, t1, t2, t3⟩ := trod_struct4 Try.underlying32 h2
      match cs', hlen with
      | [v0, v1, v2, v3], _ =>
        simp [cellsIP] at t0 t1 t2 t3
        obtain ⟨tb, rb, pb⟩ := openD t3
        have rb2 := rb
        obtain ⟨sa, sn, sc, e3, _⟩ := rb
        obtain ⟨n0, e0, _⟩ := DataW.trod_int Try.underlying3 t0
        obtain ⟨n1, e1, _⟩ := DataW.trod_int Try.underlying3 t1
        obtain ⟨n2, e2, _⟩ := DataW.trod_int Try.underlying3 t2
        simp at e0 e1 e2
        subst e0 e1 e2 e3
        have c0 := hcell 0 (by omega)
        have c1 := hcell 1 (by omega)
        have c2 := hcell 2 (by omega)
        have c3 := hcell 3 (by omega)
        rw [add_add] at c0 c1 c2 c3
        exact ⟨(n0, n1, n2, (sa, sn, sc)), by simpa using c0, by simpa using c1, by simpa using c2, by simpa [sval] using c3, tb, rb2.bytes, pb⟩
    obtain ⟨q, hq⟩ := choose_lt num
    have hlen : ((List.range len0).map q).length = len0 := by simp
    refine ⟨(List.range len0).map q, ⟨some a, len0, cap0, rfl, by rw [ocells_length, hlen], hl, hm, fun h0 => ?_⟩, fun o ho => by
      obtain ⟨j, hj, rfl⟩ := List.mem_map.1 ho
      exact (hq j (List.mem_range.1 hj)).2.2.2.2⟩
    obtain ⟨g, o, rfl⟩ := addr_plain (a := a) (by simpa using (hq 0 h0).1)
    refine ⟨g, o, rfl, trivial, fun j u hu => ?_⟩
    have hj : j < len0 * 4 := by rw [← hlen, ← ocells_length]; exact (List.getElem?_eq_some_iff.1 hu).1
    have hi : j / 4 < len0 := by omega
    have e : ((List.range len0).map q).getD (j / 4) (0, 0, 0, (none, 0, 0)) = q (j / 4) := by simp [List.getD_eq_getElem?_getD, hi]
    have ga := ocells_at ((List.range len0).map q) (j / 4) (by rw [hlen]; exact hi)
    rw [e] at ga
    have h1 := hq (j / 4) hi
    rw [Addr.add_mid, Addr.add_mid, Addr.add_mid, Addr.add_mid] at h1
    have hm3 : j % 4 = 0 ∨ j % 4 = 1 ∨ j % 4 = 2 ∨ j % 4 = 3 := by omega
    rcases hm3 with hm2 | hm2 | hm2 | hm2
    · have ej : j = j / 4 * 4 := by omega
      rw [ej] at hu ⊢
      rw [ga.1] at hu
      rw [h1.1]; exact hu
    · have ej : j = j / 4 * 4 + 1 := by omega
      rw [ej] at hu ⊢
      rw [ga.2.1] at hu
      rw [h1.2.1]; exact hu
    · have ej : j = j / 4 * 4 + 2 := by omega
      rw [ej] at hu ⊢
      rw [ga.2.2.1] at hu
      rw [h1.2.2.1]; exact hu
    · have ej : j = j / 4 * 4 + 3 := by omega
      rw [ej] at hu ⊢
      rw [ga.2.2.2] at hu
      rw [h1.2.2.2.1]; exact hu
end Go.Proofs.Ytlpdffjbdekjeaa

/-
  How many values a reading holds, against the lengths of what it reads: a part against the whole. (For statements of the second form.)
  Fates, calls, a case that came in as arguments: what lies in memory; how long it may be where the reading is small.
  Calls that came in as an argument of their own, with what the reading's size tells of their lengths.
-/
import Derived.Test.YtjmgigfaiaemeaaRows
import Derived.Test.YtjmgigfaiaemeaaSimCase
import Derived.ProofKit
import Derived.ChangeSlices
import Derived.OpenShut
import Derived.Lib.SmallJoins
import Derived.Deep.SlicePairs
import Derived.Deep.Strs
import Derived.Carry
namespace Go.Proofs.Ytjmgigfaiaemeaa
set_option linter.unusedVariables false

theorem bulk_pos {H : Type} (d : DataW H) : 1 ≤ Rows.uptoBulk d := by
  cases d with
  | lit l => cases l <;> simp [Rows.uptoBulk]
  | _ => simp [Rows.uptoBulk]
theorem bulk_part {H : Type} {d : DataW H} : ∀ {l : List (DataW H)}, d ∈ l → Rows.uptoBulk d ≤ Rows.uptoBulkAll l
  | x :: r, h => by
    simp only [Rows.uptoBulkAll]
    rcases List.mem_cons.1 h with e | e
    · subst e; omega
    · have := bulk_part e; omega
theorem bulk_count {H : Type} : ∀ l : List (DataW H), l.length ≤ Rows.uptoBulkAll l
  | [] => by simp
  | x :: r => by
    have h1 := bulk_pos x
    have h2 := bulk_count r
    simp only [Rows.uptoBulkAll, List.length_cons]
    omega
theorem bulk_slice {H : Type} (l r : List (DataW H)) : Rows.uptoBulkAll l ≤ Rows.uptoBulk (DataW.slice l r) := by
  simp only [Rows.uptoBulk]; omega
theorem bulk_agg {H : Type} (l : List (DataW H)) : Rows.uptoBulkAll l ≤ Rows.uptoBulk (DataW.agg l) := by
  simp only [Rows.uptoBulk]; omega
/-- the bound, of one of several -/
theorem bulk_bound {H : Type} {l : List (DataW H)} {d : DataW H} (hk : Rows.uptoSmall H l = true) (h : d ∈ l) : Rows.uptoBulk d ≤ 1048576 :=
  Nat.le_trans (bulk_part h) (of_decide_eq_true hk)
end Go.Proofs.Ytjmgigfaiaemeaa

namespace Go.Proofs.Ytjmgigfaiaemeaa.Sim
open Go.ChangeShapes Go.WideShapes Go.ChangeAt Go.RowKit Go.Joins Go.Deep
open Go.Proofs.Ytjmgigfaiaemeaa.Pip hiding NewR
set_option linter.unusedVariables false
set_option maxRecDepth 100000

theorem ownS : ownKnob Try.prog.godebug = none := by kernel_rfl
theorem laidOutS : laidOutB Try.prog = true := by kernel_rfl
theorem cellsI : Try.prog.cellsOf 3 = 1 := by kernel_rfl
theorem cellsFt : Try.prog.cellsOf 69 = 2 := by kernel_rfl
theorem cellsFs : Try.prog.cellsOf 24 = 1 := by kernel_rfl
theorem cellsCf : Try.prog.cellsOf 23 = 5 := by kernel_rfl
theorem cellsOp : Try.prog.cellsOf 43 = 5 := by kernel_rfl
theorem cellsOs : Try.prog.cellsOf 25 = 1 := by kernel_rfl
theorem cellsCa : Try.prog.cellsOf 27 = 7 := by kernel_rfl
theorem cellsU8 : Try.prog.cellsOf 5 = 1 := by kernel_rfl
theorem cellsSD : Try.prog.cellsOf 41 = 1 := by kernel_rfl
theorem addr_plain {W : World} {a : Addr} {v : Value} (h : W.cell? (a.add 0) = some v) : ∃ g o, a = ⟨g, o, none⟩ := by
  obtain ⟨g, o, spot⟩ := a
  have hspot : spot = none := by simpa [Addr.add] using World.cell?_spot h
  exact ⟨g, o, by rw [hspot]⟩

/-- what is asked of fates as arguments: that they lie there, and are ints -/
def FatesIn (w : World) (v : Value) (l : List (Int × Int)) : Prop := RowK (fun _ => True) w v 2 (fcells pr l) ∧ ∀ f ∈ l, -9223372036854775808 ≤ f.2 ∧ f.2 ≤ 9223372036854775807
/-- of calls: that they lie there, each with its bytes -/
def CallsIn_ (w : World) (v : Value) (l : List OpS) : Prop := RowK (fun _ => True) w v 5 (fcells oenc l) ∧ ∀ o ∈ l, ∃ t, Bytes w (sval o.2.2.2.2) t ∧ Plain (sval o.2.2.2.2)

theorem openFates {H : Type} {enc : TypeId × Value → H} {W : World} {base fuel : Nat} {held : Bool} {a0 : Option Addr} {len0 cap0 : Nat} {x : DataW H × List MemPlace}
    (hf : DataW.trod enc Try.prog W base (fun _ => true) held fuel 24 [.slice a0 len0 cap0] = some x) : ∃ l, FatesIn W (.slice a0 len0 cap0) l := by
  rcases open_slice Try.underlying24 hf with ⟨hcs, _⟩ | ⟨a, len, cap, m, n, D, Pl, hcs, _, hl, hm, hmm, _, hx⟩
  · simp at hcs
    obtain ⟨rfl, rfl, rfl⟩ := hcs
    exact ⟨[], RowK.nil _ _ _, fun f hf => by cases hf⟩
  · simp at hcs
    obtain ⟨rfl, rfl, rfl⟩ := hcs
    simp only [if_true] at hmm
    have num : ∀ i, i < len0 → ∃ q : Int × Int, W.cell? (a.add (i * 2)) = some (.int .i64 q.1) ∧ W.cell? (a.add (i * 2 + 1)) = some (.int .i64 q.2) ∧ -9223372036854775808 ≤ q.2 ∧ q.2 ≤ 9223372036854775807 := by
      intro i hi
      obtain ⟨cs', h1, h2⟩ := hx i (by omega)
      rw [cellsFt] at h1
      obtain ⟨_, hlen, hcell⟩ := World.cells?_some h1
      obtain ⟨xs, k, _, _, _, hxl, hall⟩ := DataW.trod_struct Try.underlying69 h2
      match xs, hxl, cs', hlen with
      | [y0, y1], _, [v0, v1], _ =>
        have t0 := hall 0 _ rfl
        have t1 := hall 1 _ rfl
        simp [cellsI] at t0 t1
        obtain ⟨n0, e0, _⟩ := DataW.trod_int Try.underlying3 t0
        obtain ⟨n1, e1, _, w1⟩ := DataW.trod_int Try.underlying3 t1
        simp at e0 e1
        subst e0 e1
        have c0 := hcell 0 (by omega)
        have c1 := hcell 1 (by omega)
        rw [add_add] at c0 c1
        have b1 := bounds_i64 w1
        exact ⟨(n0, n1), by simpa using c0, by simpa using c1, by simp only; omega, by simp only; omega⟩
    obtain ⟨q, hq⟩ := choose_lt num
    have hlen : ((List.range len0).map q).length = len0 := by simp
    refine ⟨(List.range len0).map q, ⟨some a, len0, cap0, rfl, by rw [fcells_length encP, hlen], hl, hm, fun h0 => ?_⟩, fun f hf => by
      obtain ⟨j, hj, rfl⟩ := List.mem_map.1 hf
      exact (hq j (List.mem_range.1 hj)).2.2⟩
    obtain ⟨g, o, rfl⟩ := addr_plain (a := a) (by simpa using (hq 0 h0).1)
    refine ⟨g, o, rfl, trivial, fun j u hu => ?_⟩
    have hj : j < len0 * 2 := by rw [← hlen, ← fcells_length encP]; exact (List.getElem?_eq_some_iff.1 hu).1
    have hi : j / 2 < len0 := by omega
    have e : ((List.range len0).map q)[j / 2]? = some (q (j / 2)) := by simp [hi]
    have h1 := hq (j / 2) hi
    rw [Addr.add_mid, Addr.add_mid] at h1
    have hm3 : j % 2 = 0 ∨ j % 2 = 1 := by omega
    rcases hm3 with hm2 | hm2
    · have ej : j = j / 2 * 2 := by omega
      have ga := fcells_at encP e (j := 0) (by decide)
      rw [Nat.add_zero, ← ej, hu] at ga
      rw [ej, h1.1, ga]
      rfl
    · have ej : j = j / 2 * 2 + 1 := by omega
      have ga := fcells_at encP e (j := 1) (by decide)
      rw [← ej, hu] at ga
      rw [ej, h1.2.1, ga]
      rfl

theorem openD {H : Type} {enc : TypeId × Value → H} {W : World} {base fuel : Nat} {held : Bool} {v : Value} {x : DataW H × List MemPlace}
    (h : DataW.trod enc Try.prog W base (fun _ => true) held fuel 41 [v] = some x) : ∃ (s : Sl) (l : List UInt8), v = sval s ∧ RowK (fun _ => True) W v 1 (bcells l) ∧ Plain v ∧ s.2.1 ≤ Rows.uptoBulk x.1 := by
  rcases open_ints Try.underlying41 Try.underlying5 cellsU8 h with ⟨hcs, _⟩ | ⟨a, len, cap, zs, hcs, _, hl, hm, hzs, hxe, hx, hwf⟩
  · simp at hcs
    subst hcs
    exact ⟨(none, 0, 0), [], rfl, RowK.nil _ _ _, .inl rfl, Nat.zero_le _⟩
  · simp at hcs
    subst hcs
    simp only [if_true] at hzs
    have hlen : ((zs.take len).map fun z => UInt8.ofNat z.toNat).length = len := by rw [List.length_map, List.length_take]; omega
    refine ⟨(some a, len, cap), (zs.take len).map fun z => UInt8.ofNat z.toNat, rfl, ⟨some a, len, cap, rfl, by rw [bcells_length, hlen, Nat.mul_one], hl, hm, fun h0 => ?_⟩, .inr ⟨_, _, _, rfl⟩, ?_⟩
    · obtain ⟨g, o, rfl⟩ := addr_plain (hx 0 (by omega))
      refine ⟨g, o, rfl, trivial, fun j u hu => ?_⟩
      have hj : j < len := by rw [← hlen, ← bcells_length]; exact (List.getElem?_eq_some_iff.1 hu).1
      have hj2 : j < zs.length := by omega
      have h1 := hx j hj2
      rw [addr_on] at h1
      rw [h1, ← hu, bcells_at _ j (by rw [hlen]; exact hj)]
      have hin : zs.getD j 0 ∈ zs := by rw [List.getD_eq_getElem?_getD, List.getElem?_eq_getElem hj2]; exact List.getElem_mem hj2
      obtain ⟨b1, b2⟩ := bounds_u8 (hwf _ hin)
      have e1 : ((zs.take len).map fun z => UInt8.ofNat z.toNat).getD j 0 = UInt8.ofNat (zs.getD j 0).toNat := by
        rw [List.getD_eq_getElem?_getD, List.getD_eq_getElem?_getD, List.getElem?_map, List.getElem?_take_of_lt hj, List.getElem?_eq_getElem hj2]
        rfl
      rw [e1, UInt8.toNat_ofNat']
      congr 2
      omega
    · rw [hxe]
      have h1 := bulk_count (lits (H := H) .u8 (zs.take len))
      have h2 := bulk_slice (lits (H := H) .u8 (zs.take len)) (lits .u8 (zs.drop len))
      have h3 : (lits (H := H) .u8 (zs.take len)).length = len := by unfold lits; rw [List.length_map, List.length_take]; omega
      have h4 : len ≤ Rows.uptoBulkAll (lits (H := H) .u8 (zs.take len)) := by omega
      exact Nat.le_trans h4 h2

theorem openOps {H : Type} {enc : TypeId × Value → H} {W : World} {base fuel : Nat} {held : Bool} {a0 : Option Addr} {len0 cap0 : Nat} {x : DataW H × List MemPlace}
    (hf : DataW.trod enc Try.prog W base (fun _ => true) held fuel 25 [.slice a0 len0 cap0] = some x) : ∃ l, CallsIn_ W (.slice a0 len0 cap0) l ∧ l.length ≤ Rows.uptoBulk x.1 ∧ ∀ o ∈ l, o.2.2.2.2.2.1 ≤ Rows.uptoBulk x.1 := by
  rcases open_slice Try.underlying25 hf with ⟨hcs, _⟩ | ⟨a, len, cap, m, n, D, Pl, hcs, _, hl, hm, hmm, hxe, hx⟩
  · simp at hcs
    obtain ⟨rfl, rfl, rfl⟩ := hcs
    exact ⟨[], ⟨RowK.nil _ _ _, fun f hf => by cases hf⟩, Nat.zero_le _, fun f hf => by cases hf⟩
  · simp at hcs
    obtain ⟨rfl, rfl, rfl⟩ := hcs
    simp only [if_true] at hmm
    have num : ∀ i, i < len0 → ∃ q : OpS, W.cell? (a.add (i * 5)) = some (.int .i64 q.1) ∧ W.cell? (a.add (i * 5 + 1)) = some (.int .i64 q.2.1) ∧ W.cell? (a.add (i * 5 + 2)) = some (.int .i64 q.2.2.1) ∧ W.cell? (a.add (i * 5 + 3)) = some (.int .i64 q.2.2.2.1) ∧ W.cell? (a.add (i * 5 + 4)) = some (sval q.2.2.2.2) ∧ (∃ t, Bytes W (sval q.2.2.2.2) t ∧ Plain (sval q.2.2.2.2)) ∧ q.2.2.2.2.2.1 ≤ Rows.uptoBulk (D i) := by
      intro i hi
      obtain ⟨cs', h1, h2⟩ := hx i (by omega)
      rw [cellsOp] at h1
      obtain ⟨_, hlen, hcell⟩ := World.cells?_some h1
      obtain ⟨xs, k, _, hDe, _, hxl, hall⟩ := DataW.trod_struct Try.underlying43 h2
      match xs, hxl, cs', hlen with
      | [y0, y1, y2, y3, y4], _, [v0, v1, v2, v3, v4], _ =>
        have t0 := hall 0 _ rfl
        have t1 := hall 1 _ rfl
        have t2 := hall 2 _ rfl
        have t3 := hall 3 _ rfl
        have t4 := hall 4 _ rfl
        simp [cellsI, cellsSD] at t0 t1 t2 t3 t4
        obtain ⟨n0, e0, _⟩ := DataW.trod_int Try.underlying3 t0
        obtain ⟨n1, e1, _⟩ := DataW.trod_int Try.underlying3 t1
        obtain ⟨n2, e2, _⟩ := DataW.trod_int Try.underlying3 t2
        obtain ⟨n3, e3, _⟩ := DataW.trod_int Try.underlying3 t3
        obtain ⟨s4, tx, e4, r4, p4, b4⟩ := openD t4
        simp at e0 e1 e2 e3
        subst e0 e1 e2 e3 e4
        have c0 := hcell 0 (by omega)
        have c1 := hcell 1 (by omega)
        have c2 := hcell 2 (by omega)
        have c3 := hcell 3 (by omega)
        have c4 := hcell 4 (by omega)
        rw [add_add] at c0 c1 c2 c3 c4
        simp only [List.map_cons, List.map_nil, Prod.mk.injEq] at hDe
        refine ⟨(n0, n1, n2, n3, s4), by simpa using c0, by simpa using c1, by simpa using c2, by simpa using c3, by simpa using c4, ⟨tx, r4.bytes, p4⟩, ?_⟩
        rw [hDe.1]
        exact Nat.le_trans b4 (Nat.le_trans (bulk_part (by simp)) (bulk_agg _))
    obtain ⟨q, hq⟩ := choose_lt num
    have hlen : ((List.range len0).map q).length = len0 := by simp
    have hb : Rows.uptoBulkAll ((List.range len0).map D) ≤ Rows.uptoBulk x.1 := by rw [hxe]; exact bulk_slice _ _
    refine ⟨(List.range len0).map q, ⟨⟨some a, len0, cap0, rfl, by rw [fcells_length encO, hlen], hl, hm, fun h0 => ?_⟩, fun f hf => by
      obtain ⟨j, hj, rfl⟩ := List.mem_map.1 hf
      exact (hq j (List.mem_range.1 hj)).2.2.2.2.2.1⟩, ?_, fun f hf => ?_⟩
    · obtain ⟨g, o, rfl⟩ := addr_plain (a := a) (by simpa using (hq 0 h0).1)
      refine ⟨g, o, rfl, trivial, fun j u hu => ?_⟩
      have hj : j < len0 * 5 := by rw [← hlen, ← fcells_length encO]; exact (List.getElem?_eq_some_iff.1 hu).1
      have hi : j / 5 < len0 := by omega
      have e : ((List.range len0).map q)[j / 5]? = some (q (j / 5)) := by simp [hi]
      have h1 := hq (j / 5) hi
      rw [Addr.add_mid, Addr.add_mid, Addr.add_mid, Addr.add_mid, Addr.add_mid] at h1
      have hm3 : j % 5 = 0 ∨ j % 5 = 1 ∨ j % 5 = 2 ∨ j % 5 = 3 ∨ j % 5 = 4 := by omega
      rcases hm3 with hm2 | hm2 | hm2 | hm2 | hm2
      · have ej : j = j / 5 * 5 := by omega
        have ga := fcells_at encO e (j := 0) (by decide)
        rw [Nat.add_zero, ← ej, hu] at ga
        rw [ej, h1.1, ga]
        rfl
      · have ej : j = j / 5 * 5 + 1 := by omega
        have ga := fcells_at encO e (j := 1) (by decide)
        rw [← ej, hu] at ga
        rw [ej, h1.2.1, ga]
        rfl
      · have ej : j = j / 5 * 5 + 2 := by omega
        have ga := fcells_at encO e (j := 2) (by decide)
        rw [← ej, hu] at ga
        rw [ej, h1.2.2.1, ga]
        rfl
      · have ej : j = j / 5 * 5 + 3 := by omega
        have ga := fcells_at encO e (j := 3) (by decide)
        rw [← ej, hu] at ga
        rw [ej, h1.2.2.2.1, ga]
        rfl
      · have ej : j = j / 5 * 5 + 4 := by omega
        have ga := fcells_at encO e (j := 4) (by decide)
        rw [← ej, hu] at ga
        rw [ej, h1.2.2.2.2.1, ga]
        rfl
    · have := bulk_count ((List.range len0).map D)
      simp at this ⊢
      omega
    · obtain ⟨j, hj, rfl⟩ := List.mem_map.1 hf
      have h1 := (hq j (List.mem_range.1 hj)).2.2.2.2.2.2
      have h2 := bulk_part (d := D j) (l := (List.range len0).map D) (List.mem_map_of_mem hj)
      omega

theorem array7 {α : Type} {cs : Array α} (h : cs.size = 7) : ∃ c0 c1 c2 c3 c4 c5 c6, cs = #[c0, c1, c2, c3, c4, c5, c6] := by
  obtain ⟨l⟩ := cs
  match l, h with
  | [c0, c1, c2, c3, c4, c5, c6], _ => exact ⟨c0, c1, c2, c3, c4, c5, c6, rfl⟩
/-- five numbers of a net, opened -/
theorem openCfg {H : Type} {enc : TypeId × Value → H} {W : World} {base fuel : Nat} {held : Bool} {v0 v1 v2 v3 v4 : Value} {x : DataW H × List MemPlace}
    (h : DataW.trod enc Try.prog W base (fun _ => true) held fuel 23 [v0, v1, v2, v3, v4] = some x) : ∃ c : Cfg, v0 = .int .i64 c.1 ∧ v1 = .int .i64 c.2.1 ∧ v2 = .int .i64 c.2.2.1 ∧ v3 = .int .i64 c.2.2.2.1 ∧ v4 = .int .i64 c.2.2.2.2 := by
  obtain ⟨xs, k, _, _, _, hxl, hall⟩ := DataW.trod_struct Try.underlying23 h
  match xs, hxl with
  | [y0, y1, y2, y3, y4], _ =>
    have t0 := hall 0 _ rfl
    have t1 := hall 1 _ rfl
    have t2 := hall 2 _ rfl
    have t3 := hall 3 _ rfl
    have t4 := hall 4 _ rfl
    simp [cellsI] at t0 t1 t2 t3 t4
    obtain ⟨n0, e0, _⟩ := DataW.trod_int Try.underlying3 t0
    obtain ⟨n1, e1, _⟩ := DataW.trod_int Try.underlying3 t1
    obtain ⟨n2, e2, _⟩ := DataW.trod_int Try.underlying3 t2
    obtain ⟨n3, e3, _⟩ := DataW.trod_int Try.underlying3 t3
    obtain ⟨n4, e4, _⟩ := DataW.trod_int Try.underlying3 t4
    simp at e0 e1 e2 e3 e4
    exact ⟨(n0, n1, n2, n3, n4), e0, e1, e2, e3, e4⟩
/-- a case, as the walks take it -/
def CaseIn (W : World) (v : Value) (z : Cfg × Value × List (Int × Int) × Value × List OpS) : Prop :=
  v = .agg #[.int .i64 z.1.1, .int .i64 z.1.2.1, .int .i64 z.1.2.2.1, .int .i64 z.1.2.2.2.1, .int .i64 z.1.2.2.2.2, z.2.1, z.2.2.2.1] ∧ FatesIn W z.2.1 z.2.2.1 ∧ CallsIn_ W z.2.2.2.1 z.2.2.2.2
theorem openCase {H : Type} {enc : TypeId × Value → H} {W : World} {base : Nat} {held : Bool} {r : Reach} {b0 : Nat} {v : Value} {x : DataW H} {p : List MemPlace}
    (hv : Value.okWide Try.prog W r b0 27 v) (h : DataW.Trod enc Try.prog W base (fun _ => true) held 27 v x p) : ∃ z : Cfg × Value × List (Int × Int) × Value × List OpS, CaseIn W v z ∧ z.2.2.2.2.length ≤ Rows.uptoBulk x ∧ ∀ o ∈ z.2.2.2.2, o.2.2.2.2.2.1 ≤ Rows.uptoBulk x := by
  obtain ⟨cs, rfl, hsz⟩ := okWide_struct Try.underlying27 hv
  obtain ⟨c0, c1, c2, c3, c4, c5, c6, rfl⟩ := array7 (hsz.trans cellsCa)
  obtain ⟨fuel, hf⟩ := h
  obtain ⟨y0, y1, y2, k, hxe, _, t0, t1, t2⟩ := trod_struct3 Try.underlying27 hf
  simp [Value.cells, cellsCf, cellsFs, cellsOs] at t0 t1 t2
  obtain ⟨c, rfl, rfl, rfl, rfl, rfl⟩ := openCfg t0
  obtain ⟨fa, fn, fc, ef⟩ : ∃ sa sn sc, c5 = .slice sa sn sc := by
    rcases open_slice Try.underlying24 t1 with ⟨hcs, _⟩ | ⟨a, len, cap, m, n, D, Pl, hcs, _⟩
    · simp at hcs; exact ⟨_, _, _, hcs⟩
    · simp at hcs; exact ⟨_, _, _, hcs⟩
  obtain ⟨oa, on, oc, eo⟩ : ∃ sa sn sc, c6 = .slice sa sn sc := by
    rcases open_slice Try.underlying25 t2 with ⟨hcs, _⟩ | ⟨a, len, cap, m, n, D, Pl, hcs, _⟩
    · simp at hcs; exact ⟨_, _, _, hcs⟩
    · simp at hcs; exact ⟨_, _, _, hcs⟩
  subst ef eo
  obtain ⟨fl, hfl⟩ := openFates t1
  obtain ⟨ol, hol, hb1, hb2⟩ := openOps t2
  have hx : Rows.uptoBulk y2.1 ≤ Rows.uptoBulk x := by
    simp only [Prod.mk.injEq] at hxe
    rw [hxe.1]
    exact Nat.le_trans (bulk_part (by simp)) (bulk_agg _)
  exact ⟨(c, _, fl, _, ol), ⟨rfl, hfl, hol⟩, Nat.le_trans hb1 hx, fun o ho => Nat.le_trans (hb2 o ho) hx⟩
end Go.Proofs.Ytjmgigfaiaemeaa.Sim

namespace Go.Proofs.Ytjmgigfaiaemeaa.Sim
open Go.ChangeShapes Go.WideShapes Go.ChangeAt Go.RowKit Go.Joins Go.Deep
open Go.Proofs.Ytjmgigfaiaemeaa.Pip hiding NewR
set_option linter.unusedVariables false
set_option maxRecDepth 100000

theorem openOpsA {H : Type} {enc : TypeId × Value → H} {W : World} {base : Nat} {held : Bool} {r : Reach} {b0 : Nat} {v : Value} {x : DataW H} {p : List MemPlace}
    (hv : Value.okWide Try.prog W r b0 25 v) (h : DataW.Trod enc Try.prog W base (fun _ => true) held 25 v x p) : ∃ l, CallsIn_ W v l ∧ l.length ≤ Rows.uptoBulk x ∧ ∀ o ∈ l, o.2.2.2.2.2.1 ≤ Rows.uptoBulk x := by
  obtain ⟨a0, len0, cap0, rfl⟩ := okWide_slice Try.underlying25 hv
  obtain ⟨fuel, hf⟩ := h
  have hf' : DataW.trod enc Try.prog W base (fun _ => true) held fuel 25 [.slice a0 len0 cap0] = some (x, p) := hf
  exact openOps hf'
end Go.Proofs.Ytjmgigfaiaemeaa.Sim

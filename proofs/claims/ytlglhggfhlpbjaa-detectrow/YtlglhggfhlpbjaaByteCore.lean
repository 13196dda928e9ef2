/-
  Bytes in memory: strings, slices of bytes, a row of one's own, a block that holds just some bytes. (Needs RowAny alone; says nothing of any package. Out of PipByte and CrcMem.)
-/
import Derived.Test.YtlglhggfhlpbjaaRowAny
import Derived.WalkKit
import Derived.Laws.BytesArg
import Derived.Laws.AppendOwnNone
import Derived.Deep.Strs
namespace Go.Proofs.Ytlglhggfhlpbjaa
set_option linter.unusedVariables false
set_option maxRecDepth 100000
open Go.RowKit Go.Lib

abbrev Sl := Option Addr × Nat × Nat
/-- a slice, as a value -/
def sval (s : Sl) : Value := .slice s.1 s.2.1 s.2.2
def str (l : List UInt8) : ByteArray := ⟨l.toArray⟩
theorem str_list (l : List UInt8) : (str l).toList = l := ByteArray.toList_mk l
theorem str_append (a b : List UInt8) : str a ++ str b = str (a ++ b) := ByteArray.mk_append_mk a b
theorem str_beq (a b : List UInt8) : ((str a).toList == (str b).toList) = (a == b) := by rw [str_list, str_list]
theorem str_size (l : List UInt8) : (str l).size = l.length := rfl

theorem info_byte : (Try.prog.info? 5).map (fun i => (i.zero, i.size, i.bytes)) = some (some (.int .u8 0), 1, 1) := by kernel_rfl
theorem size_byte : (Try.prog.info? 5).map (·.size) = some 1 := by kernel_rfl

/-- a byte as a value -/
def bval (b : UInt8) : Value := .int .u8 (b.toNat : Int)
/-- bytes as they lie in cells -/
def bcells (l : List UInt8) : List Value := l.map bval
theorem bcells_length (l : List UInt8) : (bcells l).length = l.length := List.length_map _
theorem bcells_one (l : List UInt8) : ∀ u ∈ bcells l, u.oneCell' = true := by
  intro u hu
  obtain ⟨b, _, rfl⟩ := List.mem_map.1 hu
  rfl
theorem bcells_at (l : List UInt8) (k : Nat) (h : k < l.length) : (bcells l)[k]? = some (.int .u8 ((l.getD k 0).toNat : Int)) := by
  unfold bcells
  rw [List.getElem?_map, List.getD_eq_getElem?_getD, List.getElem?_eq_getElem h]
  rfl
theorem bcells_append (a b : List UInt8) : bcells (a ++ b) = bcells a ++ bcells b := List.map_append ..

/-- the bytes l lie where the slice v points -/
def Bytes (w : World) (v : Value) (l : List UInt8) : Prop :=
  ∃ ao c, v = .slice ao l.length c ∧ l.length ≤ c ∧ c ≤ maxLen ∧ ∀ k, k < l.length → ∃ g o, ao = some ⟨g, o, none⟩ ∧ g < w.heap.size ∧ w.cell? ⟨g, o + k, none⟩ = some (.int .u8 ((l.getD k 0).toNat : Int))

theorem Bytes.ext {w w' : World} {v : Value} {l : List UInt8} (h : Bytes w v l) (e : Ext w w') : Bytes w' v l := by
  obtain ⟨ao, c, hv, h1, h2, h3⟩ := h
  refine ⟨ao, c, hv, h1, h2, fun k hk => ?_⟩
  obtain ⟨g, o, ha, hg, hc⟩ := h3 k hk
  exact ⟨g, o, ha, Nat.lt_of_lt_of_le hg e.size, e.cell hc⟩

theorem nums_str (l : List UInt8) : strOfNums (l.map fun b => (b.toNat : Int)) = str l := by
  unfold strOfNums str
  rw [List.map_map]
  congr 2
  conv => rhs; rw [← List.map_id l]
  apply List.map_congr_left
  intro b _
  simp
theorem nums_at (l : List UInt8) (k : Nat) : (l.map fun b => (b.toNat : Int)).getD k 0 = ((l.getD k 0).toNat : Int) := by
  rw [List.getD_eq_getElem?_getD, List.getD_eq_getElem?_getD, List.getElem?_map]
  cases l[k]? <;> rfl

/-- bytes, converted to a string -/
theorem Bytes.str {w : World} {v : Value} {l : List UInt8} (h : Bytes w v l) : (convert 45 9 v).run Try.prog w = .ok (.string (str l)) w := by
  obtain ⟨ao, c, rfl, h1, h2, h3⟩ := h
  cases ao with
  | none =>
    rcases Nat.eq_zero_or_pos l.length with h0 | h0
    · have e : l = [] := List.eq_nil_of_length_eq_zero h0
      subst e
      exact run_convert_bytes_nil w 45 5 Try.underlying45 Try.underlying5 _ _ 9 Try.underlying9
    · obtain ⟨g, o, ha, _⟩ := h3 0 h0
      cases ha
  | some a =>
    rcases Nat.eq_zero_or_pos l.length with h0 | h0
    · have e : l = [] := List.eq_nil_of_length_eq_zero h0
      subst e
      rw [run_convert_bytes_string w 45 9 5 _ _ _ Try.underlying45 Try.underlying5 Try.underlying9]
      exact run_bytesToString w a 0 c [] (by simp [loadCells, loadCellsFrom])
    · obtain ⟨g, o, ha, _⟩ := h3 0 h0
      cases ha
      rw [← nums_str]
      refine run_convert_bytes_arg w 45 5 Try.underlying45 Try.underlying5 g o _ c _ (by simp) (fun k hk => ?_) 9 Try.underlying9
      obtain ⟨g', o', ha, _, hc⟩ := h3 k hk
      cases ha
      rw [nums_at]
      exact hc

theorem addr_on (g o j : Nat) : (⟨g, o, none⟩ : Addr).add j = ⟨g, o + j, none⟩ := by unfold Addr.add; split <;> simp_all

/-- what a copy of bytes asks of its source -/
theorem Bytes.src {w : World} {ao : Option Addr} {n c : Nat} {l : List UInt8} (h : Bytes w (.slice ao n c) l) : n = l.length ∧ (0 < (bcells l).length → ∃ ad, ao = some ad ∧ ∀ j v, (bcells l)[j]? = some v → w.cell? (ad.add j) = some v) := by
  obtain ⟨ao', c', e, h1, h2, h3⟩ := h
  injection e with e1 e2 e3
  subst e1 e2 e3
  refine ⟨rfl, fun h0 => ?_⟩
  rw [bcells_length] at h0
  obtain ⟨g, o, ha, _⟩ := h3 0 h0
  refine ⟨_, ha, fun j v hv => ?_⟩
  have hj : j < l.length := by rw [← bcells_length l]; exact (List.getElem?_eq_some_iff.1 hv).1
  obtain ⟨g', o', ha', _, hc⟩ := h3 j hj
  rw [ha] at ha'
  cases ha'
  rw [bcells_at l j hj] at hv
  cases hv
  rw [addr_on]
  exact hc

/-- a slice is nil, or has a place -/
def Plain (v : Value) : Prop := v = .slice none 0 0 ∨ ∃ a n c, v = .slice (some a) n c

theorem owns_bytes {w : World} {base n : Nat} {v : Value} {l : List UInt8} (h : w.ownsRow base 5 1 v n (bcells l)) : n = l.length ∧ Bytes w v l := by
  have hn : n = l.length := by have := h.1; rw [bcells_length] at this; omega
  subst hn
  refine ⟨rfl, ?_⟩
  rcases h.2 with ⟨rfl, h0⟩ | ⟨g, cap, cur, rfl, hb, hg, hnc, hcm, hcs, htake⟩
  · have e : l = [] := List.eq_nil_of_length_eq_zero h0
    subst e
    exact ⟨none, 0, rfl, Nat.le_refl _, Nat.zero_le _, fun k hk => by simp at hk⟩
  · refine ⟨_, cap, rfl, hnc, hcm, fun k hk => ⟨g, 0, rfl, (Array.getElem?_eq_some_iff.1 hg).1, ?_⟩⟩
    rw [Nat.zero_add, cell_of_row w g k _ _ _ hg]
    have := bcells_at l k hk
    rw [← htake, List.getElem?_take_of_lt (by omega)] at this
    simpa using this

theorem run_append_bytes (w : World) (base : Nat) (v : Value) (xs : List UInt8) (hown : w.ownsRow base 5 1 v xs.length (bcells xs)) (u : Value) (l : List UInt8) (hu : Bytes w u l) (hp : Plain u) (hl : xs.length + l.length ≤ 200000) (hb : base ≤ w.heap.size) :
    ∃ v' w', (Builtin.append_ #[45, 45] 45 #[v, u]).run Try.prog w = .ok v' w' ∧ w'.ownsRow base 5 1 v' (xs ++ l).length (bcells (xs ++ l)) ∧ w.grownBy w' v.ownBlock := by
  obtain ⟨i0, hi, hz0, hz1, hz2⟩ := info_parts info_byte
  rcases hp with rfl | ⟨a, n, c, rfl⟩
  · obtain ⟨e1, _⟩ := hu.src
    have e : l = [] := List.eq_nil_of_length_eq_zero e1.symm
    subst e
    rw [List.append_nil]
    exact ⟨v, w, run_append_owned_none (P := Try.prog) (w := w) base 45 45 5 i0 1 Try.underlying45 hi v xs.length (bcells xs) hown, hown, ⟨rfl, rfl, rfl, Nat.le_refl _, fun _ _ _ => rfl⟩⟩
  · obtain ⟨rfl, e2⟩ := hu.src
    obtain ⟨v', w', h1, h2, h3, _⟩ := run_append_own (P := Try.prog) w base 45 45 5 i0 (.int .u8 0) 1 1 Try.underlying45 hi hz0 hz1 hz2 rfl (by decide) v xs.length (bcells xs) hown a l.length c (bcells l) (by rw [bcells_length]; omega) (fun j x hx => by
      obtain ⟨ad, ha, h⟩ := e2 (Nat.lt_of_le_of_lt (Nat.zero_le j) (List.getElem?_eq_some_iff.1 hx).1)
      cases ha
      exact h j x hx) (bcells_one l) (by unfold maxLen; omega) (by omega) hb
    refine ⟨v', w', h1, ?_, h3⟩
    rw [List.length_append, bcells_append]
    exact h2

/-- bytes in a row of one's own -/
def OwnB (w : World) (v : Value) (l : List UInt8) : Prop := w.ownsRow 0 5 1 v l.length (bcells l)
theorem OwnB.bytes {w : World} {v : Value} {l : List UInt8} (h : OwnB w v l) : Bytes w v l := (owns_bytes h).2
theorem OwnB.plain {w : World} {v : Value} {l : List UInt8} (h : OwnB w v l) : Plain v := by
  rcases h.2 with ⟨rfl, _⟩ | ⟨g, cap, cur, rfl, _⟩
  · exact .inl rfl
  · exact .inr ⟨_, _, _, rfl⟩
theorem OwnB.kept {K : Nat → Prop} {w w' : World} {v : Value} {l : List UInt8} (h : OwnB w v l) (k : Kept K w w') (hk : ∀ g, v.ownBlock = some g → K g) : OwnB w' v l := by
  refine ⟨h.1, ?_⟩
  rcases h.2 with hn | ⟨g, cap, cur, rfl, hb, hgg, rest⟩
  · exact .inl hn
  · exact .inr ⟨g, cap, cur, rfl, hb, k.row (hk g rfl) hgg, rest⟩
theorem OwnB.ext {w w' : World} {v : Value} {l : List UInt8} (h : OwnB w v l) (e : Ext w w') : OwnB w' v l := h.kept (K := fun _ => True) (Kept.of_ext e) (fun _ _ => trivial)
theorem OwnB.lt {w : World} {v : Value} {l : List UInt8} (h : OwnB w v l) {g : Nat} (hg : v.ownBlock = some g) : g < w.heap.size := (World.ownsRow.lt h g hg).2
theorem RowK.bytes {K : Nat → Prop} {w : World} {v : Value} {l : List UInt8} (h : RowK K w v 1 (bcells l)) : Bytes w v l := by
  obtain ⟨ao, n, c, e, q1, q2, q3, q4⟩ := h
  rw [bcells_length] at q1
  obtain rfl : l.length = n := by omega
  refine ⟨ao, c, e, q2, q3, fun k hk => ?_⟩
  obtain ⟨g, o, ea, _, hc⟩ := q4 (by omega)
  have := hc k _ (bcells_at l k hk)
  exact ⟨g, o, ea, block_lt_of_cell this, this⟩
theorem OwnB.slice {w : World} {v : Value} {l : List UInt8} (h : OwnB w v l) : ∃ s : Sl, v = sval s ∧ s.2.1 = l.length := by
  rcases h.2 with ⟨rfl, h0⟩ | ⟨g, cap, cur, rfl, _⟩
  · exact ⟨(none, 0, 0), rfl, h0.symm⟩
  · exact ⟨(_, _, _), rfl, rfl⟩

/-- the block g holds just the bytes l -/
def Row (w : World) (g : Nat) (l : List UInt8) : Prop := w.heap[g]? = some (.cells (bcells l).toArray 5 (0, 0))
theorem Row.lt {w : World} {g : Nat} {l : List UInt8} (h : Row w g l) : g < w.heap.size := (Array.getElem?_eq_some_iff.1 h).1
theorem Row.ext {w w' : World} {g : Nat} {l : List UInt8} (h : Row w g l) (e : Ext w w') : Row w' g l := e.row h
theorem Row.cell {w : World} {g : Nat} {l : List UInt8} (h : Row w g l) (k : Nat) (hk : k < l.length) : w.cell? ⟨g, k, none⟩ = some (.int .u8 ((l.getD k 0).toNat : Int)) := by
  rw [cell_of_row w g k _ _ _ h, List.getElem?_toArray, bcells_at l k hk]
theorem Row.bytes {w : World} {g : Nat} {l : List UInt8} (h : Row w g l) (hl : l.length ≤ 100000) : Bytes w (.slice (some ⟨g, 0, none⟩) l.length l.length) l :=
  ⟨_, _, rfl, Nat.le_refl _, by unfold maxLen; omega, fun k hk => ⟨g, 0, rfl, h.lt, by rw [Nat.zero_add]; exact h.cell k hk⟩⟩
end Go.Proofs.Ytlglhggfhlpbjaa

/-
  A string's bytes with one more behind them.
-/
import Derived.Test.YtlnjkjpllmfcaaaWireTurnedW
namespace Go.Proofs.Ytlnjkjpllmfcaaa
set_option linter.unusedVariables false
set_option maxRecDepth 100000
open Go.RowKit Go.Lib

theorem str_extract (l : List UInt8) (n : Nat) : (str l).extract 0 n = str (l.take n) := by
  unfold str
  apply ByteArray.ext
  rw [ByteArray.data_extract]
  simp

/-- one byte put in place behind bytes -/
theorem append_room1 (w : World) (g n cap : Nat) (b : Nat) (x : UInt8) (hc : w.cell? ⟨b, 0, none⟩ = some (bval x)) (hroom : n + 1 ≤ cap) (u : Value) (hu : w.cell? ⟨g, n, none⟩ = some u) (hf : w.frozen? ⟨g, n, none⟩ = false) :
    (Builtin.append_ #[27, 27] 27 #[.slice (some ⟨g, 0, none⟩) n cap, .slice (some ⟨b, 0, none⟩) 1 1]).run Try.prog w = .ok (.slice (some ⟨g, 0, none⟩) (n + 1) cap) (w.setCell ⟨g, n, none⟩ (bval x)) := by
  obtain ⟨i0, hi, hz0, hz1, hz2⟩ := info_parts info_byte
  have hfc := run_firstCells_some (P := Try.prog) w i0.size 1 ⟨b, 0, none⟩ 1 1 [bval x] (by rw [hz1]; rfl) (by
    intro j v hv
    have hj : j = 0 := by have := (List.getElem?_eq_some_iff.1 hv).1; simp at this; exact this
    subst hj
    simp at hv
    subst hv
    rw [addr_on]
    exact hc)
  have hs : (storeCells ⟨g, n, none⟩ [bval x]).run Try.prog w = .ok () (w.setCell ⟨g, n, none⟩ (bval x)) := by
    have := run_storeCells_cells (P := Try.prog) g n [bval x] 0 w (fun j hj => by simp at hj; subst hj; simp [hu]) (fun j hj => by simp at hj; subst hj; simpa using hf) (fun v hv => by simp at hv; subst hv; rfl)
    simpa [World.setCells] using this
  rw [hz1] at hfc
  simp [Builtin.append_, run_underlying Try.underlying27, sizeOf, typeInfo, hi, Builtin.lenOf, hroom, hfc, hz1, Addr.add_lit, hs]

theorem snoc_at (l : List UInt8) (x : UInt8) (k : Nat) (h : k < l.length) : (l ++ [x]).getD k 0 = l.getD k 0 := by
  rw [List.getD_eq_getElem?_getD, List.getD_eq_getElem?_getD, List.getElem?_append_left h]
theorem snoc_last (l : List UInt8) (x : UInt8) : (l ++ [x]).getD l.length 0 = x := by
  rw [List.getD_eq_getElem?_getD, List.getElem?_append_right (Nat.le_refl _)]
  simp

/-- a string's bytes, one more byte put behind them -/
theorem conv_append (w : World) (l : List UInt8) (x : UInt8) (hl : l.length ≤ 1000) : ∃ c w1, (convert 9 27 (.string (str l))).run Try.prog w = .ok (.slice (some ⟨w.heap.size, 0, none⟩) l.length c) w1 ∧ Ext w w1 ∧
    ∃ v w3, (Builtin.append_ #[27, 27] 27 #[.slice (some ⟨w.heap.size, 0, none⟩) l.length c, .slice (some ⟨w1.heap.size, 0, none⟩) 1 1]).run Try.prog (w1.alloc (.cells #[.int .u8 (x.toNat : Int)] 5)) = .ok v w3 ∧ Bytes w3 v (l ++ [x]) ∧ Ext w w3 := by
  have hr := run_bytes_of_string (P := Try.prog) w 9 27 5 (str l) Try.underlying9 Try.underlying27 Try.underlying5
  have ge := grownCap_ge w (str l).size 0 5
  have lm := grownCap_le_maxLen w (str l).size 0 5 (by rw [str_size]; unfold maxLen; omega)
  rw [str_size] at hr ge lm
  generalize grownCap w l.length 0 5 = c at *
  obtain ⟨w1, e1⟩ : ∃ w1, w1 = w.drew.alloc (.cells (bytesRow (str l) c) 5 ((bytesRow (str l) c).size, (bytesRow (str l) c).size + 1)) := ⟨_, rfl⟩
  have X1 : Ext w w1 := by rw [e1]; exact Below.alloc (Below.drew (Below.refl _ w)) (Nat.le_refl _) _
  have g1 : w1.heap[w.heap.size]? = some (.cells (bytesRow (str l) c) 5 ((bytesRow (str l) c).size, (bytesRow (str l) c).size + 1)) := by rw [e1]; exact heap_alloc_new w.drew _
  have bs : (bytesRow (str l) c).size = c := by
    unfold bytesRow
    rw [Array.size_append, Array.size_map, Array.size_replicate, str_size]
    show l.toArray.size + _ = _
    rw [List.size_toArray]
    omega
  rw [← e1] at hr
  refine ⟨c, w1, hr, X1, ?_⟩
  obtain ⟨w2, e2⟩ : ∃ w2, w2 = w1.alloc (.cells #[.int .u8 (x.toNat : Int)] 5) := ⟨_, rfl⟩
  have X2 : Ext w1 w2 := by rw [e2]; exact (Ext.refl w1).alloc _
  have n2 : w2.cell? ⟨w1.heap.size, 0, none⟩ = some (bval x) := by rw [e2, cell_of_row _ _ 0 _ _ _ (heap_alloc_new w1 _)]; rfl
  rw [← e2]
  have g2 := X2.row g1
  have old : ∀ k, k < l.length → w2.cell? ⟨w.heap.size, k, none⟩ = some (.int .u8 ((l.getD k 0).toNat : Int)) := by
    intro k hk
    rw [cell_of_row _ _ _ _ _ _ g2]
    have h2 : k < (str l).data.size := by show k < l.toArray.size; simpa using hk
    rw [bytesRow_at (str l) c k h2, List.getD_eq_getElem?_getD, List.getElem?_eq_getElem hk]
    rfl
  have sl : (l ++ [x]).length = l.length + 1 := by simp
  by_cases hroom : l.length + 1 ≤ c
  · have hu : w2.cell? ⟨w.heap.size, l.length, none⟩ = some ((bytesRow (str l) c)[l.length]'(by omega)) := by rw [cell_of_row _ _ _ _ _ _ g2]; exact Array.getElem?_eq_getElem _
    have hf : w2.frozen? ⟨w.heap.size, l.length, none⟩ = false := by unfold World.frozen?; rw [g2]; simp; omega
    have hrun := append_room1 w2 w.heap.size l.length c w1.heap.size x n2 hroom _ hu hf
    refine ⟨_, _, hrun, ⟨_, c, by rw [sl], by rw [sl]; exact hroom, lm, fun k hk => ⟨w.heap.size, 0, rfl, by have := lt_of_row g2; simpa using this, ?_⟩⟩, (X1.trans X2).setCell (Nat.le_refl _) _⟩
    rw [Nat.zero_add]
    rw [sl] at hk
    by_cases hkl : k = l.length
    · subst hkl
      rw [snoc_last]
      first | exact World.cell?_setCell_same hu | exact World.cell?_setCell_same _ hu | exact World.cell?_setCell_same _ _ hu | exact World.cell?_setCell_same _ _ _ hu
    · have hne : (⟨w.heap.size, l.length, none⟩ : Addr) ≠ ⟨w.heap.size, k, none⟩ := by
        intro h
        injection h with _ h2
        omega
      rw [snoc_at l x k (by omega), ← old k (by omega)]
      first | exact World.cell?_setCell_other hne | exact World.cell?_setCell_other _ hne | exact World.cell?_setCell_other _ _ hne | exact World.cell?_setCell_other _ _ _ hne | exact World.cell?_setCell_other _ _ _ _ hne
  · obtain ⟨i0, hi, hz0, hz1, hz2⟩ := info_parts info_byte
    have hrun := run_append_grow (P := Try.prog) w2 27 27 5 i0 (.int .u8 0) Try.underlying27 hi hz0 ⟨w.heap.size, 0, none⟩ l.length c (bcells l) (by rw [hz1, bcells_length, Nat.mul_one]) (by
        intro j v hv
        have hj : j < l.length := by rw [← bcells_length l]; exact (List.getElem?_eq_some_iff.1 hv).1
        rw [addr_on, Nat.zero_add, old j hj, ← hv, bcells_at l j hj]) ⟨w1.heap.size, 0, none⟩ 1 1 [bval x] (by rw [hz1]; rfl) (by
        intro j v hv
        have hj : j = 0 := by have := (List.getElem?_eq_some_iff.1 hv).1; simp at this; exact this
        subst hj
        simp at hv
        subst hv
        rw [addr_on]
        exact n2) (by omega) (by omega) (growslice_fits (by omega) (by rw [hz2]; omega))
    have ge2 := grownCap_ge w2 (l.length + 1) c 5
    have lm2 := grownCap_le_maxLen w2 (l.length + 1) c 5 (by unfold maxLen; omega)
    generalize grownCap w2 (l.length + 1) c 5 = cc at *
    refine ⟨_, _, hrun, ⟨_, cc, by rw [sl], by rw [sl]; exact ge2, lm2, fun k hk => ⟨w2.heap.size, 0, rfl, by simp, ?_⟩⟩, Below.alloc (Below.drew (X1.trans X2)) (Nat.le_trans X1.size X2.size) _⟩
    have hz : (w2.drew.alloc (.cells ((bcells l).toArray ++ [bval x].toArray ++ Builtin.zeroCells (Value.int .u8 0).cells (cc - (l.length + 1))) 5)).heap[w2.heap.size]? = some (.cells ((bcells l).toArray ++ [bval x].toArray ++ Builtin.zeroCells (Value.int .u8 0).cells (cc - (l.length + 1))) 5) := heap_alloc_new w2.drew _
    rw [Nat.zero_add, cell_of_row _ _ _ _ _ _ hz, Array.getElem?_append_left (by simp [bcells_length]; omega)]
    have e : (bcells l).toArray ++ [bval x].toArray = (bcells (l ++ [x])).toArray := by rw [bcells_append]; simp [bcells]
    rw [e, List.getElem?_toArray, bcells_at _ k hk]
end Go.Proofs.Ytlnjkjpllmfcaaa

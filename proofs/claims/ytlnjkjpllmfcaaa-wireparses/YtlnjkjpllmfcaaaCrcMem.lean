/-
  Rows of bytes that a call makes; walks of same, tailOf, Seal.
-/
import Derived.Test.YtlnjkjpllmfcaaaCrc
import Derived.Test.YtlnjkjpllmfcaaaExtCore
import Derived.Deep.OwnRows
import Derived.Deep.RegionLaw
import Derived.OwnWalk
namespace Go.Proofs.Ytlnjkjpllmfcaaa
set_option linter.unusedVariables false
open Go.RowKit Go.Lib

theorem info_byte : (Try.prog.info? 5).map (fun i => (i.zero, i.size, i.bytes)) = some (some (.int .u8 0), 1, 1) := by kernel_rfl
theorem size_byte : (Try.prog.info? 5).map (·.size) = some 1 := by kernel_rfl

/-- a byte as a value -/
def bval (b : UInt8) : Value := .int .u8 (b.toNat : Int)
/-- bytes as they lie in cells -/
def bcells (l : List UInt8) : List Value := l.map bval
theorem bcells_length (l : List UInt8) : (bcells l).length = l.length := List.length_map _
theorem bcells_one (l : List UInt8) : ∀ u ∈ bcells l, u.oneCell' = true := by
  intro u hu
  obtain ⟨b, _, rfl⟩ := List.mem_map.1 hu
  rfl
theorem bcells_at (l : List UInt8) (k : Nat) (h : k < l.length) : (bcells l)[k]? = some (.int .u8 ((l.getD k 0).toNat : Int)) := by
  unfold bcells
  rw [List.getElem?_map, List.getD_eq_getElem?_getD, List.getElem?_eq_getElem h]
  rfl
theorem bcells_append (a b : List UInt8) : bcells (a ++ b) = bcells a ++ bcells b := List.map_append ..

/-- the block g holds just the bytes l -/
def Row (w : World) (g : Nat) (l : List UInt8) : Prop := w.heap[g]? = some (.cells (bcells l).toArray 5 (0, 0))
theorem Row.lt {w : World} {g : Nat} {l : List UInt8} (h : Row w g l) : g < w.heap.size := (Array.getElem?_eq_some_iff.1 h).1
theorem Row.ext {w w' : World} {g : Nat} {l : List UInt8} (h : Row w g l) (e : Ext w w') : Row w' g l := e.row h
theorem Row.cell {w : World} {g : Nat} {l : List UInt8} (h : Row w g l) (k : Nat) (hk : k < l.length) : w.cell? ⟨g, k, none⟩ = some (.int .u8 ((l.getD k 0).toNat : Int)) := by
  rw [cell_of_row w g k _ _ _ h, List.getElem?_toArray, bcells_at l k hk]
theorem Row.bytes {w : World} {g : Nat} {l : List UInt8} (h : Row w g l) (hl : l.length ≤ 100000) : Bytes w (.slice (some ⟨g, 0, none⟩) l.length l.length) l :=
  ⟨_, _, rfl, Nat.le_refl _, by unfold maxLen; omega, fun k hk => ⟨g, 0, rfl, h.lt, by rw [Nat.zero_add]; exact h.cell k hk⟩⟩

theorem Bytes.ext {w w' : World} {v : Value} {l : List UInt8} (h : Bytes w v l) (e : Ext w w') : Bytes w' v l := by
  obtain ⟨ao, c, hv, h1, h2, h3⟩ := h
  refine ⟨ao, c, hv, h1, h2, fun k hk => ?_⟩
  obtain ⟨g, o, ha, hg, hc⟩ := h3 k hk
  exact ⟨g, o, ha, Nat.lt_of_lt_of_le hg e.size, e.cell hc⟩

theorem nums_str (l : List UInt8) : strOfNums (l.map fun b => (b.toNat : Int)) = str l := by
  unfold strOfNums str
  rw [List.map_map]
  congr 2
  conv => rhs; rw [← List.map_id l]
  apply List.map_congr_left
  intro b _
  simp
theorem nums_at (l : List UInt8) (k : Nat) : (l.map fun b => (b.toNat : Int)).getD k 0 = ((l.getD k 0).toNat : Int) := by
  rw [List.getD_eq_getElem?_getD, List.getD_eq_getElem?_getD, List.getElem?_map]
  cases l[k]? <;> rfl

/-- bytes, converted to a string -/
theorem Bytes.str {w : World} {v : Value} {l : List UInt8} (h : Bytes w v l) : (convert 27 9 v).run Try.prog w = .ok (.string (str l)) w := by
  obtain ⟨ao, c, rfl, h1, h2, h3⟩ := h
  cases ao with
  | none =>
    rcases Nat.eq_zero_or_pos l.length with h0 | h0
    · have e : l = [] := List.eq_nil_of_length_eq_zero h0
      subst e
      exact run_convert_bytes_nil w 27 5 Try.underlying27 Try.underlying5 _ _ 9 Try.underlying9
    · obtain ⟨g, o, ha, _⟩ := h3 0 h0
      cases ha
  | some a =>
    rcases Nat.eq_zero_or_pos l.length with h0 | h0
    · have e : l = [] := List.eq_nil_of_length_eq_zero h0
      subst e
      rw [run_convert_bytes_string w 27 9 5 _ _ _ Try.underlying27 Try.underlying5 Try.underlying9]
      exact run_bytesToString w a 0 c [] (by simp [loadCells, loadCellsFrom])
    · obtain ⟨g, o, ha, _⟩ := h3 0 h0
      cases ha
      rw [← nums_str]
      refine run_convert_bytes_arg w 27 5 Try.underlying27 Try.underlying5 g o _ c _ (by simp) (fun k hk => ?_) 9 Try.underlying9
      obtain ⟨g', o', ha, _, hc⟩ := h3 k hk
      cases ha
      rw [nums_at]
      exact hc

/-- noughts -/
def zeros (n : Nat) : List Value := (madeCells #[.int .u8 0] n).toList
theorem zeros_length (n : Nat) : (zeros n).length = n := by unfold zeros; rw [Array.length_toList, size_madeCells]
theorem make_bytes (n : Nat) (h : n ≤ 200000) (w : World) :
    (Instr.makeSlice 27 (.int .i64 (n : Int)) (.int .i64 (n : Int))).run Try.prog w = .ok (.slice (some ⟨w.heap.size, 0, none⟩) n n) (w.alloc (.cells (zeros n).toArray 5)) := by
  have := run_make_row' 27 5 (.int .u8 0) 1 Try.underlying27 info_byte rfl .i64 .i64 n (by omega) (by omega) w
  rw [this]
  unfold zeros
  rw [Array.toArray_toList]

theorem addr_on (g o j : Nat) : (⟨g, o, none⟩ : Addr).add j = ⟨g, o + j, none⟩ := by unfold Addr.add; split <;> simp_all

/-- what a copy of bytes asks of its source -/
theorem Bytes.src {w : World} {ao : Option Addr} {n c : Nat} {l : List UInt8} (h : Bytes w (.slice ao n c) l) : n = l.length ∧ (0 < (bcells l).length → ∃ ad, ao = some ad ∧ ∀ j v, (bcells l)[j]? = some v → w.cell? (ad.add j) = some v) := by
  obtain ⟨ao', c', e, h1, h2, h3⟩ := h
  injection e with e1 e2 e3
  subst e1 e2 e3
  refine ⟨rfl, fun h0 => ?_⟩
  rw [bcells_length] at h0
  obtain ⟨g, o, ha, _⟩ := h3 0 h0
  refine ⟨_, ha, fun j v hv => ?_⟩
  have hj : j < l.length := by rw [← bcells_length l]; exact (List.getElem?_eq_some_iff.1 hv).1
  obtain ⟨g', o', ha', _, hc⟩ := h3 j hj
  rw [ha] at ha'
  cases ha'
  rw [bcells_at l j hj] at hv
  cases hv
  rw [addr_on]
  exact hc

set_option maxHeartbeats 1000000 in
theorem same_any (v : Value) (l : List UInt8) (w : World) (hv : Bytes w v l) (hl : l.length ≤ 100000) :
    Calls Try.prog 36 #[v] w fun e w' => e = .returned (.slice (some ⟨w.heap.size, 0, none⟩) l.length l.length) ∧ Row w' w.heap.size l ∧ Ext w w' := by
  have X := (Ext.refl w).alloc (.cells (zeros l.length).toArray 5)
  have hv1 := hv.ext X
  have hg : Hid ((w.alloc (.cells (zeros l.length).toArray 5)).heap[w.heap.size]? = some (.cells (zeros l.length).toArray 5 (0, 0))) := heap_alloc_new w _
  have zl := zeros_length l.length
  have mk := make_bytes l.length (by omega) w
  obtain ⟨ao, c, rfl, h1, h2, _⟩ := hv
  have SRC := hid hv1.src
  have XX := hid X
  clear X hv1
  unfold maxLen at h2
  obtain ⟨Z, eZ⟩ : ∃ Z, Z = zeros l.length := ⟨_, rfl⟩
  rw [← eZ] at zl mk hg XX SRC
  have CL := hid (bcells_length l)
  obtain ⟨B, eB⟩ : ∃ B, B = bcells l := ⟨_, rfl⟩
  have ON := hid (bcells_one l)
  rw [← eB] at CL ON SRC
  have EB := hid eB
  have ZL := hid zl
  clear eZ eB zl
  go_enter Try.func36, Try.ntmps36
  go_wp2_with (refine wpList_copy_splice rfl (.tmp 7) (.tmp 8) 27 27 rfl 5 Try.underlying27 size_byte _ _ _ _ _ _ rfl rfl w.heap.size 0 Z 5 hg.out B (by rw [CL.out]; exact (Nat.min_self _).symm) (fun h0 => ⟨rfl, SRC.out.2 h0⟩) (by rw [ZL.out, CL.out]; omega) ON.out w.heap.size w XX.out (Nat.le_refl _) ?_; intro w2 HG HB)
  go_ret
  refine ⟨rfl, ?_, HB⟩
  have e : splice Z 0 B = B := by
    unfold splice
    rw [List.take_zero, List.nil_append, List.drop_eq_nil_of_le (by rw [ZL.out, CL.out]; omega), List.append_nil]
  have := HG.out
  rw [e, EB.out] at this
  exact this

theorem cells_tail : (Try.prog.info? 79).map (·.size) = some 4 := by kernel_rfl

/-- the first k bytes of a sum, and noughts -/
def tpart (s : Nat) : Nat → Array Value
  | 0 => #[.int .u8 0, .int .u8 0, .int .u8 0, .int .u8 0]
  | 1 => #[bval (UInt8.ofNat s), .int .u8 0, .int .u8 0, .int .u8 0]
  | 2 => #[bval (UInt8.ofNat s), bval (UInt8.ofNat (s / 256)), .int .u8 0, .int .u8 0]
  | 3 => #[bval (UInt8.ofNat s), bval (UInt8.ofNat (s / 256)), bval (UInt8.ofNat (s / 65536)), .int .u8 0]
  | _ => #[bval (UInt8.ofNat s), bval (UInt8.ofNat (s / 256)), bval (UInt8.ofNat (s / 65536)), bval (UInt8.ofNat (s / 16777216))]
/-- the four bytes of a sum, as a value's cells -/
def tails (s : Nat) : Array Value := tpart s 4
theorem tails_cells (s : Nat) : tails s = (bcells (ctail s)).toArray := rfl
theorem tails_one (s : Nat) : (tails s).all (·.oneCell') = true := by simp [tails, tpart, bval, Value.oneCell']
theorem tails_size (s : Nat) : (tails s).size = 4 := rfl
/-- the world in which the first k bytes are laid -/
def tw (w : World) (s k : Nat) : World := (w.alloc (.cells (tpart 0 0) 79)).alloc (.cells (tpart s k) 79)
theorem tw_ext (w : World) (s k : Nat) : Ext w (tw w s k) := ((Ext.refl w).alloc _).alloc _
theorem tw_new (w : World) (s k : Nat) : (tw w s k).heap[w.heap.size + 1]? = some (.cells (tpart s k) 79 (0, 0)) := heap_alloc2_new w _ _
theorem tw_old (w : World) (s k : Nat) : (tw w s k).heap[w.heap.size]? = some (.cells (tpart 0 0) 79 (0, 0)) := heap_alloc2_old w _ _
theorem tw_set (w : World) (s k m : Nat) (v : Value) (h : (tpart s k).setIfInBounds m v = tpart s (k + 1)) : (tw w s k).setCell ⟨w.heap.size + 1, m, none⟩ v = tw w s (k + 1) := by
  rw [setCell_eq_setRow _ _ _ _ _ _ _ (tw_new w s k), h]
  have e : (w.alloc (.cells (tpart 0 0) 79)).heap.size = w.heap.size + 1 := by simp
  unfold tw
  rw [← e, setRow_new]
theorem byte_val (n : Nat) (m : Int) (h : m = ((n % 256 : Nat) : Int)) : Value.int .u8 m = bval (UInt8.ofNat n) := by
  unfold bval
  rw [h, UInt8.toNat_ofNat']

theorem shr_byte (s k : Nat) : (s : Int) / 2 ^ (8 * k) % 256 = ((s / 256 ^ k % 256 : Nat) : Int) := by
  rw [show (256 : Nat) ^ k = 2 ^ (8 * k) by rw [Nat.pow_mul]]
  simp

set_option maxHeartbeats 2000000 in
theorem tailOf_any (v : Value) (l : List UInt8) (w : World) (hv : Bytes w v l) :
    Calls Try.prog 35 #[v] w fun e w' => e = .returned (.agg (tails (csum l))) ∧ Ext w w' := by
  have c := hid (sum_any v l _ (hv.ext (tw_ext w (csum l) 0)))
  have hs := csum_room l
  clear hv
  generalize csum l = s at *
  have h3 := tw_new w s 4
  have h2 := tw_old w s 4
  have X := hid ((tw_ext w s 4).setRow (g := w.heap.size) (Nat.le_refl _) (tails s))
  have R : Hid (((tw w s 4).setRow w.heap.size (tails s)).heap[w.heap.size]? = some (.cells (tails s) 79 (0, 0))) := setRow_heap _ _ _ _ _ _ h2
  go_enter Try.func35, Try.ntmps35
  go_wp2_with fail
  refine c.out.mono ?_
  rintro e w' ⟨rfl, rfl⟩
  clear c
  go_wp2_with fail
  go_loopw [8] (fun i wr => ∃ k : Nat, k ≤ 4 ∧ i = .int .i64 k ∧ wr = tw w s k) (fun i _ => (4 - intOf i).toNat)
  case atStart => exact ⟨0, by omega, rfl, rfl⟩
  case round =>
    obtain ⟨k, hk, rfl, rfl⟩ := hrel
    by_cases t : k < 4
    · have c1 : (tw w s k).frozen? ⟨w.heap.size + 1, k, none⟩ = false := frozen_of_row _ _ _ _ _ (tw_new w s k)
      have c2 : ∃ u, (tw w s k).cell? ⟨w.heap.size + 1, k, none⟩ = some (.int .u8 u) := by
        match k, t with
        | 0, _ | 1, _ | 2, _ | 3, _ => exact ⟨0, by rw [cell_of_row _ _ _ _ _ _ (tw_new w s _)]; rfl⟩
        | n + 4, t => exact absurd t (by omega)
      obtain ⟨u, c2⟩ := c2
      have c3 : Hid (∀ m : Int, m = ((s / 256 ^ k % 256 : Nat) : Int) → (tw w s k).setCell ⟨w.heap.size + 1, k, none⟩ (.int .u8 m) = tw w s (k + 1)) := by
        intro m hm
        refine tw_set w s k k _ ?_
        match k, t with
        | 0, _ => rw [byte_val s m (by rw [hm]; simp)]; rfl
        | 1, _ => rw [byte_val (s / 256) m (by rw [hm])]; rfl
        | 2, _ => rw [byte_val (s / 65536) m (by rw [hm])]; rfl
        | 3, _ => rw [byte_val (s / 16777216) m (by rw [hm])]; rfl
        | n + 4, t => exact absurd t (by omega)
      have t' : (k : Int) < 4 := by omega
      have t2 : (0 : Int) ≤ (k : Int) := by omega
      clear h2 h3
      go_wp2_with fail
      go_roundw
      case rel => exact ⟨k + 1, by omega, by go_num, c3.out _ (shr_byte s k)⟩
      case measure => simp [intOf]; omega
    · obtain rfl : k = 4 := by omega
      go_wp2_with (first
        | refine wpList_load_row rfl 79 _ rfl (w.heap.size + 1) rfl 79 (tails s) (0, 0) _ h3 Try.underlying79 rfl cells_tail ?_
        | refine wpList_store_row rfl 79 _ _ rfl w.heap.size (tails s) rfl rfl 79 (tpart 0 0) h2 cells_tail rfl (tails_one s) ?_)
      (try simp only [Exit.inBlock, Exit.then])
      refine bodyPost_ret (results_cell_row Try.results35 _ _ w.heap.size 79 (tails s) (0, 0) _ rfl R.out Try.underlying79 rfl cells_tail) rfl ?_
      exact ⟨rfl, X.out⟩
end Go.Proofs.Ytlnjkjpllmfcaaa

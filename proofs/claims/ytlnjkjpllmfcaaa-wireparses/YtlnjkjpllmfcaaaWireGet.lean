/-
  Walks of getList at bytes, rates and ranges.
-/
import Derived.Test.YtlnjkjpllmfcaaaWireG
namespace Go.Proofs.Ytlnjkjpllmfcaaa
set_option linter.unusedVariables false
set_option maxRecDepth 100000
open Go.RowKit Go.Lib

/-- so many things, one behind the other, and what is left -/
def runs {α : Type} (f : List UInt8 × Bool → α × List UInt8 × Bool) : Nat → List UInt8 × Bool → List α × List UInt8 × Bool
  | 0, x => ([], x)
  | n + 1, x => ((runs f n x).1 ++ [(f (runs f n x).2).1], (f (runs f n x).2).2)
def oneD (x : List UInt8 × Bool) : UInt8 × List UInt8 × Bool := (UInt8.ofNat (took 1 x).1, (took 1 x).2)
def oneA (x : List UInt8 × Bool) : UInt64 × List UInt8 × Bool := (UInt64.ofNat (took 8 x).1, (took 8 x).2)
theorem runs_length {α : Type} (f : List UInt8 × Bool → α × List UInt8 × Bool) (n : Nat) (x : List UInt8 × Bool) : (runs f n x).1.length = n := by
  induction n with
  | zero => rfl
  | succ n ih => simp [runs, ih]

theorem info_F : (Try.prog.info? 24).map (fun i => (i.zero, i.size, i.bytes)) = some (some (.int .u64 0), 1, 8) := by kernel_rfl
theorem info_two : (Try.prog.info? 53).map (fun i => (i.zero, i.size, i.bytes)) = some (some (.agg #[.int .i64 0, .int .i64 0]), 2, 16) := by kernel_rfl

theorem info_three {i : Option TypeInfo} {z : Value} {s b : Nat} (h : i.map (fun i => (i.zero, i.size, i.bytes)) = some (some z, s, b)) : ∃ j, i = some j ∧ j.zero = some z ∧ j.size = s ∧ j.bytes = b := by
  cases i with
  | none => simp at h
  | some j => simp at h; exact ⟨j, rfl, h⟩

theorem make_rows (t e : TypeId) (z : Value) (s b : Nat) (ht : Try.prog.underlying t = some (.slice e)) (hi : (Try.prog.info? e).map (fun i => (i.zero, i.size, i.bytes)) = some (some z, s, b)) (hb : b ≤ 1000) (n : Nat) (hn : n ≤ 1000) (w : World) :
    ∃ cur : Array Value, cur.size = n * s ∧ (Instr.makeSlice t (.int .i64 (n : Int)) (.int .i64 (n : Int))).run Try.prog w = .ok (.slice (some ⟨w.heap.size, 0, none⟩) n n) (w.alloc (.cells cur e)) := by
  obtain ⟨j, e1, e2, e3, e4⟩ := info_three hi
  have hbn : b * n ≤ 1000 * 1000 := Nat.mul_le_mul hb hn
  have := run_make (P := Try.prog) w t e j z ht e1 e2 .i64 .i64 (n : Int) (n : Int) (by omega) (Int.le_refl _) (by rw [e4, ← Int.natCast_mul]; omega) (by omega)
  simp only [Int.toNat_natCast, e3] at this
  exact ⟨_, size_madeCells _ _, this⟩

theorem set_take (cur : Array Value) (k : Nat) (v : Value) (h : k < cur.size) : (cur.setIfInBounds k v).toList.take (k + 1) = cur.toList.take k ++ [v] := by
  rw [Array.toList_setIfInBounds, List.take_succ_eq_append_getElem (by simp; omega), List.getElem_set_self]
  congr 1
  rw [List.take_set_of_le (Nat.le_refl k)]

/-- where a list is being read: the reader, the list's row, how many stand in it, all else -/
def GetAt (K : Nat → Prop) (w wr : World) (g b r : Nat) (E : TypeId) (sz n k : Nat) (els : List Value) (x : List UInt8 × Bool) : Prop :=
  Rd K wr g b x.1 x.2 ∧ (∃ cur : Array Value, wr.heap[r]? = some (.cells cur E (0, 0)) ∧ cur.size = n * sz ∧ cur.toList.take (k * sz) = els) ∧ Kept K w wr

theorem GetAt.start {K : Nat → Prop} {w w1 : World} {g b : Nat} {E : TypeId} {sz n : Nat} {cur : Array Value} {x : List UInt8 × Bool} (h : Rd K w1 g b x.1 x.2) (hk : Kept K w w1) (hc : cur.size = n * sz) :
    GetAt K w (w1.alloc (.cells cur E)) g b w1.heap.size E sz n 0 [] x := by
  have X : Ext w1 (w1.alloc (.cells cur E)) := (Ext.refl w1).alloc _
  have gl := h.lt
  exact ⟨h.other (.of_ext X) (by rw [X.row (Array.getElem?_eq_getElem gl), Array.getElem?_eq_getElem gl]), ⟨cur, heap_alloc_new w1 _, hc, by simp⟩, hk.trans (.of_ext X)⟩

/-- the reader, for a call that leaves the row alone -/
theorem GetAt.rd {K : Nat → Prop} {w wr : World} {g b r : Nat} {E : TypeId} {sz n k : Nat} {els : List Value} {x : List UInt8 × Bool} (h : GetAt K w wr g b r E sz n k els x) (hgr : g ≠ r) : Rd (fun i => K i ∨ i = r) wr g b x.1 x.2 := by
  obtain ⟨h1, ⟨cur, h2, _⟩, _⟩ := h
  have p := h1.parts
  refine h1.more (fun i hi => .inl hi) (fun hh => hh.elim p.2.1 hgr) (fun i hi => ?_)
  rcases hi with hi | rfl
  · exact p.2.2 i hi
  · exact lt_of_row h2

/-- one more cell is written -/
theorem GetAt.put {K : Nat → Prop} {w wr w2 : World} {g b r : Nat} {E : TypeId} {n k : Nat} {els : List Value} {x y : List UInt8 × Bool} (h : GetAt K w wr g b r E 1 n k els x) (hgr : g ≠ r) (hr : ¬ K r) (hkn : k < n) (h2 : Rd (fun i => K i ∨ i = r) w2 g b y.1 y.2) (k2 : Kept (fun i => K i ∨ i = r) wr w2) (v : Value) :
    (∃ u, w2.cell? ⟨r, k, none⟩ = some u) ∧ w2.frozen? ⟨r, k, none⟩ = false ∧ GetAt K w (w2.setCell ⟨r, k, none⟩ v) g b r E 1 n (k + 1) (els ++ [v]) y := by
  obtain ⟨h1, ⟨cur, hrow, hs, ht⟩, hk⟩ := h
  have row2 := k2.row (.inr rfl) hrow
  have p := h1.parts
  rw [Nat.mul_one] at hs ht
  have kk : Kept K w2 (w2.setCell ⟨r, k, none⟩ v) := (Kept.refl K w2).setCell (p := ⟨r, k, none⟩) hr v
  refine ⟨⟨cur[k], by rw [cell_of_row _ _ _ _ _ _ row2]; simp [hs, hkn]⟩, frozen_of_row _ _ _ _ _ row2, ?_, ⟨cur.setIfInBounds k v, ?_, by simp [hs], ?_⟩, ?_⟩
  · exact (h2.less (L := K) (fun i hi => .inl hi) p.1).other kk (heap_setCell_other _ _ _ _ hgr)
  · rw [setCell_eq_setRow _ _ _ _ _ _ _ row2]; exact setRow_heap _ _ _ _ _ _ row2
  · rw [Nat.mul_one, set_take cur k v (by omega), ht]
  · exact (hk.trans (k2.mono (fun i hi => .inl hi))).trans kk

theorem took1 (x : List UInt8 × Bool) : ((UInt8.ofNat (took 1 x).1).toNat : Int) = ((took 1 x).1 : Int) := by
  have := took_lt 1 x
  rw [count_byte _ (by omega)]
theorem took8 (x : List UInt8 × Bool) : ((UInt64.ofNat (took 8 x).1).toNat : Int) = ((took 8 x).1 : Int) := by
  have := took_lt 8 x
  rw [UInt64.toNat_ofNat']
  omega
theorem bcells_snoc (l : List UInt8) (x : List UInt8 × Bool) : bcells (l ++ [UInt8.ofNat (took 1 x).1]) = bcells l ++ [.int .u8 ((took 1 x).1 : Int)] := by
  rw [bcells_append, ← took1]; rfl
theorem acells_snoc (l : List UInt64) (x : List UInt8 × Bool) : acells (l ++ [UInt64.ofNat (took 8 x).1]) = acells l ++ [.int .u64 ((took 8 x).1 : Int)] := by
  rw [← took8]; simp [acells, aval]

theorem GetAt.done {K : Nat → Prop} {w wr : World} {g b r : Nat} {E : TypeId} {sz n : Nat} {els : List Value} {x : List UInt8 × Bool} (h : GetAt K w wr g b r E sz n n els x) : Rd K wr g b x.1 x.2 ∧ wr.heap[r]? = some (.cells els.toArray E (0, 0)) ∧ Kept K w wr := by
  obtain ⟨h1, ⟨cur, h2, h3, h4⟩, h5⟩ := h
  refine ⟨h1, ?_, h5⟩
  rw [h2, ← h4, List.take_of_length_le (by simp [h3])]

set_option maxHeartbeats 2000000 in
theorem getD_any (K : Nat → Prop) (w : World) (g b : Nat) (l : List UInt8) (s : Bool) (h : Rd K w g b l s) :
    Calls Try.prog 64 #[.pointer (some ⟨g, 0, none⟩), .func (.func 49) #[.pointer (some ⟨g, 0, none⟩)] #[]] w fun e w' =>
      ∃ r, e = .returned (.slice (some ⟨r, 0, none⟩) (took 1 (l, s)).1 (took 1 (l, s)).1) ∧ w.heap.size ≤ r ∧ w'.heap[r]? = some (.cells (bcells (runs oneD (took 1 (l, s)).1 (took 1 (l, s)).2).1).toArray 5 (0, 0)) ∧
        Rd K w' g b (runs oneD (took 1 (l, s)).1 (took 1 (l, s)).2).2.1 (runs oneD (took 1 (l, s)).1 (took 1 (l, s)).2).2.2 ∧ Kept K w w' := by
  have C := hid (octetR_any K w g b l s h)
  have n1 := took_lt 1 (l, s)
  have gl := h.lt
  have p := h.parts
  generalize took 1 (l, s) = T at *
  obtain ⟨n, y⟩ := T
  have P := hid p
  simp only at n1
  clear h p
  go_enter Try.func64, Try.ntmps64
  go_wp2_with fail
  refine C.out.mono ?_
  rintro e w1 ⟨rfl, h1, k1⟩
  obtain ⟨cur, hc, mk⟩ := make_rows 27 5 (.int .u8 0) 1 1 Try.underlying27 info_byte (by omega) n (by omega) w1
  have ST := hid (GetAt.start (E := 5) (x := y) h1 k1 hc)
  have sz := k1.size
  have HR : Hid (¬ K w1.heap.size) := fun hh => by have := P.2.2 _ hh; omega
  have hgr : g ≠ w1.heap.size := by omega
  clear h1 k1 C
  generalize w1.heap.size = r at *
  generalize w1.alloc (.cells cur 5) = w2 at *
  go_wp2_with fail
  go_loopw [13] (fun i wr => ∃ k : Nat, k ≤ n ∧ i = .int .i64 k ∧ GetAt K w wr g b r 5 1 n k (bcells (runs oneD k y).1) (runs oneD k y).2) (fun i _ => (n - intOf i).toNat)
  case atStart => exact ⟨0, by omega, rfl, ST.out⟩
  case round =>
    obtain ⟨k, hk, rfl, ha⟩ := hrel
    clear ST mk
    by_cases t : k < n
    · have C := hid (octetR_any _ wr g b _ _ (ha.rd hgr))
      have PUT := hid (fun w3 (h2 : Rd _ w3 g b (took 1 (runs oneD k y).2).2.1 (took 1 (runs oneD k y).2).2.2) k2 => ha.put hgr HR.out t h2 k2 (.int .u8 ((took 1 (runs oneD k y).2).1 : Int)))
      rw [← bcells_snoc] at PUT
      have t1 : (k : Int) < (n : Int) := by omega
      have t2 : (0 : Int) ≤ (k : Int) := by omega
      clear ha
      go_wp2_with fail
      refine C.out.mono ?_
      rintro e w3 ⟨rfl, h2, k2⟩
      obtain ⟨⟨u, c3⟩, f3, g3⟩ := PUT.out w3 h2 k2
      have G3 := hid g3
      clear h2 k2 C PUT g3
      go_wp2_with fail
      go_roundw
      case rel => exact ⟨k + 1, by omega, by go_num, G3.out⟩
      case measure => simp [intOf]; omega
    · obtain rfl : k = n := by omega
      have D := hid ha.done
      clear ha
      go_wp2_with fail
      go_ret
      exact ⟨r, rfl, by omega, D.2.1, D.1, D.2.2⟩
set_option maxHeartbeats 2000000 in
theorem getA_any (K : Nat → Prop) (w : World) (g b : Nat) (l : List UInt8) (s : Bool) (h : Rd K w g b l s) :
    Calls Try.prog 77 #[.pointer (some ⟨g, 0, none⟩), .func (.func 71) #[.pointer (some ⟨g, 0, none⟩)] #[]] w fun e w' =>
      ∃ r, e = .returned (.slice (some ⟨r, 0, none⟩) (took 1 (l, s)).1 (took 1 (l, s)).1) ∧ w.heap.size ≤ r ∧ w'.heap[r]? = some (.cells (acells (runs oneA (took 1 (l, s)).1 (took 1 (l, s)).2).1).toArray 24 (0, 0)) ∧
        Rd K w' g b (runs oneA (took 1 (l, s)).1 (took 1 (l, s)).2).2.1 (runs oneA (took 1 (l, s)).1 (took 1 (l, s)).2).2.2 ∧ Kept K w w' := by
  have C := hid (octetR_any K w g b l s h)
  have n1 := took_lt 1 (l, s)
  have gl := h.lt
  have p := h.parts
  generalize took 1 (l, s) = T at *
  obtain ⟨n, y⟩ := T
  have P := hid p
  simp only at n1
  clear h p
  go_enter Try.func77, Try.ntmps77
  go_wp2_with fail
  refine C.out.mono ?_
  rintro e w1 ⟨rfl, h1, k1⟩
  obtain ⟨cur, hc, mk⟩ := make_rows 25 24 (.int .u64 0) 1 8 Try.underlying25 info_F (by omega) n (by omega) w1
  have ST := hid (GetAt.start (E := 24) (x := y) h1 k1 hc)
  have sz := k1.size
  have HR : Hid (¬ K w1.heap.size) := fun hh => by have := P.2.2 _ hh; omega
  have hgr : g ≠ w1.heap.size := by omega
  clear h1 k1 C
  generalize w1.heap.size = r at *
  generalize w1.alloc (.cells cur 24) = w2 at *
  go_wp2_with fail
  go_loopw [13] (fun i wr => ∃ k : Nat, k ≤ n ∧ i = .int .i64 k ∧ GetAt K w wr g b r 24 1 n k (acells (runs oneA k y).1) (runs oneA k y).2) (fun i _ => (n - intOf i).toNat)
  case atStart => exact ⟨0, by omega, rfl, ST.out⟩
  case round =>
    obtain ⟨k, hk, rfl, ha⟩ := hrel
    clear ST mk
    by_cases t : k < n
    · have C := hid (rateR_any _ wr g b _ _ (ha.rd hgr))
      have PUT := hid (fun w3 (h2 : Rd _ w3 g b (took 8 (runs oneA k y).2).2.1 (took 8 (runs oneA k y).2).2.2) k2 => ha.put hgr HR.out t h2 k2 (.int .u64 ((took 8 (runs oneA k y).2).1 : Int)))
      rw [← acells_snoc] at PUT
      have t1 : (k : Int) < (n : Int) := by omega
      have t2 : (0 : Int) ≤ (k : Int) := by omega
      clear ha
      go_wp2_with fail
      refine C.out.mono ?_
      rintro e w3 ⟨rfl, h2, k2⟩
      obtain ⟨⟨u, c3⟩, f3, g3⟩ := PUT.out w3 h2 k2
      have G3 := hid g3
      clear h2 k2 C PUT g3
      go_wp2_with fail
      go_roundw
      case rel => exact ⟨k + 1, by omega, by go_num, G3.out⟩
      case measure => simp [intOf]; omega
    · obtain rfl : k = n := by omega
      have D := hid ha.done
      clear ha
      go_wp2_with fail
      go_ret
      exact ⟨r, rfl, by omega, D.2.1, D.1, D.2.2⟩
/-- two more cells are written -/
theorem GetAt.put2 {K : Nat → Prop} {w wr w2 : World} {g b r : Nat} {E : TypeId} {n k : Nat} {els : List Value} {x y : List UInt8 × Bool} (h : GetAt K w wr g b r E 2 n k els x) (hgr : g ≠ r) (hr : ¬ K r) (hkn : k < n) (h2 : Rd (fun i => K i ∨ i = r) w2 g b y.1 y.2) (k2 : Kept (fun i => K i ∨ i = r) wr w2) (v u : Value) :
    (∃ q, w2.cell? ⟨r, k * 2, none⟩ = some q) ∧ (∃ q, w2.cell? ⟨r, k * 2 + 1, none⟩ = some q) ∧ w2.frozen? ⟨r, k * 2, none⟩ = false ∧ w2.frozen? ⟨r, k * 2 + 1, none⟩ = false ∧
      GetAt K w ((w2.setCell ⟨r, k * 2, none⟩ v).setCell ⟨r, k * 2 + 1, none⟩ u) g b r E 2 n (k + 1) (els ++ [v, u]) y := by
  obtain ⟨h1, ⟨cur, hrow, hs, ht⟩, hk⟩ := h
  have row2 := k2.row (.inr rfl) hrow
  have p := h1.parts
  have kk : Kept K w2 ((w2.setCell ⟨r, k * 2, none⟩ v).setCell ⟨r, k * 2 + 1, none⟩ u) := ((Kept.refl K w2).setCell (p := ⟨r, k * 2, none⟩) hr v).setCell (p := ⟨r, k * 2 + 1, none⟩) hr u
  have b0 : k * 2 < cur.size := by omega
  have b1 : k * 2 + 1 < cur.size := by omega
  have row3 := setRow_heap w2 r cur (cur.setIfInBounds (k * 2) v) E (0, 0) row2
  refine ⟨⟨cur[k * 2], by rw [cell_of_row _ _ _ _ _ _ row2]; simp [b0]⟩, ⟨cur[k * 2 + 1], by rw [cell_of_row _ _ _ _ _ _ row2]; simp [b1]⟩, frozen_of_row _ _ _ _ _ row2, frozen_of_row _ _ _ _ _ row2, ?_, ⟨(cur.setIfInBounds (k * 2) v).setIfInBounds (k * 2 + 1) u, ?_, by simp [hs], ?_⟩, ?_⟩
  · refine (h2.less (L := K) (fun i hi => .inl hi) p.1).other kk ?_
    rw [heap_setCell_other _ _ _ _ hgr, heap_setCell_other _ _ _ _ hgr]
  · rw [setCell_eq_setRow _ _ _ _ _ _ _ row2, setCell_eq_setRow _ _ _ _ _ _ _ row3]; exact setRow_heap _ _ _ _ _ _ row3
  · rw [show (k + 1) * 2 = k * 2 + 1 + 1 by omega, set_take _ (k * 2 + 1) u (by simp; omega), set_take cur (k * 2) v b0, ht, List.append_assoc]
    rfl
  · exact (hk.trans (k2.mono (fun i hi => .inl hi))).trans kk
theorem gcells_snoc (l : List (Int × Int)) (x : Int × Int) : gcells (l ++ [x]) = gcells l ++ [.int .i64 x.1, .int .i64 x.2] := by simp [gcells]

set_option maxHeartbeats 2000000 in
theorem getG_any (K : Nat → Prop) (w : World) (g b : Nat) (l : List UInt8) (s : Bool) (h : Rd K w g b l s) :
    Calls Try.prog 88 #[.pointer (some ⟨g, 0, none⟩), .func (.func 89) #[.pointer (some ⟨g, 0, none⟩)] #[]] w fun e w' =>
      ∃ r, e = .returned (.slice (some ⟨r, 0, none⟩) (took 1 (l, s)).1 (took 1 (l, s)).1) ∧ w.heap.size ≤ r ∧ w'.heap[r]? = some (.cells (gcells (runs pairOf (took 1 (l, s)).1 (took 1 (l, s)).2).1).toArray 53 (0, 0)) ∧
        Rd K w' g b (runs pairOf (took 1 (l, s)).1 (took 1 (l, s)).2).2.1 (runs pairOf (took 1 (l, s)).1 (took 1 (l, s)).2).2.2 ∧ Kept K w w' := by
  have C := hid (octetR_any K w g b l s h)
  have n1 := took_lt 1 (l, s)
  have gl := h.lt
  have p := h.parts
  generalize took 1 (l, s) = T at *
  obtain ⟨n, y⟩ := T
  have P := hid p
  simp only at n1
  clear h p
  go_enter Try.func88, Try.ntmps88
  go_wp2_with fail
  refine C.out.mono ?_
  rintro e w1 ⟨rfl, h1, k1⟩
  obtain ⟨cur, hc, mk⟩ := make_rows 26 53 (.agg #[.int .i64 0, .int .i64 0]) 2 16 Try.underlying26 info_two (by omega) n (by omega) w1
  have ST := hid (GetAt.start (E := 53) (x := y) h1 k1 hc)
  have sz := k1.size
  have HR : Hid (¬ K w1.heap.size) := fun hh => by have := P.2.2 _ hh; omega
  have hgr : g ≠ w1.heap.size := by omega
  clear h1 k1 C
  generalize w1.heap.size = r at *
  generalize w1.alloc (.cells cur 53) = w2 at *
  go_wp2_with fail
  go_loopw [13] (fun i wr => ∃ k : Nat, k ≤ n ∧ i = .int .i64 k ∧ GetAt K w wr g b r 53 2 n k (gcells (runs pairOf k y).1) (runs pairOf k y).2) (fun i _ => (n - intOf i).toNat)
  case atStart => exact ⟨0, by omega, rfl, ST.out⟩
  case round =>
    obtain ⟨k, hk, rfl, ha⟩ := hrel
    clear ST mk
    by_cases t : k < n
    · have C := hid (pairR_any _ wr g b _ _ (ha.rd hgr))
      have PUT := hid (fun w3 (h2 : Rd _ w3 g b (pairOf (runs pairOf k y).2).2.1 (pairOf (runs pairOf k y).2).2.2) k2 => ha.put2 hgr HR.out t h2 k2 (.int .i64 (pairOf (runs pairOf k y).2).1.1) (.int .i64 (pairOf (runs pairOf k y).2).1.2))
      rw [← gcells_snoc] at PUT
      have t1 : (k : Int) < (n : Int) := by omega
      have t2 : (0 : Int) ≤ (k : Int) := by omega
      clear ha
      go_wp2_with fail
      refine C.out.mono ?_
      rintro e w3 ⟨rfl, h2, k2⟩
      obtain ⟨⟨u, c3⟩, ⟨u', c4⟩, f3, f4, g3⟩ := PUT.out w3 h2 k2
      have G3 := hid g3
      clear h2 k2 C PUT g3
      go_wp2_with fail
      go_roundw
      case rel => exact ⟨k + 1, by omega, by go_num, G3.out⟩
      case measure => simp [intOf]; omega
    · obtain rfl : k = n := by omega
      have D := hid ha.done
      clear ha
      go_wp2_with fail
      go_ret
      exact ⟨r, rfl, by omega, D.2.1, D.1, D.2.2⟩
end Go.Proofs.Ytlnjkjpllmfcaaa

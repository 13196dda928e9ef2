/-
  Walks of package logs' Shelf: New, Made, Table, by one goroutine: the table is made by the first call, and once.
-/
import Derived.Test.YtbbfblfgieobeaaDoorSync
import Derived.Test.YtbbfblfgieobeaaDoorLogs
import Derived.Deep.MidRow
namespace Go.Proofs.YtbbfblfgieobeaaDoor
set_option linter.unusedVariables false
open Go.RowKit

/-- a shelf's cells: done, the lock, the table, how often it was made -/
def shelf (d s : Int) (T : Array Value) (m : Int) : Array Value := #[.int .u32 d, .int .i32 s, .int .u32 0] ++ T ++ #[.int .i32 m]
/-- cells written one behind the other -/
def laidOver (cur : Array Value) : Nat → List Value → Array Value
  | _, [] => cur
  | o, v :: r => laidOver (cur.setIfInBounds o v) (o + 1) r

theorem setCells_row (g : Nat) (t : TypeId) (fr : Nat × Nat) : ∀ (vs : List Value) (o : Nat) (cur : Array Value) (w : World), w.heap[g]? = some (.cells cur t fr) → w.setCells g o vs = w.setRow g (laidOver cur o vs)
  | [], o, cur, w, h => (setRow_self w g cur t fr h).symm
  | v :: r, o, cur, w, h => by
    have e := setCell_eq_setRow w g o cur t fr v h
    have i := setCells_row g t fr r (o + 1) (cur.setIfInBounds o v) (w.setRow g (cur.setIfInBounds o v)) (setRow_heap w g cur _ t fr h)
    show (w.setCell ⟨g, o, none⟩ v).setCells g (o + 1) r = _
    rw [e, i, setRow_setRow]
    rfl

theorem shelf_tab : laidOver (shelf 0 1 noughts 0) 3 tabs.toList = shelf 0 1 tabs 0 := by rfl
theorem shelf_made : (shelf 0 1 tabs 0).setIfInBounds 20 (.int .i32 1) = shelf 0 1 tabs 1 := by rfl
theorem shelf_held : (shelf 0 0 noughts 0).setIfInBounds 1 (.int .i32 1) = shelf 0 1 noughts 0 := by rfl
theorem shelf_done : (shelf 0 1 tabs 1).setIfInBounds 0 (.int .u32 1) = shelf 1 1 tabs 1 := by rfl
theorem shelf_free : (shelf 1 1 tabs 1).setIfInBounds 1 (.int .i32 0) = shelf 1 0 tabs 1 := by rfl

/-- in block b lies a shelf -/
def ShelfAt (w : World) (b : Nat) (cs : Array Value) : Prop := w.heap[b]? = some (.cells cs 56 (0, 0))
theorem ShelfAt.cell {w : World} {b : Nat} {cs : Array Value} (h : ShelfAt w b cs) (i : Nat) : w.cell? ⟨b, i, none⟩ = cs[i]? := cell_of_row w b i cs _ _ h
theorem ShelfAt.warm {w : World} {b : Nat} {cs : Array Value} (h : ShelfAt w b cs) (i : Nat) : w.frozen? ⟨b, i, none⟩ = false := frozen_of_row w b i cs _ h
theorem ShelfAt.put {w : World} {b : Nat} {cs : Array Value} (h : ShelfAt w b cs) (i : Nat) (v : Value) : w.setCell ⟨b, i, none⟩ v = w.setRow b (cs.setIfInBounds i v) := setCell_eq_setRow w b i cs _ _ v h
theorem ShelfAt.row {w : World} {b : Nat} {cs : Array Value} (h : ShelfAt w b cs) (cs' : Array Value) : ShelfAt (w.setRow b cs') b cs' := setRow_heap w b cs cs' _ _ h
theorem ShelfAt.drew {w : World} {b : Nat} {cs : Array Value} (h : ShelfAt w b cs) : ShelfAt w.drew b cs := h
theorem drew_setRow (w : World) (b : Nat) (cs : Array Value) : w.drew.setRow b cs = (w.setRow b cs).drew := rfl

theorem shelf_at (j : Nat) (hj : j < 17) : (shelf 1 0 tabs 1)[3 + j]? = some (.int .i64 (tab j)) := by
  match j, hj with
  | 0, _ | 1, _ | 2, _ | 3, _ | 4, _ | 5, _ | 6, _ | 7, _ | 8, _ | 9, _ | 10, _ | 11, _ | 12, _ | 13, _ | 14, _ | 15, _ | 16, _ => rfl
  | n + 17, h => exact absurd h (by omega)
theorem tabs_long : tabs.toList.length = 17 := by rfl
theorem range_of_shelf {w : World} {b : Nat} (S : ShelfAt w b (shelf 1 0 tabs 1)) : w.rangeAt b 3 tabs.toList := fun j v hv => by
  have hj := (List.getElem?_eq_some_iff.1 hv).1
  rw [tabs_long] at hj
  have ht := tabs_at j hj
  rw [S.cell, shelf_at j hj, ← ht, ← hv]
  simp

set_option maxHeartbeats 1000000 in
/-- the function that makes the table -/
theorem make_any (b : Nat) (p : Addr) (w : World) (H : Steps w) (hb : b ≠ 0) (hp : w.cell? p = some (.pointer (some ⟨b, 0, none⟩))) (hq : p.block ≠ b) (S : ShelfAt w b (shelf 0 1 noughts 0)) :
    Calls Tryd.prog 24 #[.pointer (some p)] w fun e w' => e = .returned (.tuple #[]) ∧ w' = w.setRow b (shelf 0 1 tabs 1) := by
  obtain ⟨t, fr, h⟩ := H
  have th : w.there b 3 tabs.size := fun j hj => ⟨by rw [S.cell]; have : j < 17 := hj; match j, this with
    | 0, _ | 1, _ | 2, _ | 3, _ | 4, _ | 5, _ | 6, _ | 7, _ | 8, _ | 9, _ | 10, _ | 11, _ | 12, _ | 13, _ | 14, _ | 15, _ | 16, _ => rfl
    | n + 17, h => exact absurd h (by omega), S.warm _⟩
  have e1 : w.setCells b 3 tabs.toList = w.setRow b (shelf 0 1 tabs 0) := by rw [setCells_row b _ _ _ 3 _ w S, shelf_tab]
  have S1 : ShelfAt (w.setRow b (shelf 0 1 tabs 0)) b (shelf 0 1 tabs 0) := S.row _
  have hp1 : (w.setRow b (shelf 0 1 tabs 0)).cell? p = some (.pointer (some ⟨b, 0, none⟩)) := by rw [cell_setRow_other w b _ p hq]; exact hp
  have c20 : (w.setRow b (shelf 0 1 tabs 0)).cell? ⟨b, 20, none⟩ = some (.int .i32 0) := S1.cell 20
  have more := run_call_add (P := Tryd.prog) Tryd.func32 (by kernel_rfl) (by kernel_rfl) (by kernel_rfl) .i32 (by kernel_rfl) (y := 1) (s := 1) c20 (S1.warm 20) (by simp [go_sem]; rfl)
  have e2 : (w.setRow b (shelf 0 1 tabs 0)).setCell ⟨b, 20, none⟩ (.int .i32 1) = w.setRow b (shelf 0 1 tabs 1) := by rw [S1.put, shelf_made, setRow_setRow]
  rw [e2] at more
  go_enter Tryd.func24, Tryd.ntmps24
  go_wp2_with (first
    | refine wpList_load_row rfl 35 _ rfl 0 rfl t tabs fr _ h Tryd.underlying35 rfl cells17 ?_
    | (refine wpList_store_mid rfl 35 _ _ rfl b 3 tabs rfl rfl th cells17 tabs_one ?_; rw [e1]))
  go_wp2
  go_returns
  exact ⟨rfl, rfl⟩

set_option maxRecDepth 100000 in
set_option maxHeartbeats 1000000 in
/-- the slow way of Do, where nothing was made yet -/
theorem slow_first (b : Nat) (p : Addr) (w : World) (H : Steps w) (hb : b ≠ 0) (hp : w.cell? p = some (.pointer (some ⟨b, 0, none⟩))) (hq : p.block ≠ b) (S : ShelfAt w b (shelf 0 0 noughts 0)) :
    Calls Tryd.prog 31 #[.pointer (some ⟨b, 0, none⟩), .func (.func 24) #[] #[.pointer (some p)]] w fun e w' => e = .returned (.tuple #[]) ∧ w' = (w.setRow b (shelf 1 0 tabs 1)).drew := by
  have e1 : w.setCell ⟨b, 1, none⟩ (.int .i32 1) = w.setRow b (shelf 0 1 noughts 0) := by rw [S.put, shelf_held]
  have S1 : ShelfAt (w.setRow b (shelf 0 1 noughts 0)) b (shelf 0 1 noughts 0) := S.row _
  have l0 := word_load ⟨b, 0, none⟩ 0 _ (S1.cell 0)
  have n0 := not_run
  have H1 : Steps (w.setRow b (shelf 0 1 noughts 0)) := by
    obtain ⟨t, fr, h⟩ := H
    exact ⟨t, fr, by rw [setRow_other w b 0 _ (Ne.symm hb)]; exact h⟩
  have hp1 : (w.setRow b (shelf 0 1 noughts 0)).cell? p = some (.pointer (some ⟨b, 0, none⟩)) := by rw [cell_setRow_other w b _ p hq]; exact hp
  have c := make_any b p _ H1 hb hp1 hq S1
  rw [setRow_setRow] at c
  have lk := lock_any ⟨b, 1, none⟩ w (S.cell 1) (S.warm 1)
  rw [e1] at lk
  go_enter_defers Tryd.func31, Tryd.ntmps31
  go_wp2_with fail
  refine lk.mono ?_
  rintro e w' ⟨rfl, rfl⟩
  go_wp2_with (go_at_call 30; go_in)
  refine c.mono ?_
  rintro e w' ⟨rfl, rfl⟩
  go_wp2_with fail
  have S2 : ShelfAt (w.setRow b (shelf 0 1 tabs 1)) b (shelf 0 1 tabs 1) := S.row _
  have S3 : ShelfAt (w.setRow b (shelf 1 1 tabs 1)).drew b (shelf 1 1 tabs 1) := S.row _
  have e2 : (w.setRow b (shelf 0 1 tabs 1)).drew.setCell ⟨b, 0, none⟩ (.int .u32 1) = (w.setRow b (shelf 1 1 tabs 1)).drew := by
    rw [S2.drew.put, shelf_done, drew_setRow, setRow_setRow]
  have e3 : (w.setRow b (shelf 1 1 tabs 1)).drew.setCell ⟨b, 1, none⟩ (.int .i32 0) = (w.setRow b (shelf 1 0 tabs 1)).drew := by
    rw [S3.put, shelf_free, drew_setRow, setRow_setRow]
  refine leaves_cons (f := 36) (args := #[.pointer (some ⟨b, 0, none⟩), .bool true]) (by simp) (by simp [go_sem]) ?_
  refine (flag_later ⟨b, 0, none⟩ (.int .u32 0) .returning _ (S2.cell 0) (S2.warm 0)).mono ?_
  rintro e u' w'' ⟨rfl, rfl, rfl⟩
  rw [e2]
  refine leaves_cons (f := 35) (args := #[.pointer (some ⟨b, 1, none⟩)]) (by simp [settle]) (by simp [go_sem]) ?_
  refine (unlock_later ⟨b, 1, none⟩ _ _ (S3.cell 1) (S3.warm 1)).mono ?_
  rintro e u' w'' ⟨rfl, rfl, rfl⟩
  rw [e3]
  simp [Leaves, settle, results, Tryd.results31]

set_option maxHeartbeats 1000000 in
theorem do_first (b : Nat) (p : Addr) (w : World) (H : Steps w) (hb : b ≠ 0) (hp : w.cell? p = some (.pointer (some ⟨b, 0, none⟩))) (hq : p.block ≠ b) (S : ShelfAt w b (shelf 0 0 noughts 0)) :
    Calls Tryd.prog 23 #[.pointer (some ⟨b, 0, none⟩), .func (.func 24) #[] #[.pointer (some p)]] w fun e w' => e = .returned (.tuple #[]) ∧ w' = (w.setRow b (shelf 1 0 tabs 1)).drew := by
  have l0 := word_load ⟨b, 0, none⟩ 0 _ (S.cell 0)
  have n0 := not_run
  have c := slow_first b p w H hb hp hq S
  go_enter Tryd.func23, Tryd.ntmps23
  go_wp2_with (first | (go_at_call 30; go_in) | (go_at_call 31; refine c.mono ?_; rintro e w' ⟨rfl, rfl⟩))
  go_returns
  exact ⟨rfl, rfl⟩

set_option maxHeartbeats 1000000 in
theorem do_again (b : Nat) (fv : Value) (w : World) (S : ShelfAt w b (shelf 1 0 tabs 1)) :
    Calls Tryd.prog 23 #[.pointer (some ⟨b, 0, none⟩), fv] w fun e w' => e = .returned (.tuple #[]) ∧ w' = w := by
  have l0 := word_load ⟨b, 0, none⟩ 1 _ (S.cell 0)
  have n0 := not_run
  go_enter Tryd.func23, Tryd.ntmps23
  go_wp2
  go_returns
  exact ⟨rfl, rfl⟩

theorem made_func (fn : Fn) (first cap : Array Value) (w : World) : (Instr.makeFunc fn first cap).run Tryd.prog w = .ok (.func fn first cap) w := rfl

set_option maxHeartbeats 1000000 in
/-- Table, nothing made yet: it is made -/
theorem shelfTable_first (B b : Nat) (w : World) (H : Steps w) (hB : 0 < B) (hb : B ≤ b) (S : ShelfAt w b (shelf 0 0 noughts 0)) :
    Calls Tryd.prog 15 #[.pointer (some ⟨b, 0, none⟩)] w fun e w' => e = .returned (.agg tabs) ∧ Below B w w' ∧ ShelfAt w' b (shelf 1 0 tabs 1) := by
  have hs : b < w.heap.size := (Array.getElem?_eq_some_iff.1 S).1
  have m := made_func
  have E1 : Ext w ((w.alloc (.cells #[.pointer (some ⟨b, 0, none⟩)] 32)).alloc (.cells noughts 35)) := ((Ext.refl w).alloc _).alloc _
  have p1 : ((w.alloc (.cells #[.pointer (some ⟨b, 0, none⟩)] 32)).alloc (.cells noughts 35)).cell? ⟨w.heap.size, 0, none⟩ = some (.pointer (some ⟨b, 0, none⟩)) :=
    cell_of_row _ w.heap.size 0 _ _ _ (heap_alloc2_old w _ _)
  have r1 : ((w.alloc (.cells #[.pointer (some ⟨b, 0, none⟩)] 32)).alloc (.cells noughts 35)).heap[w.heap.size + 1]? = some (.cells noughts 35 (0, 0)) := heap_alloc2_new w _ _
  have S1 : ShelfAt ((w.alloc (.cells #[.pointer (some ⟨b, 0, none⟩)] 32)).alloc (.cells noughts 35)) b (shelf 0 0 noughts 0) := E1.row S
  have d : Calls Tryd.prog 23 #[.pointer (some ⟨b, 0, none⟩), .func (.func 24) #[] #[.pointer (some ⟨w.heap.size, 0, none⟩)]] ((w.alloc (.cells #[.pointer (some ⟨b, 0, none⟩)] 32)).alloc (.cells noughts 35))
      fun e w' => e = .returned (.tuple #[]) ∧ Below B w w' ∧ ShelfAt w' b (shelf 1 0 tabs 1) ∧ w'.cell? ⟨w.heap.size, 0, none⟩ = some (.pointer (some ⟨b, 0, none⟩)) ∧ w'.heap[w.heap.size + 1]? = some (.cells noughts 35 (0, 0)) := by
    refine (do_first b ⟨w.heap.size, 0, none⟩ _ (H.ext E1) (by omega) p1 (by simp; omega) S1).mono ?_
    rintro e w' ⟨rfl, rfl⟩
    refine ⟨rfl, Below.drew (below_setRow (Below.mono E1 (by omega)) hb _), (S1.row _).drew, ?_, ?_⟩
    · exact (cell_setRow_other _ b _ ⟨w.heap.size, 0, none⟩ (by simp; omega)).trans p1
    · exact (setRow_other _ b (w.heap.size + 1) _ (by omega)).trans r1
  clear E1 p1 r1 S1
  go_enter Tryd.func15, Tryd.ntmps15
  go_wp2_with fail
  refine d.mono ?_
  rintro e w' ⟨rfl, HB, S2, p2, r2⟩
  have rg : w'.rangeAt b 3 tabs.toList := range_of_shelf S2
  go_wp2_with (first
    | refine wpList_load_mid rfl 35 _ rfl b 3 rfl tabs.toList _ rg Tryd.underlying35 rfl cells17 ?_
    | refine wpList_store_row rfl 35 _ _ rfl (w.heap.size + 1) tabs rfl rfl 35 noughts r2 cells17 rfl tabs_one ?_)
  have r3 : (w'.setRow (w.heap.size + 1) tabs).heap[w.heap.size + 1]? = some (.cells tabs 35 (0, 0)) := setRow_heap w' _ noughts tabs _ _ r2
  have S3 : ShelfAt (w'.setRow (w.heap.size + 1) tabs) b (shelf 1 0 tabs 1) := (setRow_other w' _ b _ (by omega)).trans S2
  (try simp only [Exit.inBlock, Exit.then])
  refine bodyPost_ret (results_cell_row Tryd.results15 _ _ (w.heap.size + 1) 35 tabs (0, 0) _ rfl r3 Tryd.underlying35 rfl cells17) rfl ?_
  exact ⟨rfl, below_setRow HB (by omega) _, S3⟩

set_option maxHeartbeats 1000000 in
/-- Table, made already -/
theorem shelfTable_again (b : Nat) (w : World) (S : ShelfAt w b (shelf 1 0 tabs 1)) :
    Calls Tryd.prog 15 #[.pointer (some ⟨b, 0, none⟩)] w fun e w' => e = .returned (.agg tabs) ∧ Ext w w' := by
  have hs : b < w.heap.size := (Array.getElem?_eq_some_iff.1 S).1
  have m := made_func
  have E1 : Ext w ((w.alloc (.cells #[.pointer (some ⟨b, 0, none⟩)] 32)).alloc (.cells noughts 35)) := ((Ext.refl w).alloc _).alloc _
  have p1 : ((w.alloc (.cells #[.pointer (some ⟨b, 0, none⟩)] 32)).alloc (.cells noughts 35)).cell? ⟨w.heap.size, 0, none⟩ = some (.pointer (some ⟨b, 0, none⟩)) :=
    cell_of_row _ w.heap.size 0 _ _ _ (heap_alloc2_old w _ _)
  have r1 : ((w.alloc (.cells #[.pointer (some ⟨b, 0, none⟩)] 32)).alloc (.cells noughts 35)).heap[w.heap.size + 1]? = some (.cells noughts 35 (0, 0)) := heap_alloc2_new w _ _
  have S1 : ShelfAt ((w.alloc (.cells #[.pointer (some ⟨b, 0, none⟩)] 32)).alloc (.cells noughts 35)) b (shelf 1 0 tabs 1) := E1.row S
  have d : Calls Tryd.prog 23 #[.pointer (some ⟨b, 0, none⟩), .func (.func 24) #[] #[.pointer (some ⟨w.heap.size, 0, none⟩)]] ((w.alloc (.cells #[.pointer (some ⟨b, 0, none⟩)] 32)).alloc (.cells noughts 35))
      fun e w' => e = .returned (.tuple #[]) ∧ Ext w w' ∧ ShelfAt w' b (shelf 1 0 tabs 1) ∧ w'.cell? ⟨w.heap.size, 0, none⟩ = some (.pointer (some ⟨b, 0, none⟩)) ∧ w'.heap[w.heap.size + 1]? = some (.cells noughts 35 (0, 0)) := by
    refine (do_again b _ _ S1).mono ?_
    rintro e w' ⟨rfl, rfl⟩
    exact ⟨rfl, E1, S1, p1, r1⟩
  clear E1 p1 r1 S1
  go_enter Tryd.func15, Tryd.ntmps15
  go_wp2_with fail
  refine d.mono ?_
  rintro e w' ⟨rfl, HB, S2, p2, r2⟩
  have rg : w'.rangeAt b 3 tabs.toList := range_of_shelf S2
  go_wp2_with (first
    | refine wpList_load_mid rfl 35 _ rfl b 3 rfl tabs.toList _ rg Tryd.underlying35 rfl cells17 ?_
    | refine wpList_store_row rfl 35 _ _ rfl (w.heap.size + 1) tabs rfl rfl 35 noughts r2 cells17 rfl tabs_one ?_)
  have r3 : (w'.setRow (w.heap.size + 1) tabs).heap[w.heap.size + 1]? = some (.cells tabs 35 (0, 0)) := setRow_heap w' _ noughts tabs _ _ r2
  (try simp only [Exit.inBlock, Exit.then])
  refine bodyPost_ret (results_cell_row Tryd.results15 _ _ (w.heap.size + 1) 35 tabs (0, 0) _ rfl r3 Tryd.underlying35 rfl cells17) rfl ?_
  exact ⟨rfl, HB.setRow (by omega) _⟩

set_option maxHeartbeats 1000000 in
theorem made_any (b : Nat) (m : Int) (w : World) (h : w.cell? ⟨b, 20, none⟩ = some (.int .i32 m)) (h0 : 0 ≤ m) (h1 : m < 2147483648) :
    Calls Tryd.prog 14 #[.pointer (some ⟨b, 0, none⟩)] w fun e w' => e = .returned (.int .i64 m) ∧ w' = w := by
  have l := int_load ⟨b, 20, none⟩ m w h
  go_enter Tryd.func14, Tryd.ntmps14
  go_wp2
  go_ret
  exact ⟨rfl, rfl⟩

set_option maxHeartbeats 1000000 in
theorem shelfNew_any (w : World) :
    Calls Tryd.prog 13 #[] w fun e w' => e = .returned (.pointer (some ⟨w.heap.size, 0, none⟩)) ∧ Ext w w' ∧ ShelfAt w' w.heap.size (shelf 0 0 noughts 0) := by
  go_enter Tryd.func13, Tryd.ntmps13
  go_wp2_with fail
  go_ret
  exact ⟨rfl, (Ext.refl w).alloc _, heap_alloc_new w _⟩
end Go.Proofs.YtbbfblfgieobeaaDoor

/-
  The reference of layer 15: its state as it lies in cells; walks of New, count.
-/
import Derived.Test.YtlglhggfhlpbjaaHisRef
import Derived.Test.YtlglhggfhlpbjaaSerial
namespace Go.Proofs.Ytlglhggfhlpbjaa.Det
set_option linter.unusedVariables false
set_option maxRecDepth 100000
open Go.RowKit Go.Lib Go.Proofs.Ytlglhggfhlpbjaa.His

/-- a state as it lies in cells: eight numbers, the open interval, the closed ones, the begin, whether there was one, the last tick -/
def dcs (nx : List Int) (op : Int) (lv : Value) (bg : Int) (sm : Bool) (ls : Int) : Array Value :=
  #[.int .i64 (nx.getD 0 (-1)), .int .i64 (nx.getD 1 (-1)), .int .i64 (nx.getD 2 (-1)), .int .i64 (nx.getD 3 (-1)), .int .i64 (nx.getD 4 (-1)), .int .i64 (nx.getD 5 (-1)), .int .i64 (nx.getD 6 (-1)), .int .i64 (nx.getD 7 (-1)), .int .i64 op, lv, .int .i64 bg, .bool sm, .int .i64 ls]
def zst : Array Value := #[.int .i64 0, .int .i64 0, .int .i64 0, .int .i64 0, .int .i64 0, .int .i64 0, .int .i64 0, .int .i64 0, .int .i64 0, .slice none 0 0, .int .i64 0, .bool false, .int .i64 0]
theorem size_st : (Try.prog.info? 29).map (·.size) = some 13 := by kernel_rfl
theorem dcs_one (nx : List Int) (op : Int) (lv : Value) (bg : Int) (sm : Bool) (ls : Int) (h : lv.oneCell' = true) : (dcs nx op lv bg sm ls).all (·.oneCell') = true := by
  have e : (dcs nx op lv bg sm ls).all (·.oneCell') = (true && lv.oneCell' && true) := by simp [dcs, Value.oneCell']
  rw [e, h]
  rfl
theorem dcs_size (nx : List Int) (op : Int) (lv : Value) (bg : Int) (sm : Bool) (ls : Int) : (dcs nx op lv bg sm ls).size = 13 := rfl
theorem dcs_at (nx : List Int) (op : Int) (lv : Value) (bg : Int) (sm : Bool) (ls : Int) (k : Nat) (h : k < 8) : (dcs nx op lv bg sm ls)[k]? = some (.int .i64 (nx.getD k (-1))) := by
  match k, h with
  | 0, _ | 1, _ | 2, _ | 3, _ | 4, _ | 5, _ | 6, _ | 7, _ => rfl
theorem dcs_next (nx : List Int) (op : Int) (lv : Value) (bg : Int) (sm : Bool) (ls : Int) (k : Nat) (v : Int) (h : k < 8) (hn : nx.length = 8) : (dcs nx op lv bg sm ls).setIfInBounds k (.int .i64 v) = dcs (nx.set k v) op lv bg sm ls := by
  match nx, hn with
  | [a0, a1, a2, a3, a4, a5, a6, a7], _ =>
    match k, h with
    | 0, _ | 1, _ | 2, _ | 3, _ | 4, _ | 5, _ | 6, _ | 7, _ => rfl

def cnt (o n : Int) : Int := if o + n ≤ 1048576 then o + n else o
theorem cnt_room (o n : Int) (h0 : 0 ≤ o) (h1 : o ≤ 1048576) (n0 : 0 ≤ n) : 0 ≤ cnt o n ∧ cnt o n ≤ 1048576 := by unfold cnt; split <;> omega

theorem new_any (w : World) : Calls Try.prog 9 #[] w fun e w' => e = .returned (.agg (dcs [-1, -1, -1, -1, -1, -1, -1, -1] 0 (.slice none 0 0) 0 false 0)) ∧ Ext w w' := by
  go_enter Try.func9, Try.ntmps9
  go_wp2_with fail
  refine bodyPost_ret (results_cell_row Try.results9 _ _ w.heap.size 29 (dcs [-1, -1, -1, -1, -1, -1, -1, -1] 0 (.slice none 0 0) 0 false 0) (0, 0) _ rfl (heap_alloc_new w _) Try.underlying29 rfl size_st) rfl ?_
  exact ⟨rfl, (Ext.refl w).alloc _⟩

set_option maxHeartbeats 1000000 in
theorem count_any (nx : List Int) (op : Int) (lv : Value) (bg : Int) (sm : Bool) (ls n : Int) (w : World) (o0 : 0 ≤ op) (o1 : op ≤ 1048576) (n0 : 0 ≤ n) (n1 : n ≤ 1000000) (hl : lv.oneCell' = true) :
    Calls Try.prog 27 #[.agg (dcs nx op lv bg sm ls), .int .i64 n] w fun e w' => e = .returned (.agg (dcs nx (cnt op n) lv bg sm ls)) ∧ Ext w w' := by
  obtain ⟨V0, e0⟩ : ∃ V0, V0 = w.alloc (.cells (dcs nx op lv bg sm ls) 29) := ⟨_, rfl⟩
  obtain ⟨V1, e1⟩ : ∃ V1, V1 = V0.alloc (.cells zst 29) := ⟨_, rfl⟩
  have x0 : Ext w V0 := by rw [e0]; exact (Ext.refl w).alloc _
  have x1 : Ext V0 V1 := by rw [e1]; exact (Ext.refl V0).alloc _
  obtain ⟨bx, ebx⟩ : ∃ bx, bx = w.heap.size := ⟨_, rfl⟩
  have r0 : V0.heap[bx]? = some (.cells (dcs nx op lv bg sm ls) 29 (0, 0)) := by rw [e0, ebx]; exact heap_alloc_new w _
  have sz : V0.heap.size = bx + 1 := by rw [e0, ebx, World.size_alloc]
  have r1 : V1.heap[bx]? = some (.cells (dcs nx op lv bg sm ls) 29 (0, 0)) := x1.row r0
  have q1 : V1.heap[bx + 1]? = some (.cells zst 29 (0, 0)) := by rw [e1, ← sz]; exact heap_alloc_new V0 _
  have X1 := hid (x0.trans x1)
  have c8 : V1.cell? ⟨bx, 8, none⟩ = some (.int .i64 op) := by rw [cell_of_row _ _ 8 _ _ _ r1]; rfl
  have f8 : V1.frozen? ⟨bx, 8, none⟩ = false := frozen_of_row _ _ _ _ _ r1
  have R1 := hid r1
  have Q1 := hid q1
  unfold zst at e1
  rw [e0] at e1
  have E1 := hid e1
  have EB := hid ebx
  by_cases h : op + n ≤ 1048576
  · have ec : cnt op n = op + n := by unfold cnt; rw [if_pos h]
    rw [ec]
    obtain ⟨V2, e2⟩ : ∃ V2, V2 = V1.setCell ⟨bx, 8, none⟩ (.int .i64 (op + n)) := ⟨_, rfl⟩
    have R2 : Hid (V2.heap[bx]? = some (.cells (dcs nx (op + n) lv bg sm ls) 29 (0, 0))) := by
      show _ = _
      rw [e2, setCell_eq_setRow _ _ _ _ _ _ _ r1]
      exact setRow_heap _ _ _ _ _ _ r1
    have Q2 : Hid (V2.heap[bx + 1]? = some (.cells zst 29 (0, 0))) := by
      show _ = _
      rw [e2, heap_setCell_other _ _ _ _ (by simp)]
      exact q1
    have X2 : Hid (Ext w V2) := by show Ext _ _; rw [e2]; exact X1.out.setCell (by show _ ≤ bx; omega) _
    have E2 := hid e2
    have FIN : Hid (Ext w (V2.setRow (bx + 1) (dcs nx (op + n) lv bg sm ls)) ∧ (V2.setRow (bx + 1) (dcs nx (op + n) lv bg sm ls)).heap[bx + 1]? = some (.cells (dcs nx (op + n) lv bg sm ls) 29 (0, 0))) := ⟨X2.out.setRow (by omega) _, setRow_heap _ _ _ _ _ _ Q2.out⟩
    have ONE := hid (dcs_one nx (op + n) lv bg sm ls hl)
    clear e0 e1 e2 x0 x1 r0 r1 q1 sz ebx ec R1 Q1 X1 X2
    go_enter Try.func27, Try.ntmps27
    go_wp2_with (first
      | rw [← EB.out, ← E1.out]
      | rw [← E2.out]
      | refine wpList_load_row rfl 29 (.tmp 2) rfl bx rfl 29 _ (0, 0) _ R2.out Try.underlying29 rfl (by rw [dcs_size]; exact size_st) ?_
      | refine wpList_store_row rfl 29 (.tmp 4) (.tmp 15) rfl (bx + 1) _ rfl rfl 29 _ Q2.out (by rw [dcs_size]; exact size_st) rfl ONE.out ?_)
    try simp only [Act.put, List.setIfInBounds_toArray, List.set_cons_zero, List.set_cons_succ]
    refine bodyPost_ret (results_cell_row Try.results27 _ _ (bx + 1) 29 _ (0, 0) _ rfl FIN.out.2 Try.underlying29 rfl (by rw [dcs_size]; exact size_st)) rfl ?_
    exact ⟨rfl, FIN.out.1⟩
  · have ec : cnt op n = op := by unfold cnt; rw [if_neg h]
    rw [ec]
    have FIN : Hid (Ext w (V1.setRow (bx + 1) (dcs nx op lv bg sm ls)) ∧ (V1.setRow (bx + 1) (dcs nx op lv bg sm ls)).heap[bx + 1]? = some (.cells (dcs nx op lv bg sm ls) 29 (0, 0))) := ⟨X1.out.setRow (by omega) _, setRow_heap _ _ _ _ _ _ q1⟩
    have ONE := hid (dcs_one nx op lv bg sm ls hl)
    clear e0 e1 x0 x1 r0 r1 q1 sz ebx ec X1
    go_enter Try.func27, Try.ntmps27
    go_wp2_with (first
      | rw [← EB.out, ← E1.out]
      | refine wpList_load_row rfl 29 (.tmp 2) rfl bx rfl 29 _ (0, 0) _ R1.out Try.underlying29 rfl (by rw [dcs_size]; exact size_st) ?_
      | refine wpList_store_row rfl 29 (.tmp 4) (.tmp 15) rfl (bx + 1) _ rfl rfl 29 _ Q1.out (by rw [dcs_size]; exact size_st) rfl ONE.out ?_)
    try simp only [Act.put, List.setIfInBounds_toArray, List.set_cons_zero, List.set_cons_succ]
    refine bodyPost_ret (results_cell_row Try.results27 _ _ (bx + 1) 29 _ (0, 0) _ rfl FIN.out.2 Try.underlying29 rfl (by rw [dcs_size]; exact size_st)) rfl ?_
    exact ⟨rfl, FIN.out.1⟩
end Go.Proofs.Ytlglhggfhlpbjaa.Det

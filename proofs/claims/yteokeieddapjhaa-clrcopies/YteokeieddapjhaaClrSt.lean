/-
  The reference's state as it lies in cells: 64 places of three cells, and the CLR.
-/
import Derived.Test.YteokeieddapjhaaClrMem
import Derived.Test.YteokeieddapjhaaStoreCore
namespace Go.Proofs.Yteokeieddapjhaa.Clr
set_option linter.unusedVariables false
set_option linter.unusedSimpArgs false
set_option maxRecDepth 100000
open Go.RowKit Go.Lib

/-- a place's cells -/
def sl : Slot → List Value
  | none => [.bool false, .int .i64 0, .int .u64 0]
  | some q => [.bool true, .int .i64 q.1, .int .u64 q.2]
theorem sl_length (y : Slot) : (sl y).length = 3 := by cases y <;> rfl
theorem encS : Enc sl 3 := ⟨by decide, sl_length, fun x u h => by
  cases x with
  | none =>
    simp only [sl, List.mem_cons, List.not_mem_nil, or_false] at h
    rcases h with rfl | rfl | rfl <;> rfl
  | some q =>
    simp only [sl, List.mem_cons, List.not_mem_nil, or_false] at h
    rcases h with rfl | rfl | rfl <;> rfl⟩
def dl (D : List Slot) (c : Int) : List Value := fcells sl D ++ [.int .i64 c]
def dc (D : List Slot) (c : Int) : Array Value := (dl D c).toArray
def dcs (s : BS) : Array Value := dc s.1 (clr s)
theorem dl_length (D : List Slot) (c : Int) (h : D.length = 64) : (dl D c).length = 193 := by
  unfold dl
  rw [List.length_append, fcells_length encS, h]
  rfl
theorem dc_size (D : List Slot) (c : Int) (h : D.length = 64) : (dc D c).size = 193 := by
  unfold dc
  rw [List.size_toArray, dl_length D c h]
theorem dc_one (D : List Slot) (c : Int) : (dc D c).all (·.oneCell') = true := by
  unfold dc
  rw [List.all_toArray, List.all_eq_true]
  intro u hu
  unfold dl at hu
  rcases List.mem_append.1 hu with h | h
  · exact fcells_one encS D u h
  · simp only [List.mem_cons, List.not_mem_nil, or_false] at h
    rw [h]
    rfl
theorem dc_clr (D : List Slot) (c : Int) (h : D.length = 64) : (dc D c)[192]? = some (.int .i64 c) := by
  unfold dc dl
  rw [List.getElem?_toArray, List.getElem?_append_right (by rw [fcells_length encS, h]; decide), fcells_length encS, h]
  rfl
theorem sat_get {D : List Slot} {k : Nat} (hk : k < D.length) : D[k]? = some (sat D k) := by
  unfold sat
  rw [List.getElem?_eq_getElem hk]
  rfl
theorem dc_at (D : List Slot) (c : Int) {k j : Nat} (hk : k < D.length) (hj : j < 3) : (dc D c)[k * 3 + j]? = (sl (sat D k))[j]? := by
  unfold dc dl
  have := fcells_at encS (sat_get hk) hj
  rw [List.getElem?_toArray, List.getElem?_append_left (by rw [fcells_length encS]; omega), this]
theorem dl_put (D : List Slot) (c : Int) {k : Nat} (y : Slot) (hk : k < D.length) : splice (dl D c) (k * 3) (sl y) = dl (D.set k y) c := by
  unfold dl
  rw [fcells_set encS D k y hk]
  unfold splice
  have l1 := fcells_length encS D
  have l2 := sl_length y
  rw [List.take_append_of_le_length (by omega), List.drop_append_of_le_length (by omega)]
  simp only [List.append_assoc]
theorem dc_who (D : List Slot) (c c' : Int) (h : D.length = 64) : (dc D c).setIfInBounds 192 (.int .i64 c') = dc D c' := by
  unfold dc dl
  have l1 : (fcells sl D).length = 192 := by rw [fcells_length encS, h]
  rw [List.setIfInBounds_toArray, List.set_append_right _ _ (by omega), l1]
  rfl
def dz : Array Value := dc (List.replicate 64 none) 0
theorem dz_size : dz.size = 193 := dc_size _ _ (by simp)
theorem zero_st : (Try.prog.info? 33).map (·.zero) = some (some (.agg dz)) := by kernel_rfl
theorem size_st : (Try.prog.info? 33).map (·.size) = some 193 := by kernel_rfl
theorem size_sl (y : Slot) : (Try.prog.info? 30).map (·.size) = some (sl y).length := by rw [sl_length]; kernel_rfl

/-- a new variable of a type whose zero value is known -/
theorem wpList_alloc_zero {P : Program} {ops : Array Oper} {rest : List Oper} {o : Oper} {a : Act} {w : World} {Q : Exit → Act → World → Prop} (hg : o.guard = none) (t : TypeId) (ho : o.op = .alloc t) (z : Array Value) (hz : (P.info? t).map (·.zero) = some (some (.agg z)))
    (h : wpList P ops Q rest (a.put o.dst (.pointer (some ⟨w.heap.size, 0, none⟩))) (w.alloc (.cells z t))) : wpList P ops Q (o :: rest) a w := by
  cases hi : P.info? t with
  | none => simp [hi] at hz
  | some i =>
    have hz' : i.zero = some (.agg z) := by simpa [hi] using hz
    refine wpList_plain hg fun K hK => ?_
    unfold Oper.wp execOp
    simp [ho, Instr.alloc, zeroValue, typeInfo, hi, hz', newVar, newRow, Value.cells, Sem.run_bind, Sem.run_pure, Result.andThen_ok]
    exact hK _ _ h

/-- a state's box, a result's box behind it -/
def Sx (w V : World) (bx : Nat) (D : List Slot) (c : Int) : Prop := V.heap[bx]? = some (.cells (dc D c) 33 (0, 0)) ∧ V.heap[bx + 1]? = some (.cells dz 33 (0, 0)) ∧ Ext w V ∧ w.heap.size ≤ bx ∧ D.length = 64
theorem Sx.at {w V : World} {bx : Nat} {D : List Slot} {c : Int} (h : Sx w V bx D c) {k : Nat} (hk : k < 64) : ∀ j u, (sl (sat D k))[j]? = some u → V.cell? ⟨bx, k * 3 + j, none⟩ = some u := by
  intro j u e
  have hj : j < 3 := by rw [← sl_length (sat D k)]; exact (List.getElem?_eq_some_iff.1 e).1
  rw [cell_of_row _ _ (k * 3 + j) _ _ _ h.1, dc_at D c (by rw [h.2.2.2.2]; exact hk) hj, e]
theorem Sx.clr {w V : World} {bx : Nat} {D : List Slot} {c : Int} (h : Sx w V bx D c) : V.cell? ⟨bx, 192, none⟩ = some (.int .i64 c) := by rw [cell_of_row _ _ 192 _ _ _ h.1, dc_clr D c h.2.2.2.2]
theorem Sx.free {w V : World} {bx : Nat} {D : List Slot} {c : Int} (h : Sx w V bx D c) (i : Nat) : V.frozen? ⟨bx, i, none⟩ = false := frozen_of_row _ _ _ _ _ h.1
theorem Sx.who {w V : World} {bx : Nat} {D : List Slot} {c : Int} (h : Sx w V bx D c) (c' : Int) : Sx w (V.setCell ⟨bx, 192, none⟩ (.int .i64 c')) bx D c' := by
  refine ⟨?_, ?_, h.2.2.1.setCell (by exact h.2.2.2.1) _, h.2.2.2⟩
  · rw [setCell_eq_setRow _ _ _ _ _ _ _ h.1, dc_who D c c' h.2.2.2.2]
    exact setRow_heap _ _ _ _ _ _ h.1
  · rw [heap_setCell_other _ _ _ _ (by simp)]
    exact h.2.1
/-- one place written anew -/
theorem Sx.put {w V : World} {bx : Nat} {D : List Slot} {c : Int} (h : Sx w V bx D c) {k : Nat} (hk : k < 64) (y : Slot) :
    (Instr.storeAt 30 (.pointer (some ⟨bx, k * 3, none⟩)) (.agg (sl y).toArray)).run Try.prog V = .ok () (V.setRow bx (dc (D.set k y) c)) ∧ Sx w (V.setRow bx (dc (D.set k y) c)) bx (D.set k y) c := by
  have hd : k < D.length := by rw [h.2.2.2.2]; exact hk
  have st := store_part V bx (k * 3) 30 33 (sl y) (dl D c) h.1 (size_sl y) (by rw [sl_length, dl_length D c h.2.2.2.2]; omega) (fun v hv => encS.2.2 y v hv)
  rw [dl_put D c y hd] at st
  refine ⟨st, setRow_heap _ _ _ _ _ _ h.1, ?_, h.2.2.1.setRow h.2.2.2.1 _, h.2.2.2.1, by rw [List.length_set]; exact h.2.2.2.2⟩
  rw [setRow_other _ _ _ _ (by omega)]
  exact h.2.1
/-- the result's box written -/
theorem Sx.done {w V : World} {bx : Nat} {D : List Slot} {c : Int} (h : Sx w V bx D c) (r : Array Value) : Ext w (V.setRow (bx + 1) r) ∧ (V.setRow (bx + 1) r).heap[bx + 1]? = some (.cells r 33 (0, 0)) := ⟨h.2.2.1.setRow (by have := h.2.2.2.1; omega) _, setRow_heap _ _ _ _ _ _ h.2.1⟩
theorem boxes (w : World) (D : List Slot) (c : Int) (hD : D.length = 64) : ∃ (V : World) (bx : Nat), V = (w.alloc (.cells (dc D c) 33)).alloc (.cells dz 33) ∧ bx = w.heap.size ∧ Sx w V bx D c := by
  refine ⟨_, _, rfl, rfl, ((Ext.refl _).alloc _).row (heap_alloc_new w _), ?_, ((Ext.refl w).alloc _).alloc _, Nat.le_refl _, hD⟩
  have := heap_alloc_new (w.alloc (.cells (dc D c) 33)) (.cells dz 33)
  rw [World.size_alloc] at this
  exact this
end Go.Proofs.Yteokeieddapjhaa.Clr

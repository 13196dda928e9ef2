/-
  What one step of both does; the boxes of the statements' step. (Printed by wip/gen/clrstep.py.)
-/
import Derived.Test.YteokeieddapjhaaClrPlay
import Derived.Test.YteokeieddapjhaaClrRef
import Derived.Test.YteokeieddapjhaaClrRefT
namespace Go.Proofs.Yteokeieddapjhaa.Clr
set_option linter.unusedVariables false
set_option linter.unusedSimpArgs false
set_option maxRecDepth 100000
open Go.RowKit Go.Lib

def clamp (y : Int) : Int := min (max y (-2199023255552)) 2199023255552
/-- a book behind one call -/
def bst (s : BS) (lim now : Int) (o : OpS) : BS :=
  if o.1 = 1 then (btake s lim o.2.1 (now - clamp o.2.2.1) o.2.2.2.2 now).1 else if o.1 = 2 then (bleave s o.2.1).1 else if o.1 = 3 then (bpass s lim now).1 else s
theorem fit_bst {s : BS} (h : FitB s) (lim now : Int) (o : OpS) : FitB (bst s lim now o) := by
  unfold bst
  split
  · exact fit_take h _ _ _ _ _
  · split
    · exact fit_leave h _
    · split
      · exact fit_pass h _ _
      · exact h

theorem store_whole (w : World) (g : Nat) (D : List Slot) (c : Int) (h : w.heap[g]? = some (.cells dz 33 (0, 0))) (hD : D.length = 64) : (Instr.storeAt 33 (.pointer (some ⟨g, 0, none⟩)) (.agg (dc D c))).run Try.prog w = .ok () (w.setRow g (dc D c)) := by
  have l1 := dl_length D c hD
  have l2 := dl_length (List.replicate 64 none) 0 (by simp)
  have st := store_part w g 0 33 33 (dl D c) (dl (List.replicate 64 none) 0) h (by rw [l1]; exact size_st) (by rw [l1, l2]; omega) (fun v hv => by
    have := dc_one D c
    unfold dc at this
    rw [List.all_toArray, List.all_eq_true] at this
    exact this v hv)
  have e : splice (dl (List.replicate 64 none) 0) 0 (dl D c) = dl D c := by
    unfold splice
    rw [List.take_zero, List.nil_append, Nat.zero_add, l1, ← l2, List.drop_length, List.append_nil]
  rw [e] at st
  exact st

/-- the boxes of one step: the reference's state, the call, the result -/
def Sb (w V : World) (p : Nat) (D : List Slot) (c : Int) (o : OpS) : Prop := V.heap[p]? = some (.cells (dc D c) 33 (0, 0)) ∧ V.heap[p + 1]? = some (.cells (ocs o) 36 (0, 0)) ∧ V.heap[p + 2]? = some (.cells dz 33 (0, 0)) ∧ Ext w V ∧ w.heap.size ≤ p ∧ D.length = 64
theorem Sb.ext {w V V' : World} {p : Nat} {D : List Slot} {c : Int} {o : OpS} (h : Sb w V p D c o) (e : Ext V V') : Sb w V' p D c o := ⟨e.row h.1, e.row h.2.1, e.row h.2.2.1, h.2.2.2.1.trans e, h.2.2.2.2⟩
theorem sboxes (w : World) (D : List Slot) (c : Int) (o : OpS) (hD : D.length = 64) : ∃ (V : World) (p : Nat), V = ((w.alloc (.cells (dc D c) 33)).alloc (.cells (ocs o) 36)).alloc (.cells dz 33) ∧ p = w.heap.size ∧ Sb w V p D c o := by
  refine ⟨_, _, rfl, rfl, ?_, ?_, ?_, (((Ext.refl w).alloc _).alloc _).alloc _, Nat.le_refl _, hD⟩
  · exact (((Ext.refl _).alloc _).alloc _).row (heap_alloc_new w _)
  · have := heap_alloc_new (w.alloc (.cells (dc D c) 33)) (.cells (ocs o) 36)
    rw [World.size_alloc] at this
    exact ((Ext.refl _).alloc _).row this
  · have := heap_alloc_new ((w.alloc (.cells (dc D c) 33)).alloc (.cells (ocs o) 36)) (.cells dz 33)
    rw [World.size_alloc, World.size_alloc] at this
    exact this
/-- a result laid into a new box -/
theorem newboxS (V : World) (D : List Slot) (c : Int) : ∃ (V4 V5 : World) (g : Nat), V4 = V.alloc (.cells dz 33) ∧ g = V.heap.size ∧ V5 = V4.setRow g (dc D c) ∧ V4.heap[g]? = some (.cells dz 33 (0, 0)) ∧ V5.heap[g]? = some (.cells (dc D c) 33 (0, 0)) ∧ Ext V V5 := by
  have r : (V.alloc (.cells dz 33)).heap[V.heap.size]? = some (.cells dz 33 (0, 0)) := heap_alloc_new V _
  exact ⟨_, _, _, rfl, rfl, rfl, r, setRow_heap _ _ _ _ _ _ r, ((Ext.refl V).alloc _).setRow (Nat.le_refl _) _⟩
/-- the result's box is written: what is left -/
theorem fin_box {K : Nat → Prop} {w W w' : World} {b p : Nat} {lim : Int} {s : BS} (hK : ∀ i, K i → i < w.heap.size) (hb : Bk (fun i => K i ∨ (w.heap.size ≤ i ∧ i < W.heap.size)) w' b lim s) (k : Kept (fun i => K i ∨ (w.heap.size ≤ i ∧ i < W.heap.size)) W w') (x : Ext w W) (hp : w.heap.size ≤ p) (hr : W.heap[p]? = some (.cells dz 33 (0, 0))) (r : Array Value) :
    w'.heap[p]? = some (.cells dz 33 (0, 0)) ∧ (w'.setRow p r).heap[p]? = some (.cells r 33 (0, 0)) ∧ Bk K (w'.setRow p r) b lim s ∧ Kept K w (w'.setRow p r) := by
  have hpl := lt_of_row hr
  have r1 := k.row (g := p) (.inr ⟨hp, hpl⟩) hr
  have k2 : Kept (fun i => i ≠ p) w' (w'.setRow p r) := (Kept.refl _ w').setRow (fun hne => hne rfl) _
  have kw : Kept K w w' := (Kept.of_ext x).trans (k.mono (fun i hi => .inl hi))
  refine ⟨r1, setRow_heap _ _ _ _ _ _ r1, (hb.kept (k2.mono (fun i hi e => hi (e ▸ .inr ⟨hp, hpl⟩)))).less (fun i hi => .inl hi), kw.trans (k2.mono (fun i hi e => by have := hK i hi; omega))⟩
end Go.Proofs.Yteokeieddapjhaa.Clr

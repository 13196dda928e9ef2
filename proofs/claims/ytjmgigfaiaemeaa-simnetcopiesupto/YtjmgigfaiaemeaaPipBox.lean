/-
  Boxes side by side; what the loop of the statements' take holds between two rounds.
-/
import Derived.Test.YtjmgigfaiaemeaaPipLaw
import Derived.Test.YtjmgigfaiaemeaaPipRef
import Derived.Test.YtjmgigfaiaemeaaMCore
namespace Go.Proofs.Ytjmgigfaiaemeaa.Pip
set_option linter.unusedVariables false
set_option maxRecDepth 100000
open Go.RowKit Go.Lib Go.Shelf

/-- blocks side by side, each written out -/
def Rows9 (h0 : Nat) (W : World) (rs : List (Array Value × TypeId)) : Prop := ∀ j r, rs[j]? = some r → W.heap[h0 + j]? = some (.cells r.1 r.2 (0, 0))
theorem Rows9.set {h0 : Nat} {W : World} {rs : List (Array Value × TypeId)} (h : Rows9 h0 W rs) (j i : Nat) (r : Array Value × TypeId) (hj : rs[j]? = some r) (v : Value) : Rows9 h0 (W.setCell ⟨h0 + j, i, none⟩ v) (rs.set j (r.1.setIfInBounds i v, r.2)) := by
  intro q s hs
  by_cases e : q = j
  · subst e
    rw [List.getElem?_set_self (List.getElem?_eq_some_iff.1 hj).1] at hs
    cases hs
    rw [setCell_eq_setRow _ _ _ _ _ _ _ (h q r hj)]
    exact setRow_heap _ _ _ _ _ _ (h q r hj)
  · rw [List.getElem?_set_ne (fun e2 => e e2.symm)] at hs
    rw [heap_setCell_other _ _ _ _ (by show h0 + q ≠ h0 + j; omega)]
    exact h q s hs
theorem Rows9.kept {K : Nat → Prop} {h0 : Nat} {W W' : World} {rs : List (Array Value × TypeId)} (h : Rows9 h0 W rs) (k : Kept K W W') (hK : ∀ j, j < rs.length → K (h0 + j)) : Rows9 h0 W' rs := fun j r hj => k.row (hK j (List.getElem?_eq_some_iff.1 hj).1) (h j r hj)
theorem Rows9.cell {h0 : Nat} {W : World} {rs : List (Array Value × TypeId)} (h : Rows9 h0 W rs) (j i : Nat) (r : Array Value × TypeId) (hj : rs[j]? = some r) (v : Value) (hi : r.1[i]? = some v) : W.cell? ⟨h0 + j, i, none⟩ = some v := by rw [cell_of_row W _ i _ _ _ (h j r hj), hi]
theorem Rows9.free {h0 : Nat} {W : World} {rs : List (Array Value × TypeId)} (h : Rows9 h0 W rs) (j i : Nat) (r : Array Value × TypeId) (hj : rs[j]? = some r) : W.frozen? ⟨h0 + j, i, none⟩ = false := frozen_of_row _ _ _ _ _ (h j r hj)

theorem alloc5 (w : World) (o0 o1 o2 o3 o4 : Obj) : ∀ j o, [o0, o1, o2, o3, o4][j]? = some o → (((((w.alloc o0).alloc o1).alloc o2).alloc o3).alloc o4).heap[w.heap.size + j]? = some o := by
  intro j o h
  have y4 := fun (W : World) => (Ext.refl W).alloc o4
  have y3 := fun (W : World) => (Ext.refl W).alloc o3
  have y2 := fun (W : World) => (Ext.refl W).alloc o2
  have y1 := fun (W : World) => (Ext.refl W).alloc o1
  match j, h with
  | 0, h => cases h; exact (y4 _).row ((y3 _).row ((y2 _).row ((y1 _).row (heap_alloc_new w _))))
  | 1, h => cases h; exact (y4 _).row ((y3 _).row ((y2 _).row (heap_alloc2_new w _ _)))
  | 2, h => cases h; have := heap_alloc_new ((w.alloc o0).alloc o1) o2; rw [World.size_alloc, World.size_alloc] at this; exact (y4 _).row ((y3 _).row this)
  | 3, h => cases h; have := heap_alloc_new (((w.alloc o0).alloc o1).alloc o2) o3; rw [World.size_alloc, World.size_alloc, World.size_alloc] at this; exact (y4 _).row this
  | 4, h => cases h; have := heap_alloc_new ((((w.alloc o0).alloc o1).alloc o2).alloc o3) o4; rw [World.size_alloc, World.size_alloc, World.size_alloc, World.size_alloc] at this; exact this
  | j + 5, h => simp at h

/-- where a list's row may lie: in K, and in no box -/
def Off (h0 m : Nat) (K : Nat → Prop) : Nat → Prop := fun i => K i ∧ (i < h0 ∨ h0 + m ≤ i)

/-- the bytes of a message, written over: nothing else is turned -/
def Wet (s : Sl) (n : Nat) (W V : World) : Prop :=
  Kept (fun i => (sval s).ownBlock ≠ some i) W V ∧ KeepsOthers W V ∧ V.heap.size = W.heap.size ∧ (∀ K' b room v ml, (∀ i, (sval s).ownBlock = some i → K' i) → PipU K' W b room v ml → PipU K' V b room v ml) ∧
    s.2.1 = n ∧ ∀ j, j < n → ∃ g x, s.1 = some ⟨g, 0, none⟩ ∧ V.cell? ⟨g, j, none⟩ = some (.int .u8 x) ∧ V.frozen? ⟨g, j, none⟩ = false
theorem wet_start {s : Sl} {t : List UInt8} {W : World} (h : OwnB W (sval s) t) : Wet s t.length W W := by
  refine ⟨Kept.refl _ W, KeepsOthers.refl W, rfl, fun _ _ _ _ _ _ u => u, ?_, fun j hj => ?_⟩
  · obtain ⟨s', e, h2⟩ := h.slice
    have : s = s' := by
      obtain ⟨a, b, c⟩ := s
      obtain ⟨a', b', c'⟩ := s'
      simp only [sval, Value.slice.injEq] at e
      obtain ⟨rfl, rfl, rfl⟩ := e
      rfl
    rw [this]; exact h2
  · rcases h.2 with ⟨e, h0⟩ | ⟨g, cap, cur, e, hb, hg, hnc, hcm, hcs, htake⟩
    · omega
    · have e1 : s.1 = some ⟨g, 0, none⟩ := by
        simp only [sval, Value.slice.injEq] at e
        exact e.1
      have := bcells_at t j hj
      rw [← htake, List.getElem?_take_of_lt (by omega)] at this
      exact ⟨g, _, e1, by rw [cell_of_row W g j _ _ _ hg]; simpa using this, frozen_of_row _ _ _ _ _ hg⟩
theorem wet_step {s : Sl} {n : Nat} {W V : World} (h : Wet s n W V) {g j : Nat} (hj : j < n) (hs : s.1 = some ⟨g, 0, none⟩) (x : Int) : Wet s n W (V.setCell ⟨g, j, none⟩ (.int .u8 x)) := by
  obtain ⟨a1, a2, a3, a4, a5, a6⟩ := h
  have own : (sval s).ownBlock = some g := by
    obtain ⟨q1, q2, q3⟩ := s
    simp only at hs
    subst hs
    rfl
  refine ⟨a1.setCell (p := ⟨g, j, none⟩) (fun e => e own) _, a2.trans (KeepsOthers.setCell _ _ _), by rw [← a3]; simp, fun K' b room v ml hK u => (a4 K' b room v ml hK u).cell (hK g own) j _, a5, fun i hi => ?_⟩
  obtain ⟨g', y, e1, e2, e3⟩ := a6 i hi
  rw [hs] at e1
  cases e1
  obtain ⟨g', y', e1', e2', e3'⟩ := a6 j hj
  rw [hs] at e1'
  cases e1'
  refine ⟨g, if i = j then x else y, hs, ?_, by simpa using e3⟩
  by_cases e : i = j
  · subst e
    rw [if_pos rfl]
    exact World.cell?_setCell_same _ _ _ e2'
  · rw [if_neg e, World.cell?_setCell_other _ _ _ _ (fun q => e (by cases q; rfl))]
    exact e2
end Go.Proofs.Ytjmgigfaiaemeaa.Pip

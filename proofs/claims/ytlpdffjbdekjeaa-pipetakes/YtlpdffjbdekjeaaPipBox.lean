/-
  Boxes side by side; what the loop of the statements' take holds between two rounds.
-/
import Derived.Test.YtlpdffjbdekjeaaPipLaw
import Derived.Test.YtlpdffjbdekjeaaPipRef
import Derived.Test.YtlpdffjbdekjeaaRoundRegion
namespace Go.Proofs.Ytlpdffjbdekjeaa
set_option linter.unusedVariables false
set_option maxRecDepth 100000
open Go.RowKit Go.Lib Go.Shelf

/-- blocks side by side, each written out -/
def Rows9 (h0 : Nat) (W : World) (rs : List (Array Value × TypeId)) : Prop := ∀ j r, rs[j]? = some r → W.heap[h0 + j]? = some (.cells r.1 r.2 (0, 0))
theorem Rows9.set {h0 : Nat} {W : World} {rs : List (Array Value × TypeId)} (h : Rows9 h0 W rs) (j i : Nat) (r : Array Value × TypeId) (hj : rs[j]? = some r) (v : Value) : Rows9 h0 (W.setCell ⟨h0 + j, i, none⟩ v) (rs.set j (r.1.setIfInBounds i v, r.2)) := by
  intro q s hs
  by_cases e : q = j
  · subst e
    rw [List.getElem?_set_self (List.getElem?_eq_some_iff.1 hj).1] at hs
    cases hs
    rw [setCell_eq_setRow _ _ _ _ _ _ _ (h q r hj)]
    exact setRow_heap _ _ _ _ _ _ (h q r hj)
  · rw [List.getElem?_set_ne (fun e2 => e e2.symm)] at hs
    rw [heap_setCell_other _ _ _ _ (by show h0 + q ≠ h0 + j; omega)]
    exact h q s hs
theorem Rows9.kept {K : Nat → Prop} {h0 : Nat} {W W' : World} {rs : List (Array Value × TypeId)} (h : Rows9 h0 W rs) (k : Kept K W W') (hK : ∀ j, j < rs.length → K (h0 + j)) : Rows9 h0 W' rs := fun j r hj => k.row (hK j (List.getElem?_eq_some_iff.1 hj).1) (h j r hj)
theorem Rows9.cell {h0 : Nat} {W : World} {rs : List (Array Value × TypeId)} (h : Rows9 h0 W rs) (j i : Nat) (r : Array Value × TypeId) (hj : rs[j]? = some r) (v : Value) (hi : r.1[i]? = some v) : W.cell? ⟨h0 + j, i, none⟩ = some v := by rw [cell_of_row W _ i _ _ _ (h j r hj), hi]
theorem Rows9.free {h0 : Nat} {W : World} {rs : List (Array Value × TypeId)} (h : Rows9 h0 W rs) (j i : Nat) (r : Array Value × TypeId) (hj : rs[j]? = some r) : W.frozen? ⟨h0 + j, i, none⟩ = false := frozen_of_row _ _ _ _ _ (h j r hj)

theorem alloc5 (w : World) (o0 o1 o2 o3 o4 : Obj) : ∀ j o, [o0, o1, o2, o3, o4][j]? = some o → (((((w.alloc o0).alloc o1).alloc o2).alloc o3).alloc o4).heap[w.heap.size + j]? = some o := by
  intro j o h
  have y4 := fun (W : World) => (Ext.refl W).alloc o4
  have y3 := fun (W : World) => (Ext.refl W).alloc o3
  have y2 := fun (W : World) => (Ext.refl W).alloc o2
  have y1 := fun (W : World) => (Ext.refl W).alloc o1
  match j, h with
  | 0, h => cases h; exact (y4 _).row ((y3 _).row ((y2 _).row ((y1 _).row (heap_alloc_new w _))))
  | 1, h => cases h; exact (y4 _).row ((y3 _).row ((y2 _).row (heap_alloc2_new w _ _)))
  | 2, h => cases h; have := heap_alloc_new ((w.alloc o0).alloc o1) o2; rw [World.size_alloc, World.size_alloc] at this; exact (y4 _).row ((y3 _).row this)
  | 3, h => cases h; have := heap_alloc_new (((w.alloc o0).alloc o1).alloc o2) o3; rw [World.size_alloc, World.size_alloc, World.size_alloc] at this; exact (y4 _).row this
  | 4, h => cases h; have := heap_alloc_new ((((w.alloc o0).alloc o1).alloc o2).alloc o3) o4; rw [World.size_alloc, World.size_alloc, World.size_alloc, World.size_alloc] at this; exact this
  | j + 5, h => simp at h

/-- the boxes of take -/
def boxT (xv : Value) (kind at_ N : Int) (tv z0 zb : Value) (k : Int) : List (Array Value × TypeId) :=
  [(#[xv], 29), (#[.int .i64 kind, .int .i64 at_, .int .i64 N, tv], 32), (#[z0], 29), (#[zb], 4), (#[.int .i64 k], 3)]
theorem bT_x {h0 : Nat} {W : World} {xv : Value} {kind at_ N : Int} {tv z0 zb : Value} {k : Int} (h : Rows9 h0 W (boxT xv kind at_ N tv z0 zb k)) (nv : Value) : Rows9 h0 (W.setCell ⟨h0, 0, none⟩ nv) (boxT nv kind at_ N tv z0 zb k) := h.set 0 0 _ rfl nv
theorem bT_z {h0 : Nat} {W : World} {xv : Value} {kind at_ N : Int} {tv z0 zb : Value} {k : Int} (h : Rows9 h0 W (boxT xv kind at_ N tv z0 zb k)) (v : Value) : Rows9 h0 (W.setCell ⟨h0 + 1 + 1, 0, none⟩ v) (boxT xv kind at_ N tv v zb k) := h.set 2 0 _ rfl v
theorem bT_b {h0 : Nat} {W : World} {xv : Value} {kind at_ N : Int} {tv z0 zb : Value} {k : Int} (h : Rows9 h0 W (boxT xv kind at_ N tv z0 zb k)) (v : Value) : Rows9 h0 (W.setCell ⟨h0 + 1 + 1 + 1, 0, none⟩ v) (boxT xv kind at_ N tv z0 v k) := h.set 3 0 _ rfl v
theorem bT_k {h0 : Nat} {W : World} {xv : Value} {kind at_ N : Int} {tv z0 zb : Value} {k : Int} (h : Rows9 h0 W (boxT xv kind at_ N tv z0 zb k)) (k' : Int) : Rows9 h0 (W.setCell ⟨h0 + 1 + 1 + 1 + 1, 0, none⟩ (.int .i64 k')) (boxT xv kind at_ N tv z0 zb k') := h.set 4 0 _ rfl _
theorem bT_cells {h0 : Nat} {W : World} {xv : Value} {kind at_ N : Int} {tv z0 zb : Value} {k : Int} (h : Rows9 h0 W (boxT xv kind at_ N tv z0 zb k)) : W.cell? ⟨h0, 0, none⟩ = some xv ∧ W.cell? ⟨h0 + 1, 1, none⟩ = some (.int .i64 at_) ∧ W.cell? ⟨h0 + 1, 2, none⟩ = some (.int .i64 N) ∧ W.cell? ⟨h0 + 1 + 1, 0, none⟩ = some z0 ∧ W.cell? ⟨h0 + 1 + 1 + 1, 0, none⟩ = some zb ∧ W.cell? ⟨h0 + 1 + 1 + 1 + 1, 0, none⟩ = some (.int .i64 k) :=
  ⟨h.cell 0 0 _ rfl _ rfl, h.cell 1 1 _ rfl _ rfl, h.cell 1 2 _ rfl _ rfl, h.cell 2 0 _ rfl _ rfl, h.cell 3 0 _ rfl _ rfl, h.cell 4 0 _ rfl _ rfl⟩
theorem bT_free {h0 : Nat} {W : World} {xv : Value} {kind at_ N : Int} {tv z0 zb : Value} {k : Int} (h : Rows9 h0 W (boxT xv kind at_ N tv z0 zb k)) : W.frozen? ⟨h0, 0, none⟩ = false ∧ W.frozen? ⟨h0 + 1 + 1, 0, none⟩ = false ∧ W.frozen? ⟨h0 + 1 + 1 + 1, 0, none⟩ = false ∧ W.frozen? ⟨h0 + 1 + 1 + 1 + 1, 0, none⟩ = false :=
  ⟨h.free 0 0 _ rfl, h.free 2 0 _ rfl, h.free 3 0 _ rfl, h.free 4 0 _ rfl⟩

/-- where a list's row may lie: in K, and in no box -/
def Off (h0 m : Nat) (K : Nat → Prop) : Nat → Prop := fun i => K i ∧ (i < h0 ∨ h0 + m ≤ i)

/-- between two rounds -/
def GoesT (K : Nat → Prop) (w : World) (h0 : Nat) (x : Ms) (kind at_ N : Int) (tv : Value) (K' : Nat → Prop) (pre : Ms) (W : World) : Prop :=
  ∃ xv y, Rows9 h0 W (boxT xv kind at_ N tv (.slice none 0 0) (.bool false) (pre.length : Int)) ∧ RowK (Off h0 7 K') W xv 2 (rcells y) ∧ ord x = pre ++ ord y ∧ (∀ p ∈ pre, p.1 ≤ at_) ∧ Kept K w W ∧ (N ≤ 0 ∨ (pre.length : Int) < N)
/-- a round was left -/
def LeftT (K : Nat → Prop) (w : World) (h0 : Nat) (x : Ms) (at_ N : Int) (c : Code) (K' : Nat → Prop) (pre : Ms) (W : World) : Prop :=
  c = .ret ∧ 0 < N ∧ ∃ xv y, RowK (Off h0 7 K') W xv 2 (rcells y) ∧ ord x = pre ++ ord y ∧ (∀ p ∈ pre, p.1 ≤ at_) ∧ Kept K w W ∧ W.heap[h0 + 2]? = some (.cells #[xv] 29 (0, 0)) ∧ W.heap[h0 + 3]? = some (.cells #[.bool true] 4 (0, 0))
theorem goesT_kept {K K6 : Nat → Prop} {w : World} {h0 : Nat} {x : Ms} {kind at_ N : Int} {tv : Value} (hK : ∀ i, K i → K6 i) (h6 : ∀ j, j < 5 → K6 (h0 + j)) (K' : Nat → Prop) (pre : Ms) (W W' : World) (hK' : ∀ i, K6 i → K' i) (h : GoesT K w h0 x kind at_ N tv K' pre W) (k : Kept K' W W') : GoesT K w h0 x kind at_ N tv K' pre W' := by
  obtain ⟨xv, y, a1, a2, a3, a4, a5, a6⟩ := h
  exact ⟨xv, y, a1.kept k (fun j hj => hK' _ (h6 j (by simpa [boxT] using hj))), a2.kept (k.mono (fun i hi => hi.1)), a3, a4, a5.trans (k.mono (fun i hi => hK' _ (hK i hi))), a6⟩
theorem leftT_kept {K K6 : Nat → Prop} {w : World} {h0 : Nat} {x : Ms} {at_ N : Int} (hK : ∀ i, K i → K6 i) (h6 : ∀ j, j < 5 → K6 (h0 + j)) (c : Code) (K' : Nat → Prop) (pre : Ms) (W W' : World) (hK' : ∀ i, K6 i → K' i) (h : LeftT K w h0 x at_ N c K' pre W) (k : Kept K' W W') : LeftT K w h0 x at_ N c K' pre W' := by
  obtain ⟨b1, b2, xv, y, a2, a3, a4, a5, a6, a7⟩ := h
  exact ⟨b1, b2, xv, y, a2.kept (k.mono (fun i hi => hi.1)), a3, a4, a5.trans (k.mono (fun i hi => hK' _ (hK i hi))), k.row (hK' _ (h6 2 (by decide))) a6, k.row (hK' _ (h6 3 (by decide))) a7⟩

/-- the bytes of a message, written over: nothing else is turned -/
def Wet (s : Sl) (n : Nat) (W V : World) : Prop :=
  Kept (fun i => (sval s).ownBlock ≠ some i) W V ∧ KeepsOthers W V ∧ V.heap.size = W.heap.size ∧ (∀ K' b room v ml, (∀ i, (sval s).ownBlock = some i → K' i) → PipU K' W b room v ml → PipU K' V b room v ml) ∧
    s.2.1 = n ∧ ∀ j, j < n → ∃ g x, s.1 = some ⟨g, 0, none⟩ ∧ V.cell? ⟨g, j, none⟩ = some (.int .u8 x) ∧ V.frozen? ⟨g, j, none⟩ = false
theorem wet_start {s : Sl} {t : List UInt8} {W : World} (h : OwnB W (sval s) t) : Wet s t.length W W := by
  refine ⟨Kept.refl _ W, KeepsOthers.refl W, rfl, fun _ _ _ _ _ _ u => u, ?_, fun j hj => ?_⟩
  · obtain ⟨s', e, h2⟩ := h.slice
    have : s = s' := by
      obtain ⟨a, b, c⟩ := s
      obtain ⟨a', b', c'⟩ := s'
      simp only [sval, Value.slice.injEq] at e
      obtain ⟨rfl, rfl, rfl⟩ := e
      rfl
    rw [this]; exact h2
  · rcases h.2 with ⟨e, h0⟩ | ⟨g, cap, cur, e, hb, hg, hnc, hcm, hcs, htake⟩
    · omega
    · have e1 : s.1 = some ⟨g, 0, none⟩ := by
        simp only [sval, Value.slice.injEq] at e
        exact e.1
      have := bcells_at t j hj
      rw [← htake, List.getElem?_take_of_lt (by omega)] at this
      exact ⟨g, _, e1, by rw [cell_of_row W g j _ _ _ hg]; simpa using this, frozen_of_row _ _ _ _ _ hg⟩
theorem wet_step {s : Sl} {n : Nat} {W V : World} (h : Wet s n W V) {g j : Nat} (hj : j < n) (hs : s.1 = some ⟨g, 0, none⟩) (x : Int) : Wet s n W (V.setCell ⟨g, j, none⟩ (.int .u8 x)) := by
  obtain ⟨a1, a2, a3, a4, a5, a6⟩ := h
  have own : (sval s).ownBlock = some g := by
    obtain ⟨q1, q2, q3⟩ := s
    simp only at hs
    subst hs
    rfl
  refine ⟨a1.setCell (p := ⟨g, j, none⟩) (fun e => e own) _, a2.trans (KeepsOthers.setCell _ _ _), by rw [← a3]; simp, fun K' b room v ml hK u => (a4 K' b room v ml hK u).cell (hK g own) j _, a5, fun i hi => ?_⟩
  obtain ⟨g', y, e1, e2, e3⟩ := a6 i hi
  rw [hs] at e1
  cases e1
  obtain ⟨g', y', e1', e2', e3'⟩ := a6 j hj
  rw [hs] at e1'
  cases e1'
  refine ⟨g, if i = j then x else y, hs, ?_, by simpa using e3⟩
  by_cases e : i = j
  · subst e
    rw [if_pos rfl]
    exact World.cell?_setCell_same _ _ _ e2'
  · rw [if_neg e, World.cell?_setCell_other _ _ _ _ (fun q => e (by cases q; rfl))]
    exact e2
end Go.Proofs.Ytlpdffjbdekjeaa

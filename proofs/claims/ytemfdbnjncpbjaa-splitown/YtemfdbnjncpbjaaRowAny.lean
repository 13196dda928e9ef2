/-
  Rows of elements of any type, z cells each: a slice of one's own, elements put behind it, one element read or written anew. (Needs KnownCore alone; says nothing of any package.)
-/
import Derived.Test.YtemfdbnjncpbjaaKnownCore
import Derived.WalkKit
import Derived.Handy
import Derived.OwnWalk
import Derived.Maps.AppendAt
import Derived.Deep.OwnRows
import Derived.Lib.SmallJoins
namespace Go.Proofs.Ytemfdbnjncpbjaa
set_option linter.unusedVariables false
set_option maxRecDepth 100000
open Go.RowKit Go.Lib

/-- an element's cells: z of them, one cell each -/
def Enc {α : Type} (f : α → List Value) (z : Nat) : Prop := 0 < z ∧ (∀ x, (f x).length = z) ∧ ∀ x u, u ∈ f x → u.oneCell' = true

/-- the elements' cells -/
def fcells {α : Type} (f : α → List Value) (l : List α) : List Value := l.flatMap f
theorem fcells_length {α : Type} {f : α → List Value} {z : Nat} (E : Enc f z) (l : List α) : (fcells f l).length = l.length * z := by
  induction l with
  | nil => simp [fcells]
  | cons x l ih =>
    simp only [fcells, List.flatMap_cons, List.length_append, List.length_cons] at ih ⊢
    rw [ih, E.2.1 x, Nat.add_mul]
    omega
theorem fcells_append {α : Type} (f : α → List Value) (a b : List α) : fcells f (a ++ b) = fcells f a ++ fcells f b := by simp [fcells]
theorem fcells_cons {α : Type} (f : α → List Value) (a : α) (b : List α) : fcells f (a :: b) = f a ++ fcells f b := by simp [fcells]
theorem fcells_one {α : Type} {f : α → List Value} {z : Nat} (E : Enc f z) (l : List α) : ∀ u ∈ fcells f l, u.oneCell' = true := by
  intro u hu
  obtain ⟨x, _, h⟩ := List.mem_flatMap.1 hu
  exact E.2.2 x u h
theorem fcells_drop {α : Type} {f : α → List Value} {z : Nat} (E : Enc f z) (l : List α) : ∀ k, fcells f (l.drop k) = (fcells f l).drop (k * z) := by
  induction l with
  | nil => intro k; simp [fcells]
  | cons x l ih =>
    intro k
    cases k with
    | zero => simp
    | succ k =>
      have e : (k + 1) * z = (f x).length + k * z := by rw [E.2.1 x, Nat.add_mul]; omega
      rw [List.drop_succ_cons, ih, fcells_cons, e, ← List.drop_drop, List.drop_left]
theorem fcells_take {α : Type} {f : α → List Value} {z : Nat} (E : Enc f z) (l : List α) : ∀ k, fcells f (l.take k) = (fcells f l).take (k * z) := by
  induction l with
  | nil => intro k; simp [fcells]
  | cons x l ih =>
    intro k
    cases k with
    | zero => simp [fcells]
    | succ k =>
      have e : (k + 1) * z = (f x).length + k * z := by rw [E.2.1 x, Nat.add_mul]; omega
      rw [List.take_succ_cons, fcells_cons, ih, fcells_cons, e, List.take_length_add_append]
theorem fcells_at {α : Type} {f : α → List Value} {z : Nat} (E : Enc f z) {l : List α} {k : Nat} {x : α} (hk : l[k]? = some x) {j : Nat} (hj : j < z) : (fcells f l)[k * z + j]? = (f x)[j]? := by
  obtain ⟨h1, h2⟩ := List.getElem?_eq_some_iff.1 hk
  have h3 : l.drop k = x :: l.drop (k + 1) := by rw [List.drop_eq_getElem_cons h1, h2]
  have h4 := fcells_drop E l k
  rw [h3, fcells_cons] at h4
  rw [← List.getElem?_drop, ← h4, List.getElem?_append_left (by rw [E.2.1]; exact hj)]
theorem fcells_set {α : Type} {f : α → List Value} {z : Nat} (E : Enc f z) (l : List α) (k : Nat) (y : α) (hk : k < l.length) : fcells f (l.set k y) = splice (fcells f l) (k * z) (f y) := by
  unfold splice
  rw [List.set_eq_take_append_cons_drop, if_pos hk, fcells_append, fcells_cons, fcells_take E, fcells_drop E, E.2.1, Nat.add_mul, Nat.one_mul]

/-- ts is the type of slices of t, whose values have z cells -/
def Elems (ts t : TypeId) (z nb : Nat) (zero : Value) : Prop := Try.prog.underlying ts = some (.slice t) ∧ (Try.prog.info? t).map (fun i => (i.zero, i.size, i.bytes)) = some (some zero, z, nb) ∧ zero.cells.size = z ∧ nb ≤ 1000

/-- the elements l lie in a row of one's own -/
def Own {α : Type} (f : α → List Value) (t : TypeId) (z : Nat) (w : World) (v : Value) (l : List α) : Prop := w.ownsRow 0 t z v l.length (fcells f l)
theorem Own.nil {α : Type} (f : α → List Value) (t : TypeId) (z : Nat) (w : World) : Own f t z w (.slice none 0 0) [] := World.ownsRow_nil _ _ _ _
theorem Own.view {α : Type} {f : α → List Value} {t : TypeId} {z : Nat} {w : World} {v : Value} {l : List α} (E : Enc f z) (h : Own f t z w v l) :
    ∃ ao c, v = .slice ao l.length c ∧ l.length ≤ c ∧ c ≤ maxLen ∧ ∀ k x, l[k]? = some x → ∃ g, ao = some ⟨g, 0, none⟩ ∧ ∀ j u, (f x)[j]? = some u → w.cell? ⟨g, k * z + j, none⟩ = some u := by
  have h' := h
  rcases h.2 with ⟨rfl, h0⟩ | ⟨g, cap, cur, rfl, hb, hg, h1, h2, _, ht⟩
  · exact ⟨none, 0, by rw [h0], by omega, Nat.zero_le _, fun k x hk => by have := (List.getElem?_eq_some_iff.1 hk).1; omega⟩
  · refine ⟨_, _, rfl, h1, h2, fun k x hk => ⟨g, rfl, fun j u hu => ?_⟩⟩
    have hj : j < z := by rw [← E.2.1 x]; exact (List.getElem?_eq_some_iff.1 hu).1
    have := World.ownsRow.cells h' (g := g) rfl (k * z + j) u (by rw [fcells_at E hk hj]; exact hu)
    rwa [Addr.add_mid, Nat.zero_add] at this
theorem Own.kept {α : Type} {f : α → List Value} {t : TypeId} {z : Nat} {K : Nat → Prop} {w w' : World} {v : Value} {l : List α} (h : Own f t z w v l) (k : Kept K w w') (hk : ∀ g, v.ownBlock = some g → K g) : Own f t z w' v l := by
  refine ⟨h.1, ?_⟩
  rcases h.2 with hn | ⟨g, cap, cur, rfl, hb, hgg, rest⟩
  · exact .inl hn
  · exact .inr ⟨g, cap, cur, rfl, hb, k.row (hk g rfl) hgg, rest⟩
theorem Own.ext {α : Type} {f : α → List Value} {t : TypeId} {z : Nat} {w w' : World} {v : Value} {l : List α} (h : Own f t z w v l) (e : Ext w w') : Own f t z w' v l := h.kept (K := fun _ => True) (Kept.of_ext e) (fun _ _ => trivial)
theorem Own.grown {α : Type} {f : α → List Value} {t : TypeId} {z : Nat} {w w' : World} {row : Option Nat} {v : Value} {l : List α} (h : Own f t z w v l) (hg : w.grownBy w' row) (hne : v.ownBlock = none ∨ v.ownBlock ≠ row) : Own f t z w' v l := World.ownsRow.kept h hg hne
theorem Own.row {α : Type} {f : α → List Value} {t : TypeId} {z : Nat} {w : World} {v : Value} {l : List α} (h : Own f t z w v l) : RowK (fun i => v.ownBlock = some i) w v z (fcells f l) := by
  rcases h.2 with ⟨rfl, h0⟩ | ⟨g, cap, cur, rfl, hb, hg, h1, h2, _, ht⟩
  · have : l = [] := List.eq_nil_of_length_eq_zero h0
    subst this
    exact RowK.nil _ w z
  · exact ⟨_, _, _, rfl, h.1, h1, h2, fun _ => ⟨g, 0, rfl, rfl, fun j u hu => by
      have := World.ownsRow.cells h (g := g) rfl j u hu
      rwa [Addr.add_mid] at this⟩⟩
theorem Own.lt {α : Type} {f : α → List Value} {t : TypeId} {z : Nat} {w : World} {v : Value} {l : List α} (h : Own f t z w v l) {k : Nat} (hk : v.ownBlock = some k) : k < w.heap.size := (World.ownsRow.lt h k hk).2
/-- a row's block is of the elements' type -/
theorem Own.type {α : Type} {f : α → List Value} {t : TypeId} {z : Nat} {w : World} {v : Value} {l : List α} (h : Own f t z w v l) {k : Nat} (hk : v.ownBlock = some k) : ∃ cur, w.heap[k]? = some (.cells cur t (0, 0)) := by
  rcases h.2 with ⟨rfl, h0⟩ | ⟨g, cap, cur, rfl, hb, hg, _⟩
  · simp [Value.ownBlock] at hk
  · simp only [Value.ownBlock, Option.some.injEq] at hk
    subst hk
    exact ⟨cur, hg⟩
theorem Own.apart {α : Type} {f : α → List Value} {t t' : TypeId} {z : Nat} {w : World} {v : Value} {l : List α} (h : Own f t z w v l) {k : Nat} {cs : Array Value} {fr : Nat × Nat} (hk : w.heap[k]? = some (.cells cs t' fr)) (ne : t ≠ t') : v.ownBlock ≠ some k := by
  intro e
  obtain ⟨cur, hc⟩ := h.type e
  rw [hc] at hk
  simp at hk
  exact ne hk.2.1

/-- a row's block -/
theorem Own.at {α : Type} {f : α → List Value} {t : TypeId} {z : Nat} {w : World} {v : Value} {l : List α} (h : Own f t z w v l) : (v = .slice none 0 0 ∧ l = []) ∨
    ∃ g cap L, v = .slice (some ⟨g, 0, none⟩) l.length cap ∧ w.heap[g]? = some (.cells (List.toArray L) t (0, 0)) ∧ l.length ≤ cap ∧ cap ≤ maxLen ∧ L.length = cap * z ∧ L.take (l.length * z) = fcells f l := by
  rcases h.2 with ⟨rfl, h0⟩ | ⟨g, cap, cur, rfl, hb, hg, h1, h2, h3, h4⟩
  · exact .inl ⟨rfl, List.eq_nil_of_length_eq_zero h0⟩
  · exact .inr ⟨g, cap, cur.toList, rfl, by rw [Array.toArray_toList]; exact hg, h1, h2, by rw [Array.length_toList]; exact h3, h4⟩
/-- an empty row just made -/
theorem Own.made {α : Type} (f : α → List Value) (t : TypeId) (z : Nat) (w : World) : Own f t z (w.alloc (.cells #[] t)) (.slice (some ⟨w.heap.size, 0, none⟩) 0 0) ([] : List α) :=
  World.ownsRow_made w #[] 0 (Nat.zero_le _) (Nat.zero_le _) (by simp)

/-- elements put behind a row of one's own -/
theorem append_rows {α : Type} {f : α → List Value} {ts t : TypeId} {z nb : Nat} {zero : Value} (T : Elems ts t z nb zero) (E : Enc f z) (ty : TypeId) (w : World) (v : Value) (xs : List α) (hown : Own f t z w v xs) {K : Nat → Prop} (u : Value) (ys : List α) (hu : RowK K w u z (fcells f ys)) (hl : xs.length + ys.length ≤ 100000) :
    ∃ v' w', (Builtin.append_ #[ts, ts] ty #[v, u]).run Try.prog w = .ok v' w' ∧ Own f t z w' v' (xs ++ ys) ∧ w.grownBy w' v.ownBlock ∧ (v'.ownBlock = v.ownBlock ∨ v'.ownBlock = some w.heap.size) := by
  obtain ⟨T1, T2, T3, T4⟩ := T
  obtain ⟨i0, hi, hz0, hz1, hz2⟩ := info_parts T2
  obtain ⟨ao, n, c, rfl, h1, h2, h3, h4⟩ := hu
  rw [fcells_length E] at h1
  obtain rfl : ys.length = n := Nat.eq_of_mul_eq_mul_right E.1 h1
  rcases Nat.eq_zero_or_pos ys.length with h0 | h0
  · have e : ys = [] := List.eq_nil_of_length_eq_zero h0
    subst e
    rw [List.append_nil]
    refine ⟨v, w, ?_, hown, ⟨rfl, rfl, rfl, Nat.le_refl _, fun _ _ _ => rfl⟩, .inl rfl⟩
    rcases hown.2 with ⟨rfl, _⟩ | ⟨g, cap, cur, rfl, _, _, hnc, _⟩
    · cases ao <;> simp [Builtin.append_, run_underlying T1, sizeOf, typeInfo, hi, Builtin.lenOf, Builtin.firstCells, loadCells, loadCellsFrom]
    · cases ao <;> simp [Builtin.append_, run_underlying T1, sizeOf, typeInfo, hi, Builtin.lenOf, Builtin.firstCells, loadCells, loadCellsFrom, hnc, storeCells]
  · obtain ⟨g, o, rfl, _, hc⟩ := h4 h0
    have hb : (xs.length + ys.length) * nb ≤ 140737488355328 := Nat.le_trans (Nat.mul_le_mul hl T4) (by decide)
    obtain ⟨v', w', r, ow, gb, _, hv⟩ := run_append_own_at (P := Try.prog) w 0 ts ty t i0 zero z nb T1 hi hz0 hz1 hz2 T3 E.1 v xs.length (fcells f xs) hown ⟨g, o, none⟩ ys.length c (fcells f ys) (fcells_length E ys) (fun j u hu => by rw [Addr.add_mid]; exact hc j u hu) (fcells_one E ys) (by unfold maxLen; omega) hb (Nat.zero_le _)
    refine ⟨v', w', r, ?_, gb, hv⟩
    unfold Own
    rw [List.length_append, fcells_append]
    exact ow

/-- one element, as a row just laid -/
theorem one_row {α : Type} {f : α → List Value} {z : Nat} (E : Enc f z) (t : TypeId) (w : World) (x : α) : RowK (fun i => i = w.heap.size) (w.alloc (.cells (f x).toArray t)) (.slice (some ⟨w.heap.size, 0, none⟩) 1 1) z (fcells f [x]) := by
  refine ⟨_, _, _, rfl, by rw [fcells_length E]; simp, Nat.le_refl _, by unfold maxLen; omega, fun _ => ⟨w.heap.size, 0, rfl, rfl, fun j u hu => ?_⟩⟩
  rw [Nat.zero_add, cell_of_row _ _ j _ _ _ (heap_alloc_new w _), List.getElem?_toArray]
  simpa [fcells] using hu

theorem Ext.by_row {w0 w w' : World} {row : Option Nat} (h : Ext w0 w) (hg : w.grownBy w' row) (hrow : ∀ k, row = some k → w0.heap.size ≤ k) : Ext w0 w' := Below.grown h hg h.size hrow

/-- elements that the walk puts one behind the other: where they lie is new since w -/
def NewR {α : Type} (f : α → List Value) (t : TypeId) (z : Nat) (w wr : World) (v : Value) (l : List α) : Prop := Own f t z wr v l ∧ (∀ k, v.ownBlock = some k → w.heap.size ≤ k) ∧ Ext w wr
theorem NewR.nil {α : Type} (f : α → List Value) (t : TypeId) (z : Nat) (w : World) : NewR f t z w w (.slice none 0 0) ([] : List α) := ⟨Own.nil f t z w, fun k hk => by simp [Value.ownBlock] at hk, Ext.refl w⟩
theorem NewR.ext {α : Type} {f : α → List Value} {t : TypeId} {z : Nat} {w wr w' : World} {v : Value} {l : List α} (h : NewR f t z w wr v l) (e : Ext wr w') : NewR f t z w w' v l := ⟨h.1.ext e, h.2.1, h.2.2.trans e⟩
theorem NewR.slice {α : Type} {f : α → List Value} {t : TypeId} {z : Nat} {w wr : World} {v : Value} {l : List α} (h : NewR f t z w wr v l) : ∃ ao c, v = .slice ao l.length c ∧ l.length ≤ c ∧ c ≤ maxLen := by
  rcases h.1.2 with ⟨rfl, h0⟩ | ⟨g, cap, cur, rfl, hb, hg, h1, h2, _⟩
  · exact ⟨none, 0, by rw [h0], by omega, Nat.zero_le _⟩
  · exact ⟨_, _, rfl, h1, h2⟩
theorem NewR.row {α : Type} {f : α → List Value} {t : TypeId} {z : Nat} {w wr : World} {v : Value} {l : List α} (E : Enc f z) (h : NewR f t z w wr v l) : RowK (fun i => w.heap.size ≤ i ∧ i < wr.heap.size) wr v z (fcells f l) :=
  h.1.row.mono E.1 fun i hi hk => ⟨h.2.1 i hk, hi⟩
theorem NewR.put {α : Type} {f : α → List Value} {ts t : TypeId} {z nb : Nat} {zero : Value} (T : Elems ts t z nb zero) (E : Enc f z) (ty : TypeId) {w wr : World} {v : Value} {xs : List α} (h : NewR f t z w wr v xs) {K : Nat → Prop} (u : Value) (ys : List α) (hu : RowK K wr u z (fcells f ys)) (hl : xs.length + ys.length ≤ 100000) :
    ∃ v' w', (Builtin.append_ #[ts, ts] ty #[v, u]).run Try.prog wr = .ok v' w' ∧ NewR f t z w w' v' (xs ++ ys) ∧ wr.grownBy w' v.ownBlock := by
  obtain ⟨v', w', r, o, gb, hv⟩ := append_rows T E ty wr v xs h.1 u ys hu hl
  refine ⟨v', w', r, ⟨o, fun k hk => ?_, h.2.2.by_row gb h.2.1⟩, gb⟩
  rcases hv with q | q
  · rw [q] at hk; exact h.2.1 k hk
  · rw [q] at hk
    simp only [Option.some.injEq] at hk
    have := h.2.2.size
    omega
theorem NewR.step {α : Type} {f : α → List Value} {ts t : TypeId} {z nb : Nat} {zero : Value} (T : Elems ts t z nb zero) (E : Enc f z) (ty : TypeId) {w wr : World} {v : Value} {xs : List α} (h : NewR f t z w wr v xs) (x : α) (hl : xs.length ≤ 90000) :
    ∃ v' w', (Builtin.append_ #[ts, ts] ty #[v, .slice (some ⟨wr.heap.size, 0, none⟩) 1 1]).run Try.prog (wr.alloc (.cells (f x).toArray t)) = .ok v' w' ∧ NewR f t z w w' v' (xs ++ [x]) ∧ (wr.alloc (.cells (f x).toArray t)).grownBy w' v.ownBlock :=
  (h.ext ((Ext.refl wr).alloc _)).put T E ty _ [x] (one_row E t wr x) (by simp; omega)

/-- one element written anew -/
theorem Own.set {α : Type} {f : α → List Value} {t : TypeId} {z : Nat} {w : World} {g n c : Nat} {l : List α} (E : Enc f z) (hz : (Try.prog.info? t).map (·.size) = some z) (h : Own f t z w (.slice (some ⟨g, 0, none⟩) n c) l) (k : Nat) (y : α) (hk : k < l.length) :
    ∃ w', (Instr.storeAt t (.pointer (some ⟨g, k * z, none⟩)) (.agg (f y).toArray)).run Try.prog w = .ok () w' ∧ Own f t z w' (.slice (some ⟨g, 0, none⟩) n c) (l.set k y) ∧ Kept (fun i => i ≠ g) w w' := by
  rcases h.at with ⟨e, _⟩ | ⟨g', cap, L, e, h1, h2, h3, h4, h5⟩
  · simp at e
  · simp only [Value.slice.injEq, Option.some.injEq, Addr.mk.injEq] at e
    obtain ⟨⟨rfl, _, _⟩, rfl, rfl⟩ := e
    have hkz : k * z + z ≤ l.length * z := by
      have := Nat.mul_le_mul_right z (show k + 1 ≤ l.length from hk)
      rw [Nat.add_mul, Nat.one_mul] at this
      exact this
    have hcz : l.length * z ≤ c * z := Nat.mul_le_mul_right z h2
    have hfy := E.2.1 y
    have hst := run_storeCells_at Try.prog g (k * z) t (f y) 0 L.toArray w h1 (by simp; omega) (E.2.2 y)
    simp only [Nat.add_zero] at hst
    refine ⟨_, ?_, ?_, (Kept.refl _ w).setRow (fun hne => hne rfl) (splice L (k * z) (f y)).toArray⟩
    · cases hq : Try.prog.info? t with
      | none => simp [hq] at hz
      | some i =>
        have hs : i.size = z := by simpa [hq] using hz
        simp [Instr.storeAt, Instr.sureAddr, Sem.run_bind, storeVar, sizeOf, typeInfo, hq, Value.cells, hs, hfy]
        rw [hst]
        simp [splice]
    · have e2 : splice L (k * z) (f y) = fcells f (l.set k y) ++ L.drop (l.length * z) := by
        rw [fcells_set E l k y hk, ← h5]
        unfold splice
        rw [List.take_take, Nat.min_eq_left (by omega), List.append_assoc, List.append_assoc]
        congr 2
        rw [hfy]
        conv => lhs; rw [← List.take_append_drop (l.length * z) L]
        rw [List.drop_append_of_le_length (by rw [List.length_take]; omega)]
      have h6 := setRow_heap w g L.toArray (splice L (k * z) (f y)).toArray _ _ h1
      refine ⟨by rw [fcells_length E], .inr ⟨g, c, _, by rw [List.length_set], Nat.zero_le _, h6, by rw [List.length_set]; exact h2, h3, ?_, ?_⟩⟩
      · rw [List.size_toArray, length_splice _ _ _ (by omega), h4]
      · rw [List.toList_toArray, e2]
        exact List.take_left' (by rw [fcells_length E])
end Go.Proofs.Ytemfdbnjncpbjaa

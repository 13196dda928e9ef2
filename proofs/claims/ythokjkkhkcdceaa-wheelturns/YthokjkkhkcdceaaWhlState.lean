/-
  Calls as arguments; a wheel, its list, and the box that holds the list.
-/
import Derived.Test.YthokjkkhkcdceaaWhlStep
import Derived.Test.YthokjkkhkcdceaaWhlSame
import Derived.Test.YthokjkkhkcdceaaWhlAwake
import Derived.Test.YthokjkkhkcdceaaWhlCopy
namespace Go.Proofs.Ythokjkkhkcdceaa
set_option linter.unusedVariables false
set_option maxRecDepth 100000
open Go.RowKit Go.Lib

abbrev Ops9 := List (Int × Int × Int × Int)
/-- calls as they lie in cells -/
def ocells (l : Ops9) : List Value := l.flatMap fun o => [.int .i64 o.1, .int .i64 o.2.1, .int .i64 o.2.2.1, .int .i64 o.2.2.2]
theorem ocells_length (l : Ops9) : (ocells l).length = l.length * 4 := by
  induction l with
  | nil => rfl
  | cons g l ih => simp only [ocells, List.flatMap_cons, List.length_append, List.length_cons, List.length_nil] at ih ⊢; omega
theorem ocells_at (l : Ops9) : ∀ k, k < l.length → (ocells l)[k * 4]? = some (.int .i64 (l.getD k (0, 0, 0, 0)).1) ∧ (ocells l)[k * 4 + 1]? = some (.int .i64 (l.getD k (0, 0, 0, 0)).2.1) ∧ (ocells l)[k * 4 + 2]? = some (.int .i64 (l.getD k (0, 0, 0, 0)).2.2.1) ∧ (ocells l)[k * 4 + 3]? = some (.int .i64 (l.getD k (0, 0, 0, 0)).2.2.2) := by
  induction l with
  | nil => intro k h; simp at h
  | cons g l ih =>
    intro k h
    cases k with
    | zero => simp [ocells]
    | succ k =>
      have := ih k (by simpa using h)
      have e1 : (k + 1) * 4 = k * 4 + 1 + 1 + 1 + 1 := by omega
      rw [e1]
      simpa [ocells] using this

/-- a call's cells, where the slice of calls came in -/
theorem ops_at {K : Nat → Prop} {w : World} {v : Value} {l : Ops9} (h : RowK K w v 4 (ocells l)) : ∃ ao c, v = .slice ao l.length c ∧ l.length ≤ c ∧ c ≤ maxLen ∧ ∀ k, k < l.length → ∃ g o, ao = some ⟨g, o, none⟩ ∧ K g ∧
    w.cell? ⟨g, o + k * 4, none⟩ = some (.int .i64 (l.getD k (0, 0, 0, 0)).1) ∧ w.cell? ⟨g, o + k * 4 + 1, none⟩ = some (.int .i64 (l.getD k (0, 0, 0, 0)).2.1) ∧ w.cell? ⟨g, o + k * 4 + 2, none⟩ = some (.int .i64 (l.getD k (0, 0, 0, 0)).2.2.1) ∧ w.cell? ⟨g, o + k * 4 + 3, none⟩ = some (.int .i64 (l.getD k (0, 0, 0, 0)).2.2.2) := by
  obtain ⟨ao, n, c, e, q1, q2, q3, q4⟩ := h
  rw [ocells_length] at q1
  obtain rfl : l.length = n := by omega
  refine ⟨ao, c, e, q2, q3, fun k hk => ?_⟩
  obtain ⟨g, o, ea, hg, hc⟩ := q4 (by omega)
  obtain ⟨c0, c1, c2, c3⟩ := ocells_at l k hk
  exact ⟨g, o, ea, hg, hc _ _ c0, by rw [Nat.add_assoc]; exact hc _ _ c1, by rw [Nat.add_assoc]; exact hc _ _ c2, by rw [Nat.add_assoc]; exact hc _ _ c3⟩

/-- wheel, list, and the list's box at block h -/
def St9 (K : Nat → Prop) (w : World) (b h : Nat) (mv : Value) (t : Int) (l : Sts) : Prop := Both9 K w b mv t l ∧ K h ∧ w.heap[h]? = some (.cells #[mv, .int .i64 t] 28 (0, 0))
theorem St9.ext {K : Nat → Prop} {w w' : World} {b h : Nat} {mv : Value} {t : Int} {l : Sts} (s : St9 K w b h mv t l) (e : Ext w w') : St9 K w' b h mv t l := ⟨⟨s.1.1.ext e, s.1.2.kept (Kept.of_ext e)⟩, s.2.1, e.row s.2.2⟩
theorem St9.cells {K : Nat → Prop} {w : World} {b h : Nat} {mv : Value} {t : Int} {l : Sts} (s : St9 K w b h mv t l) : w.cell? ⟨h, 0, none⟩ = some mv ∧ w.cell? ⟨h, 1, none⟩ = some (.int .i64 t) :=
  ⟨by rw [cell_of_row _ _ 0 _ _ _ s.2.2]; rfl, by rw [cell_of_row _ _ 1 _ _ _ s.2.2]; rfl⟩
/-- behind a step, the box written anew -/
theorem St9.store {K K' : Nat → Prop} {w w' : World} {b h : Nat} {mv mv' : Value} {t t' : Int} {l l' : Sts} (s : St9 K w b h mv t l) (k : Kept K w w') (hK : ∀ i, K i → K' i) (hb : Both9 K' w' b mv' t' l') :
    St9 K' ((w'.setCell ⟨h, 0, none⟩ mv').setCell ⟨h, 1, none⟩ (.int .i64 t')) b h mv' t' l' ∧ Kept (fun i => K i ∧ i ≠ h) w ((w'.setCell ⟨h, 0, none⟩ mv').setCell ⟨h, 1, none⟩ (.int .i64 t')) ∧
      (w'.cell? ⟨h, 0, none⟩ = some mv ∧ w'.cell? ⟨h, 1, none⟩ = some (.int .i64 t) ∧ w'.frozen? ⟨h, 0, none⟩ = false ∧ (w'.setCell ⟨h, 0, none⟩ mv').cell? ⟨h, 1, none⟩ = some (.int .i64 t) ∧ (w'.setCell ⟨h, 0, none⟩ mv').frozen? ⟨h, 1, none⟩ = false) := by
  obtain ⟨hB, hh, hr⟩ := s
  obtain ⟨ao, c, em, _⟩ := hB.2.view
  have r' := k.row hh hr
  have r1 : (w'.setCell ⟨h, 0, none⟩ mv').heap[h]? = some (.cells #[mv', .int .i64 t] 28 (0, 0)) := by
    rw [setCell_eq_setRow _ _ _ _ _ _ _ r']; exact setRow_heap _ _ _ _ _ _ r'
  have r2 : ((w'.setCell ⟨h, 0, none⟩ mv').setCell ⟨h, 1, none⟩ (.int .i64 t')).heap[h]? = some (.cells #[mv', .int .i64 t'] 28 (0, 0)) := by
    rw [setCell_eq_setRow _ _ _ _ _ _ _ r1]; exact setRow_heap _ _ _ _ _ _ r1
  have off : RowK (fun i => K' i ∧ i ≠ h) w' mv' 2 (gcells l') := by
    obtain ⟨a2, n2, c2, e2, q1, q2, q3, q4⟩ := hb.2
    refine ⟨a2, n2, c2, e2, q1, q2, q3, fun h0 => ?_⟩
    obtain ⟨g, o, ea, hk, hc⟩ := q4 h0
    refine ⟨g, o, ea, ⟨hk, fun e => ?_⟩, hc⟩
    rw [gcells_length] at q1
    have h1 := gcells_at l' 0 (by omega)
    have c0 := hc _ _ h1.1
    have c1 := hc _ _ h1.2
    rw [e, cell_of_row w' _ _ _ _ _ r'] at c0 c1
    subst em
    match o, c0, c1 with
    | 0, c0, _ => simp at c0
    | 1, _, c1 => simp at c1
    | o + 2, c0, _ => simp at c0
  refine ⟨⟨⟨?_, ?_⟩, hK h hh, r2⟩, ?_, by rw [cell_of_row _ _ 0 _ _ _ r']; rfl, by rw [cell_of_row _ _ 1 _ _ _ r']; rfl, frozen_of_row _ _ _ _ _ r', by rw [cell_of_row _ _ 1 _ _ _ r1]; rfl, frozen_of_row _ _ _ _ _ r1⟩
  · obtain ⟨v4, u5⟩ := hb.1.un
    have ho : Holds9 K' b w' ((w'.setCell ⟨h, 0, none⟩ mv').setCell ⟨h, 1, none⟩ (.int .i64 t')) := (Holds9.set _ (hK h hh) 0 _).trans (Holds9.set _ (hK h hh) 1 _)
    exact ⟨hb.1.1, hb.1.2.1, v4, ho _ t' v4 l' (fun i hi => hi) u5⟩
  · have := off.kept (((Kept.refl _ w').setCell (p := ⟨h, 0, none⟩) (fun q => q.2 rfl) mv').setCell (p := ⟨h, 1, none⟩) (fun q => q.2 rfl) (.int .i64 t'))
    exact this.mono (by decide) (fun i _ hi => hi.1)
  · exact ((k.mono (fun i hi => hi.1)).setCell (p := ⟨h, 0, none⟩) (fun q => q.2 rfl) _).setCell (p := ⟨h, 1, none⟩) (fun q => q.2 rfl) _
/-- a wheel and a list just made -/
theorem St9.new (w : World) (X : World) (hX : X = w.alloc (.cells newCells 50 (0, 0))) : St9 (fun i => i < w.heap.size ∨ (X.heap.size ≤ i ∧ i < X.heap.size + 1)) (X.alloc (.cells #[.slice none 0 0, .int .i64 0] 28 (0, 0))) w.heap.size X.heap.size (.slice none 0 0) 0 [] := by
  have e1 := (Ext.refl X).alloc (.cells #[.slice none 0 0, .int .i64 0] 28 (0, 0))
  have h1 := (show WhK (fun i => i < w.heap.size) X w.heap.size 0 [] by rw [hX]; exact new_wheel w).more e1
  rw [World.size_alloc] at h1
  exact ⟨⟨h1, RowK.nil _ _ _⟩, .inr ⟨Nat.le_refl _, by omega⟩, heap_alloc_new X _⟩
end Go.Proofs.Ythokjkkhkcdceaa

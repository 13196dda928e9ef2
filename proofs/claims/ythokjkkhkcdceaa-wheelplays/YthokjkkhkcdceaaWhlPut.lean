/-
  A wheel that is written: take, put, Stop, Move, Set.
-/
import Derived.Test.YthokjkkhkcdceaaWhlFind
import Derived.Test.YthokjkkhkcdceaaWhlFirst
import Derived.Test.YthokjkkhkcdceaaWhlDel
import Derived.Test.YthokjkkhkcdceaaWhlBin
namespace Go.Proofs.Ythokjkkhkcdceaa
set_option linter.unusedVariables false
set_option maxRecDepth 100000
open Go.RowKit Go.Lib

/-- a wheel with its slices named -/
def WhU (K : Nat → Prop) (w : World) (b : Nat) (t : Int) (v : Nat → Value) (l : Sts) : Prop := WhV w b t v l ∧ ¬ K b ∧ (∀ k, k < 64 → ∀ g, (v k).ownBlock = some g → ¬ K g ∧ g ≠ b) ∧
  (∀ j k, j < 64 → k < 64 → j ≠ k → ∀ g, (v j).ownBlock = some g → (v k).ownBlock ≠ some g) ∧ ∀ i, K i → i < w.heap.size
theorem WhK.un {K : Nat → Prop} {w : World} {b : Nat} {t : Int} {l : Sts} (h : WhK K w b t l) : ∃ v, WhU K w b t v l := by
  obtain ⟨h0, ht, v, h⟩ := h
  exact ⟨v, h⟩
theorem WhU.ext {K : Nat → Prop} {w w' : World} {b : Nat} {t : Int} {v : Nat → Value} {l : Sts} (h : WhU K w b t v l) (e : Ext w w') : WhU K w' b t v l := by
  obtain ⟨h1, h2, h3, h4, h5⟩ := h
  exact ⟨h1.ext e, h2, h3, h4, fun i hi => Nat.lt_of_lt_of_le (h5 i hi) e.size⟩

/-- new memory is none of its own -/
theorem WhU.more {K : Nat → Prop} {w w' : World} {b : Nat} {t : Int} {v : Nat → Value} {l : Sts} (h : WhU K w b t v l) (e : Ext w w') : WhU (fun i => K i ∨ (w.heap.size ≤ i ∧ i < w'.heap.size)) w' b t v l := by
  obtain ⟨h1, h2, h3, h4, h5⟩ := h
  refine ⟨h1.ext e, ?_, fun k hk g hg => ⟨?_, (h3 k hk g hg).2⟩, h4, ?_⟩
  · have := h1.lt
    rintro (q | q)
    · exact h2 q
    · omega
  · have := (World.ownsRow.lt (h1.own hk) g hg).2
    rintro (q | q)
    · exact (h3 k hk g hg).1 q
    · omega
  · rintro i (q | q)
    · exact Nat.lt_of_lt_of_le (h5 i q) e.size
    · exact q.2
theorem WhU.less {K L : Nat → Prop} {w : World} {b : Nat} {t : Int} {v : Nat → Value} {l : Sts} (h : WhU K w b t v l) (hL : ∀ i, L i → K i) : WhU L w b t v l := by
  obtain ⟨h1, h2, h3, h4, h5⟩ := h
  exact ⟨h1, fun q => h2 (hL _ q), fun k hk g hg => ⟨fun q => (h3 k hk g hg).1 (hL _ q), (h3 k hk g hg).2⟩, h4, fun i hi => h5 i (hL i hi)⟩
/-- blocks that are not its own may be written -/
theorem WhU.row {K : Nat → Prop} {w : World} {b : Nat} {t : Int} {v : Nat → Value} {l : Sts} (h : WhU K w b t v l) {g : Nat} (hg : K g) (cs : Array Value) : WhU K (w.setRow g cs) b t v l := by
  obtain ⟨h1, h2, h3, h4, h5⟩ := h
  have KX : Kept (fun i => i ≠ g) w (w.setRow g cs) := (Kept.refl _ w).setRow (fun hne => hne rfl) _
  exact ⟨h1.kept KX (fun e => h2 (e ▸ hg)) (fun k hk g' e e2 => (h3 k hk g' e).1 (e2 ▸ hg)), h2, h3, h4, fun i hi => by simpa using h5 i hi⟩

/-- a spoke written anew -/
theorem WhU.put {K : Nat → Prop} {w w' : World} {b : Nat} {t : Int} {v : Nat → Value} {l l' x : Sts} {k : Nat} {s' : Value} (h : WhU K w b t v l) (hk : k < 64) (hT : Turned w w' (v k) s' x) (hx : sp l' k = x) (ho : ∀ j, j < 64 → j ≠ k → sp l' j = sp l j) :
    WhU K (w'.setCell ⟨b, 1 + k, none⟩ s') b t (fun j => if j = k then s' else v j) l' ∧ Kept K w (w'.setCell ⟨b, 1 + k, none⟩ s') ∧ w'.cell? ⟨b, 1 + k, none⟩ = some (v k) ∧ w'.frozen? ⟨b, 1 + k, none⟩ = false := by
  obtain ⟨⟨cs, h1, h2, h3, h4⟩, hb, hg, hd, hK⟩ := h
  obtain ⟨o, gb, ob⟩ := hT
  have sz := gb.size
  have bl := lt_of_row h1
  have hbg : (v k).ownBlock ≠ some b := fun e => (hg k hk b e).2 rfl
  have hb' : w'.heap[b]? = some (.cells cs 50 (0, 0)) := by rw [gb.block b bl (fun e => hbg e.symm), h1]
  have es : w'.setCell ⟨b, 1 + k, none⟩ s' = w'.setRow b (cs.setIfInBounds (1 + k) s') := setCell_eq_setRow w' b _ cs _ _ _ hb'
  have hs' : ∀ g, s'.ownBlock = some g → ¬ K g ∧ g ≠ b ∧ ∀ j, j < 64 → j ≠ k → (v j).ownBlock ≠ some g := fun g e => by
    rcases ob with q | ⟨g2, q, q2⟩
    · rw [q] at e
      exact ⟨(hg k hk g e).1, (hg k hk g e).2, fun j hj hjk e2 => hd j k hj hk hjk g e2 e⟩
    · rw [q] at e
      simp only [Option.some.injEq] at e
      subst e
      exact ⟨fun hk2 => by have := hK _ hk2; omega, by omega, fun j hj hjk e2 => by
        have := (World.ownsRow.lt (h4 j hj).2 _ e2).2
        omega⟩
  have KW : Kept (fun i => i ≠ b ∧ (v k).ownBlock ≠ some i) w (w'.setRow b (cs.setIfInBounds (1 + k) s')) := by
    refine ((Kept.refl _ w).grown gb (fun g e hne => hne.2 e)).setRow (fun hne => hne.1 rfl) _
  have KX : Kept (fun i => i ≠ b) w' (w'.setRow b (cs.setIfInBounds (1 + k) s')) := (Kept.refl _ w').setRow (fun hne => hne rfl) _
  rw [es]
  refine ⟨⟨⟨cs.setIfInBounds (1 + k) s', setRow_heap w' b cs _ _ _ hb', by simpa using h2, ?_, fun j hj => ?_⟩, hb, fun j hj g e => ?_, fun i j hi hj hij g e1 e2 => ?_, fun i hi => ?_⟩, KW.mono (fun i hi => ⟨fun e => hb (e ▸ hi), fun e => (hg k hk i e).1 hi⟩), by rw [cell_of_row w' b _ _ _ _ hb', Nat.add_comm, (h4 k hk).1], frozen_of_row _ _ _ _ _ hb'⟩
  · rw [Array.getElem?_setIfInBounds_ne (by omega)]; exact h3
  · by_cases e : j = k
    · subst e
      simp only [if_true]
      refine ⟨?_, ?_⟩
      · rw [Nat.add_comm j 1, Array.getElem?_setIfInBounds_self_of_lt (by omega)]
      · rw [hx]
        exact o.kept KX (fun g e => (hs' g e).2.1)
    · simp only [if_neg e]
      refine ⟨?_, ?_⟩
      · rw [Array.getElem?_setIfInBounds_ne (by omega)]; exact (h4 j hj).1
      · rw [ho j hj e]
        exact (h4 j hj).2.kept KW (fun g e2 => ⟨(hg j hj g e2).2, fun e3 => hd j k hj hk e g e2 e3⟩)
  · by_cases q : j = k
    · simp only [q, if_true] at e
      exact ⟨(hs' g e).1, (hs' g e).2.1⟩
    · simp only [if_neg q] at e
      exact hg j hj g e
  · by_cases q1 : i = k
    · simp only [q1, if_true] at e1
      have q2 : j ≠ k := fun e => hij (by rw [q1, e])
      simp only [if_neg q2] at e2
      exact (hs' g e1).2.2 j hj q2 e2
    · simp only [if_neg q1] at e1
      by_cases q2 : j = k
      · simp only [q2, if_true] at e2
        exact (hs' g e2).2.2 i hi q1 e1
      · simp only [if_neg q2] at e2
        exact hd i j hi hj hij g e1 e2
  · have := hK i hi
    simp
    omega

theorem sp_take (l : Sts) (hu : Uq l) {k j : Nat} (hk : j < (sp l k).length) :
    sp (wo ((sp l k).getD j (0, 0)).1 l) k = (sp l k).take j ++ (sp l k).drop (j + 1) ∧ ∀ i, i ≠ k → sp (wo ((sp l k).getD j (0, 0)).1 l) i = sp l i := by
  refine ⟨?_, fun i hi => ?_⟩
  · rw [sp_wo]
    exact wo_at _ j (sp_uq hu k) hk rfl
  · rw [sp_wo]
    refine wo_none fun p hp e => hi ?_
    have m1 := mem_sp.1 hp
    have m2 := mem_sp.1 (getD_mem hk)
    obtain ⟨i1, hi1, e1⟩ := List.mem_iff_getElem.1 m1.1
    obtain ⟨i2, hi2, e2⟩ := List.mem_iff_getElem.1 m2.1
    have hne := List.pairwise_iff_getElem.1 hu
    rcases Nat.lt_trichotomy i1 i2 with q | q | q
    · exact absurd (by rw [e1, e2]; exact e) (hne i1 i2 hi1 hi2 q)
    · subst q
      rw [e1] at e2
      rw [e2] at m1
      have a := m1.2
      rw [m2.2] at a
      omega
    · exact absurd (by rw [e1, e2]; exact e.symm) (hne i2 i1 hi2 hi1 q)

/-- slices.Delete, as what is turned -/
theorem delete_any (w : World) (s : Value) (l : Sts) (i : Nat) (hs : OwnT w s l) (hi : i < l.length) :
    Calls Try.prog 38 #[s, .int .i64 i, .int .i64 ((i : Int) + 1)] w fun e w' => ∃ s', e = .returned s' ∧ Turned w w' s s' (l.take i ++ l.drop (i + 1)) := by
  rcases hs.at with ⟨rfl, rfl⟩ | ⟨g, cap, L, rfl, g1, g2, g3, g4, g5⟩
  · simp at hi
  · refine (delete_row g l.length cap i l L w g1 g4 rfl g5 hi g2 g3).mono ?_
    rintro e w' ⟨rfl, o, gb⟩
    exact ⟨_, rfl, o, gb, .inl rfl⟩

end Go.Proofs.Ythokjkkhkcdceaa

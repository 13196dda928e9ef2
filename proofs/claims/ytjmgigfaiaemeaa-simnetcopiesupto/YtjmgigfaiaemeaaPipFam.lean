/-
  Many pipes side by side, all of one room: no block of one is another's, none is of the blocks of K. What a call on one of them leaves; one more; what is written elsewhere.
-/
import Derived.Test.YtjmgigfaiaemeaaPipMem
namespace Go.Proofs.Ytjmgigfaiaemeaa.Pip
set_option linter.unusedVariables false
set_option maxRecDepth 100000
open Go.RowKit Go.Lib

/-- what is new since w -/
def New (w w' : World) (i : Nat) : Prop := w.heap.size ≤ i ∧ i < w'.heap.size

theorem PipU.keep {K L : Nat → Prop} {w w' : World} {b : Nat} {room : Int} {v : Value} {ml : List Msg} (h : PipU K w b room v ml) (k : Kept L w w') (hL : ∀ i, i < w.heap.size → K i ∨ L i) : PipU (fun i => K i ∨ New w w' i) w' b room v ml := by
  have gb := h.1.lt
  have gv : ∀ g, v.ownBlock = some g → g < w.heap.size := fun g hg => (World.ownsRow.lt h.1.2.1 g hg).2
  have gm : ∀ p ∈ ml, ∀ g, (sval p.2.1).ownBlock = some g → g < w.heap.size := fun p hp g hg => (h.1.2.2 p hp).2.lt hg
  refine ⟨h.1.kept k ((hL b gb).resolve_left h.2.1) (fun g hg => (hL g (gv g hg)).resolve_left (h.2.2.1 g hg)) (fun p hp g hg => (hL g (gm p hp g hg)).resolve_left (h.2.2.2.1 p hp g hg)), ?_, fun g hg q => ?_, fun p hp g hg q => ?_, h.2.2.2.2.1, fun i hi => ?_⟩
  · rintro (q | q)
    · exact h.2.1 q
    · have := q.1; omega
  · have := gv g hg
    rcases q with q | q
    · exact h.2.2.1 g hg q
    · have := q.1; omega
  · have := gm p hp g hg
    rcases q with q | q
    · exact h.2.2.2.1 p hp g hg q
    · have := q.1; omega
  · rcases hi with hi | hi
    · exact Nat.lt_of_lt_of_le (h.2.2.2.2.2 i hi) k.size
    · exact hi.2
theorem PipK.keep {K L : Nat → Prop} {w w' : World} {b : Nat} {room : Int} {l : Ms} (h : PipK K w b room l) (k : Kept L w w') (hL : ∀ i, i < w.heap.size → K i ∨ L i) : PipK (fun i => K i ∨ New w w' i) w' b room l :=
  ⟨h.1, h.2.elim fun v h => h.elim fun ml h => ⟨v, ml, h.1.keep k hL, h.2⟩⟩

/-- one place of many turned -/
def upd {α : Type} (f : Nat → α) (i : Nat) (x : α) : Nat → α := fun k => if k = i then x else f k
theorem upd_same {α : Type} (f : Nat → α) (i : Nat) (x : α) : upd f i x i = x := if_pos rfl
theorem upd_other {α : Type} (f : Nat → α) {i k : Nat} (x : α) (h : k ≠ i) : upd f i x k = f k := if_neg h

/-- n pipes in blocks bs, that tell ls; none of their blocks is of K -/
def Fam (K : Nat → Prop) (w : World) (room : Int) (n : Nat) (bs : Nat → Nat) (ls : Nat → Ms) : Prop :=
  (∀ q, K q → q < w.heap.size) ∧ ∃ Ks : Nat → Nat → Prop, (∀ i, i < n → PipK (Ks i) w (bs i) room (ls i)) ∧ (∀ i k, i < n → k < n → i ≠ k → ∀ q, q < w.heap.size → Ks i q ∨ Ks k q) ∧ ∀ i, i < n → ∀ q, K q → Ks i q
theorem Fam.none {K : Nat → Prop} {w : World} {room : Int} {bs : Nat → Nat} {ls : Nat → Ms} (hK : ∀ q, K q → q < w.heap.size) : Fam K w room 0 bs ls :=
  ⟨hK, fun _ _ => True, fun i hi => by omega, fun i k hi => by omega, fun i hi => by omega⟩
theorem Fam.congr {K : Nat → Prop} {w : World} {room : Int} {n : Nat} {bs bs' : Nat → Nat} {ls ls' : Nat → Ms} (h : Fam K w room n bs ls) (hb : ∀ i, i < n → bs' i = bs i) (hl : ∀ i, i < n → ls' i = ls i) : Fam K w room n bs' ls' := by
  obtain ⟨h0, Ks, h1, h2⟩ := h
  exact ⟨h0, Ks, fun i hi => by rw [hb i hi, hl i hi]; exact h1 i hi, h2⟩
theorem Fam.less {K L : Nat → Prop} {w : World} {room : Int} {n : Nat} {bs : Nat → Nat} {ls : Nat → Ms} (h : Fam K w room n bs ls) (hL : ∀ q, L q → K q) : Fam L w room n bs ls := by
  obtain ⟨h0, Ks, h1, h2, h3⟩ := h
  exact ⟨fun q hq => h0 q (hL q hq), Ks, h1, h2, fun i hi q hq => h3 i hi q (hL q hq)⟩
/-- what is written lies in blocks of K; what is new joins K -/
theorem Fam.keep {K L : Nat → Prop} {w w' : World} {room : Int} {n : Nat} {bs : Nat → Nat} {ls : Nat → Ms} (h : Fam K w room n bs ls) (k : Kept L w w') (hL : ∀ q, q < w.heap.size → K q ∨ L q) : Fam (fun q => K q ∨ New w w' q) w' room n bs ls := by
  obtain ⟨h0, Ks, h1, h2, h3⟩ := h
  refine ⟨?_, fun i q => Ks i q ∨ New w w' q, fun i hi => (h1 i hi).keep k (fun q hq => (hL q hq).imp (h3 i hi q) id), fun i j hi hj ne q hq => ?_, fun i hi q hq => hq.imp (h3 i hi q) id⟩
  · rintro q (hq | hq)
    · exact Nat.lt_of_lt_of_le (h0 q hq) k.size
    · exact hq.2
  · by_cases q0 : q < w.heap.size
    · exact (h2 i j hi hj ne q q0).imp .inl .inl
    · exact .inl (.inr ⟨by omega, hq⟩)
theorem Fam.more {K : Nat → Prop} {w w' : World} {room : Int} {n : Nat} {bs : Nat → Nat} {ls : Nat → Ms} (h : Fam K w room n bs ls) (e : Ext w w') : Fam (fun q => K q ∨ New w w' q) w' room n bs ls :=
  h.keep (L := fun _ => True) (Kept.of_ext e) (fun _ _ => .inr trivial)
theorem Fam.ext {K : Nat → Prop} {w w' : World} {room : Int} {n : Nat} {bs : Nat → Nat} {ls : Nat → Ms} (h : Fam K w room n bs ls) (e : Ext w w') : Fam K w' room n bs ls := (h.more e).less (fun _ hq => .inl hq)
/-- one block of K is written -/
theorem Fam.but {K : Nat → Prop} {w w' : World} {room : Int} {n : Nat} {bs : Nat → Nat} {ls : Nat → Ms} {g : Nat} (h : Fam K w room n bs ls) (k : Kept (fun q => q ≠ g) w w') (hg : K g) : Fam (fun q => K q ∨ New w w' q) w' room n bs ls :=
  h.keep k (fun q _ => if e : q = g then .inl (e ▸ hg) else .inr e)
/-- one of them alone: what a call on it leaves of all -/
theorem Fam.one {K : Nat → Prop} {w : World} {room : Int} {n : Nat} {bs : Nat → Nat} {ls : Nat → Ms} (h : Fam K w room n bs ls) {i : Nat} (hi : i < n) :
    ∃ Ki : Nat → Prop, PipK Ki w (bs i) room (ls i) ∧ (∀ q, K q → Ki q) ∧ ∀ (K2 : Nat → Prop) (w' : World) (l' : Ms), (∀ q, Ki q → K2 q) → PipK K2 w' (bs i) room l' → Kept Ki w w' → Fam (fun q => K q ∨ (K2 q ∧ w.heap.size ≤ q)) w' room n bs (upd ls i l') := by
  obtain ⟨h0, Ks, h1, h2, h3⟩ := h
  refine ⟨Ks i, h1 i hi, h3 i hi, fun K2 w' l' hK hp hk => ⟨?_, fun j q => (j = i ∧ K2 q) ∨ (j ≠ i ∧ (Ks j q ∨ New w w' q)), fun j hj => ?_, fun j k hj hk2 ne q hq => ?_, fun j hj q hq => ?_⟩⟩
  · rintro q (hq | hq)
    · exact Nat.lt_of_lt_of_le (h0 q hq) hk.size
    · exact hp.there q hq.1
  · by_cases e : j = i
    · subst e
      rw [upd_same]
      exact hp.less (fun q hq => hq.elim (fun h => h.2) (fun h => absurd rfl h.1))
    · rw [upd_other _ _ e]
      exact ((h1 j hj).keep hk (fun q hq => h2 j i hj hi e q hq)).less (fun q hq => hq.elim (fun h => absurd h.1 e) (fun h => h.2))
  · by_cases q0 : q < w.heap.size
    · have := h2 j k hj hk2 ne q q0
      by_cases ej : j = i
      · subst ej
        rcases this with h | h
        · exact .inl (.inl ⟨rfl, hK q h⟩)
        · exact .inr (.inr ⟨fun e => ne e.symm, .inl h⟩)
      · by_cases ek : k = i
        · subst ek
          rcases this with h | h
          · exact .inl (.inr ⟨ej, .inl h⟩)
          · exact .inr (.inl ⟨rfl, hK q h⟩)
        · exact this.imp (fun h => .inr ⟨ej, .inl h⟩) (fun h => .inr ⟨ek, .inl h⟩)
    · by_cases ej : j = i
      · exact .inr (.inr ⟨fun e => ne (ej.trans e.symm), .inr ⟨by omega, hq⟩⟩)
      · exact .inl (.inr ⟨ej, .inr ⟨by omega, hq⟩⟩)
  · by_cases ej : j = i
    · subst ej
      rcases hq with h | h
      · exact .inl ⟨rfl, hK q (h3 j hj q h)⟩
      · exact .inl ⟨rfl, h.1⟩
    · rcases hq with h | h
      · exact .inr ⟨ej, .inl (h3 j hj q h)⟩
      · exact .inr ⟨ej, .inr ⟨h.2, hp.there q h.1⟩⟩
/-- one more, all of it new -/
theorem Fam.add {K Kn : Nat → Prop} {w w' : World} {room : Int} {n : Nat} {bs : Nat → Nat} {ls : Nat → Ms} {b : Nat} {l : Ms} (h : Fam K w room n bs ls) (x : Ext w w') (hp : PipK Kn w' b room l) (hn : ∀ q, q < w.heap.size → Kn q) : Fam K w' room (n + 1) (upd bs n b) (upd ls n l) := by
  obtain ⟨h0, Ks, h1, h2, h3⟩ := h
  refine ⟨fun q hq => Nat.lt_of_lt_of_le (h0 q hq) x.size, fun j q => (j = n ∧ Kn q) ∨ (j ≠ n ∧ (Ks j q ∨ New w w' q)), fun j hj => ?_, fun j k hj hk ne q hq => ?_, fun j hj q hq => ?_⟩
  · by_cases e : j = n
    · subst e
      rw [upd_same, upd_same]
      exact hp.less (fun q hq => hq.elim (fun h => h.2) (fun h => absurd rfl h.1))
    · rw [upd_other _ _ e, upd_other _ _ e]
      exact ((h1 j (by omega)).keep (L := fun _ => True) (Kept.of_ext x) (fun _ _ => .inr trivial)).less (fun q hq => hq.elim (fun h => absurd h.1 e) (fun h => h.2))
  · by_cases q0 : q < w.heap.size
    · by_cases ej : j = n
      · exact .inl (.inl ⟨ej, hn q q0⟩)
      · by_cases ek : k = n
        · exact .inr (.inl ⟨ek, hn q q0⟩)
        · exact (h2 j k (by omega) (by omega) ne q q0).imp (fun h => .inr ⟨ej, .inl h⟩) (fun h => .inr ⟨ek, .inl h⟩)
    · by_cases ej : j = n
      · exact .inr (.inr ⟨fun e => ne (ej.trans e.symm), .inr ⟨by omega, hq⟩⟩)
      · exact .inl (.inr ⟨ej, .inr ⟨by omega, hq⟩⟩)
  · by_cases ej : j = n
    · exact .inl ⟨ej, hn q (h0 q hq)⟩
    · exact .inr ⟨ej, .inl (h3 j (by omega) q hq)⟩
end Go.Proofs.Ytjmgigfaiaemeaa.Pip

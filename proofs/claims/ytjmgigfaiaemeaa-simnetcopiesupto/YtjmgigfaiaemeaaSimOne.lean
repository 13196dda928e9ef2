/-
  One pipe of a net while its caller writes blocks of its own.
-/
import Derived.Test.YtjmgigfaiaemeaaSimNet
namespace Go.Proofs.Ytjmgigfaiaemeaa.Sim
set_option linter.unusedVariables false
set_option maxRecDepth 100000
open Go.RowKit Go.Lib Go.Proofs.Ytjmgigfaiaemeaa.Crc Go.Proofs.Ytjmgigfaiaemeaa.Grp
open Go.Proofs.Ytjmgigfaiaemeaa.Pip hiding NewR

theorem famL {K L : Nat → Prop} {w : World} {room : Int} {n : Nat} {bs : Nat → Nat} {ls : Nat → Ms} (h : Fam K w room n bs ls) (hL : ∀ q, L q → K q) {i : Nat} (hi : i < n) :
    ∃ Ki : Nat → Prop, PipK Ki w (bs i) room (ls i) ∧ (∀ q, K q → Ki q) ∧ ∀ (K2 : Nat → Prop) (w' : World) (l' : Ms), (∀ q, Ki q → K2 q) → PipK K2 w' (bs i) room l' → Kept (fun q => Ki q ∧ ¬ L q) w w' → Fam (fun q => K q ∨ (K2 q ∧ w.heap.size ≤ q)) w' room n bs (upd ls i l') := by
  obtain ⟨h0, Ks, h1, h2, h3⟩ := h
  have key : ∀ j, j < n → j ≠ i → ∀ q, q < w.heap.size → Ks j q ∨ (Ks i q ∧ ¬ L q) := fun j hj e q hq => by
    rcases h2 j i hj hi e q hq with h | h
    · exact .inl h
    · by_cases hl : L q
      · exact .inl (h3 j hj q (hL q hl))
      · exact .inr ⟨h, hl⟩
  refine ⟨Ks i, h1 i hi, h3 i hi, fun K2 w' l' hK hp hk => ⟨?_, fun j q => (j = i ∧ K2 q) ∨ (j ≠ i ∧ (Ks j q ∨ New w w' q)), fun j hj => ?_, fun j k hj hk2 ne q hq => ?_, fun j hj q hq => ?_⟩⟩
  · rintro q (hq | hq)
    · exact Nat.lt_of_lt_of_le (h0 q hq) hk.size
    · exact hp.there q hq.1
  · by_cases e : j = i
    · subst e
      rw [upd_same]
      exact hp.less (fun q hq => hq.elim (fun h => h.2) (fun h => absurd rfl h.1))
    · rw [upd_other _ _ e]
      exact ((h1 j hj).keep hk (key j hj e)).less (fun q hq => hq.elim (fun h => absurd h.1 e) (fun h => h.2))
  · by_cases q0 : q < w.heap.size
    · have := h2 j k hj hk2 ne q q0
      by_cases ej : j = i
      · subst ej
        rcases this with h | h
        · exact .inl (.inl ⟨rfl, hK q h⟩)
        · exact .inr (.inr ⟨fun e => ne e.symm, .inl h⟩)
      · by_cases ek : k = i
        · subst ek
          rcases this with h | h
          · exact .inl (.inr ⟨ej, .inl h⟩)
          · exact .inr (.inl ⟨rfl, hK q h⟩)
        · exact this.imp (fun h => .inr ⟨ej, .inl h⟩) (fun h => .inr ⟨ek, .inl h⟩)
    · by_cases ej : j = i
      · exact .inr (.inr ⟨fun e => ne (ej.trans e.symm), .inr ⟨by omega, hq⟩⟩)
      · exact .inl (.inr ⟨ej, .inr ⟨by omega, hq⟩⟩)
  · by_cases ej : j = i
    · subst ej
      rcases hq with h | h
      · exact .inl ⟨rfl, hK q (h3 j hj q h)⟩
      · exact .inl ⟨rfl, h.1⟩
    · rcases hq with h | h
      · exact .inr ⟨ej, .inl (h3 j hj q h)⟩
      · exact .inr ⟨ej, .inr ⟨h.2, hp.there q h.1⟩⟩

/-- one of its pipes alone; the caller writes blocks of L -/
theorem NetK.oneL {K L : Nat → Prop} {w : World} {b : Nat} {bs : Nat → Nat} {c : Cfg} {l : List Tri} {fs : List (Int × Int)} {x : St} (h : NetK K w b bs c l fs x) (hL : ∀ q, L q → K q) {i : Nat} (hi : i < x.1.length) :
    ∃ Ki : Nat → Prop, PipK Ki w (bs i) c.2.2.1 (ord (x.1.getD i [])) ∧ (∀ q, K q → Ki q) ∧ ∀ (K3 : Nat → Prop) (w' : World) (l' : Ms), (∀ q, Ki q → K3 q) → PipK K3 w' (bs i) c.2.2.1 (ord l') → Kept (fun q => Ki q ∧ ¬ L q) w w' →
      NetK (fun q => K q ∨ (K3 q ∧ w.heap.size ≤ q)) w' b bs c l fs (x.1.set i l', x.2) := by
  obtain ⟨K2, gb, gg, gc, n, dv, fv, h⟩ := h
  have lts := h.lt
  obtain ⟨h1, h2, h3, h4, h5, h6, h7, h8, h9⟩ := h
  have hi' : i < n + 1 := by have := h1.2.1; omega
  obtain ⟨Ki, p1, p2, p3⟩ := famL (L := L) h9 (fun q hq => h8 q (hL q hq)) hi'
  refine ⟨Ki, p1, fun q hq => p2 q (h8 q hq), fun K3 w' l' hK hp hk => ?_⟩
  have F := p3 K3 w' (ord l') hK hp hk
  have row : ∀ (v : Value) (sz : Nat) (cs : List Value), 0 < sz → RowK (Still K K2 b gg) w v sz cs → RowK (Still (fun q => K q ∨ (K3 q ∧ w.heap.size ≤ q)) (fun q => K2 q ∨ (K3 q ∧ w.heap.size ≤ q)) b gg) w' v sz cs := by
    intro v sz cs hz r
    have r1 := r.mono (L := fun q => Still K K2 b gg q ∧ q < w.heap.size) hz (fun i hi h => ⟨h, hi⟩)
    exact (r1.kept (hk.mono (fun i h => ⟨p2 i h.1.1, fun hl => h.1.2.1 (hL i hl)⟩))).mono hz (fun i _ h => ⟨.inl h.1.1, fun q => q.elim h.1.2.1 (fun q => by have := q.2; have := h.2; omega), h.1.2.2⟩)
  refine ⟨_, gb, gg, gc, n, dv, fv, ⟨h1.1, by rw [List.length_set]; exact h1.2.1, h1.2.2⟩, hk.row ⟨p2 b h7.1, fun hl => h6.1 (hL b hl)⟩ h2, h3.kept hk ⟨p2 gb h7.2.1, fun hl => h6.2.1 (hL gb hl)⟩ ⟨p2 gg h7.2.2, fun hl => h6.2.2 (hL gg hl)⟩, row _ _ _ (by decide) h4, row _ _ _ (by decide) h5, ⟨fun q => q.elim h6.1 (fun q => by have := q.2; omega), fun q => q.elim h6.2.1 (fun q => by have := q.2; omega), fun q => q.elim h6.2.2 (fun q => by have := q.2; omega)⟩, ⟨.inl h7.1, .inl h7.2.1, .inl h7.2.2⟩, fun q hq => hq.imp (h8 q) id, ?_⟩
  refine F.congr (fun _ _ => rfl) (fun k hk => ?_)
  simp only
  rw [set_getD _ _ _ _ _ (by rw [h1.2.1]; exact hi')]
  unfold upd
  split <;> rfl
end Go.Proofs.Ytjmgigfaiaemeaa.Sim

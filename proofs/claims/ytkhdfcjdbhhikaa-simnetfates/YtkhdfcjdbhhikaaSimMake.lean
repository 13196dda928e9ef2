/-
  A net on its way to be made: its row, its group, the fates, the sender's pipe and as many others as there are by now.
-/
import Derived.Test.YtkhdfcjdbhhikaaSimSend2
import Derived.Test.YtkhdfcjdbhhikaaGrpNew
import Derived.Test.YtkhdfcjdbhhikaaPipCopy
namespace Go.Proofs.Ytkhdfcjdbhhikaa.Sim
set_option linter.unusedVariables false
set_option maxRecDepth 100000
open Go.RowKit Go.Lib Go.Proofs.Ytkhdfcjdbhhikaa.Crc Go.Proofs.Ytkhdfcjdbhhikaa.Grp
open Go.Proofs.Ytkhdfcjdbhhikaa.Pip hiding NewR

/-- a block of another type joins K -/
theorem pipK_type {K : Nat → Prop} {w : World} {b : Nat} {room : Int} {l : Ms} (h : PipK K w b room l) {g : Nat} {cs : Array Value} {t : TypeId} {fr : Nat × Nat} (hg : w.heap[g]? = some (.cells cs t fr)) (h1 : 98 ≠ t) (h2 : 101 ≠ t) (h3 : 5 ≠ t) : PipK (fun i => K i ∨ i = g) w b room l := by
  obtain ⟨r, v, ml, u, e⟩ := h
  refine ⟨r, v, ml, u.join (L := fun i => i = g) ?_ ?_ ?_ ?_, e⟩
  · rintro rfl
    have := u.1.1
    rw [hg] at this
    simp at this
    exact h1 this.2.1.symm
  · rintro k hk rfl
    obtain ⟨cur, hc⟩ := ownM_type u.1.2.1 hk
    rw [hg] at hc
    simp at hc
    exact h2 hc.2.1.symm
  · rintro p hp k hk rfl
    obtain ⟨cur, hc⟩ := ownB_type (u.1.2.2 p hp).2 hk
    rw [hg] at hc
    simp at hc
    exact h3 hc.2.1.symm
  · rintro i rfl
    exact lt_of_row hg
theorem fam_type {K : Nat → Prop} {w : World} {room : Int} {n : Nat} {bs : Nat → Nat} {ls : Nat → Ms} (h : Fam K w room n bs ls) {g : Nat} {cs : Array Value} {t : TypeId} {fr : Nat × Nat} (hg : w.heap[g]? = some (.cells cs t fr)) (h1 : 98 ≠ t) (h2 : 101 ≠ t) (h3 : 5 ≠ t) : Fam (fun i => K i ∨ i = g) w room n bs ls := by
  obtain ⟨a, Ks, b1, b2, b3⟩ := h
  refine ⟨fun q hq => hq.elim (a q) (fun e => e ▸ lt_of_row hg), fun i q => Ks i q ∨ q = g, fun i hi => pipK_type (b1 i hi) hg h1 h2 h3, fun i k hi hk ne q hq => (b2 i k hi hk ne q hq).imp .inl .inl, fun i hi q hq => hq.imp (b3 i hi q) id⟩
theorem fam_perm {K : Nat → Prop} {w : World} {room : Int} {n : Nat} {bs : Nat → Nat} {ls : Nat → Ms} (h : Fam K w room n bs ls) (σ : Nat → Nat) (h1 : ∀ i, i < n → σ i < n) (h2 : ∀ i k, i < n → k < n → σ i = σ k → i = k) : Fam K w room n (fun i => bs (σ i)) (fun i => ls (σ i)) := by
  obtain ⟨a, Ks, b1, b2, b3⟩ := h
  exact ⟨a, fun i => Ks (σ i), fun i hi => b1 _ (h1 i hi), fun i k hi hk ne q hq => b2 _ _ (h1 i hi) (h1 k hk) (fun e => ne (h2 i k hi hk e)) q hq, fun i hi => b3 _ (h1 i hi)⟩

/-- the lists, the sender's first -/
def lsf (x : St) (n : Nat) (i : Nat) : Ms := if i = 0 then ord (x.1.getD n []) else ord (x.1.getD (i - 1) [])
def KH (w0 : World) (b gb gg : Nat) : Nat → Prop := fun q => q < w0.heap.size ∨ q = b ∨ q = gb ∨ q = gg
def HalfN (w0 W : World) (b gb gg gc n : Nat) (c : Cfg) (dv fv : Value) (l : List Tri) (fs : List (Int × Int)) (x : St) (p : Nat → Nat) (k : Nat) : Prop :=
  (c.1 = (n : Int) ∧ x.1.length = n + 1 ∧ 0 ≤ c.2.1 ∧ c.2.1 ≤ 64) ∧
  W.heap[b]? = some (.cells (nrow gb c.2.1 dv (p 0) fv (x.2.1 : Int) x.2.2) 59 (0, 0)) ∧
  Grp W gb gg gc n c.2.2.2.1 c.2.2.2.2 l ∧
  NewR penc 57 1 w0 W dv ((List.range k).map fun i => p (i + 1)) ∧
  NewR pr 63 2 w0 W fv (fs.drop x.2.1) ∧
  (w0.heap.size ≤ b ∧ w0.heap.size ≤ gb ∧ w0.heap.size ≤ gg) ∧
  Fam (KH w0 b gb gg) W c.2.2.1 (k + 1) p (lsf x n)

theorem HalfN.start {w0 W : World} {gb gg gc n ub : Nat} {c : Cfg} {fv : Value} {l : List Tri} {fs : List (Int × Int)} {x : St} (h1 : c.1 = (n : Int) ∧ x.1.length = n + 1 ∧ 0 ≤ c.2.1 ∧ c.2.1 ≤ 64) (h2 : Grp W gb gg gc n c.2.2.2.1 c.2.2.2.2 l) (h3 : w0.heap.size ≤ gb ∧ w0.heap.size ≤ gg)
    (h4 : PipK (fun q => q < w0.heap.size) W ub c.2.2.1 (ord (x.1.getD n []))) (h5 : NewR pr 63 2 w0 W fv (fs.drop x.2.1)) :
    HalfN w0 (W.alloc (.cells (nrow gb c.2.1 (.slice none 0 0) ub fv (x.2.1 : Int) x.2.2) 59)) W.heap.size gb gg gc n c (.slice none 0 0) fv l fs x (fun _ => ub) 0 := by
  have X := (Ext.refl W).alloc (.cells (nrow gb c.2.1 (.slice none 0 0) ub fv (x.2.1 : Int) x.2.2) 59)
  have g2 := h2.ext X
  refine ⟨h1, heap_alloc_new W _, g2, ((NewR.nil penc 57 1 w0).ext h5.2.2).ext X, h5.ext X, ⟨h5.2.2.size, h3.1, h3.2⟩, ?_⟩
  have p0 := h4.ext X
  have p1 := pipK_type p0 (heap_alloc_new W _) (by decide) (by decide) (by decide)
  obtain ⟨cur, hc⟩ := g2.2.2.type rfl
  have p2 := pipK_type p1 g2.2.1 (by decide) (by decide) (by decide)
  have p3 := pipK_type p2 hc (by decide) (by decide) (by decide)
  refine ⟨fun q hq => ?_, fun _ => KH w0 W.heap.size gb gg, fun i hi => ?_, fun i k hi hk ne => by omega, fun i hi q hq => hq⟩
  · have := p3.there
    rcases hq with h | h | h | h
    · exact this q (.inl (.inl (.inl h)))
    · exact this q (.inl (.inl (.inr h)))
    · exact this q (.inl (.inr h))
    · exact this q (.inr h)
  · obtain rfl : i = 0 := by omega
    refine p3.less (fun q hq => ?_)
    rcases hq with h | h | h | h
    · exact .inl (.inl (.inl h))
    · exact .inl (.inl (.inr h))
    · exact .inl (.inr h)
    · exact .inr h

/-- one more -/
theorem HalfN.step {w0 W W1 : World} {b gb gg gc n pc : Nat} {c : Cfg} {dv fv : Value} {l : List Tri} {fs : List (Int × Int)} {x : St} {p : Nat → Nat} {k : Nat} (h : HalfN w0 W b gb gg gc n c dv fv l fs x p k) (hk : k < n) (X1 : Ext W W1) (hp : PipK (fun i => i < W.heap.size) W1 pc c.2.2.1 (ord (x.1.getD k []))) :
    ∃ v' w', (Builtin.append_ #[56, 56] 56 #[dv, .slice (some ⟨W1.heap.size, 0, none⟩) 1 1]).run Try.prog (W1.alloc (.cells #[.pointer (some ⟨pc, 0, none⟩)] 57)) = .ok v' w' ∧ (∃ ao cp, v' = .slice ao (k + 1) cp) ∧
      W1.cell? ⟨b, 2, none⟩ = some dv ∧ w'.cell? ⟨b, 2, none⟩ = some dv ∧ w'.frozen? ⟨b, 2, none⟩ = false ∧ HalfN w0 (w'.setCell ⟨b, 2, none⟩ v') b gb gg gc n c v' fv l fs x (upd p (k + 1) pc) (k + 1) := by
  obtain ⟨h1, h2, h3, h4, h5, h6, h7⟩ := h
  have n64 := h3.1.2.1
  obtain ⟨W2, e2⟩ : ∃ W2, W2 = W1.alloc (.cells #[.pointer (some ⟨pc, 0, none⟩)] 57) := ⟨_, rfl⟩
  have X2 : Ext W1 W2 := by rw [e2]; exact (Ext.refl W1).alloc _
  have X := X1.trans X2
  have F2 := (h7.add X1 hp (fun q hq => hq)).ext X2
  have N2 := h4.ext X
  obtain ⟨v', w', r, o, gb', hv⟩ := append_rows elemsPt encPt 56 W2 dv _ N2.1 (.slice (some ⟨W1.heap.size, 0, none⟩) 1 1) [pc] (by rw [e2]; exact one_row encPt 57 W1 pc) (by simp; omega)
  have o' : Own penc 57 1 w' v' ((List.range (k + 1)).map fun i => upd p (k + 1) pc (i + 1)) := by
    have e : ((List.range (k + 1)).map fun i => upd p (k + 1) pc (i + 1)) = ((List.range k).map fun i => p (i + 1)) ++ [pc] := by
      rw [List.range_succ, List.map_append]
      congr 1
      · apply List.map_congr_left
        intro i hi
        have := List.mem_range.1 hi
        exact upd_other _ _ (by omega)
      · simp [upd_same]
    rw [e]
    exact o
  have b2 := X.row h2
  have nb : dv.ownBlock ≠ some b := N2.1.apart b2 (by decide)
  have G2 := h3.ext X
  have ngb : dv.ownBlock ≠ some gb := N2.1.apart G2.2.1 (by decide)
  obtain ⟨curg, hcg⟩ := G2.2.2.type rfl
  have ngg : dv.ownBlock ≠ some gg := N2.1.apart hcg (by decide)
  have F := h5.ext X
  have k3 : Kept (fun q => dv.ownBlock ≠ some q) W2 w' := (Kept.refl _ W2).grown gb' (fun k hk h => h hk)
  have b3 := k3.row nb b2
  have G3 := G2.kept k3 ngb ngg
  have nfv : ∀ q, fv.ownBlock = some q → dv.ownBlock ≠ some q := fun q hq => by
    obtain ⟨cur, hc⟩ := F.1.type hq
    exact N2.1.apart hc (by decide)
  have f3 : Own pr 63 2 w' fv (fs.drop x.2.1) := F.1.kept k3 nfv
  have lt3 : W2.heap.size ≤ w'.heap.size := k3.size
  have FM3 : Fam (KH w0 b gb gg) w' c.2.2.1 (k + 1 + 1) (upd p (k + 1) pc) (upd (lsf x n) (k + 1) (ord (x.1.getD k []))) := by
    rcases hd : dv.ownBlock with _ | g
    · exact (F2.keep k3 (fun q _ => .inr (by rw [hd]; simp))).less (fun q hq => .inl hq)
    · obtain ⟨cur, hc⟩ := N2.1.type hd
      have F2' := fam_type F2 hc (by decide) (by decide) (by decide)
      refine (F2'.keep k3 (fun q _ => ?_)).less (fun q hq => .inl (.inl hq))
      by_cases e : q = g
      · exact .inl (.inr e)
      · exact .inr (by rw [hd]; simp; exact fun q => e q.symm)
  have nv' : v'.ownBlock ≠ some b := o'.apart b3 (by decide)
  have ngb' : gb ≠ b := by
    rintro rfl
    have := G3.2.1
    rw [b3] at this
    simp at this
  have ngg' : gg ≠ b := by
    rintro rfl
    obtain ⟨cur, hc⟩ := G3.2.2.type rfl
    rw [b3] at hc
    simp at hc
  have nfv' : fv.ownBlock ≠ some b := f3.apart b3 (by decide)
  have k4 : Kept (fun q => q ≠ b) w' (w'.setCell ⟨b, 2, none⟩ v') := (Kept.refl _ w').setCell (fun hne => hne rfl) _
  have ext0 : Ext w0 (w'.setCell ⟨b, 2, none⟩ v') := by
    have x0 := h4.2.2.trans X
    have x1 : Below w0.heap.size W2 w' := k3.below x0.size (fun i hi e => by have := N2.2.1 i e; omega)
    have x2 : Below w0.heap.size w' (w'.setCell ⟨b, 2, none⟩ v') := k4.below (Nat.le_trans x0.size lt3) (fun i hi => by have := h6.1; omega)
    exact Below.trans (Below.trans x0 x1) x2
  refine ⟨v', w', ?_, ?_, ?_, ?_, frozen_of_row _ _ _ _ _ b3, h1, ?_, G3.kept k4 ngb' ngg', ⟨o'.kept k4 (fun g hg e => nv' (e ▸ hg)), fun q hq => ?_, ext0⟩, ⟨f3.kept k4 (fun g hg e => nfv' (e ▸ hg)), h5.2.1, ext0⟩, h6, ?_⟩
  · rw [← e2]; exact r
  · obtain ⟨ao, cp, e, _⟩ := o'.view encPt
    rw [List.length_map, List.length_range] at e
    exact ⟨ao, cp, e⟩
  · rw [cell_of_row W1 b 2 _ _ _ (X1.row h2)]; rfl
  · rw [cell_of_row w' b 2 _ _ _ b3]; rfl
  · have q := setRow_heap w' b _ ((nrow gb c.2.1 dv (p 0) fv (x.2.1 : Int) x.2.2).setIfInBounds 2 v') _ _ b3
    rw [← setCell_eq_setRow _ _ _ _ _ _ _ b3] at q
    rw [q, upd_other _ _ (by omega)]
    rfl
  · rcases hv with e | e
    · rw [e] at hq; exact N2.2.1 q hq
    · rw [e] at hq
      simp only [Option.some.injEq] at hq
      have := N2.2.2.size
      omega
  · refine ((FM3.but k4 (.inr (.inl rfl))).less (fun q hq => .inl hq)).congr (fun _ _ => rfl) (fun i hi => ?_)
    unfold upd
    split
    · next e => subst e; unfold lsf; rw [if_neg (by omega)]; rfl
    · rfl

/-- all there -/
theorem HalfN.done {w0 W : World} {b gb gg gc n : Nat} {c : Cfg} {dv fv : Value} {l : List Tri} {fs : List (Int × Int)} {x : St} {p : Nat → Nat} (h : HalfN w0 W b gb gg gc n c dv fv l fs x p n) :
    NetK (fun q => q < w0.heap.size) W b (fun i => if i < n then p (i + 1) else p 0) c l fs x ∧ Ext w0 W := by
  obtain ⟨h1, h2, h3, h4, h5, h6, h7⟩ := h
  have nb : dv.ownBlock ≠ some b := h4.1.apart h2 (by decide)
  have nfb : fv.ownBlock ≠ some b := h5.1.apart h2 (by decide)
  obtain ⟨curg, hcg⟩ := h3.2.2.type rfl
  have ng : dv.ownBlock ≠ some gg := h4.1.apart hcg (by decide)
  have nfg : fv.ownBlock ≠ some gg := h5.1.apart hcg (by decide)
  have F0 := fam_perm h7 (fun i => if i < n then i + 1 else 0) (fun i hi => by split <;> omega) (fun i k hi hk e => by split at e <;> split at e <;> omega)
  have J : ∀ v : Value, (∀ g, v.ownBlock = some g → ∃ cur t, W.heap[g]? = some (.cells cur t (0, 0)) ∧ 98 ≠ t ∧ 101 ≠ t ∧ 5 ≠ t) → ∀ K', Fam K' W c.2.2.1 (n + 1) (fun i => p (if i < n then i + 1 else 0)) (fun i => lsf x n (if i < n then i + 1 else 0)) → Fam (fun q => K' q ∨ v.ownBlock = some q) W c.2.2.1 (n + 1) (fun i => p (if i < n then i + 1 else 0)) (fun i => lsf x n (if i < n then i + 1 else 0)) := by
    intro v hv K' F
    rcases hd : v.ownBlock with _ | g
    · exact F.less (fun q hq => hq.elim id (fun e => by simp at e))
    · obtain ⟨cur, t, hc, t1, t2, t3⟩ := hv g hd
      exact (fam_type F hc t1 t2 t3).less (fun q hq => hq.imp id (fun e => by simp at e; exact e.symm))
  have F1 := J dv (fun g hg => by obtain ⟨cur, hc⟩ := h4.1.type hg; exact ⟨cur, _, hc, by decide, by decide, by decide⟩) _ F0
  have F2 := J fv (fun g hg => by obtain ⟨cur, hc⟩ := h5.1.type hg; exact ⟨cur, _, hc, by decide, by decide, by decide⟩) _ F1
  refine ⟨⟨fun q => (KH w0 b gb gg q ∨ dv.ownBlock = some q) ∨ fv.ownBlock = some q, gb, gg, gc, n, dv, fv, h1, ?_, h3, ?_, ?_, ⟨by omega, by omega, by omega⟩, ⟨.inl (.inl (.inr (.inl rfl))), .inl (.inl (.inr (.inr (.inl rfl)))), .inl (.inl (.inr (.inr (.inr rfl))))⟩, fun q hq => .inl (.inl (.inl hq)), ?_⟩, h4.2.2⟩
  · rw [h2]
    simp
  · have e : ((List.range n).map fun i => if i < n then p (i + 1) else p 0) = ((List.range n).map fun i => p (i + 1)) := by
      apply List.map_congr_left
      intro i hi
      rw [if_pos (List.mem_range.1 hi)]
    rw [e]
    exact h4.1.row.mono (by decide) (fun q _ hq => ⟨.inl (.inr hq), by have := h4.2.1 q hq; omega, fun e => nb (e ▸ hq), fun e => ng (e ▸ hq)⟩)
  · exact h5.1.row.mono (by decide) (fun q _ hq => ⟨.inr hq, by have := h5.2.1 q hq; omega, fun e => nfb (e ▸ hq), fun e => nfg (e ▸ hq)⟩)
  · refine F2.congr (fun i hi => ?_) (fun i hi => ?_)
    · split <;> rfl
    · unfold lsf
      by_cases q : i < n
      · rw [if_pos q, if_neg (by omega)]; rfl
      · obtain rfl : i = n := by omega
        rw [if_neg q, if_pos rfl]
end Go.Proofs.Ytkhdfcjdbhhikaa.Sim

/-
  A net on its way to be made: its row, its group, the fates, the sender's pipe and as many others as there are by now.
  The walks of New, and of slices.Clone at fates.
-/
import Derived.Test.YtjmgigfaiaemeaaSimSend2
import Derived.Test.YtjmgigfaiaemeaaGrpNew
import Derived.Test.YtjmgigfaiaemeaaPipCopy
import Derived.Test.YtjmgigfaiaemeaaMCore
namespace Go.Proofs.Ytjmgigfaiaemeaa.Sim
set_option linter.unusedVariables false
set_option maxRecDepth 100000
open Go.RowKit Go.Lib Go.Proofs.Ytjmgigfaiaemeaa.Crc Go.Proofs.Ytjmgigfaiaemeaa.Grp
open Go.Proofs.Ytjmgigfaiaemeaa.Pip hiding NewR

/-- a block of another type joins K -/
theorem pipK_type {K : Nat → Prop} {w : World} {b : Nat} {room : Int} {l : Ms} (h : PipK K w b room l) {g : Nat} {cs : Array Value} {t : TypeId} {fr : Nat × Nat} (hg : w.heap[g]? = some (.cells cs t fr)) (h1 : 96 ≠ t) (h2 : 99 ≠ t) (h3 : 5 ≠ t) : PipK (fun i => K i ∨ i = g) w b room l := by
  obtain ⟨r, v, ml, u, e⟩ := h
  refine ⟨r, v, ml, u.join (L := fun i => i = g) ?_ ?_ ?_ ?_, e⟩
  · rintro rfl
    have := u.1.1
    rw [hg] at this
    simp at this
    exact h1 this.2.1.symm
  · rintro k hk rfl
    obtain ⟨cur, hc⟩ := ownM_type u.1.2.1 hk
    rw [hg] at hc
    simp at hc
    exact h2 hc.2.1.symm
  · rintro p hp k hk rfl
    obtain ⟨cur, hc⟩ := ownB_type (u.1.2.2 p hp).2 hk
    rw [hg] at hc
    simp at hc
    exact h3 hc.2.1.symm
  · rintro i rfl
    exact lt_of_row hg
theorem fam_type {K : Nat → Prop} {w : World} {room : Int} {n : Nat} {bs : Nat → Nat} {ls : Nat → Ms} (h : Fam K w room n bs ls) {g : Nat} {cs : Array Value} {t : TypeId} {fr : Nat × Nat} (hg : w.heap[g]? = some (.cells cs t fr)) (h1 : 96 ≠ t) (h2 : 99 ≠ t) (h3 : 5 ≠ t) : Fam (fun i => K i ∨ i = g) w room n bs ls := by
  obtain ⟨a, Ks, b1, b2, b3⟩ := h
  refine ⟨fun q hq => hq.elim (a q) (fun e => e ▸ lt_of_row hg), fun i q => Ks i q ∨ q = g, fun i hi => pipK_type (b1 i hi) hg h1 h2 h3, fun i k hi hk ne q hq => (b2 i k hi hk ne q hq).imp .inl .inl, fun i hi q hq => hq.imp (b3 i hi q) id⟩
theorem fam_perm {K : Nat → Prop} {w : World} {room : Int} {n : Nat} {bs : Nat → Nat} {ls : Nat → Ms} (h : Fam K w room n bs ls) (σ : Nat → Nat) (h1 : ∀ i, i < n → σ i < n) (h2 : ∀ i k, i < n → k < n → σ i = σ k → i = k) : Fam K w room n (fun i => bs (σ i)) (fun i => ls (σ i)) := by
  obtain ⟨a, Ks, b1, b2, b3⟩ := h
  exact ⟨a, fun i => Ks (σ i), fun i hi => b1 _ (h1 i hi), fun i k hi hk ne q hq => b2 _ _ (h1 i hi) (h1 k hk) (fun e => ne (h2 i k hi hk e)) q hq, fun i hi => b3 _ (h1 i hi)⟩

/-- the lists, the sender's first -/
def lsf (x : St) (n : Nat) (i : Nat) : Ms := if i = 0 then ord (x.1.getD n []) else ord (x.1.getD (i - 1) [])
def KH (w0 : World) (b gb gg : Nat) : Nat → Prop := fun q => q < w0.heap.size ∨ q = b ∨ q = gb ∨ q = gg
def HalfN (w0 W : World) (b gb gg gc n : Nat) (c : Cfg) (dv fv : Value) (l : List Tri) (fs : List (Int × Int)) (x : St) (p : Nat → Nat) (k : Nat) : Prop :=
  (c.1 = (n : Int) ∧ x.1.length = n + 1 ∧ 0 ≤ c.2.1 ∧ c.2.1 ≤ 64) ∧
  W.heap[b]? = some (.cells (nrow gb c.2.1 dv (p 0) fv (x.2.1 : Int) x.2.2) 56 (0, 0)) ∧
  Grp W gb gg gc n c.2.2.2.1 c.2.2.2.2 l ∧
  NewR penc 53 1 w0 W dv ((List.range k).map fun i => p (i + 1)) ∧
  NewR pr 69 2 w0 W fv (fs.drop x.2.1) ∧
  (w0.heap.size ≤ b ∧ w0.heap.size ≤ gb ∧ w0.heap.size ≤ gg) ∧
  Fam (KH w0 b gb gg) W c.2.2.1 (k + 1) p (lsf x n)

theorem HalfN.start {w0 W : World} {gb gg gc n ub : Nat} {c : Cfg} {fv : Value} {l : List Tri} {fs : List (Int × Int)} {x : St} (h1 : c.1 = (n : Int) ∧ x.1.length = n + 1 ∧ 0 ≤ c.2.1 ∧ c.2.1 ≤ 64) (h2 : Grp W gb gg gc n c.2.2.2.1 c.2.2.2.2 l) (h3 : w0.heap.size ≤ gb ∧ w0.heap.size ≤ gg)
    (h4 : PipK (fun q => q < w0.heap.size) W ub c.2.2.1 (ord (x.1.getD n []))) (h5 : NewR pr 69 2 w0 W fv (fs.drop x.2.1)) :
    HalfN w0 (W.alloc (.cells (nrow gb c.2.1 (.slice none 0 0) ub fv (x.2.1 : Int) x.2.2) 56)) W.heap.size gb gg gc n c (.slice none 0 0) fv l fs x (fun _ => ub) 0 := by
  have X := (Ext.refl W).alloc (.cells (nrow gb c.2.1 (.slice none 0 0) ub fv (x.2.1 : Int) x.2.2) 56)
  have g2 := h2.ext X
  refine ⟨h1, heap_alloc_new W _, g2, ((NewR.nil penc 53 1 w0).ext h5.2.2).ext X, h5.ext X, ⟨h5.2.2.size, h3.1, h3.2⟩, ?_⟩
  have p0 := h4.ext X
  have p1 := pipK_type p0 (heap_alloc_new W _) (by decide) (by decide) (by decide)
  obtain ⟨cur, hc⟩ := g2.2.2.type rfl
  have p2 := pipK_type p1 g2.2.1 (by decide) (by decide) (by decide)
  have p3 := pipK_type p2 hc (by decide) (by decide) (by decide)
  refine ⟨fun q hq => ?_, fun _ => KH w0 W.heap.size gb gg, fun i hi => ?_, fun i k hi hk ne => by omega, fun i hi q hq => hq⟩
  · have := p3.there
    rcases hq with h | h | h | h
    · exact this q (.inl (.inl (.inl h)))
    · exact this q (.inl (.inl (.inr h)))
    · exact this q (.inl (.inr h))
    · exact this q (.inr h)
  · obtain rfl : i = 0 := by omega
    refine p3.less (fun q hq => ?_)
    rcases hq with h | h | h | h
    · exact .inl (.inl (.inl h))
    · exact .inl (.inl (.inr h))
    · exact .inl (.inr h)
    · exact .inr h

/-- one more -/
theorem HalfN.step {w0 W W1 : World} {b gb gg gc n pc : Nat} {c : Cfg} {dv fv : Value} {l : List Tri} {fs : List (Int × Int)} {x : St} {p : Nat → Nat} {k : Nat} (h : HalfN w0 W b gb gg gc n c dv fv l fs x p k) (hk : k < n) (X1 : Ext W W1) (hp : PipK (fun i => i < W.heap.size) W1 pc c.2.2.1 (ord (x.1.getD k []))) :
    ∃ v' w', (Builtin.append_ #[52, 52] 52 #[dv, .slice (some ⟨W1.heap.size, 0, none⟩) 1 1]).run Try.prog (W1.alloc (.cells #[.pointer (some ⟨pc, 0, none⟩)] 53)) = .ok v' w' ∧ (∃ ao cp, v' = .slice ao (k + 1) cp) ∧
      W1.cell? ⟨b, 2, none⟩ = some dv ∧ w'.cell? ⟨b, 2, none⟩ = some dv ∧ w'.frozen? ⟨b, 2, none⟩ = false ∧ HalfN w0 (w'.setCell ⟨b, 2, none⟩ v') b gb gg gc n c v' fv l fs x (upd p (k + 1) pc) (k + 1) := by
  obtain ⟨h1, h2, h3, h4, h5, h6, h7⟩ := h
  have n64 := h3.1.2.1
  obtain ⟨W2, e2⟩ : ∃ W2, W2 = W1.alloc (.cells #[.pointer (some ⟨pc, 0, none⟩)] 53) := ⟨_, rfl⟩
  have X2 : Ext W1 W2 := by rw [e2]; exact (Ext.refl W1).alloc _
  have X := X1.trans X2
  have F2 := (h7.add X1 hp (fun q hq => hq)).ext X2
  have N2 := h4.ext X
  obtain ⟨v', w', r, o, gb', hv⟩ := append_rows elemsPt encPt 52 W2 dv _ N2.1 (.slice (some ⟨W1.heap.size, 0, none⟩) 1 1) [pc] (by rw [e2]; exact one_row encPt 53 W1 pc) (by simp; omega)
  have o' : Own penc 53 1 w' v' ((List.range (k + 1)).map fun i => upd p (k + 1) pc (i + 1)) := by
    have e : ((List.range (k + 1)).map fun i => upd p (k + 1) pc (i + 1)) = ((List.range k).map fun i => p (i + 1)) ++ [pc] := by
      rw [List.range_succ, List.map_append]
      congr 1
      · apply List.map_congr_left
        intro i hi
        have := List.mem_range.1 hi
        exact upd_other _ _ (by omega)
      · simp [upd_same]
    rw [e]
    exact o
  have b2 := X.row h2
  have nb : dv.ownBlock ≠ some b := N2.1.apart b2 (by decide)
  have G2 := h3.ext X
  have ngb : dv.ownBlock ≠ some gb := N2.1.apart G2.2.1 (by decide)
  obtain ⟨curg, hcg⟩ := G2.2.2.type rfl
  have ngg : dv.ownBlock ≠ some gg := N2.1.apart hcg (by decide)
  have F := h5.ext X
  have k3 : Kept (fun q => dv.ownBlock ≠ some q) W2 w' := (Kept.refl _ W2).grown gb' (fun k hk h => h hk)
  have b3 := k3.row nb b2
  have G3 := G2.kept k3 ngb ngg
  have nfv : ∀ q, fv.ownBlock = some q → dv.ownBlock ≠ some q := fun q hq => by
    obtain ⟨cur, hc⟩ := F.1.type hq
    exact N2.1.apart hc (by decide)
  have f3 : Own pr 69 2 w' fv (fs.drop x.2.1) := F.1.kept k3 nfv
  have lt3 : W2.heap.size ≤ w'.heap.size := k3.size
  have FM3 : Fam (KH w0 b gb gg) w' c.2.2.1 (k + 1 + 1) (upd p (k + 1) pc) (upd (lsf x n) (k + 1) (ord (x.1.getD k []))) := by
    rcases hd : dv.ownBlock with _ | g
    · exact (F2.keep k3 (fun q _ => .inr (by rw [hd]; simp))).less (fun q hq => .inl hq)
    · obtain ⟨cur, hc⟩ := N2.1.type hd
      have F2' := fam_type F2 hc (by decide) (by decide) (by decide)
      refine (F2'.keep k3 (fun q _ => ?_)).less (fun q hq => .inl (.inl hq))
      by_cases e : q = g
      · exact .inl (.inr e)
      · exact .inr (by rw [hd]; simp; exact fun q => e q.symm)
  have nv' : v'.ownBlock ≠ some b := o'.apart b3 (by decide)
  have ngb' : gb ≠ b := by
    rintro rfl
    have := G3.2.1
    rw [b3] at this
    simp at this
  have ngg' : gg ≠ b := by
    rintro rfl
    obtain ⟨cur, hc⟩ := G3.2.2.type rfl
    rw [b3] at hc
    simp at hc
  have nfv' : fv.ownBlock ≠ some b := f3.apart b3 (by decide)
  have k4 : Kept (fun q => q ≠ b) w' (w'.setCell ⟨b, 2, none⟩ v') := (Kept.refl _ w').setCell (fun hne => hne rfl) _
  have ext0 : Ext w0 (w'.setCell ⟨b, 2, none⟩ v') := by
    have x0 := h4.2.2.trans X
    have x1 : Below w0.heap.size W2 w' := k3.below x0.size (fun i hi e => by have := N2.2.1 i e; omega)
    have x2 : Below w0.heap.size w' (w'.setCell ⟨b, 2, none⟩ v') := k4.below (Nat.le_trans x0.size lt3) (fun i hi => by have := h6.1; omega)
    exact Below.trans (Below.trans x0 x1) x2
  refine ⟨v', w', ?_, ?_, ?_, ?_, frozen_of_row _ _ _ _ _ b3, h1, ?_, G3.kept k4 ngb' ngg', ⟨o'.kept k4 (fun g hg e => nv' (e ▸ hg)), fun q hq => ?_, ext0⟩, ⟨f3.kept k4 (fun g hg e => nfv' (e ▸ hg)), h5.2.1, ext0⟩, h6, ?_⟩
  · rw [← e2]; exact r
  · obtain ⟨ao, cp, e, _⟩ := o'.view encPt
    rw [List.length_map, List.length_range] at e
    exact ⟨ao, cp, e⟩
  · rw [cell_of_row W1 b 2 _ _ _ (X1.row h2)]; rfl
  · rw [cell_of_row w' b 2 _ _ _ b3]; rfl
  · have q := setRow_heap w' b _ ((nrow gb c.2.1 dv (p 0) fv (x.2.1 : Int) x.2.2).setIfInBounds 2 v') _ _ b3
    rw [← setCell_eq_setRow _ _ _ _ _ _ _ b3] at q
    rw [q, upd_other _ _ (by omega)]
    rfl
  · rcases hv with e | e
    · rw [e] at hq; exact N2.2.1 q hq
    · rw [e] at hq
      simp only [Option.some.injEq] at hq
      have := N2.2.2.size
      omega
  · refine ((FM3.but k4 (.inr (.inl rfl))).less (fun q hq => .inl hq)).congr (fun _ _ => rfl) (fun i hi => ?_)
    unfold upd
    split
    · next e => subst e; unfold lsf; rw [if_neg (by omega)]; rfl
    · rfl

/-- all there -/
theorem HalfN.done {w0 W : World} {b gb gg gc n : Nat} {c : Cfg} {dv fv : Value} {l : List Tri} {fs : List (Int × Int)} {x : St} {p : Nat → Nat} (h : HalfN w0 W b gb gg gc n c dv fv l fs x p n) :
    NetK (fun q => q < w0.heap.size) W b (fun i => if i < n then p (i + 1) else p 0) c l fs x ∧ Ext w0 W := by
  obtain ⟨h1, h2, h3, h4, h5, h6, h7⟩ := h
  have nb : dv.ownBlock ≠ some b := h4.1.apart h2 (by decide)
  have nfb : fv.ownBlock ≠ some b := h5.1.apart h2 (by decide)
  obtain ⟨curg, hcg⟩ := h3.2.2.type rfl
  have ng : dv.ownBlock ≠ some gg := h4.1.apart hcg (by decide)
  have nfg : fv.ownBlock ≠ some gg := h5.1.apart hcg (by decide)
  have F0 := fam_perm h7 (fun i => if i < n then i + 1 else 0) (fun i hi => by split <;> omega) (fun i k hi hk e => by split at e <;> split at e <;> omega)
  have J : ∀ v : Value, (∀ g, v.ownBlock = some g → ∃ cur t, W.heap[g]? = some (.cells cur t (0, 0)) ∧ 96 ≠ t ∧ 99 ≠ t ∧ 5 ≠ t) → ∀ K', Fam K' W c.2.2.1 (n + 1) (fun i => p (if i < n then i + 1 else 0)) (fun i => lsf x n (if i < n then i + 1 else 0)) → Fam (fun q => K' q ∨ v.ownBlock = some q) W c.2.2.1 (n + 1) (fun i => p (if i < n then i + 1 else 0)) (fun i => lsf x n (if i < n then i + 1 else 0)) := by
    intro v hv K' F
    rcases hd : v.ownBlock with _ | g
    · exact F.less (fun q hq => hq.elim id (fun e => by simp at e))
    · obtain ⟨cur, t, hc, t1, t2, t3⟩ := hv g hd
      exact (fam_type F hc t1 t2 t3).less (fun q hq => hq.imp id (fun e => by simp at e; exact e.symm))
  have F1 := J dv (fun g hg => by obtain ⟨cur, hc⟩ := h4.1.type hg; exact ⟨cur, _, hc, by decide, by decide, by decide⟩) _ F0
  have F2 := J fv (fun g hg => by obtain ⟨cur, hc⟩ := h5.1.type hg; exact ⟨cur, _, hc, by decide, by decide, by decide⟩) _ F1
  refine ⟨⟨fun q => (KH w0 b gb gg q ∨ dv.ownBlock = some q) ∨ fv.ownBlock = some q, gb, gg, gc, n, dv, fv, h1, ?_, h3, ?_, ?_, ⟨by omega, by omega, by omega⟩, ⟨.inl (.inl (.inr (.inl rfl))), .inl (.inl (.inr (.inr (.inl rfl)))), .inl (.inl (.inr (.inr (.inr rfl))))⟩, fun q hq => .inl (.inl (.inl hq)), ?_⟩, h4.2.2⟩
  · rw [h2]
    simp
  · have e : ((List.range n).map fun i => if i < n then p (i + 1) else p 0) = ((List.range n).map fun i => p (i + 1)) := by
      apply List.map_congr_left
      intro i hi
      rw [if_pos (List.mem_range.1 hi)]
    rw [e]
    exact h4.1.row.mono (by decide) (fun q _ hq => ⟨.inl (.inr hq), by have := h4.2.1 q hq; omega, fun e => nb (e ▸ hq), fun e => ng (e ▸ hq)⟩)
  · exact h5.1.row.mono (by decide) (fun q _ hq => ⟨.inr hq, by have := h5.2.1 q hq; omega, fun e => nfb (e ▸ hq), fun e => nfg (e ▸ hq)⟩)
  · refine F2.congr (fun i hi => ?_) (fun i hi => ?_)
    · split <;> rfl
    · unfold lsf
      by_cases q : i < n
      · rw [if_pos q, if_neg (by omega)]; rfl
      · obtain rfl : i = n := by omega
        rw [if_neg q, if_pos rfl]
end Go.Proofs.Ytjmgigfaiaemeaa.Sim

namespace Go.Proofs.Ytjmgigfaiaemeaa.Sim
set_option linter.unusedVariables false
set_option maxRecDepth 100000
open Go.RowKit Go.Lib Go.Proofs.Ytjmgigfaiaemeaa.Crc Go.Proofs.Ytjmgigfaiaemeaa.Grp
open Go.Proofs.Ytjmgigfaiaemeaa.Pip hiding NewR

set_option maxHeartbeats 1000000 in
theorem cloneF_any (K : Nat → Prop) (w : World) (v : Value) (l : List (Int × Int)) (hs : RowK K w v 2 (fcells pr l)) (hl : l.length ≤ 1000) :
    Calls Try.prog 19 #[v] w fun e w' => ∃ v', e = .returned v' ∧ NewR pr 69 2 w w' v' l := by
  obtain ⟨ao, cp, ev, k1, k2, vw⟩ := fates_view hs
  rcases ao with _ | a
  · have h0 : l = [] := by
      cases l with
      | nil => rfl
      | cons f r =>
        obtain ⟨g, o, e, _⟩ := vw f r rfl
        simp at e
    subst h0
    subst ev
    have N := hid (NewR.nil pr 69 2 w)
    have hn := Lib.run_eql_slice_nil_nil (P := Try.prog) w 0 cp Try.underlying24
    unfold maxLen at k2
    clear hs vw
    go_enter Try.func19, Try.ntmps19
    go_wp2_with fail
    go_ret
    exact ⟨_, rfl, N.out⟩
  · subst ev
    obtain ⟨w1, e1⟩ : ∃ w1, w1 = w.alloc (.cells #[] 69) := ⟨_, rfl⟩
    have X1 : Ext w w1 := by rw [e1]; exact (Ext.refl w).alloc _
    have N0 : NewR pr 69 2 w w1 (.slice (some ⟨w.heap.size, 0, none⟩) 0 0) [] := ⟨by rw [e1]; exact Own.made _ _ _ w, fun k hk => by simp only [Value.ownBlock, Option.some.injEq] at hk; omega, X1⟩
    obtain ⟨v', w', r, N, _⟩ := N0.put elemsFt encP 24 (.slice (some a) l.length cp) l (hs.kept (Kept.of_ext X1)) (by simp; omega)
    rw [List.nil_append] at N
    have T := hid N
    obtain ⟨a', c', e', _⟩ := N.slice
    have R := hid r
    have E1 := hid e1
    unfold maxLen at k2
    obtain ⟨Y, eY⟩ : ∃ Y, Y = l.length := ⟨_, rfl⟩
    rw [← eY] at e' R k1 hl
    rw [← eY]
    subst e'
    clear hs N X1 N0 r e1 eY vw
    have hn := Lib.run_eql_slice_some_nil (P := Try.prog) w a Y cp Try.underlying24
    go_enter Try.func19, Try.ntmps19
    go_wp2_with (at_builtin; rw [← E1.out]; refine wpList_append_run _ rfl (.tmp 5) (.tmp 6) 24 24 rfl _ _ rfl rfl _ _ R.out ?_)
    go_ret
    exact ⟨_, rfl, T.out⟩

/-- a row of such numbers -/
theorem ccs_cells (c : Cfg) (w W : World) (X : Ext (w.alloc (.cells (ccs c) 23)) W) : W.cell? ⟨w.heap.size, 0, none⟩ = some (.int .i64 c.1) ∧ W.cell? ⟨w.heap.size, 1, none⟩ = some (.int .i64 c.2.1) ∧ W.cell? ⟨w.heap.size, 2, none⟩ = some (.int .i64 c.2.2.1) ∧ W.cell? ⟨w.heap.size, 3, none⟩ = some (.int .i64 c.2.2.2.1) ∧ W.cell? ⟨w.heap.size, 4, none⟩ = some (.int .i64 c.2.2.2.2) := by
  have r := X.row (heap_alloc_new w (.cells (ccs c) 23))
  refine ⟨?_, ?_, ?_, ?_, ?_⟩ <;> (rw [cell_of_row _ _ _ _ _ _ r]; rfl)

set_option maxHeartbeats 1000000 in
theorem new_bad (c : Cfg) (fv : Value) (w : World) (h : ¬ okCfg c) :
    Calls Try.prog 8 #[.agg (ccs c), fv] w fun e w' => e = .returned (.tuple #[.pointer none, .int .i64 11]) ∧ Ext w w' := by
  obtain ⟨W0, e0⟩ : ∃ W0, W0 = w.alloc (.cells (ccs c) 23) := ⟨_, rfl⟩
  have X0 : Ext w W0 := by rw [e0]; exact (Ext.refl w).alloc _
  have C0 := ccs_cells c w W0 (by rw [e0]; exact Ext.refl _)
  have CC : Hid (∀ W, Ext W0 W → _) := fun W hW => ccs_cells c w W (by rw [← e0]; exact hW)
  obtain ⟨c1, c2, c3, c4, c5⟩ := c
  unfold okCfg at h
  simp only at h C0 CC
  obtain ⟨y0, y1, y2, y3, y4⟩ := C0
  by_cases hg : c1 < 1 ∨ 64 < c1 ∨ c4 < 0 ∨ 64 < c4 ∨ c5 < 0 ∨ 64 < c5
  · have G := hid (Grp.new_bad c1 c4 c5 W0 hg)
    unfold ccs at e0
    simp only at e0
    rw [e0] at y0 y1 y2 y3 y4
    have E0 := hid e0
    have XX := hid X0
    clear h hg e0 X0 CC
    unfold ccs
    go_enter Try.func8, Try.ntmps8
    go_wp2_with fail
    rw [← E0.out]
    refine G.out.mono ?_
    rintro e w1 ⟨rfl, rfl⟩
    go_wp2_with fail
    go_ret2
    exact ⟨rfl, XX.out⟩
  · obtain ⟨n, rfl⟩ : ∃ n : Nat, c1 = (n : Int) := ⟨c1.toNat, by omega⟩
    have G := hid (Grp.new_any n c4 c5 W0 (by omega) (by omega) (by omega) (by omega) (by omega) (by omega))
    unfold ccs at e0
    simp only at e0
    by_cases hr : c3 < 1 ∨ 256 < c3
    · have P : Hid (∀ W, Calls Try.prog 18 #[.int .i64 c3] W fun e w' => e = .returned (.tuple #[.pointer none, .int .i64 11]) ∧ w' = W) := fun W => Pip.new_bad c3 W hr
      rw [e0] at y0 y1 y2 y3 y4
      have E0 := hid e0
      have XX := hid X0
      clear h hg e0 X0 hr
      unfold ccs
      go_enter Try.func8, Try.ntmps8
      go_wp2_with fail
      rw [← E0.out]
      refine G.out.mono ?_
      rintro e w1 ⟨gb, gg, gc, rfl, g, g1, g2, x1⟩
      obtain ⟨z0, z1, z2, z3, z4⟩ := CC.out w1 x1
      have P1 := hid (P.out w1)
      have X1 := hid (XX.out.trans x1)
      clear g g1 g2 x1 G y0 y1 y2 y3 y4 P
      go_wp2_with fail
      refine P1.out.mono ?_
      rintro e w2 ⟨rfl, rfl⟩
      go_wp2_with fail
      go_ret2
      exact ⟨rfl, X1.out⟩
    · have P : Hid (∀ W, Calls Try.prog 18 #[.int .i64 c3] W fun e w' => e = .returned (.tuple #[.pointer (some ⟨W.heap.size, 0, none⟩), .int .i64 0]) ∧ w' = W.alloc (.cells #[.int .i64 c3, .slice none 0 0] 96 (0, 0))) := fun W => Pip.new_any c3 W (by omega) (by omega)
      have hd : c2 < 0 ∨ 64 < c2 := by omega
      rw [e0] at y0 y1 y2 y3 y4
      have E0 := hid e0
      have XX := hid X0
      clear h hg e0 X0 hr
      unfold ccs
      rcases hd with hd | hd
      · go_enter Try.func8, Try.ntmps8
        go_wp2_with fail
        rw [← E0.out]
        refine G.out.mono ?_
        rintro e w1 ⟨gb, gg, gc, rfl, g, g1, g2, x1⟩
        obtain ⟨z0, z1, z2, z3, z4⟩ := CC.out w1 x1
        have P1 := hid (P.out w1)
        have X1 := hid (XX.out.trans x1)
        have xx1 := hid x1
        clear g g1 g2 x1 G y0 y1 y2 y3 y4 P
        go_wp2_with fail
        refine P1.out.mono ?_
        rintro e w2 ⟨rfl, e2⟩
        have X2 : Ext w1 w2 := by rw [e2]; exact (Ext.refl w1).alloc _
        obtain ⟨v0, v1, v2, v3, v4⟩ := CC.out w2 (xx1.out.trans X2)
        have X3 := hid (X1.out.trans X2)
        clear e2 X2 z0 z1 z2 z3 z4
        go_wp2_with fail
        go_ret2
        exact ⟨rfl, X3.out⟩
      · have hd2 : ¬ c2 < 0 := by omega
        go_enter Try.func8, Try.ntmps8
        go_wp2_with fail
        rw [← E0.out]
        refine G.out.mono ?_
        rintro e w1 ⟨gb, gg, gc, rfl, g, g1, g2, x1⟩
        obtain ⟨z0, z1, z2, z3, z4⟩ := CC.out w1 x1
        have P1 := hid (P.out w1)
        have X1 := hid (XX.out.trans x1)
        have xx1 := hid x1
        clear g g1 g2 x1 G y0 y1 y2 y3 y4 P
        go_wp2_with fail
        refine P1.out.mono ?_
        rintro e w2 ⟨rfl, e2⟩
        have X2 : Ext w1 w2 := by rw [e2]; exact (Ext.refl w1).alloc _
        obtain ⟨v0, v1, v2, v3, v4⟩ := CC.out w2 (xx1.out.trans X2)
        have X3 := hid (X1.out.trans X2)
        clear e2 X2 z0 z1 z2 z3 z4
        go_wp2_with fail
        go_ret2
        exact ⟨rfl, X3.out⟩

/-- nothing on its way, no fate used, nothing counted -/
def st0 (n : Nat) : St := (List.replicate (n + 1) [], 0, (0, 0, 0, 0, 0, 0))
theorem st0_at (n i : Nat) : (st0 n).1.getD i [] = [] := by
  unfold st0
  rw [List.getD_eq_getElem?_getD, List.getElem?_replicate]
  split <;> rfl

set_option maxHeartbeats 4000000 in
theorem new_net (c : Cfg) (n : Nat) (hn : c.1 = (n : Int)) (hc : okCfg c) (K : Nat → Prop) (fv : Value) (fs : List (Int × Int)) (w : World) (hF : RowK K w fv 2 (fcells pr fs)) (hl : fs.length ≤ 1000) :
    Calls Try.prog 8 #[.agg (ccs c), fv] w fun e w' => ∃ b bs, e = .returned (.tuple #[.pointer (some ⟨b, 0, none⟩), .int .i64 0]) ∧ NetK (fun q => q < w.heap.size) w' b bs c [] fs (st0 n) ∧ Ext w w' := by
  obtain ⟨W0, e0⟩ : ∃ W0, W0 = w.alloc (.cells (ccs c) 23) := ⟨_, rfl⟩
  have X0 : Ext w W0 := by rw [e0]; exact (Ext.refl w).alloc _
  have C0 := ccs_cells c w W0 (by rw [e0]; exact Ext.refl _)
  have CC : Hid (∀ W, Ext W0 W → _) := fun W hW => ccs_cells c w W (by rw [← e0]; exact hW)
  obtain ⟨c1, c2, c3, c4, c5⟩ := c
  simp only at hn
  subst hn
  unfold okCfg at hc
  simp only at hc C0 CC
  obtain ⟨o1, o2, o3, o4, o5, o6, o7, o8, o9, o10⟩ := hc
  obtain ⟨y0, y1, y2, y3, y4⟩ := C0
  have G := hid (Grp.new_any n c4 c5 W0 (by omega) (by omega) (by omega) (by omega) (by omega) (by omega))
  have P : Hid (∀ W, Calls Try.prog 18 #[.int .i64 c3] W fun e w' => e = .returned (.tuple #[.pointer (some ⟨W.heap.size, 0, none⟩), .int .i64 0]) ∧ w' = W.alloc (.cells #[.int .i64 c3, .slice none 0 0] 96 (0, 0))) := fun W => Pip.new_any c3 W (by omega) (by omega)
  have NP : Hid (∀ W : World, PipK (fun i => i < W.heap.size) (W.alloc (.cells #[.int .i64 c3, .slice none 0 0] 96 (0, 0))) W.heap.size c3 []) := fun W => new_pipe c3 W (by omega) (by omega)
  have CL : Hid (∀ W, Ext w W → Calls Try.prog 19 #[fv] W fun e w' => ∃ v', e = .returned v' ∧ NewR pr 69 2 W w' v' fs) := fun W hW => cloneF_any K W fv fs (hF.kept (Kept.of_ext hW)) hl
  unfold ccs at e0
  simp only at e0
  rw [e0] at y0 y1 y2 y3 y4
  have E0 := hid e0
  have XX := hid X0
  clear e0 X0 hF
  unfold ccs
  go_enter Try.func8, Try.ntmps8
  go_wp2_with fail
  rw [← E0.out]
  refine G.out.mono ?_
  rintro e w1 ⟨gb, gg, gc, rfl, g, g1, g2, x1⟩
  obtain ⟨z0, z1, z2, z3, z4⟩ := CC.out w1 x1
  have P1 := hid (P.out w1)
  have G1 := hid g
  have G2 : Hid (w.heap.size ≤ gb ∧ w.heap.size ≤ gg) := ⟨Nat.le_trans XX.out.size g1, Nat.le_trans XX.out.size g2⟩
  have X1 := hid (XX.out.trans x1)
  have xx1 := hid x1
  clear g g1 g2 x1 G y0 y1 y2 y3 y4 P
  go_wp2_with fail
  refine P1.out.mono ?_
  rintro e w2 ⟨rfl, e2⟩
  have X2 : Ext w1 w2 := by rw [e2]; exact (Ext.refl w1).alloc _
  have x2 := xx1.out.trans X2
  have CC2 : Hid (∀ W, Ext w2 W → _) := fun W hW => CC.out W (x2.trans hW)
  obtain ⟨v0, v1, v2, v3, v4⟩ := CC.out w2 x2
  have X3 := hid (X1.out.trans X2)
  have PU : Hid (PipK (fun q => q < w.heap.size) w2 w1.heap.size c3 []) := by
    have q := NP.out w1
    rw [← e2] at q
    exact q.less (fun q hq => Nat.lt_of_lt_of_le hq X1.out.size)
  have GU := hid (G1.out.ext X2)
  have CL2 := hid (CL.out w2.drew (X3.out.trans ((Ext.refl w2).drewN 1)))
  obtain ⟨ub, eub⟩ : ∃ ub, ub = w1.heap.size := ⟨_, rfl⟩
  rw [← eub] at PU
  rw [← eub]
  clear e2 X2 x2 z0 z1 z2 z3 z4 eub CC NP G1 P1 CL
  go_wp2_with fail
  refine wp_region_held_drew (S := fun V => Ext w2 V) (by kernel_rfl) (Below.drew (Ext.refl w2)) (fun hHeld => ?_)
  refine takeE (v := ?_) 0 40 rfl rfl (by kernel_rfl) (by kernel_rfl) (by kernel_rfl) (fun _ _ _ h => h) (Or.inl ⟨by rfl, fun V hV => ?_⟩) hHeld ?_
  rotate_left
  · (go_simp; try with_reducible rfl)
  simp only [Act.put, List.setIfInBounds_toArray, List.set_cons_zero, List.set_cons_succ]
  refine takeE (v := ?_) 1 41 rfl rfl (by kernel_rfl) (by kernel_rfl) (by kernel_rfl) (fun _ _ _ h => h) (Or.inl ⟨by rfl, fun V hV => ?_⟩) hHeld ?_
  rotate_left
  · (go_simp; try with_reducible rfl)
  simp only [Act.put, List.setIfInBounds_toArray, List.set_cons_zero, List.set_cons_succ]
  refine takeE (v := ?_) 2 42 rfl rfl (by kernel_rfl) (by kernel_rfl) (by kernel_rfl) (fun _ _ _ h => h) (Or.inl ⟨by rfl, fun V hV => ?_⟩) hHeld ?_
  rotate_left
  · (have y1 := hV.cell v1; go_simp; try with_reducible rfl)
  simp only [Act.put, List.setIfInBounds_toArray, List.set_cons_zero, List.set_cons_succ]
  refine takeE (v := ?_) 3 43 rfl rfl (by kernel_rfl) (by kernel_rfl) (by kernel_rfl) (fun _ _ _ h => h) (Or.inl ⟨by rfl, fun V hV => ?_⟩) hHeld ?_
  rotate_left
  · (go_simp; try with_reducible rfl)
  simp only [Act.put, List.setIfInBounds_toArray, List.set_cons_zero, List.set_cons_succ]
  refine takeE (v := ?_) 4 44 rfl rfl (by kernel_rfl) (by kernel_rfl) (by kernel_rfl) (fun _ _ _ h => h) (Or.inl ⟨by rfl, fun V hV => ?_⟩) hHeld ?_
  rotate_left
  · (go_simp; try with_reducible rfl)
  simp only [Act.put, List.setIfInBounds_toArray, List.set_cons_zero, List.set_cons_succ]
  refine callE 5 45 rfl rfl (by kernel_rfl) (by rfl) (by go_simp; first | exact ⟨rfl, rfl⟩ | rfl) ?_
  refine CL2.out.mono ?_
  rintro e w3 ⟨v, rfl, nr⟩
  have X23 : Ext w2 w3 := (show Ext w2 w2.drew from (Ext.refl w2).drewN 1).trans nr.2.2
  have NR : Hid (NewR pr 69 2 w w3 v (fs.drop 0)) := ⟨nr.1, fun k hk => Nat.le_trans X3.out.size (nr.2.1 k hk), X3.out.trans X23⟩
  have HS := hid (HalfN.start (c := ((n : Int), c2, c3, c4, c5)) (n := n) (x := st0 n) (fs := fs) (l := []) ⟨rfl, by simp [st0], by simp only; omega, by simp only; omega⟩ (GU.out.ext X23) G2.out (by rw [st0_at]; exact PU.out.ext X23) NR.out)
  obtain ⟨ao, c, ev, _⟩ := nr.slice
  have CCW := hid (CC2.out _ (X23.alloc (.cells (nrow gb c2 (.slice none 0 0) ub v 0 (0, 0, 0, 0, 0, 0)) 56)))
  have X23' := hid X23
  subst ev
  clear nr CL2
  refine ⟨_, rfl, X23, ?_⟩
  simp only [Act.put, List.setIfInBounds_toArray, List.set_cons_zero, List.set_cons_succ]
  refine takeE (v := ?_) 6 46 rfl rfl (by kernel_rfl) (by kernel_rfl) (by kernel_rfl) (fun _ _ _ h => h) (Or.inl ⟨by rfl, fun V hV => ?_⟩) X23 ?_
  rotate_left
  · (go_simp; try with_reducible rfl)
  simp only [Act.put, List.setIfInBounds_toArray, List.set_cons_zero, List.set_cons_succ]
  refine knownE 7 47 rfl rfl (by kernel_rfl) (by rfl) (w' := w3.alloc (.cells (nrow gb c2 (.slice none 0 0) ub (.slice ao fs.length c) 0 (0, 0, 0, 0, 0, 0)) 56)) (v := .pointer (some ⟨w3.heap.size, 0, none⟩)) (by go_simp; rfl) (X23.alloc _) ?_
  simp only [Act.put, List.setIfInBounds_toArray, List.set_cons_zero, List.set_cons_succ]
  refine takeE (v := ?_) 8 9 rfl rfl (by kernel_rfl) (by kernel_rfl) (by kernel_rfl) (fun _ _ _ h => h) (Or.inl ⟨by rfl, fun V hV => ?_⟩) (X23.alloc _) ?_
  rotate_left
  · (go_simp; try with_reducible rfl)
  simp only [Act.put, List.setIfInBounds_toArray, List.set_cons_zero, List.set_cons_succ]
  refine wpAnyH_done (by kernel_rfl) ?_ _
  obtain ⟨W4, e4⟩ : ∃ W4, W4 = w3.alloc (.cells (nrow gb c2 (.slice none 0 0) ub (.slice ao fs.length c) 0 (0, 0, 0, 0, 0, 0)) 56) := ⟨_, rfl⟩
  obtain ⟨b, eb⟩ : ∃ b, b = w3.heap.size := ⟨_, rfl⟩
  have HH : Hid (HalfN w W4 b gb gg gc n ((n : Int), c2, c3, c4, c5) (.slice none 0 0) (.slice ao fs.length c) [] fs (st0 n) (fun _ => ub) 0) := by rw [e4, eb]; exact HS.out
  rw [← e4] at CCW
  rw [← e4, ← eb]
  obtain ⟨u0, u1, u2, u3, u4⟩ := CCW.out
  clear HS CCW e4 eb X23 NR PU GU
  go_wp2_with fail
  go_loopw [50] (fun iv wr => ∃ (k : Nat) (dv : Value) (p : Nat → Nat), k ≤ n ∧ iv = .int .i64 (k : Int) ∧ p 0 = ub ∧ Hid (HalfN w wr b gb gg gc n ((n : Int), c2, c3, c4, c5) dv (.slice ao fs.length c) [] fs (st0 n) p k)) (fun iv _ => (n - intOf iv).toNat)
  case atStart => exact ⟨0, _, _, by omega, rfl, rfl, HH⟩
  case round =>
    obtain ⟨k, dv, p, hk, rfl, hp, hr⟩ := hrel
    clear HH
    by_cases q : k < n
    · have i1 : (k : Int) < (n : Int) := by omega
      obtain ⟨Ki, pk, _, _⟩ := hr.out.2.2.2.2.2.2.one (i := 0) (by omega)
      have e1 : lsf (st0 n) n 0 = [] := by unfold lsf; rw [if_pos rfl, st0_at]; rfl
      rw [e1, hp] at pk
      have CP : Hid (Calls Try.prog 20 #[.pointer (some ⟨ub, 0, none⟩)] wr.drew fun e w' => ∃ pc, e = .returned (.pointer (some ⟨pc, 0, none⟩)) ∧ Ext wr w' ∧ PipK (fun i => i < wr.heap.size) w' pc c3 (ord ((st0 n).1.getD k []))) := by
        refine (Pip.copy_any Ki ub c3 [] wr.drew (pk.ext ((Ext.refl wr).drewN 1))).mono ?_
        rintro e w' ⟨pc, rfl, _, h2, h3⟩
        rw [st0_at]
        exact ⟨pc, rfl, (show Ext wr wr.drew from (Ext.refl wr).drewN 1).trans h3, h2⟩
      have ST : Hid (∀ W1 pc, Ext wr W1 → PipK (fun i => i < wr.heap.size) W1 pc c3 (ord ((st0 n).1.getD k [])) → _) := fun W1 pc h1 h2 => hr.out.step (W1 := W1) (pc := pc) q h1 h2
      have cb0 : wr.drew.cell? ⟨b, 2, none⟩ = some dv := by
        show wr.cell? ⟨b, 2, none⟩ = some dv
        rw [cell_of_row wr b 2 _ _ _ hr.out.2.1]; rfl
      obtain ⟨da, dc, ed, _⟩ := hr.out.2.2.2.1.slice
      rw [List.length_map, List.length_range] at ed
      subst ed
      clear hr pk e1
      go_wp2_with fail
      refine wp_region_held_drew (S := fun V => True) (by kernel_rfl) trivial (fun hHeld => ?_)
      refine takeE (v := ?_) 0 52 rfl rfl (by kernel_rfl) (by kernel_rfl) (by kernel_rfl) (fun _ _ _ h => h) (Or.inl ⟨by rfl, fun V hV => ?_⟩) hHeld ?_
      rotate_left
      · (go_simp; try with_reducible rfl)
      simp only [Act.put, List.setIfInBounds_toArray, List.set_cons_zero, List.set_cons_succ]
      refine takeE (v := ?_) 1 53 rfl rfl (by kernel_rfl) (by kernel_rfl) (by kernel_rfl) (fun _ _ _ h => h) (Or.inl ⟨by rfl, fun V hV => ?_⟩) hHeld ?_
      rotate_left
      · (go_simp; try with_reducible rfl)
      simp only [Act.put, List.setIfInBounds_toArray, List.set_cons_zero, List.set_cons_succ]
      refine takeE (v := ?_) 2 54 rfl rfl (by kernel_rfl) (by kernel_rfl) (by kernel_rfl) (fun _ _ _ h => h) (Or.inl ⟨by rfl, fun V hV => ?_⟩) hHeld ?_
      rotate_left
      · (go_simp; try with_reducible rfl)
      simp only [Act.put, List.setIfInBounds_toArray, List.set_cons_zero, List.set_cons_succ]
      refine takeE (v := ?_) 3 55 rfl rfl (by kernel_rfl) (by kernel_rfl) (by kernel_rfl) (fun _ _ _ h => h) (Or.inl ⟨by rfl, fun V hV => ?_⟩) hHeld ?_
      rotate_left
      · (go_simp; try with_reducible rfl)
      simp only [Act.put, List.setIfInBounds_toArray, List.set_cons_zero, List.set_cons_succ]
      refine takeE (v := ?_) 5 57 rfl rfl (by kernel_rfl) (by kernel_rfl) (by kernel_rfl) (fun _ _ _ h => h) (Or.inl ⟨by rfl, fun V hV => ?_⟩) hHeld ?_
      rotate_left
      · (go_simp; try with_reducible rfl)
      simp only [Act.put, List.setIfInBounds_toArray, List.set_cons_zero, List.set_cons_succ]
      refine loadCallE 4 56 6 58 rfl rfl rfl rfl (by kernel_rfl) (by rfl) (by rfl) (v := .slice da k dc) (by go_simp; try with_reducible rfl) (by go_simp; first | exact ⟨rfl, rfl⟩ | rfl) trivial ?_ ?_
      · simp only [Act.put, List.setIfInBounds_toArray, List.set_cons_zero, List.set_cons_succ]
        refine callE 6 58 rfl rfl (by kernel_rfl) (by rfl) (by go_simp; first | exact ⟨rfl, rfl⟩ | rfl) ?_
        refine CP.out.mono ?_
        rintro e W1 ⟨pc, rfl, x1, pk1⟩
        obtain ⟨v', w', r, ⟨ao', cp', e'⟩, d1, d2, d3, NX⟩ := ST.out W1 pc x1 pk1
        subst e'
        have RR := hid r
        have NN := hid NX
        clear r NX x1 pk1 CP ST
        refine ⟨_, rfl, trivial, ?_⟩
        simp only [Act.put, List.setIfInBounds_toArray, List.set_cons_zero, List.set_cons_succ]
        refine knownE 7 59 rfl rfl (by kernel_rfl) (by rfl) (v := .slice (some ⟨W1.heap.size, 0, none⟩) 1 1) (w' := W1.alloc (.cells #[.pointer (some ⟨pc, 0, none⟩)] 53)) (by go_simp; try with_reducible rfl) trivial ?_
        simp only [Act.put, List.setIfInBounds_toArray, List.set_cons_zero, List.set_cons_succ]
        refine knownE 8 60 rfl rfl (by kernel_rfl) (by rfl) (exec_append (.tmp 56) (.tmp 59) 52 rfl _ _ _ _ rfl rfl RR.out) trivial ?_
        simp only [Act.put, List.setIfInBounds_toArray, List.set_cons_zero, List.set_cons_succ]
        refine takeE (v := ?_) 9 61 rfl rfl (by kernel_rfl) (by kernel_rfl) (by kernel_rfl) (fun _ _ _ h => h) (Or.inl ⟨by rfl, fun V hV => ?_⟩) trivial ?_
        rotate_left
        · (go_simp; try with_reducible rfl)
        simp only [Act.put, List.setIfInBounds_toArray, List.set_cons_zero, List.set_cons_succ]
        refine takeE (v := ?_) 10 62 rfl rfl (by kernel_rfl) (by kernel_rfl) (by kernel_rfl) (fun _ _ _ h => h) (Or.inl ⟨by rfl, fun V hV => ?_⟩) trivial ?_
        rotate_left
        · (go_simp; try with_reducible rfl)
        simp only [Act.put, List.setIfInBounds_toArray, List.set_cons_zero, List.set_cons_succ]
        refine storeN 11 rfl rfl (by kernel_rfl) (by rfl) (w' := w'.setCell ⟨b, 2, none⟩ (.slice ao' (k + 1) cp')) (by go_simp; try with_reducible rfl) trivial ?_
        refine wpAnyH_done (by kernel_rfl) ?_ _
        go_wp2_with fail
        go_roundw
        case rel => exact ⟨k + 1, _, _, by omega, by go_num, by rw [← hp]; exact upd_other _ _ (by omega), NN⟩
        case measure => simp [intOf]; omega
      · skip
        refine CP.out.mono ?_
        rintro e W1 ⟨pc, rfl, x1, pk1⟩
        obtain ⟨v', w', r, ⟨ao', cp', e'⟩, d1, d2, d3, NX⟩ := ST.out W1 pc x1 pk1
        subst e'
        have RR := hid r
        have NN := hid NX
        clear r NX x1 pk1 CP ST
        refine ⟨_, rfl, trivial, ?_⟩
        simp only [Act.put, List.setIfInBounds_toArray, List.set_cons_zero, List.set_cons_succ]
        have d4 : (W1.alloc (.cells #[.pointer (some ⟨pc, 0, none⟩)] 53)).cell? ⟨b, 2, none⟩ = some (.slice da k dc) := ((Ext.refl W1).alloc _).cell d1
        refine bothE 4 56 7 59 rfl rfl rfl rfl (by kernel_rfl) (by kernel_rfl) (by kernel_rfl) (by rfl) (by rfl) (by rfl) (by rfl) (v := .slice da k dc) (u := .slice (some ⟨W1.heap.size, 0, none⟩) 1 1) (w' := W1.alloc (.cells #[.pointer (some ⟨pc, 0, none⟩)] 53)) (by go_simp; try with_reducible rfl) (by go_simp; try with_reducible rfl) (by go_simp; try with_reducible rfl) (by go_simp; try with_reducible rfl) trivial trivial ?_ ?_
        · simp only [Act.put, List.setIfInBounds_toArray, List.set_cons_zero, List.set_cons_succ]
          refine knownE 8 60 rfl rfl (by kernel_rfl) (by rfl) (exec_append (.tmp 56) (.tmp 59) 52 rfl _ _ _ _ rfl rfl RR.out) trivial ?_
          simp only [Act.put, List.setIfInBounds_toArray, List.set_cons_zero, List.set_cons_succ]
          refine takeE (v := ?_) 9 61 rfl rfl (by kernel_rfl) (by kernel_rfl) (by kernel_rfl) (fun _ _ _ h => h) (Or.inl ⟨by rfl, fun V hV => ?_⟩) trivial ?_
          rotate_left
          · (go_simp; try with_reducible rfl)
          simp only [Act.put, List.setIfInBounds_toArray, List.set_cons_zero, List.set_cons_succ]
          refine takeE (v := ?_) 10 62 rfl rfl (by kernel_rfl) (by kernel_rfl) (by kernel_rfl) (fun _ _ _ h => h) (Or.inl ⟨by rfl, fun V hV => ?_⟩) trivial ?_
          rotate_left
          · (go_simp; try with_reducible rfl)
          simp only [Act.put, List.setIfInBounds_toArray, List.set_cons_zero, List.set_cons_succ]
          refine storeN 11 rfl rfl (by kernel_rfl) (by rfl) (w' := w'.setCell ⟨b, 2, none⟩ (.slice ao' (k + 1) cp')) (by go_simp; try with_reducible rfl) trivial ?_
          refine wpAnyH_done (by kernel_rfl) ?_ _
          go_wp2_with fail
          go_roundw
          case rel => exact ⟨k + 1, _, _, by omega, by go_num, by rw [← hp]; exact upd_other _ _ (by omega), NN⟩
          case measure => simp [intOf]; omega
        · simp only [Act.put, List.setIfInBounds_toArray, List.set_cons_zero, List.set_cons_succ]
          refine knownE 8 60 rfl rfl (by kernel_rfl) (by rfl) (exec_append (.tmp 56) (.tmp 59) 52 rfl _ _ _ _ rfl rfl RR.out) trivial ?_
          simp only [Act.put, List.setIfInBounds_toArray, List.set_cons_zero, List.set_cons_succ]
          refine takeE (v := ?_) 9 61 rfl rfl (by kernel_rfl) (by kernel_rfl) (by kernel_rfl) (fun _ _ _ h => h) (Or.inl ⟨by rfl, fun V hV => ?_⟩) trivial ?_
          rotate_left
          · (go_simp; try with_reducible rfl)
          simp only [Act.put, List.setIfInBounds_toArray, List.set_cons_zero, List.set_cons_succ]
          refine takeE (v := ?_) 10 62 rfl rfl (by kernel_rfl) (by kernel_rfl) (by kernel_rfl) (fun _ _ _ h => h) (Or.inl ⟨by rfl, fun V hV => ?_⟩) trivial ?_
          rotate_left
          · (go_simp; try with_reducible rfl)
          simp only [Act.put, List.setIfInBounds_toArray, List.set_cons_zero, List.set_cons_succ]
          refine storeN 11 rfl rfl (by kernel_rfl) (by rfl) (w' := w'.setCell ⟨b, 2, none⟩ (.slice ao' (k + 1) cp')) (by go_simp; try with_reducible rfl) trivial ?_
          refine wpAnyH_done (by kernel_rfl) ?_ _
          go_wp2_with fail
          go_roundw
          case rel => exact ⟨k + 1, _, _, by omega, by go_num, by rw [← hp]; exact upd_other _ _ (by omega), NN⟩
          case measure => simp [intOf]; omega
    · obtain rfl : k = n := by omega
      have DN := hid hr.out.done
      clear hr
      go_wp2_with fail
      go_ret2
      exact ⟨b, _, rfl, DN.out⟩
end Go.Proofs.Ytjmgigfaiaemeaa.Sim

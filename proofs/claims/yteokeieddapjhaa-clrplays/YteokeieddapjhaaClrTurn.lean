/-
  A book whose row is turned. (Printed by wip/gen/clrput.py.)
-/
import Derived.Test.YteokeieddapjhaaClrMem
import Derived.Test.YteokeieddapjhaaClrIns
import Derived.Test.YteokeieddapjhaaClrDel
import Derived.Test.YteokeieddapjhaaStoreCore
namespace Go.Proofs.Yteokeieddapjhaa.Clr
set_option linter.unusedVariables false
set_option linter.unusedSimpArgs false
set_option maxRecDepth 100000
open Go.RowKit Go.Lib

theorem own_one (w : World) (x : Rep) : OwnR (w.alloc (.cells (rep x).toArray 43)) (.slice (some ⟨w.heap.size, 0, none⟩) 1 1) [x] := by
  refine own_of_row (Y := []) rfl ?_ (Nat.le_refl _) (by unfold maxLen; omega) rfl
  rw [heap_alloc_new w _]
  rfl
theorem Bk.ne {K : Nat → Prop} {w : World} {b : Nat} {lim : Int} {s : BS} (h : Bk K w b lim s) : ∃ v, w.cell? ⟨b, 1, none⟩ = some v ∧ w.heap[b]? = some (.cells #[.int .i64 lim, v, .int .i64 s.2] 54 (0, 0)) ∧ OwnR w v (rows 0 s.1) ∧ v.ownBlock ≠ some b ∧ ∀ g, v.ownBlock = some g → ¬ K g := by
  obtain ⟨f, l, hk, nb, v, r, o, nv⟩ := h
  exact ⟨v, by rw [cell_of_row _ _ 1 _ _ _ r]; rfl, r, o, o.apart r (by decide), nv⟩
/-- the row was turned and is stored: what the book is then -/
theorem Bk.turn {K : Nat → Prop} {w w' : World} {b : Nat} {lim : Int} {s : BS} {D : List Slot} {v v' : Value} (h : Bk K w b lim s) (hv : w.cell? ⟨b, 1, none⟩ = some v) (o : OwnR w' v' (rows 0 D)) (gb : w.grownBy w' v.ownBlock) (hn : v'.ownBlock = v.ownBlock ∨ ∃ k, v'.ownBlock = some k ∧ w.heap.size ≤ k) (f : FitB (D, s.2)) :
    Bk K (w'.setCell ⟨b, 1, none⟩ v') b lim (D, s.2) ∧ Kept K w (w'.setCell ⟨b, 1, none⟩ v') ∧ w'.frozen? ⟨b, 1, none⟩ = false := by
  obtain ⟨f0, l, hk, nb, u, r, o0, nv⟩ := h
  have eu : u = v := by
    rw [cell_of_row _ _ 1 _ _ _ r] at hv
    simpa using hv
  subst eu
  have ne := o0.apart r (by decide)
  have hb := lt_of_row r
  have r1 : w'.heap[b]? = some (.cells #[.int .i64 lim, u, .int .i64 s.2] 54 (0, 0)) := by rw [gb.block b hb (fun e => ne e.symm)]; exact r
  have sz := gb.size
  have ne' : v'.ownBlock ≠ some b := by
    rcases hn with e | ⟨k, e, hk'⟩
    · rw [e]; exact ne
    · rw [e]; intro q; simp only [Option.some.injEq] at q; omega
  have es : w'.setCell ⟨b, 1, none⟩ v' = w'.setRow b #[.int .i64 lim, v', .int .i64 s.2] := by rw [setCell_eq_setRow _ _ _ _ _ _ _ r1]; rfl
  have kb : Kept (fun i => i ≠ b) w' (w'.setCell ⟨b, 1, none⟩ v') := by rw [es]; exact (Kept.refl _ w').setRow (fun hne => hne rfl) _
  refine ⟨⟨f, l, fun i hi => ?_, nb, v', ?_, o.kept kb (fun g hg e => ne' (by rw [hg, e])), fun g hg => ?_⟩, ?_, frozen_of_row _ _ _ _ _ r1⟩
  · exact Nat.lt_of_lt_of_le (hk i hi) (Nat.le_trans sz kb.size)
  · rw [es]; exact setRow_heap _ _ _ _ _ _ r1
  · rcases hn with e | ⟨k, e, hk'⟩
    · exact nv g (by rw [← e]; exact hg)
    · rw [e, Option.some.injEq] at hg
      intro q
      have := hk g q
      omega
  · exact ((Kept.refl K w).grown gb (fun k hk' => nv k hk')).trans (kb.mono (fun i hi e => nb (e ▸ hi)))
/-- one of its reports written anew -/
theorem Bk.anew {K : Nat → Prop} {w : World} {b : Nat} {lim : Int} {s : BS} {D : List Slot} {g n c k : Nat} {y : Rep} (h : Bk K w b lim s) (hv : w.cell? ⟨b, 1, none⟩ = some (.slice (some ⟨g, 0, none⟩) n c)) (hk : k < (rows 0 s.1).length) (hD : rows 0 D = (rows 0 s.1).set k y) (f : FitB (D, s.2)) :
    ∃ w', (Instr.storeAt 43 (.pointer (some ⟨g, k * 3, none⟩)) (.agg (rep y).toArray)).run Try.prog w = .ok () w' ∧ Bk K w' b lim (D, s.2) ∧ Kept (fun i => i ≠ g) w w' ∧ Kept K w w' ∧ b ≠ g := by
  obtain ⟨f0, l, hK, nb, u, r, o0, nv⟩ := h
  have eu : u = .slice (some ⟨g, 0, none⟩) n c := by
    rw [cell_of_row _ _ 1 _ _ _ r] at hv
    simpa using hv
  subst eu
  have ne : b ≠ g := fun e => o0.apart r (by decide) (by rw [e]; rfl)
  obtain ⟨w', e1, o1, k1⟩ := o0.set encR size_rep k y hk
  refine ⟨w', e1, ⟨f, l, fun i hi => Nat.lt_of_lt_of_le (hK i hi) k1.size, nb, _, k1.row ne r, by rw [hD]; exact o1, nv⟩, k1, k1.mono (fun i hi e => nv g rfl (e ▸ hi)), ne⟩

theorem set_mid {α : Type} (A B : List α) (x y : α) : (A ++ x :: B).set A.length y = A ++ y :: B := by
  rw [List.set_append_right _ _ (Nat.le_refl _), Nat.sub_self]
  rfl
theorem rows_anew {s : BS} (h : FitB s) {f : Int} {q : Int × Int} (e : la s.1 f = some q) (t x : Int) : rows 0 (s.1.set f.toNat (some (t, x))) = (rows 0 s.1).set (lo s.1 f.toNat).length (f, t, x) := by
  have hr := (la_some h e).1
  have hq : f.toNat < s.1.length := by rw [h.1]; have := hr.1; have := hr.2; omega
  have ef : ((f.toNat : Nat) : Int) = f := by have := hr.1; omega
  have es : sat s.1 f.toNat = some q := by unfold la at e; rw [if_pos hr.1] at e; exact e
  rw [split_set hq, split hq, es]
  simp only [rw_, List.cons_append, List.nil_append, ef]
  rw [set_mid]
theorem rows_more {s : BS} (h : FitB s) {f : Int} (hr : isR f) (e : la s.1 f = none) (t x : Int) : rows 0 (s.1.set f.toNat (some (t, x))) = (rows 0 s.1).take (lo s.1 f.toNat).length ++ [(f, t, x)] ++ (rows 0 s.1).drop (lo s.1 f.toNat).length := by
  have hq : f.toNat < s.1.length := by rw [h.1]; have := hr.1; have := hr.2; omega
  have ef : ((f.toNat : Nat) : Int) = f := by have := hr.1; omega
  have es : sat s.1 f.toNat = none := by unfold la at e; rw [if_pos hr.1] at e; exact e
  rw [split_set hq, split hq, es]
  simp only [rw_, List.cons_append, List.nil_append, ef, List.append_assoc]
  rw [List.take_left, List.drop_left]
theorem rows_less {s : BS} (h : FitB s) {f : Int} {q : Int × Int} (e : la s.1 f = some q) : rows 0 (s.1.set f.toNat none) = (rows 0 s.1).take (lo s.1 f.toNat).length ++ (rows 0 s.1).drop ((lo s.1 f.toNat).length + 1) := by
  have hr := (la_some h e).1
  have hq : f.toNat < s.1.length := by rw [h.1]; have := hr.1; have := hr.2; omega
  have es : sat s.1 f.toNat = some q := by unfold la at e; rw [if_pos hr.1] at e; exact e
  rw [split_set hq, split hq, es]
  simp only [rw_, List.cons_append, List.nil_append]
  rw [List.take_left, ← List.drop_drop, List.drop_left]
  rfl
theorem lo_len {s : BS} (h : FitB s) {f : Int} (hr : isR f) : (lo s.1 f.toNat).length ≤ (rows 0 s.1).length ∧ ((la s.1 f).isSome → (lo s.1 f.toNat).length < (rows 0 s.1).length) := by
  have hq : f.toNat < s.1.length := by rw [h.1]; have := hr.1; have := hr.2; omega
  rw [split hq]
  simp only [List.length_append]
  refine ⟨by omega, fun e => ?_⟩
  unfold la at e
  rw [if_pos hr.1] at e
  obtain ⟨q, eq⟩ := Option.isSome_iff_exists.1 e
  rw [eq]
  simp only [rw_, List.length_cons, List.length_nil]
  omega

/-- a report that a receiver tells first is put in -/
theorem put_row {K : Nat → Prop} {w : World} {b bx : Nat} {lim : Int} {s : BS} {v : Value} {o : Obj} (h : Bk K w b lim s) (hv : w.cell? ⟨b, 1, none⟩ = some v) (hx : w.heap[bx]? = some o) (nb : bx ≠ b) (nv : v.ownBlock ≠ some bx) (f t x : Int) (hr : isR f) (ht : isT t) (e : la s.1 f = none) :
    Calls Try.prog 35 #[v, .int .i64 ((lo s.1 f.toNat).length : Int), .slice (some ⟨w.heap.size, 0, none⟩) 1 1] (w.alloc (.cells (rep (f, t, x)).toArray 43)) fun e w4 =>
      ∃ ao n c, e = .returned (.slice ao n c) ∧ Hid (Bk K (w4.setCell ⟨b, 1, none⟩ (.slice ao n c)) b lim (s.1.set f.toNat (some (t, x)), s.2) ∧ Kept K w (w4.setCell ⟨b, 1, none⟩ (.slice ao n c))) ∧ w4.frozen? ⟨b, 1, none⟩ = false ∧ w4.cell? ⟨b, 1, none⟩ = some v ∧ w4.heap[bx]? = some o ∧ (w4.setCell ⟨b, 1, none⟩ (.slice ao n c)).heap[bx]? = some o := by
  obtain ⟨W, eW⟩ : ∃ W, W = w.alloc (.cells (rep (f, t, x)).toArray 43) := ⟨_, rfl⟩
  have X : Ext w W := by rw [eW]; exact (Ext.refl w).alloc _
  have O1 := own_one w (f, t, x)
  rw [← eW] at O1 ⊢
  have h2 := h.ext X
  have hv2 := X.cell hv
  obtain ⟨v', ev, r, o0, ne, nk⟩ := h.ne
  rw [hv, Option.some.injEq] at ev
  subst ev
  have l64 := rows_64 h.1
  refine (insert_any W v _ _ [(f, t, x)] (lo s.1 f.toNat).length (o0.ext X) O1 (fun k hk hk' => ?_) (lo_len h.1 hr).1 (by omega) (by simp)).mono ?_
  · have := o0.lt hk
    simp only [Value.ownBlock, Option.some.injEq] at hk'
    omega
  · rintro e' w4 ⟨s', rfl, o4, gb, hn⟩
    rw [← rows_more h.1 hr e t x] at o4
    obtain ⟨ao, c, es, _⟩ := o4.view encR
    obtain ⟨N, eN⟩ : ∃ N, N = (rows 0 (s.1.set f.toNat (some (t, x)))).length := ⟨_, rfl⟩
    rw [← eN] at es
    subst es
    obtain ⟨t1, t2, t3⟩ := h2.turn hv2 o4 gb hn (fit_set h.1 _ _ _ (fun q hq => by simp at hq; rw [← hq]; exact ht))
    have hb : w4.heap[b]? = W.heap[b]? := gb.block b (lt_of_row (X.row r)) (fun q => ne q.symm)
    have hx4 : w4.heap[bx]? = some o := by rw [gb.block bx (lt_of_row (X.row hx)) (fun q => nv q.symm)]; exact X.row hx
    refine ⟨ao, N, c, rfl, ⟨t1, (Kept.of_ext X).trans t2⟩, t3, ?_, hx4, ?_⟩
    · rw [World.cell?_of_block hb]; exact hv2
    · rw [heap_setCell_other _ _ _ _ nb]; exact hx4
end Go.Proofs.Yteokeieddapjhaa.Clr

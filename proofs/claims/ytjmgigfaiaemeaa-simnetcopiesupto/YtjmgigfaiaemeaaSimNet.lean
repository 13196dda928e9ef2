/-
  A net in memory: its row, its group, its pipes, the fates that are left; none of it lies in the blocks of K. What a call on a pipe, a write of its row, a write elsewhere leaves.
-/
import Derived.Test.YtjmgigfaiaemeaaSimCase
import Derived.Test.YtjmgigfaiaemeaaPipFam
import Derived.Test.YtjmgigfaiaemeaaGrpOps
namespace Go.Proofs.Ytjmgigfaiaemeaa.Sim
set_option linter.unusedVariables false
set_option maxRecDepth 100000
open Go.RowKit Go.Lib Go.Proofs.Ytjmgigfaiaemeaa.Crc Go.Proofs.Ytjmgigfaiaemeaa.Grp
open Go.Proofs.Ytjmgigfaiaemeaa.Pip hiding NewR

/-- what is on its way to each, how many fates were used, the counts -/
abbrev St := List Ms × Nat × Cts
def fate (fs : List (Int × Int)) (u : Nat) : Int × Int := fs.getD u (0, 0)
def usd (fs : List (Int × Int)) (u : Nat) : Nat := if u < fs.length then u + 1 else u
/-- a message to one -/
def gv (c : Cfg) (fs : List (Int × Int)) (now : Int) (t : List UInt8) (x : St) (i : Nat) : St :=
  (x.1.set i (give1 (x.1.getD i []) c.2.2.1 (now + c.2.1) t (fate fs x.2.1) x.2.2).1, usd fs x.2.1, (give1 (x.1.getD i []) c.2.2.1 (now + c.2.1) t (fate fs x.2.1) x.2.2).2)
theorem gv_length (c : Cfg) (fs : List (Int × Int)) (now : Int) (t : List UInt8) (x : St) (i : Nat) : (gv c fs now t x i).1.length = x.1.length := by simp [gv]
theorem gv_bound {b : Int} (c : Cfg) (fs : List (Int × Int)) (now : Int) (t : List UInt8) (x : St) (i : Nat) (h : SB b x.2.2) : SB (b + 4) (gv c fs now t x i).2.2 := give1_bound h
theorem set_getD {α : Type} (l : List α) (i k : Nat) (y d : α) (h : i < l.length) : (l.set i y).getD k d = if k = i then y else l.getD k d := by
  rw [List.getD_eq_getElem?_getD, List.getD_eq_getElem?_getD, List.getElem?_set]
  by_cases e : i = k
  · subst e
    simp [h]
  · rw [if_neg e, if_neg (fun q => e q.symm)]

/-- pointers as they lie in cells -/
def penc (b : Nat) : List Value := [.pointer (some ⟨b, 0, none⟩)]
theorem encPt : Enc penc 1 := ⟨by decide, fun _ => rfl, fun x u h => by
  simp only [penc, List.mem_cons, List.not_mem_nil, or_false] at h
  subst h
  rfl⟩
theorem elemsPt : Elems 52 53 1 8 (.pointer none) := ⟨Try.underlying52, by kernel_rfl, rfl, by decide⟩
theorem elemsFt : Elems 24 69 2 16 (.agg #[.int .i64 0, .int .i64 0]) := ⟨Try.underlying24, by kernel_rfl, rfl, by decide⟩

/-- the net's cells -/
def nrow (gb : Nat) (dl : Int) (dv : Value) (ub : Nat) (fv : Value) (u : Int) (s : Cts) : Array Value :=
  #[.pointer (some ⟨gb, 0, none⟩), .int .i64 dl, dv, .pointer (some ⟨ub, 0, none⟩), fv, .int .i64 u, .int .i64 s.1, .int .i64 s.2.1, .int .i64 s.2.2.1, .int .i64 s.2.2.2.1, .int .i64 s.2.2.2.2.1, .int .i64 s.2.2.2.2.2]
/-- blocks of K2 that are none of K's, and never written -/
def Still (K K2 : Nat → Prop) (b gg : Nat) : Nat → Prop := fun q => K2 q ∧ ¬ K q ∧ q ≠ b ∧ q ≠ gg
/-- a net at block b: its parts named -/
def NetP (K K2 : Nat → Prop) (w : World) (b gb gg gc n : Nat) (dv fv : Value) (bs : Nat → Nat) (c : Cfg) (l : List Tri) (fs : List (Int × Int)) (x : St) : Prop :=
  (c.1 = (n : Int) ∧ x.1.length = n + 1 ∧ 0 ≤ c.2.1 ∧ c.2.1 ≤ 64) ∧
  w.heap[b]? = some (.cells (nrow gb c.2.1 dv (bs n) fv (x.2.1 : Int) x.2.2) 56 (0, 0)) ∧
  Grp w gb gg gc n c.2.2.2.1 c.2.2.2.2 l ∧
  RowK (Still K K2 b gg) w dv 1 (fcells penc ((List.range n).map bs)) ∧
  RowK (Still K K2 b gg) w fv 2 (fcells pr (fs.drop x.2.1)) ∧
  (¬ K b ∧ ¬ K gb ∧ ¬ K gg) ∧ (K2 b ∧ K2 gb ∧ K2 gg) ∧ (∀ q, K q → K2 q) ∧
  Fam K2 w c.2.2.1 (n + 1) bs (fun i => ord (x.1.getD i []))
def NetK (K : Nat → Prop) (w : World) (b : Nat) (bs : Nat → Nat) (c : Cfg) (l : List Tri) (fs : List (Int × Int)) (x : St) : Prop :=
  ∃ K2 gb gg gc n dv fv, NetP K K2 w b gb gg gc n dv fv bs c l fs x

theorem NetP.k {K K2 : Nat → Prop} {w : World} {b gb gg gc n : Nat} {dv fv : Value} {bs : Nat → Nat} {c : Cfg} {l : List Tri} {fs : List (Int × Int)} {x : St} (h : NetP K K2 w b gb gg gc n dv fv bs c l fs x) : NetK K w b bs c l fs x := ⟨_, _, _, _, _, _, _, h⟩
theorem NetP.lt {K K2 : Nat → Prop} {w : World} {b gb gg gc n : Nat} {dv fv : Value} {bs : Nat → Nat} {c : Cfg} {l : List Tri} {fs : List (Int × Int)} {x : St} (h : NetP K K2 w b gb gg gc n dv fv bs c l fs x) : b < w.heap.size ∧ gb < w.heap.size ∧ gg < w.heap.size :=
  ⟨lt_of_row h.2.1, h.2.2.1.lt.1, h.2.2.1.lt.2⟩
theorem NetP.there {K K2 : Nat → Prop} {w : World} {b gb gg gc n : Nat} {dv fv : Value} {bs : Nat → Nat} {c : Cfg} {l : List Tri} {fs : List (Int × Int)} {x : St} (h : NetP K K2 w b gb gg gc n dv fv bs c l fs x) : ∀ q, K q → q < w.heap.size := fun q hq => h.2.2.2.2.2.2.2.2.1 q (h.2.2.2.2.2.2.2.1 q hq)
/-- its blocks are not one another, by their types -/
theorem NetP.ne {K K2 : Nat → Prop} {w : World} {b gb gg gc n : Nat} {dv fv : Value} {bs : Nat → Nat} {c : Cfg} {l : List Tri} {fs : List (Int × Int)} {x : St} (h : NetP K K2 w b gb gg gc n dv fv bs c l fs x) : b ≠ gb ∧ b ≠ gg ∧ gb ≠ gg := by
  refine ⟨?_, ?_, h.2.2.1.ne⟩
  · rintro rfl
    have := h.2.2.1.2.1
    rw [h.2.1] at this
    simp at this
  · rintro rfl
    exact h.2.2.1.2.2.apart h.2.1 (by decide) rfl

theorem NetP.less {K K2 L : Nat → Prop} {w : World} {b gb gg gc n : Nat} {dv fv : Value} {bs : Nat → Nat} {c : Cfg} {l : List Tri} {fs : List (Int × Int)} {x : St} (h : NetP K K2 w b gb gg gc n dv fv bs c l fs x) (hL : ∀ q, L q → K q) : NetP L K2 w b gb gg gc n dv fv bs c l fs x := by
  obtain ⟨h1, h2, h3, h4, h5, h6, h7, h8, h9⟩ := h
  exact ⟨h1, h2, h3, h4.mono (by decide) (fun i _ hi => ⟨hi.1, fun q => hi.2.1 (hL _ q), hi.2.2⟩), h5.mono (by decide) (fun i _ hi => ⟨hi.1, fun q => hi.2.1 (hL _ q), hi.2.2⟩), ⟨fun q => h6.1 (hL _ q), fun q => h6.2.1 (hL _ q), fun q => h6.2.2 (hL _ q)⟩, h7, fun q hq => h8 q (hL q hq), h9⟩
/-- what is written lies in blocks of K; what is new joins K -/
theorem NetP.keep {K K2 L : Nat → Prop} {w w' : World} {b gb gg gc n : Nat} {dv fv : Value} {bs : Nat → Nat} {c : Cfg} {l : List Tri} {fs : List (Int × Int)} {x : St} (h : NetP K K2 w b gb gg gc n dv fv bs c l fs x) (k : Kept L w w') (hL : ∀ q, q < w.heap.size → K q ∨ L q) :
    NetP (fun q => K q ∨ New w w' q) (fun q => K2 q ∨ New w w' q) w' b gb gg gc n dv fv bs c l fs x := by
  have lts := h.lt
  obtain ⟨h1, h2, h3, h4, h5, h6, h7, h8, h9⟩ := h
  have lb := (hL b lts.1).resolve_left h6.1
  have lgb := (hL gb lts.2.1).resolve_left h6.2.1
  have lgg := (hL gg lts.2.2).resolve_left h6.2.2
  have row : ∀ (v : Value) (sz : Nat) (cs : List Value), 0 < sz → RowK (Still K K2 b gg) w v sz cs → RowK (Still (fun q => K q ∨ New w w' q) (fun q => K2 q ∨ New w w' q) b gg) w' v sz cs := by
    intro v sz cs hz r
    have r1 := r.mono (L := fun q => Still K K2 b gg q ∧ q < w.heap.size) hz (fun i hi h => ⟨h, hi⟩)
    refine (r1.kept (k.narrow (fun i hi h => (hL i hi).resolve_left h.1.2.1))).mono hz (fun i _ h => ⟨.inl h.1.1, fun q => q.elim h.1.2.1 (fun q => by have := q.1; have := h.2; omega), h.1.2.2⟩)
  refine ⟨h1, k.row lb h2, h3.kept k lgb lgg, row _ _ _ (by decide) h4, row _ _ _ (by decide) h5, ⟨fun q => q.elim h6.1 (fun q => by have := q.1; omega), fun q => q.elim h6.2.1 (fun q => by have := q.1; omega), fun q => q.elim h6.2.2 (fun q => by have := q.1; omega)⟩, ⟨.inl h7.1, .inl h7.2.1, .inl h7.2.2⟩, fun q hq => hq.imp (h8 q) id, h9.keep k (fun q hq => (hL q hq).imp (h8 q) id)⟩
theorem NetK.keep {K L : Nat → Prop} {w w' : World} {b : Nat} {bs : Nat → Nat} {c : Cfg} {l : List Tri} {fs : List (Int × Int)} {x : St} (h : NetK K w b bs c l fs x) (k : Kept L w w') (hL : ∀ q, q < w.heap.size → K q ∨ L q) : NetK (fun q => K q ∨ New w w' q) w' b bs c l fs x := by
  obtain ⟨_, _, _, _, _, _, _, h⟩ := h
  exact (h.keep k hL).k
theorem NetK.less {K L : Nat → Prop} {w : World} {b : Nat} {bs : Nat → Nat} {c : Cfg} {l : List Tri} {fs : List (Int × Int)} {x : St} (h : NetK K w b bs c l fs x) (hL : ∀ q, L q → K q) : NetK L w b bs c l fs x := by
  obtain ⟨_, _, _, _, _, _, _, h⟩ := h
  exact (h.less hL).k
theorem NetK.there {K : Nat → Prop} {w : World} {b : Nat} {bs : Nat → Nat} {c : Cfg} {l : List Tri} {fs : List (Int × Int)} {x : St} (h : NetK K w b bs c l fs x) : ∀ q, K q → q < w.heap.size := by
  obtain ⟨_, _, _, _, _, _, _, h⟩ := h
  exact h.there
theorem NetK.more {K : Nat → Prop} {w w' : World} {b : Nat} {bs : Nat → Nat} {c : Cfg} {l : List Tri} {fs : List (Int × Int)} {x : St} (h : NetK K w b bs c l fs x) (e : Ext w w') : NetK (fun q => K q ∨ New w w' q) w' b bs c l fs x :=
  h.keep (L := fun _ => True) (Kept.of_ext e) (fun _ _ => .inr trivial)
theorem NetK.ext {K : Nat → Prop} {w w' : World} {b : Nat} {bs : Nat → Nat} {c : Cfg} {l : List Tri} {fs : List (Int × Int)} {x : St} (h : NetK K w b bs c l fs x) (e : Ext w w') : NetK K w' b bs c l fs x := (h.more e).less (fun _ hq => .inl hq)

/-- the net's row is written -/
theorem NetP.row {K K2 : Nat → Prop} {w w' : World} {b gb gg gc n : Nat} {dv fv fv' : Value} {bs : Nat → Nat} {c : Cfg} {l : List Tri} {fs : List (Int × Int)} {x : St} {u : Nat} {s : Cts} (h : NetP K K2 w b gb gg gc n dv fv bs c l fs x) (k : Kept (fun q => q ≠ b) w w')
    (hb : w'.heap[b]? = some (.cells (nrow gb c.2.1 dv (bs n) fv' (u : Int) s) 56 (0, 0))) (hf : RowK (Still K K2 b gg) w' fv' 2 (fcells pr (fs.drop u))) : NetP K K2 w' b gb gg gc n dv fv' bs c l fs (x.1, u, s) ∧ Kept K w w' := by
  have ne := h.ne
  obtain ⟨h1, h2, h3, h4, h5, h6, h7, h8, h9⟩ := h
  exact ⟨⟨h1, hb, h3.kept k (fun e => ne.1 e.symm) (fun e => ne.2.1 e.symm), h4.kept (k.mono (fun i hi => hi.2.2.1)), hf, h6, h7, h8, (h9.but k h7.1).less (fun q hq => .inl hq)⟩, k.mono (fun i hi e => h6.1 (e ▸ hi))⟩
/-- one of its numbers is written -/
theorem NetP.stat {K K2 : Nat → Prop} {w : World} {b gb gg gc n : Nat} {dv fv : Value} {bs : Nat → Nat} {c : Cfg} {l : List Tri} {fs : List (Int × Int)} {x : St} {s : Cts} (h : NetP K K2 w b gb gg gc n dv fv bs c l fs x) (i : Nat) (v : Value)
    (e : (nrow gb c.2.1 dv (bs n) fv (x.2.1 : Int) x.2.2).setIfInBounds i v = nrow gb c.2.1 dv (bs n) fv (x.2.1 : Int) s) : NetP K K2 (w.setCell ⟨b, i, none⟩ v) b gb gg gc n dv fv bs c l fs (x.1, x.2.1, s) ∧ Kept K w (w.setCell ⟨b, i, none⟩ v) := by
  have k : Kept (fun q => q ≠ b) w (w.setCell ⟨b, i, none⟩ v) := (Kept.refl _ w).setCell (fun hne => hne rfl) _
  refine h.row k ?_ (h.2.2.2.2.1.kept (k.mono (fun i hi => hi.2.2.1)))
  rw [setCell_eq_setRow _ _ _ _ _ _ _ h.2.1, ← e]
  exact setRow_heap _ _ _ _ _ _ h.2.1
theorem NetP.cells {K K2 : Nat → Prop} {w : World} {b gb gg gc n : Nat} {dv fv : Value} {bs : Nat → Nat} {c : Cfg} {l : List Tri} {fs : List (Int × Int)} {x : St} (h : NetP K K2 w b gb gg gc n dv fv bs c l fs x) (i : Nat) (v : Value) (hi : (nrow gb c.2.1 dv (bs n) fv (x.2.1 : Int) x.2.2)[i]? = some v) : w.cell? ⟨b, i, none⟩ = some v := by rw [cell_of_row _ _ i _ _ _ h.2.1, hi]
theorem NetP.free {K K2 : Nat → Prop} {w : World} {b gb gg gc n : Nat} {dv fv : Value} {bs : Nat → Nat} {c : Cfg} {l : List Tri} {fs : List (Int × Int)} {x : St} (h : NetP K K2 w b gb gg gc n dv fv bs c l fs x) (i : Nat) : w.frozen? ⟨b, i, none⟩ = false := frozen_of_row _ _ _ _ _ h.2.1

/-- its group is written -/
theorem NetP.grp {K K2 : Nat → Prop} {w w' : World} {b gb gg gc n : Nat} {dv fv : Value} {bs : Nat → Nat} {c : Cfg} {l l' : List Tri} {fs : List (Int × Int)} {x : St} (h : NetP K K2 w b gb gg gc n dv fv bs c l fs x) (k : Kept (fun q => q ≠ gg) w w')
    (g : Grp w' gb gg gc n c.2.2.2.1 c.2.2.2.2 l') : NetP K K2 w' b gb gg gc n dv fv bs c l' fs x ∧ Kept K w w' := by
  have ne := h.ne
  obtain ⟨h1, h2, h3, h4, h5, h6, h7, h8, h9⟩ := h
  exact ⟨⟨h1, k.row ne.2.1 h2, g, h4.kept (k.mono (fun i hi => hi.2.2.2)), h5.kept (k.mono (fun i hi => hi.2.2.2)), h6, h7, h8, (h9.but k h7.2.2).less (fun q hq => .inl hq)⟩, k.mono (fun i hi e => h6.2.2 (e ▸ hi))⟩

/-- one of its pipes alone -/
theorem NetP.one {K K2 : Nat → Prop} {w : World} {b gb gg gc n : Nat} {dv fv : Value} {bs : Nat → Nat} {c : Cfg} {l : List Tri} {fs : List (Int × Int)} {x : St} (h : NetP K K2 w b gb gg gc n dv fv bs c l fs x) {i : Nat} (hi : i < n + 1) :
    ∃ Ki : Nat → Prop, PipK Ki w (bs i) c.2.2.1 (ord (x.1.getD i [])) ∧ (∀ q, K q → Ki q) ∧ Ki b ∧ ∀ (K3 : Nat → Prop) (w' : World) (l' : Ms), (∀ q, Ki q → K3 q) → PipK K3 w' (bs i) c.2.2.1 (ord l') → Kept Ki w w' →
      NetK (fun q => K q ∨ (K3 q ∧ w.heap.size ≤ q)) w' b bs c l fs (x.1.set i l', x.2) ∧ Kept K w w' := by
  have lts := h.lt
  obtain ⟨h1, h2, h3, h4, h5, h6, h7, h8, h9⟩ := h
  obtain ⟨Ki, p1, p2, p3⟩ := h9.one hi
  refine ⟨Ki, p1, fun q hq => p2 q (h8 q hq), p2 b h7.1, fun K3 w' l' hK hp hk => ⟨?_, hk.mono (fun q hq => p2 q (h8 q hq))⟩⟩
  have F := p3 K3 w' (ord l') hK hp hk
  have row : ∀ (v : Value) (sz : Nat) (cs : List Value), 0 < sz → RowK (Still K K2 b gg) w v sz cs → RowK (Still (fun q => K q ∨ (K3 q ∧ w.heap.size ≤ q)) (fun q => K2 q ∨ (K3 q ∧ w.heap.size ≤ q)) b gg) w' v sz cs := by
    intro v sz cs hz r
    have r1 := r.mono (L := fun q => Still K K2 b gg q ∧ q < w.heap.size) hz (fun i hi h => ⟨h, hi⟩)
    exact (r1.kept (hk.mono (fun i h => p2 i h.1.1))).mono hz (fun i _ h => ⟨.inl h.1.1, fun q => q.elim h.1.2.1 (fun q => by have := q.2; have := h.2; omega), h.1.2.2⟩)
  refine ⟨_, gb, gg, gc, n, dv, fv, ⟨h1.1, by rw [List.length_set]; exact h1.2.1, h1.2.2⟩, hk.row (p2 b h7.1) h2, h3.kept hk (p2 gb h7.2.1) (p2 gg h7.2.2), row _ _ _ (by decide) h4, row _ _ _ (by decide) h5, ⟨fun q => q.elim h6.1 (fun q => by have := q.2; omega), fun q => q.elim h6.2.1 (fun q => by have := q.2; omega), fun q => q.elim h6.2.2 (fun q => by have := q.2; omega)⟩, ⟨.inl h7.1, .inl h7.2.1, .inl h7.2.2⟩, fun q hq => hq.imp (h8 q) id, ?_⟩
  refine F.congr (fun _ _ => rfl) (fun k hk => ?_)
  simp only
  rw [set_getD _ _ _ _ _ (by rw [h1.2.1]; exact hi)]
  unfold upd
  split <;> rfl
end Go.Proofs.Ytjmgigfaiaemeaa.Sim

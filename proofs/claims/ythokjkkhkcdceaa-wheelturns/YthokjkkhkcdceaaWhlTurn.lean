/-
  The walk of the statements' turn: wheel and list turn together.
-/
import Derived.Test.YthokjkkhkcdceaaWhlLaw
import Derived.Test.YthokjkkhkcdceaaWhlRef
import Derived.Test.YthokjkkhkcdceaaPairEq
namespace Go.Proofs.Ythokjkkhkcdceaa
set_option linter.unusedVariables false
set_option maxRecDepth 100000
open Go.RowKit Go.Lib Go.Shelf
attribute [local go_sem] Oper.semAt_some

/-- blocks side by side, each written out -/
def Rows9 (h0 : Nat) (W : World) (rs : List (Array Value × TypeId)) : Prop := ∀ j r, rs[j]? = some r → W.heap[h0 + j]? = some (.cells r.1 r.2 (0, 0))
theorem Rows9.set {h0 : Nat} {W : World} {rs : List (Array Value × TypeId)} (h : Rows9 h0 W rs) (j i : Nat) (r : Array Value × TypeId) (hj : rs[j]? = some r) (v : Value) : Rows9 h0 (W.setCell ⟨h0 + j, i, none⟩ v) (rs.set j (r.1.setIfInBounds i v, r.2)) := by
  intro q s hs
  by_cases e : q = j
  · subst e
    rw [List.getElem?_set_self (List.getElem?_eq_some_iff.1 hj).1] at hs
    cases hs
    rw [setCell_eq_setRow _ _ _ _ _ _ _ (h q r hj)]
    exact setRow_heap _ _ _ _ _ _ (h q r hj)
  · rw [List.getElem?_set_ne (fun e2 => e e2.symm)] at hs
    rw [heap_setCell_other _ _ _ _ (by show h0 + q ≠ h0 + j; omega)]
    exact h q s hs
theorem Rows9.kept {K : Nat → Prop} {h0 : Nat} {W W' : World} {rs : List (Array Value × TypeId)} (h : Rows9 h0 W rs) (k : Kept K W W') (hK : ∀ j, j < rs.length → K (h0 + j)) : Rows9 h0 W' rs := fun j r hj => k.row (hK j (List.getElem?_eq_some_iff.1 hj).1) (h j r hj)
theorem Rows9.cell {h0 : Nat} {W : World} {rs : List (Array Value × TypeId)} (h : Rows9 h0 W rs) (j i : Nat) (r : Array Value × TypeId) (hj : rs[j]? = some r) (v : Value) (hi : r.1[i]? = some v) : W.cell? ⟨h0 + j, i, none⟩ = some v := by rw [cell_of_row W _ i _ _ _ (h j r hj), hi]
theorem Rows9.free {h0 : Nat} {W : World} {rs : List (Array Value × TypeId)} (h : Rows9 h0 W rs) (j i : Nat) (r : Array Value × TypeId) (hj : rs[j]? = some r) : W.frozen? ⟨h0 + j, i, none⟩ = false := frozen_of_row _ _ _ _ _ (h j r hj)

/-- the first of a list cut off -/
theorem RowK.tail {K : Nat → Prop} {w : World} {g o n c : Nat} {x : Int × Int} {r : Sts} (h : RowK K w (.slice (some ⟨g, o, none⟩) (n + 1) c) 2 (gcells (x :: r))) :
    (c = 1 → RowK K w (.slice (some ⟨g, o, none⟩) n 0) 2 (gcells r)) ∧ (c ≠ 1 → RowK K w (.slice (some ⟨g, o + 2, none⟩) n (c - 1)) 2 (gcells r)) := by
  obtain ⟨ao, m, c', e, q1, q2, q3, q4⟩ := h
  simp only [Value.slice.injEq] at e
  obtain ⟨rfl, rfl, rfl⟩ := e
  rw [gcells_length, List.length_cons] at q1
  refine ⟨fun hc => ?_, fun hc => ⟨_, _, _, rfl, by rw [gcells_length]; omega, by omega, by omega, fun h0 => ?_⟩⟩
  · refine ⟨_, _, _, rfl, by rw [gcells_length]; omega, by omega, by omega, fun h0 => by omega⟩
  · obtain ⟨g', o', e, hk, hcl⟩ := q4 (by omega)
    simp only [Option.some.injEq, Addr.mk.injEq] at e
    obtain ⟨rfl, rfl, _⟩ := e
    refine ⟨_, _, rfl, hk, fun j u hu => ?_⟩
    have := hcl (j + 2) u (by simpa [gcells] using hu)
    rw [show o + 2 + j = o + (j + 2) by omega]
    exact this

/-- the boxes of turn -/
def boxes9 (mv : Value) (t k : Int) (kind id tick N : Int) (z0 z1 zb : Value) : List (Array Value × TypeId) :=
  [(#[mv, .int .i64 t], 28), (#[.int .i64 kind, .int .i64 id, .int .i64 tick, .int .i64 N], 30), (#[z0, z1], 28), (#[zb], 4), (#[.int .i64 k], 3)]

theorem b9_m {h0 : Nat} {W : World} {mv : Value} {t k kind id tick N : Int} {z0 z1 zb : Value} (h : Rows9 h0 W (boxes9 mv t k kind id tick N z0 z1 zb)) (nv : Value) : Rows9 h0 (W.setCell ⟨h0, 0, none⟩ nv) (boxes9 nv t k kind id tick N z0 z1 zb) := h.set 0 0 _ rfl nv
theorem b9_k {h0 : Nat} {W : World} {mv : Value} {t k kind id tick N : Int} {z0 z1 zb : Value} (h : Rows9 h0 W (boxes9 mv t k kind id tick N z0 z1 zb)) (k' : Int) : Rows9 h0 (W.setCell ⟨h0 + 1 + 1 + 1 + 1, 0, none⟩ (.int .i64 k')) (boxes9 mv t k' kind id tick N z0 z1 zb) := h.set 4 0 _ rfl _
theorem b9_z0 {h0 : Nat} {W : World} {mv : Value} {t k kind id tick N : Int} {z0 z1 zb : Value} (h : Rows9 h0 W (boxes9 mv t k kind id tick N z0 z1 zb)) (v : Value) : Rows9 h0 (W.setCell ⟨h0 + 1 + 1, 0, none⟩ v) (boxes9 mv t k kind id tick N v z1 zb) := h.set 2 0 _ rfl _
theorem b9_z1 {h0 : Nat} {W : World} {mv : Value} {t k kind id tick N : Int} {z0 z1 zb : Value} (h : Rows9 h0 W (boxes9 mv t k kind id tick N z0 z1 zb)) (v : Value) : Rows9 h0 (W.setCell ⟨h0 + 1 + 1, 1, none⟩ v) (boxes9 mv t k kind id tick N z0 v zb) := h.set 2 1 _ rfl _
theorem b9_b {h0 : Nat} {W : World} {mv : Value} {t k kind id tick N : Int} {z0 z1 zb : Value} (h : Rows9 h0 W (boxes9 mv t k kind id tick N z0 z1 zb)) (v : Value) : Rows9 h0 (W.setCell ⟨h0 + 1 + 1 + 1, 0, none⟩ v) (boxes9 mv t k kind id tick N z0 z1 v) := h.set 3 0 _ rfl _
theorem b9_cells {h0 : Nat} {W : World} {mv : Value} {t k kind id tick N : Int} {z0 z1 zb : Value} (h : Rows9 h0 W (boxes9 mv t k kind id tick N z0 z1 zb)) : W.cell? ⟨h0, 0, none⟩ = some mv ∧ W.cell? ⟨h0, 1, none⟩ = some (.int .i64 t) ∧ W.cell? ⟨h0 + 1, 3, none⟩ = some (.int .i64 N) ∧ W.cell? ⟨h0 + 1 + 1, 0, none⟩ = some z0 ∧ W.cell? ⟨h0 + 1 + 1, 1, none⟩ = some z1 ∧ W.cell? ⟨h0 + 1 + 1 + 1, 0, none⟩ = some zb ∧ W.cell? ⟨h0 + 1 + 1 + 1 + 1, 0, none⟩ = some (.int .i64 k) :=
  ⟨h.cell 0 0 _ rfl _ rfl, h.cell 0 1 _ rfl _ rfl, h.cell 1 3 _ rfl _ rfl, h.cell 2 0 _ rfl _ rfl, h.cell 2 1 _ rfl _ rfl, h.cell 3 0 _ rfl _ rfl, h.cell 4 0 _ rfl _ rfl⟩
theorem b9_free {h0 : Nat} {W : World} {mv : Value} {t k kind id tick N : Int} {z0 z1 zb : Value} (h : Rows9 h0 W (boxes9 mv t k kind id tick N z0 z1 zb)) : W.frozen? ⟨h0, 0, none⟩ = false ∧ W.frozen? ⟨h0 + 1 + 1, 0, none⟩ = false ∧ W.frozen? ⟨h0 + 1 + 1, 1, none⟩ = false ∧ W.frozen? ⟨h0 + 1 + 1 + 1, 0, none⟩ = false ∧ W.frozen? ⟨h0 + 1 + 1 + 1 + 1, 0, none⟩ = false :=
  ⟨h.free 0 0 _ rfl, h.free 2 0 _ rfl, h.free 2 1 _ rfl, h.free 3 0 _ rfl, h.free 4 0 _ rfl⟩

/-- between two rounds -/
def Goes9 (K : Nat → Prop) (w : World) (h0 : Nat) (l : Sts) (t kind id tick N : Int) (pre : Sts) (W : World) : Prop :=
  ∃ mv, Rows9 h0 W (boxes9 mv t (pre.length : Int) kind id tick N (.slice none 0 0) (.int .i64 0) (.bool false)) ∧ RowK K W mv 2 (gcells (l.drop pre.length)) ∧ Kept K w W ∧ (N ≤ 0 ∨ (pre.length : Int) < N)
/-- a round was left -/
def Left9 (K : Nat → Prop) (w : World) (h0 : Nat) (l : Sts) (t N : Int) (c : Code) (pre : Sts) (W : World) : Prop :=
  c = .ret ∧ 0 < N ∧ ∃ mv, RowK K W mv 2 (gcells (l.drop pre.length)) ∧ Kept K w W ∧ W.heap[h0 + 2]? = some (.cells #[mv, .int .i64 t] 28 (0, 0)) ∧ W.heap[h0 + 3]? = some (.cells #[.bool true] 4 (0, 0))

/-- the law of a loop, its slots written out -/
theorem range9s {Q : Exit → Act → World → Prop} {a : Act} {w : World} {g : Operand} (p q : Nat) {assign body : Code} {Bs b : Nat} {K : Nat → Prop} {t : Int} {l : Sts}
    (hg : a.eval g = .func (.func 25) #[] #[.pointer (some ⟨Bs, 0, none⟩)]) (hbs : w.cell? ⟨Bs, 0, none⟩ = some (.pointer (some ⟨b, 0, none⟩))) (hKB : K Bs) (hw : WhK K w b t l)
    (I : Sts → World → Prop) (Ix : Code → Sts → World → Prop) (hI : ∀ pre W W', I pre W → Kept K W W' → I pre W') (hIx : ∀ c pre W W', Ix c pre W → Kept K W W' → Ix c pre W') (h0 : I [] w) (A1 : Array Value → Int × Int → Array Value)
    (hassign : ∀ (L : Nat) (x y : Int) (W : World) (Kc : Act → World → Prop), Kc { tmps := A1 a.tmps (x, y), defers := [] } W → assign.wpIn (Fence.wide.inRound L) 2 Try.prog (Exit.then Kc (fun _ _ _ => False)) { tmps := (a.tmps.setIfInBounds p (.int .i64 x)).setIfInBounds q (.int .i64 y), defers := [] } W)
    (hbody : ∀ (L : Nat) (pre : Sts) (x y : Int) (W : World), I pre W → W.cell? ⟨Bs, 0, none⟩ = some (.pointer (some ⟨b, 0, none⟩)) → pre ++ [(x, y)] <+: l → y ≤ t → body.wpIn (Fence.wide.inRound L) 2 Try.prog (Round9 K b (fun p W => I p W ∧ W.cell? ⟨Bs, 0, none⟩ = some (.pointer (some ⟨b, 0, none⟩))) Ix (pre ++ [(x, y)]) W) { tmps := A1 a.tmps (x, y), defers := [] } W)
    (hdone : ∀ (D : Nat) (pre rest : Sts) (W : World), w.heap.size ≤ D → l = pre ++ rest → (∀ p r, rest = p :: r → t < p.2) → I pre W → WhK K W b t rest → W.heap[D]? = some (.deferred (some [])) → Q .normal { a with defers := { target := .collected D, args := #[] } :: a.defers } W)
    (hstop : ∀ (D : Nat) (c : Code) (pre rest : Sts) (W : World), w.heap.size ≤ D → l = pre ++ rest → Ix c pre W → WhK K W b t rest → W.heap[D]? = some (.deferred (some [])) → c.wp Try.prog Q { a with defers := { target := .collected D, args := #[] } :: a.defers } W) :
    (Code.rangeFunc g #[p, q] assign body).wp Try.prog Q a w :=
  range9 hg rfl hbs hKB hw I Ix hI hIx h0 (fun x => { tmps := A1 a.tmps x, defers := [] }) (fun L x W Kc hK => by simpa using hassign L x.1 x.2 W Kc hK) (fun L pre x W => hbody L pre x.1 x.2 W) hdone hstop

theorem alloc5 (w : World) (o0 o1 o2 o3 o4 : Obj) : ∀ j o, [o0, o1, o2, o3, o4][j]? = some o → (((((w.alloc o0).alloc o1).alloc o2).alloc o3).alloc o4).heap[w.heap.size + j]? = some o := by
  intro j o h
  have y4 := fun (W : World) => (Ext.refl W).alloc o4
  have y3 := fun (W : World) => (Ext.refl W).alloc o3
  have y2 := fun (W : World) => (Ext.refl W).alloc o2
  have y1 := fun (W : World) => (Ext.refl W).alloc o1
  match j, h with
  | 0, h => cases h; exact (y4 _).row ((y3 _).row ((y2 _).row ((y1 _).row (heap_alloc_new w _))))
  | 1, h => cases h; exact (y4 _).row ((y3 _).row ((y2 _).row (heap_alloc2_new w _ _)))
  | 2, h => cases h; have := heap_alloc_new ((w.alloc o0).alloc o1) o2; rw [World.size_alloc, World.size_alloc] at this; exact (y4 _).row ((y3 _).row this)
  | 3, h => cases h; have := heap_alloc_new (((w.alloc o0).alloc o1).alloc o2) o3; rw [World.size_alloc, World.size_alloc, World.size_alloc] at this; exact (y4 _).row this
  | 4, h => cases h; have := heap_alloc_new ((((w.alloc o0).alloc o1).alloc o2).alloc o3) o4; rw [World.size_alloc, World.size_alloc, World.size_alloc, World.size_alloc] at this; exact this
  | j + 5, h => simp at h

theorem goes9_kept {K K6 : Nat → Prop} {w : World} {h0 : Nat} {l : Sts} {t kind id tick N : Int} (hK : ∀ i, K i → K6 i) (h6 : ∀ j, j < 5 → K6 (h0 + j)) (pre : Sts) (W W' : World) (h : Goes9 K w h0 l t kind id tick N pre W) (k : Kept K6 W W') : Goes9 K w h0 l t kind id tick N pre W' := by
  obtain ⟨mv, a1, a2, a3, a4⟩ := h
  exact ⟨mv, a1.kept k h6, a2.kept (k.mono hK), a3.trans (k.mono hK), a4⟩
theorem left9_kept {K K6 : Nat → Prop} {w : World} {h0 : Nat} {l : Sts} {t N : Int} (hK : ∀ i, K i → K6 i) (h6 : ∀ j, j < 5 → K6 (h0 + j)) (c : Code) (pre : Sts) (W W' : World) (h : Left9 K w h0 l t N c pre W) (k : Kept K6 W W') : Left9 K w h0 l t N c pre W' := by
  obtain ⟨b1, b2, mv, a2, a3, a4, a5⟩ := h
  exact ⟨b1, b2, mv, a2.kept (k.mono hK), a3.trans (k.mono hK), k.row (h6 2 (by decide)) a4, k.row (h6 3 (by decide)) a5⟩

set_option maxHeartbeats 2000000 in
theorem lawTurn_any (K : Nat → Prop) (b : Nat) (t kind id tick N : Int) (l : Sts) (mv : Value) (w : World) (hw : WhK K w b t l) (hm : RowK K w mv 2 (gcells l)) :
    Calls Try.prog 13 #[.pointer (some ⟨b, 0, none⟩), .agg #[mv, .int .i64 t], .agg #[.int .i64 kind, .int .i64 id, .int .i64 tick, .int .i64 N]] w fun e w' =>
      ∃ mv' rest, e = .returned (.tuple #[.agg #[mv', .int .i64 (later t tick)], .bool true]) ∧ WhK K w' b (later t tick) rest ∧ RowK K w' mv' 2 (gcells rest) ∧ Kept K w w' ∧ (N ≤ 0 → ∀ p r, rest = p :: r → later t tick < p.2) := by
  obtain ⟨ao, cm, em, m1, m2, _⟩ := hm.view
  subst em
  have HM := hid hm
  have HW := hid hw
  unfold maxLen at m2
  have LT : Hid (max t (min tick 2199023255552) = later t tick) := rfl
  clear hm hw
  refine (callsIn_wide (n := 4)).1 (callsIn_of_wp_marks Try.func13 rfl trivial ?_ rfl)
  refine wpIn_wide.2 ?_
  simp only [Try.ntmps13, List.size_toArray, List.length_cons, List.length_nil, Nat.reduceAdd, Nat.reduceSub, Array.replicate_succ, Array.replicate_zero, List.push_toArray, List.append_toArray, List.nil_append, List.cons_append]
  obtain ⟨W5, e5⟩ : ∃ W5, W5 = ((((w.alloc (.cells #[.slice ao l.length cm, .int .i64 (later t tick)] 28)).alloc (.cells #[.int .i64 kind, .int .i64 id, .int .i64 tick, .int .i64 N] 30)).alloc (.cells #[.slice none 0 0, .int .i64 0] 28)).alloc (.cells #[.bool false] 4)).alloc (.cells #[.int .i64 0] 3) := ⟨_, rfl⟩
  have X5 : Ext w W5 := by rw [e5]; exact (((((Ext.refl w).alloc _).alloc _).alloc _).alloc _).alloc _
  have z5 : W5.heap.size = w.heap.size + 5 := by rw [e5]; simp
  have B5 : Rows9 w.heap.size W5 (boxes9 (.slice ao l.length cm) (later t tick) 0 kind id tick N (.slice none 0 0) (.int .i64 0) (.bool false)) := by
    intro j r hj
    rw [e5]
    refine alloc5 w _ _ _ _ _ j _ ?_
    match j, hj with
    | 0, hj => cases hj; rfl
    | 1, hj => cases hj; rfl
    | 2, hj => cases hj; rfl
    | 3, hj => cases hj; rfl
    | 4, hj => cases hj; rfl
    | j + 5, hj => simp [boxes9] at hj
  have TA := turn_any _ b t tick l W5 (HW.out.more X5)
  obtain ⟨K6, e6⟩ : ∃ K6 : Nat → Prop, K6 = fun i => (K i ∨ (w.heap.size ≤ i ∧ i < W5.heap.size)) ∨ (W5.heap.size ≤ i ∧ i < W5.heap.size + 1) := ⟨_, rfl⟩
  rw [← e6] at TA
  have hK6 : ∀ i, K i → K6 i := fun i hi => by rw [e6]; exact .inl (.inl hi)
  have h6 : ∀ j, j < 5 → K6 (w.heap.size + j) := fun j hj => by rw [e6]; exact .inl (.inr ⟨by omega, by omega⟩)
  have h65 : K6 (w.heap.size + 5) := by rw [e6]; exact .inr ⟨by omega, by omega⟩
  have TA2 := hid TA
  have KB : Hid (∀ W, Kept (fun i => K i ∨ (w.heap.size ≤ i ∧ i < W5.heap.size)) W5 W → Goes9 K w w.heap.size l (later t tick) kind id tick N [] W ∨ ¬ (N ≤ 0 ∨ 0 < N)) := fun W k => by
    left
    refine ⟨_, B5.kept k (fun j hj => .inr ⟨by omega, by rw [z5]; simp [boxes9] at hj; omega⟩), ?_, ?_, by simp; omega⟩
    · exact (HM.out.kept (Kept.of_ext X5)).kept (k.mono (fun i hi => .inl hi))
    · exact (Kept.of_ext X5).trans (k.mono (fun i hi => .inl hi))
  have E5 := hid e5
  have Z5 := hid z5
  have KL : Hid (∀ i, K i → i < w.heap.size) := HW.out.2.2.choose_spec.2.2.2.2
  clear e5 X5 z5 B5 TA e6
  have lt := LT.out
  generalize later t tick = t2 at *
  go_wp2_with fail
  rw [← E5.out]
  refine TA2.out.mono ?_
  rintro e w6 ⟨rfl, cb, z6, wk6, k6⟩
  have G0 : Hid (Goes9 K w w.heap.size l t2 kind id tick N [] w6) := by
    rcases KB.out w6 k6 with h | h
    · exact h
    · omega
  have WK6 := hid wk6
  rw [Z5.out] at cb
  rw [Z5.out]
  have CB := hid cb
  clear KB TA2 wk6 k6 cb lt
  go_wp2_with fail
  refine range9s 22 23 (Bs := w.heap.size + 5) (b := b) (K := K6) (t := t2) (l := l) rfl CB.out h65 WK6.out (Goes9 K w w.heap.size l t2 kind id tick N) (Left9 K w w.heap.size l t2 N) (goes9_kept hK6 h6) (left9_kept hK6 h6) G0.out
    (fun tm x => (((tm.setIfInBounds 22 (.int .i64 x.1)).setIfInBounds 23 (.int .i64 x.2)).setIfInBounds 9 (.int .i64 x.1)).setIfInBounds 10 (.int .i64 x.2)) ?assign ?body ?done ?stop
  case assign =>
    intro L x y W Kc hK
    simp only [List.setIfInBounds_toArray, List.set_cons_zero, List.set_cons_succ] at hK ⊢
    gi_wp2
    exact hK
  case body =>
    rintro L pre x y W ⟨mv, rw9, rk, kw, hN⟩ hbs hp hy
    simp only [List.setIfInBounds_toArray, List.set_cons_zero, List.set_cons_succ]
    obtain ⟨r, er⟩ := hp
    have ed : l.drop pre.length = (x, y) :: r := by rw [← er]; simp
    have ed2 : l.drop (pre ++ [(x, y)]).length = r := by rw [← er]; simp
    rw [ed] at rk
    obtain ⟨ma, mc, em, q1, q2, qv⟩ := rk.view
    obtain ⟨g, o, eg, x1, x2⟩ := qv 0 (by simp)
    subst eg em
    simp only [List.getD_cons_zero, Nat.zero_mul, Nat.add_zero] at x1 x2
    obtain ⟨T1, T2⟩ := rk.tail
    have nK : ∀ j, ¬ K (w.heap.size + j) := fun j h => by have := KL.out _ h; omega
    have PE := fun V => pair_eq V x y x y
    have EQ : (((x, y) : Int × Int) == (x, y)) = true := by simp
    rw [EQ] at PE
    simp only [List.length_cons] at *
    have pl : pre.length ≤ 1024 := by
      have h1 := WK6.out.1.2.2.2
      rw [← er] at h1
      simp only [List.length_append] at h1
      omega
    generalize r.length = n at *
    unfold maxLen at q2
    have hy' : ¬ t2 < y := by omega
    have n0 : ¬ ((n : Int) + 1 = 0) := by omega
    clear rk qv EQ er ed G0 WK6 CB
    by_cases hc : mc = 1
    · subst hc
      have TL := T1 rfl
      clear T1 T2
      obtain rfl : n = 0 := by omega
      clear n0
      obtain ⟨NV, eNV⟩ : ∃ NV : Value, NV = .slice (some ⟨g, o, none⟩) 0 0 := ⟨_, rfl⟩
      rw [← eNV] at TL
      have RA := b9_m rw9 NV
      have RB := b9_k RA ((pre.length : Int) + 1)
      have kwB : Kept K W ((W.setCell ⟨w.heap.size, 0, none⟩ NV).setCell ⟨w.heap.size + 1 + 1 + 1 + 1, 0, none⟩ (.int .i64 ((pre.length : Int) + 1))) := ((Kept.refl K W).setCell (p := ⟨w.heap.size, 0, none⟩) (nK 0) NV).setCell (p := ⟨w.heap.size + 1 + 1 + 1 + 1, 0, none⟩) (nK 4) _
      have koB : KeepsOthers W ((W.setCell ⟨w.heap.size, 0, none⟩ NV).setCell ⟨w.heap.size + 1 + 1 + 1 + 1, 0, none⟩ (.int .i64 ((pre.length : Int) + 1))) := (KeepsOthers.setCell W _ _).trans (KeepsOthers.setCell _ _ _)
      have hoB : Holds9 K6 b W ((W.setCell ⟨w.heap.size, 0, none⟩ NV).setCell ⟨w.heap.size + 1 + 1 + 1 + 1, 0, none⟩ (.int .i64 ((pre.length : Int) + 1))) := (Holds9.set W (h6 0 (by decide)) 0 NV).trans (Holds9.set _ (h6 4 (by decide)) 0 _)
      have bsB : ((W.setCell ⟨w.heap.size, 0, none⟩ NV).setCell ⟨w.heap.size + 1 + 1 + 1 + 1, 0, none⟩ (.int .i64 ((pre.length : Int) + 1))).cell? ⟨w.heap.size + 5, 0, none⟩ = some (.pointer (some ⟨b, 0, none⟩)) := by
        rw [World.cell?_setCell_far _ _ _ _ (by show w.heap.size + 4 ≠ w.heap.size + 5; omega), World.cell?_setCell_far _ _ _ _ (by show w.heap.size ≠ w.heap.size + 5; omega)]; exact hbs
      obtain ⟨p1, p2, p3, p4, p5, p6, p7⟩ := b9_cells rw9
      obtain ⟨f1, f2, f3, f4, f5⟩ := b9_free rw9
      obtain ⟨pa1, pa2, pa3, pa4, pa5, pa6, pa7⟩ := b9_cells RA
      obtain ⟨fa1, fa2, fa3, fa4, fa5⟩ := b9_free RA
      obtain ⟨pb1, pb2, pb3, pb4, pb5, pb6, pb7⟩ := b9_cells RB
      obtain ⟨fb1, fb2, fb3, fb4, fb5⟩ := b9_free RB
      by_cases hq : (pre.length : Int) + 1 = N
      · have RC := b9_z0 RB NV
        have RD := b9_z1 RC (.int .i64 t2)
        have RE := b9_b RD (.bool true)
        obtain ⟨B, eB⟩ : ∃ B, B = (W.setCell ⟨w.heap.size, 0, none⟩ NV).setCell ⟨w.heap.size + 1 + 1 + 1 + 1, 0, none⟩ (.int .i64 ((pre.length : Int) + 1)) := ⟨_, rfl⟩
        have P4 : Hid (KeepsOthers W (((B.setCell ⟨w.heap.size + 1 + 1, 0, none⟩ NV).setCell ⟨w.heap.size + 1 + 1, 1, none⟩ (.int .i64 t2)).setCell ⟨w.heap.size + 1 + 1 + 1, 0, none⟩ (.bool true)) ∧ Holds9 K6 b W (((B.setCell ⟨w.heap.size + 1 + 1, 0, none⟩ NV).setCell ⟨w.heap.size + 1 + 1, 1, none⟩ (.int .i64 t2)).setCell ⟨w.heap.size + 1 + 1 + 1, 0, none⟩ (.bool true)) ∧
            Left9 K w w.heap.size l t2 N .ret (pre ++ [(x, y)]) (((B.setCell ⟨w.heap.size + 1 + 1, 0, none⟩ NV).setCell ⟨w.heap.size + 1 + 1, 1, none⟩ (.int .i64 t2)).setCell ⟨w.heap.size + 1 + 1 + 1, 0, none⟩ (.bool true))) := by
          rw [eB]
          have kwE := ((kwB.setCell (p := ⟨w.heap.size + 1 + 1, 0, none⟩) (nK 2) NV).setCell (p := ⟨w.heap.size + 1 + 1, 1, none⟩) (nK 2) (.int .i64 t2)).setCell (p := ⟨w.heap.size + 1 + 1 + 1, 0, none⟩) (nK 3) (.bool true)
          refine ⟨((koB.trans (KeepsOthers.setCell _ _ _)).trans (KeepsOthers.setCell _ _ _)).trans (KeepsOthers.setCell _ _ _), ((hoB.trans (Holds9.set _ (h6 2 (by decide)) 0 _)).trans (Holds9.set _ (h6 2 (by decide)) 1 _)).trans (Holds9.set _ (h6 3 (by decide)) 0 _), rfl, by omega, NV, ?_, kw.trans kwE, RE 2 _ rfl, RE 3 _ rfl⟩
          rw [ed2]
          exact TL.kept kwE
        obtain ⟨pc1, pc2, pc3, pc4, pc5, pc6, pc7⟩ := b9_cells RC
        obtain ⟨fc1, fc2, fc3, fc4, fc5⟩ := b9_free RC
        obtain ⟨pd1, pd2, pd3, pd4, pd5, pd6, pd7⟩ := b9_cells RD
        obtain ⟨fd1, fd2, fd3, fd4, fd5⟩ := b9_free RD
        have hq' : ((pre.length : Int) + 1 == N) = true := by simpa using hq
        have GT := guard_two
        rw [eB] at P4
        clear RA RB RC RD RE kwB koB hoB bsB TL rw9 eB hq kw ed2
        subst eNV
        gi_wp2
        exact P4.out
      · have P4 : Hid (KeepsOthers W ((W.setCell ⟨w.heap.size, 0, none⟩ NV).setCell ⟨w.heap.size + 1 + 1 + 1 + 1, 0, none⟩ (.int .i64 ((pre.length : Int) + 1))) ∧ Holds9 K6 b W ((W.setCell ⟨w.heap.size, 0, none⟩ NV).setCell ⟨w.heap.size + 1 + 1 + 1 + 1, 0, none⟩ (.int .i64 ((pre.length : Int) + 1))) ∧
            Goes9 K w w.heap.size l t2 kind id tick N (pre ++ [(x, y)]) ((W.setCell ⟨w.heap.size, 0, none⟩ NV).setCell ⟨w.heap.size + 1 + 1 + 1 + 1, 0, none⟩ (.int .i64 ((pre.length : Int) + 1))) ∧ ((W.setCell ⟨w.heap.size, 0, none⟩ NV).setCell ⟨w.heap.size + 1 + 1 + 1 + 1, 0, none⟩ (.int .i64 ((pre.length : Int) + 1))).cell? ⟨w.heap.size + 5, 0, none⟩ = some (.pointer (some ⟨b, 0, none⟩))) := by
          refine ⟨koB, hoB, ⟨NV, ?_, ?_, kw.trans kwB, ?_⟩, bsB⟩
          · have e9 : ((pre ++ [(x, y)]).length : Int) = (pre.length : Int) + 1 := by simp
            rw [e9]; exact RB
          · rw [ed2]; exact TL.kept kwB
          · rw [List.length_append]; simp only [List.length_cons, List.length_nil]; omega
        have hq' : ((pre.length : Int) + 1 == N) = false := by simpa using hq
        have GT := guard_two
        clear RA RB kwB koB hoB bsB TL rw9 hq kw ed2
        subst eNV
        gi_wp2
        exact P4.out
    · have TL := T2 hc
      clear T1 T2
      obtain ⟨NV, eNV⟩ : ∃ NV : Value, NV = .slice (some ⟨g, o + 2, none⟩) n (mc - 1) := ⟨_, rfl⟩
      rw [← eNV] at TL
      have RA := b9_m rw9 NV
      have RB := b9_k RA ((pre.length : Int) + 1)
      have kwB : Kept K W ((W.setCell ⟨w.heap.size, 0, none⟩ NV).setCell ⟨w.heap.size + 1 + 1 + 1 + 1, 0, none⟩ (.int .i64 ((pre.length : Int) + 1))) := ((Kept.refl K W).setCell (p := ⟨w.heap.size, 0, none⟩) (nK 0) NV).setCell (p := ⟨w.heap.size + 1 + 1 + 1 + 1, 0, none⟩) (nK 4) _
      have koB : KeepsOthers W ((W.setCell ⟨w.heap.size, 0, none⟩ NV).setCell ⟨w.heap.size + 1 + 1 + 1 + 1, 0, none⟩ (.int .i64 ((pre.length : Int) + 1))) := (KeepsOthers.setCell W _ _).trans (KeepsOthers.setCell _ _ _)
      have hoB : Holds9 K6 b W ((W.setCell ⟨w.heap.size, 0, none⟩ NV).setCell ⟨w.heap.size + 1 + 1 + 1 + 1, 0, none⟩ (.int .i64 ((pre.length : Int) + 1))) := (Holds9.set W (h6 0 (by decide)) 0 NV).trans (Holds9.set _ (h6 4 (by decide)) 0 _)
      have bsB : ((W.setCell ⟨w.heap.size, 0, none⟩ NV).setCell ⟨w.heap.size + 1 + 1 + 1 + 1, 0, none⟩ (.int .i64 ((pre.length : Int) + 1))).cell? ⟨w.heap.size + 5, 0, none⟩ = some (.pointer (some ⟨b, 0, none⟩)) := by
        rw [World.cell?_setCell_far _ _ _ _ (by show w.heap.size + 4 ≠ w.heap.size + 5; omega), World.cell?_setCell_far _ _ _ _ (by show w.heap.size ≠ w.heap.size + 5; omega)]; exact hbs
      obtain ⟨p1, p2, p3, p4, p5, p6, p7⟩ := b9_cells rw9
      obtain ⟨f1, f2, f3, f4, f5⟩ := b9_free rw9
      obtain ⟨pa1, pa2, pa3, pa4, pa5, pa6, pa7⟩ := b9_cells RA
      obtain ⟨fa1, fa2, fa3, fa4, fa5⟩ := b9_free RA
      obtain ⟨pb1, pb2, pb3, pb4, pb5, pb6, pb7⟩ := b9_cells RB
      obtain ⟨fb1, fb2, fb3, fb4, fb5⟩ := b9_free RB
      by_cases hq : (pre.length : Int) + 1 = N
      · have RC := b9_z0 RB NV
        have RD := b9_z1 RC (.int .i64 t2)
        have RE := b9_b RD (.bool true)
        obtain ⟨B, eB⟩ : ∃ B, B = (W.setCell ⟨w.heap.size, 0, none⟩ NV).setCell ⟨w.heap.size + 1 + 1 + 1 + 1, 0, none⟩ (.int .i64 ((pre.length : Int) + 1)) := ⟨_, rfl⟩
        have P4 : Hid (KeepsOthers W (((B.setCell ⟨w.heap.size + 1 + 1, 0, none⟩ NV).setCell ⟨w.heap.size + 1 + 1, 1, none⟩ (.int .i64 t2)).setCell ⟨w.heap.size + 1 + 1 + 1, 0, none⟩ (.bool true)) ∧ Holds9 K6 b W (((B.setCell ⟨w.heap.size + 1 + 1, 0, none⟩ NV).setCell ⟨w.heap.size + 1 + 1, 1, none⟩ (.int .i64 t2)).setCell ⟨w.heap.size + 1 + 1 + 1, 0, none⟩ (.bool true)) ∧
            Left9 K w w.heap.size l t2 N .ret (pre ++ [(x, y)]) (((B.setCell ⟨w.heap.size + 1 + 1, 0, none⟩ NV).setCell ⟨w.heap.size + 1 + 1, 1, none⟩ (.int .i64 t2)).setCell ⟨w.heap.size + 1 + 1 + 1, 0, none⟩ (.bool true))) := by
          rw [eB]
          have kwE := ((kwB.setCell (p := ⟨w.heap.size + 1 + 1, 0, none⟩) (nK 2) NV).setCell (p := ⟨w.heap.size + 1 + 1, 1, none⟩) (nK 2) (.int .i64 t2)).setCell (p := ⟨w.heap.size + 1 + 1 + 1, 0, none⟩) (nK 3) (.bool true)
          refine ⟨((koB.trans (KeepsOthers.setCell _ _ _)).trans (KeepsOthers.setCell _ _ _)).trans (KeepsOthers.setCell _ _ _), ((hoB.trans (Holds9.set _ (h6 2 (by decide)) 0 _)).trans (Holds9.set _ (h6 2 (by decide)) 1 _)).trans (Holds9.set _ (h6 3 (by decide)) 0 _), rfl, by omega, NV, ?_, kw.trans kwE, RE 2 _ rfl, RE 3 _ rfl⟩
          rw [ed2]
          exact TL.kept kwE
        obtain ⟨pc1, pc2, pc3, pc4, pc5, pc6, pc7⟩ := b9_cells RC
        obtain ⟨fc1, fc2, fc3, fc4, fc5⟩ := b9_free RC
        obtain ⟨pd1, pd2, pd3, pd4, pd5, pd6, pd7⟩ := b9_cells RD
        obtain ⟨fd1, fd2, fd3, fd4, fd5⟩ := b9_free RD
        have hq' : ((pre.length : Int) + 1 == N) = true := by simpa using hq
        have GT := guard_two
        rw [eB] at P4
        clear RA RB RC RD RE kwB koB hoB bsB TL rw9 eB hq kw ed2
        subst eNV
        gi_wp2
        exact P4.out
      · have P4 : Hid (KeepsOthers W ((W.setCell ⟨w.heap.size, 0, none⟩ NV).setCell ⟨w.heap.size + 1 + 1 + 1 + 1, 0, none⟩ (.int .i64 ((pre.length : Int) + 1))) ∧ Holds9 K6 b W ((W.setCell ⟨w.heap.size, 0, none⟩ NV).setCell ⟨w.heap.size + 1 + 1 + 1 + 1, 0, none⟩ (.int .i64 ((pre.length : Int) + 1))) ∧
            Goes9 K w w.heap.size l t2 kind id tick N (pre ++ [(x, y)]) ((W.setCell ⟨w.heap.size, 0, none⟩ NV).setCell ⟨w.heap.size + 1 + 1 + 1 + 1, 0, none⟩ (.int .i64 ((pre.length : Int) + 1))) ∧ ((W.setCell ⟨w.heap.size, 0, none⟩ NV).setCell ⟨w.heap.size + 1 + 1 + 1 + 1, 0, none⟩ (.int .i64 ((pre.length : Int) + 1))).cell? ⟨w.heap.size + 5, 0, none⟩ = some (.pointer (some ⟨b, 0, none⟩))) := by
          refine ⟨koB, hoB, ⟨NV, ?_, ?_, kw.trans kwB, ?_⟩, bsB⟩
          · have e9 : ((pre ++ [(x, y)]).length : Int) = (pre.length : Int) + 1 := by simp
            rw [e9]; exact RB
          · rw [ed2]; exact TL.kept kwB
          · rw [List.length_append]; simp only [List.length_cons, List.length_nil]; omega
        have hq' : ((pre.length : Int) + 1 == N) = false := by simpa using hq
        have GT := guard_two
        clear RA RB kwB koB hoB bsB TL rw9 hq kw ed2
        subst eNV
        gi_wp2
        exact P4.out
  case done =>
    rintro D pre rest W hD el hdue ⟨mv, rw9, rk, kw, hN⟩ hwk hdf
    have ed : l.drop pre.length = rest := by rw [el]; simp
    rw [ed] at rk
    have nK : ∀ j, ¬ K (w.heap.size + j) := fun j h => by have := KL.out _ h; omega
    have dD : D ≠ w.heap.size + 2 ∧ D ≠ w.heap.size + 3 := by have := Z5.out; omega
    have dw : w.heap.size ≤ D := by have := Z5.out; omega
    have ne0 : w.heap.size ≠ w.heap.size + 2 ∧ w.heap.size ≠ w.heap.size + 3 := by omega
    obtain ⟨p1, p2, p3, p4, p5, p6, p7⟩ := b9_cells rw9
    obtain ⟨ma, mc, em, q1, q2, qv⟩ := rk.view
    subst em
    unfold maxLen at q2
    clear ed
    cases rest with
    | nil =>
      simp only [List.length_nil] at *
      clear qv
      have rwd : Rows9 w.heap.size W.drew (boxes9 (.slice ma 0 mc) t2 (pre.length : Int) kind id tick N (.slice none 0 0) (.int .i64 0) (.bool false)) := rw9
      have RC := b9_z0 rwd (.slice ma 0 mc)
      have RD := b9_z1 RC (.int .i64 t2)
      have RE := b9_b RD (.bool true)
      obtain ⟨pe1, pe2, pe3, g0, g1, g2, pe7⟩ := b9_cells RE
      obtain ⟨_, f2, f3, f4, _⟩ := b9_free rw9
      obtain ⟨pc1, pc2, pc3, pc4, pc5, pc6, pc7⟩ := b9_cells RC
      obtain ⟨fc1, fc2, fc3, fc4, fc5⟩ := b9_free RC
      obtain ⟨pd1, pd2, pd3, pd4, pd5, pd6, pd7⟩ := b9_cells RD
      obtain ⟨fd1, fd2, fd3, fd4, fd5⟩ := b9_free RD
      have kwd : Kept K W W.drew := (Kept.refl K W).drewN 1
      have kw2 := (kwd.setCell (p := ⟨w.heap.size + 1 + 1, 0, none⟩) (nK 2) (.slice ma 0 mc)).setCell (p := ⟨w.heap.size + 1 + 1, 1, none⟩) (nK 2) (.int .i64 t2)
      have kw3 := kw2.setCell (p := ⟨w.heap.size + 1 + 1 + 1, 0, none⟩) (nK 3) (.bool true)
      have S0 : Kept (fun i => i ≠ w.heap.size + 2 ∧ i ≠ w.heap.size + 3) W W.drew := (Kept.refl _ W).drewN 1
      have S2 : Hid (Kept (fun i => i ≠ w.heap.size + 2 ∧ i ≠ w.heap.size + 3) W ((W.drew.setCell ⟨w.heap.size + 1 + 1, 0, none⟩ (.slice ma 0 mc)).setCell ⟨w.heap.size + 1 + 1, 1, none⟩ (.int .i64 t2))) := (S0.setCell (p := ⟨w.heap.size + 1 + 1, 0, none⟩) (fun h => h.1 rfl) (.slice ma 0 mc)).setCell (p := ⟨w.heap.size + 1 + 1, 1, none⟩) (fun h => h.1 rfl) (.int .i64 t2)
      have S3 := hid (S2.out.setCell (p := ⟨w.heap.size + 1 + 1 + 1, 0, none⟩) (fun h => h.2 rfl) (.bool true))
      have HD := hid (S3.out.row dD hdf)
      have HF : Hid (WhK K6 (((W.drew.setCell ⟨w.heap.size + 1 + 1, 0, none⟩ (.slice ma 0 mc)).setCell ⟨w.heap.size + 1 + 1, 1, none⟩ (.int .i64 t2)).setCell ⟨w.heap.size + 1 + 1 + 1, 0, none⟩ (.bool true)) b t2 (([] : Sts)) ∧ RowK K (((W.drew.setCell ⟨w.heap.size + 1 + 1, 0, none⟩ (.slice ma 0 mc)).setCell ⟨w.heap.size + 1 + 1, 1, none⟩ (.int .i64 t2)).setCell ⟨w.heap.size + 1 + 1 + 1, 0, none⟩ (.bool true)) (.slice ma 0 mc) 2 (gcells (([] : Sts))) ∧ Kept K w (((W.drew.setCell ⟨w.heap.size + 1 + 1, 0, none⟩ (.slice ma 0 mc)).setCell ⟨w.heap.size + 1 + 1, 1, none⟩ (.int .i64 t2)).setCell ⟨w.heap.size + 1 + 1 + 1, 0, none⟩ (.bool true)) ∧ (N ≤ 0 → ∀ p r, ([] : Sts) = p :: r → t2 < p.2)) := by
        refine ⟨?_, rk.kept kw3, kw.trans kw3, fun _ => hdue⟩
        obtain ⟨v2, u2⟩ := hwk.un
        have hh : Holds9 K6 b W (((W.drew.setCell ⟨w.heap.size + 1 + 1, 0, none⟩ (.slice ma 0 mc)).setCell ⟨w.heap.size + 1 + 1, 1, none⟩ (.int .i64 t2)).setCell ⟨w.heap.size + 1 + 1 + 1, 0, none⟩ (.bool true)) := (((Holds9.ext (show Ext W W.drew from (Ext.refl W).drewN 1)).trans (Holds9.set _ (h6 2 (by decide)) 0 _)).trans (Holds9.set _ (h6 2 (by decide)) 1 _)).trans (Holds9.set _ (h6 3 (by decide)) 0 _)
        exact ⟨hwk.1, hwk.2.1, v2, hh K6 t2 v2 _ (fun _ h => h) u2⟩
      clear rk kw kw2 kw3 kwd S0 RC RD RE rwd rw9 hwk hdf pe1 pe2 pe3 pe7 pc1 pc2 pc3 pc7 pd1 pd2 pd3 pd7 fc1 fc5 fd1 fd5 hdue
      go_wp2_with fail
      refine wp_region_noPanic ?_
      refine wp_region_held_drew (S := fun V => Kept (fun i => i ≠ w.heap.size + 2 ∧ i ≠ w.heap.size + 3) W V) (by kernel_rfl) ((Kept.refl _ W).drewN 1) (fun hHeld => ?_)
      refine takeE (v := ?_) 0 56 rfl rfl (by kernel_rfl) (by kernel_rfl) (by kernel_rfl) (fun _ _ _ h => h) (Or.inl ⟨by rfl, fun V hV => ?_⟩) hHeld ?_
      rotate_left
      · (have y1 := hV.cell (a := ⟨w.heap.size, 0, none⟩) ne0 p1; have y2 := hV.cell (a := ⟨w.heap.size, 1, none⟩) ne0 p2; go_simp; try with_reducible rfl)
      simp only [Act.put, List.setIfInBounds_toArray, List.set_cons_zero, List.set_cons_succ]
      refine takeE (v := ?_) 1 57 rfl rfl (by kernel_rfl) (by kernel_rfl) (by kernel_rfl) (fun _ _ _ h => h) (Or.inl ⟨by rfl, fun V hV => ?_⟩) hHeld ?_
      rotate_left
      · (go_simp; try with_reducible rfl)
      simp only [Act.put, List.setIfInBounds_toArray, List.set_cons_zero, List.set_cons_succ]
      refine takeE (v := ?_) 2 58 rfl rfl (by kernel_rfl) (by kernel_rfl) (by kernel_rfl) (fun _ _ _ h => h) (Or.inl ⟨by rfl, fun V hV => ?_⟩) hHeld ?_
      rotate_left
      · (have y1 := hV.cell (a := ⟨w.heap.size, 0, none⟩) ne0 p1; have y2 := hV.cell (a := ⟨w.heap.size, 1, none⟩) ne0 p2; go_simp; try with_reducible rfl)
      simp only [Act.put, List.setIfInBounds_toArray, List.set_cons_zero, List.set_cons_succ]
      refine takeE (v := ?_) 3 59 rfl rfl (by kernel_rfl) (by kernel_rfl) (by kernel_rfl) (fun _ _ _ h => h) (Or.inl ⟨by rfl, fun V hV => ?_⟩) hHeld ?_
      rotate_left
      · (go_simp; try with_reducible rfl)
      simp only [Act.put, List.setIfInBounds_toArray, List.set_cons_zero, List.set_cons_succ]
      refine takeE (v := ?_) 4 60 rfl rfl (by kernel_rfl) (by kernel_rfl) (by kernel_rfl) (fun _ _ _ h => h) (Or.inl ⟨by rfl, fun V hV => ?_⟩) hHeld ?_
      rotate_left
      · (go_simp; try with_reducible rfl)
      simp only [Act.put, List.setIfInBounds_toArray, List.set_cons_zero, List.set_cons_succ]
      refine takeE (v := ?_) 5 61 rfl rfl (by kernel_rfl) (by kernel_rfl) (by kernel_rfl) (fun _ _ _ h => h) (Or.inl ⟨by rfl, fun V hV => ?_⟩) hHeld ?_
      rotate_left
      · (go_simp; try with_reducible rfl)
      simp only [Act.put, List.setIfInBounds_toArray, List.set_cons_zero, List.set_cons_succ]
      refine takeE (v := undef) 6 62 rfl rfl (by kernel_rfl) (by kernel_rfl) (by kernel_rfl) (fun _ _ _ h => h) (Or.inr ⟨by rfl, rfl⟩) hHeld ?_
      simp only [Act.put, List.setIfInBounds_toArray, List.set_cons_zero, List.set_cons_succ]
      refine takeE (v := undef) 7 63 rfl rfl (by kernel_rfl) (by kernel_rfl) (by kernel_rfl) (fun _ _ _ h => h) (Or.inr ⟨by rfl, rfl⟩) hHeld ?_
      simp only [Act.put, List.setIfInBounds_toArray, List.set_cons_zero, List.set_cons_succ]
      refine takeE (v := undef) 8 64 rfl rfl (by kernel_rfl) (by kernel_rfl) (by kernel_rfl) (fun _ _ _ h => h) (Or.inr ⟨by rfl, rfl⟩) hHeld ?_
      simp only [Act.put, List.setIfInBounds_toArray, List.set_cons_zero, List.set_cons_succ]
      refine takeE (v := undef) 9 65 rfl rfl (by kernel_rfl) (by kernel_rfl) (by kernel_rfl) (fun _ _ _ h => h) (Or.inr ⟨by rfl, rfl⟩) hHeld ?_
      simp only [Act.put, List.setIfInBounds_toArray, List.set_cons_zero, List.set_cons_succ]
      refine takeE (v := undef) 10 66 rfl rfl (by kernel_rfl) (by kernel_rfl) (by kernel_rfl) (fun _ _ _ h => h) (Or.inr ⟨by rfl, rfl⟩) hHeld ?_
      simp only [Act.put, List.setIfInBounds_toArray, List.set_cons_zero, List.set_cons_succ]
      refine takeE (v := undef) 11 67 rfl rfl (by kernel_rfl) (by kernel_rfl) (by kernel_rfl) (fun _ _ _ h => h) (Or.inr ⟨by rfl, rfl⟩) hHeld ?_
      simp only [Act.put, List.setIfInBounds_toArray, List.set_cons_zero, List.set_cons_succ]
      refine takeE (v := undef) 12 68 rfl rfl (by kernel_rfl) (by kernel_rfl) (by kernel_rfl) (fun _ _ _ h => h) (Or.inr ⟨by rfl, rfl⟩) hHeld ?_
      simp only [Act.put, List.setIfInBounds_toArray, List.set_cons_zero, List.set_cons_succ]
      refine takeE (v := undef) 13 69 rfl rfl (by kernel_rfl) (by kernel_rfl) (by kernel_rfl) (fun _ _ _ h => h) (Or.inr ⟨by rfl, rfl⟩) hHeld ?_
      simp only [Act.put, List.setIfInBounds_toArray, List.set_cons_zero, List.set_cons_succ]
      refine takeE (v := ?_) 14 70 rfl rfl (by kernel_rfl) (by kernel_rfl) (by kernel_rfl) (fun _ _ _ h => h) (Or.inl ⟨by rfl, fun V hV => ?_⟩) hHeld ?_
      rotate_left
      · (go_simp; try with_reducible rfl)
      simp only [Act.put, List.setIfInBounds_toArray, List.set_cons_zero, List.set_cons_succ]
      refine storeE 15 rfl (by kernel_rfl) (by rfl) (w' := ((W.drew.setCell ⟨w.heap.size + 1 + 1, 0, none⟩ (.slice ma 0 mc)).setCell ⟨w.heap.size + 1 + 1, 1, none⟩ (.int .i64 t2))) (by go_simp; try with_reducible rfl) S2.out ?_
      simp only [Act.put]
      refine storeE 16 rfl (by kernel_rfl) (by rfl) (w' := (((W.drew.setCell ⟨w.heap.size + 1 + 1, 0, none⟩ (.slice ma 0 mc)).setCell ⟨w.heap.size + 1 + 1, 1, none⟩ (.int .i64 t2)).setCell ⟨w.heap.size + 1 + 1 + 1, 0, none⟩ (.bool true))) (by go_simp; try with_reducible rfl) S3.out ?_
      simp only [Act.put]
      refine wpAnyH_done (by kernel_rfl) ?_ _
      refine NoPanic.normal ?_
      clear hHeld pc4 pc5 pc6 fc2 fc3 fc4 pd4 pd5 pd6 fd2 fd3 fd4 S2 S3
      obtain ⟨MV, eMV⟩ : ∃ MV : Value, MV = .slice ma 0 mc := ⟨_, rfl⟩
      generalize (((W.drew.setCell ⟨w.heap.size + 1 + 1, 0, none⟩ (.slice ma 0 mc)).setCell ⟨w.heap.size + 1 + 1, 1, none⟩ (.int .i64 t2)).setCell ⟨w.heap.size + 1 + 1 + 1, 0, none⟩ (.bool true)) = V at *
      rw [← eMV] at g0 HF
      clear eMV
      obtain ⟨rest, erest⟩ : ∃ rest : Sts, rest = [] := ⟨_, rfl⟩
      rw [← erest] at HF
      go_wp2_with fail
      have hKV : V.heap[D]? = some (.deferred (some [])) := HD.out
      have gr := grownBy_putObj' V D (.deferred none)
      have hr : ∀ r, some D = some r → ∃ o : Obj, V.heap[r]? = some o ∧ o.isCells = false := fun r e => by cases e; exact ⟨_, hKV, rfl⟩
      have nD : ¬ K D := fun h => by have := KL.out _ h; omega
      have kV : Kept K V (V.putObj D (.deferred none)) := kept_put V nD _
      have FIN : Hid (WhK K (V.putObj D (.deferred none)) b t2 rest ∧ RowK K (V.putObj D (.deferred none)) MV 2 (gcells rest) ∧ Kept K w (V.putObj D (.deferred none)) ∧ (N ≤ 0 → ∀ p r, rest = p :: r → t2 < p.2)) := by
        obtain ⟨h1, h2, h3, h4⟩ := HF.out
        refine ⟨?_, h2.kept kV, h3.trans kV, h4⟩
        obtain ⟨v2, u2⟩ := h1.un
        exact ⟨h1.1, h1.2.1, v2, (Holds9.put (K := K6) (b := b) V D _ (.deferred none) hKV rfl K6 t2 v2 rest (fun _ h => h) u2).less hK6⟩
      have hc5 := cell_kept g0 gr hr
      have hc6 := cell_kept g1 gr hr
      have hc7 := cell_kept g2 gr hr
      refine ⟨by simp, .inl ⟨_, _, rfl, run_takeDeferred hKV, ?_⟩⟩
      refine ⟨.tuple #[.agg #[MV, .int .i64 t2], .bool true], ?_, MV, rest, rfl, FIN.out⟩
      simp [results, Try.f13, go_sem, hc5, hc6, hc7]
    | cons x r =>
      obtain ⟨g, o, eg, x1, x2⟩ := qv 0 (by simp)
      subst eg
      obtain ⟨xi, xt⟩ := x
      simp only [List.getD_cons_zero, Nat.zero_mul, Nat.add_zero, List.length_cons] at *
      have gl : K g := by
        obtain ⟨_, _, _, e, _, _, _, q4⟩ := rk
        simp only [Value.slice.injEq] at e
        obtain ⟨rfl, rfl, rfl⟩ := e
        obtain ⟨g', o', e, hk, _⟩ := q4 (by omega)
        simp only [Option.some.injEq, Addr.mk.injEq] at e
        rw [e.1]; exact hk
      have glt := KL.out _ gl
      have neg : g ≠ w.heap.size + 2 ∧ g ≠ w.heap.size + 3 := by omega
      have ht : t2 < xt := hdue _ _ rfl
      have ht' : decide (t2 < xt) = true := by simp [ht]
      have n0 : ((r.length : Int) + 1 == 0) = false := by simp; omega
      clear qv x1 gl
      have rwd : Rows9 w.heap.size W.drew (boxes9 (.slice (some ⟨g, o, none⟩) (r.length + 1) mc) t2 (pre.length : Int) kind id tick N (.slice none 0 0) (.int .i64 0) (.bool false)) := rw9
      have RC := b9_z0 rwd (.slice (some ⟨g, o, none⟩) (r.length + 1) mc)
      have RD := b9_z1 RC (.int .i64 t2)
      have RE := b9_b RD (.bool true)
      obtain ⟨pe1, pe2, pe3, g0, g1, g2, pe7⟩ := b9_cells RE
      obtain ⟨_, f2, f3, f4, _⟩ := b9_free rw9
      obtain ⟨pc1, pc2, pc3, pc4, pc5, pc6, pc7⟩ := b9_cells RC
      obtain ⟨fc1, fc2, fc3, fc4, fc5⟩ := b9_free RC
      obtain ⟨pd1, pd2, pd3, pd4, pd5, pd6, pd7⟩ := b9_cells RD
      obtain ⟨fd1, fd2, fd3, fd4, fd5⟩ := b9_free RD
      have kwd : Kept K W W.drew := (Kept.refl K W).drewN 1
      have kw2 := (kwd.setCell (p := ⟨w.heap.size + 1 + 1, 0, none⟩) (nK 2) (.slice (some ⟨g, o, none⟩) (r.length + 1) mc)).setCell (p := ⟨w.heap.size + 1 + 1, 1, none⟩) (nK 2) (.int .i64 t2)
      have kw3 := kw2.setCell (p := ⟨w.heap.size + 1 + 1 + 1, 0, none⟩) (nK 3) (.bool true)
      have S0 : Kept (fun i => i ≠ w.heap.size + 2 ∧ i ≠ w.heap.size + 3) W W.drew := (Kept.refl _ W).drewN 1
      have S2 : Hid (Kept (fun i => i ≠ w.heap.size + 2 ∧ i ≠ w.heap.size + 3) W ((W.drew.setCell ⟨w.heap.size + 1 + 1, 0, none⟩ (.slice (some ⟨g, o, none⟩) (r.length + 1) mc)).setCell ⟨w.heap.size + 1 + 1, 1, none⟩ (.int .i64 t2))) := (S0.setCell (p := ⟨w.heap.size + 1 + 1, 0, none⟩) (fun h => h.1 rfl) (.slice (some ⟨g, o, none⟩) (r.length + 1) mc)).setCell (p := ⟨w.heap.size + 1 + 1, 1, none⟩) (fun h => h.1 rfl) (.int .i64 t2)
      have S3 := hid (S2.out.setCell (p := ⟨w.heap.size + 1 + 1 + 1, 0, none⟩) (fun h => h.2 rfl) (.bool true))
      have HD := hid (S3.out.row dD hdf)
      have HF : Hid (WhK K6 (((W.drew.setCell ⟨w.heap.size + 1 + 1, 0, none⟩ (.slice (some ⟨g, o, none⟩) (r.length + 1) mc)).setCell ⟨w.heap.size + 1 + 1, 1, none⟩ (.int .i64 t2)).setCell ⟨w.heap.size + 1 + 1 + 1, 0, none⟩ (.bool true)) b t2 (((xi, xt) :: r : Sts)) ∧ RowK K (((W.drew.setCell ⟨w.heap.size + 1 + 1, 0, none⟩ (.slice (some ⟨g, o, none⟩) (r.length + 1) mc)).setCell ⟨w.heap.size + 1 + 1, 1, none⟩ (.int .i64 t2)).setCell ⟨w.heap.size + 1 + 1 + 1, 0, none⟩ (.bool true)) (.slice (some ⟨g, o, none⟩) (r.length + 1) mc) 2 (gcells (((xi, xt) :: r : Sts))) ∧ Kept K w (((W.drew.setCell ⟨w.heap.size + 1 + 1, 0, none⟩ (.slice (some ⟨g, o, none⟩) (r.length + 1) mc)).setCell ⟨w.heap.size + 1 + 1, 1, none⟩ (.int .i64 t2)).setCell ⟨w.heap.size + 1 + 1 + 1, 0, none⟩ (.bool true)) ∧ (N ≤ 0 → ∀ p q, ((xi, xt) :: r : Sts) = p :: q → t2 < p.2)) := by
        refine ⟨?_, rk.kept kw3, kw.trans kw3, fun _ => hdue⟩
        obtain ⟨v2, u2⟩ := hwk.un
        have hh : Holds9 K6 b W (((W.drew.setCell ⟨w.heap.size + 1 + 1, 0, none⟩ (.slice (some ⟨g, o, none⟩) (r.length + 1) mc)).setCell ⟨w.heap.size + 1 + 1, 1, none⟩ (.int .i64 t2)).setCell ⟨w.heap.size + 1 + 1 + 1, 0, none⟩ (.bool true)) := (((Holds9.ext (show Ext W W.drew from (Ext.refl W).drewN 1)).trans (Holds9.set _ (h6 2 (by decide)) 0 _)).trans (Holds9.set _ (h6 2 (by decide)) 1 _)).trans (Holds9.set _ (h6 3 (by decide)) 0 _)
        exact ⟨hwk.1, hwk.2.1, v2, hh K6 t2 v2 _ (fun _ h => h) u2⟩
      clear rk kw kw2 kw3 kwd S0 RC RD RE rwd rw9 hwk hdf pe1 pe2 pe3 pe7 pc1 pc2 pc3 pc7 pd1 pd2 pd3 pd7 fc1 fc5 fd1 fd5 hdue
      generalize r.length = n at *
      go_wp2_with fail
      refine wp_region_noPanic ?_
      refine wp_region_held_drew (S := fun V => Kept (fun i => i ≠ w.heap.size + 2 ∧ i ≠ w.heap.size + 3) W V) (by kernel_rfl) ((Kept.refl _ W).drewN 1) (fun hHeld => ?_)
      refine takeE (v := ?_) 0 56 rfl rfl (by kernel_rfl) (by kernel_rfl) (by kernel_rfl) (fun _ _ _ h => h) (Or.inl ⟨by rfl, fun V hV => ?_⟩) hHeld ?_
      rotate_left
      · (have y1 := hV.cell (a := ⟨w.heap.size, 0, none⟩) ne0 p1; have y2 := hV.cell (a := ⟨w.heap.size, 1, none⟩) ne0 p2; have y3 := hV.cell (a := ⟨g, o + 1, none⟩) neg x2; go_simp; try with_reducible rfl)
      simp only [Act.put, List.setIfInBounds_toArray, List.set_cons_zero, List.set_cons_succ]
      refine takeE (v := ?_) 1 57 rfl rfl (by kernel_rfl) (by kernel_rfl) (by kernel_rfl) (fun _ _ _ h => h) (Or.inl ⟨by rfl, fun V hV => ?_⟩) hHeld ?_
      rotate_left
      · (go_simp; try with_reducible rfl)
      simp only [Act.put, List.setIfInBounds_toArray, List.set_cons_zero, List.set_cons_succ]
      refine takeE (v := ?_) 2 58 rfl rfl (by kernel_rfl) (by kernel_rfl) (by kernel_rfl) (fun _ _ _ h => h) (Or.inl ⟨by rfl, fun V hV => ?_⟩) hHeld ?_
      rotate_left
      · (have y1 := hV.cell (a := ⟨w.heap.size, 0, none⟩) ne0 p1; have y2 := hV.cell (a := ⟨w.heap.size, 1, none⟩) ne0 p2; have y3 := hV.cell (a := ⟨g, o + 1, none⟩) neg x2; go_simp; try with_reducible rfl)
      simp only [Act.put, List.setIfInBounds_toArray, List.set_cons_zero, List.set_cons_succ]
      refine takeE (v := ?_) 3 59 rfl rfl (by kernel_rfl) (by kernel_rfl) (by kernel_rfl) (fun _ _ _ h => h) (Or.inl ⟨by rfl, fun V hV => ?_⟩) hHeld ?_
      rotate_left
      · (go_simp; try with_reducible rfl)
      simp only [Act.put, List.setIfInBounds_toArray, List.set_cons_zero, List.set_cons_succ]
      refine takeE (v := ?_) 4 60 rfl rfl (by kernel_rfl) (by kernel_rfl) (by kernel_rfl) (fun _ _ _ h => h) (Or.inl ⟨by rfl, fun V hV => ?_⟩) hHeld ?_
      rotate_left
      · (go_simp; try with_reducible rfl)
      simp only [Act.put, List.setIfInBounds_toArray, List.set_cons_zero, List.set_cons_succ]
      refine takeE (v := ?_) 5 61 rfl rfl (by kernel_rfl) (by kernel_rfl) (by kernel_rfl) (fun _ _ _ h => h) (Or.inl ⟨by rfl, fun V hV => ?_⟩) hHeld ?_
      rotate_left
      · (go_simp; try with_reducible rfl)
      simp only [Act.put, List.setIfInBounds_toArray, List.set_cons_zero, List.set_cons_succ]
      refine takeE (v := ?_) 6 62 rfl rfl (by kernel_rfl) (by kernel_rfl) (by kernel_rfl) (fun _ _ _ h => h) (Or.inl ⟨by rfl, fun V hV => ?_⟩) hHeld ?_
      rotate_left
      · (go_simp; try with_reducible rfl)
      simp only [Act.put, List.setIfInBounds_toArray, List.set_cons_zero, List.set_cons_succ]
      refine takeE (v := ?_) 7 63 rfl rfl (by kernel_rfl) (by kernel_rfl) (by kernel_rfl) (fun _ _ _ h => h) (Or.inl ⟨by rfl, fun V hV => ?_⟩) hHeld ?_
      rotate_left
      · (have y1 := hV.cell (a := ⟨w.heap.size, 0, none⟩) ne0 p1; have y2 := hV.cell (a := ⟨w.heap.size, 1, none⟩) ne0 p2; have y3 := hV.cell (a := ⟨g, o + 1, none⟩) neg x2; go_simp; try with_reducible rfl)
      simp only [Act.put, List.setIfInBounds_toArray, List.set_cons_zero, List.set_cons_succ]
      refine takeE (v := ?_) 8 64 rfl rfl (by kernel_rfl) (by kernel_rfl) (by kernel_rfl) (fun _ _ _ h => h) (Or.inl ⟨by rfl, fun V hV => ?_⟩) hHeld ?_
      rotate_left
      · (go_simp; try with_reducible rfl)
      simp only [Act.put, List.setIfInBounds_toArray, List.set_cons_zero, List.set_cons_succ]
      refine takeE (v := ?_) 9 65 rfl rfl (by kernel_rfl) (by kernel_rfl) (by kernel_rfl) (fun _ _ _ h => h) (Or.inl ⟨by rfl, fun V hV => ?_⟩) hHeld ?_
      rotate_left
      · (go_simp; try with_reducible rfl)
      simp only [Act.put, List.setIfInBounds_toArray, List.set_cons_zero, List.set_cons_succ]
      refine takeE (v := ?_) 10 66 rfl rfl (by kernel_rfl) (by kernel_rfl) (by kernel_rfl) (fun _ _ _ h => h) (Or.inl ⟨by rfl, fun V hV => ?_⟩) hHeld ?_
      rotate_left
      · (have y1 := hV.cell (a := ⟨w.heap.size, 0, none⟩) ne0 p1; have y2 := hV.cell (a := ⟨w.heap.size, 1, none⟩) ne0 p2; have y3 := hV.cell (a := ⟨g, o + 1, none⟩) neg x2; go_simp; try with_reducible rfl)
      simp only [Act.put, List.setIfInBounds_toArray, List.set_cons_zero, List.set_cons_succ]
      refine takeE (v := ?_) 11 67 rfl rfl (by kernel_rfl) (by kernel_rfl) (by kernel_rfl) (fun _ _ _ h => h) (Or.inl ⟨by rfl, fun V hV => ?_⟩) hHeld ?_
      rotate_left
      · (go_simp; try with_reducible rfl)
      simp only [Act.put, List.setIfInBounds_toArray, List.set_cons_zero, List.set_cons_succ]
      refine takeE (v := ?_) 12 68 rfl rfl (by kernel_rfl) (by kernel_rfl) (by kernel_rfl) (fun _ _ _ h => h) (Or.inl ⟨by rfl, fun V hV => ?_⟩) hHeld ?_
      rotate_left
      · (have y1 := hV.cell (a := ⟨w.heap.size, 0, none⟩) ne0 p1; have y2 := hV.cell (a := ⟨w.heap.size, 1, none⟩) ne0 p2; have y3 := hV.cell (a := ⟨g, o + 1, none⟩) neg x2; go_simp; try with_reducible rfl)
      simp only [Act.put, List.setIfInBounds_toArray, List.set_cons_zero, List.set_cons_succ]
      refine takeE (v := ?_) 13 69 rfl rfl (by kernel_rfl) (by kernel_rfl) (by kernel_rfl) (fun _ _ _ h => h) (Or.inl ⟨by rfl, fun V hV => ?_⟩) hHeld ?_
      rotate_left
      · (go_simp; try with_reducible rfl)
      simp only [Act.put, List.setIfInBounds_toArray, List.set_cons_zero, List.set_cons_succ]
      refine takeE (v := ?_) 14 70 rfl rfl (by kernel_rfl) (by kernel_rfl) (by kernel_rfl) (fun _ _ _ h => h) (Or.inl ⟨by rfl, fun V hV => ?_⟩) hHeld ?_
      rotate_left
      · (go_simp; try with_reducible rfl)
      simp only [Act.put, List.setIfInBounds_toArray, List.set_cons_zero, List.set_cons_succ]
      refine storeE 15 rfl (by kernel_rfl) (by rfl) (w' := ((W.drew.setCell ⟨w.heap.size + 1 + 1, 0, none⟩ (.slice (some ⟨g, o, none⟩) (n + 1) mc)).setCell ⟨w.heap.size + 1 + 1, 1, none⟩ (.int .i64 t2))) (by go_simp; try with_reducible rfl) S2.out ?_
      simp only [Act.put]
      refine storeE 16 rfl (by kernel_rfl) (by rfl) (w' := (((W.drew.setCell ⟨w.heap.size + 1 + 1, 0, none⟩ (.slice (some ⟨g, o, none⟩) (n + 1) mc)).setCell ⟨w.heap.size + 1 + 1, 1, none⟩ (.int .i64 t2)).setCell ⟨w.heap.size + 1 + 1 + 1, 0, none⟩ (.bool true))) (by go_simp; try with_reducible rfl) S3.out ?_
      simp only [Act.put]
      refine wpAnyH_done (by kernel_rfl) ?_ _
      refine NoPanic.normal ?_
      clear hHeld pc4 pc5 pc6 fc2 fc3 fc4 pd4 pd5 pd6 fd2 fd3 fd4 S2 S3
      obtain ⟨MV, eMV⟩ : ∃ MV : Value, MV = .slice (some ⟨g, o, none⟩) (n + 1) mc := ⟨_, rfl⟩
      generalize (((W.drew.setCell ⟨w.heap.size + 1 + 1, 0, none⟩ (.slice (some ⟨g, o, none⟩) (n + 1) mc)).setCell ⟨w.heap.size + 1 + 1, 1, none⟩ (.int .i64 t2)).setCell ⟨w.heap.size + 1 + 1 + 1, 0, none⟩ (.bool true)) = V at *
      rw [← eMV] at g0 HF
      clear eMV
      obtain ⟨rest, erest⟩ : ∃ rest : Sts, rest = (xi, xt) :: r := ⟨_, rfl⟩
      rw [← erest] at HF
      go_wp2_with fail
      have hKV : V.heap[D]? = some (.deferred (some [])) := HD.out
      have gr := grownBy_putObj' V D (.deferred none)
      have hr : ∀ r, some D = some r → ∃ o : Obj, V.heap[r]? = some o ∧ o.isCells = false := fun r e => by cases e; exact ⟨_, hKV, rfl⟩
      have nD : ¬ K D := fun h => by have := KL.out _ h; omega
      have kV : Kept K V (V.putObj D (.deferred none)) := kept_put V nD _
      have FIN : Hid (WhK K (V.putObj D (.deferred none)) b t2 rest ∧ RowK K (V.putObj D (.deferred none)) MV 2 (gcells rest) ∧ Kept K w (V.putObj D (.deferred none)) ∧ (N ≤ 0 → ∀ p r, rest = p :: r → t2 < p.2)) := by
        obtain ⟨h1, h2, h3, h4⟩ := HF.out
        refine ⟨?_, h2.kept kV, h3.trans kV, h4⟩
        obtain ⟨v2, u2⟩ := h1.un
        exact ⟨h1.1, h1.2.1, v2, (Holds9.put (K := K6) (b := b) V D _ (.deferred none) hKV rfl K6 t2 v2 rest (fun _ h => h) u2).less hK6⟩
      have hc5 := cell_kept g0 gr hr
      have hc6 := cell_kept g1 gr hr
      have hc7 := cell_kept g2 gr hr
      refine ⟨by simp, .inl ⟨_, _, rfl, run_takeDeferred hKV, ?_⟩⟩
      refine ⟨.tuple #[.agg #[MV, .int .i64 t2], .bool true], ?_, MV, rest, rfl, FIN.out⟩
      simp [results, Try.f13, go_sem, hc5, hc6, hc7]
  case stop =>
    rintro D c pre rest W hD el ⟨rfl, hN, MV, rk, kw, r2, r3⟩ hwk hdf
    have ed : l.drop pre.length = rest := by rw [el]; simp
    rw [ed] at rk
    have dw : w.heap.size ≤ D := by have := Z5.out; omega
    have g0 : W.cell? ⟨w.heap.size + 1 + 1, 0, none⟩ = some MV := by rw [cell_of_row W _ 0 _ _ _ r2]; rfl
    have g1 : W.cell? ⟨w.heap.size + 1 + 1, 1, none⟩ = some (.int .i64 t2) := by rw [cell_of_row W _ 1 _ _ _ r2]; rfl
    have g2 : W.cell? ⟨w.heap.size + 1 + 1 + 1, 0, none⟩ = some (.bool true) := by rw [cell_of_row W _ 0 _ _ _ r3]; rfl
    have HD := hid hdf
    have HF : Hid (WhK K6 W b t2 rest ∧ RowK K W MV 2 (gcells rest) ∧ Kept K w W ∧ (N ≤ 0 → ∀ p r, rest = p :: r → t2 < p.2)) := ⟨hwk, rk, kw, fun h => by omega⟩
    clear rk kw r2 r3 hwk hdf
    obtain ⟨V, rfl⟩ : ∃ V, V = W := ⟨_, rfl⟩
    go_wp2_with fail
    have hKV : V.heap[D]? = some (.deferred (some [])) := HD.out
    have gr := grownBy_putObj' V D (.deferred none)
    have hr : ∀ r, some D = some r → ∃ o : Obj, V.heap[r]? = some o ∧ o.isCells = false := fun r e => by cases e; exact ⟨_, hKV, rfl⟩
    have nD : ¬ K D := fun h => by have := KL.out _ h; omega
    have kV : Kept K V (V.putObj D (.deferred none)) := kept_put V nD _
    have FIN : Hid (WhK K (V.putObj D (.deferred none)) b t2 rest ∧ RowK K (V.putObj D (.deferred none)) MV 2 (gcells rest) ∧ Kept K w (V.putObj D (.deferred none)) ∧ (N ≤ 0 → ∀ p r, rest = p :: r → t2 < p.2)) := by
      obtain ⟨h1, h2, h3, h4⟩ := HF.out
      refine ⟨?_, h2.kept kV, h3.trans kV, h4⟩
      obtain ⟨v2, u2⟩ := h1.un
      exact ⟨h1.1, h1.2.1, v2, (Holds9.put (K := K6) (b := b) V D _ (.deferred none) hKV rfl K6 t2 v2 rest (fun _ h => h) u2).less hK6⟩
    have hc5 := cell_kept g0 gr hr
    have hc6 := cell_kept g1 gr hr
    have hc7 := cell_kept g2 gr hr
    refine ⟨by simp, .inl ⟨_, _, rfl, run_takeDeferred hKV, ?_⟩⟩
    refine ⟨.tuple #[.agg #[MV, .int .i64 t2], .bool true], ?_, MV, rest, rfl, FIN.out⟩
    simp [results, Try.f13, go_sem, hc5, hc6, hc7]
end Go.Proofs.Ythokjkkhkcdceaa

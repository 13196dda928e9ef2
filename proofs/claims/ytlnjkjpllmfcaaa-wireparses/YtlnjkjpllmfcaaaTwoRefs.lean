/-
  Two packets of the reference made in one statement, in whatever order its parts come.
-/
import Derived.Test.YtlnjkjpllmfcaaaWireTurnedW
import Derived.Test.YtlnjkjpllmfcaaaWireRefN
import Derived.Deep.RegionHeld3
namespace Go.Proofs.Ytlnjkjpllmfcaaa
set_option linter.unusedVariables false
set_option maxRecDepth 100000
open Go.RowKit Go.Lib

/-- a frame that is a0 but for four slots -/
def Fr (a0 a : Act) : Prop := a.tmps.size = a0.tmps.size ∧ a.defers = a0.defers ∧ ∀ k, k ≠ 6 → k ≠ 7 → k ≠ 26 → k ≠ 28 → a.tmps[k]? = a0.tmps[k]?
theorem Fr.refl (a : Act) : Fr a a := ⟨rfl, rfl, fun _ _ _ _ _ => rfl⟩
theorem put_at {a : Act} (d : Nat) (v : Value) (h : d < a.tmps.size) : (a.put (some d) v).tmps[d]? = some v := by
  show (a.tmps.setIfInBounds d v)[d]? = some v
  rw [Array.getElem?_setIfInBounds_self_of_lt h]
theorem put_other {a : Act} (d k : Nat) (v : Value) (h : d ≠ k) : (a.put (some d) v).tmps[k]? = a.tmps[k]? := by
  show (a.tmps.setIfInBounds d v)[k]? = _
  rw [Array.getElem?_setIfInBounds_ne h]
theorem Fr.put {a0 a : Act} (h : Fr a0 a) (d : Nat) (hd : d = 6 ∨ d = 7 ∨ d = 26 ∨ d = 28) (v : Value) : Fr a0 (a.put (some d) v) := by
  refine ⟨?_, h.2.1, fun k h6 h7 h26 h28 => ?_⟩
  · show (a.tmps.setIfInBounds d v).size = _
    rw [Array.size_setIfInBounds]; exact h.1
  · rw [put_other d k v (by omega)]; exact h.2.2 k h6 h7 h26 h28
theorem eval_at {a : Act} {k : Nat} {v : Value} (h : a.tmps[k]? = some v) : a.eval (.tmp k) = v := by
  show a.tmps.getD k undef = v
  simp [h]
theorem Fr.is {a0 a : Act} (h : Fr a0 a) {x6 x7 x26 x28 : Value} (h6 : a.tmps[6]? = some x6) (h7 : a.tmps[7]? = some x7) (h26 : a.tmps[26]? = some x26) (h28 : a.tmps[28]? = some x28) :
    a = (((a0.put (some 6) x6).put (some 7) x7).put (some 26) x26).put (some 28) x28 := by
  have e : a.tmps = (((a0.tmps.setIfInBounds 6 x6).setIfInBounds 7 x7).setIfInBounds 26 x26).setIfInBounds 28 x28 := by
    refine Array.ext_getElem? fun k => ?_
    have hs : 28 < a0.tmps.size := by rw [← h.1]; exact (Array.getElem?_eq_some_iff.1 h28).1
    by_cases e28 : k = 28
    · subst e28; rw [Array.getElem?_setIfInBounds_self_of_lt (by simpa using hs)]; exact h28
    · rw [Array.getElem?_setIfInBounds_ne (fun e => e28 e.symm)]
      by_cases e26 : k = 26
      · subst e26; rw [Array.getElem?_setIfInBounds_self_of_lt (by simp; omega)]; exact h26
      · rw [Array.getElem?_setIfInBounds_ne (fun e => e26 e.symm)]
        by_cases e7 : k = 7
        · subst e7; rw [Array.getElem?_setIfInBounds_self_of_lt (by simp; omega)]; exact h7
        · rw [Array.getElem?_setIfInBounds_ne (fun e => e7 e.symm)]
          by_cases e6 : k = 6
          · subst e6; rw [Array.getElem?_setIfInBounds_self_of_lt (by omega)]; exact h6
          · rw [Array.getElem?_setIfInBounds_ne (fun e => e6 e.symm)]
            exact h.2.2 k e6 e7 e26 e28
  obtain ⟨t, d⟩ := a
  simp only at e
  subst e
  have := h.2.1
  simp only at this
  subst this
  rfl

/-- a pointer to a new block of zeros -/
def Blk (w5 w : World) (a : Act) (k g : Nat) : Prop := a.tmps[k]? = some (.pointer (some ⟨g, 0, none⟩)) ∧ w5.heap.size ≤ g ∧ w.heap[g]? = some (.cells zref 35 (0, 0))
theorem Blk.lt {w5 w : World} {a : Act} {k g : Nat} (h : Blk w5 w a k g) : g < w.heap.size := by
  have := h.2.2
  rcases Nat.lt_or_ge g w.heap.size with c | c
  · exact c
  · rw [Array.getElem?_eq_none c] at this; cases this
theorem Blk.ext {w5 w w' : World} {a : Act} {k g : Nat} (h : Blk w5 w a k g) (x : Ext w w') : Blk w5 w' a k g := ⟨h.1, h.2.1, x.row h.2.2⟩
theorem Blk.put {w5 w : World} {a : Act} {k g : Nat} (h : Blk w5 w a k g) (d : Nat) (v : Value) (hd : d ≠ k) : Blk w5 w (a.put (some d) v) k g := ⟨by rw [put_other d k v hd]; exact h.1, h.2⟩

/-- not where the variables lie -/
def Off (g h : Nat) (x y : Bool) (i : Nat) : Prop := (x = true → i ≠ g) ∧ (y = true → i ≠ h)
/-- a packet of the reference in a slot -/
def Slotted (K : Nat → Prop) (w : World) (a : Act) (k : Nat) (p : Pk) : Prop := ∃ ra rg da, a.tmps[k]? = some (.agg (prow p ra rg da)) ∧ PL K w p ra rg da
theorem Slotted.put {K : Nat → Prop} {w : World} {a : Act} {k : Nat} {p : Pk} (h : Slotted K w a k p) (d : Nat) (v : Value) (hd : d ≠ k) : Slotted K w (a.put (some d) v) k p := by
  obtain ⟨ra, rg, da, h1, h2⟩ := h
  exact ⟨ra, rg, da, by rw [put_other d k v hd]; exact h1, h2⟩
theorem Slotted.kept {K : Nat → Prop} {w w' : World} {a : Act} {k : Nat} {p : Pk} (h : Slotted K w a k p) (e : Kept K w w') : Slotted K w' a k p := by
  obtain ⟨ra, rg, da, h1, h2⟩ := h
  exact ⟨ra, rg, da, h1, h2.kept e⟩
theorem Slotted.mono {K L : Nat → Prop} {w : World} {a : Act} {k : Nat} {p : Pk} (h : Slotted K w a k p) (hL : ∀ i, i < w.heap.size → K i → L i) : Slotted L w a k p := by
  obtain ⟨ra, rg, da, h1, h2⟩ := h
  exact ⟨ra, rg, da, h1, h2.mono hL⟩
/-- how far it has come: c packets of two, the first variable, the second one -/
def Part (a0 : Act) (w5 : World) (p q : Pk) (c : Nat) (x y : Bool) (a : Act) (w : World) : Prop :=
  ∃ g h, Fr a0 a ∧ Ext w5 w ∧ (x = true → Blk w5 w a 6 g) ∧ (y = true → Blk w5 w a 7 h) ∧ (x = true → y = true → g ≠ h) ∧ (1 ≤ c → Slotted (Off g h x y) w a 26 p) ∧ (2 ≤ c → Slotted (Off g h x y) w a 28 q)
def done8 (c : Nat) (x y : Bool) : Array Bool := #[true, decide (1 ≤ c), true, decide (2 ≤ c), x, y, false, false]
theorem run_alloc_ref (ρ : Operand → Value) (o : Oper) (w : World) (ho : o.op = .alloc 35) :
    (execOp ρ o).run Try.prog w = .ok (.value (.pointer (some ⟨w.heap.size, 0, none⟩))) (w.alloc (.cells zref 35)) := by
  unfold execOp
  rw [ho]
  go_simp
theorem run_enter_ref (a : Act) (o : Oper) (w : World) (k : Nat) (v : Value) (hk : a.tmps[k]? = some v) (ho : o.op = .call { callee := .value (.func 11), args := #[.tmp k], argTypes := #[29] }) :
    (execOp a.eval o).run Try.prog w = .ok (.enter 11 #[v]) w := by
  have e := eval_at hk
  unfold execOp
  rw [ho]
  go_simp

/-- an operation that is wanted comes to its wp -/
theorem wpOp_of {P : Program} {ops : Array Oper} {Q : Exit → Act → World → Prop} {i : Nat} {o : Oper} {K : Act → World → Prop} {a : Act} {w : World} (hi : ops[i]? = some o) (hg : o.guard = none) (h : o.wp P a w K Q) : wpOp P ops Q i K a w := by
  unfold wpOp
  rw [hi]
  simp only [Region.wanted, hg, if_true]
  exact .inl h
theorem wp_value {P : Program} {o : Oper} {a : Act} {w w' : World} {v : Value} {d : Nat} {K : Act → World → Prop} {Q : Exit → Act → World → Prop} (hd : o.dst = some d) (he : (execOp a.eval o).run P w = .ok (.value v) w') (h : K (a.put (some d) v) w') : o.wp P a w K Q := by
  unfold Oper.wp
  rw [he, Oper.upon_value, hd]
  exact h
theorem wp_enter {P : Program} {o : Oper} {a : Act} {w : World} {f : FuncId} {args : Array Value} {d : Nat} {K : Act → World → Prop} {Q : Exit → Act → World → Prop} (hd : o.dst = some d) (he : (execOp a.eval o).run P w = .ok (.enter f args) w)
    (h : Calls P f args w fun e w' => ∃ v, e = .returned v ∧ K (a.put (some d) v) w') : o.wp P a w K Q := by
  unfold Oper.wp
  rw [he, Oper.upon_enter, hd]
  refine h.mono ?_
  rintro e w' ⟨v, rfl, k⟩
  exact k

theorem part_call1 {a0 a : Act} {w5 w : World} {p q : Pk} {x y : Bool} (hs : 28 < a0.tmps.size) (h : Part a0 w5 p q 0 x y a w) {ra rg da : Value} {w' : World} (pl : PL (fun i => i < w5.heap.size ∨ w.heap.size ≤ i) w' p ra rg da) (X : Ext w w') :
    Part a0 w5 p q 1 x y (a.put (some 26) (.agg (prow p ra rg da))) w' := by
  obtain ⟨g, k, f, e, bx, bY, ne, _, _⟩ := h
  refine ⟨g, k, f.put 26 (by omega) _, e.trans X, fun t => ((bx t).ext X).put 26 _ (by decide), fun t => ((bY t).ext X).put 26 _ (by decide), ne, fun _ => ⟨ra, rg, da, put_at 26 _ (by rw [f.1]; omega), pl.mono (fun i _ hi => ⟨fun t => ?_, fun t => ?_⟩)⟩, fun t => absurd t (by decide)⟩
  · have := (bx t).lt; have := (bx t).2.1; omega
  · have := (bY t).lt; have := (bY t).2.1; omega
theorem part_call2 {a0 a : Act} {w5 w : World} {p q : Pk} {x y : Bool} (hs : 28 < a0.tmps.size) (h : Part a0 w5 p q 1 x y a w) {ra rg da : Value} {w' : World} (pl : PL (fun i => i < w5.heap.size ∨ w.heap.size ≤ i) w' q ra rg da) (X : Ext w w') :
    Part a0 w5 p q 2 x y (a.put (some 28) (.agg (prow q ra rg da))) w' := by
  obtain ⟨g, k, f, e, bx, bY, ne, g1, _⟩ := h
  refine ⟨g, k, f.put 28 (by omega) _, e.trans X, fun t => ((bx t).ext X).put 28 _ (by decide), fun t => ((bY t).ext X).put 28 _ (by decide), ne, fun _ => ((g1 (by decide)).kept (.of_ext X)).put 28 _ (by decide), fun _ => ⟨ra, rg, da, put_at 28 _ (by rw [f.1]; omega), pl.mono (fun i _ hi => ⟨fun t => ?_, fun t => ?_⟩)⟩⟩
  · have := (bx t).lt; have := (bx t).2.1; omega
  · have := (bY t).lt; have := (bY t).2.1; omega
theorem part_alloc1 {a0 a : Act} {w5 w : World} {p q : Pk} {c : Nat} {y : Bool} (hs : 28 < a0.tmps.size) (h : Part a0 w5 p q c false y a w) :
    Part a0 w5 p q c true y (a.put (some 6) (.pointer (some ⟨w.heap.size, 0, none⟩))) (w.alloc (.cells zref 35)) := by
  obtain ⟨g, k, f, e, bx, bY, ne, g1, g2⟩ := h
  have X : Ext w (w.alloc (.cells zref 35)) := (Ext.refl w).alloc _
  have up : ∀ i, i < w.heap.size → Off g k false y i → Off w.heap.size k true y i := fun i hi ho => ⟨fun _ => by omega, ho.2⟩
  exact ⟨w.heap.size, k, f.put 6 (by omega) _, e.trans X, fun _ => ⟨put_at 6 _ (by rw [f.1]; omega), e.size, heap_alloc_new w _⟩, fun t => ((bY t).ext X).put 6 _ (by decide), fun _ t => by have := (bY t).lt; omega,
    fun t => (((g1 t).mono up).kept (.of_ext X)).put 6 _ (by decide), fun t => (((g2 t).mono up).kept (.of_ext X)).put 6 _ (by decide)⟩
theorem part_alloc2 {a0 a : Act} {w5 w : World} {p q : Pk} {c : Nat} {x : Bool} (hs : 28 < a0.tmps.size) (h : Part a0 w5 p q c x false a w) :
    Part a0 w5 p q c x true (a.put (some 7) (.pointer (some ⟨w.heap.size, 0, none⟩))) (w.alloc (.cells zref 35)) := by
  obtain ⟨g, k, f, e, bx, bY, ne, g1, g2⟩ := h
  have X : Ext w (w.alloc (.cells zref 35)) := (Ext.refl w).alloc _
  have up : ∀ i, i < w.heap.size → Off g k x false i → Off g w.heap.size x true i := fun i hi ho => ⟨ho.1, fun _ => by omega⟩
  exact ⟨g, w.heap.size, f.put 7 (by omega) _, e.trans X, fun t => ((bx t).ext X).put 7 _ (by decide), fun _ => ⟨put_at 7 _ (by rw [f.1]; omega), e.size, heap_alloc_new w _⟩, fun t _ => by have := (bx t).lt; omega,
    fun t => (((g1 t).mono up).kept (.of_ext X)).put 7 _ (by decide), fun t => (((g2 t).mono up).kept (.of_ext X)).put 7 _ (by decide)⟩

/-- what is behind both -/
def Both (a0 : Act) (w5 : World) (p q : Pk) (Q : Exit → Act → World → Prop) : Prop :=
  ∀ (ra rg da sa sg sd : Value) (ga gb : Nat) (W : World), Ext w5 W → W.heap[ga]? = some (.cells (prow p ra rg da) 35 (0, 0)) → W.heap[gb]? = some (.cells (prow q sa sg sd) 35 (0, 0)) →
    PL (fun _ => True) W p ra rg da → PL (fun _ => True) W q sa sg sd →
    Q .normal ((((a0.put (some 6) (.pointer (some ⟨ga, 0, none⟩))).put (some 7) (.pointer (some ⟨gb, 0, none⟩))).put (some 26) (.agg (prow p ra rg da))).put (some 28) (.agg (prow q sa sg sd))) W

theorem part_stores {ops : Array Oper} {Q : Exit → Act → World → Prop} {a0 a : Act} {w5 w : World} {p q : Pk} {o6 o7 : Oper}
    (i6 : ops[6]? = some o6) (k6 : o6.guard = none) (d6 : o6.dst = none) (p6 : o6.op = .store 35 (.tmp 6) (.tmp 26))
    (i7 : ops[7]? = some o7) (k7 : o7.guard = none) (d7 : o7.dst = none) (p7 : o7.op = .store 35 (.tmp 7) (.tmp 28))
    (r6 : Region.ready .any ops #[true, true, true, true, true, true, false, false] = [6]) (r7 : Region.ready .any ops #[true, true, true, true, true, true, true, false] = [7]) (r8 : Region.ready .any ops #[true, true, true, true, true, true, true, true] = [])
    (hQ : Both a0 w5 p q Q) (h : Part a0 w5 p q 2 true true a w) : wpAnyH Try.prog .any ops Q (fun W => Ext w5 W) 2 (done8 2 true true) a w := by
  obtain ⟨g, k, f, e, bx, bY, ne, g1, g2⟩ := h
  obtain ⟨x1, x2, x3⟩ := bx rfl
  obtain ⟨y1, y2, y3⟩ := bY rfl
  obtain ⟨ra, rg, da, s1, l1⟩ := g1 (by decide)
  obtain ⟨sa, sg, sd, s2, l2⟩ := g2 (by decide)
  have hne := ne rfl rfl
  show wpAnyH Try.prog .any ops Q (fun W => Ext w5 W) 2 #[true, true, true, true, true, true, false, false] a w
  refine wpAnyH_all r6 (by simp) (fun j hj => ?_)
  obtain rfl : j = 6 := by simpa using hj
  refine wpOp_of i6 k6 (wp_store_row 35 (.tmp 6) (.tmp 26) p6 g (prow p ra rg da) (eval_at x1) (eval_at s1) 35 zref x3 cells_ref rfl (prow_one l1) ?_)
  rw [d6]
  have X1 : Ext w5 (w.setRow g (prow p ra rg da)) := e.setRow x2 _
  refine ⟨X1, ?_⟩
  show wpAnyH Try.prog .any ops Q (fun W => Ext w5 W) 1 #[true, true, true, true, true, true, true, false] a _
  refine wpAnyH_all r7 (by simp) (fun j hj => ?_)
  obtain rfl : j = 7 := by simpa using hj
  refine wpOp_of i7 k7 (wp_store_row 35 (.tmp 7) (.tmp 28) p7 k (prow q sa sg sd) (eval_at y1) (eval_at s2) 35 zref (by rw [setRow_other _ _ _ _ (fun h => hne h.symm)]; exact y3) cells_ref rfl (prow_one l2) ?_)
  rw [d7]
  have X2 : Ext w5 ((w.setRow g (prow p ra rg da)).setRow k (prow q sa sg sd)) := X1.setRow y2 _
  refine ⟨X2, r8, ?_⟩
  have KK : Kept (Off g k true true) w ((w.setRow g (prow p ra rg da)).setRow k (prow q sa sg sd)) := ((Kept.refl _ w).setRow (fun hh => hh.1 rfl rfl) _).setRow (fun hh => hh.2 rfl rfl) _
  show Q .normal a _
  rw [f.is x1 y1 s1 s2]
  refine hQ ra rg da sa sg sd g k _ X2 ?_ ?_ ((l1.kept KK).mono (fun _ _ _ => trivial)) ((l2.kept KK).mono (fun _ _ _ => trivial))
  · rw [setRow_other _ _ _ _ (fun h => hne h)]
    exact setRow_heap _ _ _ _ _ _ x3
  · exact setRow_heap _ _ _ _ _ _ (by rw [setRow_other _ _ _ _ (fun h => hne h.symm)]; exact y3)

theorem two_refs {ops : Array Oper} {Q : Exit → Act → World → Prop} {a0 : Act} {w5 : World} {p q : Pk} {rp rq : Value} {o1 o3 o4 o5 o6 o7 : Oper}
    (hs : 28 < a0.tmps.size) (h25 : a0.tmps[25]? = some rp) (h27 : a0.tmps[27]? = some rq)
    (i1 : ops[1]? = some o1) (k1 : o1.guard = none) (d1 : o1.dst = some 26) (p1 : o1.op = .call { callee := .value (.func 11), args := #[.tmp 25], argTypes := #[29] })
    (i3 : ops[3]? = some o3) (k3 : o3.guard = none) (d3 : o3.dst = some 28) (p3 : o3.op = .call { callee := .value (.func 11), args := #[.tmp 27], argTypes := #[29] })
    (i4 : ops[4]? = some o4) (k4 : o4.guard = none) (d4 : o4.dst = some 6) (p4 : o4.op = .alloc 35)
    (i5 : ops[5]? = some o5) (k5 : o5.guard = none) (d5 : o5.dst = some 7) (p5 : o5.op = .alloc 35)
    (i6 : ops[6]? = some o6) (k6 : o6.guard = none) (d6 : o6.dst = none) (p6 : o6.op = .store 35 (.tmp 6) (.tmp 26))
    (i7 : ops[7]? = some o7) (k7 : o7.guard = none) (d7 : o7.dst = none) (p7 : o7.op = .store 35 (.tmp 7) (.tmp 28))
    (r00 : Region.ready .any ops #[true, false, true, false, false, false, false, false] = [1, 4, 5]) (r01 : Region.ready .any ops #[true, false, true, false, false, true, false, false] = [1, 4])
    (r02 : Region.ready .any ops #[true, false, true, false, true, false, false, false] = [1, 5]) (r03 : Region.ready .any ops #[true, false, true, false, true, true, false, false] = [1])
    (r10 : Region.ready .any ops #[true, true, true, false, false, false, false, false] = [3, 4, 5]) (r11 : Region.ready .any ops #[true, true, true, false, false, true, false, false] = [3, 4])
    (r12 : Region.ready .any ops #[true, true, true, false, true, false, false, false] = [3, 5]) (r13 : Region.ready .any ops #[true, true, true, false, true, true, false, false] = [3])
    (r20 : Region.ready .any ops #[true, true, true, true, false, false, false, false] = [4, 5]) (r21 : Region.ready .any ops #[true, true, true, true, false, true, false, false] = [4])
    (r22 : Region.ready .any ops #[true, true, true, true, true, false, false, false] = [5])
    (r6 : Region.ready .any ops #[true, true, true, true, true, true, false, false] = [6]) (r7 : Region.ready .any ops #[true, true, true, true, true, true, true, false] = [7]) (r8 : Region.ready .any ops #[true, true, true, true, true, true, true, true] = [])
    (cp : ∀ W, Ext w5 W → Calls Try.prog 11 #[rp] W fun e w' => ∃ ra rg da, e = .returned (.agg (prow p ra rg da)) ∧ PL (fun i => i < w5.heap.size ∨ W.heap.size ≤ i) w' p ra rg da ∧ Ext W w')
    (cq : ∀ W, Ext w5 W → Calls Try.prog 11 #[rq] W fun e w' => ∃ ra rg da, e = .returned (.agg (prow q ra rg da)) ∧ PL (fun i => i < w5.heap.size ∨ W.heap.size ≤ i) w' q ra rg da ∧ Ext W w')
    (hQ : Both a0 w5 p q Q) : ∀ (n c : Nat) (x y : Bool) (a : Act) (w : World), c ≤ 2 → n = (2 - c) + (if x = true then 0 else 1) + (if y = true then 0 else 1) → Part a0 w5 p q c x y a w → wpAnyH Try.prog .any ops Q (fun W => Ext w5 W) (n + 2) (done8 c x y) a w := by
  intro n
  induction n with
  | zero =>
    intro c x y a w hc hn h
    have e : c = 2 ∧ x = true ∧ y = true := by cases x <;> cases y <;> simp at hn ⊢ <;> omega
    obtain ⟨rfl, rfl, rfl⟩ := e
    exact part_stores i6 k6 d6 p6 i7 k7 d7 p7 r6 r7 r8 hQ h
  | succ n ih =>
    intro c x y a w hc hn h
    have fr : Fr a0 a := by obtain ⟨_, _, f, _⟩ := h; exact f
    have ex : Ext w5 w := by obtain ⟨_, _, _, e, _⟩ := h; exact e
    have s25 : a.tmps[25]? = some rp := by rw [fr.2.2 25 (by decide) (by decide) (by decide) (by decide)]; exact h25
    have s27 : a.tmps[27]? = some rq := by rw [fr.2.2 27 (by decide) (by decide) (by decide) (by decide)]; exact h27
    have sc : c = 0 → wpOp Try.prog ops Q 1 (fun a' w' => Ext w5 w' ∧ wpAnyH Try.prog .any ops Q (fun W => Ext w5 W) (n + 2) (done8 1 x y) a' w') a w := fun c0 => by
      subst c0
      refine wpOp_of i1 k1 (wp_enter d1 (run_enter_ref a o1 w 25 rp s25 p1) ((cp w ex).mono ?_))
      rintro e w' ⟨ra, rg, da, rfl, pl, X⟩
      have h2 := part_call1 hs h pl X
      exact ⟨_, rfl, ex.trans X, ih 1 x y _ _ (by decide) (by cases x <;> cases y <;> simp at hn ⊢ <;> omega) h2⟩
    have sd : c = 1 → wpOp Try.prog ops Q 3 (fun a' w' => Ext w5 w' ∧ wpAnyH Try.prog .any ops Q (fun W => Ext w5 W) (n + 2) (done8 2 x y) a' w') a w := fun c0 => by
      subst c0
      refine wpOp_of i3 k3 (wp_enter d3 (run_enter_ref a o3 w 27 rq s27 p3) ((cq w ex).mono ?_))
      rintro e w' ⟨ra, rg, da, rfl, pl, X⟩
      have h2 := part_call2 hs h pl X
      exact ⟨_, rfl, ex.trans X, ih 2 x y _ _ (by decide) (by cases x <;> cases y <;> simp at hn ⊢ <;> omega) h2⟩
    have se : x = false → wpOp Try.prog ops Q 4 (fun a' w' => Ext w5 w' ∧ wpAnyH Try.prog .any ops Q (fun W => Ext w5 W) (n + 2) (done8 c true y) a' w') a w := fun c0 => by
      subst c0
      refine wpOp_of i4 k4 (wp_value d4 (run_alloc_ref _ o4 w p4) ?_)
      exact ⟨ex.alloc _, ih c true y _ _ hc (by cases y <;> simp at hn ⊢ <;> omega) (part_alloc1 hs h)⟩
    have sf : y = false → wpOp Try.prog ops Q 5 (fun a' w' => Ext w5 w' ∧ wpAnyH Try.prog .any ops Q (fun W => Ext w5 W) (n + 2) (done8 c x true) a' w') a w := fun c0 => by
      subst c0
      refine wpOp_of i5 k5 (wp_value d5 (run_alloc_ref _ o5 w p5) ?_)
      exact ⟨ex.alloc _, ih c x true _ _ hc (by cases x <;> simp at hn ⊢ <;> omega) (part_alloc2 hs h)⟩
    clear ih h fr ex s25 s27 i1 i3 i4 i5 i6 i7 cp cq hQ
    have c3 : c = 0 ∨ c = 1 ∨ c = 2 := by omega
    rcases c3 with rfl | rfl | rfl <;> cases x <;> cases y
    · refine wpAnyH_all r00 (by simp) (fun j hj => ?_)
      simp only [List.mem_cons, List.not_mem_nil, or_false] at hj
      rcases hj with rfl | rfl | rfl
      · exact sc rfl
      · exact se rfl
      · exact sf rfl
    · refine wpAnyH_all r01 (by simp) (fun j hj => ?_)
      simp only [List.mem_cons, List.not_mem_nil, or_false] at hj
      rcases hj with rfl | rfl
      · exact sc rfl
      · exact se rfl
    · refine wpAnyH_all r02 (by simp) (fun j hj => ?_)
      simp only [List.mem_cons, List.not_mem_nil, or_false] at hj
      rcases hj with rfl | rfl
      · exact sc rfl
      · exact sf rfl
    · refine wpAnyH_all r03 (by simp) (fun j hj => ?_)
      simp only [List.mem_cons, List.not_mem_nil, or_false] at hj
      subst hj
      exact sc rfl
    · refine wpAnyH_all r10 (by simp) (fun j hj => ?_)
      simp only [List.mem_cons, List.not_mem_nil, or_false] at hj
      rcases hj with rfl | rfl | rfl
      · exact sd rfl
      · exact se rfl
      · exact sf rfl
    · refine wpAnyH_all r11 (by simp) (fun j hj => ?_)
      simp only [List.mem_cons, List.not_mem_nil, or_false] at hj
      rcases hj with rfl | rfl
      · exact sd rfl
      · exact se rfl
    · refine wpAnyH_all r12 (by simp) (fun j hj => ?_)
      simp only [List.mem_cons, List.not_mem_nil, or_false] at hj
      rcases hj with rfl | rfl
      · exact sd rfl
      · exact sf rfl
    · refine wpAnyH_all r13 (by simp) (fun j hj => ?_)
      simp only [List.mem_cons, List.not_mem_nil, or_false] at hj
      subst hj
      exact sd rfl
    · refine wpAnyH_all r20 (by simp) (fun j hj => ?_)
      simp only [List.mem_cons, List.not_mem_nil, or_false] at hj
      rcases hj with rfl | rfl
      · exact se rfl
      · exact sf rfl
    · refine wpAnyH_all r21 (by simp) (fun j hj => ?_)
      simp only [List.mem_cons, List.not_mem_nil, or_false] at hj
      subst hj
      exact se rfl
    · refine wpAnyH_all r22 (by simp) (fun j hj => ?_)
      simp only [List.mem_cons, List.not_mem_nil, or_false] at hj
      subst hj
      exact sf rfl
    · simp at hn
end Go.Proofs.Ytlnjkjpllmfcaaa

/-
  A loop over Turn's value: its rounds, its end.
-/
import Derived.Test.YthokjkkhkcdceaaWhlSeq
namespace Go.Proofs.Ythokjkkhkcdceaa
set_option linter.unusedVariables false
set_option maxRecDepth 100000
open Go.RowKit Go.Lib Go.Shelf

/-- how a round's body may be left -/
def Round9 (K : Nat → Prop) (b : Nat) (I : Sts → World → Prop) (Ix : Code → Sts → World → Prop) (pre : Sts) (W : World) : Exit → Act → World → Prop
  | .normal, _, W' => KeepsOthers W W' ∧ Holds9 K b W W' ∧ I pre W'
  | .ret, _, W' => KeepsOthers W W' ∧ Holds9 K b W W' ∧ Ix .ret pre W'
  | .exit id, _, W' => KeepsOthers W W' ∧ Holds9 K b W W' ∧ Ix (.exit id) pre W'
  | .goto t, _, W' => KeepsOthers W W' ∧ Holds9 K b W W' ∧ Ix (.goto t) pre W'
  | .panic _, _, _ => False
  | .outgrown, _, _ => False

/-- a loop's record -/
def rec9 (fn : FuncId) (tmps : Array Value) (ps : Array Tmp) (assign body : Code) (D : Nat) (st : LoopState) (pe : Option Code) : Loop := { state := st, pending := pe, fn, tmps, params := ps, assign, body, defers := D }

/-- blocks of K are as they were when another one is turned -/
theorem kept_put {K : Nat → Prop} (W : World) {L : Nat} (hL : ¬ K L) (o : Obj) : Kept K W (W.putObj L o) :=
  ⟨⟨rfl, rfl, rfl, by simp [World.putObj]⟩, fun i _ hi => World.putObj_heap_other (fun e => hL (e ▸ hi))⟩

/-- what is kept for a loop: its own word, its record, the block of what is deferred -/
def Kept9 (L D : Nat) (o : Obj) (I : World → Prop) (W : World) : Prop := I W ∧ W.heap[L]? = some o ∧ W.heap[D]? = some (.deferred (some []))

/-- the end of a round -/
theorem end9 {fn : FuncId} {tmps : Array Value} {ps : Array Tmp} {assign body : Code} {D L : Nat} (hne : D ≠ L) (jump : Option Code) {W2 W3 : World} (hk : KeepsOthers W2 W3) (hl : W2.heap[L]? = some (.loop (rec9 fn tmps ps assign body D .busy none))) (hd : W2.heap[D]? = some (.deferred (some []))) :
    (Instr.endRound L jump).run Try.prog W3 = .ok (.bool jump.isNone) (W3.putObj L (.loop (rec9 fn tmps ps assign body D (if jump.isNone then .ready else .done) jump))) ∧ W3.heap[L]? = some (.loop (rec9 fn tmps ps assign body D .busy none)) ∧
      (W3.putObj L (.loop (rec9 fn tmps ps assign body D (if jump.isNone then .ready else .done) jump))).heap[L]? = some (.loop (rec9 fn tmps ps assign body D (if jump.isNone then .ready else .done) jump)) ∧
      (W3.putObj L (.loop (rec9 fn tmps ps assign body D (if jump.isNone then .ready else .done) jump))).heap[D]? = some (.deferred (some [])) := by
  have h3 := hk.same L _ hl rfl
  have h4 := hk.same D _ hd rfl
  exact ⟨run_endRound jump h3, h3, World.putObj_heap_same (lt_of_row h3), (World.putObj_heap_other hne).trans h4⟩

set_option maxHeartbeats 1000000 in
/-- one round -/
theorem yield9 {K K1 : Nat → Prop} {b L D : Nat} {fn : FuncId} {tmps : Array Value} {ps : Array Tmp} {assign body : Code} {I : Sts → World → Prop} {Ix : Code → Sts → World → Prop} {pre : Sts} {x : Int × Int} {a1 : Act} (hfn : Fence.wide.fn fn) (hne : D ≠ L) (hps : ps.size = 2) (hK1 : ∀ i, K i → K1 i) (hL : ¬ K L)
    (hI : ∀ pre W W', I pre W → Kept K W W' → I pre W') (hIx : ∀ c pre W W', Ix c pre W → Kept K W W' → Ix c pre W')
    (hassign : ∀ (W : World) (Kc : Act → World → Prop), Kc a1 W → assign.wpIn (Fence.wide.inRound L) 2 Try.prog (Exit.then Kc (fun _ _ _ => False)) { tmps := (ps.zip #[.int .i64 x.1, .int .i64 x.2]).foldl (fun t (p, v) => t.setIfInBounds p v) tmps, defers := [] } W)
    (hbody : ∀ W, I pre W → body.wpIn (Fence.wide.inRound L) 2 Try.prog (Round9 K b I Ix (pre ++ [x]) W) a1 W) (W : World)
    (hW : Kept9 L D (.loop (rec9 fn tmps ps assign body D .ready none)) (I pre) W) :
    YieldAt Fence.wide 2 Try.prog L #[.int .i64 x.1, .int .i64 x.2] W fun e W' =>
      (e = .returned (.bool true) ∧ Kept9 L D (.loop (rec9 fn tmps ps assign body D .ready none)) (I (pre ++ [x])) W' ∧ Holds9 K1 b W W') ∨
      (e = .returned (.bool false) ∧ (∃ c, Kept9 L D (.loop (rec9 fn tmps ps assign body D .done (some c))) (Ix c (pre ++ [x])) W') ∧ Holds9 K1 b W W') := by
  obtain ⟨hi, hl, hd⟩ := hW
  refine ⟨fn, _, assign, body, run_yield hl (by simp [rec9, hps]), roundIn_of_wpIn hfn (hassign W _ ⟨_, run_beginRound hl rfl, ?_⟩)⟩
  have hl2 : (W.putObj L (.loop (rec9 fn tmps ps assign body D .busy none))).heap[L]? = some (.loop (rec9 fn tmps ps assign body D .busy none)) := World.putObj_heap_same (lt_of_row hl)
  have hd2 : (W.putObj L (.loop (rec9 fn tmps ps assign body D .busy none))).heap[D]? = some (.deferred (some [])) := (World.putObj_heap_other hne).trans hd
  have ho2 : Holds9 K b W (W.putObj L (.loop (rec9 fn tmps ps assign body D .busy none))) := Holds9.put W L _ _ hl rfl
  refine wpIn_mono (hbody _ (hI _ _ _ hi (kept_put W hL _))) ?_
  intro e a3 W3 hp
  cases e with
  | normal =>
    obtain ⟨k3, o3, i3⟩ := hp
    obtain ⟨hr, r1, r2, r3⟩ := end9 hne none k3 hl2 hd2
    exact ⟨_, _, hr, .inl ⟨rfl, ⟨hI _ _ _ i3 (kept_put W3 hL _), r2, r3⟩, ((ho2.trans o3).trans (Holds9.put W3 L _ _ r1 rfl)).more hK1⟩⟩
  | ret =>
    obtain ⟨k3, o3, i3⟩ := hp
    obtain ⟨hr, r1, r2, r3⟩ := end9 hne (some .ret) k3 hl2 hd2
    exact ⟨_, _, hr, .inr ⟨rfl, ⟨_, hIx _ _ _ _ i3 (kept_put W3 hL _), r2, r3⟩, ((ho2.trans o3).trans (Holds9.put W3 L _ _ r1 rfl)).more hK1⟩⟩
  | exit id =>
    obtain ⟨k3, o3, i3⟩ := hp
    obtain ⟨hr, r1, r2, r3⟩ := end9 hne (some (.exit id)) k3 hl2 hd2
    exact ⟨_, _, hr, .inr ⟨rfl, ⟨_, hIx _ _ _ _ i3 (kept_put W3 hL _), r2, r3⟩, ((ho2.trans o3).trans (Holds9.put W3 L _ _ r1 rfl)).more hK1⟩⟩
  | goto tt =>
    obtain ⟨k3, o3, i3⟩ := hp
    obtain ⟨hr, r1, r2, r3⟩ := end9 hne (some (.goto tt)) k3 hl2 hd2
    exact ⟨_, _, hr, .inr ⟨rfl, ⟨_, hIx _ _ _ _ i3 (kept_put W3 hL _), r2, r3⟩, ((ho2.trans o3).trans (Holds9.put W3 L _ _ r1 rfl)).more hK1⟩⟩
  | panic ch => exact hp.elim
  | outgrown => exact hp.elim

set_option maxHeartbeats 1000000 in
/-- a loop over Turn's value -/
theorem range9 {Q : Exit → Act → World → Prop} {a : Act} {w : World} {g : Operand} {ps : Array Tmp} {assign body : Code} {Bs b : Nat} {K : Nat → Prop} {t : Int} {l : Sts}
    (hg : a.eval g = .func (.func 25) #[] #[.pointer (some ⟨Bs, 0, none⟩)]) (hps : ps.size = 2) (hbs : w.cell? ⟨Bs, 0, none⟩ = some (.pointer (some ⟨b, 0, none⟩))) (hKB : K Bs) (hw : WhK K w b t l)
    (I : Sts → World → Prop) (Ix : Code → Sts → World → Prop) (hI : ∀ pre W W', I pre W → Kept K W W' → I pre W') (hIx : ∀ c pre W W', Ix c pre W → Kept K W W' → Ix c pre W') (h0 : I [] w) (a1 : Int × Int → Act)
    (hassign : ∀ (L : Nat) (x : Int × Int) (W : World) (Kc : Act → World → Prop), Kc (a1 x) W → assign.wpIn (Fence.wide.inRound L) 2 Try.prog (Exit.then Kc (fun _ _ _ => False)) { tmps := (ps.zip #[.int .i64 x.1, .int .i64 x.2]).foldl (fun t (p, v) => t.setIfInBounds p v) a.tmps, defers := [] } W)
    (hbody : ∀ (L : Nat) (pre : Sts) (x : Int × Int) (W : World), I pre W → W.cell? ⟨Bs, 0, none⟩ = some (.pointer (some ⟨b, 0, none⟩)) → pre ++ [x] <+: l → x.2 ≤ t → body.wpIn (Fence.wide.inRound L) 2 Try.prog (Round9 K b (fun p W => I p W ∧ W.cell? ⟨Bs, 0, none⟩ = some (.pointer (some ⟨b, 0, none⟩))) Ix (pre ++ [x]) W) (a1 x) W)
    (hdone : ∀ (D : Nat) (pre rest : Sts) (W : World), w.heap.size ≤ D → l = pre ++ rest → (∀ p r, rest = p :: r → t < p.2) → I pre W → WhK K W b t rest → W.heap[D]? = some (.deferred (some [])) → Q .normal { a with defers := { target := .collected D, args := #[] } :: a.defers } W)
    (hstop : ∀ (D : Nat) (c : Code) (pre rest : Sts) (W : World), w.heap.size ≤ D → l = pre ++ rest → Ix c pre W → WhK K W b t rest → W.heap[D]? = some (.deferred (some [])) → c.wp Try.prog Q { a with defers := { target := .collected D, args := #[] } :: a.defers } W) :
    (Code.rangeFunc g ps assign body).wp Try.prog Q a w := by
  refine (wpIn_wide (n := 4)).1 (wpIn_rangeFunc ?_)
  intro fn hfn
  obtain ⟨W1, e1⟩ : ∃ W1, W1 = (w.alloc (.deferred (some []))).alloc (.loop (rec9 fn a.tmps ps assign body w.heap.size .ready none)) := ⟨_, rfl⟩
  have X1 : Ext w W1 := by rw [e1]; exact ((Ext.refl w).alloc _).alloc _
  have z1 : W1.heap.size = w.heap.size + 2 := by rw [e1]; simp
  have l1 : W1.heap[w.heap.size + 1]? = some (.loop (rec9 fn a.tmps ps assign body w.heap.size .ready none)) := by rw [e1]; exact heap_alloc2_new w _ _
  have d1 : W1.heap[w.heap.size]? = some (.deferred (some [])) := by rw [e1]; exact heap_alloc2_old w _ _
  have hKlt : ∀ i, K i → i < w.heap.size := hw.2.2.choose_spec.2.2.2.2
  have nL : ¬ K (w.heap.size + 1) := fun h => by have := hKlt _ h; omega
  have nD : ¬ K w.heap.size := fun h => by have := hKlt _ h; omega
  have w1 := hw.more X1
  obtain ⟨K1, eK1⟩ : ∃ K1 : Nat → Prop, K1 = fun i => K i ∨ (w.heap.size ≤ i ∧ i < W1.heap.size) := ⟨_, rfl⟩
  rw [← eK1] at w1
  have hKK : ∀ i, K i → K1 i := fun i hi => by rw [eK1]; exact .inl hi
  have kL : K1 (w.heap.size + 1) := by rw [eK1]; exact .inr ⟨by omega, by omega⟩
  have kD : K1 w.heap.size := by rw [eK1]; exact .inr ⟨by omega, by omega⟩
  refine ⟨w.heap.size + 1, [{ target := .collected w.heap.size, args := #[] }], W1, { target := .fn (.func 25) #[.pointer (some ⟨Bs, 0, none⟩)], args := #[.func (.yield (w.heap.size + 1)) #[] #[]] }, W1, 25, #[.func (.yield (w.heap.size + 1)) #[] #[]] ++ #[.pointer (some ⟨Bs, 0, none⟩)], W1, ?_, ?_, ?_, ?_, fun _ => by decide, ?_⟩
  · rw [e1]; exact run_enterLoop_outer _ _ _ _ _
  · simp only [resolve, hg]
    simp [go_sem]
  · intro f' _; exact trivial
  · have eg : ∀ args w, (callFunc 25 args).run Try.prog w = .ok (.enter 25 args) w := enters_of Try.func25 (by kernel_rfl) rfl
    simp [invoke, go_sem, eg]
  · refine (turn1_in 3 (w.heap.size + 1) Bs b K1 t l
      (Kept9 (w.heap.size + 1) w.heap.size (.loop (rec9 fn a.tmps ps assign body w.heap.size .ready none)) ∘ (fun p W => I p W ∧ W.cell? ⟨Bs, 0, none⟩ = some (.pointer (some ⟨b, 0, none⟩))))
      (fun p W => ∃ c, Kept9 (w.heap.size + 1) w.heap.size (.loop (rec9 fn a.tmps ps assign body w.heap.size .done (some c))) (Ix c p) W) (by decide) ?_ ?_ W1 (X1.cell hbs) (hKK Bs hKB) w1 ⟨⟨hI _ _ _ h0 (Kept.of_ext X1), X1.cell hbs⟩, l1, d1⟩).mono ?_
    · rintro pre A B ⟨⟨i1, i2⟩, i3, i4⟩ k
      exact ⟨⟨hI _ _ _ i1 (k.mono hKK), k.cell (hKK Bs hKB) i2⟩, k.row kL i3, k.row kD i4⟩
    · intro pre x A hA hp hx
      refine (yield9 (K := K) (K1 := K1) (b := b) (Ix := Ix) (a1 := a1 x) hfn (by omega) hps hKK nL (fun p A B h k => ⟨hI _ _ _ h.1 k, k.cell hKB h.2⟩) hIx (hassign _ x) (fun A2 h2 => hbody _ pre x A2 h2.1 h2.2 hp hx) A hA).mono ?_
      rintro e A2 (⟨rfl, q1, q2⟩ | ⟨rfl, q1, q2⟩)
      · exact .inl ⟨rfl, q1, q2, q1.1.2⟩
      · exact .inr ⟨rfl, q1, q2⟩
    · rintro e W2 ⟨⟨v, rfl⟩, (⟨pre, rest, el, hdue, hA, hW2⟩ | ⟨pre, rest, el, ⟨c, hA⟩, hW2⟩)⟩
      · have hh : ∀ o', WhK K (W2.putObj (w.heap.size + 1) o') b t rest := fun o' => by
          obtain ⟨v2, u2⟩ := hW2.un
          have u3 := Holds9.put (K := K1) (b := b) W2 (w.heap.size + 1) _ o' hA.2.1 rfl K1 t v2 rest (fun _ h => h) u2
          exact ⟨hW2.1, hW2.2.1, v2, u3.less hKK⟩
        have re := run_endLoop (P := Try.prog) hA.2.1 (by simp [rec9])
        exact ⟨none, _, re, hdone w.heap.size pre rest _ (Nat.le_refl _) el hdue (hI _ _ _ hA.1.1 (kept_put W2 nL _)) (hh _) ((World.putObj_heap_other (by omega)).trans hA.2.2)⟩
      · have hh : ∀ o', WhK K (W2.putObj (w.heap.size + 1) o') b t rest := fun o' => by
          obtain ⟨v2, u2⟩ := hW2.un
          have u3 := Holds9.put (K := K1) (b := b) W2 (w.heap.size + 1) _ o' hA.2.1 rfl K1 t v2 rest (fun _ h => h) u2
          exact ⟨hW2.1, hW2.2.1, v2, u3.less hKK⟩
        have re := run_endLoop (P := Try.prog) hA.2.1 (by simp [rec9])
        exact ⟨some c, _, re, wpIn_wide.2 (hstop w.heap.size c pre rest _ (Nat.le_refl _) el (hIx _ _ _ _ hA.1 (kept_put W2 nL _)) (hh _) ((World.putObj_heap_other (by omega)).trans hA.2.2))⟩

/-- a wheel's time, written anew -/
theorem WhU.tick {K : Nat → Prop} {w : World} {b : Nat} {t : Int} {v : Nat → Value} {l : Sts} (h : WhU K w b t v l) (t' : Int) : WhU K (w.setCell ⟨b, 0, none⟩ (.int .i64 t')) b t' v l ∧ Kept K w (w.setCell ⟨b, 0, none⟩ (.int .i64 t')) ∧ w.frozen? ⟨b, 0, none⟩ = false := by
  obtain ⟨⟨cs, q1, q2, q3, q4⟩, h2, h3, h4, h5⟩ := h
  have es : w.setCell ⟨b, 0, none⟩ (.int .i64 t') = w.setRow b (cs.setIfInBounds 0 (.int .i64 t')) := setCell_eq_setRow w b _ cs _ _ _ q1
  have KX : Kept (fun i => i ≠ b) w (w.setRow b (cs.setIfInBounds 0 (.int .i64 t'))) := (Kept.refl _ w).setRow (fun hne => hne rfl) _
  rw [es]
  refine ⟨⟨⟨cs.setIfInBounds 0 (.int .i64 t'), setRow_heap w b cs _ _ _ q1, by simpa using q2, ?_, fun k hk => ⟨?_, ?_⟩⟩, h2, h3, h4, fun i hi => by simpa using h5 i hi⟩, KX.mono (fun i hi e => h2 (e ▸ hi)), frozen_of_row _ _ _ _ _ q1⟩
  · rw [Array.getElem?_setIfInBounds_self_of_lt (by omega)]
  · rw [Array.getElem?_setIfInBounds_ne (by omega)]; exact (q4 k hk).1
  · exact (q4 k hk).2.kept KX (fun g e => (h3 k hk g e).2)

def later (t now : Int) : Int := max t (min now 2199023255552)
theorem later_room {t now : Int} (h : 0 ≤ t ∧ t ≤ 2199023255552) : 0 ≤ later t now ∧ later t now ≤ 2199023255552 := by unfold later; omega

set_option maxHeartbeats 1000000 in
theorem turn_any (K : Nat → Prop) (b : Nat) (t now : Int) (l : Sts) (w : World) (hw : WhK K w b t l) :
    Calls Try.prog 14 #[.pointer (some ⟨b, 0, none⟩), .int .i64 now] w fun e w' => e = .returned (.func (.func 25) #[] #[.pointer (some ⟨w.heap.size, 0, none⟩)]) ∧
      w'.cell? ⟨w.heap.size, 0, none⟩ = some (.pointer (some ⟨b, 0, none⟩)) ∧ w'.heap.size = w.heap.size + 1 ∧ WhK (fun i => K i ∨ (w.heap.size ≤ i ∧ i < w.heap.size + 1)) w' b (later t now) l ∧ Kept K w w' := by
  obtain ⟨v, hu⟩ := hw.un
  have WL := hid hw.1
  have TT := hid (later_room (now := now) hw.2.1)
  obtain ⟨W, eW⟩ : ∃ W, W = w.alloc (.cells #[.pointer (some ⟨b, 0, none⟩)] 23) := ⟨_, rfl⟩
  have XW : Ext w W := by rw [eW]; exact (Ext.refl w).alloc _
  have SZ : Hid (W.heap.size = w.heap.size + 1) := by rw [eW]; show _ = _; simp
  have cb : W.cell? ⟨w.heap.size, 0, none⟩ = some (.pointer (some ⟨b, 0, none⟩)) := by rw [eW, cell_of_row _ _ 0 _ _ _ (heap_alloc_new w _)]; rfl
  have U2 := hid (hu.more XW)
  have ct := U2.out.1.time
  have bl := hu.1.lt
  have b1 : b ≠ w.heap.size := by omega
  obtain ⟨U3, K3, f3⟩ := (U2.out.ext (show Ext W W.drew from (Ext.refl W).drewN 1)).tick (later t now)
  have U4 := hid U3
  have K4 := hid K3
  have EW := hid eW
  have XX := hid XW
  have cb2 : Hid ((W.drew.setCell ⟨b, 0, none⟩ (.int .i64 (later t now))).cell? ⟨w.heap.size, 0, none⟩ = some (.pointer (some ⟨b, 0, none⟩))) := by
    have h1 := K3.cell (a := ⟨w.heap.size, 0, none⟩) (.inr ⟨Nat.le_refl _, by have := SZ.out; simp only; omega⟩) (show W.drew.cell? ⟨w.heap.size, 0, none⟩ = _ from cb)
    exact h1
  have f4 : W.frozen? ⟨b, 0, none⟩ = false := f3
  have CB := hid cb
  clear hw hu eW XW U3 K3 f3
  have LT : Hid (max t (min now 2199023255552) = later t now) := rfl
  generalize later t now = t2 at *
  go_enter Try.func14, Try.ntmps14
  go_wp2_with fail
  rw [← EW.out]
  refine wp_region_held_drew (S := fun V => V.cell? ⟨w.heap.size, 0, none⟩ = some (.pointer (some ⟨b, 0, none⟩))) (by kernel_rfl) CB.out (fun hHeld => ?_)
  refine takeE (v := ?_) 0 5 rfl rfl (by kernel_rfl) (by kernel_rfl) (by kernel_rfl) (fun _ _ _ h => h) (Or.inl ⟨by rfl, fun V hV => ?_⟩) hHeld ?_
  rotate_left
  · (go_simp; try with_reducible rfl)
  simp only [Act.put, List.setIfInBounds_toArray, List.set_cons_zero, List.set_cons_succ]
  refine takeE (v := ?_) 1 6 rfl rfl (by kernel_rfl) (by kernel_rfl) (by kernel_rfl) (fun _ _ _ h => h) (Or.inl ⟨by rfl, fun V hV => ?_⟩) hHeld ?_
  rotate_left
  · (go_simp; try with_reducible rfl)
  simp only [Act.put, List.setIfInBounds_toArray, List.set_cons_zero, List.set_cons_succ]
  refine takeE (v := ?_) 2 7 rfl rfl (by kernel_rfl) (by kernel_rfl) (by kernel_rfl) (fun _ _ _ h => h) (Or.inl ⟨by rfl, fun V hV => ?_⟩) hHeld ?_
  rotate_left
  · (go_simp; try with_reducible rfl)
  simp only [Act.put, List.setIfInBounds_toArray, List.set_cons_zero, List.set_cons_succ]
  refine takeE (v := ?_) 3 8 rfl rfl (by kernel_rfl) (by kernel_rfl) (by kernel_rfl) (fun _ _ _ h => h) (Or.inl ⟨by rfl, fun V hV => ?_⟩) hHeld ?_
  rotate_left
  · (go_simp; try with_reducible rfl)
  simp only [Act.put, List.setIfInBounds_toArray, List.set_cons_zero, List.set_cons_succ]
  refine takeE (v := ?_) 5 10 rfl rfl (by kernel_rfl) (by kernel_rfl) (by kernel_rfl) (fun _ _ _ h => h) (Or.inl ⟨by rfl, fun V hV => ?_⟩) hHeld ?_
  rotate_left
  · (go_simp; try with_reducible rfl)
  simp only [Act.put, List.setIfInBounds_toArray, List.set_cons_zero, List.set_cons_succ]
  refine takeE (v := ?_) 6 11 rfl rfl (by kernel_rfl) (by kernel_rfl) (by kernel_rfl) (fun _ _ _ h => h) (Or.inl ⟨by rfl, fun V hV => ?_⟩) hHeld ?_
  rotate_left
  · (go_simp; try with_reducible rfl)
  simp only [Act.put, List.setIfInBounds_toArray, List.set_cons_zero, List.set_cons_succ]
  refine knownE 4 9 rfl rfl (by kernel_rfl) (by rfl) (w' := W.drew) (v := .int .i64 t) (by go_simp) hHeld ?_
  simp only [Act.put, List.setIfInBounds_toArray, List.set_cons_zero, List.set_cons_succ]
  refine takeE (v := ?_) 7 12 rfl rfl (by kernel_rfl) (by kernel_rfl) (by kernel_rfl) (fun _ _ _ h => h) (Or.inl ⟨by rfl, fun V hV => ?_⟩) hHeld ?_
  rotate_left
  · (have lt := LT.out; go_simp; try with_reducible rfl)
  simp only [Act.put, List.setIfInBounds_toArray, List.set_cons_zero, List.set_cons_succ]
  refine takeE (v := ?_) 8 13 rfl rfl (by kernel_rfl) (by kernel_rfl) (by kernel_rfl) (fun _ _ _ h => h) (Or.inl ⟨by rfl, fun V hV => ?_⟩) hHeld ?_
  rotate_left
  · (go_simp; try with_reducible rfl)
  simp only [Act.put, List.setIfInBounds_toArray, List.set_cons_zero, List.set_cons_succ]
  refine takeE (v := ?_) 9 14 rfl rfl (by kernel_rfl) (by kernel_rfl) (by kernel_rfl) (fun _ _ _ h => h) (Or.inl ⟨by rfl, fun V hV => ?_⟩) hHeld ?_
  rotate_left
  · (go_simp; try with_reducible rfl)
  simp only [Act.put, List.setIfInBounds_toArray, List.set_cons_zero, List.set_cons_succ]
  refine storeE 10 rfl (by kernel_rfl) (by rfl) (w' := W.drew.setCell ⟨b, 0, none⟩ (.int .i64 t2)) (by go_simp; try with_reducible rfl) cb2.out ?_
  simp only [Act.put]
  refine wpAnyH_done (by kernel_rfl) ?_ _
  have z2 : Hid ((W.drew.setCell ⟨b, 0, none⟩ (.int .i64 t2)).heap.size = w.heap.size + 1) := by show _ = _; simp [SZ.out]
  clear hHeld f4 cb ct
  generalize W.drew.setCell ⟨b, 0, none⟩ (.int .i64 t2) = W3 at *
  go_wp2_with fail
  go_ret
  refine ⟨rfl, cb2.out, z2.out, ⟨WL.out, TT.out, v, ?_⟩, (Kept.of_ext (XX.out.drewN 1)).trans (K4.out.mono (fun i hi => .inl hi))⟩
  have := U4.out
  rw [SZ.out] at this
  exact this
end Go.Proofs.Ythokjkkhkcdceaa

/-
  A loop over Take's value: its rounds, its end.
-/
import Derived.Test.YtjmgigfaiaemeaaPipSeq
namespace Go.Proofs.Ytjmgigfaiaemeaa.Pip
set_option linter.unusedVariables false
set_option maxRecDepth 100000
open Go.RowKit Go.Lib Go.Shelf

/-- what a round's body may do with memory: it keeps the pipe; what it makes may join K -/
def Grown (K : Nat → Prop) (s : Sl) (b : Nat) (W : World) (K2 : Nat → Prop) (W' : World) : Prop :=
  (∀ i, K i → K2 i) ∧ (∀ i, K2 i → K i ∨ W.heap.size ≤ i) ∧ ∀ K', (∀ i, Ks K s i → K' i) → ∀ room v ml, PipU K' W b room v ml → PipU (fun i => K' i ∨ K2 i) W' b room v ml

/-- how a round's body may be left -/
def RoundP (K : Nat → Prop) (s : Sl) (b : Nat) (I : (Nat → Prop) → Ms → World → Prop) (Ix : Code → (Nat → Prop) → Ms → World → Prop) (pre : Ms) (W : World) : Exit → Act → World → Prop
  | .normal, _, W' => KeepsOthers W W' ∧ ∃ K2, Grown K s b W K2 W' ∧ I K2 pre W'
  | .ret, _, W' => KeepsOthers W W' ∧ ∃ K2, Grown K s b W K2 W' ∧ Ix .ret K2 pre W'
  | .exit id, _, W' => KeepsOthers W W' ∧ ∃ K2, Grown K s b W K2 W' ∧ Ix (.exit id) K2 pre W'
  | .goto t, _, W' => KeepsOthers W W' ∧ ∃ K2, Grown K s b W K2 W' ∧ Ix (.goto t) K2 pre W'
  | .panic _, _, _ => False
  | .outgrown, _, _ => False

/-- a loop's record -/
def recP (fn : FuncId) (tmps : Array Value) (ps : Array Tmp) (assign body : Code) (D : Nat) (st : LoopState) (pe : Option Code) : Loop := { state := st, pending := pe, fn, tmps, params := ps, assign, body, defers := D }

/-- blocks of K are as they were when another one is turned -/
theorem kept_put {K : Nat → Prop} (W : World) {L : Nat} (hL : ¬ K L) (o : Obj) : Kept K W (W.putObj L o) :=
  ⟨⟨rfl, rfl, rfl, by simp [World.putObj]⟩, fun i _ hi => World.putObj_heap_other (fun e => hL (e ▸ hi))⟩

/-- what is kept for a loop: its own word, its record, the block of what is deferred -/
def KeptP (L D : Nat) (o : Obj) (I : World → Prop) (W : World) : Prop := I W ∧ W.heap[L]? = some o ∧ W.heap[D]? = some (.deferred (some []))

/-- the end of a round -/
theorem endP {fn : FuncId} {tmps : Array Value} {ps : Array Tmp} {assign body : Code} {D L : Nat} (hne : D ≠ L) (jump : Option Code) {W2 W3 : World} (hk : KeepsOthers W2 W3) (hl : W2.heap[L]? = some (.loop (recP fn tmps ps assign body D .busy none))) (hd : W2.heap[D]? = some (.deferred (some []))) :
    (Instr.endRound L jump).run Try.prog W3 = .ok (.bool jump.isNone) (W3.putObj L (.loop (recP fn tmps ps assign body D (if jump.isNone then .ready else .done) jump))) ∧ W3.heap[L]? = some (.loop (recP fn tmps ps assign body D .busy none)) ∧
      (W3.putObj L (.loop (recP fn tmps ps assign body D (if jump.isNone then .ready else .done) jump))).heap[L]? = some (.loop (recP fn tmps ps assign body D (if jump.isNone then .ready else .done) jump)) ∧
      (W3.putObj L (.loop (recP fn tmps ps assign body D (if jump.isNone then .ready else .done) jump))).heap[D]? = some (.deferred (some [])) := by
  have h3 := hk.same L _ hl rfl
  have h4 := hk.same D _ hd rfl
  exact ⟨run_endRound jump h3, h3, World.putObj_heap_same (lt_of_row h3), (World.putObj_heap_other hne).trans h4⟩

set_option maxHeartbeats 1000000 in
/-- one round -/
theorem yieldP {K K1 : Nat → Prop} {b L D : Nat} {fn : FuncId} {tmps : Array Value} {ps : Array Tmp} {assign body : Code} {I : (Nat → Prop) → Ms → World → Prop} {Ix : Code → (Nat → Prop) → Ms → World → Prop} {pre : Ms} {x : Int × List UInt8} {s : Sl} {a1 : Act} (hfn : Fence.wide.fn fn) (hne : D ≠ L) (hps : ps.size = 1) (hK1 : ∀ i, K i → K1 i) (hL : ∀ i, K i → i ≠ L ∧ i ≠ D)
    (hI : ∀ K' pre W W', I K' pre W → Kept K' W W' → I K' pre W') (hIx : ∀ c K' pre W W', Ix c K' pre W → Kept K' W W' → Ix c K' pre W')
    (hassign : ∀ (W : World) (Kc : Act → World → Prop), Kc a1 W → assign.wpIn (Fence.wide.inRound L) 2 Try.prog (Exit.then Kc (fun _ _ _ => False)) { tmps := (ps.zip #[sval s]).foldl (fun t (p, v) => t.setIfInBounds p v) tmps, defers := [] } W)
    (hbody : ∀ W, I K pre W → OwnB W (sval s) x.2 → body.wpIn (Fence.wide.inRound L) 2 Try.prog (RoundP K s b I Ix (pre ++ [x]) W) a1 W) (W : World)
    (hW : KeptP L D (.loop (recP fn tmps ps assign body D .ready none)) (I K pre) W) (ho : OwnB W (sval s) x.2) :
    YieldAt Fence.wide 2 Try.prog L #[sval s] W fun e W' => ∃ K2, (∀ i, K i → K2 i) ∧ (∀ i, K2 i → i ≠ L ∧ i ≠ D) ∧ (∀ room v ml, PipU (Ks K1 s) W b room v ml → PipU (fun i => K1 i ∨ K2 i) W' b room v ml) ∧
      ((e = .returned (.bool true) ∧ KeptP L D (.loop (recP fn tmps ps assign body D .ready none)) (I K2 (pre ++ [x])) W') ∨
      (e = .returned (.bool false) ∧ ∃ c, KeptP L D (.loop (recP fn tmps ps assign body D .done (some c))) (Ix c K2 (pre ++ [x])) W')) := by
  obtain ⟨hi, hl, hd⟩ := hW
  have hKs : ∀ i, Ks K s i → Ks K1 s i := fun i h => h.imp (hK1 i) id
  refine ⟨fn, _, assign, body, run_yield hl (by simp [recP, hps]), roundIn_of_wpIn hfn (hassign W _ ⟨_, run_beginRound hl rfl, ?_⟩)⟩
  have nL : ¬ K L := fun h => (hL _ h).1 rfl
  have hl2 : (W.putObj L (.loop (recP fn tmps ps assign body D .busy none))).heap[L]? = some (.loop (recP fn tmps ps assign body D .busy none)) := World.putObj_heap_same (lt_of_row hl)
  have hd2 : (W.putObj L (.loop (recP fn tmps ps assign body D .busy none))).heap[D]? = some (.deferred (some [])) := (World.putObj_heap_other hne).trans hd
  have ho2 : ∀ K' room v ml, PipU K' W b room v ml → PipU K' (W.putObj L (.loop (recP fn tmps ps assign body D .busy none))) b room v ml := fun K' room v ml u => Holds.put (K := K') W L _ _ hl rfl K' room v ml (fun _ h => h) u
  refine wpIn_mono (hbody _ (hI _ _ _ _ hi (kept_put W nL _)) (OwnB.put hl rfl ho)) ?_
  have ne2 : ∀ (K2 : Nat → Prop), (∀ i, K2 i → K i ∨ (W.putObj L (.loop (recP fn tmps ps assign body D .busy none))).heap.size ≤ i) → ∀ i, K2 i → i ≠ L ∧ i ≠ D := by
    intro K2 h i hi2
    rcases h i hi2 with q | q
    · exact hL i q
    · have a1 := lt_of_row hl2
      have a2 := lt_of_row hd2
      exact ⟨by omega, by omega⟩
  have fin : ∀ (W3 : World) (o o' : Obj) (K2 : Nat → Prop), Grown K s b (W.putObj L (.loop (recP fn tmps ps assign body D .busy none))) K2 W3 → W3.heap[L]? = some o → o.isCells = false → ∀ room v ml, PipU (Ks K1 s) W b room v ml → PipU (fun i => K1 i ∨ K2 i) (W3.putObj L o') b room v ml := by
    intro W3 o o' K2 g h1 h2 room v ml u
    have u2 := g.2.2 (Ks K1 s) hKs room v ml (ho2 _ _ _ _ u)
    exact (Holds.put (K := fun i => Ks K1 s i ∨ K2 i) W3 L _ o' h1 h2 _ room v ml (fun _ h => h) u2).less (fun i h => h.imp (fun q => .inl q) id)
  intro e a3 W3 hp
  cases e with
  | normal =>
    obtain ⟨k3, K2, g3, i3⟩ := hp
    obtain ⟨hr, r1, r2, r3⟩ := endP hne none k3 hl2 hd2
    have n2 := ne2 K2 g3.2.1
    refine ⟨_, _, hr, K2, g3.1, n2, fin W3 _ _ K2 g3 r1 rfl, .inl ⟨rfl, hI _ _ _ _ i3 (kept_put W3 (fun h => (n2 _ h).1 rfl) _), r2, r3⟩⟩
  | ret =>
    obtain ⟨k3, K2, g3, i3⟩ := hp
    obtain ⟨hr, r1, r2, r3⟩ := endP hne (some .ret) k3 hl2 hd2
    have n2 := ne2 K2 g3.2.1
    refine ⟨_, _, hr, K2, g3.1, n2, fin W3 _ _ K2 g3 r1 rfl, .inr ⟨rfl, _, hIx _ _ _ _ _ i3 (kept_put W3 (fun h => (n2 _ h).1 rfl) _), r2, r3⟩⟩
  | exit id =>
    obtain ⟨k3, K2, g3, i3⟩ := hp
    obtain ⟨hr, r1, r2, r3⟩ := endP hne (some (.exit id)) k3 hl2 hd2
    have n2 := ne2 K2 g3.2.1
    refine ⟨_, _, hr, K2, g3.1, n2, fin W3 _ _ K2 g3 r1 rfl, .inr ⟨rfl, _, hIx _ _ _ _ _ i3 (kept_put W3 (fun h => (n2 _ h).1 rfl) _), r2, r3⟩⟩
  | goto tt =>
    obtain ⟨k3, K2, g3, i3⟩ := hp
    obtain ⟨hr, r1, r2, r3⟩ := endP hne (some (.goto tt)) k3 hl2 hd2
    have n2 := ne2 K2 g3.2.1
    refine ⟨_, _, hr, K2, g3.1, n2, fin W3 _ _ K2 g3 r1 rfl, .inr ⟨rfl, _, hIx _ _ _ _ _ i3 (kept_put W3 (fun h => (n2 _ h).1 rfl) _), r2, r3⟩⟩
  | panic ch => exact hp.elim
  | outgrown => exact hp.elim

set_option maxHeartbeats 1000000 in
/-- a loop over Take's value -/
theorem rangeP {Q : Exit → Act → World → Prop} {a : Act} {w : World} {g : Operand} (p : Nat) {assign body : Code} {B1 B2 b : Nat} {K : Nat → Prop} {room now : Int} {l : Ms}
    (hg : a.eval g = .func (.func 51) #[] #[.pointer (some ⟨B1, 0, none⟩), .pointer (some ⟨B2, 0, none⟩)]) (hb1 : w.cell? ⟨B1, 0, none⟩ = some (.pointer (some ⟨b, 0, none⟩))) (hb2 : w.cell? ⟨B2, 0, none⟩ = some (.int .i64 now)) (hK1 : K B1) (hK2 : K B2) (hw : PipK K w b room l)
    (I : (Nat → Prop) → Ms → World → Prop) (Ix : Code → (Nat → Prop) → Ms → World → Prop) (hI : ∀ K' pre W W', (∀ i, K i → K' i) → I K' pre W → Kept K' W W' → I K' pre W') (hIx : ∀ c K' pre W W', (∀ i, K i → K' i) → Ix c K' pre W → Kept K' W W' → Ix c K' pre W') (h0 : I K [] w) (A1 : Array Value → Sl → Array Value)
    (hassign : ∀ (L : Nat) (s : Sl) (W : World) (Kc : Act → World → Prop), Kc { tmps := A1 a.tmps s, defers := [] } W → assign.wpIn (Fence.wide.inRound L) 2 Try.prog (Exit.then Kc (fun _ _ _ => False)) { tmps := a.tmps.setIfInBounds p (sval s), defers := [] } W)
    (hbody : ∀ (L : Nat) (K' : Nat → Prop) (pre : Ms) (x : Int × List UInt8) (s : Sl) (W : World), (∀ i, K i → K' i) → I K' pre W → W.cell? ⟨B1, 0, none⟩ = some (.pointer (some ⟨b, 0, none⟩)) → W.cell? ⟨B2, 0, none⟩ = some (.int .i64 now) → pre ++ [x] <+: l → x.1 ≤ now → OwnB W (sval s) x.2 → x.2.length ≤ 320 → (∀ g, (sval s).ownBlock = some g → ¬ K' g) →
      body.wpIn (Fence.wide.inRound L) 2 Try.prog (RoundP K' s b (fun K2 p W => I K2 p W ∧ W.cell? ⟨B1, 0, none⟩ = some (.pointer (some ⟨b, 0, none⟩)) ∧ W.cell? ⟨B2, 0, none⟩ = some (.int .i64 now)) Ix (pre ++ [x]) W) { tmps := A1 a.tmps s, defers := [] } W)
    (hdone : ∀ (D : Nat) (K' : Nat → Prop) (pre rest : Ms) (W : World), w.heap.size ≤ D → (∀ i, K i → K' i) → ¬ K' D → l = pre ++ rest → du rest now = 0 → I K' pre W → PipK K' W b room rest → W.heap[D]? = some (.deferred (some [])) → Q .normal { a with defers := { target := .collected D, args := #[] } :: a.defers } W)
    (hstop : ∀ (D : Nat) (c : Code) (K' : Nat → Prop) (pre rest : Ms) (W : World), w.heap.size ≤ D → (∀ i, K i → K' i) → ¬ K' D → l = pre ++ rest → Ix c K' pre W → PipK K' W b room rest → W.heap[D]? = some (.deferred (some [])) → c.wp Try.prog Q { a with defers := { target := .collected D, args := #[] } :: a.defers } W) :
    (Code.rangeFunc g #[p] assign body).wp Try.prog Q a w := by
  refine (wpIn_wide (n := 4)).1 (wpIn_rangeFunc ?_)
  intro fn hfn
  obtain ⟨W1, e1⟩ : ∃ W1, W1 = (w.alloc (.deferred (some []))).alloc (.loop (recP fn a.tmps #[p] assign body w.heap.size .ready none)) := ⟨_, rfl⟩
  have X1 : Ext w W1 := by rw [e1]; exact ((Ext.refl w).alloc _).alloc _
  have z1 : W1.heap.size = w.heap.size + 2 := by rw [e1]; simp
  have l1 : W1.heap[w.heap.size + 1]? = some (.loop (recP fn a.tmps #[p] assign body w.heap.size .ready none)) := by rw [e1]; exact heap_alloc2_new w _ _
  have d1 : W1.heap[w.heap.size]? = some (.deferred (some [])) := by rw [e1]; exact heap_alloc2_old w _ _
  have hKlt : ∀ i, K i → i < w.heap.size := hw.there
  have w1 := hw.more X1
  obtain ⟨K1, eK1⟩ : ∃ K1 : Nat → Prop, K1 = fun i => K i ∨ (w.heap.size ≤ i ∧ i < W1.heap.size) := ⟨_, rfl⟩
  rw [← eK1] at w1
  have hKK : ∀ i, K i → K1 i := fun i hi => by rw [eK1]; exact .inl hi
  have kL : K1 (w.heap.size + 1) := by rw [eK1]; exact .inr ⟨by omega, by omega⟩
  have kD : K1 w.heap.size := by rw [eK1]; exact .inr ⟨by omega, by omega⟩
  obtain ⟨JJ, eJ⟩ : ∃ JJ : (Nat → Prop) → Ms → World → Prop, JJ = fun K' pre W => ∃ KI : Nat → Prop, (∀ i, K i → KI i) ∧ (∀ i, KI i → K' i) ∧ (∀ i, KI i → i ≠ w.heap.size + 1 ∧ i ≠ w.heap.size) ∧ K' (w.heap.size + 1) ∧ K' w.heap.size ∧ KeptP (w.heap.size + 1) w.heap.size (.loop (recP fn a.tmps #[p] assign body w.heap.size .ready none)) (fun W => I KI pre W ∧ W.cell? ⟨B1, 0, none⟩ = some (.pointer (some ⟨b, 0, none⟩)) ∧ W.cell? ⟨B2, 0, none⟩ = some (.int .i64 now)) W := ⟨_, rfl⟩
  obtain ⟨JX, eX⟩ : ∃ JX : (Nat → Prop) → Ms → World → Prop, JX = fun K' pre W => ∃ KI : Nat → Prop, (∀ i, K i → KI i) ∧ (∀ i, KI i → K' i) ∧ (∀ i, KI i → i ≠ w.heap.size + 1 ∧ i ≠ w.heap.size) ∧ ∃ c, KeptP (w.heap.size + 1) w.heap.size (.loop (recP fn a.tmps #[p] assign body w.heap.size .done (some c))) (Ix c KI pre) W := ⟨_, rfl⟩
  refine ⟨w.heap.size + 1, [{ target := .collected w.heap.size, args := #[] }], W1, { target := .fn (.func 51) #[.pointer (some ⟨B1, 0, none⟩), .pointer (some ⟨B2, 0, none⟩)], args := #[.func (.yield (w.heap.size + 1)) #[] #[]] }, W1, 51, #[.func (.yield (w.heap.size + 1)) #[] #[]] ++ #[.pointer (some ⟨B1, 0, none⟩), .pointer (some ⟨B2, 0, none⟩)], W1, ?_, ?_, ?_, ?_, fun _ => by decide, ?_⟩
  · rw [e1]; exact run_enterLoop_outer _ _ _ _ _
  · simp only [resolve, hg]
    simp [go_sem]
  · intro f' _; exact trivial
  · have eg : ∀ args w, (callFunc 51 args).run Try.prog w = .ok (.enter 51 args) w := enters_of Try.func51 (by kernel_rfl) rfl
    simp [invoke, go_sem, eg]
  · refine (take1_in 3 (w.heap.size + 1) B1 B2 b K1 room now l JJ JX (by decide) ?_ ?_ W1 (X1.cell hb1) (X1.cell hb2) (hKK B1 hK1) (hKK B2 hK2) w1 ?_).mono ?_
    · intro K' pre A B hA k
      rw [eJ] at hA ⊢
      obtain ⟨KI, b1, b2, b3, b4, b5, ⟨i1, i2, i5⟩, i3, i4⟩ := hA
      exact ⟨KI, b1, b2, b3, b4, b5, ⟨hI _ _ _ _ b1 i1 (k.mono b2), k.cell (b2 _ (b1 _ hK1)) i2, k.cell (b2 _ (b1 _ hK2)) i5⟩, k.row b4 i3, k.row b5 i4⟩
    · intro K' pre x s A hKK' hA hp hx ho hlen hnk
      rw [eJ] at hA
      obtain ⟨KI, b1, b2, b3, b4, b5, hA⟩ := hA
      refine (yieldP (K := KI) (K1 := K') (b := b) (I := fun K2 p W => (∀ i, K i → K2 i) ∧ I K2 p W ∧ W.cell? ⟨B1, 0, none⟩ = some (.pointer (some ⟨b, 0, none⟩)) ∧ W.cell? ⟨B2, 0, none⟩ = some (.int .i64 now)) (Ix := fun c K2 p W => (∀ i, K i → K2 i) ∧ Ix c K2 p W) (a1 := { tmps := A1 a.tmps s, defers := [] }) hfn (by omega) rfl b2 b3 (fun K2 p A B h k => ⟨h.1, hI _ _ _ _ h.1 h.2.1 k, k.cell (h.1 _ hK1) h.2.2.1, k.cell (h.1 _ hK2) h.2.2.2⟩) (fun c K2 p A B h k => ⟨h.1, hIx _ _ _ _ _ h.1 h.2 k⟩) (fun W Kc hc => by simpa using hassign _ s W Kc hc) (fun A2 h2 ho2 => ?_) A ⟨⟨b1, hA.1⟩, hA.2⟩ ho).mono ?_
      · refine wpIn_mono (hbody _ KI pre x s A2 h2.1 h2.2.1 h2.2.2.1 h2.2.2.2 hp hx ho2 hlen (fun g hg h => hnk g hg (b2 g h))) ?_
        intro e a3 W3 hq
        cases e with
        | normal => obtain ⟨q1, K2, q2, q3⟩ := hq; exact ⟨q1, K2, q2, fun i h => q2.1 i (b1 i h), q3⟩
        | ret => obtain ⟨q1, K2, q2, q3⟩ := hq; exact ⟨q1, K2, q2, fun i h => q2.1 i (b1 i h), q3⟩
        | exit id => obtain ⟨q1, K2, q2, q3⟩ := hq; exact ⟨q1, K2, q2, fun i h => q2.1 i (b1 i h), q3⟩
        | goto tt => obtain ⟨q1, K2, q2, q3⟩ := hq; exact ⟨q1, K2, q2, fun i h => q2.1 i (b1 i h), q3⟩
        | panic ch => exact hq.elim
        | outgrown => exact hq.elim
      · rintro e A2 ⟨K2, c1, c2, c3, (⟨rfl, q⟩ | ⟨rfl, c, q⟩)⟩
        · refine ⟨fun i => K' i ∨ K2 i, fun i h => .inl h, fun v ml u => c3 _ _ _ u, .inl ⟨rfl, ?_, q.1.2.2⟩⟩
          rw [eJ]
          exact ⟨K2, fun i h => c1 i (b1 i h), fun i h => .inr h, c2, .inl b4, .inl b5, q.1.2, q.2⟩
        · refine ⟨fun i => K' i ∨ K2 i, fun i h => .inl h, fun v ml u => c3 _ _ _ u, .inr ⟨rfl, ?_⟩⟩
          rw [eX]
          exact ⟨K2, fun i h => c1 i (b1 i h), fun i h => .inr h, c2, c, q.1.2, q.2⟩
    · rw [eJ]
      exact ⟨K, fun i h => h, hKK, fun i h => ⟨by have := hKlt i h; omega, by have := hKlt i h; omega⟩, kL, kD, ⟨hI _ _ _ _ (fun i h => h) h0 (Kept.of_ext X1), X1.cell hb1, X1.cell hb2⟩, l1, d1⟩
    · have hh : ∀ (K' KI : Nat → Prop) (W2 : World) (o o' : Obj) (rest : Ms), (∀ i, KI i → K' i) → W2.heap[w.heap.size + 1]? = some o → o.isCells = false → PipK K' W2 b room rest → PipK KI (W2.putObj (w.heap.size + 1) o') b room rest := fun K' KI W2 o o' rest h0 h1 h2 h3 => by
        obtain ⟨r, v, ml, u, em⟩ := h3
        exact ⟨r, v, ml, (Holds.put (K := K') (b := b) W2 (w.heap.size + 1) _ o' h1 h2 K' room v ml (fun _ h => h) u).less h0, em⟩
      rintro e W2 ⟨⟨v, rfl⟩, K', pre, rest, hKK', el, hW2, (⟨hdue, hA⟩ | hA)⟩
      · rw [eJ] at hA
        obtain ⟨KI, b1, b2, b3, b4, b5, hA⟩ := hA
        have re := run_endLoop (P := Try.prog) hA.2.1 (by simp [recP])
        exact ⟨none, _, re, hdone w.heap.size KI pre rest _ (Nat.le_refl _) b1 (fun h => (b3 _ h).2 rfl) el hdue (hI _ _ _ _ b1 hA.1.1 (kept_put W2 (fun h => (b3 _ h).1 rfl) _)) (hh K' KI W2 _ _ rest b2 hA.2.1 rfl hW2) ((World.putObj_heap_other (by omega)).trans hA.2.2)⟩
      · rw [eX] at hA
        obtain ⟨KI, b1, b2, b3, c, hA⟩ := hA
        have re := run_endLoop (P := Try.prog) hA.2.1 (by simp [recP])
        exact ⟨some c, _, re, wpIn_wide.2 (hstop w.heap.size c KI pre rest _ (Nat.le_refl _) b1 (fun h => (b3 _ h).2 rfl) el (hIx _ _ _ _ _ b1 hA.1 (kept_put W2 (fun h => (b3 _ h).1 rfl) _)) (hh K' KI W2 _ _ rest b2 hA.2.1 rfl hW2) ((World.putObj_heap_other (by omega)).trans hA.2.2))⟩

/-- Take -/
theorem take_any (b : Nat) (now : Int) (w : World) :
    Calls Try.prog 37 #[.pointer (some ⟨b, 0, none⟩), .int .i64 now] w fun e w' => e = .returned (.func (.func 51) #[] #[.pointer (some ⟨w.heap.size, 0, none⟩), .pointer (some ⟨w.heap.size + 1, 0, none⟩)]) ∧
      w'.cell? ⟨w.heap.size, 0, none⟩ = some (.pointer (some ⟨b, 0, none⟩)) ∧ w'.cell? ⟨w.heap.size + 1, 0, none⟩ = some (.int .i64 now) ∧ w'.heap.size = w.heap.size + 2 ∧ Ext w w' := by
  obtain ⟨W, eW⟩ : ∃ W, W = (w.alloc (.cells #[.pointer (some ⟨b, 0, none⟩)] 53)).alloc (.cells #[.int .i64 now] 3) := ⟨_, rfl⟩
  have X : Ext w W := by rw [eW]; exact ((Ext.refl w).alloc _).alloc _
  have c1 : W.cell? ⟨w.heap.size, 0, none⟩ = some (.pointer (some ⟨b, 0, none⟩)) := by rw [eW, cell_of_row _ _ 0 _ _ _ (heap_alloc2_old w _ _)]; rfl
  have c2 : W.cell? ⟨w.heap.size + 1, 0, none⟩ = some (.int .i64 now) := by rw [eW, cell_of_row _ _ 0 _ _ _ (heap_alloc2_new w _ _)]; rfl
  have z : W.heap.size = w.heap.size + 2 := by rw [eW]; simp
  have R : Hid (W.cell? ⟨w.heap.size, 0, none⟩ = some (.pointer (some ⟨b, 0, none⟩)) ∧ W.cell? ⟨w.heap.size + 1, 0, none⟩ = some (.int .i64 now) ∧ W.heap.size = w.heap.size + 2 ∧ Ext w W) := ⟨c1, c2, z, X⟩
  rw [eW] at R
  clear X c1 c2 z eW
  go_enter Try.func37, Try.ntmps37
  go_wp2
  go_ret
  exact ⟨rfl, R.out⟩
end Go.Proofs.Ytjmgigfaiaemeaa.Pip

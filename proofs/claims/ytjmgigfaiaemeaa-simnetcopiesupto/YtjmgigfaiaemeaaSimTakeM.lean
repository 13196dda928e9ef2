/-
  The statements' take: its boxes, what its loop holds, what a round leaves.
-/
import Derived.Test.YtjmgigfaiaemeaaSimOne
import Derived.Test.YtjmgigfaiaemeaaSimSend
import Derived.Test.YtjmgigfaiaemeaaPipBox
namespace Go.Proofs.Ytjmgigfaiaemeaa.Sim
set_option linter.unusedVariables false
set_option maxRecDepth 100000
open Go.RowKit Go.Lib Go.Shelf Go.Proofs.Ytjmgigfaiaemeaa.Crc Go.Proofs.Ytjmgigfaiaemeaa.Grp
open Go.Proofs.Ytjmgigfaiaemeaa.Pip hiding NewR

/-- a model's cells, none set -/
def zmod : Array Value := #[.int .i64 0, .int .i64 0, .int .i64 0, .int .i64 0, .int .i64 0, .slice none 0 0, .slice none 0 0, .slice none 0 0, .int .i64 0, .int .i64 0, .int .i64 0, .int .i64 0, .int .i64 0, .int .i64 0, .int .i64 0]
/-- two results that lie in cells: a row, a bool -/
theorem results_row_bool {P : Program} {fn : Func} {p q : Tmp} {ty ty2 : TypeId} (h : fn.results = #[.cell p ty, .cell q ty2]) (tmps : Array Value) (w : World) (g g2 : Nat) (t : TypeId) (cs : Array Value) (fr : Nat × Nat) (d : TypeDesc) (v : Bool)
    (hp : tmps.getD p undef = .pointer (some ⟨g, 0, none⟩)) (hg : w.heap[g]? = some (.cells cs t fr)) (hq : tmps.getD q undef = .pointer (some ⟨g2, 0, none⟩)) (hv : w.cell? ⟨g2, 0, none⟩ = some (.bool v))
    (hu : P.underlying ty = some d) (hd : (match d with | .struct _ | .array _ _ => true | _ => false) = true) (hi : (P.info? ty).map (·.size) = some cs.size) (hb : P.underlying ty2 = some .bool) :
    (results fn tmps).run P w = .ok (.tuple #[.agg cs, .bool v]) w := by
  have hp' : tmps[p]?.getD undef = .pointer (some ⟨g, 0, none⟩) := by simpa using hp
  have hq' : tmps[q]?.getD undef = .pointer (some ⟨g2, 0, none⟩) := by simpa using hq
  have h2 : (loadVar ty2 ⟨g2, 0, none⟩).run P w = .ok (.bool v) w := by
    simp [loadVar, isAgg, run_underlying hb, hv, go_sem]
  simp [results, h, hp', hq', asAddr, run_loadVar_row w g t ty cs fr d hg hu hd hi, h2]

/-- take's boxes -/
def BoxS (W : World) (h0 hl : Nat) (lv : Value) (c : Cfg) (av fv : Value) (used : Int) (s : Cts) (at_ : Nat) (now : Int) : Prop :=
  W.heap[h0]? = some (.cells (mcs c av lv fv used s) 40 (0, 0)) ∧ W.cell? ⟨h0 + 1, 0, none⟩ = some (.int .i64 (at_ : Int)) ∧ W.cell? ⟨h0 + 1 + 1, 0, none⟩ = some (.int .i64 now) ∧
    W.heap[h0 + 1 + 1 + 1]? = some (.cells zmod 40 (0, 0)) ∧ W.heap[h0 + 1 + 1 + 1 + 1]? = some (.cells #[.bool false] 4 (0, 0)) ∧ W.cell? ⟨hl, 0, none⟩ = some lv
theorem BoxS.kept {K : Nat → Prop} {W W' : World} {h0 hl : Nat} {lv : Value} {c : Cfg} {av fv : Value} {used : Int} {s : Cts} {at_ : Nat} {now : Int} (h : BoxS W h0 hl lv c av fv used s at_ now) (k : Kept K W W') (hK : ∀ i, h0 ≤ i → i < h0 + 5 → K i) (hl' : K hl) : BoxS W' h0 hl lv c av fv used s at_ now := by
  obtain ⟨a1, a2, a3, a4, a5, a6⟩ := h
  exact ⟨k.row (hK _ (by omega) (by omega)) a1, k.cell (a := ⟨h0 + 1, 0, none⟩) (hK (h0 + 1) (by omega) (by omega)) a2, k.cell (a := ⟨h0 + 1 + 1, 0, none⟩) (hK (h0 + 1 + 1) (by omega) (by omega)) a3, k.row (hK (h0 + 1 + 1 + 1) (by omega) (by omega)) a4, k.row (hK (h0 + 1 + 1 + 1 + 1) (by omega) (by omega)) a5, k.cell (a := ⟨hl, 0, none⟩) hl' a6⟩

/-- between two rounds -/
def GoesS (Kp Ki : Nat → Prop) (w7 : World) (g5 M c5 at_ : Nat) (vs : List Sl) (x : Ms) (now : Int) (K' : Nat → Prop) (pre : Ms) (W : World) : Prop :=
  ∃ (v : Sl) (y : Ms), Own senc 78 1 W (.slice (some ⟨g5, 0, none⟩) M c5) (vs.set at_ v) ∧ RowK (fun i => (Kp i ∨ (K' i ∧ w7.heap.size ≤ i)) ∧ i ≠ g5) W (sval v) 2 (rcells y) ∧ ord x = pre ++ ord y ∧ (∀ p ∈ pre, p.1 ≤ now) ∧ Kept (fun i => Ki i ∧ i ≠ g5) w7 W
theorem goesS_kept {Kp Ki : Nat → Prop} {w7 : World} {g5 M c5 at_ : Nat} {vs : List Sl} {x : Ms} {now : Int} (hKp : ∀ i, Kp i → Ki i) (hg : Ki g5) (K' : Nat → Prop) (pre : Ms) (W W' : World) (hK' : ∀ i, Ki i → K' i) (h : GoesS Kp Ki w7 g5 M c5 at_ vs x now K' pre W) (k : Kept K' W W') : GoesS Kp Ki w7 g5 M c5 at_ vs x now K' pre W' := by
  obtain ⟨v, y, a1, a2, a3, a4, a5⟩ := h
  refine ⟨v, y, a1.kept k (fun g hg' => ?_), a2.kept (k.mono (fun i hi => hi.1.elim (fun h => hK' i (hKp i h)) (fun h => h.1))), a3, a4, a5.trans (k.mono (fun i hi => hK' i hi.1))⟩
  simp only [Value.ownBlock, Option.some.injEq] at hg'
  rw [← hg']
  exact hK' _ hg

/-- what a round leaves -/
theorem take_roundS {Kp Ki K' : Nat → Prop} {w7 W W0 V2 : World} {g5 M c5 at_ b : Nat} {vs : List Sl} {x y : Ms} {now : Int} {pre : Ms} {v nv s : Sl} {m : Int × List UInt8} {i : Nat} (hg : Ki g5) (hK' : ∀ i, Ki i → K' i) (hat : at_ < vs.length)
    (ho : Own senc 78 1 W (.slice (some ⟨g5, 0, none⟩) M c5) (vs.set at_ v)) (eo : ord x = pre ++ ord y) (hd : ∀ p ∈ pre, p.1 ≤ now) (kk : Kept (fun i => Ki i ∧ i ≠ g5) w7 W) (hm : m.1 ≤ now)
    (hF : IsF y i) (em : y.getD i (0, []) = m) (X0 : Ext W W0) (nr : Pip.NewR W0 V2 (sval nv) (y.eraseIdx i)) :
    V2.frozen? ⟨g5, at_, none⟩ = false ∧ (∃ u, V2.cell? ⟨g5, at_, none⟩ = some u) ∧ KeepsOthers W (V2.setCell ⟨g5, at_, none⟩ (sval nv)) ∧
      Grown K' s b W (fun i => K' i ∨ (W.heap.size ≤ i ∧ i < V2.heap.size)) (V2.setCell ⟨g5, at_, none⟩ (sval nv)) ∧
      GoesS Kp Ki w7 g5 M c5 at_ vs x now (fun i => K' i ∨ (W.heap.size ≤ i ∧ i < V2.heap.size)) (pre ++ [m]) (V2.setCell ⟨g5, at_, none⟩ (sval nv)) ∧ Kept (fun i => i ≠ g5) W (V2.setCell ⟨g5, at_, none⟩ (sval nv)) := by
  have X2 : Ext W V2 := X0.trans nr.2.2
  have lt5 : g5 < W.heap.size := ho.lt rfl
  have sz : W.heap.size ≤ W0.heap.size := X0.size
  obtain ⟨o2, fz, u, cu⟩ := Own_cell encS (ho.ext X2) at_ nv (sval nv) rfl (by rw [List.length_set]; exact hat)
  rw [List.set_set] at o2
  have k3 : Kept (fun i => i ≠ g5) V2 (V2.setCell ⟨g5, at_, none⟩ (sval nv)) := (Kept.refl _ V2).setCell (fun hne => hne rfl) _
  have kA : Kept (fun i => i ≠ g5) W (V2.setCell ⟨g5, at_, none⟩ (sval nv)) := (Kept.of_ext X2).trans k3
  have w7s := kk.size
  refine ⟨fz, ⟨u, cu⟩, ?_, ⟨fun i h => .inl h, fun i h => h.imp id (fun q => q.1), fun K'' hK'' room v2 ml uu => ?_⟩, ⟨nv, y.eraseIdx i, o2, ?_, ?_, ?_, kk.trans (kA.mono (fun i hi => hi.2))⟩, kA⟩
  · refine KeepsOthers.trans ⟨X2.size, fun i o h1 h2 => X2.row h1⟩ (KeepsOthers.setCell _ _ _)
  · have u2 := (uu.more X2).cell (g := g5) (.inl (hK'' _ (.inl (hK' _ hg)))) at_ (sval nv)
    exact u2.less (fun i hi => hi.elim .inl (fun q => q.elim (fun h => .inl (hK'' i (.inl h))) .inr))
  · have r := nr.row
    exact (r.kept (k3.mono (fun i hi => by have := hi.1; omega))).mono (by decide) (fun i _ hi => ⟨.inr ⟨.inr ⟨by have := hi.1; omega, hi.2⟩, by have := hi.1; omega⟩, by have := hi.1; omega⟩)
  · rw [eo, ord_first y i hF, em, List.append_assoc]; rfl
  · intro p hp
    rcases List.mem_append.1 hp with h | h
    · exact hd p h
    · simp only [List.mem_singleton] at h; rw [h]; exact hm

theorem pipK_row {K : Nat → Prop} {w : World} {b : Nat} {room : Int} {l : Ms} (h : PipK K w b room l) {g : Nat} (hg : K g) (cs : Array Value) : PipK K (w.setRow g cs) b room l := ⟨h.1, h.2.elim fun v h => h.elim fun ml h => ⟨v, ml, h.1.row hg cs, h.2⟩⟩
theorem pipK_put {K : Nat → Prop} {w : World} {b : Nat} {room : Int} {l : Ms} (h : PipK K w b room l) {D : Nat} {o : Obj} (o' : Obj) (hd : w.heap[D]? = some o) (ho : o.isCells = false) : PipK K (w.putObj D o') b room l := by
  obtain ⟨r, v, ml, u, em⟩ := h
  exact ⟨r, v, ml, Holds.put (K := K) (b := b) w D _ o' hd ho K room v ml (fun _ h => h) u, em⟩

/-- what take leaves -/
theorem take_endS {K E Ki K' : Nat → Prop} {w w7 W w1 : World} {b g5 M c5 at_ h0 hl D : Nat} {bs : Nat → Nat} {c : Cfg} {l : List Tri} {fs : List (Int × Int)} {x : St} {vs : List Sl} {now : Int} {pre : Ms} {v : Sl} {y : Ms} {av fv lv : Value}
    (eh : h0 = w.heap.size) (hK : ∀ q, K q → q < w.heap.size) (hE : ∀ q, E q → K q) (X7 : Ext w w7) (h75 : h0 + 5 ≤ g5) (g57 : g5 < w7.heap.size) (hKi : ∀ q, (K q ∨ New w w7 q) → Ki q) (hKK : ∀ q, Ki q → K' q) (hat : at_ < vs.length) (ev : vs.length = x.1.length)
    (hvs : ∀ (i : Nat) (z : Ms), x.1[i]? = some z → ∃ u : Sl, vs[i]? = some u ∧ RowK E w (sval u) 2 (rcells z))
    (fin : ∀ (K3 : Nat → Prop) (w' : World) (l' : Ms), (∀ q, Ki q → K3 q) → PipK K3 w' (bs at_) c.2.2.1 (ord l') → Kept (fun q => Ki q ∧ ¬ (q = g5 ∨ q = h0 + 1 + 1 + 1 ∨ q = h0 + 1 + 1 + 1 + 1)) w7 w' → NetK (fun q => (K q ∨ New w w7 q) ∨ (K3 q ∧ w7.heap.size ≤ q)) w' b bs c l fs (x.1.set at_ l', x.2))
    (ho : Own senc 78 1 W (.slice (some ⟨g5, 0, none⟩) M c5) (vs.set at_ v)) (hr : RowK (fun i => (E i ∨ (K' i ∧ w7.heap.size ≤ i)) ∧ i ≠ g5) W (sval v) 2 (rcells y)) (kk : Kept (fun i => Ki i ∧ i ≠ g5) w7 W)
    (hB : BoxS W h0 hl lv c av fv (x.2.1 : Int) x.2.2 at_ now) (hwk : PipK K' W (bs at_) c.2.2.1 (ord y)) (hdf : W.heap[D]? = some (.deferred (some []))) (nD : ¬ K' D) (D7 : w7.heap.size ≤ D) (X1 : Ext W w1) (cs : Array Value) (hcs : cs = mcs c av lv fv (x.2.1 : Int) x.2.2) :
    (let W2 := w1.drew.setRow (h0 + 1 + 1 + 1) cs
     let V := W2.setCell ⟨h0 + 1 + 1 + 1 + 1, 0, none⟩ (.bool true)
     W2.cell? ⟨h0 + 1 + 1 + 1 + 1, 0, none⟩ = some (.bool false) ∧ W2.frozen? ⟨h0 + 1 + 1 + 1 + 1, 0, none⟩ = false ∧ V.heap[D]? = some (.deferred (some [])) ∧
     (V.putObj D (.deferred none)).heap[h0 + 1 + 1 + 1]? = some (.cells cs 40 (0, 0)) ∧ (V.putObj D (.deferred none)).cell? ⟨h0 + 1 + 1 + 1 + 1, 0, none⟩ = some (.bool true) ∧
     NetK (fun q => (K q ∨ New w w7 q) ∨ (K' q ∧ w7.heap.size ≤ q)) (V.putObj D (.deferred none)) b bs c l fs (x.1.set at_ y, x.2) ∧
     ListsK (fun q => E q ∨ (w.heap.size ≤ q ∧ ((K q ∨ New w w7 q) ∨ (K' q ∧ w7.heap.size ≤ q)))) (V.putObj D (.deferred none)) (.slice (some ⟨g5, 0, none⟩) M c5) (x.1.set at_ y) ∧ Kept K w (V.putObj D (.deferred none)) ∧
     Kept (fun i => i ≠ h0 + 1 + 1 + 1 ∧ i ≠ h0 + 1 + 1 + 1 + 1) w1 W2 ∧ Kept (fun i => i ≠ h0 + 1 + 1 + 1 ∧ i ≠ h0 + 1 + 1 + 1 + 1) w1 V) := by
  intro W2 V
  have n5 : Ki g5 := hKi g5 (.inr ⟨by omega, g57⟩)
  have n3 : Ki (h0 + 1 + 1 + 1) := hKi _ (.inr ⟨by omega, by omega⟩)
  have n4 : Ki (h0 + 1 + 1 + 1 + 1) := hKi _ (.inr ⟨by omega, by omega⟩)
  have XD : Ext W w1.drew := X1.trans ((Ext.refl w1).drewN 1)
  obtain ⟨_, _, _, r3, r4, _⟩ := hB
  have r3' := XD.row r3
  have r4' := XD.row r4
  have kd : Kept (fun i => i ≠ h0 + 1 + 1 + 1 ∧ i ≠ h0 + 1 + 1 + 1 + 1) w1 w1.drew := Kept.of_ext ((Ext.refl w1).drewN 1)
  have k2 : Kept (fun i => i ≠ h0 + 1 + 1 + 1) w1.drew W2 := (Kept.refl _ _).setRow (fun hne => hne rfl) cs
  have q4 := k2.row (by omega) r4'
  have q3 : W2.heap[h0 + 1 + 1 + 1]? = some (.cells cs 40 (0, 0)) := setRow_heap _ _ _ _ _ _ r3'
  have k3 : Kept (fun i => i ≠ h0 + 1 + 1 + 1 + 1) W2 V := (Kept.refl _ _).setCell (fun hne => hne rfl) _
  have v3 := k3.row (by omega) q3
  have v4 : V.heap[h0 + 1 + 1 + 1 + 1]? = some (.cells #[.bool true] 4 (0, 0)) := by
    have e : V = W2.setRow (h0 + 1 + 1 + 1 + 1) #[.bool true] := setCell_eq_setRow _ _ _ _ _ _ _ q4
    rw [e]
    exact setRow_heap _ _ _ _ _ _ q4
  have kWV : Kept (fun i => i ≠ h0 + 1 + 1 + 1 ∧ i ≠ h0 + 1 + 1 + 1 + 1) w1 V := (kd.trans (k2.mono (fun i hi => hi.1))).trans (k3.mono (fun i hi => hi.2))
  have D3 : D ≠ h0 + 1 + 1 + 1 ∧ D ≠ h0 + 1 + 1 + 1 + 1 ∧ D ≠ g5 := by omega
  have dV : V.heap[D]? = some (.deferred (some [])) := kWV.row ⟨D3.1, D3.2.1⟩ (X1.row hdf)
  have kP : Kept (fun i => i ≠ D) V (V.putObj D (.deferred none)) := kept_put V (fun h => h rfl) _
  have kAll : Kept (fun i => i ≠ h0 + 1 + 1 + 1 ∧ i ≠ h0 + 1 + 1 + 1 + 1 ∧ i ≠ D) W (V.putObj D (.deferred none)) := ((Kept.of_ext X1).trans (kWV.mono (fun i hi => ⟨hi.1, hi.2.1⟩))).trans (kP.mono (fun i hi => hi.2.2))
  have nDK : ∀ i, K' i → i ≠ D := fun i hi e => nD (e ▸ hi)
  have p1 := (pipK_row (hwk.ext XD) (hKK _ n3) cs).cell (hKK _ n4) 0 (.bool true)
  have p2 : PipK K' (V.putObj D (.deferred none)) (bs at_) c.2.2.1 (ord y) := pipK_put p1 (.deferred none) dV rfl
  have net := fin K' (V.putObj D (.deferred none)) y hKK p2 (by
    refine (kk.mono (fun q hq => ⟨hq.1, fun e => hq.2 (.inl e)⟩)).trans (kAll.mono (fun q hq => ⟨fun e => hq.2 (.inr (.inl e)), fun e => hq.2 (.inr (.inr e)), nDK q (hKK q hq.1)⟩)))
  have hw : Kept K w (V.putObj D (.deferred none)) := by
    refine ((Kept.of_ext X7).trans (kk.mono (fun q hq => ⟨hKi q (.inl hq), by have := hK q hq; omega⟩))).trans (kAll.mono (fun q hq => ?_))
    have := hK q hq
    exact ⟨by omega, by omega, nDK q (hKK q (hKi q (.inl hq)))⟩
  refine ⟨by rw [cell_of_row _ _ 0 _ _ _ q4]; rfl, frozen_of_row _ _ _ _ _ q4, dV, kP.row (fun e => D3.1 e.symm) v3, ?_, net, ⟨vs.set at_ v, by rw [List.length_set, List.length_set, ev], ?_, fun i z hz => ?_⟩, hw, kd.trans (k2.mono (fun i hi => hi.1)), kWV⟩
  · rw [cell_of_row _ _ 0 _ _ _ (kP.row (fun e => D3.2.1 e.symm) v4)]; rfl
  · have o2 := ho.kept kAll (fun g hg => by
      simp only [Value.ownBlock, Option.some.injEq] at hg
      subst hg
      exact ⟨by omega, by omega, fun e => D3.2.2 e.symm⟩)
    refine o2.row.mono (by decide) (fun q _ hq => ?_)
    simp only [Value.ownBlock, Option.some.injEq] at hq
    subst hq
    exact .inr ⟨by omega, .inl (.inr ⟨by omega, g57⟩)⟩
  · rw [List.getElem?_set] at hz
    by_cases e : at_ = i
    · subst e
      rw [if_pos rfl, if_pos (by omega)] at hz
      obtain rfl : y = z := by simpa using hz
      refine ⟨v, by rw [List.getElem?_set_self hat], ?_⟩
      have r1 := hr.mono (L := fun i => (((E i ∨ (w.heap.size ≤ i ∧ ((K i ∨ New w w7 i) ∨ (K' i ∧ w7.heap.size ≤ i)))) ∧ (i ≠ h0 + 1 + 1 + 1 ∧ i ≠ h0 + 1 + 1 + 1 + 1 ∧ i ≠ D)) )) (by decide) (fun q hq h => ?_)
      · exact (r1.kept (kAll.mono (fun q hq => hq.2))).mono (by decide) (fun q _ h => h.1)
      · have xs := X7.size
        refine ⟨h.1.imp id (fun h => ⟨by omega, .inr h⟩), ?_⟩
        rcases h.1 with hk | hk
        · have := hK q (hE q hk)
          exact ⟨by omega, by omega, nDK q (hKK q (hKi q (.inl (hE q hk))))⟩
        · exact ⟨by omega, by omega, nDK q hk.1⟩
    · rw [if_neg e] at hz
      obtain ⟨u, e2, r⟩ := hvs i z hz
      exact ⟨u, by rw [List.getElem?_set_ne e]; exact e2, (r.kept (hw.mono hE)).mono (by decide) (fun q _ h => .inl h)⟩
end Go.Proofs.Ytjmgigfaiaemeaa.Sim

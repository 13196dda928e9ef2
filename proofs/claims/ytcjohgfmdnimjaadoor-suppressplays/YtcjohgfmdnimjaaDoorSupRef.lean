/-
  The reference of layer 17: walks of Low and Step.
-/
import Derived.Test.YtcjohgfmdnimjaaDoorSupOps
namespace Go.Proofs.YtcjohgfmdnimjaaDoor.Sup
set_option linter.unusedVariables false
set_option maxRecDepth 100000
open Go.RowKit Go.Lib

theorem results_cell_tmp1 {P : Program} {fn : Func} {p t : Tmp} {ty : TypeId} (h : fn.results = #[.cell p ty, .tmp t]) (tmps : Array Value) (w : World) (g : Nat) (tt : TypeId) (cs : Array Value) (fr : Nat × Nat) (d : TypeDesc)
    (hp : tmps.getD p undef = .pointer (some ⟨g, 0, none⟩)) (hg : w.heap[g]? = some (.cells cs tt fr))
    (hu : P.underlying ty = some d) (hd : (match d with | .struct _ | .array _ _ => true | _ => false) = true) (hi : (P.info? ty).map (·.size) = some cs.size) :
    (results fn tmps).run P w = .ok (.tuple #[.agg cs, tmps.getD t undef]) w := by
  have hp' : tmps[p]?.getD undef = .pointer (some ⟨g, 0, none⟩) := by simpa using hp
  simp [results, h, hp', asAddr, run_loadVar_row w g tt ty cs fr d hg hu hd hi]

/-- a round's cells, as the reference has them -/
def fr (s : SS) : Array Value := #[.int .i64 s.1, .int .i64 s.2.2.2, .int .u64 s.2.1, .bool s.2.2.1]
theorem fr_one (s : SS) : (fr s).all (·.oneCell') = true := by simp [fr, Value.oneCell']
theorem size_f : (Tryd.prog.info? 37).map (·.size) = some 4 := by kernel_rfl
/-- a round's box, a result's box behind it -/
def Rf (w V : World) (bx : Nat) (s t : SS) : Prop := V.heap[bx]? = some (.cells (fr s) 37 (0, 0)) ∧ V.heap[bx + 1]? = some (.cells (fr t) 37 (0, 0)) ∧ Ext w V ∧ w.heap.size ≤ bx
theorem Rf.ext {w V V' : World} {bx : Nat} {s t : SS} (h : Rf w V bx s t) (e : Ext V V') : Rf w V' bx s t := ⟨e.row h.1, e.row h.2.1, h.2.2.1.trans e, h.2.2.2⟩
theorem Rf.cell {w V : World} {bx : Nat} {s t : SS} (h : Rf w V bx s t) (i : Nat) (v : Value) (e : (fr s)[i]? = some v) : V.cell? ⟨bx, i, none⟩ = some v := by rw [cell_of_row _ _ i _ _ _ h.1, e]
theorem Rf.free {w V : World} {bx : Nat} {s t : SS} (h : Rf w V bx s t) (i : Nat) : V.frozen? ⟨bx, i, none⟩ = false := frozen_of_row _ _ _ _ _ h.1
theorem Rf.put {w V : World} {bx : Nat} {s t u : SS} (h : Rf w V bx s t) (i : Nat) (v : Value) (e : (fr s).setIfInBounds i v = fr u) : Rf w (V.setCell ⟨bx, i, none⟩ v) bx u t := by
  refine ⟨?_, ?_, h.2.2.1.setCell (by exact h.2.2.2) _, h.2.2.2⟩
  · rw [setCell_eq_setRow _ _ _ _ _ _ _ h.1, ← e]
    exact setRow_heap _ _ _ _ _ _ h.1
  · rw [heap_setCell_other _ _ _ _ (by simp)]
    exact h.2.1
theorem Rf.done {w V : World} {bx : Nat} {s t : SS} (h : Rf w V bx s t) (u : SS) : Ext w (V.setRow (bx + 1) (fr u)) ∧ (V.setRow (bx + 1) (fr u)).heap[bx + 1]? = some (.cells (fr u) 37 (0, 0)) := ⟨h.2.2.1.setRow (by have := h.2.2.2; omega) _, setRow_heap _ _ _ _ _ _ h.2.1⟩
theorem boxes (w : World) (n o : Int) (r : Bool) (d : Int) : ∃ (V : World) (bx : Nat), V = (w.alloc (.cells (fr (n, o, r, d)) 37)).alloc (.cells #[.int .i64 0, .int .i64 0, .int .u64 0, .bool false] 37) ∧ bx = w.heap.size ∧ Rf w V bx (n, o, r, d) (0, 0, false, 0) := by
  refine ⟨_, _, rfl, rfl, ((Ext.refl _).alloc _).row (heap_alloc_new w _), ?_, ((Ext.refl w).alloc _).alloc _, Nat.le_refl _⟩
  have := heap_alloc_new (w.alloc (.cells (fr (n, o, r, d)) 37)) (.cells #[.int .i64 0, .int .i64 0, .int .u64 0, .bool false] 37)
  rw [World.size_alloc] at this
  exact this

theorem low_any (x o : Int) (w : World) (h0 : 0 ≤ x) (h1 : x < 18446744073709551616) : Calls Tryd.prog 42 #[.int .u64 x, .int .u64 o] w fun e w' => e = .returned (.bool (decide (isLow x o))) ∧ w' = w := by
  rw [show decide (isLow x o) = decide (x - x / 8 ≤ o) from rfl]
  go_enter Tryd.func42, Tryd.ntmps42
  go_wp2_with fail
  go_ret
  exact ⟨rfl, rfl⟩

/-- what one call answers, and what is left -/
def sst (s : SS) (k a b c x : Int) : SS × Int :=
  if k = 1 then sstart s a b c x
  else if k = 2 then ((secho s a x).1, if (secho s a x).2 then 1 else 0)
  else if k = 3 then ((sfire s a).1, if (sfire s a).2 then 1 else 0)
  else surge s a

set_option maxHeartbeats 4000000 in
theorem rstep1 (n o : Int) (r : Bool) (d k a b c x : Int) (w : World) (hk : k = 1) (h0 : 0 ≤ x) (h1 : x < 18446744073709551616) :
    Calls Tryd.prog 26 #[.agg (fr (n, o, r, d)), .int .i64 k, .int .i64 a, .int .i64 b, .int .i64 c, .int .u64 x] w fun e w' => e = .returned (.tuple #[.agg (fr (sst (n, o, r, d) k a b c x).1), .int .i64 (sst (n, o, r, d) k a b c x).2]) ∧ Ext w w' := by
  subst hk
  obtain ⟨V, bx, e1, eb, RF⟩ := boxes w n o r d
  have E1 := hid e1
  have EB := hid eb
  have y0 := RF.cell 0 (.int .i64 n) rfl
  have y1 := RF.cell 1 (.int .i64 d) rfl
  have y2 := RF.cell 2 (.int .u64 o) rfl
  have y3 := RF.cell 3 (.bool r) rfl
  have g1 := RF.free 1
  have g3 := RF.free 3
  have RR := hid RF
  clear e1 eb RF
  have e0 : sst (n, o, r, d) 1 a b c x = sstart (n, o, r, d) a b c x := rfl
  by_cases a0 : a < 0
  · have es : sst (n, o, r, d) 1 a b c x = ((n, o, r, d), 11) := by rw [e0]; unfold sstart; rw [if_neg (fun g => by have := g.1.1; omega)]
    rw [es]
    have FIN := hid (RR.out.done (n, o, r, d))
    have RB := hid RR.out.2.1
    have RA := hid RR.out.1
    have ONE := hid (fr_one (n, o, r, d))
    clear es RR e0
    go_enter Tryd.func26, Tryd.ntmps26
    go_wp2_with (first
      | rw [← EB.out, ← E1.out]
      | refine wpList_load_row rfl 37 (.tmp 6) rfl bx rfl 37 _ (0, 0) _ RA.out Tryd.underlying37 rfl size_f ?_
      | refine wpList_store_row rfl 37 (.tmp 12) _ rfl (bx + 1) (fr (n, o, r, d)) rfl rfl 37 _ RB.out size_f rfl ONE.out ?_)
    try simp only [Act.put, List.setIfInBounds_toArray, List.set_cons_zero, List.set_cons_succ]
    refine bodyPost_ret (results_cell_tmp1 Tryd.results26 _ _ (bx + 1) 37 _ (0, 0) _ rfl FIN.out.2 Tryd.underlying37 rfl size_f) rfl ?_
    exact ⟨rfl, FIN.out.1⟩
  by_cases a1 : 1099511627776 < a
  · have es : sst (n, o, r, d) 1 a b c x = ((n, o, r, d), 11) := by rw [e0]; unfold sstart; rw [if_neg (fun g => by have := g.1.2; omega)]
    rw [es]
    have FIN := hid (RR.out.done (n, o, r, d))
    have RB := hid RR.out.2.1
    have RA := hid RR.out.1
    have ONE := hid (fr_one (n, o, r, d))
    clear es RR e0
    go_enter Tryd.func26, Tryd.ntmps26
    go_wp2_with (first
      | rw [← EB.out, ← E1.out]
      | refine wpList_load_row rfl 37 (.tmp 6) rfl bx rfl 37 _ (0, 0) _ RA.out Tryd.underlying37 rfl size_f ?_
      | refine wpList_store_row rfl 37 (.tmp 12) _ rfl (bx + 1) (fr (n, o, r, d)) rfl rfl 37 _ RB.out size_f rfl ONE.out ?_)
    try simp only [Act.put, List.setIfInBounds_toArray, List.set_cons_zero, List.set_cons_succ]
    refine bodyPost_ret (results_cell_tmp1 Tryd.results26 _ _ (bx + 1) 37 _ (0, 0) _ rfl FIN.out.2 Tryd.underlying37 rfl size_f) rfl ?_
    exact ⟨rfl, FIN.out.1⟩
  by_cases b0 : b < 0
  · have es : sst (n, o, r, d) 1 a b c x = ((n, o, r, d), 11) := by rw [e0]; unfold sstart; rw [if_neg (fun g => by have := g.2.1.1; omega)]
    rw [es]
    have FIN := hid (RR.out.done (n, o, r, d))
    have RB := hid RR.out.2.1
    have RA := hid RR.out.1
    have ONE := hid (fr_one (n, o, r, d))
    clear es RR e0
    go_enter Tryd.func26, Tryd.ntmps26
    go_wp2_with (first
      | rw [← EB.out, ← E1.out]
      | refine wpList_load_row rfl 37 (.tmp 6) rfl bx rfl 37 _ (0, 0) _ RA.out Tryd.underlying37 rfl size_f ?_
      | refine wpList_store_row rfl 37 (.tmp 12) _ rfl (bx + 1) (fr (n, o, r, d)) rfl rfl 37 _ RB.out size_f rfl ONE.out ?_)
    try simp only [Act.put, List.setIfInBounds_toArray, List.set_cons_zero, List.set_cons_succ]
    refine bodyPost_ret (results_cell_tmp1 Tryd.results26 _ _ (bx + 1) 37 _ (0, 0) _ rfl FIN.out.2 Tryd.underlying37 rfl size_f) rfl ?_
    exact ⟨rfl, FIN.out.1⟩
  by_cases b1 : 1099511627776 < b
  · have es : sst (n, o, r, d) 1 a b c x = ((n, o, r, d), 11) := by rw [e0]; unfold sstart; rw [if_neg (fun g => by have := g.2.1.2; omega)]
    rw [es]
    have FIN := hid (RR.out.done (n, o, r, d))
    have RB := hid RR.out.2.1
    have RA := hid RR.out.1
    have ONE := hid (fr_one (n, o, r, d))
    clear es RR e0
    go_enter Tryd.func26, Tryd.ntmps26
    go_wp2_with (first
      | rw [← EB.out, ← E1.out]
      | refine wpList_load_row rfl 37 (.tmp 6) rfl bx rfl 37 _ (0, 0) _ RA.out Tryd.underlying37 rfl size_f ?_
      | refine wpList_store_row rfl 37 (.tmp 12) _ rfl (bx + 1) (fr (n, o, r, d)) rfl rfl 37 _ RB.out size_f rfl ONE.out ?_)
    try simp only [Act.put, List.setIfInBounds_toArray, List.set_cons_zero, List.set_cons_succ]
    refine bodyPost_ret (results_cell_tmp1 Tryd.results26 _ _ (bx + 1) 37 _ (0, 0) _ rfl FIN.out.2 Tryd.underlying37 rfl size_f) rfl ?_
    exact ⟨rfl, FIN.out.1⟩
  by_cases c0 : c < 0
  · have es : sst (n, o, r, d) 1 a b c x = ((n, o, r, d), 11) := by rw [e0]; unfold sstart; rw [if_neg (fun g => by have := g.2.2.1; omega)]
    rw [es]
    have FIN := hid (RR.out.done (n, o, r, d))
    have RB := hid RR.out.2.1
    have RA := hid RR.out.1
    have ONE := hid (fr_one (n, o, r, d))
    clear es RR e0
    go_enter Tryd.func26, Tryd.ntmps26
    go_wp2_with (first
      | rw [← EB.out, ← E1.out]
      | refine wpList_load_row rfl 37 (.tmp 6) rfl bx rfl 37 _ (0, 0) _ RA.out Tryd.underlying37 rfl size_f ?_
      | refine wpList_store_row rfl 37 (.tmp 12) _ rfl (bx + 1) (fr (n, o, r, d)) rfl rfl 37 _ RB.out size_f rfl ONE.out ?_)
    try simp only [Act.put, List.setIfInBounds_toArray, List.set_cons_zero, List.set_cons_succ]
    refine bodyPost_ret (results_cell_tmp1 Tryd.results26 _ _ (bx + 1) 37 _ (0, 0) _ rfl FIN.out.2 Tryd.underlying37 rfl size_f) rfl ?_
    exact ⟨rfl, FIN.out.1⟩
  by_cases c1 : 1099511627776 < c
  · have es : sst (n, o, r, d) 1 a b c x = ((n, o, r, d), 11) := by rw [e0]; unfold sstart; rw [if_neg (fun g => by have := g.2.2.2; omega)]
    rw [es]
    have FIN := hid (RR.out.done (n, o, r, d))
    have RB := hid RR.out.2.1
    have RA := hid RR.out.1
    have ONE := hid (fr_one (n, o, r, d))
    clear es RR e0
    go_enter Tryd.func26, Tryd.ntmps26
    go_wp2_with (first
      | rw [← EB.out, ← E1.out]
      | refine wpList_load_row rfl 37 (.tmp 6) rfl bx rfl 37 _ (0, 0) _ RA.out Tryd.underlying37 rfl size_f ?_
      | refine wpList_store_row rfl 37 (.tmp 12) _ rfl (bx + 1) (fr (n, o, r, d)) rfl rfl 37 _ RB.out size_f rfl ONE.out ?_)
    try simp only [Act.put, List.setIfInBounds_toArray, List.set_cons_zero, List.set_cons_succ]
    refine bodyPost_ret (results_cell_tmp1 Tryd.results26 _ _ (bx + 1) 37 _ (0, 0) _ rfl FIN.out.2 Tryd.underlying37 rfl size_f) rfl ?_
    exact ⟨rfl, FIN.out.1⟩
  have ok : isT a ∧ isT b ∧ isT c := ⟨⟨by omega, by omega⟩, ⟨by omega, by omega⟩, by omega, by omega⟩
  by_cases q : a ≤ n
  · have es : sst (n, o, r, d) 1 a b c x = ((n, o, r, d), 24) := by rw [e0]; unfold sstart; rw [if_pos ok, if_pos q]
    rw [es]
    have FIN := hid (RR.out.done (n, o, r, d))
    have RB := hid RR.out.2.1
    have RA := hid RR.out.1
    have ONE := hid (fr_one (n, o, r, d))
    clear es RR e0 ok
    go_enter Tryd.func26, Tryd.ntmps26
    go_wp2_with (first
      | rw [← EB.out, ← E1.out]
      | refine wpList_load_row rfl 37 (.tmp 6) rfl bx rfl 37 _ (0, 0) _ RA.out Tryd.underlying37 rfl size_f ?_
      | refine wpList_store_row rfl 37 (.tmp 12) _ rfl (bx + 1) (fr (n, o, r, d)) rfl rfl 37 _ RB.out size_f rfl ONE.out ?_)
    try simp only [Act.put, List.setIfInBounds_toArray, List.set_cons_zero, List.set_cons_succ]
    refine bodyPost_ret (results_cell_tmp1 Tryd.results26 _ _ (bx + 1) 37 _ (0, 0) _ rfl FIN.out.2 Tryd.underlying37 rfl size_f) rfl ?_
    exact ⟨rfl, FIN.out.1⟩
  · have wn : IntKind.i64.wrap (b + c) = b + c := IntWalk.i64_in _ (by omega)
    have es : sst (n, o, r, d) 1 a b c x = ((a, x, true, b + c), 0) := by rw [e0]; unfold sstart; rw [if_pos ok, if_neg q]
    rw [es]
    have FIN := hid (RR.out.done (a, x, true, b + c))
    have RB := hid RR.out.2.1
    have RA := hid RR.out.1
    have ONE := hid (fr_one (a, x, true, b + c))
    clear es RR e0 ok
    go_enter Tryd.func26, Tryd.ntmps26
    go_wp2_with (first
      | rw [← EB.out, ← E1.out]
      | refine wpList_store_row rfl 37 (.tmp 12) _ rfl (bx + 1) (fr (a, x, true, b + c)) rfl rfl 37 _ RB.out size_f rfl ONE.out ?_)
    try simp only [Act.put, List.setIfInBounds_toArray, List.set_cons_zero, List.set_cons_succ]
    refine bodyPost_ret (results_cell_tmp1 Tryd.results26 _ _ (bx + 1) 37 _ (0, 0) _ rfl FIN.out.2 Tryd.underlying37 rfl size_f) rfl ?_
    exact ⟨rfl, FIN.out.1⟩

set_option maxHeartbeats 4000000 in
theorem rstep2 (n o : Int) (r : Bool) (d k a b c x : Int) (w : World) (hk : k = 2) (h0 : 0 ≤ x) (h1 : x < 18446744073709551616) :
    Calls Tryd.prog 26 #[.agg (fr (n, o, r, d)), .int .i64 k, .int .i64 a, .int .i64 b, .int .i64 c, .int .u64 x] w fun e w' => e = .returned (.tuple #[.agg (fr (sst (n, o, r, d) k a b c x).1), .int .i64 (sst (n, o, r, d) k a b c x).2]) ∧ Ext w w' := by
  subst hk
  obtain ⟨V, bx, e1, eb, RF⟩ := boxes w n o r d
  have E1 := hid e1
  have EB := hid eb
  have y0 := RF.cell 0 (.int .i64 n) rfl
  have y1 := RF.cell 1 (.int .i64 d) rfl
  have y2 := RF.cell 2 (.int .u64 o) rfl
  have y3 := RF.cell 3 (.bool r) rfl
  have g1 := RF.free 1
  have g3 := RF.free 3
  have RR := hid RF
  clear e1 eb RF
  have e0 : sst (n, o, r, d) 2 a b c x = ((secho (n, o, r, d) a x).1, if (secho (n, o, r, d) a x).2 then 1 else 0) := rfl
  have LO := hid (low_any x o V h0 h1)
  cases r with
  | false =>
    have es : sst (n, o, false, d) 2 a b c x = ((n, o, false, d), 0) := by rw [e0]; unfold secho; rw [if_neg (fun g => by cases g.1)]; rfl
    rw [es]
    have FIN := hid (RR.out.done (n, o, false, d))
    have RB := hid RR.out.2.1
    have RA := hid RR.out.1
    have ONE := hid (fr_one (n, o, false, d))
    clear es RR e0 LO
    go_enter Tryd.func26, Tryd.ntmps26
    go_wp2_with (first
      | rw [← EB.out, ← E1.out]
      | refine wpList_load_row rfl 37 (.tmp 6) rfl bx rfl 37 _ (0, 0) _ RA.out Tryd.underlying37 rfl size_f ?_
      | refine wpList_store_row rfl 37 (.tmp 12) _ rfl (bx + 1) (fr (n, o, false, d)) rfl rfl 37 _ RB.out size_f rfl ONE.out ?_)
    try simp only [Act.put, List.setIfInBounds_toArray, List.set_cons_zero, List.set_cons_succ]
    refine bodyPost_ret (results_cell_tmp1 Tryd.results26 _ _ (bx + 1) 37 _ (0, 0) _ rfl FIN.out.2 Tryd.underlying37 rfl size_f) rfl ?_
    exact ⟨rfl, FIN.out.1⟩
  | true =>
    by_cases q : a = n
    · subst q
      by_cases l : isLow x o
      · rw [decide_eq_true l] at LO
        have es : sst (a, o, true, d) 2 a b c x = ((a, o, false, d), 1) := by rw [e0]; unfold secho; rw [if_pos ⟨rfl, rfl, l⟩]; rfl
        rw [es]
        obtain ⟨V2, e2⟩ : ∃ V2, V2 = V.setCell ⟨bx, 3, none⟩ (.bool false) := ⟨_, rfl⟩
        have R2 : Hid (Rf w V2 bx (a, o, false, d) (0, 0, false, 0)) := by show Rf _ _ _ _ _; rw [e2]; exact RR.out.put 3 _ rfl
        have E2 := hid e2
        have FIN := hid (R2.out.done (a, o, false, d))
        have RB := hid R2.out.2.1
        have RA := hid R2.out.1
        have ONE := hid (fr_one (a, o, false, d))
        clear es RR e2 R2 e0 l
        go_enter Tryd.func26, Tryd.ntmps26
        go_wp2_with (first
          | rw [← EB.out, ← E1.out])
        refine LO.out.mono ?_
        rintro e w1 ⟨rfl, ew⟩
        obtain rfl : V = w1 := ew.symm
        go_wp2_with (first
          | rw [← EB.out, ← E1.out]
          | rw [← E2.out]
          | refine wpList_load_row rfl 37 (.tmp 6) rfl bx rfl 37 _ (0, 0) _ RA.out Tryd.underlying37 rfl size_f ?_
          | refine wpList_store_row rfl 37 (.tmp 12) _ rfl (bx + 1) (fr (a, o, false, d)) rfl rfl 37 _ RB.out size_f rfl ONE.out ?_)
        try simp only [Act.put, List.setIfInBounds_toArray, List.set_cons_zero, List.set_cons_succ]
        refine bodyPost_ret (results_cell_tmp1 Tryd.results26 _ _ (bx + 1) 37 _ (0, 0) _ rfl FIN.out.2 Tryd.underlying37 rfl size_f) rfl ?_
        exact ⟨rfl, FIN.out.1⟩
      · rw [decide_eq_false l] at LO
        have es : sst (a, o, true, d) 2 a b c x = ((a, o, true, d), 0) := by rw [e0]; unfold secho; rw [if_neg (fun g => l g.2.2)]; rfl
        rw [es]
        have FIN := hid (RR.out.done (a, o, true, d))
        have RB := hid RR.out.2.1
        have RA := hid RR.out.1
        have ONE := hid (fr_one (a, o, true, d))
        clear es RR e0 l
        go_enter Tryd.func26, Tryd.ntmps26
        go_wp2_with (first
          | rw [← EB.out, ← E1.out])
        refine LO.out.mono ?_
        rintro e w1 ⟨rfl, ew⟩
        obtain rfl : V = w1 := ew.symm
        go_wp2_with (first
          | rw [← EB.out, ← E1.out]
          | refine wpList_load_row rfl 37 (.tmp 6) rfl bx rfl 37 _ (0, 0) _ RA.out Tryd.underlying37 rfl size_f ?_
          | refine wpList_store_row rfl 37 (.tmp 12) _ rfl (bx + 1) (fr (a, o, true, d)) rfl rfl 37 _ RB.out size_f rfl ONE.out ?_)
        try simp only [Act.put, List.setIfInBounds_toArray, List.set_cons_zero, List.set_cons_succ]
        refine bodyPost_ret (results_cell_tmp1 Tryd.results26 _ _ (bx + 1) 37 _ (0, 0) _ rfl FIN.out.2 Tryd.underlying37 rfl size_f) rfl ?_
        exact ⟨rfl, FIN.out.1⟩
    · have ne : (a == n) = false := by simp; omega
      have ne2 : (a != n) = true := by simp; omega
      have es : sst (n, o, true, d) 2 a b c x = ((n, o, true, d), 0) := by rw [e0]; unfold secho; rw [if_neg (fun g => q g.2.1)]; rfl
      rw [es]
      have FIN := hid (RR.out.done (n, o, true, d))
      have RB := hid RR.out.2.1
      have RA := hid RR.out.1
      have ONE := hid (fr_one (n, o, true, d))
      clear es RR e0 LO
      go_enter Tryd.func26, Tryd.ntmps26
      go_wp2_with (first
        | rw [← EB.out, ← E1.out]
        | refine wpList_load_row rfl 37 (.tmp 6) rfl bx rfl 37 _ (0, 0) _ RA.out Tryd.underlying37 rfl size_f ?_
        | refine wpList_store_row rfl 37 (.tmp 12) _ rfl (bx + 1) (fr (n, o, true, d)) rfl rfl 37 _ RB.out size_f rfl ONE.out ?_)
      try simp only [Act.put, List.setIfInBounds_toArray, List.set_cons_zero, List.set_cons_succ]
      refine bodyPost_ret (results_cell_tmp1 Tryd.results26 _ _ (bx + 1) 37 _ (0, 0) _ rfl FIN.out.2 Tryd.underlying37 rfl size_f) rfl ?_
      exact ⟨rfl, FIN.out.1⟩

set_option maxHeartbeats 4000000 in
theorem rstep3 (n o : Int) (r : Bool) (d k a b c x : Int) (w : World) (hk : k = 3) (h0 : 0 ≤ x) (h1 : x < 18446744073709551616) :
    Calls Tryd.prog 26 #[.agg (fr (n, o, r, d)), .int .i64 k, .int .i64 a, .int .i64 b, .int .i64 c, .int .u64 x] w fun e w' => e = .returned (.tuple #[.agg (fr (sst (n, o, r, d) k a b c x).1), .int .i64 (sst (n, o, r, d) k a b c x).2]) ∧ Ext w w' := by
  subst hk
  obtain ⟨V, bx, e1, eb, RF⟩ := boxes w n o r d
  have E1 := hid e1
  have EB := hid eb
  have y0 := RF.cell 0 (.int .i64 n) rfl
  have y1 := RF.cell 1 (.int .i64 d) rfl
  have y2 := RF.cell 2 (.int .u64 o) rfl
  have y3 := RF.cell 3 (.bool r) rfl
  have g1 := RF.free 1
  have g3 := RF.free 3
  have RR := hid RF
  clear e1 eb RF
  have e0 : sst (n, o, r, d) 3 a b c x = ((sfire (n, o, r, d) a).1, if (sfire (n, o, r, d) a).2 then 1 else 0) := rfl
  cases r with
  | false =>
    have es : sst (n, o, false, d) 3 a b c x = ((n, o, false, d), 0) := by rw [e0]; unfold sfire; rw [if_neg (fun g => by cases g.1)]; rfl
    rw [es]
    have FIN := hid (RR.out.done (n, o, false, d))
    have RB := hid RR.out.2.1
    have RA := hid RR.out.1
    have ONE := hid (fr_one (n, o, false, d))
    clear es RR e0
    go_enter Tryd.func26, Tryd.ntmps26
    go_wp2_with (first
      | rw [← EB.out, ← E1.out]
      | refine wpList_load_row rfl 37 (.tmp 6) rfl bx rfl 37 _ (0, 0) _ RA.out Tryd.underlying37 rfl size_f ?_
      | refine wpList_store_row rfl 37 (.tmp 12) _ rfl (bx + 1) (fr (n, o, false, d)) rfl rfl 37 _ RB.out size_f rfl ONE.out ?_)
    try simp only [Act.put, List.setIfInBounds_toArray, List.set_cons_zero, List.set_cons_succ]
    refine bodyPost_ret (results_cell_tmp1 Tryd.results26 _ _ (bx + 1) 37 _ (0, 0) _ rfl FIN.out.2 Tryd.underlying37 rfl size_f) rfl ?_
    exact ⟨rfl, FIN.out.1⟩
  | true =>
    by_cases q : d ≤ a
    · have es : sst (n, o, true, d) 3 a b c x = ((n, o, false, d), 1) := by rw [e0]; unfold sfire; rw [if_pos ⟨rfl, q⟩]; rfl
      rw [es]
      obtain ⟨V2, e2⟩ : ∃ V2, V2 = V.setCell ⟨bx, 3, none⟩ (.bool false) := ⟨_, rfl⟩
      have R2 : Hid (Rf w V2 bx (n, o, false, d) (0, 0, false, 0)) := by show Rf _ _ _ _ _; rw [e2]; exact RR.out.put 3 _ rfl
      have E2 := hid e2
      have FIN := hid (R2.out.done (n, o, false, d))
      have RB := hid R2.out.2.1
      have RA := hid R2.out.1
      have ONE := hid (fr_one (n, o, false, d))
      clear es RR e2 R2 e0
      go_enter Tryd.func26, Tryd.ntmps26
      go_wp2_with (first
        | rw [← EB.out, ← E1.out]
        | rw [← E2.out]
        | refine wpList_load_row rfl 37 (.tmp 6) rfl bx rfl 37 _ (0, 0) _ RA.out Tryd.underlying37 rfl size_f ?_
        | refine wpList_store_row rfl 37 (.tmp 12) _ rfl (bx + 1) (fr (n, o, false, d)) rfl rfl 37 _ RB.out size_f rfl ONE.out ?_)
      try simp only [Act.put, List.setIfInBounds_toArray, List.set_cons_zero, List.set_cons_succ]
      refine bodyPost_ret (results_cell_tmp1 Tryd.results26 _ _ (bx + 1) 37 _ (0, 0) _ rfl FIN.out.2 Tryd.underlying37 rfl size_f) rfl ?_
      exact ⟨rfl, FIN.out.1⟩
    · have es : sst (n, o, true, d) 3 a b c x = ((n, o, true, d), 0) := by rw [e0]; unfold sfire; rw [if_neg (fun g => q g.2)]; rfl
      rw [es]
      have FIN := hid (RR.out.done (n, o, true, d))
      have RB := hid RR.out.2.1
      have RA := hid RR.out.1
      have ONE := hid (fr_one (n, o, true, d))
      clear es RR e0
      go_enter Tryd.func26, Tryd.ntmps26
      go_wp2_with (first
        | rw [← EB.out, ← E1.out]
        | refine wpList_load_row rfl 37 (.tmp 6) rfl bx rfl 37 _ (0, 0) _ RA.out Tryd.underlying37 rfl size_f ?_
        | refine wpList_store_row rfl 37 (.tmp 12) _ rfl (bx + 1) (fr (n, o, true, d)) rfl rfl 37 _ RB.out size_f rfl ONE.out ?_)
      try simp only [Act.put, List.setIfInBounds_toArray, List.set_cons_zero, List.set_cons_succ]
      refine bodyPost_ret (results_cell_tmp1 Tryd.results26 _ _ (bx + 1) 37 _ (0, 0) _ rfl FIN.out.2 Tryd.underlying37 rfl size_f) rfl ?_
      exact ⟨rfl, FIN.out.1⟩

set_option maxHeartbeats 4000000 in
theorem rstep4 (n o : Int) (r : Bool) (d k a b c x : Int) (w : World) (hk : k = 4) (h0 : 0 ≤ x) (h1 : x < 18446744073709551616) :
    Calls Tryd.prog 26 #[.agg (fr (n, o, r, d)), .int .i64 k, .int .i64 a, .int .i64 b, .int .i64 c, .int .u64 x] w fun e w' => e = .returned (.tuple #[.agg (fr (sst (n, o, r, d) k a b c x).1), .int .i64 (sst (n, o, r, d) k a b c x).2]) ∧ Ext w w' := by
  subst hk
  obtain ⟨V, bx, e1, eb, RF⟩ := boxes w n o r d
  have E1 := hid e1
  have EB := hid eb
  have y0 := RF.cell 0 (.int .i64 n) rfl
  have y1 := RF.cell 1 (.int .i64 d) rfl
  have y2 := RF.cell 2 (.int .u64 o) rfl
  have y3 := RF.cell 3 (.bool r) rfl
  have g1 := RF.free 1
  have g3 := RF.free 3
  have RR := hid RF
  clear e1 eb RF
  have e0 : sst (n, o, r, d) 4 a b c x = surge (n, o, r, d) a := rfl
  by_cases a1 : a < 0
  · have es : sst (n, o, r, d) 4 a b c x = ((n, o, r, d), 11) := by rw [e0]; unfold surge; rw [if_neg (fun g => by have := g.1; omega)]
    rw [es]
    have FIN := hid (RR.out.done (n, o, r, d))
    have RB := hid RR.out.2.1
    have RA := hid RR.out.1
    have ONE := hid (fr_one (n, o, r, d))
    clear es RR e0
    go_enter Tryd.func26, Tryd.ntmps26
    go_wp2_with (first
      | rw [← EB.out, ← E1.out]
      | refine wpList_load_row rfl 37 (.tmp 6) rfl bx rfl 37 _ (0, 0) _ RA.out Tryd.underlying37 rfl size_f ?_
      | refine wpList_store_row rfl 37 (.tmp 12) _ rfl (bx + 1) (fr (n, o, r, d)) rfl rfl 37 _ RB.out size_f rfl ONE.out ?_)
    try simp only [Act.put, List.setIfInBounds_toArray, List.set_cons_zero, List.set_cons_succ]
    refine bodyPost_ret (results_cell_tmp1 Tryd.results26 _ _ (bx + 1) 37 _ (0, 0) _ rfl FIN.out.2 Tryd.underlying37 rfl size_f) rfl ?_
    exact ⟨rfl, FIN.out.1⟩
  by_cases a2 : 1099511627776 < a
  · have es : sst (n, o, r, d) 4 a b c x = ((n, o, r, d), 11) := by rw [e0]; unfold surge; rw [if_neg (fun g => by have := g.2; omega)]
    rw [es]
    have FIN := hid (RR.out.done (n, o, r, d))
    have RB := hid RR.out.2.1
    have RA := hid RR.out.1
    have ONE := hid (fr_one (n, o, r, d))
    clear es RR e0
    go_enter Tryd.func26, Tryd.ntmps26
    go_wp2_with (first
      | rw [← EB.out, ← E1.out]
      | refine wpList_load_row rfl 37 (.tmp 6) rfl bx rfl 37 _ (0, 0) _ RA.out Tryd.underlying37 rfl size_f ?_
      | refine wpList_store_row rfl 37 (.tmp 12) _ rfl (bx + 1) (fr (n, o, r, d)) rfl rfl 37 _ RB.out size_f rfl ONE.out ?_)
    try simp only [Act.put, List.setIfInBounds_toArray, List.set_cons_zero, List.set_cons_succ]
    refine bodyPost_ret (results_cell_tmp1 Tryd.results26 _ _ (bx + 1) 37 _ (0, 0) _ rfl FIN.out.2 Tryd.underlying37 rfl size_f) rfl ?_
    exact ⟨rfl, FIN.out.1⟩
  have ok : isT a := ⟨by omega, by omega⟩
  cases r with
  | false =>
    have es : sst (n, o, false, d) 4 a b c x = ((n, o, false, d), 24) := by rw [e0]; unfold surge; rw [if_pos ok, if_neg (fun g => by cases g)]
    rw [es]
    have FIN := hid (RR.out.done (n, o, false, d))
    have RB := hid RR.out.2.1
    have RA := hid RR.out.1
    have ONE := hid (fr_one (n, o, false, d))
    clear es RR e0 ok
    go_enter Tryd.func26, Tryd.ntmps26
    go_wp2_with (first
      | rw [← EB.out, ← E1.out]
      | refine wpList_load_row rfl 37 (.tmp 6) rfl bx rfl 37 _ (0, 0) _ RA.out Tryd.underlying37 rfl size_f ?_
      | refine wpList_store_row rfl 37 (.tmp 12) _ rfl (bx + 1) (fr (n, o, false, d)) rfl rfl 37 _ RB.out size_f rfl ONE.out ?_)
    try simp only [Act.put, List.setIfInBounds_toArray, List.set_cons_zero, List.set_cons_succ]
    refine bodyPost_ret (results_cell_tmp1 Tryd.results26 _ _ (bx + 1) 37 _ (0, 0) _ rfl FIN.out.2 Tryd.underlying37 rfl size_f) rfl ?_
    exact ⟨rfl, FIN.out.1⟩
  | true =>
    by_cases q : a < d
    · have es : sst (n, o, true, d) 4 a b c x = ((n, o, true, a), 0) := by rw [e0]; unfold surge; rw [if_pos ok, if_pos rfl, if_pos q]
      rw [es]
      obtain ⟨V2, e2⟩ : ∃ V2, V2 = V.setCell ⟨bx, 1, none⟩ (.int .i64 a) := ⟨_, rfl⟩
      have R2 : Hid (Rf w V2 bx (n, o, true, a) (0, 0, false, 0)) := by show Rf _ _ _ _ _; rw [e2]; exact RR.out.put 1 _ rfl
      have E2 := hid e2
      have FIN := hid (R2.out.done (n, o, true, a))
      have RB := hid R2.out.2.1
      have RA := hid R2.out.1
      have ONE := hid (fr_one (n, o, true, a))
      clear es RR e2 R2 e0 ok
      go_enter Tryd.func26, Tryd.ntmps26
      go_wp2_with (first
        | rw [← EB.out, ← E1.out]
        | rw [← E2.out]
        | refine wpList_load_row rfl 37 (.tmp 6) rfl bx rfl 37 _ (0, 0) _ RA.out Tryd.underlying37 rfl size_f ?_
        | refine wpList_store_row rfl 37 (.tmp 12) _ rfl (bx + 1) (fr (n, o, true, a)) rfl rfl 37 _ RB.out size_f rfl ONE.out ?_)
      try simp only [Act.put, List.setIfInBounds_toArray, List.set_cons_zero, List.set_cons_succ]
      refine bodyPost_ret (results_cell_tmp1 Tryd.results26 _ _ (bx + 1) 37 _ (0, 0) _ rfl FIN.out.2 Tryd.underlying37 rfl size_f) rfl ?_
      exact ⟨rfl, FIN.out.1⟩
    · have es : sst (n, o, true, d) 4 a b c x = ((n, o, true, d), 0) := by rw [e0]; unfold surge; rw [if_pos ok, if_pos rfl, if_neg q]
      rw [es]
      have FIN := hid (RR.out.done (n, o, true, d))
      have RB := hid RR.out.2.1
      have RA := hid RR.out.1
      have ONE := hid (fr_one (n, o, true, d))
      clear es RR e0 ok
      go_enter Tryd.func26, Tryd.ntmps26
      go_wp2_with (first
        | rw [← EB.out, ← E1.out]
        | refine wpList_load_row rfl 37 (.tmp 6) rfl bx rfl 37 _ (0, 0) _ RA.out Tryd.underlying37 rfl size_f ?_
        | refine wpList_store_row rfl 37 (.tmp 12) _ rfl (bx + 1) (fr (n, o, true, d)) rfl rfl 37 _ RB.out size_f rfl ONE.out ?_)
      try simp only [Act.put, List.setIfInBounds_toArray, List.set_cons_zero, List.set_cons_succ]
      refine bodyPost_ret (results_cell_tmp1 Tryd.results26 _ _ (bx + 1) 37 _ (0, 0) _ rfl FIN.out.2 Tryd.underlying37 rfl size_f) rfl ?_
      exact ⟨rfl, FIN.out.1⟩

theorem rstep_any (s : SS) (k a b c x : Int) (w : World) (k0 : 1 ≤ k) (k1 : k ≤ 4) (h0 : 0 ≤ x) (h1 : x < 18446744073709551616) :
    Calls Tryd.prog 26 #[.agg (fr s), .int .i64 k, .int .i64 a, .int .i64 b, .int .i64 c, .int .u64 x] w fun e w' => e = .returned (.tuple #[.agg (fr (sst s k a b c x).1), .int .i64 (sst s k a b c x).2]) ∧ Ext w w' := by
  obtain ⟨n, o, r, d⟩ := s
  have hk : k = 1 ∨ k = 2 ∨ k = 3 ∨ k = 4 := by omega
  rcases hk with h | h | h | h
  · exact rstep1 n o r d k a b c x w h h0 h1
  · exact rstep2 n o r d k a b c x w h h0 h1
  · exact rstep3 n o r d k a b c x w h h0 h1
  · exact rstep4 n o r d k a b c x w h h0 h1
end Go.Proofs.YtcjohgfmdnimjaaDoor.Sup

/-
  The walk of the statements' step: one call of pipe and list.
-/
import Derived.Test.YtlpdffjbdekjeaaPipTake
import Derived.Test.YtlpdffjbdekjeaaPipPut
namespace Go.Proofs.Ytlpdffjbdekjeaa
set_option linter.unusedVariables false
set_option maxRecDepth 100000
open Go.RowKit Go.Lib

/-- two operations that make memory, either of which may come up; both runs known -/
theorem eitherE {P : Program} {md : Region.Mode} {ops : Array Oper} {Q : Exit → Act → World → Prop} {S : World → Prop} (i d j d' : Nat) {oi oj : Oper} {v u : Value} {fuel : Nat} {listed : Array Bool} {a : Act} {w wi wj : World} (hi : ops[i]? = some oi) (hd : oi.dst = some d) (hj : ops[j]? = some oj) (hd' : oj.dst = some d')
    (hr : Region.ready md ops listed = [i, j]) (hw : Region.wanted oi (yielded ops a.tmps) = true) (hw' : Region.wanted oj (yielded ops a.tmps) = true)
    (he : (execOp a.eval oi).run P w = .ok (.value v) wi) (he' : (execOp a.eval oj).run P w = .ok (.value u) wj) (hS : S wi) (hS' : S wj)
    (h : wpAnyH P md ops Q S fuel (listed.setIfInBounds i true) (a.put (some d) v) wi)
    (h' : wpAnyH P md ops Q S fuel (listed.setIfInBounds j true) (a.put (some d') u) wj) : wpAnyH P md ops Q S (fuel + 1) listed a w := by
  refine wpAnyH_all hr (by simp) (fun q hq => ?_)
  rcases (show q = i ∨ q = j by simpa using hq) with rfl | rfl
  · unfold wpOp
    simp only [hi, hw, if_true, Oper.wp, he, Oper.upon]
    left
    rw [hd]
    exact ⟨hS, h⟩
  · unfold wpOp
    simp only [hj, hw', if_true, Oper.wp, he', Oper.upon]
    left
    rw [hd']
    exact ⟨hS', h'⟩

/-- a list put behind an empty row -/
theorem append_list {K : Nat → Prop} (w0 w : World) (e : Nat) (xv : Value) (x : Ms) (hx : RowK K w xv 2 (rcells x)) (he : w.heap[e]? = some (.cells #[] 52 (0, 0))) (hl : x.length ≤ 1000) (hw0 : w0.heap.size ≤ e) (X : Ext w0 w) :
    ∃ v' w', (Builtin.append_ #[29, 29] 29 #[.slice (some ⟨e, 0, none⟩) 0 0, xv]).run Try.prog w = .ok v' w' ∧ OwnR w' v' x ∧ (∀ k, v'.ownBlock = some k → w0.heap.size ≤ k) ∧ Ext w0 w' ∧ ∀ f, f < w.heap.size → f ≠ e → w'.heap[f]? = w.heap[f]? := by
  have o0 : OwnR w (.slice (some ⟨e, 0, none⟩) 0 0) [] := own_of_rowR (Y := []) rfl (by simpa [rcells] using he) (Nat.le_refl _) (Nat.zero_le _) rfl
  obtain ⟨i0, hi, hz0, hz1, hz2⟩ := info_parts info_ref
  obtain ⟨ao, n, c, rfl, q1, q2, q3, q4⟩ := hx
  rw [rcells_length] at q1
  obtain rfl : x.length = n := by omega
  rcases Nat.eq_zero_or_pos x.length with h0 | h0
  · have ex : x = [] := List.eq_nil_of_length_eq_zero h0
    subst ex
    refine ⟨_, w, ?_, o0, fun k hk => ?_, X, fun _ _ _ => rfl⟩
    · cases ao <;> simp [Builtin.append_, run_underlying Try.underlying29, sizeOf, typeInfo, hi, Builtin.lenOf, Builtin.firstCells, loadCells, loadCellsFrom, storeCells]
    · simp only [Value.ownBlock, Option.some.injEq] at hk
      omega
  · obtain ⟨g, o, rfl, _, hc⟩ := q4 h0
    obtain ⟨v', w', r, ow, gb, hb⟩ := run_append_own (P := Try.prog) w w0.heap.size 29 29 52 i0 (.agg #[.int .i64 0, .string ⟨#[]⟩]) 2 24 Try.underlying29 hi hz0 hz1 hz2 rfl (by decide) (.slice (some ⟨e, 0, none⟩) 0 0) 0 [] ⟨rfl, .inr ⟨e, 0, _, rfl, hw0, he, Nat.le_refl _, Nat.zero_le _, rfl, rfl⟩⟩ ⟨g, o, none⟩ x.length c (rcells x) (by rw [rcells_length]) (fun j u hu => by rw [Addr.add_mid]; exact hc j u hu) (rcells_one x) (by unfold maxLen; omega) (by omega) X.size
    rw [Nat.zero_add, List.nil_append] at ow
    refine ⟨v', w', r, ⟨ow.1, ?_⟩, fun k hk => (World.ownsRow.lt ow k hk).1, X.rowed gb (fun k hk => by simp only [Value.ownBlock, Option.some.injEq] at hk; omega), fun f hf hne => gb.block f hf (fun q => hne (by simp only [Value.ownBlock, Option.some.injEq] at q; exact q))⟩
    rcases ow.2 with hn | ⟨g2, cap, cur, e2, hb2, rest⟩
    · exact .inl hn
    · exact .inr ⟨g2, cap, cur, e2, Nat.zero_le _, rest⟩
/-- one more put behind it -/
theorem append_more (w0 w : World) (v : Value) (x : Ms) (f : Nat) (d : Int) (t : List UInt8) (hv : OwnR w v x) (hn : ∀ k, v.ownBlock = some k → w0.heap.size ≤ k) (hf : w.heap[f]? = some (.cells #[.int .i64 d, .string (str t)] 52 (0, 0))) (hl : x.length ≤ 1000) (X : Ext w0 w) :
    ∃ v' w', (Builtin.append_ #[29, 29] 29 #[v, .slice (some ⟨f, 0, none⟩) 1 1]).run Try.prog w = .ok v' w' ∧ OwnR w' v' (x ++ [(d, t)]) ∧ (∀ k, v'.ownBlock = some k → w0.heap.size ≤ k) ∧ Ext w0 w' := by
  obtain ⟨v', w', r, o, gb, hb⟩ := append_refs w v x hv f 1 1 [.int .i64 d, .string (str t)] [(d, t)] hf rfl rfl (by simp; omega)
  refine ⟨v', w', r, o, fun k e => ?_, X.rowed gb hn⟩
  rcases hb with q | q
  · rw [q] at e; exact hn k e
  · rw [q] at e
    simp only [Option.some.injEq] at e
    have := X.size
    omega

/-- how a step leaves pipe and list -/
def StepPost (K : Nat → Prop) (w : World) (b : Nat) (room : Int) (e : Ending) (w' : World) : Prop :=
  ∃ xv' x' K', e = .returned (.tuple #[xv', .bool true]) ∧ (∀ i, K i → K' i) ∧ PipK K' w' b room (ord x') ∧ RowK K' w' xv' 2 (rcells x') ∧ Kept K w w'

set_option maxHeartbeats 1000000 in
theorem step_bad (K : Nat → Prop) (b : Nat) (room at_ N : Int) (x : Ms) (xv tv : Value) (t : List UInt8) (w : World) (hw : PipK K w b room (ord x)) (hx : RowK K w xv 2 (rcells x)) (ht : Bytes w tv t) (hp : Plain tv) (h : at_ < 0 ∨ 2199023255552 < at_ ∨ 320 < t.length) :
    Calls Try.prog 10 #[.pointer (some ⟨b, 0, none⟩), xv, .int .i64 room, .agg #[.int .i64 1, .int .i64 at_, .int .i64 N, tv]] w fun e w' =>
      StepPost K w b room e w' := by
  have PB := put_bad b at_ tv t
  obtain ⟨ao, cm, em, m1, m2, _⟩ := hx.view
  subst em
  unfold maxLen at m2
  obtain ⟨W, eW⟩ : ∃ W, W = w.alloc (.cells #[.int .i64 1, .int .i64 at_, .int .i64 N, tv] 32) := ⟨_, rfl⟩
  have XW : Ext w W := by rw [eW]; exact (Ext.refl w).alloc _
  have bw : W.heap[w.heap.size]? = some (.cells #[.int .i64 1, .int .i64 at_, .int .i64 N, tv] 32 (0, 0)) := by rw [eW]; exact heap_alloc_new w _
  have d1 : W.cell? ⟨w.heap.size, 1, none⟩ = some (.int .i64 at_) := by rw [cell_of_row _ _ 1 _ _ _ bw]; rfl
  have d3 : W.cell? ⟨w.heap.size, 3, none⟩ = some tv := by rw [cell_of_row _ _ 3 _ _ _ bw]; rfl
  have lx : x.length ≤ 256 := by
    have h1 := hw.1
    rw [ord_length] at h1
    omega
  have PB2 := hid (PB W (ht.ext XW) h)
  obtain ⟨ta, tc, et, t1, t2, _⟩ := ht
  have ET := hid et
  unfold maxLen at t2
  have FIN : Hid (PipK K W b room (ord x) ∧ RowK K W (.slice ao x.length cm) 2 (rcells x) ∧ Kept K w W) := ⟨hw.ext XW, hx.kept (Kept.of_ext XW), Kept.of_ext XW⟩
  have EW := hid eW
  clear hw hx XW bw PB
  subst et
  generalize t.length = n at *
  generalize x.length = m at *
  by_cases h1 : at_ < 0
  · clear h
    rw [eW] at d1 d3
    clear eW
    go_enter Try.func10, Try.ntmps10
    go_wp2_with fail
    rw [← EW.out]
    refine PB2.out.mono ?_
    rintro e w1 ⟨rfl, rfl⟩
    clear PB2
    go_wp2_with fail
    go_ret2
    exact ⟨_, x, K, rfl, fun i h => h, FIN.out⟩
  · by_cases h2 : 2199023255552 < at_
    · clear h
      rw [eW] at d1 d3
      clear eW
      go_enter Try.func10, Try.ntmps10
      go_wp2_with fail
      rw [← EW.out]
      refine PB2.out.mono ?_
      rintro e w1 ⟨rfl, rfl⟩
      clear PB2
      go_wp2_with fail
      go_ret2
      exact ⟨_, x, K, rfl, fun i h => h, FIN.out⟩
    · have h3 : (320 : Int) < (n : Int) := by omega
      clear h
      rw [eW] at d1 d3
      clear eW
      go_enter Try.func10, Try.ntmps10
      go_wp2_with fail
      rw [← EW.out]
      refine PB2.out.mono ?_
      rintro e w1 ⟨rfl, rfl⟩
      clear PB2
      go_wp2_with fail
      go_ret2
      exact ⟨_, x, K, rfl, fun i h => h, FIN.out⟩

set_option maxHeartbeats 1000000 in
theorem step_full (K : Nat → Prop) (b : Nat) (room at_ N : Int) (x : Ms) (xv tv : Value) (t : List UInt8) (w : World) (hw : PipK K w b room (ord x)) (hx : RowK K w xv 2 (rcells x)) (ht : Bytes w tv t) (hp : Plain tv) (h1 : ¬ at_ < 0) (h2 : ¬ 2199023255552 < at_) (h3 : t.length ≤ 320) (hf : (x.length : Int) = room) :
    Calls Try.prog 10 #[.pointer (some ⟨b, 0, none⟩), xv, .int .i64 room, .agg #[.int .i64 1, .int .i64 at_, .int .i64 N, tv]] w fun e w' =>
      StepPost K w b room e w' := by
  obtain ⟨ao, cm, em, m1, m2, _⟩ := hx.view
  subst em
  unfold maxLen at m2
  obtain ⟨W, eW⟩ : ∃ W, W = w.alloc (.cells #[.int .i64 1, .int .i64 at_, .int .i64 N, tv] 32) := ⟨_, rfl⟩
  have XW : Ext w W := by rw [eW]; exact (Ext.refl w).alloc _
  have bw : W.heap[w.heap.size]? = some (.cells #[.int .i64 1, .int .i64 at_, .int .i64 N, tv] 32 (0, 0)) := by rw [eW]; exact heap_alloc_new w _
  have d1 : W.cell? ⟨w.heap.size, 1, none⟩ = some (.int .i64 at_) := by rw [cell_of_row _ _ 1 _ _ _ bw]; rfl
  have d3 : W.cell? ⟨w.heap.size, 3, none⟩ = some tv := by rw [cell_of_row _ _ 3 _ _ _ bw]; rfl
  have lx : x.length ≤ 256 := by
    have h1 := hw.1
    rw [ord_length] at h1
    omega
  have PB2 := hid (put_full K b room at_ (ord x) tv t W (hw.ext XW) (ht.ext XW) h1 h2 h3 (by rw [ord_length]; exact hf))
  obtain ⟨ta, tc, et, t1, t2, _⟩ := ht
  have ET := hid et
  unfold maxLen at t2
  have FIN : Hid (∀ V, Ext W V → PipK K V b room (ord x) ∧ RowK K V (.slice ao x.length cm) 2 (rcells x) ∧ Kept K w V) := fun V hV => ⟨(hw.ext XW).ext hV, (hx.kept (Kept.of_ext XW)).kept (Kept.of_ext hV), Kept.of_ext (XW.trans hV)⟩
  have EW := hid eW
  have hf' : room ≤ (x.length : Int) := by omega
  have h4 : ¬ (320 : Int) < (t.length : Int) := by omega
  rw [eW] at d1 d3
  clear hw hx XW bw hf eW h3
  subst et
  generalize t.length = n at *
  generalize x.length = m at *
  go_enter Try.func10, Try.ntmps10
  go_wp2_with fail
  rw [← EW.out]
  refine PB2.out.mono ?_
  rintro e w1 ⟨rfl, x1⟩
  have F2 := hid (FIN.out w1 x1)
  clear PB2 FIN x1
  go_wp2_with fail
  go_ret2
  exact ⟨_, x, K, rfl, fun i h => h, F2.out⟩

set_option maxHeartbeats 1000000 in
theorem step_clear (K : Nat → Prop) (b : Nat) (room at_ N : Int) (x : Ms) (xv tv : Value) (t : List UInt8) (w : World) (hw : PipK K w b room (ord x)) (hx : RowK K w xv 2 (rcells x)) (ht : Bytes w tv t) (hp : Plain tv) :
    Calls Try.prog 10 #[.pointer (some ⟨b, 0, none⟩), xv, .int .i64 room, .agg #[.int .i64 3, .int .i64 at_, .int .i64 N, tv]] w fun e w' =>
      StepPost K w b room e w' := by
  obtain ⟨ao, cm, em, m1, m2, _⟩ := hx.view
  subst em
  unfold maxLen at m2
  obtain ⟨W, eW⟩ : ∃ W, W = w.alloc (.cells #[.int .i64 3, .int .i64 at_, .int .i64 N, tv] 32) := ⟨_, rfl⟩
  have XW : Ext w W := by rw [eW]; exact (Ext.refl w).alloc _
  have bw : W.heap[w.heap.size]? = some (.cells #[.int .i64 3, .int .i64 at_, .int .i64 N, tv] 32 (0, 0)) := by rw [eW]; exact heap_alloc_new w _
  have d1 : W.cell? ⟨w.heap.size, 1, none⟩ = some (.int .i64 at_) := by rw [cell_of_row _ _ 1 _ _ _ bw]; rfl
  have d3 : W.cell? ⟨w.heap.size, 3, none⟩ = some tv := by rw [cell_of_row _ _ 3 _ _ _ bw]; rfl
  have d0 : W.cell? ⟨w.heap.size, 0, none⟩ = some (.int .i64 3) := by rw [cell_of_row _ _ 0 _ _ _ bw]; rfl
  have lx : x.length ≤ 256 := by
    have h1 := hw.1
    rw [ord_length] at h1
    omega
  obtain ⟨hr, v, ml, hu, eml⟩ := hw
  have ln : ml.length = x.length := by rw [← ord_length x, ← eml, List.length_map]
  have C := clear_any K b room v ml W (hu.ext XW) (by omega)
  rw [ln] at C
  have CC := hid C
  obtain ⟨ta, tc, et, t1, t2, _⟩ := ht
  have ET := hid et
  unfold maxLen at t2
  have FIN : Hid (∀ V v', PipU K V b room v' [] → Kept K W V → PipK K V b room (ord []) ∧ RowK K V (.slice none 0 0) 2 (rcells []) ∧ Kept K w V) := fun V v' hU hV => ⟨⟨⟨hr.1, hr.2.1, List.Pairwise.nil, by have := hr.1; simp [ord_nil]; omega⟩, v', [], hU, rfl⟩, RowK.nil _ _ _, (Kept.of_ext XW).trans hV⟩
  have EW := hid eW
  rw [eW] at d0 d1 d3
  clear hu hx XW bw eW hr eml ln C
  subst et
  generalize t.length = n at *
  generalize x.length = m at *
  go_enter Try.func10, Try.ntmps10
  go_wp2_with fail
  rw [← EW.out]
  refine CC.out.mono ?_
  rintro e w1 ⟨rfl, v', hU, hK⟩
  have F2 := hid (FIN.out w1 v' hU hK)
  clear CC FIN hU hK
  go_wp2_with fail
  go_ret2
  exact ⟨_, [], K, rfl, fun i h => h, F2.out⟩

set_option maxHeartbeats 1000000 in
theorem step_take (K : Nat → Prop) (b : Nat) (room at_ N : Int) (x : Ms) (xv tv : Value) (t : List UInt8) (w : World) (hw : PipK K w b room (ord x)) (hx : RowK K w xv 2 (rcells x)) (ht : Bytes w tv t) (hp : Plain tv) :
    Calls Try.prog 10 #[.pointer (some ⟨b, 0, none⟩), xv, .int .i64 room, .agg #[.int .i64 2, .int .i64 at_, .int .i64 N, tv]] w fun e w' =>
      StepPost K w b room e w' := by
  obtain ⟨ao, cm, em, m1, m2, _⟩ := hx.view
  subst em
  unfold maxLen at m2
  obtain ⟨W, eW⟩ : ∃ W, W = w.alloc (.cells #[.int .i64 2, .int .i64 at_, .int .i64 N, tv] 32) := ⟨_, rfl⟩
  have XW : Ext w W := by rw [eW]; exact (Ext.refl w).alloc _
  have bw : W.heap[w.heap.size]? = some (.cells #[.int .i64 2, .int .i64 at_, .int .i64 N, tv] 32 (0, 0)) := by rw [eW]; exact heap_alloc_new w _
  have d1 : W.cell? ⟨w.heap.size, 1, none⟩ = some (.int .i64 at_) := by rw [cell_of_row _ _ 1 _ _ _ bw]; rfl
  have d3 : W.cell? ⟨w.heap.size, 3, none⟩ = some tv := by rw [cell_of_row _ _ 3 _ _ _ bw]; rfl
  have d0 : W.cell? ⟨w.heap.size, 0, none⟩ = some (.int .i64 2) := by rw [cell_of_row _ _ 0 _ _ _ bw]; rfl
  have d2 : W.cell? ⟨w.heap.size, 2, none⟩ = some (.int .i64 N) := by rw [cell_of_row _ _ 2 _ _ _ bw]; rfl
  have lx : x.length ≤ 256 := by
    have h1 := hw.1
    rw [ord_length] at h1
    omega
  obtain ⟨ta, tc, et, t1, t2, _⟩ := ht
  have TK := hid (lawTake_any K b room 2 at_ N x _ tv W (hw.ext XW) (hx.kept (Kept.of_ext XW)) ⟨_, _, _, et⟩)
  have ET := hid et
  unfold maxLen at t2
  have XX := hid XW
  have EW := hid eW
  rw [eW] at d0 d1 d2 d3
  clear hw hx XW bw eW
  subst et
  generalize t.length = n at *
  generalize hm : x.length = m at *
  clear hm
  go_enter Try.func10, Try.ntmps10
  go_wp2_with fail
  rw [← EW.out]
  refine TK.out.mono ?_
  rintro e w1 ⟨xv', x', K', rfl, a1, a2, a3, a4, _, _⟩
  have F2 : Hid ((∀ i, K i → K' i) ∧ PipK K' w1 b room (ord x') ∧ RowK K' w1 xv' 2 (rcells x') ∧ Kept K w w1) := ⟨a1, a2, a3, (Kept.of_ext XX.out).trans a4⟩
  clear TK a1 a2 a3 a4
  go_wp2_with fail
  go_ret2
  exact ⟨_, x', K', rfl, F2.out⟩

set_option maxHeartbeats 1000000 in
theorem step_other (K : Nat → Prop) (b : Nat) (room kind at_ N : Int) (x : Ms) (xv tv : Value) (t : List UInt8) (w : World) (hw : PipK K w b room (ord x)) (hx : RowK K w xv 2 (rcells x)) (ht : Bytes w tv t) (hp : Plain tv) (h1 : ¬ kind = 1) (h2 : ¬ kind = 2) (h3 : ¬ kind = 3) :
    Calls Try.prog 10 #[.pointer (some ⟨b, 0, none⟩), xv, .int .i64 room, .agg #[.int .i64 kind, .int .i64 at_, .int .i64 N, tv]] w fun e w' =>
      StepPost K w b room e w' := by
  obtain ⟨ao, cm, em, m1, m2, _⟩ := hx.view
  subst em
  unfold maxLen at m2
  obtain ⟨W, eW⟩ : ∃ W, W = w.alloc (.cells #[.int .i64 kind, .int .i64 at_, .int .i64 N, tv] 32) := ⟨_, rfl⟩
  have XW : Ext w W := by rw [eW]; exact (Ext.refl w).alloc _
  have bw : W.heap[w.heap.size]? = some (.cells #[.int .i64 kind, .int .i64 at_, .int .i64 N, tv] 32 (0, 0)) := by rw [eW]; exact heap_alloc_new w _
  have d1 : W.cell? ⟨w.heap.size, 1, none⟩ = some (.int .i64 at_) := by rw [cell_of_row _ _ 1 _ _ _ bw]; rfl
  have d3 : W.cell? ⟨w.heap.size, 3, none⟩ = some tv := by rw [cell_of_row _ _ 3 _ _ _ bw]; rfl
  have d0 : W.cell? ⟨w.heap.size, 0, none⟩ = some (.int .i64 kind) := by rw [cell_of_row _ _ 0 _ _ _ bw]; rfl
  have lx : x.length ≤ 256 := by
    have h1 := hw.1
    rw [ord_length] at h1
    omega
  obtain ⟨ta, tc, et, t1, t2, _⟩ := ht
  have ET := hid et
  unfold maxLen at t2
  have FIN : Hid (PipK K W b room (ord x) ∧ RowK K W (.slice ao x.length cm) 2 (rcells x) ∧ Kept K w W) := ⟨hw.ext XW, hx.kept (Kept.of_ext XW), Kept.of_ext XW⟩
  rw [eW] at d0 d1 d3 FIN
  clear hw hx XW bw eW
  subst et
  generalize t.length = n at *
  generalize x.length = m at *
  go_enter Try.func10, Try.ntmps10
  go_wp2_with fail
  go_ret2
  exact ⟨_, x, K, rfl, fun i h => h, FIN.out⟩
end Go.Proofs.Ytlpdffjbdekjeaa

/-
  The model's step: an asking that is granted.
-/
import Derived.Test.YtjmgigfaiaemeaaSimStep7
namespace Go.Proofs.Ytjmgigfaiaemeaa.Sim
set_option linter.unusedVariables false
set_option maxRecDepth 100000
open Go.RowKit Go.Lib Go.Shelf Go.Proofs.Ytjmgigfaiaemeaa.Crc Go.Proofs.Ytjmgigfaiaemeaa.Grp
open Go.Proofs.Ytjmgigfaiaemeaa.Pip hiding NewR
attribute [local go_sem] Oper.semAt_some

/-- a read and two makers, any of which may come up -/
theorem tripE {P : Program} {md : Region.Mode} {ops : Array Oper} {Q : Exit → Act → World → Prop} {S : World → Prop} (i d j d' k d2 : Nat) {oi oj ok : Oper} {v u x : Value} {fuel : Nat} {listed : Array Bool} {a : Act} {w wi wj wk : World} (hi : ops[i]? = some oi) (hd : oi.dst = some d) (hj : ops[j]? = some oj) (hd' : oj.dst = some d') (hk : ops[k]? = some ok) (hd2 : ok.dst = some d2)
    (hr : Region.ready md ops listed = [i, j, k]) (hw : Region.wanted oi (yielded ops a.tmps) = true) (hw' : Region.wanted oj (yielded ops a.tmps) = true) (hw2 : Region.wanted ok (yielded ops a.tmps) = true)
    (he : (execOp a.eval oi).run P w = .ok (.value v) wi) (he' : (execOp a.eval oj).run P w = .ok (.value u) wj) (he2 : (execOp a.eval ok).run P w = .ok (.value x) wk) (hS : S wi) (hS' : S wj) (hS2 : S wk)
    (h : wpAnyH P md ops Q S fuel (listed.setIfInBounds i true) (a.put (some d) v) wi) (h' : wpAnyH P md ops Q S fuel (listed.setIfInBounds j true) (a.put (some d') u) wj) (h2 : wpAnyH P md ops Q S fuel (listed.setIfInBounds k true) (a.put (some d2) x) wk) : wpAnyH P md ops Q S (fuel + 1) listed a w := by
  refine wpAnyH_all hr (by simp) (fun q hq => ?_)
  rcases (show q = i ∨ q = j ∨ q = k by simpa using hq) with rfl | rfl | rfl
  · unfold wpOp
    simp only [hi, hw, if_true, Oper.wp, he, Oper.upon]
    left
    rw [hd]
    exact ⟨hS, h⟩
  · unfold wpOp
    simp only [hj, hw', if_true, Oper.wp, he', Oper.upon]
    left
    rw [hd']
    exact ⟨hS', h'⟩
  · unfold wpOp
    simp only [hk, hw2, if_true, Oper.wp, he2, Oper.upon]
    left
    rw [hd2]
    exact ⟨hS2, h2⟩

/-- the row of a list with one more, in memory made since W -/
theorem put_two {W V : World} {K : Nat → Prop} {xv : Value} {g f c : Nat} {l : List Tri} {a : Tri} (N : NewR tri 72 3 W V (.slice (some ⟨g, 0, none⟩) 0 0) []) (hx : RowK K V xv 3 (fcells tri l)) (hf : RowK (fun i => i = f) V (.slice (some ⟨f, 0, none⟩) 1 c) 3 (fcells tri [a])) (hne : f ≠ g) (hl : l.length ≤ 1000) :
    ∃ v2 V2, (Builtin.append_ #[36, 36] 36 #[.slice (some ⟨g, 0, none⟩) 0 0, xv]).run Try.prog V = .ok v2 V2 ∧ Ext W V2 ∧
      ∃ v4 V4, (Builtin.append_ #[36, 36] 36 #[v2, .slice (some ⟨f, 0, none⟩) 1 c]).run Try.prog V2 = .ok v4 V4 ∧ NewR tri 72 3 W V4 v4 (l ++ [a]) := by
  obtain ⟨v2, V2, r2, N2, gb⟩ := N.put elemsA encT 36 xv l hx (by simp; omega)
  rw [List.nil_append] at N2
  have KK : Kept (fun i => i = f) V V2 := (Kept.refl _ V).grown gb (fun k e h => hne (by rw [← h]; simpa [Value.ownBlock] using e.symm))
  obtain ⟨v4, V4, r4, N4, _⟩ := N2.put elemsA encT 36 _ [a] (hf.kept KK) (by simp; omega)
  exact ⟨v2, V2, r2, N2.2.2, v4, V4, r4, N4⟩
theorem put_list {W V : World} {K : Nat → Prop} {xv : Value} {g : Nat} {l : List Tri} (N : NewR tri 72 3 W V (.slice (some ⟨g, 0, none⟩) 0 0) []) (hx : RowK K V xv 3 (fcells tri l)) (hl : l.length ≤ 1000) :
    ∃ v2 V2, (Builtin.append_ #[36, 36] 36 #[.slice (some ⟨g, 0, none⟩) 0 0, xv]).run Try.prog V = .ok v2 V2 ∧ NewR tri 72 3 W V2 v2 l := by
  obtain ⟨v2, V2, r2, N2, gb⟩ := N.put elemsA encT 36 xv l hx (by simp; omega)
  rw [List.nil_append] at N2
  exact ⟨v2, V2, r2, N2⟩
theorem put_one {W V : World} {v2 : Value} {f c : Nat} {l : List Tri} {a : Tri} (N : NewR tri 72 3 W V v2 l) (hf : RowK (fun i => i = f) V (.slice (some ⟨f, 0, none⟩) 1 c) 3 (fcells tri [a])) (hl : l.length ≤ 1000) :
    ∃ v4 V4, (Builtin.append_ #[36, 36] 36 #[v2, .slice (some ⟨f, 0, none⟩) 1 c]).run Try.prog V = .ok v4 V4 ∧ NewR tri 72 3 W V4 v4 (l ++ [a]) := by
  obtain ⟨v4, V4, r4, N4, _⟩ := N.put elemsA encT 36 _ [a] hf (by simp; omega)
  exact ⟨v4, V4, r4, N4⟩
theorem new_made {W V : World} (X : Ext W V) : NewR tri 72 3 W (V.alloc (.cells #[] 72)) (.slice (some ⟨V.heap.size, 0, none⟩) 0 0) [] :=
  ⟨Own.made _ _ _ V, fun k hk => by simp only [Value.ownBlock, Option.some.injEq] at hk; have := X.size; omega, X.alloc _⟩

set_option maxHeartbeats 4000000 in
theorem step_ask_ok (K E : Nat → Prop) (hE : ∀ q, E q → K q) (w : World) (b : Nat) (bs : Nat → Nat) (c : Cfg) (n : Nat) (hn : c.1 = (n : Int)) (l : List Tri) (fs : List (Int × Int)) (x : St) (av lv fv : Value) (h : NetK K w b bs c l fs x) (hA : RowK E w av 3 (fcells tri l)) (hL : ListsK E w lv x.1) (hF : RowK E w fv 2 (fcells pr fs)) (kind R level later : Int) (tv : Value) (t : List UInt8) (hT : RowK K w tv 1 (bcells t)) (hTP : Plain tv) (now : Int) (now0 : 0 ≤ now) (now1 : now ≤ 1000000) (hk : kind = 1) (hr0 : 0 ≤ R) (hr1 : R < (n : Int)) (hr2 : -1 ≤ level) (hr3 : level ≤ 7) (hla : l.length ≤ 1000) (hst : (st c.2.2.2.1 c.2.2.2.2 l R).1 ≤ now) :
    Calls Try.prog 10 #[.agg (mcs c av lv fv (x.2.1 : Int) x.2.2), .pointer (some ⟨b, 0, none⟩), .agg #[.int .i64 kind, .int .i64 R, .int .i64 level, .int .i64 later, tv], .int .i64 now] w fun e w' => SteppedS K E w b bs c (l ++ [(R, level, now)]) fs x e w' := by
  subst hk
  have hth := h.there
  obtain ⟨W0, e0⟩ : ∃ W0, W0 = (((w.alloc (.cells (mcs c av lv fv (x.2.1 : Int) x.2.2) 40)).alloc (.cells #[.int .i64 1, .int .i64 R, .int .i64 level, .int .i64 later, tv] 43)).alloc (.cells zmod 40)).alloc (.cells #[.bool false] 4) := ⟨_, rfl⟩
  have X0 : Ext w W0 := by rw [e0]; exact ((((Ext.refl w).alloc _).alloc _).alloc _).alloc _
  have BX : StepBox W0 w.heap.size (mcs c av lv fv (x.2.1 : Int) x.2.2) 1 R level later tv := by rw [e0]; exact alloc4 w _ _ _ _
  have z0 : w.heap.size + 4 ≤ W0.heap.size := by have := lt_of_row BX.2.2.2; omega
  have H0 := h.more X0
  have HTH := hid hth
  have HEH := hid hE
  have BXH := hid BX
  have X0H := hid X0
  have H0H := hid H0
  have HN := hid hn
  have HA := hid hA
  have HL := hid hL
  have HF := hid hF
  have HT := hid hT
  have HTP := hid hTP
  have Z0 : Hid (w.heap.size + 4 ≤ W0.heap.size) := z0
  have KB : Hid (∀ i, w.heap.size ≤ i → i < w.heap.size + 4 → K i ∨ New w W0 i) := fun i h1 h2 => .inr ⟨h1, by omega⟩
  obtain ⟨⟨m0, m3, m4, m5⟩, o0, o1, o2, o4⟩ := BX.cells
  obtain ⟨ta, tn, tc, et, tl, tb, td, _⟩ := id hT
  rw [bcells_length, Nat.mul_one] at tl
  subst et
  unfold maxLen at td
  have SAV := hid (row_slice hA)
  have SFV := hid (row_slice hF)
  obtain ⟨gb, c0, GA⟩ := (H0.ext (show Ext W0 W0.drew from (Ext.refl W0).drewN 1)).asked n hn
  have GA := GA (R, level, now)
  have SDH : Hid ((fun V => V.cell? ⟨b, 0, none⟩ = some (.pointer (some ⟨gb, 0, none⟩)) ∧ V.cell? ⟨w.heap.size + 1, 1, none⟩ = some (.int .i64 R) ∧ V.cell? ⟨w.heap.size + 1, 2, none⟩ = some (.int .i64 level)) W0.drew) := ⟨c0, (Kept.of_ext (K := fun _ => True) (show Ext W0 W0.drew from (Ext.refl W0).drewN 1)).cell trivial o1, (Kept.of_ext (K := fun _ => True) (show Ext W0 W0.drew from (Ext.refl W0).drewN 1)).cell trivial o2⟩
  have eW : wrg c.2.2.2.1 c.2.2.2.2 n l (R, level, now) = 0 := by
    unfold wrg
    rw [if_neg (by unfold badAsk; simp only; omega), if_neg (by simp only; omega)]
  have eA : aft c.2.2.2.1 c.2.2.2.2 n l (R, level, now) = l ++ [(R, level, now)] := by
    unfold aft
    rw [eW, if_pos rfl]
  rw [eW, eA] at GA
  have GA := hid GA
  have LY := hid hla
  clear eW eA c0 hla hst
  rw [hn] at m0
  rw [e0] at m0 m3 m4 m5 o0 o1 o2 o4
  unfold zmod at m0 m3 m4 m5 o0 o1 o2 o4
  have E0 := hid e0
  have E0' : Hid (W0 = (((w.alloc (.cells (mcs c av lv fv (x.2.1 : Int) x.2.2) 40)).alloc (.cells #[.int .i64 1, .int .i64 R, .int .i64 level, .int .i64 later, .slice ta tn tc] 43)).alloc (.cells #[.int .i64 0, .int .i64 0, .int .i64 0, .int .i64 0, .int .i64 0, .slice none 0 0, .slice none 0 0, .slice none 0 0, .int .i64 0, .int .i64 0, .int .i64 0, .int .i64 0, .int .i64 0, .int .i64 0, .int .i64 0] 40)).alloc (.cells #[.bool false] 4)) := e0
  clear hE h hA hL hF hT hTP hth BX X0 H0 e0 z0
  go_enter Try.func10, Try.ntmps10
  go_wp2_with fail
  rw [← E0'.out]
  refine wp_region_held_drew (S := (fun V => V.cell? ⟨b, 0, none⟩ = some (.pointer (some ⟨gb, 0, none⟩)) ∧ V.cell? ⟨w.heap.size + 1, 1, none⟩ = some (.int .i64 R) ∧ V.cell? ⟨w.heap.size + 1, 2, none⟩ = some (.int .i64 level))) (by kernel_rfl) SDH.out (fun hHeld => ?_)
  refine takeE (v := ?_) 0 32 rfl rfl (by kernel_rfl) (by kernel_rfl) (by kernel_rfl) (fun _ _ _ h => h) (Or.inl ⟨by rfl, fun V hV => ?_⟩) hHeld ?_
  rotate_left
  · (go_simp; try with_reducible rfl)
  simp only [Act.put, List.setIfInBounds_toArray, List.set_cons_zero, List.set_cons_succ]
  refine takeE (v := ?_) 1 33 rfl rfl (by kernel_rfl) (by kernel_rfl) (by kernel_rfl) (fun _ _ _ h => h) (Or.inl ⟨by rfl, fun V hV => ?_⟩) hHeld ?_
  rotate_left
  · (go_simp; try with_reducible rfl)
  simp only [Act.put, List.setIfInBounds_toArray, List.set_cons_zero, List.set_cons_succ]
  refine takeE (v := ?_) 2 34 rfl rfl (by kernel_rfl) (by kernel_rfl) (by kernel_rfl) (fun _ _ _ h => h) (Or.inl ⟨by rfl, fun V hV => ?_⟩) hHeld ?_
  rotate_left
  · (go_simp; try with_reducible rfl)
  simp only [Act.put, List.setIfInBounds_toArray, List.set_cons_zero, List.set_cons_succ]
  refine takeE (v := ?_) 3 35 rfl rfl (by kernel_rfl) (by kernel_rfl) (by kernel_rfl) (fun _ _ _ h => h) (Or.inl ⟨by rfl, fun V hV => ?_⟩) hHeld ?_
  rotate_left
  · (have z0 := hV.1; have z1 := hV.2.1; have z2 := hV.2.2; go_simp; try with_reducible rfl)
  simp only [Act.put, List.setIfInBounds_toArray, List.set_cons_zero, List.set_cons_succ]
  refine takeE (v := ?_) 4 36 rfl rfl (by kernel_rfl) (by kernel_rfl) (by kernel_rfl) (fun _ _ _ h => h) (Or.inl ⟨by rfl, fun V hV => ?_⟩) hHeld ?_
  rotate_left
  · (go_simp; try with_reducible rfl)
  simp only [Act.put, List.setIfInBounds_toArray, List.set_cons_zero, List.set_cons_succ]
  refine takeE (v := ?_) 5 37 rfl rfl (by kernel_rfl) (by kernel_rfl) (by kernel_rfl) (fun _ _ _ h => h) (Or.inl ⟨by rfl, fun V hV => ?_⟩) hHeld ?_
  rotate_left
  · (have z0 := hV.1; have z1 := hV.2.1; have z2 := hV.2.2; go_simp; try with_reducible rfl)
  simp only [Act.put, List.setIfInBounds_toArray, List.set_cons_zero, List.set_cons_succ]
  refine takeE (v := ?_) 6 38 rfl rfl (by kernel_rfl) (by kernel_rfl) (by kernel_rfl) (fun _ _ _ h => h) (Or.inl ⟨by rfl, fun V hV => ?_⟩) hHeld ?_
  rotate_left
  · (go_simp; try with_reducible rfl)
  simp only [Act.put, List.setIfInBounds_toArray, List.set_cons_zero, List.set_cons_succ]
  refine takeE (v := ?_) 7 39 rfl rfl (by kernel_rfl) (by kernel_rfl) (by kernel_rfl) (fun _ _ _ h => h) (Or.inl ⟨by rfl, fun V hV => ?_⟩) hHeld ?_
  rotate_left
  · (have z0 := hV.1; have z1 := hV.2.1; have z2 := hV.2.2; go_simp; try with_reducible rfl)
  simp only [Act.put, List.setIfInBounds_toArray, List.set_cons_zero, List.set_cons_succ]
  refine takeE (v := ?_) 8 40 rfl rfl (by kernel_rfl) (by kernel_rfl) (by kernel_rfl) (fun _ _ _ h => h) (Or.inl ⟨by rfl, fun V hV => ?_⟩) hHeld ?_
  rotate_left
  · (go_simp; try with_reducible rfl)
  simp only [Act.put, List.setIfInBounds_toArray, List.set_cons_zero, List.set_cons_succ]
  refine callE 9 41 rfl rfl (by kernel_rfl) (by rfl) (by go_simp; first | exact ⟨rfl, rfl⟩ | rfl) ?_
  refine GA.out.mono ?_
  rintro e w1 ⟨rfl, n1, k1', c1⟩
  have k1 : Kept (fun q => K q ∨ New w W0 q) W0 w1 := (Kept.of_ext (show Ext W0 W0.drew from (Ext.refl W0).drewN 1)).trans k1'
  have BW := BXH.out.kept k1 (fun i h1 h2 => KB.out i h1 h2)
  have KW : Kept K w w1 := (Kept.of_ext X0H.out).trans (k1.mono (fun q hq => .inl hq))
  have hS1 : w1.cell? ⟨b, 0, none⟩ = some (.pointer (some ⟨gb, 0, none⟩)) ∧ w1.cell? ⟨w.heap.size + 1, 1, none⟩ = some (.int .i64 R) ∧ w1.cell? ⟨w.heap.size + 1, 2, none⟩ = some (.int .i64 level) := ⟨c1, (by rw [cell_of_row _ _ 1 _ _ _ BW.2.1]; rfl), (by rw [cell_of_row _ _ 2 _ _ _ BW.2.1]; rfl)⟩
  refine ⟨_, rfl, hS1, ?_⟩
  simp only [Act.put, List.setIfInBounds_toArray, List.set_cons_zero, List.set_cons_succ]
  refine takeE (v := ?_) 10 11 rfl rfl (by kernel_rfl) (by kernel_rfl) (by kernel_rfl) (fun _ _ _ h => h) (Or.inl ⟨by rfl, fun V hV => ?_⟩) hS1 ?_
  rotate_left
  · (go_simp; try with_reducible rfl)
  simp only [Act.put, List.setIfInBounds_toArray, List.set_cons_zero, List.set_cons_succ]
  refine wpAnyH_done (by kernel_rfl) ?_ _
  clear hHeld hS1 c1 k1 k1' m0 m3 m4 m5 o0 o1 o2 o4
  obtain ⟨⟨m0, m3, m4, m5⟩, o0, o1, o2, o4⟩ := BW.cells
  rw [HN.out] at m0
  have AV := HA.out.kept (KW.mono HEH.out)
  have N1 := hid n1
  have BW1 := hid BW
  have KW1 := hid KW
  clear BW KW n1 GA SDH
  go_wp2_with fail
  have SZ1 : w.heap.size + 4 ≤ w1.heap.size := by have := lt_of_row BW1.out.2.2.2; omega
  have C1 : Hid (∀ V, Ext w1 V → V.cell? ⟨w.heap.size + 1, 1, none⟩ = some (.int .i64 R) ∧ V.cell? ⟨w.heap.size + 1, 2, none⟩ = some (.int .i64 level)) := fun V X => ⟨X.cell BW1.out.cells.2.2.1, X.cell BW1.out.cells.2.2.2.1⟩
  have FIN : Hid (∀ V4 v4, NewR tri 72 3 w1 V4 v4 (l ++ [(R, level, now)]) → (V4.cell? ⟨w.heap.size, 5, none⟩ = some av ∧ V4.frozen? ⟨w.heap.size, 5, none⟩ = false) ∧ ((V4.setCell ⟨w.heap.size, 5, none⟩ v4).cell? ⟨w.heap.size + 1, 1, none⟩ = some (.int .i64 R) ∧ (V4.setCell ⟨w.heap.size, 5, none⟩ v4).cell? ⟨w.heap.size + 1, 2, none⟩ = some (.int .i64 level)) ∧
      StepBox (V4.setCell ⟨w.heap.size, 5, none⟩ v4) w.heap.size (mcs c v4 lv fv (x.2.1 : Int) x.2.2) 1 R level later (.slice ta tn tc) ∧ NetK (fun q => (K q ∨ New w W0 q) ∨ New w1 V4 q) (V4.setCell ⟨w.heap.size, 5, none⟩ v4) b bs c (l ++ [(R, level, now)]) fs x ∧
      RowK (Dat E (fun q => (K q ∨ New w W0 q) ∨ New w1 V4 q) w.heap.size) (V4.setCell ⟨w.heap.size, 5, none⟩ v4) v4 3 (fcells tri (l ++ [(R, level, now)])) ∧ ListsK (Dat E (fun q => (K q ∨ New w W0 q) ∨ New w1 V4 q) w.heap.size) (V4.setCell ⟨w.heap.size, 5, none⟩ v4) lv x.1 ∧ RowK (Dat E (fun q => (K q ∨ New w W0 q) ∨ New w1 V4 q) w.heap.size) (V4.setCell ⟨w.heap.size, 5, none⟩ v4) fv 2 (fcells pr fs) ∧
      Kept K w (V4.setCell ⟨w.heap.size, 5, none⟩ v4)) := fun V4 v4 N4 => by
    have X4 := N4.2.2
    have B4 := BW1.out.kept (Kept.of_ext (K := fun _ => True) X4) (fun _ _ _ => trivial)
    have k5 : Kept (fun i => i ≠ w.heap.size) V4 (V4.setCell ⟨w.heap.size, 5, none⟩ v4) := (Kept.refl _ _).setCell (fun hne => hne rfl) _
    have lt := HTH.out
    have kk : Kept K w (V4.setCell ⟨w.heap.size, 5, none⟩ v4) := (KW1.out.trans (Kept.of_ext X4)).trans (k5.mono (fun q hq => by have := lt q hq; omega))
    have b0 : (V4.setCell ⟨w.heap.size, 5, none⟩ v4).heap[w.heap.size]? = some (.cells (mcs c v4 lv fv (x.2.1 : Int) x.2.2) 40 (0, 0)) := by
      rw [setCell_eq_setRow _ _ _ _ _ _ _ B4.1]
      exact setRow_heap _ _ _ _ _ _ B4.1
    have B5 : StepBox (V4.setCell ⟨w.heap.size, 5, none⟩ v4) w.heap.size (mcs c v4 lv fv (x.2.1 : Int) x.2.2) 1 R level later (.slice ta tn tc) := ⟨b0, k5.row (by omega) B4.2.1, k5.row (by omega) B4.2.2.1, k5.row (by omega) B4.2.2.2⟩
    refine ⟨⟨B4.cells.1.2.2.2, frozen_of_row _ _ _ _ _ B4.1⟩, ⟨B5.cells.2.2.1, B5.cells.2.2.2.1⟩, B5, ((N1.out.more X4).keep k5 (fun q _ => if e : q = w.heap.size then .inl (.inl (KB.out q (by omega) (by omega))) else .inr e)).less (fun q hq => .inl hq), ?_, (HL.out.kept (kk.mono HEH.out)).mono (fun q _ h => .inl h), (HF.out.kept (kk.mono HEH.out)).mono (by decide) (fun q _ h => .inl h), kk⟩
    have r4 := (N4.row encT).mono (L := fun q => q ≠ w.heap.size ∧ w1.heap.size ≤ q ∧ q < V4.heap.size) (by decide) (fun i _ hi => ⟨by have := hi.1; omega, hi⟩)
    exact (r4.kept (k5.mono (fun q hq => hq.1))).mono (by decide) (fun i _ hi => .inr ⟨by have := hi.2.1; omega, .inr hi.2⟩)
  have M5 : Hid (∀ V, Ext w1 V → V.cell? ⟨w.heap.size, 5, none⟩ = some av) := fun V X => X.cell BW1.out.cells.1.2.2.2
  clear SZ1
  refine wp_region_held_drew (S := fun V => V.cell? ⟨w.heap.size + 1, 1, none⟩ = some (.int .i64 R) ∧ V.cell? ⟨w.heap.size + 1, 2, none⟩ = some (.int .i64 level)) (by kernel_rfl) (C1.out _ (show Ext w1 w1.drew from (Ext.refl w1).drewN 1)) (fun hHeld => ?_)
  refine takeE (v := ?_) 1 58 rfl rfl (by kernel_rfl) (by kernel_rfl) (by kernel_rfl) (fun _ _ _ h => h) (Or.inl ⟨by rfl, fun V hV => ?_⟩) hHeld ?_
  rotate_left
  · (go_simp; try with_reducible rfl)
  simp only [Act.put, List.setIfInBounds_toArray, List.set_cons_zero, List.set_cons_succ]
  refine takeE (v := ?_) 4 61 rfl rfl (by kernel_rfl) (by kernel_rfl) (by kernel_rfl) (fun _ _ _ h => h) (Or.inl ⟨by rfl, fun V hV => ?_⟩) hHeld ?_
  rotate_left
  · (go_simp; try with_reducible rfl)
  simp only [Act.put, List.setIfInBounds_toArray, List.set_cons_zero, List.set_cons_succ]
  refine takeE (v := ?_) 5 62 rfl rfl (by kernel_rfl) (by kernel_rfl) (by kernel_rfl) (fun _ _ _ h => h) (Or.inl ⟨by rfl, fun V hV => ?_⟩) hHeld ?_
  rotate_left
  · (have z1 := hV.1; have z2 := hV.2; go_simp; try with_reducible rfl)
  simp only [Act.put, List.setIfInBounds_toArray, List.set_cons_zero, List.set_cons_succ]
  refine takeE (v := ?_) 6 63 rfl rfl (by kernel_rfl) (by kernel_rfl) (by kernel_rfl) (fun _ _ _ h => h) (Or.inl ⟨by rfl, fun V hV => ?_⟩) hHeld ?_
  rotate_left
  · (go_simp; try with_reducible rfl)
  simp only [Act.put, List.setIfInBounds_toArray, List.set_cons_zero, List.set_cons_succ]
  refine takeE (v := ?_) 7 64 rfl rfl (by kernel_rfl) (by kernel_rfl) (by kernel_rfl) (fun _ _ _ h => h) (Or.inl ⟨by rfl, fun V hV => ?_⟩) hHeld ?_
  rotate_left
  · (have z1 := hV.1; have z2 := hV.2; go_simp; try with_reducible rfl)
  simp only [Act.put, List.setIfInBounds_toArray, List.set_cons_zero, List.set_cons_succ]
  refine takeE (v := ?_) 8 65 rfl rfl (by kernel_rfl) (by kernel_rfl) (by kernel_rfl) (fun _ _ _ h => h) (Or.inl ⟨by rfl, fun V hV => ?_⟩) hHeld ?_
  rotate_left
  · (go_simp; try with_reducible rfl)
  simp only [Act.put, List.setIfInBounds_toArray, List.set_cons_zero, List.set_cons_succ]
  refine takeE (v := ?_) 9 66 rfl rfl (by kernel_rfl) (by kernel_rfl) (by kernel_rfl) (fun _ _ _ h => h) (Or.inl ⟨by rfl, fun V hV => ?_⟩) hHeld ?_
  rotate_left
  · (go_simp; try with_reducible rfl)
  simp only [Act.put, List.setIfInBounds_toArray, List.set_cons_zero, List.set_cons_succ]
  have XD : Ext w1 w1.drew := (Ext.refl w1).drewN 1
  obtain ⟨VA, eA⟩ : ∃ VA, VA = w1.drew.alloc (.cells #[] 72) := ⟨_, rfl⟩
  have NA : NewR tri 72 3 w1 VA (.slice (some ⟨w1.heap.size, 0, none⟩) 0 0) [] := by rw [eA]; exact new_made XD
  obtain ⟨VB, eB⟩ : ∃ VB, VB = w1.drew.alloc (.cells #[.int .i64 R, .int .i64 level, .int .i64 now] 72) := ⟨_, rfl⟩
  have xB : Ext w1 VB := by rw [eB]; exact XD.alloc _
  have oB : RowK (fun i => i = w1.heap.size) VB (.slice (some ⟨w1.heap.size, 0, none⟩) 1 1) 3 (fcells tri [(R, level, now)]) := by rw [eB]; exact one_row encT 72 w1.drew (R, level, now)
  have sz : w1.heap.size < VB.heap.size := by rw [eB]; simp
  have EA := hid eA
  have EB := hid eB
  clear eA eB
  refine tripE 0 57 2 59 10 67 rfl rfl rfl rfl rfl rfl (by kernel_rfl) (by rfl) (by rfl) (by rfl) (v := (.slice (some ⟨w1.heap.size, 0, none⟩) 0 0)) (u := av) (x := (.slice (some ⟨w1.heap.size, 0, none⟩) 1 1)) (wi := VA) (wj := w1.drew) (wk := VB) (by rw [EA.out]; go_simp; try with_reducible rfl) (by have z5 := M5.out _ XD; go_simp; try with_reducible rfl) (by rw [EB.out]; go_simp; try with_reducible rfl) (C1.out _ NA.2.2) (C1.out _ XD) (C1.out _ xB) ?zero ?two ?ten
  case' zero =>
    simp only [Act.put, List.setIfInBounds_toArray, List.set_cons_zero, List.set_cons_succ]
    refine eitherE 2 59 10 67 rfl rfl rfl rfl (by kernel_rfl) (by rfl) (by rfl) (v := av) (u := (.slice (some ⟨VA.heap.size, 0, none⟩) 1 1)) (wi := VA) (wj := VA.alloc (.cells #[.int .i64 R, .int .i64 level, .int .i64 now] 72)) (by have z5 := M5.out _ NA.2.2; go_simp; try with_reducible rfl) (by go_simp; try with_reducible rfl) (C1.out _ NA.2.2) (C1.out _ (NA.2.2.alloc _)) ?zt ?zn
  case' zt =>
    obtain ⟨v2, V2, r2, N2⟩ := put_list NA (AV.kept (Kept.of_ext NA.2.2)) LY.out
    have y1 : Ext w1 (VA.alloc (.cells #[.int .i64 R, .int .i64 level, .int .i64 now] 72)) := NA.2.2.alloc _
    simp only [Act.put, List.setIfInBounds_toArray, List.set_cons_zero, List.set_cons_succ]
    refine eitherE 3 60 10 67 rfl rfl rfl rfl (by kernel_rfl) (by rfl) (by rfl) (v := v2) (u := (.slice (some ⟨VA.heap.size, 0, none⟩) 1 1)) (wi := V2) (wj := VA.alloc (.cells #[.int .i64 R, .int .i64 level, .int .i64 now] 72)) (exec_append (.tmp 57) (.tmp 59) 36 rfl _ _ _ _ rfl rfl r2) (by go_simp; try with_reducible rfl) (C1.out _ N2.2.2) (C1.out _ y1) ?zt3 ?ztn
  case' zt3 =>
    simp only [Act.put, List.setIfInBounds_toArray, List.set_cons_zero, List.set_cons_succ]
    refine knownE 10 67 rfl rfl (by kernel_rfl) (by rfl) (w' := V2.alloc (.cells #[.int .i64 R, .int .i64 level, .int .i64 now] 72)) (v := (.slice (some ⟨V2.heap.size, 0, none⟩) 1 1)) (by go_simp; try with_reducible rfl) (C1.out _ (N2.2.2.alloc _)) ?_
    simp only [Act.put, List.setIfInBounds_toArray, List.set_cons_zero, List.set_cons_succ]
    obtain ⟨v4, V4, r4, N4⟩ := put_one (a := (R, level, now)) (N2.ext ((Ext.refl V2).alloc (.cells #[.int .i64 R, .int .i64 level, .int .i64 now] 72))) (one_row encT 72 V2 (R, level, now)) LY.out
  case' ztn =>
    clear r2 N2
    obtain ⟨v2, V2, r2, x2, v4, V4, r4, N4⟩ := put_two (a := (R, level, now)) (NA.ext ((Ext.refl VA).alloc (.cells #[.int .i64 R, .int .i64 level, .int .i64 now] 72))) (AV.kept (Kept.of_ext (NA.2.2.alloc (.cells #[.int .i64 R, .int .i64 level, .int .i64 now] 72)))) (one_row encT 72 VA (R, level, now)) (by have := NA.1.lt (k := w1.heap.size) rfl; omega) LY.out
    simp only [Act.put, List.setIfInBounds_toArray, List.set_cons_zero, List.set_cons_succ]
    refine knownE 3 60 rfl rfl (by kernel_rfl) (by rfl) (w' := V2) (v := v2) (exec_append (.tmp 57) (.tmp 59) 36 rfl _ _ _ _ rfl rfl r2) (C1.out _ x2) ?_
    simp only [Act.put, List.setIfInBounds_toArray, List.set_cons_zero, List.set_cons_succ]
  case' zn =>
    simp only [Act.put, List.setIfInBounds_toArray, List.set_cons_zero, List.set_cons_succ]
    refine knownE 2 59 rfl rfl (by kernel_rfl) (by rfl) (w' := (VA.alloc (.cells #[.int .i64 R, .int .i64 level, .int .i64 now] 72))) (v := av) (by have z5 := M5.out _ (NA.2.2.alloc (.cells #[.int .i64 R, .int .i64 level, .int .i64 now] 72)); generalize (VA.alloc (.cells #[.int .i64 R, .int .i64 level, .int .i64 now] 72)) = V6 at z5 ⊢; go_simp; try with_reducible rfl) (C1.out _ (NA.2.2.alloc (.cells #[.int .i64 R, .int .i64 level, .int .i64 now] 72))) ?_
    obtain ⟨v2, V2, r2, x2, v4, V4, r4, N4⟩ := put_two (a := (R, level, now)) (NA.ext ((Ext.refl VA).alloc (.cells #[.int .i64 R, .int .i64 level, .int .i64 now] 72))) (AV.kept (Kept.of_ext (NA.2.2.alloc (.cells #[.int .i64 R, .int .i64 level, .int .i64 now] 72)))) (one_row encT 72 VA (R, level, now)) (by have := NA.1.lt (k := w1.heap.size) rfl; omega) LY.out
    simp only [Act.put, List.setIfInBounds_toArray, List.set_cons_zero, List.set_cons_succ]
    refine knownE 3 60 rfl rfl (by kernel_rfl) (by rfl) (w' := V2) (v := v2) (exec_append (.tmp 57) (.tmp 59) 36 rfl _ _ _ _ rfl rfl r2) (C1.out _ x2) ?_
    simp only [Act.put, List.setIfInBounds_toArray, List.set_cons_zero, List.set_cons_succ]
  case' two =>
    simp only [Act.put, List.setIfInBounds_toArray, List.set_cons_zero, List.set_cons_succ]
    refine eitherE 0 57 10 67 rfl rfl rfl rfl (by kernel_rfl) (by rfl) (by rfl) (v := (.slice (some ⟨w1.heap.size, 0, none⟩) 0 0)) (u := (.slice (some ⟨w1.heap.size, 0, none⟩) 1 1)) (wi := VA) (wj := VB) (by rw [EA.out]; go_simp; try with_reducible rfl) (by rw [EB.out]; go_simp; try with_reducible rfl) (C1.out _ NA.2.2) (C1.out _ xB) ?wz ?wn
  case' wz =>
    obtain ⟨v2, V2, r2, N2⟩ := put_list NA (AV.kept (Kept.of_ext NA.2.2)) LY.out
    have y1 : Ext w1 (VA.alloc (.cells #[.int .i64 R, .int .i64 level, .int .i64 now] 72)) := NA.2.2.alloc _
    simp only [Act.put, List.setIfInBounds_toArray, List.set_cons_zero, List.set_cons_succ]
    refine eitherE 3 60 10 67 rfl rfl rfl rfl (by kernel_rfl) (by rfl) (by rfl) (v := v2) (u := (.slice (some ⟨VA.heap.size, 0, none⟩) 1 1)) (wi := V2) (wj := VA.alloc (.cells #[.int .i64 R, .int .i64 level, .int .i64 now] 72)) (exec_append (.tmp 57) (.tmp 59) 36 rfl _ _ _ _ rfl rfl r2) (by go_simp; try with_reducible rfl) (C1.out _ N2.2.2) (C1.out _ y1) ?wz3 ?wzn
  case' wz3 =>
    simp only [Act.put, List.setIfInBounds_toArray, List.set_cons_zero, List.set_cons_succ]
    refine knownE 10 67 rfl rfl (by kernel_rfl) (by rfl) (w' := V2.alloc (.cells #[.int .i64 R, .int .i64 level, .int .i64 now] 72)) (v := (.slice (some ⟨V2.heap.size, 0, none⟩) 1 1)) (by go_simp; try with_reducible rfl) (C1.out _ (N2.2.2.alloc _)) ?_
    simp only [Act.put, List.setIfInBounds_toArray, List.set_cons_zero, List.set_cons_succ]
    obtain ⟨v4, V4, r4, N4⟩ := put_one (a := (R, level, now)) (N2.ext ((Ext.refl V2).alloc (.cells #[.int .i64 R, .int .i64 level, .int .i64 now] 72))) (one_row encT 72 V2 (R, level, now)) LY.out
  case' wzn =>
    clear r2 N2
    obtain ⟨v2, V2, r2, x2, v4, V4, r4, N4⟩ := put_two (a := (R, level, now)) (NA.ext ((Ext.refl VA).alloc (.cells #[.int .i64 R, .int .i64 level, .int .i64 now] 72))) (AV.kept (Kept.of_ext (NA.2.2.alloc (.cells #[.int .i64 R, .int .i64 level, .int .i64 now] 72)))) (one_row encT 72 VA (R, level, now)) (by have := NA.1.lt (k := w1.heap.size) rfl; omega) LY.out
    simp only [Act.put, List.setIfInBounds_toArray, List.set_cons_zero, List.set_cons_succ]
    refine knownE 3 60 rfl rfl (by kernel_rfl) (by rfl) (w' := V2) (v := v2) (exec_append (.tmp 57) (.tmp 59) 36 rfl _ _ _ _ rfl rfl r2) (C1.out _ x2) ?_
    simp only [Act.put, List.setIfInBounds_toArray, List.set_cons_zero, List.set_cons_succ]
  case' wn =>
    simp only [Act.put, List.setIfInBounds_toArray, List.set_cons_zero, List.set_cons_succ]
    refine knownE 0 57 rfl rfl (by kernel_rfl) (by rfl) (w' := VB.alloc (.cells #[] 72)) (v := (.slice (some ⟨VB.heap.size, 0, none⟩) 0 0)) (by go_simp; try with_reducible rfl) (C1.out _ (xB.alloc _)) ?_
    obtain ⟨v2, V2, r2, x2, v4, V4, r4, N4⟩ := put_two (a := (R, level, now)) (new_made xB) (AV.kept (Kept.of_ext (xB.alloc (.cells #[] 72)))) (oB.kept (Kept.of_ext ((Ext.refl VB).alloc _))) (by omega) LY.out
    simp only [Act.put, List.setIfInBounds_toArray, List.set_cons_zero, List.set_cons_succ]
    refine knownE 3 60 rfl rfl (by kernel_rfl) (by rfl) (w' := V2) (v := v2) (exec_append (.tmp 57) (.tmp 59) 36 rfl _ _ _ _ rfl rfl r2) (C1.out _ x2) ?_
    simp only [Act.put, List.setIfInBounds_toArray, List.set_cons_zero, List.set_cons_succ]
  case' ten =>
    simp only [Act.put, List.setIfInBounds_toArray, List.set_cons_zero, List.set_cons_succ]
    refine eitherE 0 57 2 59 rfl rfl rfl rfl (by kernel_rfl) (by rfl) (by rfl) (v := (.slice (some ⟨VB.heap.size, 0, none⟩) 0 0)) (u := av) (wi := VB.alloc (.cells #[] 72)) (wj := VB) (by go_simp; try with_reducible rfl) (by have z5 := M5.out _ xB; go_simp; try with_reducible rfl) (C1.out _ (xB.alloc _)) (C1.out _ xB) ?nz ?nw
  case' nz =>
    simp only [Act.put, List.setIfInBounds_toArray, List.set_cons_zero, List.set_cons_succ]
    refine knownE 2 59 rfl rfl (by kernel_rfl) (by rfl) (w' := (VB.alloc (.cells #[] 72))) (v := av) (by have z5 := M5.out _ (xB.alloc (.cells #[] 72)); generalize (VB.alloc (.cells #[] 72)) = V6 at z5 ⊢; go_simp; try with_reducible rfl) (C1.out _ (xB.alloc (.cells #[] 72))) ?_
    obtain ⟨v2, V2, r2, x2, v4, V4, r4, N4⟩ := put_two (a := (R, level, now)) (new_made xB) (AV.kept (Kept.of_ext (xB.alloc (.cells #[] 72)))) (oB.kept (Kept.of_ext ((Ext.refl VB).alloc _))) (by omega) LY.out
    simp only [Act.put, List.setIfInBounds_toArray, List.set_cons_zero, List.set_cons_succ]
    refine knownE 3 60 rfl rfl (by kernel_rfl) (by rfl) (w' := V2) (v := v2) (exec_append (.tmp 57) (.tmp 59) 36 rfl _ _ _ _ rfl rfl r2) (C1.out _ x2) ?_
    simp only [Act.put, List.setIfInBounds_toArray, List.set_cons_zero, List.set_cons_succ]
  case' nw =>
    simp only [Act.put, List.setIfInBounds_toArray, List.set_cons_zero, List.set_cons_succ]
    refine knownE 0 57 rfl rfl (by kernel_rfl) (by rfl) (w' := VB.alloc (.cells #[] 72)) (v := (.slice (some ⟨VB.heap.size, 0, none⟩) 0 0)) (by go_simp; try with_reducible rfl) (C1.out _ (xB.alloc _)) ?_
    obtain ⟨v2, V2, r2, x2, v4, V4, r4, N4⟩ := put_two (a := (R, level, now)) (new_made xB) (AV.kept (Kept.of_ext (xB.alloc (.cells #[] 72)))) (oB.kept (Kept.of_ext ((Ext.refl VB).alloc _))) (by omega) LY.out
    simp only [Act.put, List.setIfInBounds_toArray, List.set_cons_zero, List.set_cons_succ]
    refine knownE 3 60 rfl rfl (by kernel_rfl) (by rfl) (w' := V2) (v := v2) (exec_append (.tmp 57) (.tmp 59) 36 rfl _ _ _ _ rfl rfl r2) (C1.out _ x2) ?_
    simp only [Act.put, List.setIfInBounds_toArray, List.set_cons_zero, List.set_cons_succ]
  all_goals refine knownE 11 68 rfl rfl (by kernel_rfl) (by rfl) (w' := V4) (v := v4) (exec_append (.tmp 60) (.tmp 67) 36 rfl _ _ _ _ rfl rfl r4) (C1.out _ N4.2.2) ?_
  all_goals simp only [Act.put, List.setIfInBounds_toArray, List.set_cons_zero, List.set_cons_succ]
  all_goals refine takeE (v := ?_) 12 69 rfl rfl (by kernel_rfl) (by kernel_rfl) (by kernel_rfl) (fun _ _ _ h => h) (Or.inl ⟨by rfl, fun V hV => (by (go_simp; try with_reducible rfl))⟩) (C1.out _ N4.2.2) ?_
  all_goals simp only [Act.put, List.setIfInBounds_toArray, List.set_cons_zero, List.set_cons_succ]
  all_goals obtain ⟨⟨d5, f5⟩, c5, BW, n5, ha5, hl5, hf5, KW⟩ := FIN.out V4 v4 N4
  all_goals obtain ⟨pa, pn, pc, ep⟩ := row_slice ha5
  all_goals subst ep
  all_goals refine storeN 13 rfl rfl (by kernel_rfl) (by rfl) (w' := V4.setCell ⟨w.heap.size, 5, none⟩ (.slice pa pn pc)) (by go_simp; try with_reducible rfl) c5 ?_
  all_goals refine wpAnyH_done (by kernel_rfl) ?_ _
  all_goals clear FIN M5 C1 EA EB r4 NA xB oB sz AV hHeld d5 f5 c5 m0 m3 m4 m5 o0 o1 o2 o4
  all_goals have SAV := hid (row_slice ha5)
  all_goals obtain ⟨V5, e5⟩ : ∃ V5, V5 = V4.setCell ⟨w.heap.size, 5, none⟩ (.slice pa pn pc) := ⟨_, rfl⟩
  all_goals rw [← e5] at BW n5 ha5 hl5 hf5 KW
  all_goals rw [← e5]
  all_goals obtain ⟨⟨m0, m3, m4, m5⟩, o0, o1, o2, o4⟩ := BW.cells
  all_goals rw [HN.out] at m0
  all_goals
    obtain ⟨e1, e2, e3, e4, e5⟩ := step_end (b := b) (bs := bs) (c := c) (l := (l ++ [(R, level, now)])) (fs := fs) (x := x) (av := (.slice pa pn pc)) (lv := lv) (fv := fv) (h0 := w.heap.size) rfl HEH.out HTH.out (K' := (fun q => (K q ∨ New w W0 q) ∨ New w1 V4 q)) (fun q hq => .inl (.inl hq)) (fun i h1 h2 => .inl (KB.out i h1 h2)) n5 ha5 hl5 hf5 KW BW.2.2.1 BW.2.2.2 _ rfl
    have MBX := BW.1
    have ZBX := BW.2.2.1
    have ONE := hid (mcs_one c (.slice pa pn pc) lv fv (((x : St).2.1 : Nat) : Int) (x : St).2.2 (by obtain ⟨_, _, _, e⟩ := SAV.out; rw [e]; rfl) (by obtain ⟨_, _, _, e⟩ := lists_slice hl5; rw [e]; rfl) (by obtain ⟨_, _, _, e⟩ := SFV.out; rw [e]; rfl))
    have E3 := hid e3
    have E4 := hid e4
    have E5 := hid e5
    have MBXH := hid MBX
    have ZBXH := hid ZBX
    clear e3 e4 e5 MBX ZBX
    clear BW KW n5 ha5 hl5 hf5 e5 BW1 KW1 N1 N4
    go_wp2_with (first
      | refine wpList_load_row rfl 40 (.tmp 4) rfl w.heap.size rfl 40 _ (0, 0) _ MBXH.out Try.underlying40 rfl size_model ?_
      | refine wpList_store_row rfl 40 (.tmp 8) (.tmp 70) rfl (w.heap.size + 1 + 1) _ rfl rfl 40 _ ZBXH.out size_model rfl ONE.out ?_)
    refine bodyPost_ret (results_row_bool Try.results10 _ _ (w.heap.size + 1 + 1) (w.heap.size + 1 + 1 + 1) 40 _ (0, 0) _ true rfl E3.out rfl E4.out Try.underlying40 rfl size_model Try.underlying4) rfl ?_
    exact E5.out
end Go.Proofs.Ytjmgigfaiaemeaa.Sim

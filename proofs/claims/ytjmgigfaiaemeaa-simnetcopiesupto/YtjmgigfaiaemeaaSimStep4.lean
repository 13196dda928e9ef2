/-
  The model's step: nothing is due where there is no receiver.
-/
import Derived.Test.YtjmgigfaiaemeaaSimStepM
namespace Go.Proofs.Ytjmgigfaiaemeaa.Sim
set_option linter.unusedVariables false
set_option maxRecDepth 100000
open Go.RowKit Go.Lib Go.Shelf Go.Proofs.Ytjmgigfaiaemeaa.Crc Go.Proofs.Ytjmgigfaiaemeaa.Grp
open Go.Proofs.Ytjmgigfaiaemeaa.Pip hiding NewR
attribute [local go_sem] Oper.semAt_some

/-- a loop over a function that yields nothing -/
theorem rangeNone {Q : Exit → Act → World → Prop} {a : Act} {w : World} {g : Operand} {ps : Array Tmp} {assign body : Code} (hg : a.eval g = .func (.func 36) #[] #[])
    (hdone : ∀ W : World, Ext w W → W.heap[w.heap.size]? = some (.deferred (some [])) → Q .normal { a with defers := { target := .collected w.heap.size, args := #[] } :: a.defers } W) :
    (Code.rangeFunc g ps assign body).wp Try.prog Q a w := by
  refine (wpIn_wide (n := 4)).1 (wpIn_rangeFunc ?_)
  intro fn hfn
  obtain ⟨W1, e1⟩ : ∃ W1, W1 = (w.alloc (.deferred (some []))).alloc (.loop (recP fn a.tmps ps assign body w.heap.size .ready none)) := ⟨_, rfl⟩
  have X1 : Ext w W1 := by rw [e1]; exact ((Ext.refl w).alloc _).alloc _
  have l1 : W1.heap[w.heap.size + 1]? = some (.loop (recP fn a.tmps ps assign body w.heap.size .ready none)) := by rw [e1]; exact heap_alloc2_new w _ _
  have d1 : W1.heap[w.heap.size]? = some (.deferred (some [])) := by rw [e1]; exact heap_alloc2_old w _ _
  have CT : ∀ v : Value, Calls Try.prog 36 #[v] W1 fun e w' => (∃ v, e = .returned v) ∧ w' = W1 := by
    intro v
    go_enter Try.func36, Try.ntmps36
    go_wp2
    refine bodyPost_end (results_none rfl _ _ _) rfl ?_
    exact ⟨⟨_, rfl⟩, rfl⟩
  refine ⟨w.heap.size + 1, [{ target := .collected w.heap.size, args := #[] }], W1, { target := .fn (.func 36) #[], args := #[.func (.yield (w.heap.size + 1)) #[] #[]] }, W1, 36, #[.func (.yield (w.heap.size + 1)) #[] #[]] ++ #[], W1, ?_, ?_, ?_, ?_, fun _ => by decide, ?_⟩
  · rw [e1]; exact run_enterLoop_outer _ _ _ _ _
  · simp only [resolve, hg]
    simp [go_sem]
  · intro f' _; exact trivial
  · have eg : ∀ args w, (callFunc 36 args).run Try.prog w = .ok (.enter 36 args) w := enters_of Try.func36 (by kernel_rfl) rfl
    simp [invoke, go_sem, eg]
  · refine (callsIn_wide.2 (CT _)).mono ?_
    rintro e W2 ⟨⟨v, rfl⟩, rfl⟩
    have re := run_endLoop (P := Try.prog) l1 (by simp [recP])
    have X2 : ∀ o, Ext w (W2.putObj (w.heap.size + 1) o) := fun o => Below.trans X1 ((kept_put (K := fun i => i < w.heap.size) W2 (L := w.heap.size + 1) (by omega) _).below X1.size (fun i hi => hi))
    exact ⟨none, _, re, hdone _ (X2 _) ((World.putObj_heap_other (by omega)).trans d1)⟩

/-- the end, a record of what is deferred put away -/
theorem step_end_put {K E K' : Nat → Prop} {w W : World} {b h0 D : Nat} {bs : Nat → Nat} {c : Cfg} {l : List Tri} {fs : List (Int × Int)} {x : St} {av lv fv : Value} (eh : h0 = w.heap.size) (hE : ∀ q, E q → K q) (hK : ∀ q, K q → q < w.heap.size) (hKK : ∀ q, K q → K' q) (hbox : ∀ i, h0 ≤ i → i < h0 + 4 → K' i)
    (net : NetK K' W b bs c l fs x) (ha : RowK E W av 3 (fcells tri l)) (hl : ListsK E W lv x.1) (hf : RowK E W fv 2 (fcells pr fs)) (kw : Kept K w W) (hD : h0 + 4 ≤ D) (kD : K' D) (hd : W.heap[D]? = some (.deferred (some [])))
    (h2 : W.heap[h0 + 1 + 1]? = some (.cells zmod 40 (0, 0))) (h3 : W.heap[h0 + 1 + 1 + 1]? = some (.cells #[.bool false] 4 (0, 0))) (cs : Array Value) (hcs : cs = mcs c av lv fv (x.2.1 : Int) x.2.2) :
    (let W2 := W.drew.setRow (h0 + 1 + 1) cs
     let V := W2.setCell ⟨h0 + 1 + 1 + 1, 0, none⟩ (.bool true)
     W2.cell? ⟨h0 + 1 + 1 + 1, 0, none⟩ = some (.bool false) ∧ W2.frozen? ⟨h0 + 1 + 1 + 1, 0, none⟩ = false ∧ V.heap[D]? = some (.deferred (some [])) ∧ (V.putObj D (.deferred none)).heap[h0 + 1 + 1]? = some (.cells cs 40 (0, 0)) ∧ (V.putObj D (.deferred none)).cell? ⟨h0 + 1 + 1 + 1, 0, none⟩ = some (.bool true) ∧
     SteppedS K E w b bs c l fs x (.returned (.tuple #[.agg cs, .bool true])) (V.putObj D (.deferred none)) ∧ Kept (fun i => i ≠ h0 + 1 + 1 ∧ i ≠ h0 + 1 + 1 + 1) W W2 ∧ Kept (fun i => i ≠ h0 + 1 + 1 ∧ i ≠ h0 + 1 + 1 + 1) W V) := by
  intro W2 V
  subst hcs
  have kd : Kept (fun i => i ≠ h0 + 1 + 1 ∧ i ≠ h0 + 1 + 1 + 1) W W.drew := Kept.of_ext ((Ext.refl W).drewN 1)
  have k2 : Kept (fun i => i ≠ h0 + 1 + 1) W.drew W2 := (Kept.refl _ _).setRow (fun hne => hne rfl) _
  have q3 : W2.heap[h0 + 1 + 1 + 1]? = some (.cells #[.bool false] 4 (0, 0)) := k2.row (by omega) h3
  have q2 : W2.heap[h0 + 1 + 1]? = some (.cells (mcs c av lv fv (x.2.1 : Int) x.2.2) 40 (0, 0)) := setRow_heap W.drew _ _ _ _ _ h2
  have k3 : Kept (fun i => i ≠ h0 + 1 + 1 + 1) W2 V := (Kept.refl _ _).setCell (fun hne => hne rfl) _
  have v3 : V.heap[h0 + 1 + 1 + 1]? = some (.cells #[.bool true] 4 (0, 0)) := by
    have e : V = W2.setRow (h0 + 1 + 1 + 1) #[.bool true] := setCell_eq_setRow _ _ _ _ _ _ _ q3
    rw [e]
    exact setRow_heap _ _ _ _ _ _ q3
  have kW2 := kd.trans (k2.mono (fun i (hi : i ≠ h0 + 1 + 1 ∧ i ≠ h0 + 1 + 1 + 1) => hi.1))
  have kV := kW2.trans (k3.mono (fun i (hi : i ≠ h0 + 1 + 1 ∧ i ≠ h0 + 1 + 1 + 1) => hi.2))
  have kP : Kept (fun i => i ≠ D) V (V.putObj D (.deferred none)) := kept_put V (fun h => h rfl) _
  have kA : Kept (fun i => i ≠ h0 + 1 + 1 ∧ i ≠ h0 + 1 + 1 + 1 ∧ i ≠ D) W (V.putObj D (.deferred none)) := (kV.mono (fun i hi => ⟨hi.1, hi.2.1⟩)).trans (kP.mono (fun i hi => hi.2.2))
  have netV : NetK K' (V.putObj D (.deferred none)) b bs c l fs x := (net.keep kA (fun q _ => if e : q = h0 + 1 + 1 ∨ q = h0 + 1 + 1 + 1 then .inl (hbox q (by omega) (by omega)) else if e2 : q = D then .inl (e2 ▸ kD) else .inr (by omega))).less (fun q hq => .inl hq)
  have kK : Kept K W (V.putObj D (.deferred none)) := kA.mono (fun q hq => by have := hK q hq; omega)
  refine ⟨by rw [cell_of_row _ _ 0 _ _ _ q3]; rfl, frozen_of_row _ _ _ _ _ q3, kV.row ⟨by omega, by omega⟩ hd, kP.row (by omega) (k3.row (by omega) q2), by rw [cell_of_row _ _ 0 _ _ _ (kP.row (by omega) v3)]; rfl, ⟨av, lv, fv, K', rfl, hKK, netV, (ha.kept (kK.mono hE)).mono (by decide) (fun q _ h => ⟨hKK q (hE q h), .inl h⟩), (hl.kept (kK.mono hE)).mono (fun q _ h => ⟨hKK q (hE q h), .inl h⟩), (hf.kept (kK.mono hE)).mono (by decide) (fun q _ h => ⟨hKK q (hE q h), .inl h⟩), kw.trans kK⟩, kW2, kV⟩

set_option maxHeartbeats 4000000 in
theorem step_take_no (K E : Nat → Prop) (hE : ∀ q, E q → K q) (w : World) (b : Nat) (bs : Nat → Nat) (c : Cfg) (n : Nat) (hn : c.1 = (n : Int)) (l : List Tri) (fs : List (Int × Int)) (x : St) (av lv fv : Value) (h : NetK K w b bs c l fs x) (hA : RowK E w av 3 (fcells tri l)) (hL : ListsK E w lv x.1) (hF : RowK E w fv 2 (fcells pr fs)) (kind R level later : Int) (tv : Value) (t : List UInt8) (hT : RowK K w tv 1 (bcells t)) (hTP : Plain tv) (now : Int) (now0 : 0 ≤ now) (now1 : now ≤ 1000000) (hk : kind = 4) (hb : R < 0 ∨ (n : Int) ≤ R) :
    Calls Try.prog 10 #[.agg (mcs c av lv fv (x.2.1 : Int) x.2.2), .pointer (some ⟨b, 0, none⟩), .agg #[.int .i64 kind, .int .i64 R, .int .i64 level, .int .i64 later, tv], .int .i64 now] w fun e w' => SteppedS K E w b bs c l fs x e w' := by
  subst hk
  have hth := h.there
  obtain ⟨W0, e0⟩ : ∃ W0, W0 = (((w.alloc (.cells (mcs c av lv fv (x.2.1 : Int) x.2.2) 40)).alloc (.cells #[.int .i64 4, .int .i64 R, .int .i64 level, .int .i64 later, tv] 43)).alloc (.cells zmod 40)).alloc (.cells #[.bool false] 4) := ⟨_, rfl⟩
  have X0 : Ext w W0 := by rw [e0]; exact ((((Ext.refl w).alloc _).alloc _).alloc _).alloc _
  have BX : StepBox W0 w.heap.size (mcs c av lv fv (x.2.1 : Int) x.2.2) 4 R level later tv := by rw [e0]; exact alloc4 w _ _ _ _
  have z0 : w.heap.size + 4 ≤ W0.heap.size := by have := lt_of_row BX.2.2.2; omega
  have H0 := h.more X0
  have HTH := hid hth
  have HEH := hid hE
  have BXH := hid BX
  have X0H := hid X0
  have H0H := hid H0
  have HN := hid hn
  have HA := hid hA
  have HL := hid hL
  have HF := hid hF
  have HT := hid hT
  have HTP := hid hTP
  have Z0 : Hid (w.heap.size + 4 ≤ W0.heap.size) := z0
  have KB : Hid (∀ i, w.heap.size ≤ i → i < w.heap.size + 4 → K i ∨ New w W0 i) := fun i h1 h2 => .inr ⟨h1, by omega⟩
  obtain ⟨⟨m0, m3, m4, m5⟩, o0, o1, o2, o4⟩ := BX.cells
  obtain ⟨ta, tn, tc, et, tl, tb, td, _⟩ := id hT
  rw [bcells_length, Nat.mul_one] at tl
  subst et
  unfold maxLen at td
  have SAV := hid (row_slice hA)
  have SFV := hid (row_slice hF)
  have TN := hid (take_no H0 R now (by omega))
  rw [hn] at m0
  rw [e0] at m0 m3 m4 m5 o0 o1 o2 o4
  unfold zmod at m0 m3 m4 m5 o0 o1 o2 o4
  have E0 := hid e0
  have E0' : Hid (W0 = (((w.alloc (.cells (mcs c av lv fv (x.2.1 : Int) x.2.2) 40)).alloc (.cells #[.int .i64 4, .int .i64 R, .int .i64 level, .int .i64 later, .slice ta tn tc] 43)).alloc (.cells #[.int .i64 0, .int .i64 0, .int .i64 0, .int .i64 0, .int .i64 0, .slice none 0 0, .slice none 0 0, .slice none 0 0, .int .i64 0, .int .i64 0, .int .i64 0, .int .i64 0, .int .i64 0, .int .i64 0, .int .i64 0] 40)).alloc (.cells #[.bool false] 4)) := e0
  clear hE h hA hL hF hT hTP hth BX X0 H0 e0 z0
  have hq : R < 0 ∨ (0 ≤ R ∧ decide (R < (n : Int)) = false) := by
    by_cases r : R < 0
    · exact .inl r
    · exact .inr ⟨by omega, by simp; omega⟩
  rcases hq with r0 | ⟨r0, r1⟩
  all_goals
    refine (callsIn_wide (n := 4)).1 (callsIn_of_wp_marks Try.func10 rfl trivial ?_ rfl)
    refine wpIn_wide.2 ?_
    simp only [Try.ntmps10, List.size_toArray, List.length_cons, List.length_nil, Nat.reduceAdd, Nat.reduceSub, Array.replicate_succ, Array.replicate_zero, List.push_toArray, List.append_toArray, List.nil_append, List.cons_append]
    go_wp2_with fail
    rw [← E0'.out]
    refine TN.out.mono ?_
    rintro e w1 ⟨rfl, e1⟩
    rw [e1]
    clear e1 TN m0 m3 m4 m5 o0 o1 o2 o4
    go_wp2_with fail
    refine rangeNone rfl (fun Wd XD hdf => ?_)
    have hd0 := X0H.out.size
    have n1 := H0H.out.more XD
    have BW := BXH.out.kept (Kept.of_ext (K := fun _ => True) XD) (fun _ _ _ => trivial)
    have KW : Kept K w Wd := (Kept.of_ext X0H.out).trans (Kept.of_ext XD)
    obtain ⟨e1, e2, e3, e4, e5, e6, e9, e10⟩ := step_end_put (b := b) (bs := bs) (c := c) (l := l) (fs := fs) (x := x) (av := av) (lv := lv) (fv := fv) (h0 := w.heap.size) (D := W0.heap.size) rfl HEH.out HTH.out (K' := fun q => (K q ∨ New w W0 q) ∨ New W0 Wd q) (fun q hq => .inl (.inl hq)) (fun i h1 h2 => .inl (KB.out i h1 h2)) n1 (HA.out.kept (KW.mono HEH.out)) (HL.out.kept (KW.mono HEH.out)) (HF.out.kept (KW.mono HEH.out)) KW Z0.out (.inr ⟨Nat.le_refl _, lt_of_row hdf⟩) hdf BW.2.2.1 BW.2.2.2 _ rfl
    have WN := hid (fun m => waiting_no (n1.ext ((Ext.refl Wd).drewN m)) R (by have := HN.out; omega))
    have MBX := hid BW.1
    have ZBX := hid BW.2.2.1
    have ONE := hid (mcs_one c av lv fv (x.2.1 : Int) x.2.2 (by obtain ⟨_, _, _, e⟩ := SAV.out; rw [e]; rfl) (by obtain ⟨_, _, _, e⟩ := lists_slice HL.out; rw [e]; rfl) (by obtain ⟨_, _, _, e⟩ := SFV.out; rw [e]; rfl))
    obtain ⟨⟨m0, m3, m4, m5⟩, o0, o1, o2, o4⟩ := BW.cells
    have E3 := hid e3
    have E4 := hid e4
    have E5 := hid e5
    have E6 := hid e6
    have E9 := hid e9
    have E10 := hid e10
    have hdr : Kept (fun i => i ≠ w.heap.size + 1 + 1 ∧ i ≠ w.heap.size + 1 + 1 + 1) Wd Wd.drew := Kept.of_ext ((Ext.refl Wd).drewN 1)
    have ne0 : w.heap.size ≠ w.heap.size + 1 + 1 ∧ w.heap.size ≠ w.heap.size + 1 + 1 + 1 := by omega
    have ne1 : w.heap.size + 1 ≠ w.heap.size + 1 + 1 ∧ w.heap.size + 1 ≠ w.heap.size + 1 + 1 + 1 := by omega
    clear e3 e4 e5 e6 e9 e10 n1 BW KW hdf
    go_wp2_with fail
    refine wp_region_noPanic ?_
    refine wp_region_held_drew (S := fun V => Kept (fun i => i ≠ w.heap.size + 1 + 1 ∧ i ≠ w.heap.size + 1 + 1 + 1) Wd V) (by kernel_rfl) hdr (fun hHeld => ?_)
    refine takeE (v := .agg (mcs c av lv fv (x.2.1 : Int) x.2.2)) 0 186 rfl rfl (by kernel_rfl) (by kernel_rfl) (by kernel_rfl) (fun _ _ _ h => h) ?_ hHeld ?_
    · exact yields_row 40 (.tmp 4) rfl (by rfl) w.heap.size (by rfl) 40 _ (0, 0) _ (fun U hU => hU.row ne0 MBX.out) Try.underlying40 rfl size_model
    simp only [Act.put, List.setIfInBounds_toArray, List.set_cons_zero, List.set_cons_succ]
    refine takeE (v := ?_) 1 187 rfl rfl (by kernel_rfl) (by kernel_rfl) (by kernel_rfl) (fun _ _ _ h => h) (Or.inl ⟨by rfl, fun V hV => ?_⟩) hHeld ?_
    rotate_left
    · (go_simp; try with_reducible rfl)
    simp only [Act.put, List.setIfInBounds_toArray, List.set_cons_zero, List.set_cons_succ]
    refine takeE (v := ?_) 2 188 rfl rfl (by kernel_rfl) (by kernel_rfl) (by kernel_rfl) (fun _ _ _ h => h) (Or.inl ⟨by rfl, fun V hV => ?_⟩) hHeld ?_
    rotate_left
    · (go_simp; try with_reducible rfl)
    simp only [Act.put, List.setIfInBounds_toArray, List.set_cons_zero, List.set_cons_succ]
    refine takeE (v := ?_) 3 189 rfl rfl (by kernel_rfl) (by kernel_rfl) (by kernel_rfl) (fun _ _ _ h => h) (Or.inl ⟨by rfl, fun V hV => ?_⟩) hHeld ?_
    rotate_left
    · (have z1 := hV.cell (a := ⟨w.heap.size + 1, 1, none⟩) ne1 o1; go_simp; try with_reducible rfl)
    simp only [Act.put, List.setIfInBounds_toArray, List.set_cons_zero, List.set_cons_succ]
    refine callE 4 190 rfl rfl (by kernel_rfl) (by rfl) (by go_simp; first | exact ⟨rfl, rfl⟩ | rfl) ?_
    refine (WN.out 1).mono ?_
    rintro e w3 ⟨rfl, e3⟩
    rw [e3]
    refine ⟨_, rfl, hHeld, ?_⟩
    simp only [Act.put, List.setIfInBounds_toArray, List.set_cons_zero, List.set_cons_succ]
    refine takeE (v := ?_) 5 191 rfl rfl (by kernel_rfl) (by kernel_rfl) (by kernel_rfl) (fun _ _ _ h => h) (Or.inl ⟨by rfl, fun V hV => ?_⟩) hHeld ?_
    rotate_left
    · (go_simp; try with_reducible rfl)
    simp only [Act.put, List.setIfInBounds_toArray, List.set_cons_zero, List.set_cons_succ]
    refine storeE 6 rfl (by kernel_rfl) (by rfl) (w' := Wd.drew.setRow (w.heap.size + 1 + 1) (mcs c av lv fv (x.2.1 : Int) x.2.2)) (exec_store 40 (.tmp 8) (.tmp 186) rfl (run_store_whole Wd.drew (w.heap.size + 1 + 1) _ _ zmod _ ZBX.out size_model rfl ONE.out)) E9.out ?_
    simp only [Act.put]
    refine storeE 7 rfl (by kernel_rfl) (by rfl) (w' := (Wd.drew.setRow (w.heap.size + 1 + 1) (mcs c av lv fv (x.2.1 : Int) x.2.2)).setCell ⟨w.heap.size + 1 + 1 + 1, 0, none⟩ (.bool true)) (by go_simp; try with_reducible rfl) E10.out ?_
    simp only [Act.put]
    refine wpAnyH_done (by kernel_rfl) ?_ _
    refine NoPanic.normal ?_
    clear hHeld e1 e2 hdr m0 m3 m4 m5 o0 o1 o2 o4 e3
    go_wp2_with fail
    refine ⟨by simp, .inl ⟨_, _, rfl, run_takeDeferred E3.out, ?_⟩⟩
    refine ⟨.tuple #[.agg (mcs c av lv fv (x.2.1 : Int) x.2.2), .bool true], results_row_bool Try.results10 _ _ (w.heap.size + 1 + 1) (w.heap.size + 1 + 1 + 1) 40 _ (0, 0) _ true rfl E4.out rfl E5.out Try.underlying40 rfl size_model Try.underlying4, ?_⟩
    exact E6.out
end Go.Proofs.Ytjmgigfaiaemeaa.Sim

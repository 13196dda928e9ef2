/-
  The model's step: an asking.
-/
import Derived.Test.YtjmgigfaiaemeaaSimStep6
namespace Go.Proofs.Ytjmgigfaiaemeaa.Sim
set_option linter.unusedVariables false
set_option maxRecDepth 100000
open Go.RowKit Go.Lib Go.Shelf Go.Proofs.Ytjmgigfaiaemeaa.Crc Go.Proofs.Ytjmgigfaiaemeaa.Grp
open Go.Proofs.Ytjmgigfaiaemeaa.Pip hiding NewR
attribute [local go_sem] Oper.semAt_some

/-- an asking, the net's row as it was -/
theorem NetK.asked {K : Nat → Prop} {w : World} {b : Nat} {bs : Nat → Nat} {c : Cfg} {l : List Tri} {fs : List (Int × Int)} {x : St} (h : NetK K w b bs c l fs x) (n : Nat) (hn : c.1 = (n : Int)) :
    ∃ gb, w.cell? ⟨b, 0, none⟩ = some (.pointer (some ⟨gb, 0, none⟩)) ∧
      (∀ a : Tri, Calls Try.prog 13 #[.pointer (some ⟨gb, 0, none⟩), .int .i64 a.1, .int .i64 a.2.1, .int .i64 a.2.2] w fun e w' => e = .returned (.int .i64 (wrg c.2.2.2.1 c.2.2.2.2 n l a)) ∧ NetK K w' b bs c (aft c.2.2.2.1 c.2.2.2.2 n l a) fs x ∧ Kept K w w' ∧ w'.cell? ⟨b, 0, none⟩ = some (.pointer (some ⟨gb, 0, none⟩))) := by
  obtain ⟨K2, gb, gg, gc, n', dv, fv, h⟩ := h
  obtain rfl : n = n' := by have := h.1.1; omega
  refine ⟨gb, h.cells 0 _ rfl, fun a => ?_⟩
  refine (ask_any gb gg gc n _ _ l a w h.2.2.1).mono ?_
  rintro e w' ⟨rfl, g, k⟩
  have q := h.grp k g
  exact ⟨rfl, q.1.k, q.2, q.1.cells 0 _ rfl⟩

set_option maxHeartbeats 4000000 in
theorem step_ask_bad (K E : Nat → Prop) (hE : ∀ q, E q → K q) (w : World) (b : Nat) (bs : Nat → Nat) (c : Cfg) (n : Nat) (hn : c.1 = (n : Int)) (l : List Tri) (fs : List (Int × Int)) (x : St) (av lv fv : Value) (h : NetK K w b bs c l fs x) (hA : RowK E w av 3 (fcells tri l)) (hL : ListsK E w lv x.1) (hF : RowK E w fv 2 (fcells pr fs)) (kind R level later : Int) (tv : Value) (t : List UInt8) (hT : RowK K w tv 1 (bcells t)) (hTP : Plain tv) (now : Int) (now0 : 0 ≤ now) (now1 : now ≤ 1000000) (hk : kind = 1) (hb : R < 0 ∨ (n : Int) ≤ R ∨ level < -1 ∨ 7 < level) :
    Calls Try.prog 10 #[.agg (mcs c av lv fv (x.2.1 : Int) x.2.2), .pointer (some ⟨b, 0, none⟩), .agg #[.int .i64 kind, .int .i64 R, .int .i64 level, .int .i64 later, tv], .int .i64 now] w fun e w' => SteppedS K E w b bs c l fs x e w' := by
  subst hk
  have hth := h.there
  obtain ⟨W0, e0⟩ : ∃ W0, W0 = (((w.alloc (.cells (mcs c av lv fv (x.2.1 : Int) x.2.2) 40)).alloc (.cells #[.int .i64 1, .int .i64 R, .int .i64 level, .int .i64 later, tv] 43)).alloc (.cells zmod 40)).alloc (.cells #[.bool false] 4) := ⟨_, rfl⟩
  have X0 : Ext w W0 := by rw [e0]; exact ((((Ext.refl w).alloc _).alloc _).alloc _).alloc _
  have BX : StepBox W0 w.heap.size (mcs c av lv fv (x.2.1 : Int) x.2.2) 1 R level later tv := by rw [e0]; exact alloc4 w _ _ _ _
  have z0 : w.heap.size + 4 ≤ W0.heap.size := by have := lt_of_row BX.2.2.2; omega
  have H0 := h.more X0
  have HTH := hid hth
  have HEH := hid hE
  have BXH := hid BX
  have X0H := hid X0
  have H0H := hid H0
  have HN := hid hn
  have HA := hid hA
  have HL := hid hL
  have HF := hid hF
  have HT := hid hT
  have HTP := hid hTP
  have Z0 : Hid (w.heap.size + 4 ≤ W0.heap.size) := z0
  have KB : Hid (∀ i, w.heap.size ≤ i → i < w.heap.size + 4 → K i ∨ New w W0 i) := fun i h1 h2 => .inr ⟨h1, by omega⟩
  obtain ⟨⟨m0, m3, m4, m5⟩, o0, o1, o2, o4⟩ := BX.cells
  obtain ⟨ta, tn, tc, et, tl, tb, td, _⟩ := id hT
  rw [bcells_length, Nat.mul_one] at tl
  subst et
  unfold maxLen at td
  have SAV := hid (row_slice hA)
  have SFV := hid (row_slice hF)
  obtain ⟨gb, c0, GA⟩ := (H0.ext (show Ext W0 W0.drew from (Ext.refl W0).drewN 1)).asked n hn
  have GA := GA (R, level, now)
  have SDH : Hid ((fun V => V.cell? ⟨b, 0, none⟩ = some (.pointer (some ⟨gb, 0, none⟩)) ∧ V.cell? ⟨w.heap.size + 1, 1, none⟩ = some (.int .i64 R) ∧ V.cell? ⟨w.heap.size + 1, 2, none⟩ = some (.int .i64 level)) W0.drew) := ⟨c0, (Kept.of_ext (K := fun _ => True) (show Ext W0 W0.drew from (Ext.refl W0).drewN 1)).cell trivial o1, (Kept.of_ext (K := fun _ => True) (show Ext W0 W0.drew from (Ext.refl W0).drewN 1)).cell trivial o2⟩
  have eW : wrg c.2.2.2.1 c.2.2.2.2 n l (R, level, now) = 11 := by
    unfold wrg
    rw [if_pos (by unfold badAsk; simp only; omega)]
  have eA : aft c.2.2.2.1 c.2.2.2.2 n l (R, level, now) = l := by
    unfold aft
    rw [eW, if_neg (by decide)]
  rw [eW, eA] at GA
  have GA := hid GA
  clear eW eA c0
  rw [hn] at m0
  rw [e0] at m0 m3 m4 m5 o0 o1 o2 o4
  unfold zmod at m0 m3 m4 m5 o0 o1 o2 o4
  have E0 := hid e0
  have E0' : Hid (W0 = (((w.alloc (.cells (mcs c av lv fv (x.2.1 : Int) x.2.2) 40)).alloc (.cells #[.int .i64 1, .int .i64 R, .int .i64 level, .int .i64 later, .slice ta tn tc] 43)).alloc (.cells #[.int .i64 0, .int .i64 0, .int .i64 0, .int .i64 0, .int .i64 0, .slice none 0 0, .slice none 0 0, .slice none 0 0, .int .i64 0, .int .i64 0, .int .i64 0, .int .i64 0, .int .i64 0, .int .i64 0, .int .i64 0] 40)).alloc (.cells #[.bool false] 4)) := e0
  clear hE h hA hL hF hT hTP hth BX X0 H0 e0 z0
  have hq : R < 0 ∨ (0 ≤ R ∧ (n : Int) ≤ R) ∨ (0 ≤ R ∧ R < (n : Int) ∧ level < -1) ∨ (0 ≤ R ∧ R < (n : Int) ∧ -1 ≤ level ∧ 7 < level) := by omega
  clear hb
  rcases hq with hr | ⟨hr0, hr⟩ | ⟨hr0, hr1, hr⟩ | ⟨hr0, hr1, hr2, hr⟩
  all_goals
    go_enter Try.func10, Try.ntmps10
    go_wp2_with fail
    rw [← E0'.out]
    refine wp_region_held_drew (S := (fun V => V.cell? ⟨b, 0, none⟩ = some (.pointer (some ⟨gb, 0, none⟩)) ∧ V.cell? ⟨w.heap.size + 1, 1, none⟩ = some (.int .i64 R) ∧ V.cell? ⟨w.heap.size + 1, 2, none⟩ = some (.int .i64 level))) (by kernel_rfl) SDH.out (fun hHeld => ?_)
    refine takeE (v := ?_) 0 32 rfl rfl (by kernel_rfl) (by kernel_rfl) (by kernel_rfl) (fun _ _ _ h => h) (Or.inl ⟨by rfl, fun V hV => ?_⟩) hHeld ?_
    rotate_left
    · (go_simp; try with_reducible rfl)
    simp only [Act.put, List.setIfInBounds_toArray, List.set_cons_zero, List.set_cons_succ]
    refine takeE (v := ?_) 1 33 rfl rfl (by kernel_rfl) (by kernel_rfl) (by kernel_rfl) (fun _ _ _ h => h) (Or.inl ⟨by rfl, fun V hV => ?_⟩) hHeld ?_
    rotate_left
    · (go_simp; try with_reducible rfl)
    simp only [Act.put, List.setIfInBounds_toArray, List.set_cons_zero, List.set_cons_succ]
    refine takeE (v := ?_) 2 34 rfl rfl (by kernel_rfl) (by kernel_rfl) (by kernel_rfl) (fun _ _ _ h => h) (Or.inl ⟨by rfl, fun V hV => ?_⟩) hHeld ?_
    rotate_left
    · (go_simp; try with_reducible rfl)
    simp only [Act.put, List.setIfInBounds_toArray, List.set_cons_zero, List.set_cons_succ]
    refine takeE (v := ?_) 3 35 rfl rfl (by kernel_rfl) (by kernel_rfl) (by kernel_rfl) (fun _ _ _ h => h) (Or.inl ⟨by rfl, fun V hV => ?_⟩) hHeld ?_
    rotate_left
    · (have z0 := hV.1; have z1 := hV.2.1; have z2 := hV.2.2; go_simp; try with_reducible rfl)
    simp only [Act.put, List.setIfInBounds_toArray, List.set_cons_zero, List.set_cons_succ]
    refine takeE (v := ?_) 4 36 rfl rfl (by kernel_rfl) (by kernel_rfl) (by kernel_rfl) (fun _ _ _ h => h) (Or.inl ⟨by rfl, fun V hV => ?_⟩) hHeld ?_
    rotate_left
    · (go_simp; try with_reducible rfl)
    simp only [Act.put, List.setIfInBounds_toArray, List.set_cons_zero, List.set_cons_succ]
    refine takeE (v := ?_) 5 37 rfl rfl (by kernel_rfl) (by kernel_rfl) (by kernel_rfl) (fun _ _ _ h => h) (Or.inl ⟨by rfl, fun V hV => ?_⟩) hHeld ?_
    rotate_left
    · (have z0 := hV.1; have z1 := hV.2.1; have z2 := hV.2.2; go_simp; try with_reducible rfl)
    simp only [Act.put, List.setIfInBounds_toArray, List.set_cons_zero, List.set_cons_succ]
    refine takeE (v := ?_) 6 38 rfl rfl (by kernel_rfl) (by kernel_rfl) (by kernel_rfl) (fun _ _ _ h => h) (Or.inl ⟨by rfl, fun V hV => ?_⟩) hHeld ?_
    rotate_left
    · (go_simp; try with_reducible rfl)
    simp only [Act.put, List.setIfInBounds_toArray, List.set_cons_zero, List.set_cons_succ]
    refine takeE (v := ?_) 7 39 rfl rfl (by kernel_rfl) (by kernel_rfl) (by kernel_rfl) (fun _ _ _ h => h) (Or.inl ⟨by rfl, fun V hV => ?_⟩) hHeld ?_
    rotate_left
    · (have z0 := hV.1; have z1 := hV.2.1; have z2 := hV.2.2; go_simp; try with_reducible rfl)
    simp only [Act.put, List.setIfInBounds_toArray, List.set_cons_zero, List.set_cons_succ]
    refine takeE (v := ?_) 8 40 rfl rfl (by kernel_rfl) (by kernel_rfl) (by kernel_rfl) (fun _ _ _ h => h) (Or.inl ⟨by rfl, fun V hV => ?_⟩) hHeld ?_
    rotate_left
    · (go_simp; try with_reducible rfl)
    simp only [Act.put, List.setIfInBounds_toArray, List.set_cons_zero, List.set_cons_succ]
    refine callE 9 41 rfl rfl (by kernel_rfl) (by rfl) (by go_simp; first | exact ⟨rfl, rfl⟩ | rfl) ?_
    refine GA.out.mono ?_
    rintro e w1 ⟨rfl, n1, k1', c1⟩
    have k1 : Kept (fun q => K q ∨ New w W0 q) W0 w1 := (Kept.of_ext (show Ext W0 W0.drew from (Ext.refl W0).drewN 1)).trans k1'
    have BW := BXH.out.kept k1 (fun i h1 h2 => KB.out i h1 h2)
    have KW : Kept K w w1 := (Kept.of_ext X0H.out).trans (k1.mono (fun q hq => .inl hq))
    have hS1 : w1.cell? ⟨b, 0, none⟩ = some (.pointer (some ⟨gb, 0, none⟩)) ∧ w1.cell? ⟨w.heap.size + 1, 1, none⟩ = some (.int .i64 R) ∧ w1.cell? ⟨w.heap.size + 1, 2, none⟩ = some (.int .i64 level) := ⟨c1, (by rw [cell_of_row _ _ 1 _ _ _ BW.2.1]; rfl), (by rw [cell_of_row _ _ 2 _ _ _ BW.2.1]; rfl)⟩
    refine ⟨_, rfl, hS1, ?_⟩
    simp only [Act.put, List.setIfInBounds_toArray, List.set_cons_zero, List.set_cons_succ]
    refine takeE (v := ?_) 10 11 rfl rfl (by kernel_rfl) (by kernel_rfl) (by kernel_rfl) (fun _ _ _ h => h) (Or.inl ⟨by rfl, fun V hV => ?_⟩) hS1 ?_
    rotate_left
    · (go_simp; try with_reducible rfl)
    simp only [Act.put, List.setIfInBounds_toArray, List.set_cons_zero, List.set_cons_succ]
    refine wpAnyH_done (by kernel_rfl) ?_ _
    clear hHeld hS1 c1 k1 k1' m0 m3 m4 m5 o0 o1 o2 o4
    obtain ⟨⟨m0, m3, m4, m5⟩, o0, o1, o2, o4⟩ := BW.cells
    rw [HN.out] at m0
    obtain ⟨e1, e2, e3, e4, e5⟩ := step_end (b := b) (bs := bs) (c := c) (l := l) (fs := fs) (x := x) (av := av) (lv := lv) (fv := fv) (h0 := w.heap.size) rfl HEH.out HTH.out (K' := (fun q => K q ∨ New w W0 q)) (fun q hq => .inl hq) KB.out n1 ((HA.out.kept (KW.mono HEH.out)).mono (L := Dat E (fun q => K q ∨ New w W0 q) w.heap.size) (by decide) (fun q _ h => .inl h)) ((HL.out.kept (KW.mono HEH.out)).mono (L := Dat E (fun q => K q ∨ New w W0 q) w.heap.size) (fun q _ h => .inl h)) ((HF.out.kept (KW.mono HEH.out)).mono (L := Dat E (fun q => K q ∨ New w W0 q) w.heap.size) (by decide) (fun q _ h => .inl h)) KW BW.2.2.1 BW.2.2.2 _ rfl
    have MBX := BW.1
    have ZBX := BW.2.2.1
    have ONE := hid (mcs_one c av lv fv (((x : St).2.1 : Nat) : Int) (x : St).2.2 (by obtain ⟨_, _, _, e⟩ := SAV.out; rw [e]; rfl) (by obtain ⟨_, _, _, e⟩ := lists_slice ((HL.out.kept (KW.mono HEH.out)).mono (L := Dat E (fun q => K q ∨ New w W0 q) w.heap.size) (fun q _ h => .inl h)); rw [e]; rfl) (by obtain ⟨_, _, _, e⟩ := SFV.out; rw [e]; rfl))
    have E3 := hid e3
    have E4 := hid e4
    have E5 := hid e5
    have MBXH := hid MBX
    have ZBXH := hid ZBX
    clear e3 e4 e5 MBX ZBX
    clear BW KW n1 GA SDH
    go_wp2_with (first
      | refine wpList_load_row rfl 40 (.tmp 4) rfl w.heap.size rfl 40 _ (0, 0) _ MBXH.out Try.underlying40 rfl size_model ?_
      | refine wpList_store_row rfl 40 (.tmp 8) (.tmp 54) rfl (w.heap.size + 1 + 1) _ rfl rfl 40 _ ZBXH.out size_model rfl ONE.out ?_)
    refine bodyPost_ret (results_row_bool Try.results10 _ _ (w.heap.size + 1 + 1) (w.heap.size + 1 + 1 + 1) 40 _ (0, 0) _ true rfl E3.out rfl E4.out Try.underlying40 rfl size_model Try.underlying4) rfl ?_
    exact E5.out
end Go.Proofs.Ytjmgigfaiaemeaa.Sim

/-
  The model's step: a message to all members of a layer.
-/
import Derived.Test.YtjmgigfaiaemeaaSimStepM
import Derived.Test.YtjmgigfaiaemeaaGrpRef
namespace Go.Proofs.Ytjmgigfaiaemeaa.Sim
set_option linter.unusedVariables false
set_option maxRecDepth 100000
open Go.RowKit Go.Lib Go.Shelf Go.Proofs.Ytjmgigfaiaemeaa.Crc Go.Proofs.Ytjmgigfaiaemeaa.Grp
open Go.Proofs.Ytjmgigfaiaemeaa.Pip hiding NewR
attribute [local go_sem] Oper.semAt_some

theorem NetK.fits {K : Nat → Prop} {w : World} {b : Nat} {bs : Nat → Nat} {c : Cfg} {l : List Tri} {fs : List (Int × Int)} {x : St} (h : NetK K w b bs c l fs x) : Fit c.1 l ∧ 0 ≤ c.2.2.2.1 ∧ c.2.2.2.1 ≤ 64 ∧ 0 ≤ c.2.2.2.2 ∧ c.2.2.2.2 ≤ 64 := by
  obtain ⟨K2, gb, gg, gc, n', dv, fv, h⟩ := h
  have g := h.2.2.1.1
  rw [h.1.1]
  exact ⟨g.2.2.2.2.2.2, g.2.2.1, g.2.2.2.1, g.2.2.2.2.1, g.2.2.2.2.2.1⟩

set_option maxHeartbeats 8000000 in
theorem step_send_ok (K E : Nat → Prop) (hE : ∀ q, E q → K q) (w : World) (b : Nat) (bs : Nat → Nat) (c : Cfg) (n : Nat) (hn : c.1 = (n : Int)) (l : List Tri) (fs : List (Int × Int)) (x : St) (av lv fv : Value) (h : NetK K w b bs c l fs x) (hA : RowK E w av 3 (fcells tri l)) (hL : ListsK E w lv x.1) (hF : RowK E w fv 2 (fcells pr fs)) (kind R level later : Int) (tv : Value) (t : List UInt8) (hT : RowK K w tv 1 (bcells t)) (hTP : Plain tv) (now : Int) (now0 : 0 ≤ now) (now1 : now ≤ 1000000) (hk : kind = 2) (h0 : 0 ≤ level) (h1 : level ≤ 7) (h2 : t.length ≤ 320) (hla : l.length ≤ 1000) (hs : SB 600000000 x.2.2) (hfs : fs.length ≤ 1000) (hfb : ∀ f ∈ fs, -9223372036854775808 ≤ f.2 ∧ f.2 ≤ 9223372036854775807) :
    Calls Try.prog 10 #[.agg (mcs c av lv fv (x.2.1 : Int) x.2.2), .pointer (some ⟨b, 0, none⟩), .agg #[.int .i64 kind, .int .i64 R, .int .i64 level, .int .i64 later, tv], .int .i64 now] w fun e w' => SteppedS K E w b bs c l fs (gvs c fs now t x (mem c.2.2.2.1 c.2.2.2.2 l level now n)) e w' := by
  subst hk
  have hth := h.there
  obtain ⟨W0, e0⟩ : ∃ W0, W0 = (((w.alloc (.cells (mcs c av lv fv (x.2.1 : Int) x.2.2) 40)).alloc (.cells #[.int .i64 2, .int .i64 R, .int .i64 level, .int .i64 later, tv] 43)).alloc (.cells zmod 40)).alloc (.cells #[.bool false] 4) := ⟨_, rfl⟩
  have X0 : Ext w W0 := by rw [e0]; exact ((((Ext.refl w).alloc _).alloc _).alloc _).alloc _
  have BX : StepBox W0 w.heap.size (mcs c av lv fv (x.2.1 : Int) x.2.2) 2 R level later tv := by rw [e0]; exact alloc4 w _ _ _ _
  have z0 : w.heap.size + 4 ≤ W0.heap.size := by have := lt_of_row BX.2.2.2; omega
  have H0 := h.more X0
  have HTH := hid hth
  have HEH := hid hE
  have BXH := hid BX
  have X0H := hid X0
  have H0H := hid H0
  have HN := hid hn
  have HA := hid hA
  have HL := hid hL
  have HF := hid hF
  have HT := hid hT
  have HTP := hid hTP
  have Z0 : Hid (w.heap.size + 4 ≤ W0.heap.size) := z0
  have KB : Hid (∀ i, w.heap.size ≤ i → i < w.heap.size + 4 → K i ∨ New w W0 i) := fun i h1 h2 => .inr ⟨h1, by omega⟩
  obtain ⟨⟨m0, m3, m4, m5⟩, o0, o1, o2, o4⟩ := BX.cells
  obtain ⟨ta, tn, tc, et, tl, tb, td, _⟩ := id hT
  rw [bcells_length, Nat.mul_one] at tl
  subst et
  unfold maxLen at td
  have SAV := hid (row_slice hA)
  have SFV := hid (row_slice hF)
  have SO := hid (send_net H0 n hn level (.slice ta tn tc) t now ((HT.out.kept (Kept.of_ext X0)).mono (L := fun q => K q ∨ New w W0 q) (by decide) (fun q _ h => .inl h)) hTP h0 (by omega) ⟨now0, by omega, h2⟩ (hs.mono (by omega)) hfs hfb)
  have XL : x.1.length = n + 1 := by obtain ⟨n', _, _, _, e1, _, _, e2, _⟩ := h.down; omega
  have N64 : n ≤ 64 := by obtain ⟨n', _, _, _, e1, _, e2, _⟩ := h.down; omega
  have DL := h.delay.2
  obtain ⟨fit, j1, j2, l1, l2⟩ := h.fits
  have RM : Hid (∀ i, (x.1.getD i []).length ≤ 256) := fun i => h.room i
  have LEV : Hid (∀ (W : World) (r : Int), RowK E W av 3 (fcells tri l) → Calls Try.prog 21 #[av, .int .i64 r, .int .i64 c.2.2.2.1, .int .i64 c.2.2.2.2, .int .i64 now] W fun e w' => e = .returned (.int .i64 (lat c.2.2.2.1 c.2.2.2.2 (st c.2.2.2.1 c.2.2.2.2 l r) now)) ∧ Ext W w') := fun W r hv => refLevel_any E c.1 av l r _ _ now W hv hla fit j1 j2 l1 l2
  have LB : Hid (∀ r, -1 ≤ lat c.2.2.2.1 c.2.2.2.2 (st c.2.2.2.1 c.2.2.2.2 l r) now ∧ lat c.2.2.2.1 c.2.2.2.2 (st c.2.2.2.1 c.2.2.2.2 l r) now ≤ 7) := fun r => lat_fit (st_fit fit r) now
  have GA : Hid (∀ (W : World) (lv2 : Value) (Kd : Nat → Prop) (k : Nat), k < n → (∀ q, E q → Kd q) → Kept K w W → ListsK Kd W lv2 (gvs c fs now t x (mem c.2.2.2.1 c.2.2.2.2 l level now k)).1 → Calls Try.prog 22 #[.agg (mcs c av lv2 fv ((gvs c fs now t x (mem c.2.2.2.1 c.2.2.2.2 l level now k)).2.1 : Int) (gvs c fs now t x (mem c.2.2.2.1 c.2.2.2.2 l level now k)).2.2), .int .i64 (k : Int), .int .i64 now, .string (str t)] W fun e w' => ∃ lv', e = .returned (.agg (mcs c av lv' fv ((gv c fs now t (gvs c fs now t x (mem c.2.2.2.1 c.2.2.2.2 l level now k)) k).2.1 : Int) (gv c fs now t (gvs c fs now t x (mem c.2.2.2.1 c.2.2.2.2 l level now k)) k).2.2)) ∧ ListsK (fun i => Kd i ∨ New W w' i) w' lv' (gv c fs now t (gvs c fs now t x (mem c.2.2.2.1 c.2.2.2.2 l level now k)) k).1 ∧ Ext W w') := fun W lv2 Kd k hk hKd kw hl2 => by
    have ml := mem_length_le c.2.2.2.1 c.2.2.2.2 l level now k
    have r1 := gvs_room c fs now t k (mem c.2.2.2.1 c.2.2.2.2 l level now k) x
    have r2 : (x.1.getD k []).length ≤ 256 := RM.out k
    exact give_any Kd c av lv2 fv fs _ k now t W hl2 ((HF.out.kept (kw.mono hE)).mono (by decide) (fun q _ h => hKd q h)) (by rw [gvs_length]; omega) (by rw [gvs_length]; omega) hfb (by obtain ⟨_, _, _, e⟩ := SAV.out; rw [e]; rfl) (by omega) ((gvs_bound c fs now t _ x _ hs).mono (by omega)) (by omega) now0 (by omega) DL.1 DL.2
  have MSUC : Hid (∀ k : Nat, mem c.2.2.2.1 c.2.2.2.2 l level now (k + 1) = mem c.2.2.2.1 c.2.2.2.2 l level now k ++ if level ≤ lat c.2.2.2.1 c.2.2.2.2 (st c.2.2.2.1 c.2.2.2.2 l (k : Int)) now then [(k : Int)] else []) := fun k => mem_succ _ _ _ _ _ k
  have MLE : Hid (∀ k : Nat, (mem c.2.2.2.1 c.2.2.2.2 l level now k).length ≤ k) := fun k => mem_length_le _ _ _ _ _ k
  rw [hn] at m0
  rw [e0] at m0 m3 m4 m5 o0 o1 o2 o4
  unfold zmod at m0 m3 m4 m5 o0 o1 o2 o4
  have E0 := hid e0
  have E0' : Hid (W0 = (((w.alloc (.cells (mcs c av lv fv (x.2.1 : Int) x.2.2) 40)).alloc (.cells #[.int .i64 2, .int .i64 R, .int .i64 level, .int .i64 later, .slice ta tn tc] 43)).alloc (.cells #[.int .i64 0, .int .i64 0, .int .i64 0, .int .i64 0, .int .i64 0, .slice none 0 0, .slice none 0 0, .slice none 0 0, .int .i64 0, .int .i64 0, .int .i64 0, .int .i64 0, .int .i64 0, .int .i64 0, .int .i64 0] 40)).alloc (.cells #[.bool false] 4)) := e0
  clear hE h hA hL hF hT hTP hth BX X0 H0 e0 z0
  clear hs hfs hfb DL XL hla fit j1 j2 l1 l2
  have h2' : (tn : Int) ≤ 320 := by omega
  have h0' : ¬ level < 0 := by omega
  have h1' : ¬ 7 < level := by omega
  clear h2
  by_cases r0 : 0 ≤ R
  all_goals
    go_enter Try.func10, Try.ntmps10
    go_wp2_with fail
    rw [← E0'.out]
    refine SO.out.mono ?_
    rintro e w1 ⟨rfl, n1, k1'⟩
    have BW := BXH.out.kept k1' (fun i h1 h2 => KB.out i h1 h2)
    have KW := hid ((Kept.of_ext X0H.out).trans (k1'.mono (L := K) (fun q hq => .inl hq)))
    have N1 := hid n1
    have BW1 := hid BW
    have Z1 : Hid (w.heap.size + 4 ≤ w1.heap.size) := Nat.le_trans Z0.out k1'.size
    clear m0 m3 m4 m5 o0 o1 o2 o4 SO
    obtain ⟨⟨m0, m3, m4, m5⟩, o0, o1, o2, o4⟩ := BW.cells
    rw [HN.out] at m0
    have LST : Hid (w1.heap[w.heap.size]? = some (.cells (mcs c av lv fv ((gvs c fs now t x (mem c.2.2.2.1 c.2.2.2.2 l level now 0)).2.1 : Int) (gvs c fs now t x (mem c.2.2.2.1 c.2.2.2.2 l level now 0)).2.2) 40 (0, 0)) ∧ ListsK (fun q => E q ∨ New w1 w1 q) w1 lv (gvs c fs now t x (mem c.2.2.2.1 c.2.2.2.2 l level now 0)).1) := ⟨BW.1, (HL.out.kept (KW.out.mono HEH.out)).mono (fun q _ h => .inl h)⟩
    clear BW n1 k1'
    go_wp2_with fail
    go_loopw [14, 15, 109] (fun wantv _ iv wr => ∃ (k : Nat) (lvk : Value), k ≤ n ∧ wantv = .int .i64 ((mem c.2.2.2.1 c.2.2.2.2 l level now k).length : Int) ∧ iv = .int .i64 (k : Int) ∧ Hid (Kept (fun i => i ≠ w.heap.size) w1 wr) ∧ Hid (wr.heap[w.heap.size]? = some (.cells (mcs c av lvk fv ((gvs c fs now t x (mem c.2.2.2.1 c.2.2.2.2 l level now k)).2.1 : Int) (gvs c fs now t x (mem c.2.2.2.1 c.2.2.2.2 l level now k)).2.2) 40 (0, 0)) ∧ ListsK (fun q => E q ∨ New w1 wr q) wr lvk (gvs c fs now t x (mem c.2.2.2.1 c.2.2.2.2 l level now k)).1)) (fun _ _ iv _ => (n - intOf iv).toNat)
    case atStart => exact ⟨0, lv, by omega, rfl, rfl, Kept.refl _ _, LST⟩
    case round =>
      obtain ⟨k, lvk, hk, rfl, rfl, kr, hr⟩ := hrel
      clear LST m0 m3 m4 m5 o0 o1 o2 o4
      have mle := MLE.out k
      have KWR : Hid (Kept K w wr) := KW.out.trans (kr.out.mono (fun q hq => by have := HTH.out q hq; omega))
      have BWR := BW1.out.2.1
      have o2 : wr.cell? ⟨w.heap.size + 1, 2, none⟩ = some (.int .i64 level) := kr.out.cell (a := ⟨w.heap.size + 1, 2, none⟩) (by show w.heap.size + 1 ≠ w.heap.size; omega) BW1.out.cells.2.2.2.1
      have o4 : wr.cell? ⟨w.heap.size + 1, 4, none⟩ = some (.slice ta tn tc) := kr.out.cell (a := ⟨w.heap.size + 1, 4, none⟩) (by show w.heap.size + 1 ≠ w.heap.size; omega) BW1.out.cells.2.2.2.2
      have m3 : wr.cell? ⟨w.heap.size, 3, none⟩ = some (.int .i64 c.2.2.2.1) := by rw [cell_of_row _ _ 3 _ _ _ hr.out.1]; rfl
      have m4 : wr.cell? ⟨w.heap.size, 4, none⟩ = some (.int .i64 c.2.2.2.2) := by rw [cell_of_row _ _ 4 _ _ _ hr.out.1]; rfl
      have m5 : wr.cell? ⟨w.heap.size, 5, none⟩ = some av := by rw [cell_of_row _ _ 5 _ _ _ hr.out.1]; rfl
      by_cases q : k < n
      · have i1 : (k : Int) < (n : Int) := by omega
        have LV : Hid (Calls Try.prog 21 #[av, .int .i64 (k : Int), .int .i64 c.2.2.2.1, .int .i64 c.2.2.2.2, .int .i64 now] wr.drew fun e w' => e = .returned (.int .i64 (lat c.2.2.2.1 c.2.2.2.2 (st c.2.2.2.1 c.2.2.2.2 l (k : Int)) now)) ∧ Ext wr w') := by
          refine (LEV.out wr.drew k (HA.out.kept ((KWR.out.trans (Kept.of_ext ((Ext.refl wr).drewN 1))).mono HEH.out))).mono ?_
          rintro e w' ⟨rfl, x⟩
          exact ⟨rfl, (show Ext wr wr.drew from (Ext.refl wr).drewN 1).trans x⟩
        have lb := LB.out (k : Int)
        have MS := hid (MSUC.out k)
        obtain ⟨Lk, eLk⟩ : ∃ Lk, Lk = lat c.2.2.2.1 c.2.2.2.2 (st c.2.2.2.1 c.2.2.2.2 l (k : Int)) now := ⟨_, rfl⟩
        rw [← eLk] at LV lb MS
        clear eLk
        have xd : Ext wr wr.drew := (Ext.refl wr).drewN 1
        go_wp2_with fail
        refine wp_region_held_drew (S := fun V => Ext wr V) (by kernel_rfl) xd (fun hHeld => ?_)
        refine takeE (v := ?_) 0 112 rfl rfl (by kernel_rfl) (by kernel_rfl) (by kernel_rfl) (fun _ _ _ h => h) (Or.inl ⟨by rfl, fun V hV => ?_⟩) hHeld ?_
        rotate_left
        · (go_simp; try with_reducible rfl)
        simp only [Act.put, List.setIfInBounds_toArray, List.set_cons_zero, List.set_cons_succ]
        refine takeE (v := ?_) 1 113 rfl rfl (by kernel_rfl) (by kernel_rfl) (by kernel_rfl) (fun _ _ _ h => h) (Or.inl ⟨by rfl, fun V hV => ?_⟩) hHeld ?_
        rotate_left
        · (have z3 := hV.cell m3; have z4 := hV.cell m4; have z5 := hV.cell m5; have z2 := hV.cell o2; go_simp; try with_reducible rfl)
        simp only [Act.put, List.setIfInBounds_toArray, List.set_cons_zero, List.set_cons_succ]
        refine takeE (v := ?_) 2 114 rfl rfl (by kernel_rfl) (by kernel_rfl) (by kernel_rfl) (fun _ _ _ h => h) (Or.inl ⟨by rfl, fun V hV => ?_⟩) hHeld ?_
        rotate_left
        · (go_simp; try with_reducible rfl)
        simp only [Act.put, List.setIfInBounds_toArray, List.set_cons_zero, List.set_cons_succ]
        refine takeE (v := ?_) 3 115 rfl rfl (by kernel_rfl) (by kernel_rfl) (by kernel_rfl) (fun _ _ _ h => h) (Or.inl ⟨by rfl, fun V hV => ?_⟩) hHeld ?_
        rotate_left
        · (go_simp; try with_reducible rfl)
        simp only [Act.put, List.setIfInBounds_toArray, List.set_cons_zero, List.set_cons_succ]
        refine takeE (v := ?_) 4 116 rfl rfl (by kernel_rfl) (by kernel_rfl) (by kernel_rfl) (fun _ _ _ h => h) (Or.inl ⟨by rfl, fun V hV => ?_⟩) hHeld ?_
        rotate_left
        · (go_simp; try with_reducible rfl)
        simp only [Act.put, List.setIfInBounds_toArray, List.set_cons_zero, List.set_cons_succ]
        refine takeE (v := ?_) 5 117 rfl rfl (by kernel_rfl) (by kernel_rfl) (by kernel_rfl) (fun _ _ _ h => h) (Or.inl ⟨by rfl, fun V hV => ?_⟩) hHeld ?_
        rotate_left
        · (have z3 := hV.cell m3; have z4 := hV.cell m4; have z5 := hV.cell m5; have z2 := hV.cell o2; go_simp; try with_reducible rfl)
        simp only [Act.put, List.setIfInBounds_toArray, List.set_cons_zero, List.set_cons_succ]
        refine takeE (v := ?_) 6 118 rfl rfl (by kernel_rfl) (by kernel_rfl) (by kernel_rfl) (fun _ _ _ h => h) (Or.inl ⟨by rfl, fun V hV => ?_⟩) hHeld ?_
        rotate_left
        · (go_simp; try with_reducible rfl)
        simp only [Act.put, List.setIfInBounds_toArray, List.set_cons_zero, List.set_cons_succ]
        refine takeE (v := ?_) 7 119 rfl rfl (by kernel_rfl) (by kernel_rfl) (by kernel_rfl) (fun _ _ _ h => h) (Or.inl ⟨by rfl, fun V hV => ?_⟩) hHeld ?_
        rotate_left
        · (go_simp; try with_reducible rfl)
        simp only [Act.put, List.setIfInBounds_toArray, List.set_cons_zero, List.set_cons_succ]
        refine takeE (v := ?_) 8 120 rfl rfl (by kernel_rfl) (by kernel_rfl) (by kernel_rfl) (fun _ _ _ h => h) (Or.inl ⟨by rfl, fun V hV => ?_⟩) hHeld ?_
        rotate_left
        · (have z3 := hV.cell m3; have z4 := hV.cell m4; have z5 := hV.cell m5; have z2 := hV.cell o2; go_simp; try with_reducible rfl)
        simp only [Act.put, List.setIfInBounds_toArray, List.set_cons_zero, List.set_cons_succ]
        refine takeE (v := ?_) 9 121 rfl rfl (by kernel_rfl) (by kernel_rfl) (by kernel_rfl) (fun _ _ _ h => h) (Or.inl ⟨by rfl, fun V hV => ?_⟩) hHeld ?_
        rotate_left
        · (go_simp; try with_reducible rfl)
        simp only [Act.put, List.setIfInBounds_toArray, List.set_cons_zero, List.set_cons_succ]
        refine takeE (v := ?_) 11 123 rfl rfl (by kernel_rfl) (by kernel_rfl) (by kernel_rfl) (fun _ _ _ h => h) (Or.inl ⟨by rfl, fun V hV => ?_⟩) hHeld ?_
        rotate_left
        · (go_simp; try with_reducible rfl)
        simp only [Act.put, List.setIfInBounds_toArray, List.set_cons_zero, List.set_cons_succ]
        refine takeE (v := ?_) 12 124 rfl rfl (by kernel_rfl) (by kernel_rfl) (by kernel_rfl) (fun _ _ _ h => h) (Or.inl ⟨by rfl, fun V hV => ?_⟩) hHeld ?_
        rotate_left
        · (have z3 := hV.cell m3; have z4 := hV.cell m4; have z5 := hV.cell m5; have z2 := hV.cell o2; go_simp; try with_reducible rfl)
        simp only [Act.put, List.setIfInBounds_toArray, List.set_cons_zero, List.set_cons_succ]
        refine callE 10 122 rfl rfl (by kernel_rfl) (by rfl) (by go_simp; first | exact ⟨rfl, rfl⟩ | rfl) ?_
        refine LV.out.mono ?_
        rintro e w3 ⟨rfl, x3⟩
        refine ⟨_, rfl, x3, ?_⟩
        simp only [Act.put, List.setIfInBounds_toArray, List.set_cons_zero, List.set_cons_succ]
        refine takeE (v := ?_) 13 125 rfl rfl (by kernel_rfl) (by kernel_rfl) (by kernel_rfl) (fun _ _ _ h => h) (Or.inl ⟨by rfl, fun V hV => ?_⟩) x3 ?_
        rotate_left
        · (go_simp; try with_reducible rfl)
        simp only [Act.put, List.setIfInBounds_toArray, List.set_cons_zero, List.set_cons_succ]
        refine wpAnyH_done (by kernel_rfl) ?_ _
        have KR3 := hid (kr.out.trans (Kept.of_ext x3))
        have HR3 : Hid (w3.heap[w.heap.size]? = some (.cells (mcs c av lvk fv ((gvs c fs now t x (mem c.2.2.2.1 c.2.2.2.2 l level now k)).2.1 : Int) (gvs c fs now t x (mem c.2.2.2.1 c.2.2.2.2 l level now k)).2.2) 40 (0, 0)) ∧ ListsK (fun q => E q ∨ New w1 w3 q) w3 lvk (gvs c fs now t x (mem c.2.2.2.1 c.2.2.2.2 l level now k)).1) := ⟨x3.row hr.out.1, (hr.out.2.kept (Kept.of_ext x3)).mono (fun q _ h => h.imp id (fun h => ⟨h.1, Nat.lt_of_lt_of_le h.2 x3.size⟩))⟩
        have KW3 := hid (KWR.out.trans (Kept.of_ext x3))
        replace o4 := x3.cell o4
        clear hHeld kr hr KWR m3 m4 m5 o2 LV xd BWR x3
        by_cases ge : level ≤ Lk
        · have em : mem c.2.2.2.1 c.2.2.2.2 l level now (k + 1) = mem c.2.2.2.1 c.2.2.2.2 l level now k ++ [(k : Int)] := by rw [MS.out, if_pos ge]
          have e3 : gvs c fs now t x (mem c.2.2.2.1 c.2.2.2.2 l level now (k + 1)) = gv c fs now t (gvs c fs now t x (mem c.2.2.2.1 c.2.2.2.2 l level now k)) k := by rw [em, gvs_snoc]; rfl
          have G3 := hid (GA.out w3 lvk (fun q => E q ∨ New w1 w3 q) k q (fun q hq => .inl hq) KW3.out HR3.out.2)
          have CT : (convert 41 9 (.slice ta tn tc)).run Try.prog w3 = .ok (.string (str t)) w3 := Bytes.str (HT.out.kept KW3.out).bytes
          have EM := hid em
          have EG := hid e3
          have MB3 := hid HR3.out.1
          have ew : IntKind.i64.wrap (((mem c.2.2.2.1 c.2.2.2.2 l level now k).length : Int) + 1) = ((mem c.2.2.2.1 c.2.2.2.2 l level now k).length : Int) + 1 := IntWalk.i64_in _ (by omega)
          have ml9 : ((mem c.2.2.2.1 c.2.2.2.2 l level now (k + 1)).length : Int) = ((mem c.2.2.2.1 c.2.2.2.2 l level now k).length : Int) + 1 := by rw [em]; simp
          have ML9 := hid ml9
          obtain ⟨wl, ewl⟩ : ∃ wl, wl = (mem c.2.2.2.1 c.2.2.2.2 l level now k).length := ⟨_, rfl⟩
          rw [← ewl] at ew mle ML9
          rw [← ewl]
          clear em e3 MS ml9 ewl
          go_wp2_with (first
            | refine wpList_load_row rfl 40 (.tmp 4) rfl w.heap.size rfl 40 _ (0, 0) _ MB3.out Try.underlying40 rfl size_model ?_)
          refine G3.out.mono ?_
          rintro e w4 ⟨lv4, rfl, hl4, x4⟩
          have MB4 := hid (x4.row MB3.out)
          have HL4 := hid hl4
          have X4 := hid x4
          obtain ⟨lo4, ln4, lc4, el4⟩ := lists_slice hl4
          have ONE4 := hid (mcs_one c av lv4 fv ((gv c fs now t (gvs c fs now t x (mem c.2.2.2.1 c.2.2.2.2 l level now k)) k).2.1 : Int) (gv c fs now t (gvs c fs now t x (mem c.2.2.2.1 c.2.2.2.2 l level now k)) k).2.2 (by obtain ⟨_, _, _, e⟩ := SAV.out; rw [e]; rfl) (by rw [el4]; rfl) (by obtain ⟨_, _, _, e⟩ := SFV.out; rw [e]; rfl))
          clear G3 CT o4 MB3 hl4 x4 el4
          go_wp2_with (first
            | refine wpList_store_row rfl 40 (.tmp 4) (.tmp 132) rfl w.heap.size _ rfl rfl 40 _ MB4.out size_model rfl ONE4.out ?_)
          go_roundw
          case rel =>
            refine ⟨k + 1, lv4, by omega, by rw [ML9.out], by go_num, ?_, ?_⟩
            · exact (KR3.out.trans (Kept.of_ext X4.out)).trans ((Kept.refl _ w4).setRow (fun hne => hne rfl) _)
            · rw [EG.out]
              refine ⟨setRow_heap _ _ _ _ _ _ MB4.out, ?_⟩
              have k9 : Kept (fun i => i ≠ w.heap.size) w4 (w4.setRow w.heap.size (mcs c av lv4 fv ((gv c fs now t (gvs c fs now t x (mem c.2.2.2.1 c.2.2.2.2 l level now k)) k).2.1 : Int) (gv c fs now t (gvs c fs now t x (mem c.2.2.2.1 c.2.2.2.2 l level now k)) k).2.2)) := (Kept.refl _ w4).setRow (fun hne => hne rfl) _
              have z1 : w.heap.size + 4 ≤ w1.heap.size := Z1.out
              have z13 : w1.heap.size ≤ w3.heap.size := KR3.out.size
              refine (HL4.out.kept (k9.mono (fun q hq => ?_))).mono (fun q hq h => ?_)
              · rcases hq with (h | h) | h
                · have := HTH.out q (HEH.out q h); omega
                · have := h.1; omega
                · have := h.1; omega
              · rcases h with (h | h) | h
                · exact .inl h
                · exact .inr ⟨h.1, hq⟩
                · exact .inr ⟨by have := h.1; omega, hq⟩
          case measure => simp [intOf]; omega
        · have em : mem c.2.2.2.1 c.2.2.2.2 l level now (k + 1) = mem c.2.2.2.1 c.2.2.2.2 l level now k := by rw [MS.out, if_neg ge, List.append_nil]
          have EM := hid em
          clear em MS o4
          go_wp2_with fail
          go_roundw
          case rel => exact ⟨k + 1, lvk, by omega, by rw [EM.out], by go_num, KR3, by rw [EM.out]; exact HR3⟩
          case measure => simp [intOf]; omega
      · obtain rfl : k = n := by omega
        have n2 := (N1.out.keep kr.out (fun q _ => if e : q = w.heap.size then .inl (KB.out q (by omega) (by omega)) else .inr e))
        have BW : StepBox wr w.heap.size (mcs c av lvk fv ((gvs c fs now t x (mem c.2.2.2.1 c.2.2.2.2 l level now k)).2.1 : Int) (gvs c fs now t x (mem c.2.2.2.1 c.2.2.2.2 l level now k)).2.2) 2 R level later (.slice ta tn tc) := ⟨hr.out.1, kr.out.row (by omega) BW1.out.2.1, kr.out.row (by omega) BW1.out.2.2.1, kr.out.row (by omega) BW1.out.2.2.2⟩
        have KWX : Kept K w wr := KWR.out
        have HL2 : ListsK (Dat E (fun q => (K q ∨ New w W0 q) ∨ New w1 wr q) w.heap.size) wr lvk (gvs c fs now t x (mem c.2.2.2.1 c.2.2.2.2 l level now k)).1 := hr.out.2.mono (fun q _ h => h.imp id (fun h => ⟨by have h1 := h.1; have h3 : w.heap.size + 4 ≤ w1.heap.size := Z1.out; omega, .inr h⟩))
        clear m3 m4 m5 o2 o4
        obtain ⟨e1, e2, e3, e4, e5⟩ := step_end (b := b) (bs := bs) (c := c) (l := l) (fs := fs) (x := (gvs c fs now t x (mem c.2.2.2.1 c.2.2.2.2 l level now k))) (av := av) (lv := lvk) (fv := fv) (h0 := w.heap.size) rfl HEH.out HTH.out (K' := (fun q => (K q ∨ New w W0 q) ∨ New w1 wr q)) (fun q hq => .inl (.inl hq)) (fun i h1 h2 => .inl (KB.out i h1 h2)) n2 ((HA.out.kept (KWX.mono HEH.out)).mono (L := Dat E (fun q => (K q ∨ New w W0 q) ∨ New w1 wr q) w.heap.size) (by decide) (fun q _ h => .inl h)) HL2 ((HF.out.kept (KWX.mono HEH.out)).mono (L := Dat E (fun q => (K q ∨ New w W0 q) ∨ New w1 wr q) w.heap.size) (by decide) (fun q _ h => .inl h)) KWX BW.2.2.1 BW.2.2.2 _ rfl
        have MBX := BW.1
        have ZBX := BW.2.2.1
        have ONE := hid (mcs_one c av lvk fv ((((gvs c fs now t x (mem c.2.2.2.1 c.2.2.2.2 l level now k)) : St).2.1 : Nat) : Int) ((gvs c fs now t x (mem c.2.2.2.1 c.2.2.2.2 l level now k)) : St).2.2 (by obtain ⟨_, _, _, e⟩ := SAV.out; rw [e]; rfl) (by obtain ⟨_, _, _, e⟩ := lists_slice HL2; rw [e]; rfl) (by obtain ⟨_, _, _, e⟩ := SFV.out; rw [e]; rfl))
        have E3 := hid e3
        have E4 := hid e4
        have E5 := hid e5
        have MBXH := hid MBX
        have ZBXH := hid ZBX
        clear e3 e4 e5 MBX ZBX
        clear BW KWX HL2 n2 kr hr KWR mle BWR
        go_wp2_with (first
          | refine wpList_load_row rfl 40 (.tmp 4) rfl w.heap.size rfl 40 _ (0, 0) _ MBXH.out Try.underlying40 rfl size_model ?_
          | refine wpList_store_row rfl 40 (.tmp 8) (.tmp 136) rfl (w.heap.size + 1 + 1) _ rfl rfl 40 _ ZBXH.out size_model rfl ONE.out ?_)
        refine bodyPost_ret (results_row_bool Try.results10 _ _ (w.heap.size + 1 + 1) (w.heap.size + 1 + 1 + 1) 40 _ (0, 0) _ true rfl E3.out rfl E4.out Try.underlying40 rfl size_model Try.underlying4) rfl ?_
        exact E5.out
end Go.Proofs.Ytjmgigfaiaemeaa.Sim

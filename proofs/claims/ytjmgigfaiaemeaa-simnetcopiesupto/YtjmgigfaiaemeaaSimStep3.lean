/-
  The model's step: what is due is taken.
-/
import Derived.Test.YtjmgigfaiaemeaaSimStepM
namespace Go.Proofs.Ytjmgigfaiaemeaa.Sim
set_option linter.unusedVariables false
set_option maxRecDepth 100000
open Go.RowKit Go.Lib Go.Shelf Go.Proofs.Ytjmgigfaiaemeaa.Crc Go.Proofs.Ytjmgigfaiaemeaa.Grp
open Go.Proofs.Ytjmgigfaiaemeaa.Pip hiding NewR
attribute [local go_sem] Oper.semAt_some


set_option maxHeartbeats 4000000 in
theorem step_take (K E : Nat → Prop) (hE : ∀ q, E q → K q) (w : World) (b : Nat) (bs : Nat → Nat) (c : Cfg) (n : Nat) (hn : c.1 = (n : Int)) (l : List Tri) (fs : List (Int × Int)) (x : St) (av lv fv : Value) (h : NetK K w b bs c l fs x) (hA : RowK E w av 3 (fcells tri l)) (hL : ListsK E w lv x.1) (hF : RowK E w fv 2 (fcells pr fs)) (kind R level later : Int) (tv : Value) (t : List UInt8) (hT : RowK K w tv 1 (bcells t)) (hTP : Plain tv) (now : Int) (now0 : 0 ≤ now) (now1 : now ≤ 1000000) (hk : kind = 4) (r : Nat) (hr : R = (r : Int)) (hrn : r < n) :
    Calls Try.prog 10 #[.agg (mcs c av lv fv (x.2.1 : Int) x.2.2), .pointer (some ⟨b, 0, none⟩), .agg #[.int .i64 kind, .int .i64 R, .int .i64 level, .int .i64 later, tv], .int .i64 now] w fun e w' => ∃ y : Ms, SteppedS K E w b bs c l fs (x.1.set r y, x.2) e w' := by
  subst hk
  subst hr
  have hth := h.there
  obtain ⟨W0, e0⟩ : ∃ W0, W0 = (((w.alloc (.cells (mcs c av lv fv (x.2.1 : Int) x.2.2) 40)).alloc (.cells #[.int .i64 4, .int .i64 (r : Int), .int .i64 level, .int .i64 later, tv] 43)).alloc (.cells zmod 40)).alloc (.cells #[.bool false] 4) := ⟨_, rfl⟩
  have X0 : Ext w W0 := by rw [e0]; exact ((((Ext.refl w).alloc _).alloc _).alloc _).alloc _
  have BX : StepBox W0 w.heap.size (mcs c av lv fv (x.2.1 : Int) x.2.2) 4 (r : Int) level later tv := by rw [e0]; exact alloc4 w _ _ _ _
  have z0 : w.heap.size + 4 ≤ W0.heap.size := by have := lt_of_row BX.2.2.2; omega
  have H0 := h.more X0
  have HTH := hid hth
  have HEH := hid hE
  have BXH := hid BX
  have X0H := hid X0
  have H0H := hid H0
  have HN := hid hn
  have HA := hid hA
  have HL := hid hL
  have HF := hid hF
  have HT := hid hT
  have HTP := hid hTP
  have Z0 : Hid (w.heap.size + 4 ≤ W0.heap.size) := z0
  have KB : Hid (∀ i, w.heap.size ≤ i → i < w.heap.size + 4 → K i ∨ New w W0 i) := fun i h1 h2 => .inr ⟨h1, by omega⟩
  obtain ⟨⟨m0, m3, m4, m5⟩, o0, o1, o2, o4⟩ := BX.cells
  obtain ⟨ta, tn, tc, et, tl, tb, td, _⟩ := id hT
  rw [bcells_length, Nat.mul_one] at tl
  subst et
  unfold maxLen at td
  have SAV := hid (row_slice hA)
  have SFV := hid (row_slice hF)
  have i3 : (r : Int) < (n : Int) := by omega
  have i4 : (0 : Int) ≤ (r : Int) := by omega
  have TK := hid (mtake_any (fun q => K q ∨ New w W0 q) E (fun q hq => .inl (hE q hq)) W0 b bs c n hn l fs x H0 r (by omega) av fv lv (by obtain ⟨_, _, _, e⟩ := SAV.out; rw [e]; rfl) (by obtain ⟨_, _, _, e⟩ := SFV.out; rw [e]; rfl) (hL.kept (Kept.of_ext X0)) now)
  rw [hn] at m0
  have MBL := BX.1
  rw [e0] at m0 m3 m4 m5 o0 o1 o2 o4
  rw [e0] at MBL
  unfold zmod at MBL
  have MBLH := hid MBL
  clear MBL
  unfold zmod at m0 m3 m4 m5 o0 o1 o2 o4
  have E0 := hid e0
  have E0' : Hid (W0 = (((w.alloc (.cells (mcs c av lv fv (x.2.1 : Int) x.2.2) 40)).alloc (.cells #[.int .i64 4, .int .i64 (r : Int), .int .i64 level, .int .i64 later, .slice ta tn tc] 43)).alloc (.cells #[.int .i64 0, .int .i64 0, .int .i64 0, .int .i64 0, .int .i64 0, .slice none 0 0, .slice none 0 0, .slice none 0 0, .int .i64 0, .int .i64 0, .int .i64 0, .int .i64 0, .int .i64 0, .int .i64 0, .int .i64 0] 40)).alloc (.cells #[.bool false] 4)) := e0
  clear hE h hA hL hF hT hTP hth BX X0 H0 e0 z0
  go_enter Try.func10, Try.ntmps10
  go_wp2_with (first
    | refine wpList_load_row rfl 40 (.tmp 4) rfl w.heap.size rfl 40 _ (0, 0) _ MBLH.out Try.underlying40 rfl size_model ?_)
  rw [← E0'.out]
  refine TK.out.mono ?_
  rintro e w1 ⟨lv', y, K', rfl, kk, n1, hl1, _, k1'⟩
  have BW := BXH.out.kept k1' (fun i h1 h2 => KB.out i h1 h2)
  have KW : Kept K w w1 := (Kept.of_ext X0H.out).trans (k1'.mono (fun q hq => .inl hq))
  have HL2 : ListsK (Dat E K' w.heap.size) w1 lv' (x.1.set r y) := hl1.mono (fun q _ hq => hq.imp id (fun h => ⟨Nat.le_trans Z0.out h.1, h.2⟩))
  clear hl1 TK m0 m3 m4 m5 o0 o1 o2 o4
  obtain ⟨e1, e2, e3, e4, e5⟩ := step_end (b := b) (bs := bs) (c := c) (l := l) (fs := fs) (x := (x.1.set r y, x.2)) (av := av) (lv := lv') (fv := fv) (h0 := w.heap.size) rfl HEH.out HTH.out (K' := K') (fun q hq => kk q (.inl hq)) (fun i h1 h2 => kk i (KB.out i h1 h2)) n1 ((HA.out.kept (KW.mono HEH.out)).mono (L := Dat E K' w.heap.size) (by decide) (fun q _ h => .inl h)) HL2 ((HF.out.kept (KW.mono HEH.out)).mono (L := Dat E K' w.heap.size) (by decide) (fun q _ h => .inl h)) KW BW.2.2.1 BW.2.2.2 _ rfl
  have MBX := BW.1
  have ZBX := BW.2.2.1
  have ONE := hid (mcs_one c av lv' fv ((((x.1.set r y, x.2) : St).2.1 : Nat) : Int) ((x.1.set r y, x.2) : St).2.2 (by obtain ⟨_, _, _, e⟩ := SAV.out; rw [e]; rfl) (by obtain ⟨_, _, _, e⟩ := lists_slice HL2; rw [e]; rfl) (by obtain ⟨_, _, _, e⟩ := SFV.out; rw [e]; rfl))
  have E3 := hid e3
  have E4 := hid e4
  have E5 := hid e5
  have MBXH := hid MBX
  have ZBXH := hid ZBX
  clear e3 e4 e5 MBX ZBX
  clear BW KW HL2 n1 k1'
  go_wp2_with (first
    | refine wpList_store_row rfl 40 (.tmp 8) (.tmp 198) rfl (w.heap.size + 1 + 1) _ rfl rfl 40 _ ZBXH.out size_model rfl ONE.out ?_)
  refine bodyPost_ret (results_row_bool Try.results10 _ _ (w.heap.size + 1 + 1) (w.heap.size + 1 + 1 + 1) 40 _ (0, 0) _ true rfl E3.out rfl E4.out Try.underlying40 rfl size_model Try.underlying4) rfl ?_
  exact ⟨y, E5.out⟩

set_option maxHeartbeats 4000000 in
theorem step_takeup (K E : Nat → Prop) (hE : ∀ q, E q → K q) (w : World) (b : Nat) (bs : Nat → Nat) (c : Cfg) (n : Nat) (hn : c.1 = (n : Int)) (l : List Tri) (fs : List (Int × Int)) (x : St) (av lv fv : Value) (h : NetK K w b bs c l fs x) (hA : RowK E w av 3 (fcells tri l)) (hL : ListsK E w lv x.1) (hF : RowK E w fv 2 (fcells pr fs)) (kind R level later : Int) (tv : Value) (t : List UInt8) (hT : RowK K w tv 1 (bcells t)) (hTP : Plain tv) (now : Int) (now0 : 0 ≤ now) (now1 : now ≤ 1000000) (hk : kind = 5) :
    Calls Try.prog 10 #[.agg (mcs c av lv fv (x.2.1 : Int) x.2.2), .pointer (some ⟨b, 0, none⟩), .agg #[.int .i64 kind, .int .i64 R, .int .i64 level, .int .i64 later, tv], .int .i64 now] w fun e w' => ∃ y : Ms, SteppedS K E w b bs c l fs (x.1.set n y, x.2) e w' := by
  subst hk
  have hth := h.there
  obtain ⟨W0, e0⟩ : ∃ W0, W0 = (((w.alloc (.cells (mcs c av lv fv (x.2.1 : Int) x.2.2) 40)).alloc (.cells #[.int .i64 5, .int .i64 R, .int .i64 level, .int .i64 later, tv] 43)).alloc (.cells zmod 40)).alloc (.cells #[.bool false] 4) := ⟨_, rfl⟩
  have X0 : Ext w W0 := by rw [e0]; exact ((((Ext.refl w).alloc _).alloc _).alloc _).alloc _
  have BX : StepBox W0 w.heap.size (mcs c av lv fv (x.2.1 : Int) x.2.2) 5 R level later tv := by rw [e0]; exact alloc4 w _ _ _ _
  have z0 : w.heap.size + 4 ≤ W0.heap.size := by have := lt_of_row BX.2.2.2; omega
  have H0 := h.more X0
  have HTH := hid hth
  have HEH := hid hE
  have BXH := hid BX
  have X0H := hid X0
  have H0H := hid H0
  have HN := hid hn
  have HA := hid hA
  have HL := hid hL
  have HF := hid hF
  have HT := hid hT
  have HTP := hid hTP
  have Z0 : Hid (w.heap.size + 4 ≤ W0.heap.size) := z0
  have KB : Hid (∀ i, w.heap.size ≤ i → i < w.heap.size + 4 → K i ∨ New w W0 i) := fun i h1 h2 => .inr ⟨h1, by omega⟩
  obtain ⟨⟨m0, m3, m4, m5⟩, o0, o1, o2, o4⟩ := BX.cells
  obtain ⟨ta, tn, tc, et, tl, tb, td, _⟩ := id hT
  rw [bcells_length, Nat.mul_one] at tl
  subst et
  unfold maxLen at td
  have SAV := hid (row_slice hA)
  have SFV := hid (row_slice hF)
  have TK := hid (mtake_any (fun q => K q ∨ New w W0 q) E (fun q hq => .inl (hE q hq)) W0 b bs c n hn l fs x H0 n (by omega) av fv lv (by obtain ⟨_, _, _, e⟩ := SAV.out; rw [e]; rfl) (by obtain ⟨_, _, _, e⟩ := SFV.out; rw [e]; rfl) (hL.kept (Kept.of_ext X0)) now)
  rw [hn] at m0
  have MBL := BX.1
  rw [e0] at m0 m3 m4 m5 o0 o1 o2 o4
  rw [e0] at MBL
  unfold zmod at MBL
  have MBLH := hid MBL
  clear MBL
  unfold zmod at m0 m3 m4 m5 o0 o1 o2 o4
  have E0 := hid e0
  have E0' : Hid (W0 = (((w.alloc (.cells (mcs c av lv fv (x.2.1 : Int) x.2.2) 40)).alloc (.cells #[.int .i64 5, .int .i64 R, .int .i64 level, .int .i64 later, .slice ta tn tc] 43)).alloc (.cells #[.int .i64 0, .int .i64 0, .int .i64 0, .int .i64 0, .int .i64 0, .slice none 0 0, .slice none 0 0, .slice none 0 0, .int .i64 0, .int .i64 0, .int .i64 0, .int .i64 0, .int .i64 0, .int .i64 0, .int .i64 0] 40)).alloc (.cells #[.bool false] 4)) := e0
  clear hE h hA hL hF hT hTP hth BX X0 H0 e0 z0
  by_cases r0 : 0 ≤ R
  all_goals
    go_enter Try.func10, Try.ntmps10
    go_wp2_with (first
      | refine wpList_load_row rfl 40 (.tmp 4) rfl w.heap.size rfl 40 _ (0, 0) _ MBLH.out Try.underlying40 rfl size_model ?_)
    rw [← E0'.out]
    refine TK.out.mono ?_
    rintro e w1 ⟨lv', y, K', rfl, kk, n1, hl1, _, k1'⟩
    have BW := BXH.out.kept k1' (fun i h1 h2 => KB.out i h1 h2)
    have KW : Kept K w w1 := (Kept.of_ext X0H.out).trans (k1'.mono (fun q hq => .inl hq))
    have HL2 : ListsK (Dat E K' w.heap.size) w1 lv' (x.1.set n y) := hl1.mono (fun q _ hq => hq.imp id (fun h => ⟨Nat.le_trans Z0.out h.1, h.2⟩))
    clear hl1 TK m0 m3 m4 m5 o0 o1 o2 o4
    obtain ⟨e1, e2, e3, e4, e5⟩ := step_end (b := b) (bs := bs) (c := c) (l := l) (fs := fs) (x := (x.1.set n y, x.2)) (av := av) (lv := lv') (fv := fv) (h0 := w.heap.size) rfl HEH.out HTH.out (K' := K') (fun q hq => kk q (.inl hq)) (fun i h1 h2 => kk i (KB.out i h1 h2)) n1 ((HA.out.kept (KW.mono HEH.out)).mono (L := Dat E K' w.heap.size) (by decide) (fun q _ h => .inl h)) HL2 ((HF.out.kept (KW.mono HEH.out)).mono (L := Dat E K' w.heap.size) (by decide) (fun q _ h => .inl h)) KW BW.2.2.1 BW.2.2.2 _ rfl
    have MBX := BW.1
    have ZBX := BW.2.2.1
    have ONE := hid (mcs_one c av lv' fv ((((x.1.set n y, x.2) : St).2.1 : Nat) : Int) ((x.1.set n y, x.2) : St).2.2 (by obtain ⟨_, _, _, e⟩ := SAV.out; rw [e]; rfl) (by obtain ⟨_, _, _, e⟩ := lists_slice HL2; rw [e]; rfl) (by obtain ⟨_, _, _, e⟩ := SFV.out; rw [e]; rfl))
    have E3 := hid e3
    have E4 := hid e4
    have E5 := hid e5
    have MBXH := hid MBX
    have ZBXH := hid ZBX
    clear e3 e4 e5 MBX ZBX
    clear BW KW HL2 n1 k1'
    go_wp2_with (first
      | refine wpList_store_row rfl 40 (.tmp 8) (.tmp 209) rfl (w.heap.size + 1 + 1) _ rfl rfl 40 _ ZBXH.out size_model rfl ONE.out ?_)
    refine bodyPost_ret (results_row_bool Try.results10 _ _ (w.heap.size + 1 + 1) (w.heap.size + 1 + 1 + 1) 40 _ (0, 0) _ true rfl E3.out rfl E4.out Try.underlying40 rfl size_model Try.underlying4) rfl ?_
    exact ⟨y, E5.out⟩
end Go.Proofs.Ytjmgigfaiaemeaa.Sim

/-
  The model's step: a message to the sender.
-/
import Derived.Test.YtjmgigfaiaemeaaSimStepM
namespace Go.Proofs.Ytjmgigfaiaemeaa.Sim
set_option linter.unusedVariables false
set_option maxRecDepth 100000
open Go.RowKit Go.Lib Go.Shelf Go.Proofs.Ytjmgigfaiaemeaa.Crc Go.Proofs.Ytjmgigfaiaemeaa.Grp
open Go.Proofs.Ytjmgigfaiaemeaa.Pip hiding NewR
attribute [local go_sem] Oper.semAt_some

set_option maxHeartbeats 2000000 in
theorem step_up_bad (K E : Nat → Prop) (hE : ∀ q, E q → K q) (w : World) (b : Nat) (bs : Nat → Nat) (c : Cfg) (n : Nat) (hn : c.1 = (n : Int)) (l : List Tri) (fs : List (Int × Int)) (x : St) (av lv fv : Value) (h : NetK K w b bs c l fs x) (hA : RowK E w av 3 (fcells tri l)) (hL : ListsK E w lv x.1) (hF : RowK E w fv 2 (fcells pr fs)) (kind R level later : Int) (tv : Value) (t : List UInt8) (hT : RowK K w tv 1 (bcells t)) (hTP : Plain tv) (now : Int) (now0 : 0 ≤ now) (now1 : now ≤ 1000000) (hk : kind = 3) (hb : R < 0 ∨ (n : Int) ≤ R ∨ 320 < t.length) :
    Calls Try.prog 10 #[.agg (mcs c av lv fv (x.2.1 : Int) x.2.2), .pointer (some ⟨b, 0, none⟩), .agg #[.int .i64 kind, .int .i64 R, .int .i64 level, .int .i64 later, tv], .int .i64 now] w fun e w' => SteppedS K E w b bs c l fs x e w' := by
  subst hk
  have hth := h.there
  obtain ⟨W0, e0⟩ : ∃ W0, W0 = (((w.alloc (.cells (mcs c av lv fv (x.2.1 : Int) x.2.2) 40)).alloc (.cells #[.int .i64 3, .int .i64 R, .int .i64 level, .int .i64 later, tv] 43)).alloc (.cells zmod 40)).alloc (.cells #[.bool false] 4) := ⟨_, rfl⟩
  have X0 : Ext w W0 := by rw [e0]; exact ((((Ext.refl w).alloc _).alloc _).alloc _).alloc _
  have BX : StepBox W0 w.heap.size (mcs c av lv fv (x.2.1 : Int) x.2.2) 3 R level later tv := by rw [e0]; exact alloc4 w _ _ _ _
  have z0 : w.heap.size + 4 ≤ W0.heap.size := by have := lt_of_row BX.2.2.2; omega
  have H0 := h.more X0
  have HTH := hid hth
  have HEH := hid hE
  have BXH := hid BX
  have X0H := hid X0
  have H0H := hid H0
  have HN := hid hn
  have HA := hid hA
  have HL := hid hL
  have HF := hid hF
  have HT := hid hT
  have HTP := hid hTP
  have Z0 : Hid (w.heap.size + 4 ≤ W0.heap.size) := z0
  have KB : Hid (∀ i, w.heap.size ≤ i → i < w.heap.size + 4 → K i ∨ New w W0 i) := fun i h1 h2 => .inr ⟨h1, by omega⟩
  obtain ⟨⟨m0, m3, m4, m5⟩, o0, o1, o2, o4⟩ := BX.cells
  obtain ⟨ta, tn, tc, et, tl, tb, td, _⟩ := id hT
  rw [bcells_length, Nat.mul_one] at tl
  subst et
  unfold maxLen at td
  have SAV := hid (row_slice hA)
  have SFV := hid (row_slice hF)
  have UB := hid (up_bad H0 R (.slice ta tn tc) t now ((HT.out.kept (Kept.of_ext X0)).mono (L := fun q => K q ∨ New w W0 q) (by decide) (fun q _ h => .inl h)) (by
    rcases hb with h | h | h
    · exact .inl h
    · exact .inr (.inl (by have := HN.out; omega))
    · exact .inr (.inr (fun g => by have := g.2.2; omega))))
  rw [hn] at m0
  rw [e0] at m0 m3 m4 m5 o0 o1 o2 o4
  unfold zmod at m0 m3 m4 m5 o0 o1 o2 o4
  have E0 := hid e0
  have E0' : Hid (W0 = (((w.alloc (.cells (mcs c av lv fv (x.2.1 : Int) x.2.2) 40)).alloc (.cells #[.int .i64 3, .int .i64 R, .int .i64 level, .int .i64 later, .slice ta tn tc] 43)).alloc (.cells #[.int .i64 0, .int .i64 0, .int .i64 0, .int .i64 0, .int .i64 0, .slice none 0 0, .slice none 0 0, .slice none 0 0, .int .i64 0, .int .i64 0, .int .i64 0, .int .i64 0, .int .i64 0, .int .i64 0, .int .i64 0] 40)).alloc (.cells #[.bool false] 4)) := e0
  clear hE h hA hL hF hT hTP hth BX X0 H0 e0 z0
  have hq : (R < 0 ∨ (n : Int) ≤ R) ∨ (0 ≤ R ∧ R < (n : Int) ∧ (320 : Int) < (tn : Int)) := by omega
  clear hb
  have BW := BXH.out
  have KW : Kept K w W0 := Kept.of_ext X0H.out
  rcases hq with (hr | hr) | ⟨hr0, hr1, hlen⟩
  · skip
    go_enter Try.func10, Try.ntmps10
    go_wp2_with fail
    rw [← E0'.out]
    refine UB.out.mono ?_
    rintro e w1 ⟨rfl, e1⟩
    rw [e1]
    clear e1 m0 m3 m4 m5 o0 o1 o2 o4 UB
    obtain ⟨⟨m0, m3, m4, m5⟩, o0, o1, o2, o4⟩ := BW.cells
    rw [HN.out] at m0
    obtain ⟨e1, e2, e3, e4, e5⟩ := step_end (b := b) (bs := bs) (c := c) (l := l) (fs := fs) (x := x) (av := av) (lv := lv) (fv := fv) (h0 := w.heap.size) rfl HEH.out HTH.out (K' := (fun q => K q ∨ New w W0 q)) (fun q hq => .inl hq) KB.out H0H.out ((HA.out.kept (Kept.of_ext X0H.out)).mono (L := Dat E (fun q => K q ∨ New w W0 q) w.heap.size) (by decide) (fun q _ h => .inl h)) ((HL.out.kept (Kept.of_ext X0H.out)).mono (L := Dat E (fun q => K q ∨ New w W0 q) w.heap.size) (fun q _ h => .inl h)) ((HF.out.kept (Kept.of_ext X0H.out)).mono (L := Dat E (fun q => K q ∨ New w W0 q) w.heap.size) (by decide) (fun q _ h => .inl h)) KW BW.2.2.1 BW.2.2.2 _ rfl
    have MBX := BW.1
    have ZBX := BW.2.2.1
    have ONE := hid (mcs_one c av lv fv (((x : St).2.1 : Nat) : Int) (x : St).2.2 (by obtain ⟨_, _, _, e⟩ := SAV.out; rw [e]; rfl) (by obtain ⟨_, _, _, e⟩ := lists_slice ((HL.out.kept (Kept.of_ext X0H.out)).mono (L := Dat E (fun q => K q ∨ New w W0 q) w.heap.size) (fun q _ h => .inl h)); rw [e]; rfl) (by obtain ⟨_, _, _, e⟩ := SFV.out; rw [e]; rfl))
    have E3 := hid e3
    have E4 := hid e4
    have E5 := hid e5
    have MBXH := hid MBX
    have ZBXH := hid ZBX
    clear e3 e4 e5 MBX ZBX
    clear BW KW
    go_wp2_with (first
      | refine wpList_load_row rfl 40 (.tmp 4) rfl w.heap.size rfl 40 _ (0, 0) _ MBXH.out Try.underlying40 rfl size_model ?_
      | refine wpList_store_row rfl 40 (.tmp 8) (.tmp 161) rfl (w.heap.size + 1 + 1) _ rfl rfl 40 _ ZBXH.out size_model rfl ONE.out ?_)
    refine bodyPost_ret (results_row_bool Try.results10 _ _ (w.heap.size + 1 + 1) (w.heap.size + 1 + 1 + 1) 40 _ (0, 0) _ true rfl E3.out rfl E4.out Try.underlying40 rfl size_model Try.underlying4) rfl ?_
    exact E5.out
  · have hr0 : 0 ≤ R := by omega
    go_enter Try.func10, Try.ntmps10
    go_wp2_with fail
    rw [← E0'.out]
    refine UB.out.mono ?_
    rintro e w1 ⟨rfl, e1⟩
    rw [e1]
    clear e1 m0 m3 m4 m5 o0 o1 o2 o4 UB
    obtain ⟨⟨m0, m3, m4, m5⟩, o0, o1, o2, o4⟩ := BW.cells
    rw [HN.out] at m0
    obtain ⟨e1, e2, e3, e4, e5⟩ := step_end (b := b) (bs := bs) (c := c) (l := l) (fs := fs) (x := x) (av := av) (lv := lv) (fv := fv) (h0 := w.heap.size) rfl HEH.out HTH.out (K' := (fun q => K q ∨ New w W0 q)) (fun q hq => .inl hq) KB.out H0H.out ((HA.out.kept (Kept.of_ext X0H.out)).mono (L := Dat E (fun q => K q ∨ New w W0 q) w.heap.size) (by decide) (fun q _ h => .inl h)) ((HL.out.kept (Kept.of_ext X0H.out)).mono (L := Dat E (fun q => K q ∨ New w W0 q) w.heap.size) (fun q _ h => .inl h)) ((HF.out.kept (Kept.of_ext X0H.out)).mono (L := Dat E (fun q => K q ∨ New w W0 q) w.heap.size) (by decide) (fun q _ h => .inl h)) KW BW.2.2.1 BW.2.2.2 _ rfl
    have MBX := BW.1
    have ZBX := BW.2.2.1
    have ONE := hid (mcs_one c av lv fv (((x : St).2.1 : Nat) : Int) (x : St).2.2 (by obtain ⟨_, _, _, e⟩ := SAV.out; rw [e]; rfl) (by obtain ⟨_, _, _, e⟩ := lists_slice ((HL.out.kept (Kept.of_ext X0H.out)).mono (L := Dat E (fun q => K q ∨ New w W0 q) w.heap.size) (fun q _ h => .inl h)); rw [e]; rfl) (by obtain ⟨_, _, _, e⟩ := SFV.out; rw [e]; rfl))
    have E3 := hid e3
    have E4 := hid e4
    have E5 := hid e5
    have MBXH := hid MBX
    have ZBXH := hid ZBX
    clear e3 e4 e5 MBX ZBX
    clear BW KW
    go_wp2_with (first
      | refine wpList_load_row rfl 40 (.tmp 4) rfl w.heap.size rfl 40 _ (0, 0) _ MBXH.out Try.underlying40 rfl size_model ?_
      | refine wpList_store_row rfl 40 (.tmp 8) (.tmp 161) rfl (w.heap.size + 1 + 1) _ rfl rfl 40 _ ZBXH.out size_model rfl ONE.out ?_)
    refine bodyPost_ret (results_row_bool Try.results10 _ _ (w.heap.size + 1 + 1) (w.heap.size + 1 + 1 + 1) 40 _ (0, 0) _ true rfl E3.out rfl E4.out Try.underlying40 rfl size_model Try.underlying4) rfl ?_
    exact E5.out
  · skip
    go_enter Try.func10, Try.ntmps10
    go_wp2_with fail
    rw [← E0'.out]
    refine UB.out.mono ?_
    rintro e w1 ⟨rfl, e1⟩
    rw [e1]
    clear e1 m0 m3 m4 m5 o0 o1 o2 o4 UB
    obtain ⟨⟨m0, m3, m4, m5⟩, o0, o1, o2, o4⟩ := BW.cells
    rw [HN.out] at m0
    obtain ⟨e1, e2, e3, e4, e5⟩ := step_end (b := b) (bs := bs) (c := c) (l := l) (fs := fs) (x := x) (av := av) (lv := lv) (fv := fv) (h0 := w.heap.size) rfl HEH.out HTH.out (K' := (fun q => K q ∨ New w W0 q)) (fun q hq => .inl hq) KB.out H0H.out ((HA.out.kept (Kept.of_ext X0H.out)).mono (L := Dat E (fun q => K q ∨ New w W0 q) w.heap.size) (by decide) (fun q _ h => .inl h)) ((HL.out.kept (Kept.of_ext X0H.out)).mono (L := Dat E (fun q => K q ∨ New w W0 q) w.heap.size) (fun q _ h => .inl h)) ((HF.out.kept (Kept.of_ext X0H.out)).mono (L := Dat E (fun q => K q ∨ New w W0 q) w.heap.size) (by decide) (fun q _ h => .inl h)) KW BW.2.2.1 BW.2.2.2 _ rfl
    have MBX := BW.1
    have ZBX := BW.2.2.1
    have ONE := hid (mcs_one c av lv fv (((x : St).2.1 : Nat) : Int) (x : St).2.2 (by obtain ⟨_, _, _, e⟩ := SAV.out; rw [e]; rfl) (by obtain ⟨_, _, _, e⟩ := lists_slice ((HL.out.kept (Kept.of_ext X0H.out)).mono (L := Dat E (fun q => K q ∨ New w W0 q) w.heap.size) (fun q _ h => .inl h)); rw [e]; rfl) (by obtain ⟨_, _, _, e⟩ := SFV.out; rw [e]; rfl))
    have E3 := hid e3
    have E4 := hid e4
    have E5 := hid e5
    have MBXH := hid MBX
    have ZBXH := hid ZBX
    clear e3 e4 e5 MBX ZBX
    clear BW KW
    go_wp2_with (first
      | refine wpList_load_row rfl 40 (.tmp 4) rfl w.heap.size rfl 40 _ (0, 0) _ MBXH.out Try.underlying40 rfl size_model ?_
      | refine wpList_store_row rfl 40 (.tmp 8) (.tmp 161) rfl (w.heap.size + 1 + 1) _ rfl rfl 40 _ ZBXH.out size_model rfl ONE.out ?_)
    refine bodyPost_ret (results_row_bool Try.results10 _ _ (w.heap.size + 1 + 1) (w.heap.size + 1 + 1 + 1) 40 _ (0, 0) _ true rfl E3.out rfl E4.out Try.underlying40 rfl size_model Try.underlying4) rfl ?_
    exact E5.out

set_option maxHeartbeats 4000000 in
theorem step_up_ok (K E : Nat → Prop) (hE : ∀ q, E q → K q) (w : World) (b : Nat) (bs : Nat → Nat) (c : Cfg) (n : Nat) (hn : c.1 = (n : Int)) (l : List Tri) (fs : List (Int × Int)) (x : St) (av lv fv : Value) (h : NetK K w b bs c l fs x) (hA : RowK E w av 3 (fcells tri l)) (hL : ListsK E w lv x.1) (hF : RowK E w fv 2 (fcells pr fs)) (kind R level later : Int) (tv : Value) (t : List UInt8) (hT : RowK K w tv 1 (bcells t)) (hTP : Plain tv) (now : Int) (now0 : 0 ≤ now) (now1 : now ≤ 1000000) (hk : kind = 3) (h0 : 0 ≤ R) (h1 : R < (n : Int)) (h2 : t.length ≤ 320) (hs : SB 600000000 x.2.2) (hfs : fs.length ≤ 1000) (hfb : ∀ f ∈ fs, -9223372036854775808 ≤ f.2 ∧ f.2 ≤ 9223372036854775807) :
    Calls Try.prog 10 #[.agg (mcs c av lv fv (x.2.1 : Int) x.2.2), .pointer (some ⟨b, 0, none⟩), .agg #[.int .i64 kind, .int .i64 R, .int .i64 level, .int .i64 later, tv], .int .i64 now] w fun e w' => SteppedS K E w b bs c l fs (gv c fs now t x n) e w' := by
  subst hk
  have hth := h.there
  obtain ⟨W0, e0⟩ : ∃ W0, W0 = (((w.alloc (.cells (mcs c av lv fv (x.2.1 : Int) x.2.2) 40)).alloc (.cells #[.int .i64 3, .int .i64 R, .int .i64 level, .int .i64 later, tv] 43)).alloc (.cells zmod 40)).alloc (.cells #[.bool false] 4) := ⟨_, rfl⟩
  have X0 : Ext w W0 := by rw [e0]; exact ((((Ext.refl w).alloc _).alloc _).alloc _).alloc _
  have BX : StepBox W0 w.heap.size (mcs c av lv fv (x.2.1 : Int) x.2.2) 3 R level later tv := by rw [e0]; exact alloc4 w _ _ _ _
  have z0 : w.heap.size + 4 ≤ W0.heap.size := by have := lt_of_row BX.2.2.2; omega
  have H0 := h.more X0
  have HTH := hid hth
  have HEH := hid hE
  have BXH := hid BX
  have X0H := hid X0
  have H0H := hid H0
  have HN := hid hn
  have HA := hid hA
  have HL := hid hL
  have HF := hid hF
  have HT := hid hT
  have HTP := hid hTP
  have Z0 : Hid (w.heap.size + 4 ≤ W0.heap.size) := z0
  have KB : Hid (∀ i, w.heap.size ≤ i → i < w.heap.size + 4 → K i ∨ New w W0 i) := fun i h1 h2 => .inr ⟨h1, by omega⟩
  obtain ⟨⟨m0, m3, m4, m5⟩, o0, o1, o2, o4⟩ := BX.cells
  obtain ⟨ta, tn, tc, et, tl, tb, td, _⟩ := id hT
  rw [bcells_length, Nat.mul_one] at tl
  subst et
  unfold maxLen at td
  have SAV := hid (row_slice hA)
  have SFV := hid (row_slice hF)
  have UO := hid (up_net H0 R n hn (.slice ta tn tc) t now ((HT.out.kept (Kept.of_ext X0)).mono (L := fun q => K q ∨ New w W0 q) (by decide) (fun q _ h => .inl h)) hTP h0 (by omega) ⟨now0, by omega, h2⟩ (hs.mono (by omega)) hfs hfb)
  have XL : x.1.length = n + 1 := by obtain ⟨n', _, _, _, e1, _, _, e2, _⟩ := h.down; omega
  have N64 : n ≤ 64 := by obtain ⟨n', _, _, _, e1, _, e2, _⟩ := h.down; omega
  have DL := h.delay.2
  have RM := h.room n
  have GA : Hid (∀ W, Kept K w W → Calls Try.prog 22 #[.agg (mcs c av lv fv (x.2.1 : Int) x.2.2), .int .i64 (n : Int), .int .i64 now, .string (str t)] W fun e w' => ∃ lv', e = .returned (.agg (mcs c av lv' fv ((gv c fs now t x n).2.1 : Int) (gv c fs now t x n).2.2)) ∧ ListsK (fun i => E i ∨ New W w' i) w' lv' (gv c fs now t x n).1 ∧ Ext W w') := fun W k => give_any E c av lv fv fs x n now t W (HL.out.kept (k.mono hE)) (HF.out.kept (k.mono hE)) (by omega) (by omega) hfb (by obtain ⟨_, _, _, e⟩ := SAV.out; rw [e]; rfl) (by omega) (hs.mono (by omega)) (by omega) now0 (by omega) DL.1 DL.2
  rw [hn] at m0
  rw [e0] at m0 m3 m4 m5 o0 o1 o2 o4
  unfold zmod at m0 m3 m4 m5 o0 o1 o2 o4
  have E0 := hid e0
  have E0' : Hid (W0 = (((w.alloc (.cells (mcs c av lv fv (x.2.1 : Int) x.2.2) 40)).alloc (.cells #[.int .i64 3, .int .i64 R, .int .i64 level, .int .i64 later, .slice ta tn tc] 43)).alloc (.cells #[.int .i64 0, .int .i64 0, .int .i64 0, .int .i64 0, .int .i64 0, .slice none 0 0, .slice none 0 0, .slice none 0 0, .int .i64 0, .int .i64 0, .int .i64 0, .int .i64 0, .int .i64 0, .int .i64 0, .int .i64 0] 40)).alloc (.cells #[.bool false] 4)) := e0
  clear hE h hA hL hF hT hTP hth BX X0 H0 e0 z0
  clear hs hfs hfb RM DL XL N64
  have h2' : (tn : Int) ≤ 320 := by omega
  clear h2
  go_enter Try.func10, Try.ntmps10
  go_wp2_with fail
  rw [← E0'.out]
  refine UO.out.mono ?_
  rintro e w1 ⟨rfl, n1, k1'⟩
  have BW := BXH.out.kept k1' (fun i h1 h2 => KB.out i h1 h2)
  have KW : Kept K w w1 := (Kept.of_ext X0H.out).trans (k1'.mono (fun q hq => .inl hq))
  have N1 := hid n1
  have KWH := hid KW
  have BWH := hid BW
  have G1 := hid (GA.out w1 KW)
  have CT : (convert 41 9 (.slice ta tn tc)).run Try.prog w1 = .ok (.string (str t)) w1 := Bytes.str (HT.out.kept KW).bytes
  clear m0 m3 m4 m5 o0 o1 o2 o4 UO
  obtain ⟨⟨m0, m3, m4, m5⟩, o0, o1, o2, o4⟩ := BW.cells
  rw [HN.out] at m0
  have MBW := hid BW.1
  have Z1 : Hid (w.heap.size + 4 ≤ w1.heap.size) := Nat.le_trans Z0.out k1'.size
  clear n1 k1' KW BW GA
  go_wp2_with (first
    | refine wpList_load_row rfl 40 (.tmp 4) rfl w.heap.size rfl 40 _ (0, 0) _ MBW.out Try.underlying40 rfl size_model ?_)
  refine G1.out.mono ?_
  rintro e w2 ⟨lv', rfl, hl2, x2⟩
  have n2 := N1.out.more x2
  have BW := BWH.out.kept (Kept.of_ext (K := fun _ => True) x2) (fun _ _ _ => trivial)
  have KW : Kept K w w2 := KWH.out.trans (Kept.of_ext x2)
  have z1 := Z1.out
  have HL2 : ListsK (Dat E (fun q => (K q ∨ New w W0 q) ∨ New w1 w2 q) w.heap.size) w2 lv' (gv c fs now t x n).1 := hl2.mono (fun q _ hq => hq.elim .inl (fun h => .inr ⟨by have := h.1; have h3 : w.heap.size + 4 ≤ w1.heap.size := Z1.out; omega, .inr h⟩))
  clear z1 hl2 m0 m3 m4 m5 o0 o1 o2 o4 G1 CT
  obtain ⟨e1, e2, e3, e4, e5⟩ := step_end (b := b) (bs := bs) (c := c) (l := l) (fs := fs) (x := (gv c fs now t x n)) (av := av) (lv := lv') (fv := fv) (h0 := w.heap.size) rfl HEH.out HTH.out (K' := (fun q => (K q ∨ New w W0 q) ∨ New w1 w2 q)) (fun q hq => .inl (.inl hq)) (fun i h1 h2 => .inl (KB.out i h1 h2)) n2 ((HA.out.kept (KW.mono HEH.out)).mono (L := Dat E (fun q => (K q ∨ New w W0 q) ∨ New w1 w2 q) w.heap.size) (by decide) (fun q _ h => .inl h)) HL2 ((HF.out.kept (KW.mono HEH.out)).mono (L := Dat E (fun q => (K q ∨ New w W0 q) ∨ New w1 w2 q) w.heap.size) (by decide) (fun q _ h => .inl h)) KW BW.2.2.1 BW.2.2.2 _ rfl
  have MBX := BW.1
  have ZBX := BW.2.2.1
  have ONE := hid (mcs_one c av lv' fv ((((gv c fs now t x n) : St).2.1 : Nat) : Int) ((gv c fs now t x n) : St).2.2 (by obtain ⟨_, _, _, e⟩ := SAV.out; rw [e]; rfl) (by obtain ⟨_, _, _, e⟩ := lists_slice HL2; rw [e]; rfl) (by obtain ⟨_, _, _, e⟩ := SFV.out; rw [e]; rfl))
  have E3 := hid e3
  have E4 := hid e4
  have E5 := hid e5
  have MBXH := hid MBX
  have ZBXH := hid ZBX
  clear e3 e4 e5 MBX ZBX
  clear BW KW HL2 n2 x2
  go_wp2_with (first
    | refine wpList_store_row rfl 40 (.tmp 8) (.tmp 172) rfl (w.heap.size + 1 + 1) _ rfl rfl 40 _ ZBXH.out size_model rfl ONE.out ?_)
  refine bodyPost_ret (results_row_bool Try.results10 _ _ (w.heap.size + 1 + 1) (w.heap.size + 1 + 1 + 1) 40 _ (0, 0) _ true rfl E3.out rfl E4.out Try.underlying40 rfl size_model Try.underlying4) rfl ?_
  exact E5.out
end Go.Proofs.Ytjmgigfaiaemeaa.Sim

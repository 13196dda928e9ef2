/-
  The model's step: a call of no kind; a message to the sender.
-/
import Derived.Test.YtjmgigfaiaemeaaSimStepM
namespace Go.Proofs.Ytjmgigfaiaemeaa.Sim
set_option linter.unusedVariables false
set_option maxRecDepth 100000
open Go.RowKit Go.Lib Go.Shelf Go.Proofs.Ytjmgigfaiaemeaa.Crc Go.Proofs.Ytjmgigfaiaemeaa.Grp
open Go.Proofs.Ytjmgigfaiaemeaa.Pip hiding NewR
attribute [local go_sem] Oper.semAt_some

set_option maxHeartbeats 2000000 in
theorem step_other (K E : Nat → Prop) (hE : ∀ q, E q → K q) (w : World) (b : Nat) (bs : Nat → Nat) (c : Cfg) (n : Nat) (hn : c.1 = (n : Int)) (l : List Tri) (fs : List (Int × Int)) (x : St) (av lv fv : Value) (h : NetK K w b bs c l fs x) (hA : RowK E w av 3 (fcells tri l)) (hL : ListsK E w lv x.1) (hF : RowK E w fv 2 (fcells pr fs)) (kind R level later : Int) (tv : Value) (t : List UInt8) (hT : RowK K w tv 1 (bcells t)) (hTP : Plain tv) (now : Int) (now0 : 0 ≤ now) (now1 : now ≤ 1000000) (hk : kind < 1 ∨ 5 < kind) :
    Calls Try.prog 10 #[.agg (mcs c av lv fv (x.2.1 : Int) x.2.2), .pointer (some ⟨b, 0, none⟩), .agg #[.int .i64 kind, .int .i64 R, .int .i64 level, .int .i64 later, tv], .int .i64 now] w fun e w' => SteppedS K E w b bs c l fs x e w' := by
  have hth := h.there
  obtain ⟨W0, e0⟩ : ∃ W0, W0 = (((w.alloc (.cells (mcs c av lv fv (x.2.1 : Int) x.2.2) 40)).alloc (.cells #[.int .i64 kind, .int .i64 R, .int .i64 level, .int .i64 later, tv] 43)).alloc (.cells zmod 40)).alloc (.cells #[.bool false] 4) := ⟨_, rfl⟩
  have X0 : Ext w W0 := by rw [e0]; exact ((((Ext.refl w).alloc _).alloc _).alloc _).alloc _
  have BX : StepBox W0 w.heap.size (mcs c av lv fv (x.2.1 : Int) x.2.2) kind R level later tv := by rw [e0]; exact alloc4 w _ _ _ _
  have z0 : w.heap.size + 4 ≤ W0.heap.size := by have := lt_of_row BX.2.2.2; omega
  have H0 := h.more X0
  have HTH := hid hth
  have HEH := hid hE
  have BXH := hid BX
  have X0H := hid X0
  have H0H := hid H0
  have HN := hid hn
  have HA := hid hA
  have HL := hid hL
  have HF := hid hF
  have HT := hid hT
  have HTP := hid hTP
  have Z0 : Hid (w.heap.size + 4 ≤ W0.heap.size) := z0
  have KB : Hid (∀ i, w.heap.size ≤ i → i < w.heap.size + 4 → K i ∨ New w W0 i) := fun i h1 h2 => .inr ⟨h1, by omega⟩
  obtain ⟨⟨m0, m3, m4, m5⟩, o0, o1, o2, o4⟩ := BX.cells
  obtain ⟨ta, tn, tc, et, tl, tb, td, _⟩ := id hT
  rw [bcells_length, Nat.mul_one] at tl
  subst et
  unfold maxLen at td
  have SAV := hid (row_slice hA)
  have SFV := hid (row_slice hF)
  have k1 : (kind == 1) = false := by simp; omega
  have k2 : (kind == 2) = false := by simp; omega
  have k3 : (kind == 3) = false := by simp; omega
  have k4 : (kind == 4) = false := by simp; omega
  have k5 : (kind == 5) = false := by simp; omega
  rw [e0] at m0 m3 m4 m5 o0 o1 o2 o4
  unfold zmod at m0 m3 m4 m5 o0 o1 o2 o4
  have E0 := hid e0
  have E0' : Hid (W0 = (((w.alloc (.cells (mcs c av lv fv (x.2.1 : Int) x.2.2) 40)).alloc (.cells #[.int .i64 kind, .int .i64 R, .int .i64 level, .int .i64 later, .slice ta tn tc] 43)).alloc (.cells #[.int .i64 0, .int .i64 0, .int .i64 0, .int .i64 0, .int .i64 0, .slice none 0 0, .slice none 0 0, .slice none 0 0, .int .i64 0, .int .i64 0, .int .i64 0, .int .i64 0, .int .i64 0, .int .i64 0, .int .i64 0] 40)).alloc (.cells #[.bool false] 4)) := e0
  clear hE h hA hL hF hT hTP hth BX X0 H0 e0 z0
  obtain ⟨e1, e2, e3, e4, e5⟩ := step_end (b := b) (bs := bs) (c := c) (l := l) (fs := fs) (x := x) (av := av) (lv := lv) (fv := fv) (h0 := w.heap.size) rfl HEH.out HTH.out (K' := (fun q => K q ∨ New w W0 q)) (fun q hq => .inl hq) KB.out H0H.out ((HA.out.kept (Kept.of_ext X0H.out)).mono (L := Dat E (fun q => K q ∨ New w W0 q) w.heap.size) (by decide) (fun q _ h => .inl h)) ((HL.out.kept (Kept.of_ext X0H.out)).mono (L := Dat E (fun q => K q ∨ New w W0 q) w.heap.size) (fun q _ h => .inl h)) ((HF.out.kept (Kept.of_ext X0H.out)).mono (L := Dat E (fun q => K q ∨ New w W0 q) w.heap.size) (by decide) (fun q _ h => .inl h)) (Kept.of_ext X0H.out) BXH.out.2.2.1 BXH.out.2.2.2 _ rfl
  have MBX := BXH.out.1
  have ZBX := BXH.out.2.2.1
  have ONE := hid (mcs_one c av lv fv (((x : St).2.1 : Nat) : Int) (x : St).2.2 (by obtain ⟨_, _, _, e⟩ := SAV.out; rw [e]; rfl) (by obtain ⟨_, _, _, e⟩ := lists_slice ((HL.out.kept (Kept.of_ext X0H.out)).mono (L := Dat E (fun q => K q ∨ New w W0 q) w.heap.size) (fun q _ h => .inl h)); rw [e]; rfl) (by obtain ⟨_, _, _, e⟩ := SFV.out; rw [e]; rfl))
  rw [E0'.out] at e1 e2 e3 e4 e5 MBX ZBX
  have E3 := hid e3
  have E4 := hid e4
  have E5 := hid e5
  have MBXH := hid MBX
  have ZBXH := hid ZBX
  clear e3 e4 e5 MBX ZBX
  clear HTH hk
  by_cases r0 : 0 ≤ R
  · skip
    go_enter Try.func10, Try.ntmps10
    go_wp2_with (first
      | refine wpList_load_row rfl 40 (.tmp 4) rfl w.heap.size rfl 40 _ (0, 0) _ MBXH.out Try.underlying40 rfl size_model ?_
      | refine wpList_store_row rfl 40 (.tmp 8) (.tmp 211) rfl (w.heap.size + 1 + 1) _ rfl rfl 40 _ ZBXH.out size_model rfl ONE.out ?_)
    refine bodyPost_ret (results_row_bool Try.results10 _ _ (w.heap.size + 1 + 1) (w.heap.size + 1 + 1 + 1) 40 _ (0, 0) _ true rfl E3.out rfl E4.out Try.underlying40 rfl size_model Try.underlying4) rfl ?_
    exact E5.out
  · skip
    go_enter Try.func10, Try.ntmps10
    go_wp2_with (first
      | refine wpList_load_row rfl 40 (.tmp 4) rfl w.heap.size rfl 40 _ (0, 0) _ MBXH.out Try.underlying40 rfl size_model ?_
      | refine wpList_store_row rfl 40 (.tmp 8) (.tmp 211) rfl (w.heap.size + 1 + 1) _ rfl rfl 40 _ ZBXH.out size_model rfl ONE.out ?_)
    refine bodyPost_ret (results_row_bool Try.results10 _ _ (w.heap.size + 1 + 1) (w.heap.size + 1 + 1 + 1) 40 _ (0, 0) _ true rfl E3.out rfl E4.out Try.underlying40 rfl size_model Try.underlying4) rfl ?_
    exact E5.out
end Go.Proofs.Ytjmgigfaiaemeaa.Sim

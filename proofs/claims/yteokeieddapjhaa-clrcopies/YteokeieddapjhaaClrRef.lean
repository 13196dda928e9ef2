/-
  The reference of layer 18: walk of Leave. (Printed by wip/gen/clrref.py.)
-/
import Derived.Test.YteokeieddapjhaaClrSt
namespace Go.Proofs.Yteokeieddapjhaa.Clr
set_option linter.unusedVariables false
set_option linter.unusedSimpArgs false
set_option maxRecDepth 100000
open Go.RowKit Go.Lib

set_option maxHeartbeats 2000000 in
theorem rleave_any (s : BS) (f : Int) (w : World) (h : FitB s) :
    Calls Try.prog 18 #[.agg (dcs s), .int .i64 f] w fun e w' => e = .returned (.tuple #[.agg (dcs (bleave s f).1), .bool (bleave s f).2]) ∧ Ext w w' := by
  obtain ⟨V, bx, e1, eb, S0⟩ := boxes w s.1 (clr s) h.1
  have E1 := hid e1
  have EB := hid eb
  have SS := hid S0
  clear e1 eb S0
  by_cases a0 : isR f
  case neg =>
    have es : bleave s f = (s, false) := by unfold bleave; rw [la_out (by rw [h.1]; unfold isR at a0; omega)]; rfl
    rw [es]
    rw [show dcs s = dc s.1 (clr s) from rfl]
    have FIN := hid (SS.out.done (dc s.1 (clr s)))
    have ONE := hid (dc_one _ _ : (dc s.1 (clr s)).all (·.oneCell') = true)
    have SZ : Hid ((dc s.1 (clr s)).size = 193) := dc_size _ _ SS.out.2.2.2.2
    clear es
    by_cases a1 : f < 0
    · clear a0 h
      go_enter Try.func18, Try.ntmps18
      go_wp2_with (first
        | (refine bodyPost_ret (results_cell_tmp1 Try.results18 _ _ (bx + 1) 33 _ (0, 0) _ rfl FIN.out.2 Try.underlying33 rfl (by rw [SZ.out]; exact size_st)) rfl ?_; exact ⟨rfl, FIN.out.1⟩)
        | refine wpList_alloc_zero rfl 33 rfl dz zero_st ?_
        | rw [← EB.out, ← E1.out]
        | refine wpList_load_row rfl 33 (.tmp 2) rfl bx rfl 33 _ (0, 0) _ SS.out.1 Try.underlying33 rfl (by rw [SZ.out]; exact size_st) ?_
        | refine wpList_store_row rfl 33 (.tmp 4) _ rfl (bx + 1) (dc s.1 (clr s)) rfl rfl 33 _ SS.out.2.1 (by rw [SZ.out]; exact size_st) (by rw [SZ.out]; exact dz_size) ONE.out ?_)
    · have a2 : 63 < f := by unfold isR at a0; omega
      clear a0 h
      go_enter Try.func18, Try.ntmps18
      go_wp2_with (first
        | (refine bodyPost_ret (results_cell_tmp1 Try.results18 _ _ (bx + 1) 33 _ (0, 0) _ rfl FIN.out.2 Try.underlying33 rfl (by rw [SZ.out]; exact size_st)) rfl ?_; exact ⟨rfl, FIN.out.1⟩)
        | refine wpList_alloc_zero rfl 33 rfl dz zero_st ?_
        | rw [← EB.out, ← E1.out]
        | refine wpList_load_row rfl 33 (.tmp 2) rfl bx rfl 33 _ (0, 0) _ SS.out.1 Try.underlying33 rfl (by rw [SZ.out]; exact size_st) ?_
        | refine wpList_store_row rfl 33 (.tmp 4) _ rfl (bx + 1) (dc s.1 (clr s)) rfl rfl 33 _ SS.out.2.1 (by rw [SZ.out]; exact size_st) (by rw [SZ.out]; exact dz_size) ONE.out ?_)
  obtain ⟨k, rfl⟩ : ∃ k : Nat, f = (k : Int) := ⟨f.toNat, by have := a0.1; omega⟩
  have hk : k < 64 := by have := a0.2; omega
  have i1 : (k : Int) < 64 := by omega
  have i2 : (0 : Int) ≤ (k : Int) := by omega
  have AT := SS.out.at hk
  cases e : sat s.1 k with
  | none =>
    have es : bleave s k = (s, false) := by unfold bleave; rw [la_nat, e]; rfl
    rw [es]
    rw [show dcs s = dc s.1 (clr s) from rfl]
    have FIN := hid (SS.out.done (dc s.1 (clr s)))
    have ONE := hid (dc_one _ _ : (dc s.1 (clr s)).all (·.oneCell') = true)
    have SZ : Hid ((dc s.1 (clr s)).size = 193) := dc_size _ _ SS.out.2.2.2.2
    rw [e] at AT
    have c0 := AT 0 _ rfl
    rw [Nat.add_zero] at c0
    clear es a0 h AT e
    go_enter Try.func18, Try.ntmps18
    go_wp2_with (first
      | (refine bodyPost_ret (results_cell_tmp1 Try.results18 _ _ (bx + 1) 33 _ (0, 0) _ rfl FIN.out.2 Try.underlying33 rfl (by rw [SZ.out]; exact size_st)) rfl ?_; exact ⟨rfl, FIN.out.1⟩)
      | refine wpList_alloc_zero rfl 33 rfl dz zero_st ?_
      | rw [← EB.out, ← E1.out]
      | refine wpList_load_row rfl 33 (.tmp 2) rfl bx rfl 33 _ (0, 0) _ SS.out.1 Try.underlying33 rfl (by rw [SZ.out]; exact size_st) ?_
      | refine wpList_store_row rfl 33 (.tmp 4) _ rfl (bx + 1) (dc s.1 (clr s)) rfl rfl 33 _ SS.out.2.1 (by rw [SZ.out]; exact size_st) (by rw [SZ.out]; exact dz_size) ONE.out ?_)
  | some q =>
    have hs : (la s.1 (k : Int)).isSome = true := by rw [la_nat, e]; rfl
    obtain ⟨ec, er⟩ := clr_leave h hs
    have e1 : (bleave s k).1.1 = s.1.set k none := by unfold bleave; rw [if_pos hs]; rfl
    rw [er]
    rw [show dcs (bleave s k).1 = dc (s.1.set k none) (clr (bleave s k).1) by unfold dcs; rw [e1], ec]
    rw [show dcs s = dc s.1 (clr s) from rfl]
    rw [e] at AT
    have c0 := AT 0 _ rfl
    rw [Nat.add_zero] at c0
    obtain ⟨st, S1⟩ := SS.out.put hk none
    have cc := S1.clr
    have fc := S1.free 192
    obtain ⟨V1, ev1⟩ : ∃ V1, V1 = V.setRow bx (dc (s.1.set k none) (clr s)) := ⟨_, rfl⟩
    rw [← ev1] at st S1 cc fc
    have ST := hid st
    have SA := hid S1
    clear ev1 st S1 AT ec er e1 hs a0 h e
    by_cases q : clr s = (k : Int)
    · rw [if_pos q]
      obtain ⟨V2, ev2⟩ : ∃ V2, V2 = V1.setCell ⟨bx, 192, none⟩ (.int .i64 (-1)) := ⟨_, rfl⟩
      have S2 := SA.out.who (-1)
      rw [← ev2] at S2
      have SB := hid S2
      have E2 := hid ev2
      clear ev2 S2
      have FIN := hid (SB.out.done (dc (s.1.set k none) (-1)))
      have ONE := hid (dc_one _ _ : (dc (s.1.set k none) (-1)).all (·.oneCell') = true)
      have SZ : Hid ((dc (s.1.set k none) (-1)).size = 193) := dc_size _ _ SB.out.2.2.2.2
      rw [show (clr s == (k : Int)) = true by rw [q]; simp]
      rw [q] at cc
      clear q
      go_enter Try.func18, Try.ntmps18
      go_wp2_with (first
        | (refine bodyPost_ret (results_cell_tmp1 Try.results18 _ _ (bx + 1) 33 _ (0, 0) _ rfl FIN.out.2 Try.underlying33 rfl (by rw [SZ.out]; exact size_st)) rfl ?_; exact ⟨rfl, FIN.out.1⟩)
        | refine wpList_alloc_zero rfl 33 rfl dz zero_st ?_
        | rw [← EB.out, ← E1.out]
        | rw [← E2.out]
        | refine wpList_store_known rfl 30 (.tmp 24) (.tmp 22) rfl (.pointer (some ⟨bx, k * 3, none⟩)) (.agg (sl none).toArray) rfl rfl ST.out ?_
        | refine wpList_load_row rfl 33 (.tmp 2) rfl bx rfl 33 _ (0, 0) _ SB.out.1 Try.underlying33 rfl (by rw [SZ.out]; exact size_st) ?_
        | refine wpList_store_row rfl 33 (.tmp 4) _ rfl (bx + 1) (dc (s.1.set k none) (-1)) rfl rfl 33 _ SB.out.2.1 (by rw [SZ.out]; exact size_st) (by rw [SZ.out]; exact dz_size) ONE.out ?_)
    · rw [if_neg q]
      have FIN := hid (SA.out.done (dc (s.1.set k none) (clr s)))
      have ONE := hid (dc_one _ _ : (dc (s.1.set k none) (clr s)).all (·.oneCell') = true)
      have SZ : Hid ((dc (s.1.set k none) (clr s)).size = 193) := dc_size _ _ SA.out.2.2.2.2
      rw [show (clr s == (k : Int)) = false from beq_eq_false_iff_ne.2 q]
      generalize clr s = C at *
      go_enter Try.func18, Try.ntmps18
      go_wp2_with (first
        | (refine bodyPost_ret (results_cell_tmp1 Try.results18 _ _ (bx + 1) 33 _ (0, 0) _ rfl FIN.out.2 Try.underlying33 rfl (by rw [SZ.out]; exact size_st)) rfl ?_; exact ⟨rfl, FIN.out.1⟩)
        | refine wpList_alloc_zero rfl 33 rfl dz zero_st ?_
        | rw [← EB.out, ← E1.out]
        | refine wpList_store_known rfl 30 (.tmp 24) (.tmp 22) rfl (.pointer (some ⟨bx, k * 3, none⟩)) (.agg (sl none).toArray) rfl rfl ST.out ?_
        | refine wpList_load_row rfl 33 (.tmp 2) rfl bx rfl 33 _ (0, 0) _ SA.out.1 Try.underlying33 rfl (by rw [SZ.out]; exact size_st) ?_
        | refine wpList_store_row rfl 33 (.tmp 4) _ rfl (bx + 1) (dc (s.1.set k none) C) rfl rfl 33 _ SA.out.2.1 (by rw [SZ.out]; exact size_st) (by rw [SZ.out]; exact dz_size) ONE.out ?_)
end Go.Proofs.Yteokeieddapjhaa.Clr

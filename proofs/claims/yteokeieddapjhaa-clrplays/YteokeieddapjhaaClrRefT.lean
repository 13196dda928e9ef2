/-
  The reference of layer 18: walk of Take. (Printed by wip/gen/clrref.py.)
-/
import Derived.Test.YteokeieddapjhaaClrSt
namespace Go.Proofs.Yteokeieddapjhaa.Clr
set_option linter.unusedVariables false
set_option linter.unusedSimpArgs false
set_option maxRecDepth 100000
open Go.RowKit Go.Lib

/-- a report that is taken in: the state then -/
theorem dcs_put {s : BS} (h : FitB s) {k : Nat} (hk : k < 64) (t x : Int) : dcs (put s (k : Int) t x) = dc (s.1.set k (some (t, x))) (if limits s x then (k : Int) else clr s) := by
  unfold dcs
  rw [clr_put h (show isR (k : Int) from ⟨by omega, by omega⟩)]
  rfl
set_option maxHeartbeats 4000000 in
theorem rtake_any (s : BS) (lim f t x now : Int) (w : World) (h : FitB s) :
    Calls Try.prog 17 #[.agg (dcs s), .int .i64 lim, .int .i64 f, .int .i64 t, .int .u64 x, .int .i64 now] w fun e w' => e = .returned (.tuple #[.agg (dcs (btake s lim f t x now).1), .int .i64 (btake s lim f t x now).2]) ∧ Ext w w' := by
  obtain ⟨C, eC⟩ : ∃ C, C = clr s := ⟨_, rfl⟩
  obtain ⟨V, bx, e1, eb, S0⟩ := boxes w s.1 C h.1
  rw [show dcs s = dc s.1 C by unfold dcs; rw [eC]]
  have E1 := hid e1
  have EB := hid eb
  have SS := hid S0
  clear e1 eb S0
  by_cases b0 : f < 0
  · have es : btake s lim f t x now = (s, 11) := by unfold btake; rw [if_neg (fun g => by have := g.1.1; omega)]
    rw [es]
    rw [show dcs s = dc s.1 C by unfold dcs; rw [eC]]
    have FIN := hid (SS.out.done (dc s.1 C))
    have ONE := hid (dc_one _ _ : (dc s.1 C).all (·.oneCell') = true)
    have SZ : Hid ((dc s.1 C).size = 193) := dc_size _ _ SS.out.2.2.2.2
    clear es eC
    clear h
    go_enter Try.func17, Try.ntmps17
    go_wp2_with (first
      | (refine bodyPost_ret (results_cell_tmp1 Try.results17 _ _ (bx + 1) 33 _ (0, 0) _ rfl FIN.out.2 Try.underlying33 rfl (by rw [SZ.out]; exact size_st)) rfl ?_; exact ⟨rfl, FIN.out.1⟩)
      | refine wpList_alloc_zero rfl 33 rfl dz zero_st ?_
      | rw [← EB.out, ← E1.out]
      | refine wpList_load_row rfl 33 (.tmp 6) rfl bx rfl 33 _ (0, 0) _ SS.out.1 Try.underlying33 rfl (by rw [SZ.out]; exact size_st) ?_
      | refine wpList_store_row rfl 33 (.tmp 12) _ rfl (bx + 1) (dc s.1 C) rfl rfl 33 _ SS.out.2.1 (by rw [SZ.out]; exact size_st) (by rw [SZ.out]; exact dz_size) ONE.out ?_)
  by_cases b1 : 63 < f
  · have es : btake s lim f t x now = (s, 11) := by unfold btake; rw [if_neg (fun g => by have := g.1.2; omega)]
    rw [es]
    rw [show dcs s = dc s.1 C by unfold dcs; rw [eC]]
    have FIN := hid (SS.out.done (dc s.1 C))
    have ONE := hid (dc_one _ _ : (dc s.1 C).all (·.oneCell') = true)
    have SZ : Hid ((dc s.1 C).size = 193) := dc_size _ _ SS.out.2.2.2.2
    clear es eC
    clear h
    go_enter Try.func17, Try.ntmps17
    go_wp2_with (first
      | (refine bodyPost_ret (results_cell_tmp1 Try.results17 _ _ (bx + 1) 33 _ (0, 0) _ rfl FIN.out.2 Try.underlying33 rfl (by rw [SZ.out]; exact size_st)) rfl ?_; exact ⟨rfl, FIN.out.1⟩)
      | refine wpList_alloc_zero rfl 33 rfl dz zero_st ?_
      | rw [← EB.out, ← E1.out]
      | refine wpList_load_row rfl 33 (.tmp 6) rfl bx rfl 33 _ (0, 0) _ SS.out.1 Try.underlying33 rfl (by rw [SZ.out]; exact size_st) ?_
      | refine wpList_store_row rfl 33 (.tmp 12) _ rfl (bx + 1) (dc s.1 C) rfl rfl 33 _ SS.out.2.1 (by rw [SZ.out]; exact size_st) (by rw [SZ.out]; exact dz_size) ONE.out ?_)
  by_cases b2 : t < 0
  · have es : btake s lim f t x now = (s, 11) := by unfold btake; rw [if_neg (fun g => by have := g.2.1.1; omega)]
    rw [es]
    rw [show dcs s = dc s.1 C by unfold dcs; rw [eC]]
    have FIN := hid (SS.out.done (dc s.1 C))
    have ONE := hid (dc_one _ _ : (dc s.1 C).all (·.oneCell') = true)
    have SZ : Hid ((dc s.1 C).size = 193) := dc_size _ _ SS.out.2.2.2.2
    clear es eC
    clear h
    go_enter Try.func17, Try.ntmps17
    go_wp2_with (first
      | (refine bodyPost_ret (results_cell_tmp1 Try.results17 _ _ (bx + 1) 33 _ (0, 0) _ rfl FIN.out.2 Try.underlying33 rfl (by rw [SZ.out]; exact size_st)) rfl ?_; exact ⟨rfl, FIN.out.1⟩)
      | refine wpList_alloc_zero rfl 33 rfl dz zero_st ?_
      | rw [← EB.out, ← E1.out]
      | refine wpList_load_row rfl 33 (.tmp 6) rfl bx rfl 33 _ (0, 0) _ SS.out.1 Try.underlying33 rfl (by rw [SZ.out]; exact size_st) ?_
      | refine wpList_store_row rfl 33 (.tmp 12) _ rfl (bx + 1) (dc s.1 C) rfl rfl 33 _ SS.out.2.1 (by rw [SZ.out]; exact size_st) (by rw [SZ.out]; exact dz_size) ONE.out ?_)
  by_cases b3 : 1099511627776 < t
  · have es : btake s lim f t x now = (s, 11) := by unfold btake; rw [if_neg (fun g => by have := g.2.1.2; omega)]
    rw [es]
    rw [show dcs s = dc s.1 C by unfold dcs; rw [eC]]
    have FIN := hid (SS.out.done (dc s.1 C))
    have ONE := hid (dc_one _ _ : (dc s.1 C).all (·.oneCell') = true)
    have SZ : Hid ((dc s.1 C).size = 193) := dc_size _ _ SS.out.2.2.2.2
    clear es eC
    clear h
    go_enter Try.func17, Try.ntmps17
    go_wp2_with (first
      | (refine bodyPost_ret (results_cell_tmp1 Try.results17 _ _ (bx + 1) 33 _ (0, 0) _ rfl FIN.out.2 Try.underlying33 rfl (by rw [SZ.out]; exact size_st)) rfl ?_; exact ⟨rfl, FIN.out.1⟩)
      | refine wpList_alloc_zero rfl 33 rfl dz zero_st ?_
      | rw [← EB.out, ← E1.out]
      | refine wpList_load_row rfl 33 (.tmp 6) rfl bx rfl 33 _ (0, 0) _ SS.out.1 Try.underlying33 rfl (by rw [SZ.out]; exact size_st) ?_
      | refine wpList_store_row rfl 33 (.tmp 12) _ rfl (bx + 1) (dc s.1 C) rfl rfl 33 _ SS.out.2.1 (by rw [SZ.out]; exact size_st) (by rw [SZ.out]; exact dz_size) ONE.out ?_)
  by_cases b4 : now < 0
  · have es : btake s lim f t x now = (s, 11) := by unfold btake; rw [if_neg (fun g => by have := g.2.2.1; omega)]
    rw [es]
    rw [show dcs s = dc s.1 C by unfold dcs; rw [eC]]
    have FIN := hid (SS.out.done (dc s.1 C))
    have ONE := hid (dc_one _ _ : (dc s.1 C).all (·.oneCell') = true)
    have SZ : Hid ((dc s.1 C).size = 193) := dc_size _ _ SS.out.2.2.2.2
    clear es eC
    clear h
    go_enter Try.func17, Try.ntmps17
    go_wp2_with (first
      | (refine bodyPost_ret (results_cell_tmp1 Try.results17 _ _ (bx + 1) 33 _ (0, 0) _ rfl FIN.out.2 Try.underlying33 rfl (by rw [SZ.out]; exact size_st)) rfl ?_; exact ⟨rfl, FIN.out.1⟩)
      | refine wpList_alloc_zero rfl 33 rfl dz zero_st ?_
      | rw [← EB.out, ← E1.out]
      | refine wpList_load_row rfl 33 (.tmp 6) rfl bx rfl 33 _ (0, 0) _ SS.out.1 Try.underlying33 rfl (by rw [SZ.out]; exact size_st) ?_
      | refine wpList_store_row rfl 33 (.tmp 12) _ rfl (bx + 1) (dc s.1 C) rfl rfl 33 _ SS.out.2.1 (by rw [SZ.out]; exact size_st) (by rw [SZ.out]; exact dz_size) ONE.out ?_)
  by_cases b5 : 1099511627776 < now
  · have es : btake s lim f t x now = (s, 11) := by unfold btake; rw [if_neg (fun g => by have := g.2.2.2; omega)]
    rw [es]
    rw [show dcs s = dc s.1 C by unfold dcs; rw [eC]]
    have FIN := hid (SS.out.done (dc s.1 C))
    have ONE := hid (dc_one _ _ : (dc s.1 C).all (·.oneCell') = true)
    have SZ : Hid ((dc s.1 C).size = 193) := dc_size _ _ SS.out.2.2.2.2
    clear es eC
    clear h
    go_enter Try.func17, Try.ntmps17
    go_wp2_with (first
      | (refine bodyPost_ret (results_cell_tmp1 Try.results17 _ _ (bx + 1) 33 _ (0, 0) _ rfl FIN.out.2 Try.underlying33 rfl (by rw [SZ.out]; exact size_st)) rfl ?_; exact ⟨rfl, FIN.out.1⟩)
      | refine wpList_alloc_zero rfl 33 rfl dz zero_st ?_
      | rw [← EB.out, ← E1.out]
      | refine wpList_load_row rfl 33 (.tmp 6) rfl bx rfl 33 _ (0, 0) _ SS.out.1 Try.underlying33 rfl (by rw [SZ.out]; exact size_st) ?_
      | refine wpList_store_row rfl 33 (.tmp 12) _ rfl (bx + 1) (dc s.1 C) rfl rfl 33 _ SS.out.2.1 (by rw [SZ.out]; exact size_st) (by rw [SZ.out]; exact dz_size) ONE.out ?_)
  have q1 : isR f := ⟨by omega, by omega⟩
  have q2 : isT t := ⟨by omega, by omega⟩
  have q3 : isT now := ⟨by omega, by omega⟩
  obtain ⟨k, rfl⟩ : ∃ k : Nat, f = (k : Int) := ⟨f.toNat, by omega⟩
  have hk : k < 64 := by omega
  have i1 : (k : Int) < 64 := by omega
  have i2 : (0 : Int) ≤ (k : Int) := by omega
  have wn : IntKind.i64.wrap (now - t) = now - t := IntWalk.i64_in _ (by omega)
  have AT := SS.out.at hk
  have STL : stale s lim (k : Int) t now → btake s lim (k : Int) t x now = (s, 23) := fun g => by unfold btake; rw [if_pos ⟨q1, q2, q3⟩, if_pos g]
  have OK : ¬ stale s lim (k : Int) t now → btake s lim (k : Int) t x now = (put s (k : Int) t x, 0) := fun g => by unfold btake; rw [if_pos ⟨q1, q2, q3⟩, if_neg g]
  by_cases a1 : lim < now - t
  · have es : btake s lim (k : Int) t x now = (s, 23) := by exact STL (.inl (by omega))
    rw [es]
    rw [show dcs s = dc s.1 C by unfold dcs; rw [eC]]
    have FIN := hid (SS.out.done (dc s.1 C))
    have ONE := hid (dc_one _ _ : (dc s.1 C).all (·.oneCell') = true)
    have SZ : Hid ((dc s.1 C).size = 193) := dc_size _ _ SS.out.2.2.2.2
    clear es eC
    clear h STL OK AT q1 q2 q3
    go_enter Try.func17, Try.ntmps17
    go_wp2_with (first
      | (refine bodyPost_ret (results_cell_tmp1 Try.results17 _ _ (bx + 1) 33 _ (0, 0) _ rfl FIN.out.2 Try.underlying33 rfl (by rw [SZ.out]; exact size_st)) rfl ?_; exact ⟨rfl, FIN.out.1⟩)
      | refine wpList_alloc_zero rfl 33 rfl dz zero_st ?_
      | rw [← EB.out, ← E1.out]
      | refine wpList_load_row rfl 33 (.tmp 6) rfl bx rfl 33 _ (0, 0) _ SS.out.1 Try.underlying33 rfl (by rw [SZ.out]; exact size_st) ?_
      | refine wpList_store_row rfl 33 (.tmp 12) _ rfl (bx + 1) (dc s.1 C) rfl rfl 33 _ SS.out.2.1 (by rw [SZ.out]; exact size_st) (by rw [SZ.out]; exact dz_size) ONE.out ?_)
  by_cases a2 : now < t
  · have es : btake s lim (k : Int) t x now = (s, 23) := by exact STL (.inr (.inl a2))
    rw [es]
    rw [show dcs s = dc s.1 C by unfold dcs; rw [eC]]
    have FIN := hid (SS.out.done (dc s.1 C))
    have ONE := hid (dc_one _ _ : (dc s.1 C).all (·.oneCell') = true)
    have SZ : Hid ((dc s.1 C).size = 193) := dc_size _ _ SS.out.2.2.2.2
    clear es eC
    clear h STL OK AT q1 q2 q3
    go_enter Try.func17, Try.ntmps17
    go_wp2_with (first
      | (refine bodyPost_ret (results_cell_tmp1 Try.results17 _ _ (bx + 1) 33 _ (0, 0) _ rfl FIN.out.2 Try.underlying33 rfl (by rw [SZ.out]; exact size_st)) rfl ?_; exact ⟨rfl, FIN.out.1⟩)
      | refine wpList_alloc_zero rfl 33 rfl dz zero_st ?_
      | rw [← EB.out, ← E1.out]
      | refine wpList_load_row rfl 33 (.tmp 6) rfl bx rfl 33 _ (0, 0) _ SS.out.1 Try.underlying33 rfl (by rw [SZ.out]; exact size_st) ?_
      | refine wpList_store_row rfl 33 (.tmp 12) _ rfl (bx + 1) (dc s.1 C) rfl rfl 33 _ SS.out.2.1 (by rw [SZ.out]; exact size_st) (by rw [SZ.out]; exact dz_size) ONE.out ?_)
  cases e : sat s.1 k with
  | none =>
    have OK := OK (fun g => by
      rcases g with g | g | ⟨q, g, _⟩
      · omega
      · exact a2 g
      · rw [la_nat, e] at g; simp at g)
    rw [e] at AT
    have c0 := AT 0 _ rfl
    rw [Nat.add_zero] at c0
    clear STL AT q1 q2 q3 e
    cases ec : cl s with
    | none =>
      have eL : limits s x := fun q e => by rw [ec] at e; simp at e
      have cn : C = -1 := by rw [eC]; unfold clr; rw [ec]; rfl
      subst cn
      rw [OK, dcs_put h hk, if_pos eL]
      have cc := SS.out.clr
      have fc := SS.out.free 192
      have S1 := SS.out.who (k : Int)
      obtain ⟨V1, ev1⟩ : ∃ V1, V1 = V.setCell ⟨bx, 192, none⟩ (.int .i64 (k : Int)) := ⟨_, rfl⟩
      rw [← ev1] at S1
      have E2 := hid ev1
      obtain ⟨st, S2⟩ := S1.put hk (some (t, x))
      obtain ⟨V2, ev2⟩ : ∃ V2, V2 = V1.setRow bx (dc (s.1.set k (some (t, x))) (k : Int)) := ⟨_, rfl⟩
      rw [← ev2] at st S2
      have ST := hid st
      have SB := hid S2
      have FIN := hid (SB.out.done (dc (s.1.set k (some (t, x))) (k : Int)))
      have ONE := hid (dc_one _ _ : (dc (s.1.set k (some (t, x))) (k : Int)).all (·.oneCell') = true)
      have SZ : Hid ((dc (s.1.set k (some (t, x))) (k : Int)).size = 193) := dc_size _ _ SB.out.2.2.2.2
      clear st S1 S2 ev1 ev2 eL OK h eC ec
      go_enter Try.func17, Try.ntmps17
      go_wp2_with (first
        | (refine bodyPost_ret (results_cell_tmp1 Try.results17 _ _ (bx + 1) 33 _ (0, 0) _ rfl FIN.out.2 Try.underlying33 rfl (by rw [SZ.out]; exact size_st)) rfl ?_; exact ⟨rfl, FIN.out.1⟩)
        | refine wpList_alloc_zero rfl 33 rfl dz zero_st ?_
        | rw [← EB.out, ← E1.out]
        | rw [← E2.out]
        | refine wpList_store_known rfl 30 (.tmp 87) (.tmp 85) rfl (.pointer (some ⟨bx, k * 3, none⟩)) (.agg (sl (some (t, x))).toArray) rfl rfl ST.out ?_
        | refine wpList_load_row rfl 33 (.tmp 6) rfl bx rfl 33 _ (0, 0) _ SB.out.1 Try.underlying33 rfl (by rw [SZ.out]; exact size_st) ?_
        | refine wpList_store_row rfl 33 (.tmp 12) _ rfl (bx + 1) (dc (s.1.set k (some (t, x))) (k : Int)) rfl rfl 33 _ SB.out.2.1 (by rw [SZ.out]; exact size_st) (by rw [SZ.out]; exact dz_size) ONE.out ?_)
    | some y =>
      obtain ⟨hr, _⟩ := la_some h ec
      obtain ⟨j, ej⟩ : ∃ j : Nat, s.2 = (j : Int) := ⟨s.2.toNat, by have := hr.1; omega⟩
      have cj : C = (j : Int) := by rw [eC]; unfold clr; rw [ec, ej]; rfl
      subst cj
      have hj : j < 64 := by have := hr.2; omega
      have j1 : (j : Int) < 64 := by omega
      have j2 : (0 : Int) ≤ (j : Int) := by omega
      have j3 : ¬ ((j : Int) < 0) := by omega
      have ey : sat s.1 j = some y := by unfold cl at ec; rw [ej, la_nat] at ec; exact ec
      have AJ := SS.out.at hj
      rw [ey] at AJ
      have d2 := AJ 2 _ rfl
      have cc := SS.out.clr
      have fc := SS.out.free 192
      clear AJ ey hr ej
      by_cases b : x < y.2
      · have eL : limits s x := fun q' e => by rw [ec, Option.some.injEq] at e; rw [← e]; exact b
        rw [OK, dcs_put h hk, if_pos eL]
        have S1 := SS.out.who (k : Int)
        obtain ⟨V1, ev1⟩ : ∃ V1, V1 = V.setCell ⟨bx, 192, none⟩ (.int .i64 (k : Int)) := ⟨_, rfl⟩
        rw [← ev1] at S1
        have E2 := hid ev1
        obtain ⟨st, S2⟩ := S1.put hk (some (t, x))
        obtain ⟨V2, ev2⟩ : ∃ V2, V2 = V1.setRow bx (dc (s.1.set k (some (t, x))) (k : Int)) := ⟨_, rfl⟩
        rw [← ev2] at st S2
        have ST := hid st
        have SB := hid S2
        have FIN := hid (SB.out.done (dc (s.1.set k (some (t, x))) (k : Int)))
        have ONE := hid (dc_one _ _ : (dc (s.1.set k (some (t, x))) (k : Int)).all (·.oneCell') = true)
        have SZ : Hid ((dc (s.1.set k (some (t, x))) (k : Int)).size = 193) := dc_size _ _ SB.out.2.2.2.2
        clear st S1 S2 ev1 ev2 eL OK h eC ec
        go_enter Try.func17, Try.ntmps17
        go_wp2_with (first
          | (refine bodyPost_ret (results_cell_tmp1 Try.results17 _ _ (bx + 1) 33 _ (0, 0) _ rfl FIN.out.2 Try.underlying33 rfl (by rw [SZ.out]; exact size_st)) rfl ?_; exact ⟨rfl, FIN.out.1⟩)
          | refine wpList_alloc_zero rfl 33 rfl dz zero_st ?_
          | rw [← EB.out, ← E1.out]
          | rw [← E2.out]
          | refine wpList_store_known rfl 30 (.tmp 87) (.tmp 85) rfl (.pointer (some ⟨bx, k * 3, none⟩)) (.agg (sl (some (t, x))).toArray) rfl rfl ST.out ?_
          | refine wpList_load_row rfl 33 (.tmp 6) rfl bx rfl 33 _ (0, 0) _ SB.out.1 Try.underlying33 rfl (by rw [SZ.out]; exact size_st) ?_
          | refine wpList_store_row rfl 33 (.tmp 12) _ rfl (bx + 1) (dc (s.1.set k (some (t, x))) (k : Int)) rfl rfl 33 _ SB.out.2.1 (by rw [SZ.out]; exact size_st) (by rw [SZ.out]; exact dz_size) ONE.out ?_)
      · have eL : ¬ limits s x := fun g => b (g y ec)
        rw [OK, dcs_put h hk, if_neg eL, ← eC]
        obtain ⟨st, S2⟩ := SS.out.put hk (some (t, x))
        obtain ⟨V2, ev2⟩ : ∃ V2, V2 = V.setRow bx (dc (s.1.set k (some (t, x))) (j : Int)) := ⟨_, rfl⟩
        rw [← ev2] at st S2
        have ST := hid st
        have SB := hid S2
        have FIN := hid (SB.out.done (dc (s.1.set k (some (t, x))) (j : Int)))
        have ONE := hid (dc_one _ _ : (dc (s.1.set k (some (t, x))) (j : Int)).all (·.oneCell') = true)
        have SZ : Hid ((dc (s.1.set k (some (t, x))) (j : Int)).size = 193) := dc_size _ _ SB.out.2.2.2.2
        clear st S2 ev2 eL OK h eC ec
        go_enter Try.func17, Try.ntmps17
        go_wp2_with (first
          | (refine bodyPost_ret (results_cell_tmp1 Try.results17 _ _ (bx + 1) 33 _ (0, 0) _ rfl FIN.out.2 Try.underlying33 rfl (by rw [SZ.out]; exact size_st)) rfl ?_; exact ⟨rfl, FIN.out.1⟩)
          | refine wpList_alloc_zero rfl 33 rfl dz zero_st ?_
          | rw [← EB.out, ← E1.out]
          | refine wpList_store_known rfl 30 (.tmp 87) (.tmp 85) rfl (.pointer (some ⟨bx, k * 3, none⟩)) (.agg (sl (some (t, x))).toArray) rfl rfl ST.out ?_
          | refine wpList_load_row rfl 33 (.tmp 6) rfl bx rfl 33 _ (0, 0) _ SB.out.1 Try.underlying33 rfl (by rw [SZ.out]; exact size_st) ?_
          | refine wpList_store_row rfl 33 (.tmp 12) _ rfl (bx + 1) (dc (s.1.set k (some (t, x))) (j : Int)) rfl rfl 33 _ SB.out.2.1 (by rw [SZ.out]; exact size_st) (by rw [SZ.out]; exact dz_size) ONE.out ?_)
  | some q =>
    rw [e] at AT
    have c0 := AT 0 _ rfl
    have c1 := AT 1 _ rfl
    rw [Nat.add_zero] at c0
    by_cases a3 : t < q.1
    · have es : btake s lim (k : Int) t x now = (s, 23) := by exact STL (.inr (.inr ⟨q, by rw [la_nat, e], a3⟩))
      rw [es]
      rw [show dcs s = dc s.1 C by unfold dcs; rw [eC]]
      have FIN := hid (SS.out.done (dc s.1 C))
      have ONE := hid (dc_one _ _ : (dc s.1 C).all (·.oneCell') = true)
      have SZ : Hid ((dc s.1 C).size = 193) := dc_size _ _ SS.out.2.2.2.2
      clear es eC
      clear h STL OK AT q1 q2 q3 e
      go_enter Try.func17, Try.ntmps17
      go_wp2_with (first
        | (refine bodyPost_ret (results_cell_tmp1 Try.results17 _ _ (bx + 1) 33 _ (0, 0) _ rfl FIN.out.2 Try.underlying33 rfl (by rw [SZ.out]; exact size_st)) rfl ?_; exact ⟨rfl, FIN.out.1⟩)
        | refine wpList_alloc_zero rfl 33 rfl dz zero_st ?_
        | rw [← EB.out, ← E1.out]
        | refine wpList_load_row rfl 33 (.tmp 6) rfl bx rfl 33 _ (0, 0) _ SS.out.1 Try.underlying33 rfl (by rw [SZ.out]; exact size_st) ?_
        | refine wpList_store_row rfl 33 (.tmp 12) _ rfl (bx + 1) (dc s.1 C) rfl rfl 33 _ SS.out.2.1 (by rw [SZ.out]; exact size_st) (by rw [SZ.out]; exact dz_size) ONE.out ?_)
    have OK := OK (fun g => by
      rcases g with g | g | ⟨q', g, h3⟩
      · omega
      · exact a2 g
      · rw [la_nat, e, Option.some.injEq] at g; subst g; exact a3 h3)
    clear STL AT q1 q2 q3 e
    cases ec : cl s with
    | none =>
      have eL : limits s x := fun q e => by rw [ec] at e; simp at e
      have cn : C = -1 := by rw [eC]; unfold clr; rw [ec]; rfl
      subst cn
      rw [OK, dcs_put h hk, if_pos eL]
      have cc := SS.out.clr
      have fc := SS.out.free 192
      have S1 := SS.out.who (k : Int)
      obtain ⟨V1, ev1⟩ : ∃ V1, V1 = V.setCell ⟨bx, 192, none⟩ (.int .i64 (k : Int)) := ⟨_, rfl⟩
      rw [← ev1] at S1
      have E2 := hid ev1
      obtain ⟨st, S2⟩ := S1.put hk (some (t, x))
      obtain ⟨V2, ev2⟩ : ∃ V2, V2 = V1.setRow bx (dc (s.1.set k (some (t, x))) (k : Int)) := ⟨_, rfl⟩
      rw [← ev2] at st S2
      have ST := hid st
      have SB := hid S2
      have FIN := hid (SB.out.done (dc (s.1.set k (some (t, x))) (k : Int)))
      have ONE := hid (dc_one _ _ : (dc (s.1.set k (some (t, x))) (k : Int)).all (·.oneCell') = true)
      have SZ : Hid ((dc (s.1.set k (some (t, x))) (k : Int)).size = 193) := dc_size _ _ SB.out.2.2.2.2
      clear st S1 S2 ev1 ev2 eL OK h eC ec
      go_enter Try.func17, Try.ntmps17
      go_wp2_with (first
        | (refine bodyPost_ret (results_cell_tmp1 Try.results17 _ _ (bx + 1) 33 _ (0, 0) _ rfl FIN.out.2 Try.underlying33 rfl (by rw [SZ.out]; exact size_st)) rfl ?_; exact ⟨rfl, FIN.out.1⟩)
        | refine wpList_alloc_zero rfl 33 rfl dz zero_st ?_
        | rw [← EB.out, ← E1.out]
        | rw [← E2.out]
        | refine wpList_store_known rfl 30 (.tmp 87) (.tmp 85) rfl (.pointer (some ⟨bx, k * 3, none⟩)) (.agg (sl (some (t, x))).toArray) rfl rfl ST.out ?_
        | refine wpList_load_row rfl 33 (.tmp 6) rfl bx rfl 33 _ (0, 0) _ SB.out.1 Try.underlying33 rfl (by rw [SZ.out]; exact size_st) ?_
        | refine wpList_store_row rfl 33 (.tmp 12) _ rfl (bx + 1) (dc (s.1.set k (some (t, x))) (k : Int)) rfl rfl 33 _ SB.out.2.1 (by rw [SZ.out]; exact size_st) (by rw [SZ.out]; exact dz_size) ONE.out ?_)
    | some y =>
      obtain ⟨hr, _⟩ := la_some h ec
      obtain ⟨j, ej⟩ : ∃ j : Nat, s.2 = (j : Int) := ⟨s.2.toNat, by have := hr.1; omega⟩
      have cj : C = (j : Int) := by rw [eC]; unfold clr; rw [ec, ej]; rfl
      subst cj
      have hj : j < 64 := by have := hr.2; omega
      have j1 : (j : Int) < 64 := by omega
      have j2 : (0 : Int) ≤ (j : Int) := by omega
      have j3 : ¬ ((j : Int) < 0) := by omega
      have ey : sat s.1 j = some y := by unfold cl at ec; rw [ej, la_nat] at ec; exact ec
      have AJ := SS.out.at hj
      rw [ey] at AJ
      have d2 := AJ 2 _ rfl
      have cc := SS.out.clr
      have fc := SS.out.free 192
      clear AJ ey hr ej
      by_cases b : x < y.2
      · have eL : limits s x := fun q' e => by rw [ec, Option.some.injEq] at e; rw [← e]; exact b
        rw [OK, dcs_put h hk, if_pos eL]
        have S1 := SS.out.who (k : Int)
        obtain ⟨V1, ev1⟩ : ∃ V1, V1 = V.setCell ⟨bx, 192, none⟩ (.int .i64 (k : Int)) := ⟨_, rfl⟩
        rw [← ev1] at S1
        have E2 := hid ev1
        obtain ⟨st, S2⟩ := S1.put hk (some (t, x))
        obtain ⟨V2, ev2⟩ : ∃ V2, V2 = V1.setRow bx (dc (s.1.set k (some (t, x))) (k : Int)) := ⟨_, rfl⟩
        rw [← ev2] at st S2
        have ST := hid st
        have SB := hid S2
        have FIN := hid (SB.out.done (dc (s.1.set k (some (t, x))) (k : Int)))
        have ONE := hid (dc_one _ _ : (dc (s.1.set k (some (t, x))) (k : Int)).all (·.oneCell') = true)
        have SZ : Hid ((dc (s.1.set k (some (t, x))) (k : Int)).size = 193) := dc_size _ _ SB.out.2.2.2.2
        clear st S1 S2 ev1 ev2 eL OK h eC ec
        go_enter Try.func17, Try.ntmps17
        go_wp2_with (first
          | (refine bodyPost_ret (results_cell_tmp1 Try.results17 _ _ (bx + 1) 33 _ (0, 0) _ rfl FIN.out.2 Try.underlying33 rfl (by rw [SZ.out]; exact size_st)) rfl ?_; exact ⟨rfl, FIN.out.1⟩)
          | refine wpList_alloc_zero rfl 33 rfl dz zero_st ?_
          | rw [← EB.out, ← E1.out]
          | rw [← E2.out]
          | refine wpList_store_known rfl 30 (.tmp 87) (.tmp 85) rfl (.pointer (some ⟨bx, k * 3, none⟩)) (.agg (sl (some (t, x))).toArray) rfl rfl ST.out ?_
          | refine wpList_load_row rfl 33 (.tmp 6) rfl bx rfl 33 _ (0, 0) _ SB.out.1 Try.underlying33 rfl (by rw [SZ.out]; exact size_st) ?_
          | refine wpList_store_row rfl 33 (.tmp 12) _ rfl (bx + 1) (dc (s.1.set k (some (t, x))) (k : Int)) rfl rfl 33 _ SB.out.2.1 (by rw [SZ.out]; exact size_st) (by rw [SZ.out]; exact dz_size) ONE.out ?_)
      · have eL : ¬ limits s x := fun g => b (g y ec)
        rw [OK, dcs_put h hk, if_neg eL, ← eC]
        obtain ⟨st, S2⟩ := SS.out.put hk (some (t, x))
        obtain ⟨V2, ev2⟩ : ∃ V2, V2 = V.setRow bx (dc (s.1.set k (some (t, x))) (j : Int)) := ⟨_, rfl⟩
        rw [← ev2] at st S2
        have ST := hid st
        have SB := hid S2
        have FIN := hid (SB.out.done (dc (s.1.set k (some (t, x))) (j : Int)))
        have ONE := hid (dc_one _ _ : (dc (s.1.set k (some (t, x))) (j : Int)).all (·.oneCell') = true)
        have SZ : Hid ((dc (s.1.set k (some (t, x))) (j : Int)).size = 193) := dc_size _ _ SB.out.2.2.2.2
        clear st S2 ev2 eL OK h eC ec
        go_enter Try.func17, Try.ntmps17
        go_wp2_with (first
          | (refine bodyPost_ret (results_cell_tmp1 Try.results17 _ _ (bx + 1) 33 _ (0, 0) _ rfl FIN.out.2 Try.underlying33 rfl (by rw [SZ.out]; exact size_st)) rfl ?_; exact ⟨rfl, FIN.out.1⟩)
          | refine wpList_alloc_zero rfl 33 rfl dz zero_st ?_
          | rw [← EB.out, ← E1.out]
          | refine wpList_store_known rfl 30 (.tmp 87) (.tmp 85) rfl (.pointer (some ⟨bx, k * 3, none⟩)) (.agg (sl (some (t, x))).toArray) rfl rfl ST.out ?_
          | refine wpList_load_row rfl 33 (.tmp 6) rfl bx rfl 33 _ (0, 0) _ SB.out.1 Try.underlying33 rfl (by rw [SZ.out]; exact size_st) ?_
          | refine wpList_store_row rfl 33 (.tmp 12) _ rfl (bx + 1) (dc (s.1.set k (some (t, x))) (j : Int)) rfl rfl 33 _ SB.out.2.1 (by rw [SZ.out]; exact size_st) (by rw [SZ.out]; exact dz_size) ONE.out ?_)
end Go.Proofs.Yteokeieddapjhaa.Clr

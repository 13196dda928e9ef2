/-
  A round in memory; walks of New, isTick, Start, isLow, end, Echo, Fire, Urge, Due, Number, Own.
-/
import Derived.Test.YtcjohgfmdnimjaaDoorSupMath
import Derived.Test.YtcjohgfmdnimjaaDoorStoreCore
import Derived.Test.YtcjohgfmdnimjaaDoorEitherCore
import Derived.BigRegion
namespace Go.Proofs.YtcjohgfmdnimjaaDoor.Sup
set_option linter.unusedVariables false
set_option maxRecDepth 100000
open Go.RowKit Go.Lib

/-- a round's cells -/
def rr (s : SS) : Array Value := #[.int .i64 s.1, .int .u64 s.2.1, .bool s.2.2.1, .int .i64 (pd s)]
theorem rr_one (s : SS) : (rr s).all (·.oneCell') = true := by simp [rr, Value.oneCell']
theorem size_r : (Tryd.prog.info? 61).map (·.size) = some 4 := by kernel_rfl
def RndV (w : World) (b : Nat) (s : SS) : Prop := Fit s ∧ w.heap[b]? = some (.cells (rr s) 61 (0, 0))
theorem RndV.c0 {w : World} {b : Nat} {s : SS} (h : RndV w b s) : w.cell? ⟨b, 0, none⟩ = some (.int .i64 s.1) := by
  rw [cell_of_row _ _ 0 _ _ _ h.2]; rfl
theorem RndV.c1 {w : World} {b : Nat} {s : SS} (h : RndV w b s) : w.cell? ⟨b, 1, none⟩ = some (.int .u64 s.2.1) := by
  rw [cell_of_row _ _ 1 _ _ _ h.2]; rfl
theorem RndV.c2 {w : World} {b : Nat} {s : SS} (h : RndV w b s) : w.cell? ⟨b, 2, none⟩ = some (.bool s.2.2.1) := by
  rw [cell_of_row _ _ 2 _ _ _ h.2]; rfl
theorem RndV.c3 {w : World} {b : Nat} {s : SS} (h : RndV w b s) : w.cell? ⟨b, 3, none⟩ = some (.int .i64 (pd s)) := by
  rw [cell_of_row _ _ 3 _ _ _ h.2]; rfl
theorem RndV.free {w : World} {b : Nat} {s : SS} (h : RndV w b s) (i : Nat) : w.frozen? ⟨b, i, none⟩ = false := frozen_of_row _ _ _ _ _ h.2
theorem RndV.lt {w : World} {b : Nat} {s : SS} (h : RndV w b s) : b < w.heap.size := lt_of_row h.2
theorem RndV.kept {K : Nat → Prop} {w w' : World} {b : Nat} {s : SS} (h : RndV w b s) (k : Kept K w w') (hb : K b) : RndV w' b s := ⟨h.1, k.row hb h.2⟩
theorem RndV.ext {w w' : World} {b : Nat} {s : SS} (h : RndV w b s) (e : Ext w w') : RndV w' b s := ⟨h.1, e.row h.2⟩
theorem RndV.drewN {w : World} {b : Nat} {s : SS} (h : RndV w b s) (n : Nat) : RndV (w.drewN n) b s := h
theorem RndV.put {w : World} {b : Nat} {s t : SS} (h : RndV w b s) (f : Fit t) : RndV (w.setRow b (rr t)) b t ∧ Kept (fun q => q ≠ b) w (w.setRow b (rr t)) :=
  ⟨⟨f, setRow_heap _ _ _ _ _ _ h.2⟩, (Kept.refl _ w).setRow (fun hne => hne rfl) _⟩
theorem RndV.store {w : World} {b : Nat} {s : SS} (h : RndV w b s) (t : SS) : (Instr.storeAt 61 (.pointer (some ⟨b, 0, none⟩)) (.agg (rr t))).run Tryd.prog w = .ok () (w.setRow b (rr t)) := by
  have q := store_part w b 0 61 61 [.int .i64 t.1, .int .u64 t.2.1, .bool t.2.2.1, .int .i64 (pd t)] [.int .i64 s.1, .int .u64 s.2.1, .bool s.2.2.1, .int .i64 (pd s)] h.2 size_r (by simp) (by simp [Value.oneCell'])
  exact q
/-- its tick written anew -/
theorem RndV.due {w : World} {b : Nat} {n o d : Int} (h : RndV w b (n, o, true, d)) {x : Int} (f : Fit (n, o, true, x)) : RndV (w.setCell ⟨b, 3, none⟩ (.int .i64 x)) b (n, o, true, x) ∧ Kept (fun q => q ≠ b) w (w.setCell ⟨b, 3, none⟩ (.int .i64 x)) := by
  refine ⟨⟨f, ?_⟩, (Kept.refl _ w).setCell (fun hne => hne rfl) _⟩
  rw [setCell_eq_setRow _ _ _ _ _ _ _ h.2]
  exact setRow_heap _ _ _ _ _ _ h.2

theorem new_any (w : World) : Calls Tryd.prog 11 #[] w fun e w' => ∃ b, e = .returned (.pointer (some ⟨b, 0, none⟩)) ∧ RndV w' b snew ∧ w.heap.size ≤ b ∧ Ext w w' := by
  go_enter Tryd.func11, Tryd.ntmps11
  go_wp2_with fail
  go_ret
  exact ⟨_, rfl, ⟨fit_new, heap_alloc_new w _⟩, Nat.le_refl _, (Ext.refl w).alloc _⟩

theorem istick_any (a : Int) (w : World) : Calls Tryd.prog 28 #[.int .i64 a] w fun e w' => e = .returned (.bool (decide (isT a))) ∧ w' = w := by
  by_cases h0 : 0 ≤ a
  · by_cases h1 : a ≤ 1099511627776
    · rw [decide_eq_true (show isT a from ⟨h0, h1⟩)]
      go_enter Tryd.func28, Tryd.ntmps28
      go_wp2_with fail
      go_ret
      exact ⟨rfl, rfl⟩
    · rw [decide_eq_false (show ¬ isT a from fun h => h1 h.2)]
      go_enter Tryd.func28, Tryd.ntmps28
      go_wp2_with fail
      go_ret
      exact ⟨rfl, rfl⟩
  · rw [decide_eq_false (show ¬ isT a from fun h => h0 h.1)]
    go_enter Tryd.func28, Tryd.ntmps28
    go_wp2_with fail
    go_ret
    exact ⟨rfl, rfl⟩

theorem number_any (b : Nat) (s : SS) (w : World) (h : RndV w b s) : Calls Tryd.prog 23 #[.pointer (some ⟨b, 0, none⟩)] w fun e w' => e = .returned (.int .i64 s.1) ∧ w' = w := by
  have c := h.c0
  clear h
  go_enter Tryd.func23, Tryd.ntmps23
  go_wp2_with fail
  go_ret
  exact ⟨rfl, rfl⟩

theorem own_any (b : Nat) (s : SS) (w : World) (h : RndV w b s) : Calls Tryd.prog 15 #[.pointer (some ⟨b, 0, none⟩)] w fun e w' => e = .returned (.int .u64 s.2.1) ∧ w' = w := by
  have c := h.c1
  clear h
  go_enter Tryd.func15, Tryd.ntmps15
  go_wp2_with fail
  go_ret
  exact ⟨rfl, rfl⟩

theorem due_any (b : Nat) (s : SS) (w : World) (h : RndV w b s) : Calls Tryd.prog 18 #[.pointer (some ⟨b, 0, none⟩)] w fun e w' => e = .returned (.tuple #[.int .i64 (pd s), .bool s.2.2.1]) ∧ ∃ n, w' = w.drewN n := by
  have c2 := h.c2
  have c3 := h.c3
  clear h
  obtain ⟨D, eD⟩ : ∃ D, D = pd s := ⟨_, rfl⟩
  rw [← eD] at c3 ⊢
  clear eD
  go_enter Tryd.func18, Tryd.ntmps18
  go_wp2_with fail
  go_quiet (fail)
  go_wp2_with fail
  go_ret2
  exact ⟨rfl, _, rfl⟩

set_option maxHeartbeats 1000000 in
theorem islow_any (b : Nat) (s : SS) (x : Int) (w : World) (h : RndV w b s) (h0 : 0 ≤ x) (h1 : x < 18446744073709551616) : Calls Tryd.prog 29 #[.pointer (some ⟨b, 0, none⟩), .int .u64 x] w fun e w' => e = .returned (.bool (decide (isLow x s.2.1))) ∧ ∃ n, w' = w.drewN n := by
  have c1 := h.c1
  obtain ⟨-, ⟨o0, o1⟩, -⟩ := h.1
  have e1 : fhalf x 3 = x / 8 := by unfold fhalf; rw [if_neg (by decide), if_neg (by decide)]; rfl
  have e3 : fsub x (x / 8) = x - x / 8 := by unfold fsub; rw [if_neg (by omega)]
  have q1 := fun V => half_any x 3 h0 h1 V
  rw [e1] at q1
  have q3 := fun V => sub_any x (x / 8) h0 (by omega) h1 (by omega) V
  rw [e3] at q3
  have Q1 := hid q1
  have Q3 := hid q3
  clear h e1 e3 q1 q3
  obtain ⟨n, o, r, d⟩ := s
  simp only at c1 o0 o1 ⊢
  rw [show decide (isLow x o) = decide (x - x / 8 ≤ o) from rfl]
  generalize x / 8 = y at *
  generalize x - y = z at *
  go_enter Tryd.func29, Tryd.ntmps29
  go_wp2_with fail
  go_quiet (first
    | (go_at_call 43; refine Calls.quiet_of_same (Q1.out _))
    | (go_at_call 32; refine Calls.quiet_of_same (Q3.out _)))
  go_wp2_with fail
  go_ret
  exact ⟨rfl, _, rfl⟩

set_option maxHeartbeats 2000000 in
theorem end_any (b : Nat) (s : SS) (w : World) (h : RndV w b s) : Calls Tryd.prog 30 #[.pointer (some ⟨b, 0, none⟩)] w fun e w' => e = .returned (.tuple #[]) ∧ RndV w' b (idl s) ∧ Kept (fun q => q ≠ b) w w' := by
  have H := hid h
  clear h
  have FIN : Hid (∀ k, RndV ((w.drewN k).setRow b (rr (idl s))) b (idl s) ∧ Kept (fun q => q ≠ b) w ((w.drewN k).setRow b (rr (idl s)))) := fun k => by
    have q := (H.out.drewN k).put (fit_idl H.out.1)
    exact ⟨q.1, (show Kept (fun q => q ≠ b) w (w.drewN k) from (Kept.refl _ w).drewN k).trans q.2⟩
  have ST := hid (fun k => (H.out.drewN k).store (idl s))
  go_enter Tryd.func30, Tryd.ntmps30
  go_wp2_with fail
  have HB : Hid (RndV w.drew b s) := H.out.drewN 1
  refine wp_region_held_drew (S := fun V => V.cell? ⟨b, 0, none⟩ = some (.int .i64 s.1) ∧ V.cell? ⟨b, 1, none⟩ = some (.int .u64 s.2.1)) (by kernel_rfl) ⟨HB.out.c0, HB.out.c1⟩ (fun hHeld => ?_)
  refine takeE (v := ?_) 0 2 rfl rfl (by kernel_rfl) (by kernel_rfl) (by kernel_rfl) (fun _ _ _ h => h) (Or.inl ⟨by rfl, fun V hV => ?_⟩) hHeld ?_
  rotate_left
  · (go_simp; try with_reducible rfl)
  simp only [Act.put, List.setIfInBounds_toArray, List.set_cons_zero, List.set_cons_succ]
  refine takeE (v := ?_) 1 3 rfl rfl (by kernel_rfl) (by kernel_rfl) (by kernel_rfl) (fun _ _ _ h => h) (Or.inl ⟨by rfl, fun V hV => ?_⟩) hHeld ?_
  rotate_left
  · (go_simp; try with_reducible rfl)
  simp only [Act.put, List.setIfInBounds_toArray, List.set_cons_zero, List.set_cons_succ]
  refine takeE (v := ?_) 2 4 rfl rfl (by kernel_rfl) (by kernel_rfl) (by kernel_rfl) (fun _ _ _ h => h) (Or.inl ⟨by rfl, fun V hV => ?_⟩) hHeld ?_
  rotate_left
  · (go_simp; try with_reducible rfl)
  simp only [Act.put, List.setIfInBounds_toArray, List.set_cons_zero, List.set_cons_succ]
  refine takeE (v := ?_) 3 5 rfl rfl (by kernel_rfl) (by kernel_rfl) (by kernel_rfl) (fun _ _ _ h => h) (Or.inl ⟨by rfl, fun V hV => ?_⟩) hHeld ?_
  rotate_left
  · (go_simp; try with_reducible rfl)
  simp only [Act.put, List.setIfInBounds_toArray, List.set_cons_zero, List.set_cons_succ]
  refine takeE (v := ?_) 4 6 rfl rfl (by kernel_rfl) (by kernel_rfl) (by kernel_rfl) (fun _ _ _ h => h) (Or.inl ⟨by rfl, fun V hV => ?_⟩) hHeld ?_
  rotate_left
  · (have y := hV.1; go_simp; try with_reducible rfl)
  simp only [Act.put, List.setIfInBounds_toArray, List.set_cons_zero, List.set_cons_succ]
  refine takeE (v := ?_) 5 7 rfl rfl (by kernel_rfl) (by kernel_rfl) (by kernel_rfl) (fun _ _ _ h => h) (Or.inl ⟨by rfl, fun V hV => ?_⟩) hHeld ?_
  rotate_left
  · (go_simp; try with_reducible rfl)
  simp only [Act.put, List.setIfInBounds_toArray, List.set_cons_zero, List.set_cons_succ]
  refine takeE (v := ?_) 6 8 rfl rfl (by kernel_rfl) (by kernel_rfl) (by kernel_rfl) (fun _ _ _ h => h) (Or.inl ⟨by rfl, fun V hV => ?_⟩) hHeld ?_
  rotate_left
  · (go_simp; try with_reducible rfl)
  simp only [Act.put, List.setIfInBounds_toArray, List.set_cons_zero, List.set_cons_succ]
  refine takeE (v := ?_) 7 9 rfl rfl (by kernel_rfl) (by kernel_rfl) (by kernel_rfl) (fun _ _ _ h => h) (Or.inl ⟨by rfl, fun V hV => ?_⟩) hHeld ?_
  rotate_left
  · (go_simp; try with_reducible rfl)
  simp only [Act.put, List.setIfInBounds_toArray, List.set_cons_zero, List.set_cons_succ]
  refine takeE (v := ?_) 8 10 rfl rfl (by kernel_rfl) (by kernel_rfl) (by kernel_rfl) (fun _ _ _ h => h) (Or.inl ⟨by rfl, fun V hV => ?_⟩) hHeld ?_
  rotate_left
  · (have y := hV.2; go_simp; try with_reducible rfl)
  simp only [Act.put, List.setIfInBounds_toArray, List.set_cons_zero, List.set_cons_succ]
  refine takeE (v := ?_) 9 11 rfl rfl (by kernel_rfl) (by kernel_rfl) (by kernel_rfl) (fun _ _ _ h => h) (Or.inl ⟨by rfl, fun V hV => ?_⟩) hHeld ?_
  rotate_left
  · (go_simp; try with_reducible rfl)
  simp only [Act.put, List.setIfInBounds_toArray, List.set_cons_zero, List.set_cons_succ]
  refine takeE (v := ?_) 10 12 rfl rfl (by kernel_rfl) (by kernel_rfl) (by kernel_rfl) (fun _ _ _ h => h) (Or.inl ⟨by rfl, fun V hV => ?_⟩) hHeld ?_
  rotate_left
  · (go_simp; try with_reducible rfl)
  simp only [Act.put, List.setIfInBounds_toArray, List.set_cons_zero, List.set_cons_succ]
  refine storeE 11 rfl (by kernel_rfl) (by rfl) (w' := (w.drewN 1).setRow b (rr (idl s))) (exec_store 61 (.tmp 12) (.tmp 11) rfl (ST.out 1)) ⟨(FIN.out 1).1.c0, (FIN.out 1).1.c1⟩ ?_
  simp only [Act.put]
  refine wpAnyH_done (by kernel_rfl) ?_ _
  refine bodyPost_end (results_none Tryd.results30 _ _ _) rfl ?_
  exact ⟨rfl, FIN.out 1⟩
end Go.Proofs.YtcjohgfmdnimjaaDoor.Sup

/-
  Walks of a history's sums and means: with, mean, past, present, isLong, greater, Mean, Discounted, Rate; the package's table holds what its initialiser lays.
-/
import Derived.Test.YtmkcgkmaabcjoaaDoorHisMem
namespace Go.Proofs.YtmkcgkmaabcjoaaDoor.His
set_option linter.unusedVariables false
set_option maxRecDepth 100000
open Go.RowKit Go.Lib

/-- the table as a value -/
def wtabs : Array Value := #[.int .i64 5, .int .i64 5, .int .i64 5, .int .i64 5, .int .i64 4, .int .i64 3, .int .i64 2, .int .i64 1]
theorem wtabs_at (i : Nat) (h : i < 8) : wtabs[i]? = some (.int .i64 (wt i)) := by
  match i, h with
  | 0, _ | 1, _ | 2, _ | 3, _ | 4, _ | 5, _ | 6, _ | 7, _ => rfl
/-- the package's table lies in memory as it is written -/
def Wts (w : World) : Prop := ∃ t fr, w.heap[0]? = some (.cells wtabs t fr)
theorem Wts.cell {w : World} (h : Wts w) (i : Nat) (hi : i < 8) : w.cell? ⟨0, i, none⟩ = some (.int .i64 (wt i)) := by
  obtain ⟨t, fr, h⟩ := h
  rw [cell_of_row w 0 i wtabs t fr h, wtabs_at i hi]
theorem Wts.ext {w w' : World} (h : Wts w) (e : Ext w w') : Wts w' := by
  obtain ⟨t, fr, h⟩ := h
  exact ⟨t, fr, e.row h⟩
theorem Wts.kept {K : Nat → Prop} {w w' : World} (h : Wts w) (k : Kept K w w') (h0 : K 0) : Wts w' := by
  obtain ⟨t, fr, h⟩ := h
  exact ⟨t, fr, k.row h0 h⟩
theorem Wts.lt {w : World} (h : Wts w) : 0 < w.heap.size := by
  obtain ⟨t, fr, h⟩ := h
  exact lt_of_row h
theorem Wts.apart {w : World} {b : Nat} {o : Int} {l : List Int} (h : Wts w) (hv : HisV w b o l) : 0 ≠ b := by
  obtain ⟨t, fr, h⟩ := h
  rintro rfl
  have e := hv.2
  rw [h] at e
  simp only [Option.some.injEq, Obj.cells.injEq] at e
  have := congrArg Array.size e.1
  simp [wtabs, hrow, hlist] at this

/-- a whole row loaded, a whole row stored, as a region's operations -/
theorem exec_load_row {P : Program} {o : Oper} {a : Act} {w : World} (ty : TypeId) (x : Operand) (ho : o.op = .load ty x) (g : Nat) (hx : a.eval x = .pointer (some ⟨g, 0, none⟩)) (t : TypeId) (cs : Array Value) (fr : Nat × Nat) (d : TypeDesc) (hg : w.heap[g]? = some (.cells cs t fr))
    (hu : P.underlying ty = some d) (hd : (match d with | .struct _ | .array _ _ => true | _ => false) = true) (hi : (P.info? ty).map (·.size) = some cs.size) : (execOp a.eval o).run P w = .ok (.value (.agg cs)) w := by
  unfold execOp
  simp only [ho, hx, Instr.loadAt, Instr.sureAddr, Sem.run_bind, Sem.run_pure, Result.andThen_ok, run_loadVar_row w g t ty cs fr d hg hu hd hi]
theorem run_store_whole {P : Program} (w : World) (g : Nat) (t ty : TypeId) (old cells : Array Value) (hg : w.heap[g]? = some (.cells old t (0, 0))) (hi : (P.info? ty).map (·.size) = some cells.size)
    (ho : old.size = cells.size) (h1 : cells.all (·.oneCell') = true) : (Instr.storeAt ty (.pointer (some ⟨g, 0, none⟩)) (.agg cells)).run P w = .ok () (w.setRow g cells) := by
  simp only [Instr.storeAt, Instr.sureAddr, Sem.run_bind, Sem.run_pure, Result.andThen_ok, run_storeVar_row w g t ty old cells hg hi ho h1]

theorem with_any (s a x y : Int) (w : World) (s0 : 0 ≤ s) (s1 : s ≤ 1000000000) (a0 : 0 ≤ a) (a1 : a ≤ 1000) (x0 : 0 ≤ x) (x1 : x ≤ 1048576) (y0 : 0 ≤ y) (y1 : y ≤ 10) :
    Calls Tryd.prog 35 #[.agg #[.int .i64 (s), .int .i64 (a)], .int .i64 x, .int .i64 y] w fun e w' => e = .returned (.agg #[.int .i64 (s + x * y), .int .i64 (a + y)]) ∧ Ext w w' := by
  have p0 : 0 ≤ x * y := Int.mul_nonneg x0 y0
  have p1 : x * y ≤ 1048576 * 10 := Int.mul_le_mul x1 y1 y0 (by decide)
  go_enter Tryd.func35, Tryd.ntmps35
  go_wp2_with fail
  refine bodyPost_ret (results_cell_row Tryd.results35 _ _ (w.heap.size + 1) 59 _ (0, 0) _ rfl (by have := heap_alloc_new (w.alloc (.cells #[.int .i64 s, .int .i64 a] 59)) (.cells #[.int .i64 (s + x * y), .int .i64 (a + y)] 59); rwa [World.size_alloc] at this) Tryd.underlying59 rfl (by kernel_rfl)) rfl ?_
  exact ⟨rfl, ((Ext.refl w).alloc _).alloc _⟩

theorem mean_any (s a : Int) (w : World) (s0 : 0 ≤ s) (s1 : s ≤ 1000000000) (a0 : 0 ≤ a) (a1 : a ≤ 1000) :
    Calls Tryd.prog 31 #[.agg #[.int .i64 (s), .int .i64 (a)]] w fun e w' => e = .returned (.int .u64 (fratio s a)) ∧ Ext w w' := by
  have R := hid (fun W => ratio_any s a s0 a0 (by omega) (by omega) W)
  go_enter Tryd.func31, Tryd.ntmps31
  go_wp2_with fail
  refine (R.out _).mono ?_
  rintro e w1 ⟨rfl, n, rfl⟩
  go_wp2_with fail
  go_ret
  exact ⟨rfl, ((Ext.refl w).alloc _).drewN n⟩

set_option maxHeartbeats 2000000 in
theorem past_any (b : Nat) (o : Int) (l : List Int) (f : Nat) (w : World) (hf : f ≤ 1) (h : HisV w b o l) (ht : Wts w) :
    Calls Tryd.prog 30 #[.pointer (some ⟨b, 0, none⟩), .int .i64 (f : Int)] w fun e w' => e = .returned (.agg #[.int .i64 (wsum f l), .int .i64 (wall f l)]) ∧ Ext w w' := by
  obtain ⟨N, eN⟩ : ∃ N, N = min l.length (8 - f) := ⟨_, rfl⟩
  have l8 := h.1.2.1
  have N8 : N ≤ 8 := by omega
  have Nf : f + N ≤ 8 := by omega
  have Nl : N ≤ l.length := by omega
  have eS : wsum f (l.take N) = wsum f l := by
    by_cases q : l.length ≤ 8 - f
    · rw [show N = l.length by omega, List.take_length]
    · exact wsum_cut l f N (by omega)
  have eA : wall f (l.take N) = wall f l := by
    by_cases q : l.length ≤ 8 - f
    · rw [show N = l.length by omega, List.take_length]
    · exact wall_cut l f N (by omega)
  have RM := hid (fun k => h.1.room f k)
  have NX := hid (fun k (hk : k < N) => (⟨wsum_next l f k (by omega), wall_next l f k (by omega)⟩ : _ ∧ _))
  have GD := hid (fun k => h.1.2.2.getD k)
  rw [← eS, ← eA]
  have c9 : w.cell? ⟨b, 9, none⟩ = some (.int .i64 (l.length : Int)) := h.cell 9 _ rfl
  have H := hid h
  have T := hid ht
  have mN : min (l.length : Int) (8 - (f : Int)) = (N : Int) := by omega
  obtain ⟨L, eL⟩ : ∃ L : Int, L = (l.length : Int) := ⟨_, rfl⟩
  obtain ⟨F, eF⟩ : ∃ F : Int, F = (f : Int) := ⟨_, rfl⟩
  rw [← eL] at c9 mN
  rw [← eF] at mN ⊢
  have F0 : 0 ≤ F := by omega
  have F1 : F ≤ 1 := by omega
  have EF := hid eF
  obtain ⟨W1, e1⟩ : ∃ W1, W1 = w.alloc (.cells #[.int .i64 (0), .int .i64 (0)] 59) := ⟨_, rfl⟩
  obtain ⟨W2, e2⟩ : ∃ W2, W2 = W1.alloc (.cells #[.int .i64 (0), .int .i64 (0)] 59) := ⟨_, rfl⟩
  have X1 : Ext w W1 := by rw [e1]; exact (Ext.refl w).alloc _
  have X2 : Ext W1 W2 := by rw [e2]; exact (Ext.refl W1).alloc _
  have r1 : W1.heap[w.heap.size]? = some (.cells #[.int .i64 (0), .int .i64 (0)] 59) := by rw [e1]; exact heap_alloc_new w _
  have r2 : W2.heap[W1.heap.size]? = some (.cells #[.int .i64 (0), .int .i64 (0)] 59) := by rw [e2]; exact heap_alloc_new W1 _
  obtain ⟨rb, erb⟩ : ∃ rb, rb = w.heap.size := ⟨_, rfl⟩
  obtain ⟨tb, etb⟩ : ∃ tb, tb = W1.heap.size := ⟨_, rfl⟩
  have etb' : tb = rb + 1 := by rw [etb, e1, erb, World.size_alloc]
  have rt : rb < tb := by rw [erb, etb]; exact lt_of_row r1
  rw [← erb] at r1
  rw [← etb] at r2
  have r1' := X2.row r1
  have bt : b < rb := by rw [erb]; exact h.lt
  have t0 : 0 < rb := by rw [erb]; exact ht.lt
  have ST : Hid (Ext w W2 ∧ W2.heap[rb]? = some (.cells #[.int .i64 (0), .int .i64 (0)] 59) ∧ W2.heap[tb]? = some (.cells #[.int .i64 (wsum f (l.take 0)), .int .i64 (wall f (l.take 0))] 59)) := ⟨X1.trans X2, r1', r2⟩
  have c9' : ((w.alloc (.cells #[.int .i64 (0), .int .i64 (0)] 59)).alloc (.cells #[.int .i64 (0), .int .i64 (0)] 59)).cell? ⟨b, 9, none⟩ = some (.int .i64 L) := (((Ext.refl w).alloc _).alloc _).cell c9
  have E1 := hid e1
  have E2 := hid e2
  have ERB := hid erb
  have ETB := hid etb'
  have EN := hid eN
  clear e1 e2 erb etb etb' r1 r2 r1' X1 X2 h ht eS eA eN eL eF l8
  go_enter Tryd.func30, Tryd.ntmps30
  go_wp2_with fail
  rw [← E1.out, ← E2.out, ← ERB.out, ← ETB.out]
  go_loopw [14] (fun iv wr => ∃ k : Nat, k ≤ N ∧ iv = .int .i64 (k : Int) ∧ Hid (Ext w wr ∧ wr.heap[rb]? = some (.cells #[.int .i64 (0), .int .i64 (0)] 59) ∧ wr.heap[tb]? = some (.cells #[.int .i64 (wsum f (l.take k)), .int .i64 (wall f (l.take k))] 59))) (fun iv _ => (N - RowKit.intOf iv).toNat)
  case atStart => exact ⟨0, by omega, rfl, ST⟩
  case round =>
    obtain ⟨k, hk, rfl, HH⟩ := hrel
    clear ST c9' c9 E1 E2
    by_cases q : k < N
    · have i1 : (k : Int) < (N : Int) := by omega
      have i2 : (0 : Int) ≤ (k : Int) := by omega
      have i3 : (k : Int) < 8 := by omega
      obtain ⟨X, p1, p2⟩ := HH.out
      have wk : wr.cell? ⟨b, 1 + k, none⟩ = some (.int .i64 (l.getD k 0)) := (H.out.ext X).closed k (by omega)
      have wf : wr.cell? ⟨0, f + k, none⟩ = some (.int .i64 (wt (f + k))) := (T.out.ext X).cell (f + k) (by omega)
      obtain ⟨⟨s0, s1⟩, a0, a1⟩ := RM.out k
      obtain ⟨n1, n2⟩ := NX.out k q
      obtain ⟨x0, x1⟩ := GD.out k
      obtain ⟨y0, y1⟩ := wt_room (f + k)
      have NS : Hid (∀ V V' : World, Ext w V → V.heap[rb]? = some (.cells #[.int .i64 (0), .int .i64 (0)] 59) → V.heap[tb]? = some (.cells #[.int .i64 (wsum f (l.take k)), .int .i64 (wall f (l.take k))] 59) → V' = V.setRow tb #[.int .i64 (wsum f (l.take k) + l.getD k 0 * wt (f + k)), .int .i64 (wall f (l.take k) + wt (f + k))] → Ext w V' ∧ V'.heap[rb]? = some (.cells #[.int .i64 (0), .int .i64 (0)] 59) ∧ V'.heap[tb]? = some (.cells #[.int .i64 (wsum f (l.take (k + 1))), .int .i64 (wall f (l.take (k + 1)))] 59)) := by
        rintro V V' h1 h2 h3 rfl
        rw [n1, n2]
        have rtb : rb ≠ tb := by omega
        have wtb : w.heap.size ≤ tb := by have e := ERB.out; omega
        exact ⟨(h1.setRow wtb _), by rw [setRow_other _ _ _ _ rtb]; exact h2, setRow_heap _ _ _ _ _ _ h3⟩
      clear n1 n2
      generalize l.getD k 0 = x at *
      generalize wt (f + k) = y at *
      generalize wsum f (l.take k) = s at *
      generalize wall f (l.take k) = a at *
      have WC := hid (fun V => with_any s a x y V s0 (by omega) a0 (by omega) x0 x1 y0 (by omega))
      have wr1 : IntKind.i64.wrap (F + (k : Int)) = ((f + k : Nat) : Int) := by rw [IntWalk.i64_in _ (by omega)]; have := EF.out; omega
      obtain ⟨j, ej⟩ : ∃ j, j = f + k := ⟨_, rfl⟩
      rw [← ej] at wr1 wf
      have i4 : (j : Int) < 8 := by omega
      have i5 : (0 : Int) ≤ (j : Int) := by omega
      have P2 := hid p2
      have P1 := hid p1
      have XX := hid X
      have WK := hid wk
      have WF := hid wf
      have btb : b ≠ tb := by omega
      have ztb : 0 ≠ tb := by omega
      clear HH X p1 p2 wk wf s0 s1 a0 a1 x0 x1 y0 y1 ej
      go_wp2_with fail
      refine wp_region_held_drew (S := fun V => Kept (fun q => q ≠ tb) wr V) (by kernel_rfl) (Kept.of_ext (show Ext wr wr.drew from (Ext.refl wr).drewN 1)) (fun hHeld => ?_)
      refine takeE (v := ?_) 1 18 rfl rfl (by kernel_rfl) (by kernel_rfl) (by kernel_rfl) (fun _ _ _ h => h) (Or.inl ⟨by rfl, fun V hV => ?_⟩) hHeld ?_
      rotate_left
      · (go_simp; try with_reducible rfl)
      simp only [Act.put, List.setIfInBounds_toArray, List.set_cons_zero, List.set_cons_succ]
      refine takeE (v := ?_) 2 19 rfl rfl (by kernel_rfl) (by kernel_rfl) (by kernel_rfl) (fun _ _ _ h => h) (Or.inl ⟨by rfl, fun V hV => ?_⟩) hHeld ?_
      rotate_left
      · (go_simp; try with_reducible rfl)
      simp only [Act.put, List.setIfInBounds_toArray, List.set_cons_zero, List.set_cons_succ]
      refine takeE (v := ?_) 3 20 rfl rfl (by kernel_rfl) (by kernel_rfl) (by kernel_rfl) (fun _ _ _ h => h) (Or.inl ⟨by rfl, fun V hV => ?_⟩) hHeld ?_
      rotate_left
      · (go_simp; try with_reducible rfl)
      simp only [Act.put, List.setIfInBounds_toArray, List.set_cons_zero, List.set_cons_succ]
      refine takeE (v := ?_) 4 21 rfl rfl (by kernel_rfl) (by kernel_rfl) (by kernel_rfl) (fun _ _ _ h => h) (Or.inl ⟨by rfl, fun V hV => ?_⟩) hHeld ?_
      rotate_left
      · (go_simp; try with_reducible rfl)
      simp only [Act.put, List.setIfInBounds_toArray, List.set_cons_zero, List.set_cons_succ]
      refine takeE (v := ?_) 5 22 rfl rfl (by kernel_rfl) (by kernel_rfl) (by kernel_rfl) (fun _ _ _ h => h) (Or.inl ⟨by rfl, fun V hV => ?_⟩) hHeld ?_
      rotate_left
      · (go_simp; try with_reducible rfl)
      simp only [Act.put, List.setIfInBounds_toArray, List.set_cons_zero, List.set_cons_succ]
      refine takeE (v := ?_) 6 23 rfl rfl (by kernel_rfl) (by kernel_rfl) (by kernel_rfl) (fun _ _ _ h => h) (Or.inl ⟨by rfl, fun V hV => ?_⟩) hHeld ?_
      rotate_left
      · (have y := hV.cell (a := ⟨b, 1 + k, none⟩) btb WK.out; go_simp; try with_reducible rfl)
      simp only [Act.put, List.setIfInBounds_toArray, List.set_cons_zero, List.set_cons_succ]
      refine takeE (v := ?_) 7 24 rfl rfl (by kernel_rfl) (by kernel_rfl) (by kernel_rfl) (fun _ _ _ h => h) (Or.inl ⟨by rfl, fun V hV => ?_⟩) hHeld ?_
      rotate_left
      · (go_simp; try with_reducible rfl)
      simp only [Act.put, List.setIfInBounds_toArray, List.set_cons_zero, List.set_cons_succ]
      refine takeE (v := ?_) 8 25 rfl rfl (by kernel_rfl) (by kernel_rfl) (by kernel_rfl) (fun _ _ _ h => h) (Or.inl ⟨by rfl, fun V hV => ?_⟩) hHeld ?_
      rotate_left
      · (go_simp; try with_reducible rfl)
      simp only [Act.put, List.setIfInBounds_toArray, List.set_cons_zero, List.set_cons_succ]
      refine takeE (v := .int .i64 (j : Int)) 9 26 rfl rfl (by kernel_rfl) (by kernel_rfl) (by kernel_rfl) (fun _ _ _ h => h) (Or.inl ⟨by rfl, fun V hV => ?_⟩) hHeld ?_
      · (have y := wr1; go_simp; try with_reducible rfl)
      simp only [Act.put, List.setIfInBounds_toArray, List.set_cons_zero, List.set_cons_succ]
      refine takeE (v := ?_) 10 27 rfl rfl (by kernel_rfl) (by kernel_rfl) (by kernel_rfl) (fun _ _ _ h => h) (Or.inl ⟨by rfl, fun V hV => ?_⟩) hHeld ?_
      rotate_left
      · (go_simp; try with_reducible rfl)
      simp only [Act.put, List.setIfInBounds_toArray, List.set_cons_zero, List.set_cons_succ]
      refine takeE (v := ?_) 11 28 rfl rfl (by kernel_rfl) (by kernel_rfl) (by kernel_rfl) (fun _ _ _ h => h) (Or.inl ⟨by rfl, fun V hV => ?_⟩) hHeld ?_
      rotate_left
      · (have y := hV.cell (a := ⟨0, j, none⟩) ztb WF.out; go_simp; try with_reducible rfl)
      simp only [Act.put, List.setIfInBounds_toArray, List.set_cons_zero, List.set_cons_succ]
      have M2 : wr.drew.heap[tb]? = some (.cells #[.int .i64 (s), .int .i64 (a)] 59) := P2.out
      refine knownE 0 17 rfl rfl (by kernel_rfl) (by rfl) (w' := wr.drew) (v := .agg #[.int .i64 s, .int .i64 a]) (exec_load_row 59 (.tmp 5) rfl tb rfl 59 _ (0, 0) _ M2 Tryd.underlying59 rfl (by kernel_rfl)) hHeld ?_
      simp only [Act.put, List.setIfInBounds_toArray, List.set_cons_zero, List.set_cons_succ]
      refine callE 12 29 rfl rfl (by kernel_rfl) (by rfl) (by go_simp; first | exact ⟨rfl, rfl⟩ | rfl) ?_
      refine (WC.out _).mono ?_
      rintro e w5 ⟨rfl, x5⟩
      refine ⟨_, rfl, hHeld.trans (Kept.of_ext x5), ?_⟩
      simp only [Act.put, List.setIfInBounds_toArray, List.set_cons_zero, List.set_cons_succ]
      have X5 := XX.out.trans ((show Ext wr wr.drew from (Ext.refl wr).drewN 1).trans x5)
      have M5 := x5.row M2
      have M6 := x5.row (show wr.drew.heap[rb]? = _ from P1.out)
      obtain ⟨w6, e6⟩ : ∃ w6, w6 = w5.setRow tb #[.int .i64 (s + x * y), .int .i64 (a + y)] := ⟨_, rfl⟩
      have FIN := hid (NS.out w5 w6 X5 M6 M5 e6)
      refine storeN 13 rfl rfl (by kernel_rfl) (by rfl) (w' := w6) (exec_store 59 (.tmp 5) (.tmp 29) rfl (by rw [e6]; exact run_store_whole w5 tb _ _ _ _ M5 (by kernel_rfl) rfl (by simp [Value.oneCell']))) (by rw [e6]; exact (hHeld.trans (Kept.of_ext x5)).setRow (fun hne => hne rfl) _) ?_
      refine wpAnyH_done (by kernel_rfl) ?_ _
      clear hHeld M2 M5 M6 X5 x5 e6
      go_wp2_with fail
      go_roundw
      case rel => exact ⟨k + 1, by omega, by go_num, FIN⟩
      case measure => simp [RowKit.intOf]; omega
    · obtain rfl : N = k := by omega
      obtain ⟨X, p1, p2⟩ := HH.out
      have P2 := hid p2
      have P1 := hid p1
      have XX := hid X
      clear HH X p1 p2
      have fr := frozen_of_row _ rb 0 _ _ P1.out
      have fr1 := frozen_of_row _ rb 1 _ _ P1.out
      have z0 : wr.cell? ⟨rb, 0, none⟩ = some (.int .i64 0) := by rw [cell_of_row _ _ 0 _ _ _ P1.out]; rfl
      have z1 : wr.cell? ⟨rb, 1, none⟩ = some (.int .i64 0) := by rw [cell_of_row _ _ 1 _ _ _ P1.out]; rfl
      have y0 : wr.cell? ⟨tb, 0, none⟩ = some (.int .i64 (wsum f (l.take N))) := by rw [cell_of_row _ _ 0 _ _ _ P2.out]; rfl
      have y1 : wr.cell? ⟨tb, 1, none⟩ = some (.int .i64 (wall f (l.take N))) := by rw [cell_of_row _ _ 1 _ _ _ P2.out]; rfl
      go_wp2_with fail
      have P4 : ((wr.setCell ⟨rb, 0, none⟩ (.int .i64 (wsum f (l.take N)))).setCell ⟨rb, 1, none⟩ (.int .i64 (wall f (l.take N)))).heap[rb]? = some (.cells #[.int .i64 (wsum f (l.take N)), .int .i64 (wall f (l.take N))] 59) := by
        rw [setCell_eq_setRow _ rb 0 _ _ _ _ P1.out]
        have q3 := setRow_heap _ _ _ ((#[.int .i64 0, .int .i64 0] : Array Value).setIfInBounds 0 (.int .i64 (wsum f (l.take N)))) _ _ P1.out
        rw [setCell_eq_setRow _ rb 1 _ _ _ _ q3, setRow_heap _ _ _ _ _ _ q3]
        rfl
      refine bodyPost_ret (results_cell_row Tryd.results30 _ _ rb 59 _ (0, 0) _ rfl P4 Tryd.underlying59 rfl (by kernel_rfl)) rfl ?_
      have wrb : w.heap.size ≤ rb := by have e := ERB.out; omega
      exact ⟨rfl, (XX.out.setCell (p := ⟨rb, 0, none⟩) wrb _).setCell (p := ⟨rb, 1, none⟩) wrb _⟩

set_option maxHeartbeats 2000000 in
theorem present_any (b : Nat) (o : Int) (l : List Int) (t : Int) (w : World) (t1 : 1 ≤ t) (t2 : t ≤ 2) (h : HisV w b o l) (ht : Wts w) :
    Calls Tryd.prog 32 #[.pointer (some ⟨b, 0, none⟩), .int .i64 t] w fun e w' => e = .returned (.agg #[.int .i64 (wsum 1 l + o * (t * 5)), .int .i64 (wall 1 l + t * 5)]) ∧ Ext w w' := by
  obtain ⟨W1, e1⟩ : ∃ W1, W1 = w.alloc (.cells #[.int .i64 (0), .int .i64 (0)] 59) := ⟨_, rfl⟩
  have X1 : Ext w W1 := by rw [e1]; exact (Ext.refl w).alloc _
  have r1 : W1.heap[w.heap.size]? = some (.cells #[.int .i64 (0), .int .i64 (0)] 59) := by rw [e1]; exact heap_alloc_new w _
  have E1 := hid e1
  obtain ⟨rb, erb⟩ : ∃ rb, rb = w.heap.size := ⟨_, rfl⟩
  rw [← erb] at r1
  have brb : b ≠ rb := by have := h.lt; omega
  have zrb : 0 ≠ rb := by have := ht.lt; omega
  have c0 := (h.ext X1).cell 0 _ rfl
  have w0 := (ht.ext X1).cell 0 (by decide)
  have RM := (h.1.all 1)
  have ho := h.1.1
  have PC : Hid (∀ V, Ext w V → Calls Tryd.prog 30 #[.pointer (some ⟨b, 0, none⟩), .int .i64 1] V fun e w' => e = .returned (.agg #[.int .i64 (wsum 1 l), .int .i64 (wall 1 l)]) ∧ Ext V w') := fun V X => past_any b o l 1 V (by decide) (h.ext X) (ht.ext X)
  have ERB := hid erb
  have XX := hid X1
  have R1 := hid r1
  have C0 := hid c0
  have Z0 : Hid (W1.cell? ⟨0, 0, none⟩ = some (.int .i64 5)) := w0
  obtain ⟨⟨s0, s1⟩, a0, a1⟩ := RM
  obtain ⟨T5, eT⟩ : ∃ T5, T5 = t * 5 := ⟨_, rfl⟩
  have wr5 : IntKind.i64.wrap (t * 5) = T5 := by rw [eT]; exact IntWalk.i64_in _ (by omega)
  rw [← eT]
  have q0 : 0 ≤ T5 := by omega
  have q1 : T5 ≤ 10 := by omega
  have WC := hid (fun V => with_any (wsum 1 l) (wall 1 l) o T5 V s0 (by omega) a0 (by omega) ho.1 ho.2 q0 q1)
  generalize wsum 1 l = s at *
  generalize wall 1 l = a at *
  have ET := hid eT
  clear e1 erb X1 r1 c0 w0 h ht s0 s1 a0 a1 ho eT
  go_enter Tryd.func32, Tryd.ntmps32
  go_wp2_with fail
  rw [← E1.out, ← ERB.out]
  refine wp_region_held_drew (S := fun V => Kept (fun q => q ≠ rb) W1 V) (by kernel_rfl) (Kept.of_ext (show Ext W1 W1.drew from (Ext.refl W1).drewN 1)) (fun hHeld => ?_)
  refine takeE (v := ?_) 0 5 rfl rfl (by kernel_rfl) (by kernel_rfl) (by kernel_rfl) (fun _ _ _ h => h) (Or.inl ⟨by rfl, fun V hV => ?_⟩) hHeld ?_
  rotate_left
  · (go_simp; try with_reducible rfl)
  simp only [Act.put, List.setIfInBounds_toArray, List.set_cons_zero, List.set_cons_succ]
  refine takeE (v := ?_) 2 7 rfl rfl (by kernel_rfl) (by kernel_rfl) (by kernel_rfl) (fun _ _ _ h => h) (Or.inl ⟨by rfl, fun V hV => ?_⟩) hHeld ?_
  rotate_left
  · (go_simp; try with_reducible rfl)
  simp only [Act.put, List.setIfInBounds_toArray, List.set_cons_zero, List.set_cons_succ]
  refine takeE (v := ?_) 3 8 rfl rfl (by kernel_rfl) (by kernel_rfl) (by kernel_rfl) (fun _ _ _ h => h) (Or.inl ⟨by rfl, fun V hV => ?_⟩) hHeld ?_
  rotate_left
  · (go_simp; try with_reducible rfl)
  simp only [Act.put, List.setIfInBounds_toArray, List.set_cons_zero, List.set_cons_succ]
  refine takeE (v := ?_) 4 9 rfl rfl (by kernel_rfl) (by kernel_rfl) (by kernel_rfl) (fun _ _ _ h => h) (Or.inl ⟨by rfl, fun V hV => ?_⟩) hHeld ?_
  rotate_left
  · (go_simp; try with_reducible rfl)
  simp only [Act.put, List.setIfInBounds_toArray, List.set_cons_zero, List.set_cons_succ]
  refine takeE (v := ?_) 5 10 rfl rfl (by kernel_rfl) (by kernel_rfl) (by kernel_rfl) (fun _ _ _ h => h) (Or.inl ⟨by rfl, fun V hV => ?_⟩) hHeld ?_
  rotate_left
  · (have y := hV.cell (a := ⟨b, 0, none⟩) brb C0.out; go_simp; try with_reducible rfl)
  simp only [Act.put, List.setIfInBounds_toArray, List.set_cons_zero, List.set_cons_succ]
  refine takeE (v := ?_) 6 11 rfl rfl (by kernel_rfl) (by kernel_rfl) (by kernel_rfl) (fun _ _ _ h => h) (Or.inl ⟨by rfl, fun V hV => ?_⟩) hHeld ?_
  rotate_left
  · (go_simp; try with_reducible rfl)
  simp only [Act.put, List.setIfInBounds_toArray, List.set_cons_zero, List.set_cons_succ]
  refine takeE (v := ?_) 7 12 rfl rfl (by kernel_rfl) (by kernel_rfl) (by kernel_rfl) (fun _ _ _ h => h) (Or.inl ⟨by rfl, fun V hV => ?_⟩) hHeld ?_
  rotate_left
  · (go_simp; try with_reducible rfl)
  simp only [Act.put, List.setIfInBounds_toArray, List.set_cons_zero, List.set_cons_succ]
  refine takeE (v := ?_) 8 13 rfl rfl (by kernel_rfl) (by kernel_rfl) (by kernel_rfl) (fun _ _ _ h => h) (Or.inl ⟨by rfl, fun V hV => ?_⟩) hHeld ?_
  rotate_left
  · (have y := hV.cell (a := ⟨0, 0, none⟩) zrb Z0.out; go_simp; try with_reducible rfl)
  simp only [Act.put, List.setIfInBounds_toArray, List.set_cons_zero, List.set_cons_succ]
  refine takeE (v := .int .i64 T5) 9 14 rfl rfl (by kernel_rfl) (by kernel_rfl) (by kernel_rfl) (fun _ _ _ h => h) (Or.inl ⟨by rfl, fun V hV => ?_⟩) hHeld ?_
  · (go_simp; try exact wr5)
  simp only [Act.put, List.setIfInBounds_toArray, List.set_cons_zero, List.set_cons_succ]
  refine callE 1 6 rfl rfl (by kernel_rfl) (by rfl) (by go_simp; first | exact ⟨rfl, rfl⟩ | rfl) ?_
  refine (PC.out _ (XX.out.trans (show Ext W1 W1.drew from (Ext.refl W1).drewN 1))).mono ?_
  rintro e w5 ⟨rfl, x5⟩
  have k5 : Kept (fun q => q ≠ rb) W1 w5 := hHeld.trans (Kept.of_ext x5)
  refine ⟨_, rfl, k5, ?_⟩
  simp only [Act.put, List.setIfInBounds_toArray, List.set_cons_zero, List.set_cons_succ]
  refine callE 10 15 rfl rfl (by kernel_rfl) (by rfl) (by go_simp; first | exact ⟨rfl, rfl⟩ | rfl) ?_
  refine (WC.out _).mono ?_
  rintro e w6 ⟨rfl, x6⟩
  have k6 : Kept (fun q => q ≠ rb) W1 w6 := k5.trans (Kept.of_ext x6)
  refine ⟨_, rfl, k6, ?_⟩
  simp only [Act.put, List.setIfInBounds_toArray, List.set_cons_zero, List.set_cons_succ]
  have X6 : Ext W1 w6 := ((show Ext W1 W1.drew from (Ext.refl W1).drewN 1).trans x5).trans x6
  have M6 := X6.row R1.out
  refine storeN 11 rfl rfl (by kernel_rfl) (by rfl) (w' := w6.setRow rb #[.int .i64 (s + o * T5), .int .i64 (a + T5)]) (exec_store 59 (.tmp 4) (.tmp 15) rfl (run_store_whole w6 rb _ _ _ _ M6 (by kernel_rfl) rfl (by simp [Value.oneCell']))) (k6.setRow (fun hne => hne rfl) _) ?_
  refine wpAnyH_done (by kernel_rfl) ?_ _
  have M7 := setRow_heap _ _ _ #[.int .i64 (s + o * T5), .int .i64 (a + T5)] _ _ M6
  have FIN := hid ((XX.out.trans X6).setRow (g := rb) (by have := ERB.out; omega) #[.int .i64 (s + o * T5), .int .i64 (a + T5)])
  have M8 := hid M7
  clear hHeld k5 k6 x5 x6 X6 M6 M7
  go_wp2_with fail
  refine bodyPost_ret (results_cell_row Tryd.results32 _ _ rb 59 _ (0, 0) _ rfl M8.out Tryd.underlying59 rfl (by kernel_rfl)) rfl ?_
  exact ⟨rfl, FIN.out⟩

set_option maxHeartbeats 2000000 in
theorem isLong_any (b : Nat) (o : Int) (l : List Int) (w : World) (h : HisV w b o l) (ht : Wts w) :
    Calls Tryd.prog 27 #[.pointer (some ⟨b, 0, none⟩)] w fun e w' => e = .returned (.bool (decide (hlong o l))) ∧ Ext w w' := by
  have PC : Hid (∀ V, Ext w V → Calls Tryd.prog 30 #[.pointer (some ⟨b, 0, none⟩), .int .i64 0] V fun e w' => e = .returned (.agg #[.int .i64 (wsum 0 l), .int .i64 (wall 0 l)]) ∧ Ext V w') := fun V X => past_any b o l 0 V (by decide) (h.ext X) (ht.ext X)
  have C0 : Hid (∀ V, Ext w V → V.cell? ⟨b, 0, none⟩ = some (.int .i64 o)) := fun V X => (h.ext X).cell 0 _ rfl
  obtain ⟨⟨s0, s1⟩, a0, a1⟩ := h.1.all 0
  obtain ⟨o0, o1⟩ := h.1.1
  unfold hlong
  generalize wsum 0 l = s at *
  generalize wall 0 l = a at *
  have p0 : 0 ≤ o * a := Int.mul_nonneg o0 a0
  have p1 : o * a ≤ 1048576 * 40 := Int.mul_le_mul o1 a1 a0 (by decide)
  clear h ht
  go_enter Tryd.func27, Tryd.ntmps27
  go_wp2_with fail
  refine (PC.out _ (Ext.refl _)).mono ?_
  rintro e w1 ⟨rfl, x1⟩
  have c0 := C0.out _ (x1.alloc (.cells #[.int .i64 (s), .int .i64 (a)] 59))
  have X1 := hid x1
  clear PC C0 x1
  go_wp2_with fail
  go_quiet (fail)
  go_wp2_with fail
  go_ret
  exact ⟨rfl, (X1.out.alloc _).drewN _⟩

theorem greater_none (b : Nat) (o : Int) (t : Int) (w : World) (h : HisV w b o []) :
    Calls Tryd.prog 26 #[.pointer (some ⟨b, 0, none⟩), .int .i64 t] w fun e w' => e = .returned (.int .u64 (18446744073709551615)) ∧ w' = w := by
  have c9 : w.cell? ⟨b, 9, none⟩ = some (.int .i64 0) := h.cell 9 _ rfl
  clear h
  go_enter Tryd.func26, Tryd.ntmps26
  go_wp2_with fail
  go_ret
  exact ⟨rfl, rfl⟩

set_option maxHeartbeats 1000000 in
theorem greater_some (b : Nat) (o : Int) (l : List Int) (t : Int) (w : World) (t1 : 1 ≤ t) (t2 : t ≤ 2) (h : HisV w b o l) (ht : Wts w) (hl : l ≠ []) :
    Calls Tryd.prog 26 #[.pointer (some ⟨b, 0, none⟩), .int .i64 t] w fun e w' => e = .returned (.int .u64 (max (hfirst l) (hsecond t o l))) ∧ Ext w w' := by
  have c9 : w.cell? ⟨b, 9, none⟩ = some (.int .i64 (l.length : Int)) := h.cell 9 _ rfl
  have PC : Hid (∀ V, Ext w V → Calls Tryd.prog 30 #[.pointer (some ⟨b, 0, none⟩), .int .i64 0] V fun e w' => e = .returned (.agg #[.int .i64 (wsum 0 l), .int .i64 (wall 0 l)]) ∧ Ext V w') := fun V X => past_any b o l 0 V (by decide) (h.ext X) (ht.ext X)
  have QC := hid (fun V (X : Ext w V) => present_any b o l t V t1 t2 (h.ext X) (ht.ext X))
  obtain ⟨⟨s0, s1⟩, a0, a1⟩ := h.1.all 0
  obtain ⟨⟨u0, u1⟩, v0, v1⟩ := h.1.all 1
  obtain ⟨o0, o1⟩ := h.1.1
  have p0 : 0 ≤ o * (t * 5) := Int.mul_nonneg o0 (by omega)
  have p1 : o * (t * 5) ≤ 1048576 * 10 := Int.mul_le_mul o1 (by omega) (by omega) (by decide)
  have M1 := hid (fun V => mean_any (wsum 0 l) (wall 0 l) V s0 (by omega) a0 (by omega))
  have M2 := hid (fun V => mean_any (wsum 1 l + o * (t * 5)) (wall 1 l + t * 5) V (by omega) (by omega) (by omega) (by omega))
  have l0 : (l.length : Int) ≠ 0 := by
    intro e
    exact hl (List.eq_nil_of_length_eq_zero (by omega))
  obtain ⟨L, eL⟩ : ∃ L : Int, L = (l.length : Int) := ⟨_, rfl⟩
  rw [← eL] at c9 l0
  have e1 : fratio (wsum 0 l) (wall 0 l) = hfirst l := rfl
  have e2 : fratio (wsum 1 l + o * (t * 5)) (wall 1 l + t * 5) = hsecond t o l := rfl
  rw [e1] at M1
  rw [e2] at M2
  obtain ⟨y, ey⟩ : ∃ y, y = max (hfirst l) (hsecond t o l) := ⟨_, rfl⟩
  rw [← ey]
  have EY := hid ey
  generalize hfirst l = A at *
  generalize hsecond t o l = B at *
  clear h ht hl eL e1 e2 s0 s1 a0 a1 u0 u1 v0 v1 o0 o1 p0 p1 ey
  go_enter Tryd.func26, Tryd.ntmps26
  go_wp2_with fail
  refine (PC.out _ (Ext.refl _)).mono ?_
  rintro e w1 ⟨rfl, x1⟩
  have X1 := hid x1
  clear PC x1
  go_wp2_with fail
  refine (M1.out _).mono ?_
  rintro e w2 ⟨rfl, x2⟩
  have X2 := hid (X1.out.trans x2)
  clear M1 x2
  go_wp2_with fail
  refine (QC.out _ X2.out).mono ?_
  rintro e w3 ⟨rfl, x3⟩
  have X3 := hid (X2.out.trans x3)
  clear QC x3
  go_wp2_with fail
  refine (M2.out _).mono ?_
  rintro e w4 ⟨rfl, x4⟩
  have X4 := hid (X3.out.trans x4)
  clear M2 x4
  go_wp2_with fail
  all_goals go_ret
  all_goals
    have ey := EY.out
    exact ⟨ret_int (by omega), X4.out⟩

theorem mean_of (b : Nat) (o : Int) (l : List Int) (w : World) (h : HisV w b o l) (ht : Wts w) :
    Calls Tryd.prog 12 #[.pointer (some ⟨b, 0, none⟩)] w fun e w' => e = .returned (.int .u64 (hmean o l)) ∧ Ext w w' := by
  have G : Hid (Calls Tryd.prog 26 #[.pointer (some ⟨b, 0, none⟩), .int .i64 1] w fun e w' => e = .returned (.int .u64 (hmean o l)) ∧ Ext w w') := by
    by_cases hl : l = []
    · subst hl
      refine (greater_none b o 1 w h).mono ?_
      rintro e w' ⟨rfl, rfl⟩
      exact ⟨rfl, Ext.refl _⟩
    · refine (greater_some b o l 1 w (by decide) (by decide) h ht hl).mono ?_
      rintro e w' ⟨rfl, x⟩
      exact ⟨by unfold hmean; rw [if_neg hl], x⟩
  generalize hmean o l = y at *
  clear h ht
  go_enter Tryd.func12, Tryd.ntmps12
  go_wp2_with fail
  refine G.out.mono ?_
  rintro e w1 ⟨rfl, x1⟩
  have X1 := hid x1
  clear G x1
  go_wp2_with fail
  go_ret
  exact ⟨rfl, X1.out⟩

theorem disc_of (b : Nat) (o : Int) (l : List Int) (w : World) (h : HisV w b o l) (ht : Wts w) :
    Calls Tryd.prog 13 #[.pointer (some ⟨b, 0, none⟩)] w fun e w' => e = .returned (.int .u64 (hdisc o l)) ∧ Ext w w' := by
  have LC := hid (isLong_any b o l w h ht)
  by_cases q : hlong o l
  · have G : Hid (∀ V, Ext w V → Calls Tryd.prog 26 #[.pointer (some ⟨b, 0, none⟩), .int .i64 2] V fun e w' => e = .returned (.int .u64 (hdisc o l)) ∧ Ext V w') := fun V X => by
      by_cases hl : l = []
      · subst hl
        refine (greater_none b o 2 V (h.ext X)).mono ?_
        rintro e w' ⟨rfl, rfl⟩
        exact ⟨rfl, Ext.refl _⟩
      · refine (greater_some b o l 2 V (by decide) (by decide) (h.ext X) (ht.ext X) hl).mono ?_
        rintro e w' ⟨rfl, x⟩
        exact ⟨by unfold hdisc; rw [if_neg hl, if_pos q], x⟩
    rw [decide_eq_true q] at LC
    generalize hdisc o l = y at *
    clear h ht q
    go_enter Tryd.func13, Tryd.ntmps13
    go_wp2_with fail
    refine LC.out.mono ?_
    rintro e w1 ⟨rfl, x1⟩
    have X1 := hid x1
    clear LC x1
    go_wp2_with fail
    refine (G.out _ X1.out).mono ?_
    rintro e w2 ⟨rfl, x2⟩
    have X2 := hid (X1.out.trans x2)
    clear G x2
    go_wp2_with fail
    go_ret
    exact ⟨rfl, X2.out⟩
  · have G : Hid (∀ V, Ext w V → Calls Tryd.prog 26 #[.pointer (some ⟨b, 0, none⟩), .int .i64 1] V fun e w' => e = .returned (.int .u64 (hdisc o l)) ∧ Ext V w') := fun V X => by
      by_cases hl : l = []
      · subst hl
        refine (greater_none b o 1 V (h.ext X)).mono ?_
        rintro e w' ⟨rfl, rfl⟩
        exact ⟨rfl, Ext.refl _⟩
      · refine (greater_some b o l 1 V (by decide) (by decide) (h.ext X) (ht.ext X) hl).mono ?_
        rintro e w' ⟨rfl, x⟩
        exact ⟨by unfold hdisc; rw [if_neg hl, if_neg q], x⟩
    rw [decide_eq_false q] at LC
    generalize hdisc o l = y at *
    clear h ht q
    go_enter Tryd.func13, Tryd.ntmps13
    go_wp2_with fail
    refine LC.out.mono ?_
    rintro e w1 ⟨rfl, x1⟩
    have X1 := hid x1
    clear LC x1
    go_wp2_with fail
    refine (G.out _ X1.out).mono ?_
    rintro e w2 ⟨rfl, x2⟩
    have X2 := hid (X1.out.trans x2)
    clear G x2
    go_wp2_with fail
    go_ret
    exact ⟨rfl, X2.out⟩

theorem rate_of (b : Nat) (o : Int) (l : List Int) (w : World) (h : HisV w b o l) (ht : Wts w) :
    Calls Tryd.prog 14 #[.pointer (some ⟨b, 0, none⟩)] w fun e w' => e = .returned (.int .u64 (hrate o l)) ∧ Ext w w' := by
  have c9 : w.cell? ⟨b, 9, none⟩ = some (.int .i64 (l.length : Int)) := h.cell 9 _ rfl
  by_cases hl : l = []
  · subst hl
    have c9' : w.cell? ⟨b, 9, none⟩ = some (.int .i64 0) := c9
    clear c9 h ht
    go_enter Tryd.func14, Tryd.ntmps14
    go_wp2_with fail
    go_ret
    exact ⟨rfl, Ext.refl _⟩
  · have MC := hid (mean_of b o l w h ht)
    obtain ⟨m0, m1⟩ := mean_room h.1
    have DC := hid (fun V => div_any 4294967296 (hmean o l) (by decide) m0 (by decide) m1 V)
    have l0 : (l.length : Int) ≠ 0 := by
      intro e
      exact hl (List.eq_nil_of_length_eq_zero (by omega))
    obtain ⟨L, eL⟩ : ∃ L : Int, L = (l.length : Int) := ⟨_, rfl⟩
    rw [← eL] at c9 l0
    obtain ⟨y, ey⟩ : ∃ y, y = hrate o l := ⟨_, rfl⟩
    rw [← ey]
    unfold hrate at ey
    rw [if_neg hl] at ey
    have EY := hid ey
    generalize fratio 4294967296 (hmean o l) = A at *
    generalize hmean o l = m at *
    clear h ht hl eL ey
    go_enter Tryd.func14, Tryd.ntmps14
    go_wp2_with fail
    refine MC.out.mono ?_
    rintro e w1 ⟨rfl, x1⟩
    have X1 := hid x1
    clear MC x1
    go_wp2_with fail
    refine (DC.out _).mono ?_
    rintro e w2 ⟨rfl, n, rfl⟩
    have X2 := hid (X1.out.drewN n)
    go_wp2_with fail
    all_goals go_ret
    all_goals
      have ey := EY.out
      exact ⟨ret_int (by omega), X2.out⟩
end Go.Proofs.YtmkcgkmaabcjoaaDoor.His

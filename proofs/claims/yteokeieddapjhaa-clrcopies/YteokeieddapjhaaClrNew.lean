/-
  Walks of New, Copy, Least. (Printed by wip/gen/clrnew.py.)
-/
import Derived.Test.YteokeieddapjhaaClrLeast
import Derived.Test.YteokeieddapjhaaClrIns
namespace Go.Proofs.Yteokeieddapjhaa.Clr
set_option linter.unusedVariables false
set_option maxRecDepth 100000
open Go.RowKit Go.Lib

theorem new_bad (lim : Int) (w : World) (h : lim < 1 ∨ 1048576 < lim) : Calls Try.prog 8 #[.int .i64 lim] w fun e w' => e = .returned (.tuple #[.pointer none, .int .i64 11]) ∧ w' = w := by
  by_cases q : lim < 1
  · go_enter Try.func8, Try.ntmps8
    go_wp2
    go_ret2
    exact ⟨rfl, rfl⟩
  · have h2 : 1048576 < lim := by omega
    clear h
    go_enter Try.func8, Try.ntmps8
    go_wp2
    go_ret2
    exact ⟨rfl, rfl⟩
/-- a book whose blocks are new since w -/
def Fresh (w w' : World) (b : Nat) (lim : Int) (s : BS) : Prop := (∀ K : Nat → Prop, (∀ i, K i → i < w.heap.size) → Bk K w' b lim s) ∧ Ext w w'
theorem Fresh.at {w w' : World} {b : Nat} {lim : Int} {s : BS} (h : Fresh w w' b lim s) : Bk (fun i => i < w.heap.size) w' b lim s := h.1 _ (fun _ hi => hi)
theorem fresh_of {w w' : World} {b : Nat} {lim : Int} {s : BS} {v : Value} (f : FitB s) (hl : 1 ≤ lim ∧ lim ≤ 1048576) (x : Ext w w') (hb : w.heap.size ≤ b) (r : w'.heap[b]? = some (.cells #[.int .i64 lim, v, .int .i64 s.2] 54 (0, 0))) (o : OwnR w' v (rows 0 s.1)) (hv : ∀ k, v.ownBlock = some k → w.heap.size ≤ k) : Fresh w w' b lim s :=
  ⟨fun K hK => ⟨f, hl, fun i hi => Nat.lt_of_lt_of_le (hK i hi) x.size, fun q => by have := hK _ q; omega, v, r, o, fun g hg q => by have := hK _ q; have := hv g hg; omega⟩, x⟩
theorem rows_none (n : Nat) : ∀ i, rows i (List.replicate n none) = [] := by
  induction n with
  | zero => intro i; rfl
  | succ n ih => intro i; simp [List.replicate_succ, rows, rw_, ih]
theorem new_ok (lim : Int) (w : World) (h : 1 ≤ lim ∧ lim ≤ 1048576) : Calls Try.prog 8 #[.int .i64 lim] w fun e w' => ∃ b, e = .returned (.tuple #[.pointer (some ⟨b, 0, none⟩), .int .i64 0]) ∧ Hid (Fresh w w' b lim bnew) := by
  have FIN : Hid (Fresh w (w.alloc (.cells #[.int .i64 lim, .slice none 0 0, .int .i64 0] 54)) w.heap.size lim bnew) := by
    refine fresh_of (v := .slice none 0 0) fit_new h ((Ext.refl w).alloc _) (Nat.le_refl _) (heap_alloc_new w _) ?_ (fun k hk => by simp [Value.ownBlock] at hk)
    show OwnR _ _ (rows 0 (List.replicate 64 none))
    rw [rows_none]
    exact Own.nil _ _ _ _
  obtain ⟨h1, h2⟩ := h
  go_enter Try.func8, Try.ntmps8
  go_wp2_with fail
  go_ret2
  exact ⟨_, rfl, FIN⟩

set_option maxHeartbeats 2000000 in
theorem copy_any {K : Nat → Prop} {w : World} {b : Nat} {lim : Int} {s : BS} (h : Bk K w b lim s) :
    Calls Try.prog 14 #[.pointer (some ⟨b, 0, none⟩)] w fun e w' => ∃ c, e = .returned (.pointer (some ⟨c, 0, none⟩)) ∧ Hid (Fresh w w' c lim s) := by
  obtain ⟨ao, n, c, en, n64, nc, cm, c0, c1, c2, o⟩ := h.view
  have CLN := hid (fun W (X : Ext w W) => clone_any W (.slice ao n c) (rows 0 s.1) (o.ext X) (by omega))
  have FIN : Hid (∀ (W W2 : World) (v : Value), Ext w W → Ext W W2 → OwnR W2 v (rows 0 s.1) → (∀ k, v.ownBlock = some k → W.heap.size ≤ k) → Fresh w (W2.alloc (.cells #[.int .i64 lim, v, .int .i64 s.2] 54)) W2.heap.size lim s) := fun W W2 v x1 x2 ow hv => by
    have x3 := x1.trans x2
    exact fresh_of h.1 h.2.1 (x3.alloc _) x3.size (heap_alloc_new W2 _) (ow.ext ((Ext.refl W2).alloc _)) (fun k hk => Nat.le_trans x1.size (hv k hk))
  have SL : Hid (∀ W v, OwnR W v (rows 0 s.1) → ∃ ao n c, v = .slice ao n c) := fun W v ow => by
    obtain ⟨a, c, e, _⟩ := ow.view encR
    exact ⟨_, _, _, e⟩
  generalize rows 0 s.1 = l at *
  unfold maxLen at cm
  clear h o en
  go_enter Try.func14, Try.ntmps14
  go_wp2_with fail
  refine wp_region_held_drew (S := fun V => Ext w V) (by kernel_rfl) ((Ext.refl w).drewN 1) (fun hHeld => ?_)
  refine takeE (v := ?_) 0 3 rfl rfl (by kernel_rfl) (by kernel_rfl) (by kernel_rfl) (fun _ _ _ h => h) (Or.inl ⟨by rfl, fun V hV => ?_⟩) hHeld ?_
  rotate_left
  · (go_simp; try with_reducible rfl)
  simp only [Act.put, List.setIfInBounds_toArray, List.set_cons_zero, List.set_cons_succ]
  refine takeE (v := ?_) 1 4 rfl rfl (by kernel_rfl) (by kernel_rfl) (by kernel_rfl) (fun _ _ _ h => h) (Or.inl ⟨by rfl, fun V hV => ?_⟩) hHeld ?_
  rotate_left
  · (go_simp; try with_reducible rfl)
  simp only [Act.put, List.setIfInBounds_toArray, List.set_cons_zero, List.set_cons_succ]
  refine takeE (v := ?_) 2 5 rfl rfl (by kernel_rfl) (by kernel_rfl) (by kernel_rfl) (fun _ _ _ h => h) (Or.inl ⟨by rfl, fun V hV => ?_⟩) hHeld ?_
  rotate_left
  · (go_simp; try with_reducible rfl)
  simp only [Act.put, List.setIfInBounds_toArray, List.set_cons_zero, List.set_cons_succ]
  refine takeE (v := ?_) 3 6 rfl rfl (by kernel_rfl) (by kernel_rfl) (by kernel_rfl) (fun _ _ _ h => h) (Or.inl ⟨by rfl, fun V hV => ?_⟩) hHeld ?_
  rotate_left
  · (have y1 := hV.cell c0; go_simp; try with_reducible rfl)
  simp only [Act.put, List.setIfInBounds_toArray, List.set_cons_zero, List.set_cons_succ]
  refine takeE (v := ?_) 4 7 rfl rfl (by kernel_rfl) (by kernel_rfl) (by kernel_rfl) (fun _ _ _ h => h) (Or.inl ⟨by rfl, fun V hV => ?_⟩) hHeld ?_
  rotate_left
  · (go_simp; try with_reducible rfl)
  simp only [Act.put, List.setIfInBounds_toArray, List.set_cons_zero, List.set_cons_succ]
  refine takeE (v := ?_) 5 8 rfl rfl (by kernel_rfl) (by kernel_rfl) (by kernel_rfl) (fun _ _ _ h => h) (Or.inl ⟨by rfl, fun V hV => ?_⟩) hHeld ?_
  rotate_left
  · (go_simp; try with_reducible rfl)
  simp only [Act.put, List.setIfInBounds_toArray, List.set_cons_zero, List.set_cons_succ]
  refine takeE (v := ?_) 6 9 rfl rfl (by kernel_rfl) (by kernel_rfl) (by kernel_rfl) (fun _ _ _ h => h) (Or.inl ⟨by rfl, fun V hV => ?_⟩) hHeld ?_
  rotate_left
  · (go_simp; try with_reducible rfl)
  simp only [Act.put, List.setIfInBounds_toArray, List.set_cons_zero, List.set_cons_succ]
  refine takeE (v := ?_) 7 10 rfl rfl (by kernel_rfl) (by kernel_rfl) (by kernel_rfl) (fun _ _ _ h => h) (Or.inl ⟨by rfl, fun V hV => ?_⟩) hHeld ?_
  rotate_left
  · (have y1 := hV.cell c1; go_simp; try with_reducible rfl)
  simp only [Act.put, List.setIfInBounds_toArray, List.set_cons_zero, List.set_cons_succ]
  refine takeE (v := ?_) 9 12 rfl rfl (by kernel_rfl) (by kernel_rfl) (by kernel_rfl) (fun _ _ _ h => h) (Or.inl ⟨by rfl, fun V hV => ?_⟩) hHeld ?_
  rotate_left
  · (go_simp; try with_reducible rfl)
  simp only [Act.put, List.setIfInBounds_toArray, List.set_cons_zero, List.set_cons_succ]
  refine takeE (v := ?_) 10 13 rfl rfl (by kernel_rfl) (by kernel_rfl) (by kernel_rfl) (fun _ _ _ h => h) (Or.inl ⟨by rfl, fun V hV => ?_⟩) hHeld ?_
  rotate_left
  · (go_simp; try with_reducible rfl)
  simp only [Act.put, List.setIfInBounds_toArray, List.set_cons_zero, List.set_cons_succ]
  refine takeE (v := ?_) 11 14 rfl rfl (by kernel_rfl) (by kernel_rfl) (by kernel_rfl) (fun _ _ _ h => h) (Or.inl ⟨by rfl, fun V hV => ?_⟩) hHeld ?_
  rotate_left
  · (go_simp; try with_reducible rfl)
  simp only [Act.put, List.setIfInBounds_toArray, List.set_cons_zero, List.set_cons_succ]
  refine takeE (v := ?_) 12 15 rfl rfl (by kernel_rfl) (by kernel_rfl) (by kernel_rfl) (fun _ _ _ h => h) (Or.inl ⟨by rfl, fun V hV => ?_⟩) hHeld ?_
  rotate_left
  · (have y1 := hV.cell c2; go_simp; try with_reducible rfl)
  simp only [Act.put, List.setIfInBounds_toArray, List.set_cons_zero, List.set_cons_succ]
  refine callE 8 11 rfl rfl (by kernel_rfl) (by rfl) (by go_simp; first | exact ⟨rfl, rfl⟩ | rfl) ?_
  refine (CLN.out _ ((Ext.refl w).drewN 1)).mono ?_
  rintro e W2 ⟨v, rfl, ow, x2, hv⟩
  obtain ⟨ao2, n2, c2', rfl⟩ := SL.out _ _ ow
  have F2 := hid (FIN.out w.drew W2 _ ((Ext.refl w).drewN 1) x2 ow hv)
  have X2 : Ext w W2 := (show Ext w w.drew from (Ext.refl w).drewN 1).trans x2
  clear ow hv x2 FIN CLN SL
  refine ⟨_, rfl, X2, ?_⟩
  simp only [Act.put, List.setIfInBounds_toArray, List.set_cons_zero, List.set_cons_succ]
  refine takeE (v := ?_) 13 16 rfl rfl (by kernel_rfl) (by kernel_rfl) (by kernel_rfl) (fun _ _ _ h => h) (Or.inl ⟨by rfl, fun V hV => ?_⟩) X2 ?_
  rotate_left
  · (go_simp; try with_reducible rfl)
  simp only [Act.put, List.setIfInBounds_toArray, List.set_cons_zero, List.set_cons_succ]
  refine knownE 14 17 rfl rfl (by kernel_rfl) (by rfl) (w' := W2.alloc (.cells #[.int .i64 lim, .slice ao2 n2 c2', .int .i64 s.2] 54)) (v := .pointer (some ⟨W2.heap.size, 0, none⟩)) (by go_simp; try with_reducible rfl) (X2.alloc _) ?_
  simp only [Act.put, List.setIfInBounds_toArray, List.set_cons_zero, List.set_cons_succ]
  refine takeE (v := ?_) 15 2 rfl rfl (by kernel_rfl) (by kernel_rfl) (by kernel_rfl) (fun _ _ _ h => h) (Or.inl ⟨by rfl, fun V hV => ?_⟩) (X2.alloc _) ?_
  rotate_left
  · (go_simp; try with_reducible rfl)
  simp only [Act.put, List.setIfInBounds_toArray, List.set_cons_zero, List.set_cons_succ]
  refine wpAnyH_done (by kernel_rfl) ?_ _
  clear hHeld
  go_wp2_with fail
  go_ret
  exact ⟨_, rfl, F2⟩

/-- what has the least rate, or a zero one -/
def lsv : Option Rep → Array Value
  | none => #[.int .i64 0, .int .i64 0, .int .u64 0]
  | some m => ra m

set_option maxHeartbeats 1000000 in
theorem least_any {K : Nat → Prop} {w : World} {b : Nat} {lim : Int} {s : BS} (h : Bk K w b lim s) :
    Calls Try.prog 21 #[.pointer (some ⟨b, 0, none⟩)] w fun e w' => e = .returned (.tuple #[.agg (lsv (least (rows 0 s.1))), .bool (least (rows 0 s.1)).isSome]) ∧ Ext w w' := by
  obtain ⟨V0, e0⟩ : ∃ V0, V0 = w.alloc (.cells #[.int .i64 0, .int .i64 0, .int .u64 0] 43) := ⟨_, rfl⟩
  have X0 := hid (tb_ext w 0 0 0)
  have R0 := hid (tb_row w 0 0 0)
  rw [show tb w 0 0 0 = V0 from e0.symm] at X0 R0
  have E0 := hid e0
  obtain ⟨bx, ebx⟩ : ∃ bx, bx = w.heap.size := ⟨_, rfl⟩
  rw [← ebx] at R0
  have EB := hid ebx
  have wb : w.heap.size ≤ bx := by omega
  obtain ⟨ao, n, c, en, n64, nc, cm, c0, c1, c2, o⟩ := (h.ext X0.out).view
  clear h ebx c0 c2
  generalize rows 0 s.1 = l at *
  unfold maxLen at cm
  cases l with
  | nil =>
    simp only [least, Option.isSome_none, List.length_nil] at en ⊢
    subst en
    have FIN : Hid (Ext w (V0.setRow bx (lsv none)) ∧ (V0.setRow bx (lsv none)).heap[bx]? = some (.cells (lsv none) 43 (0, 0))) := ⟨X0.out.setRow wb _, setRow_heap _ _ _ _ _ _ R0.out⟩
    have ONE : Hid ((lsv none).all (·.oneCell') = true) := by show _ = _; simp [lsv, Value.oneCell']
    have C1 := hid c1
    clear o e0 c1
    go_enter Try.func21, Try.ntmps21
    go_wp2_with (first
      | (rw [← EB.out, ← E0.out]; have d1 := C1.out)
      | refine wpList_store_row rfl 43 (.tmp 2) _ rfl bx (lsv none) rfl rfl 43 _ R0.out (by kernel_rfl) rfl ONE.out ?_)
    try simp only [Act.put, List.setIfInBounds_toArray, List.set_cons_zero, List.set_cons_succ]
    refine bodyPost_ret (results_cell_tmp1 Try.results21 _ _ bx 43 _ (0, 0) _ rfl FIN.out.2 Try.underlying43 rfl (by kernel_rfl)) rfl ?_
    exact ⟨rfl, FIN.out.1⟩
  | cons x l =>
    simp only [least, Option.isSome_some, List.length_cons] at en ⊢
    have MF := hid (minf_any _ x l V0 o (by omega))
    obtain ⟨m, em⟩ : ∃ m, m = l.foldl mn x := ⟨_, rfl⟩
    rw [← em] at MF ⊢
    have n0 : ¬ ((n : Int) = 0) := by omega
    have C1 := hid c1
    have ONE := hid (ra_one m)
    clear o e0 em c1 en
    go_enter Try.func21, Try.ntmps21
    go_wp2_with (rw [← EB.out, ← E0.out]; have d1 := C1.out)
    refine MF.out.mono ?_
    rintro e w1 ⟨rfl, x1⟩
    have R1 := hid (x1.row R0.out)
    have FIN : Hid (Ext w (w1.setRow bx (ra m)) ∧ (w1.setRow bx (ra m)).heap[bx]? = some (.cells (ra m) 43 (0, 0))) := ⟨(X0.out.trans x1).setRow wb _, setRow_heap _ _ _ _ _ _ R1.out⟩
    clear x1 MF
    go_wp2_with (refine wpList_store_row rfl 43 (.tmp 2) _ rfl bx (ra m) rfl rfl 43 _ R1.out (by kernel_rfl) rfl ONE.out ?_)
    try simp only [Act.put, List.setIfInBounds_toArray, List.set_cons_zero, List.set_cons_succ]
    refine bodyPost_ret (results_cell_tmp1 Try.results21 _ _ bx 43 _ (0, 0) _ rfl FIN.out.2 Try.underlying43 rfl (by kernel_rfl)) rfl ?_
    exact ⟨rfl, FIN.out.1⟩
end Go.Proofs.Yteokeieddapjhaa.Clr

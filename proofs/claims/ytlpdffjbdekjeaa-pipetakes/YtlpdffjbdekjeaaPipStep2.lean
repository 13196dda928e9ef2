/-
  The walk of the statements' step where a message is put.
-/
import Derived.Test.YtlpdffjbdekjeaaPipStep
namespace Go.Proofs.Ytlpdffjbdekjeaa
set_option linter.unusedVariables false
set_option maxRecDepth 100000
open Go.RowKit Go.Lib

theorem exec_append {P : Program} {o : Oper} {a : Act} {w : World} (s x : Operand) (t : TypeId)
    (hop : o.op = Op.call { callee := Callee.builtin Builtin.append, args := #[s, x], argTypes := #[t, t] }) (u v r : Value) (w' : World) (hs : a.eval s = u) (hx : a.eval x = v)
    (hrun : (Builtin.append_ #[t, t] o.type #[u, v]).run P w = .ok r w') : (execOp a.eval o).run P w = .ok (.value r) w' := by
  simp [execOp, hop, resolve, invoke, builtin, hs, hx, hrun, Result.andThen]

set_option maxHeartbeats 2000000 in
theorem step_put (K : Nat → Prop) (b : Nat) (room at_ N : Int) (x : Ms) (xv tv : Value) (t : List UInt8) (w : World) (hw : PipK K w b room (ord x)) (hx : RowK K w xv 2 (rcells x)) (ht : Bytes w tv t) (hp : Plain tv) (h1 : ¬ at_ < 0) (h2 : ¬ 2199023255552 < at_) (h3 : t.length ≤ 320) (hf : (x.length : Int) < room) :
    Calls Try.prog 10 #[.pointer (some ⟨b, 0, none⟩), xv, .int .i64 room, .agg #[.int .i64 1, .int .i64 at_, .int .i64 N, tv]] w fun e w' =>
      StepPost K w b room e w' := by
  obtain ⟨ao, cm, em, m1, m2, _⟩ := hx.view
  subst em
  unfold maxLen at m2
  obtain ⟨W, eW⟩ : ∃ W, W = w.alloc (.cells #[.int .i64 1, .int .i64 at_, .int .i64 N, tv] 32) := ⟨_, rfl⟩
  have XW : Ext w W := by rw [eW]; exact (Ext.refl w).alloc _
  have bw : W.heap[w.heap.size]? = some (.cells #[.int .i64 1, .int .i64 at_, .int .i64 N, tv] 32 (0, 0)) := by rw [eW]; exact heap_alloc_new w _
  have d1 : W.cell? ⟨w.heap.size, 1, none⟩ = some (.int .i64 at_) := by rw [cell_of_row _ _ 1 _ _ _ bw]; rfl
  have d3 : W.cell? ⟨w.heap.size, 3, none⟩ = some tv := by rw [cell_of_row _ _ 3 _ _ _ bw]; rfl
  have lx : x.length ≤ 256 := by
    have h1 := hw.1
    rw [ord_length] at h1
    omega
  have HT := hid (ht.ext XW)
  have HP := hid hp
  obtain ⟨ta, tc, et, t1, t2, _⟩ := ht
  have ET := hid et
  unfold maxLen at t2
  have HX := hid (hx.kept (Kept.of_ext XW))
  have LX : Hid (x.length ≤ 1000) := by show _ ≤ _; omega
  have FIN : Hid (∀ V v, Ext W V → OwnR V v (x ++ [(at_, t)]) → (∀ k, v.ownBlock = some k → W.heap.size ≤ k) → Calls Try.prog 15 #[.pointer (some ⟨b, 0, none⟩), .int .i64 at_, tv] V fun e w' => e = .returned (.int .i64 0) ∧ (∀ i, K i → (K i ∨ (w.heap.size ≤ i ∧ i < V.heap.size))) ∧ PipK (fun i => K i ∨ (w.heap.size ≤ i ∧ i < V.heap.size)) w' b room (ord (x ++ [(at_, t)])) ∧ RowK (fun i => K i ∨ (w.heap.size ≤ i ∧ i < V.heap.size)) w' v 2 (rcells (x ++ [(at_, t)])) ∧ Kept K w w') := by
    intro V v hV ho hk
    have hr : RowK (fun i => K i ∨ (w.heap.size ≤ i ∧ i < V.heap.size)) V v 2 (rcells (x ++ [(at_, t)])) := ho.row.mono (by decide) (fun i hi h => .inr ⟨Nat.le_trans XW.size (hk i h), hi⟩)
    refine (put_any (fun i => K i ∨ (w.heap.size ≤ i ∧ i < V.heap.size)) b room at_ (ord x) tv t V (hw.more (XW.trans hV)) (HT.out.ext hV) HP.out h1 h2 h3 (by rw [ord_length]; exact hf)).mono ?_
    rintro e w' ⟨rfl, a1, a2⟩
    rw [← ord_snoc] at a1
    exact ⟨rfl, fun i h => .inl h, a1, hr.kept a2, (Kept.of_ext (XW.trans hV)).trans (a2.mono (fun i h => .inl h))⟩
  have EW := hid eW
  have hf' : ¬ room ≤ (x.length : Int) := by omega
  have h4 : ¬ (320 : Int) < (t.length : Int) := by omega
  have e1 := d1
  have e3 := d3
  rw [eW] at e1 e3
  clear hw hx XW bw hf eW h3 ET hp
  subst et
  generalize t.length = n at *
  obtain ⟨m, em⟩ : ∃ m, m = x.length := ⟨_, rfl⟩
  rw [← em] at m1 hf' lx HX
  rw [← em]
  clear em
  go_enter Try.func10, Try.ntmps10
  go_wp2_with fail
  rw [← EW.out]
  clear e1 e3
  refine wp_region_held_drew (S := fun V => Ext W V) (by kernel_rfl) (Below.drew (Ext.refl W)) (fun hHeld => ?_)
  refine takeE (v := ?_) 1 16 rfl rfl (by kernel_rfl) (by kernel_rfl) (by kernel_rfl) (fun _ _ _ h => h) (Or.inl ⟨by rfl, fun V hV => ?_⟩) hHeld ?_
  rotate_left
  · (go_simp; try with_reducible rfl)
  simp only [Act.put, List.setIfInBounds_toArray, List.set_cons_zero, List.set_cons_succ]
  refine takeE (v := ?_) 3 18 rfl rfl (by kernel_rfl) (by kernel_rfl) (by kernel_rfl) (fun _ _ _ h => h) (Or.inl ⟨by rfl, fun V hV => ?_⟩) hHeld ?_
  rotate_left
  · (go_simp; try with_reducible rfl)
  simp only [Act.put, List.setIfInBounds_toArray, List.set_cons_zero, List.set_cons_succ]
  refine takeE (v := ?_) 4 19 rfl rfl (by kernel_rfl) (by kernel_rfl) (by kernel_rfl) (fun _ _ _ h => h) (Or.inl ⟨by rfl, fun V hV => ?_⟩) hHeld ?_
  rotate_left
  · (have y1 := hV.cell d1; go_simp; try with_reducible rfl)
  simp only [Act.put, List.setIfInBounds_toArray, List.set_cons_zero, List.set_cons_succ]
  refine takeE (v := ?_) 5 20 rfl rfl (by kernel_rfl) (by kernel_rfl) (by kernel_rfl) (fun _ _ _ h => h) (Or.inl ⟨by rfl, fun V hV => ?_⟩) hHeld ?_
  rotate_left
  · (go_simp; try with_reducible rfl)
  simp only [Act.put, List.setIfInBounds_toArray, List.set_cons_zero, List.set_cons_succ]
  refine takeE (v := ?_) 6 21 rfl rfl (by kernel_rfl) (by kernel_rfl) (by kernel_rfl) (fun _ _ _ h => h) (Or.inl ⟨by rfl, fun V hV => ?_⟩) hHeld ?_
  rotate_left
  · (have y1 := hV.cell d3; go_simp; try with_reducible rfl)
  simp only [Act.put, List.setIfInBounds_toArray, List.set_cons_zero, List.set_cons_succ]
  refine takeE (v := ?_) 7 22 rfl rfl (by kernel_rfl) (by kernel_rfl) (by kernel_rfl) (fun _ _ _ h => h) (Or.inl ⟨by rfl, fun V hV => ?_⟩) hHeld ?_
  rotate_left
  · (have y1 := Bytes.str (HT.out.ext hV); go_simp; try with_reducible rfl)
  simp only [Act.put, List.setIfInBounds_toArray, List.set_cons_zero, List.set_cons_succ]
  refine takeE (v := ?_) 8 23 rfl rfl (by kernel_rfl) (by kernel_rfl) (by kernel_rfl) (fun _ _ _ h => h) (Or.inl ⟨by rfl, fun V hV => ?_⟩) hHeld ?_
  rotate_left
  · (go_simp; try with_reducible rfl)
  simp only [Act.put, List.setIfInBounds_toArray, List.set_cons_zero, List.set_cons_succ]
  have XD : Ext W W.drew := (Ext.refl W).drewN 1
  refine eitherE 0 15 9 24 rfl rfl rfl rfl (by kernel_rfl) (by rfl) (by rfl) (v := .slice (some ⟨W.heap.size, 0, none⟩) 0 0) (u := .slice (some ⟨W.heap.size, 0, none⟩) 1 1) (wi := W.drew.alloc (.cells #[] 52)) (wj := W.drew.alloc (.cells #[.int .i64 at_, .string (str t)] 52)) (by go_simp; try with_reducible rfl) (by go_simp; try with_reducible rfl) (XD.alloc _) (XD.alloc _) ?zeroA ?nineB
  case' zeroA =>
    obtain ⟨V1, e1⟩ : ∃ V1, V1 = W.drew.alloc (.cells #[] 52) := ⟨_, rfl⟩
    have x1 : Ext W V1 := by rw [e1]; exact XD.alloc _
    have n1 : V1.heap[W.heap.size]? = some (.cells #[] 52 (0, 0)) := by rw [e1]; exact heap_alloc_new W.drew _
    rw [← e1]
    obtain ⟨v2, V2, r2, o2, k2, x2, f2⟩ := append_list W V1 W.heap.size _ x (HX.out.kept (Kept.of_ext x1)) n1 LX.out (Nat.le_refl _) x1
    obtain ⟨va, vn, vc, ev⟩ := owns_slice o2
    subst ev
    have y1 : Ext W (V1.alloc (.cells #[.int .i64 at_, .string (str t)] 52)) := x1.alloc _
    simp only [Act.put, List.setIfInBounds_toArray, List.set_cons_zero, List.set_cons_succ]
    refine eitherE 2 17 9 24 rfl rfl rfl rfl (by kernel_rfl) (by rfl) (by rfl) (v := .slice va vn vc) (u := .slice (some ⟨V1.heap.size, 0, none⟩) 1 1) (wi := V2) (wj := V1.alloc (.cells #[.int .i64 at_, .string (str t)] 52)) (exec_append (.tmp 15) (.tmp 16) 29 rfl _ _ _ _ rfl rfl r2) (by go_simp; try with_reducible rfl) x2 y1 ?twoA ?nineA
  case' twoA =>
    simp only [Act.put, List.setIfInBounds_toArray, List.set_cons_zero, List.set_cons_succ]
    refine knownE 9 24 rfl rfl (by kernel_rfl) (by rfl) (w' := V2.alloc (.cells #[.int .i64 at_, .string (str t)] 52)) (v := .slice (some ⟨V2.heap.size, 0, none⟩) 1 1) (by go_simp; try with_reducible rfl) (x2.alloc _) ?_
    simp only [Act.put, List.setIfInBounds_toArray, List.set_cons_zero, List.set_cons_succ]
    have o3 := OwnR.ext o2 ((Ext.refl V2).alloc (.cells #[.int .i64 at_, .string (str t)] 52))
    obtain ⟨v4, V4, r4, o4, k4, x4⟩ := append_more W (V2.alloc (.cells #[.int .i64 at_, .string (str t)] 52)) _ x V2.heap.size at_ t o3 k2 (heap_alloc_new V2 _) LX.out (x2.alloc _)
  case' nineA =>
    clear r2 o2 k2 x2 f2
    have n2 : (V1.alloc (.cells #[.int .i64 at_, .string (str t)] 52)).heap[W.heap.size]? = some (.cells #[] 52 (0, 0)) := ((Ext.refl V1).alloc (.cells #[.int .i64 at_, .string (str t)] 52)).row n1
    obtain ⟨v2, V2, r2, o2, k2, x2, f2⟩ := append_list W (V1.alloc (.cells #[.int .i64 at_, .string (str t)] 52)) W.heap.size _ x (HX.out.kept (Kept.of_ext y1)) n2 LX.out (Nat.le_refl _) y1
    obtain ⟨va, vn, vc, ev⟩ := owns_slice o2
    subst ev
    simp only [Act.put, List.setIfInBounds_toArray, List.set_cons_zero, List.set_cons_succ]
    refine knownE 2 17 rfl rfl (by kernel_rfl) (by rfl) (w' := V2) (v := .slice va vn vc) (exec_append (.tmp 15) (.tmp 16) 29 rfl _ _ _ _ rfl rfl r2) x2 ?_
    simp only [Act.put, List.setIfInBounds_toArray, List.set_cons_zero, List.set_cons_succ]
    have hf : V2.heap[V1.heap.size]? = some (.cells #[.int .i64 at_, .string (str t)] 52) := by
      rw [f2 V1.heap.size (by simp) (by have := lt_of_row n1; omega)]; exact heap_alloc_new V1 _
    obtain ⟨v4, V4, r4, o4, k4, x4⟩ := append_more W V2 _ x V1.heap.size at_ t o2 k2 hf LX.out x2
  case' nineB =>
    obtain ⟨V1, e1⟩ : ∃ V1, V1 = W.drew.alloc (.cells #[.int .i64 at_, .string (str t)] 52) := ⟨_, rfl⟩
    have x1 : Ext W V1 := by rw [e1]; exact XD.alloc _
    have m1' : V1.heap[W.heap.size]? = some (.cells #[.int .i64 at_, .string (str t)] 52) := by rw [e1]; exact heap_alloc_new W.drew _
    rw [← e1]
    simp only [Act.put, List.setIfInBounds_toArray, List.set_cons_zero, List.set_cons_succ]
    refine knownE 0 15 rfl rfl (by kernel_rfl) (by rfl) (w' := V1.alloc (.cells #[] 52)) (v := .slice (some ⟨V1.heap.size, 0, none⟩) 0 0) (by go_simp; try with_reducible rfl) (x1.alloc _) ?_
    simp only [Act.put, List.setIfInBounds_toArray, List.set_cons_zero, List.set_cons_succ]
    have y1 : Ext W (V1.alloc (.cells #[] 52)) := x1.alloc _
    have n2 : (V1.alloc (.cells #[] 52)).heap[V1.heap.size]? = some (.cells #[] 52 (0, 0)) := heap_alloc_new V1 _
    obtain ⟨v2, V2, r2, o2, k2, x2, f2⟩ := append_list W (V1.alloc (.cells #[] 52)) V1.heap.size _ x (HX.out.kept (Kept.of_ext y1)) n2 LX.out x1.size y1
    obtain ⟨va, vn, vc, ev⟩ := owns_slice o2
    subst ev
    refine knownE 2 17 rfl rfl (by kernel_rfl) (by rfl) (w' := V2) (v := .slice va vn vc) (exec_append (.tmp 15) (.tmp 16) 29 rfl _ _ _ _ rfl rfl r2) x2 ?_
    simp only [Act.put, List.setIfInBounds_toArray, List.set_cons_zero, List.set_cons_succ]
    have hf : V2.heap[W.heap.size]? = some (.cells #[.int .i64 at_, .string (str t)] 52) := by
      rw [f2 W.heap.size (by have := lt_of_row m1'; simp; omega) (by have := lt_of_row m1'; omega)]; exact ((Ext.refl V1).alloc (.cells #[] 52)).row m1'
    obtain ⟨v4, V4, r4, o4, k4, x4⟩ := append_more W V2 _ x W.heap.size at_ t o2 k2 hf LX.out x2
  all_goals obtain ⟨pa, pn, pc, ep⟩ := owns_slice o4
  all_goals subst ep
  all_goals refine knownE 10 25 rfl rfl (by kernel_rfl) (by rfl) (w' := V4) (v := .slice pa pn pc) (exec_append (.tmp 17) (.tmp 24) 29 rfl _ _ _ _ rfl rfl r4) x4 ?_
  all_goals simp only [Act.put, List.setIfInBounds_toArray, List.set_cons_zero, List.set_cons_succ]
  all_goals refine takeE (v := ?_) 11 1 rfl rfl (by kernel_rfl) (by kernel_rfl) (by kernel_rfl) (fun _ _ _ h => h) (Or.inl ⟨by rfl, fun V hV => (by (go_simp; try with_reducible rfl))⟩) x4 ?_
  all_goals simp only [Act.put, List.setIfInBounds_toArray, List.set_cons_zero, List.set_cons_succ]
  all_goals refine wpAnyH_done (by kernel_rfl) ?_ _
  all_goals have F := FIN.out V4 _ x4 o4 k4
  all_goals have PA := hid F
  all_goals replace d1 := x4.cell d1
  all_goals replace d3 := x4.cell d3
  all_goals clear r4 o4 k4 x4 F FIN HX HT hHeld XD
  all_goals go_wp2_with fail
  all_goals refine PA.out.mono ?_
  all_goals rintro e w1 ⟨rfl, R⟩
  all_goals have RR := hid R
  all_goals clear PA R d1 d3
  all_goals go_wp2_with fail
  all_goals go_ret2
  all_goals exact ⟨_, _, _, rfl, RR.out⟩
end Go.Proofs.Ytlpdffjbdekjeaa

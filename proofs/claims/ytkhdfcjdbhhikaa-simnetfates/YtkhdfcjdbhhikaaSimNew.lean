/-
  The walks of New, and of slices.Clone at fates.
-/
import Derived.Test.YtkhdfcjdbhhikaaSimMake
import Derived.Test.YtkhdfcjdbhhikaaEitherCore
namespace Go.Proofs.Ytkhdfcjdbhhikaa.Sim
set_option linter.unusedVariables false
set_option maxRecDepth 100000
open Go.RowKit Go.Lib Go.Proofs.Ytkhdfcjdbhhikaa.Crc Go.Proofs.Ytkhdfcjdbhhikaa.Grp
open Go.Proofs.Ytkhdfcjdbhhikaa.Pip hiding NewR

set_option maxHeartbeats 1000000 in
theorem cloneF_any (K : Nat → Prop) (w : World) (v : Value) (l : List (Int × Int)) (hs : RowK K w v 2 (fcells pr l)) (hl : l.length ≤ 1000) :
    Calls Try.prog 24 #[v] w fun e w' => ∃ v', e = .returned v' ∧ NewR pr 63 2 w w' v' l := by
  obtain ⟨ao, cp, ev, k1, k2, vw⟩ := fates_view hs
  rcases ao with _ | a
  · have h0 : l = [] := by
      cases l with
      | nil => rfl
      | cons f r =>
        obtain ⟨g, o, e, _⟩ := vw f r rfl
        simp at e
    subst h0
    subst ev
    have N := hid (NewR.nil pr 63 2 w)
    have hn := Lib.run_eql_slice_nil_nil (P := Try.prog) w 0 cp Try.underlying24
    unfold maxLen at k2
    clear hs vw
    go_enter Try.func24, Try.ntmps24
    go_wp2_with fail
    go_ret
    exact ⟨_, rfl, N.out⟩
  · subst ev
    obtain ⟨w1, e1⟩ : ∃ w1, w1 = w.alloc (.cells #[] 63) := ⟨_, rfl⟩
    have X1 : Ext w w1 := by rw [e1]; exact (Ext.refl w).alloc _
    have N0 : NewR pr 63 2 w w1 (.slice (some ⟨w.heap.size, 0, none⟩) 0 0) [] := ⟨by rw [e1]; exact Own.made _ _ _ w, fun k hk => by simp only [Value.ownBlock, Option.some.injEq] at hk; omega, X1⟩
    obtain ⟨v', w', r, N, _⟩ := N0.put elemsFt encP 24 (.slice (some a) l.length cp) l (hs.kept (Kept.of_ext X1)) (by simp; omega)
    rw [List.nil_append] at N
    have T := hid N
    obtain ⟨a', c', e', _⟩ := N.slice
    have R := hid r
    have E1 := hid e1
    unfold maxLen at k2
    obtain ⟨Y, eY⟩ : ∃ Y, Y = l.length := ⟨_, rfl⟩
    rw [← eY] at e' R k1 hl
    rw [← eY]
    subst e'
    clear hs N X1 N0 r e1 eY vw
    have hn := Lib.run_eql_slice_some_nil (P := Try.prog) w a Y cp Try.underlying24
    go_enter Try.func24, Try.ntmps24
    go_wp2_with (at_builtin; rw [← E1.out]; refine wpList_append_run _ rfl (.tmp 5) (.tmp 6) 24 24 rfl _ _ rfl rfl _ _ R.out ?_)
    go_ret
    exact ⟨_, rfl, T.out⟩

/-- a row of such numbers -/
theorem ccs_cells (c : Cfg) (w W : World) (X : Ext (w.alloc (.cells (ccs c) 23)) W) : W.cell? ⟨w.heap.size, 0, none⟩ = some (.int .i64 c.1) ∧ W.cell? ⟨w.heap.size, 1, none⟩ = some (.int .i64 c.2.1) ∧ W.cell? ⟨w.heap.size, 2, none⟩ = some (.int .i64 c.2.2.1) ∧ W.cell? ⟨w.heap.size, 3, none⟩ = some (.int .i64 c.2.2.2.1) ∧ W.cell? ⟨w.heap.size, 4, none⟩ = some (.int .i64 c.2.2.2.2) := by
  have r := X.row (heap_alloc_new w (.cells (ccs c) 23))
  refine ⟨?_, ?_, ?_, ?_, ?_⟩ <;> (rw [cell_of_row _ _ _ _ _ _ r]; rfl)

set_option maxHeartbeats 1000000 in
theorem new_bad (c : Cfg) (fv : Value) (w : World) (h : ¬ okCfg c) :
    Calls Try.prog 10 #[.agg (ccs c), fv] w fun e w' => e = .returned (.tuple #[.pointer none, .int .i64 11]) ∧ Ext w w' := by
  obtain ⟨W0, e0⟩ : ∃ W0, W0 = w.alloc (.cells (ccs c) 23) := ⟨_, rfl⟩
  have X0 : Ext w W0 := by rw [e0]; exact (Ext.refl w).alloc _
  have C0 := ccs_cells c w W0 (by rw [e0]; exact Ext.refl _)
  have CC : Hid (∀ W, Ext W0 W → _) := fun W hW => ccs_cells c w W (by rw [← e0]; exact hW)
  obtain ⟨c1, c2, c3, c4, c5⟩ := c
  unfold okCfg at h
  simp only at h C0 CC
  obtain ⟨y0, y1, y2, y3, y4⟩ := C0
  by_cases hg : c1 < 1 ∨ 64 < c1 ∨ c4 < 0 ∨ 64 < c4 ∨ c5 < 0 ∨ 64 < c5
  · have G := hid (Grp.new_bad c1 c4 c5 W0 hg)
    unfold ccs at e0
    simp only at e0
    rw [e0] at y0 y1 y2 y3 y4
    have E0 := hid e0
    have XX := hid X0
    clear h hg e0 X0 CC
    unfold ccs
    go_enter Try.func10, Try.ntmps10
    go_wp2_with fail
    rw [← E0.out]
    refine G.out.mono ?_
    rintro e w1 ⟨rfl, rfl⟩
    go_wp2_with fail
    go_ret2
    exact ⟨rfl, XX.out⟩
  · obtain ⟨n, rfl⟩ : ∃ n : Nat, c1 = (n : Int) := ⟨c1.toNat, by omega⟩
    have G := hid (Grp.new_any n c4 c5 W0 (by omega) (by omega) (by omega) (by omega) (by omega) (by omega))
    unfold ccs at e0
    simp only at e0
    by_cases hr : c3 < 1 ∨ 256 < c3
    · have P : Hid (∀ W, Calls Try.prog 23 #[.int .i64 c3] W fun e w' => e = .returned (.tuple #[.pointer none, .int .i64 11]) ∧ w' = W) := fun W => Pip.new_bad c3 W hr
      rw [e0] at y0 y1 y2 y3 y4
      have E0 := hid e0
      have XX := hid X0
      clear h hg e0 X0 hr
      unfold ccs
      go_enter Try.func10, Try.ntmps10
      go_wp2_with fail
      rw [← E0.out]
      refine G.out.mono ?_
      rintro e w1 ⟨gb, gg, gc, rfl, g, g1, g2, x1⟩
      obtain ⟨z0, z1, z2, z3, z4⟩ := CC.out w1 x1
      have P1 := hid (P.out w1)
      have X1 := hid (XX.out.trans x1)
      clear g g1 g2 x1 G y0 y1 y2 y3 y4 P
      go_wp2_with fail
      refine P1.out.mono ?_
      rintro e w2 ⟨rfl, rfl⟩
      go_wp2_with fail
      go_ret2
      exact ⟨rfl, X1.out⟩
    · have P : Hid (∀ W, Calls Try.prog 23 #[.int .i64 c3] W fun e w' => e = .returned (.tuple #[.pointer (some ⟨W.heap.size, 0, none⟩), .int .i64 0]) ∧ w' = W.alloc (.cells #[.int .i64 c3, .slice none 0 0] 98 (0, 0))) := fun W => Pip.new_any c3 W (by omega) (by omega)
      have hd : c2 < 0 ∨ 64 < c2 := by omega
      rw [e0] at y0 y1 y2 y3 y4
      have E0 := hid e0
      have XX := hid X0
      clear h hg e0 X0 hr
      unfold ccs
      rcases hd with hd | hd
      · go_enter Try.func10, Try.ntmps10
        go_wp2_with fail
        rw [← E0.out]
        refine G.out.mono ?_
        rintro e w1 ⟨gb, gg, gc, rfl, g, g1, g2, x1⟩
        obtain ⟨z0, z1, z2, z3, z4⟩ := CC.out w1 x1
        have P1 := hid (P.out w1)
        have X1 := hid (XX.out.trans x1)
        have xx1 := hid x1
        clear g g1 g2 x1 G y0 y1 y2 y3 y4 P
        go_wp2_with fail
        refine P1.out.mono ?_
        rintro e w2 ⟨rfl, e2⟩
        have X2 : Ext w1 w2 := by rw [e2]; exact (Ext.refl w1).alloc _
        obtain ⟨v0, v1, v2, v3, v4⟩ := CC.out w2 (xx1.out.trans X2)
        have X3 := hid (X1.out.trans X2)
        clear e2 X2 z0 z1 z2 z3 z4
        go_wp2_with fail
        go_ret2
        exact ⟨rfl, X3.out⟩
      · have hd2 : ¬ c2 < 0 := by omega
        go_enter Try.func10, Try.ntmps10
        go_wp2_with fail
        rw [← E0.out]
        refine G.out.mono ?_
        rintro e w1 ⟨gb, gg, gc, rfl, g, g1, g2, x1⟩
        obtain ⟨z0, z1, z2, z3, z4⟩ := CC.out w1 x1
        have P1 := hid (P.out w1)
        have X1 := hid (XX.out.trans x1)
        have xx1 := hid x1
        clear g g1 g2 x1 G y0 y1 y2 y3 y4 P
        go_wp2_with fail
        refine P1.out.mono ?_
        rintro e w2 ⟨rfl, e2⟩
        have X2 : Ext w1 w2 := by rw [e2]; exact (Ext.refl w1).alloc _
        obtain ⟨v0, v1, v2, v3, v4⟩ := CC.out w2 (xx1.out.trans X2)
        have X3 := hid (X1.out.trans X2)
        clear e2 X2 z0 z1 z2 z3 z4
        go_wp2_with fail
        go_ret2
        exact ⟨rfl, X3.out⟩

/-- nothing on its way, no fate used, nothing counted -/
def st0 (n : Nat) : St := (List.replicate (n + 1) [], 0, (0, 0, 0, 0, 0, 0))
theorem st0_at (n i : Nat) : (st0 n).1.getD i [] = [] := by
  unfold st0
  rw [List.getD_eq_getElem?_getD, List.getElem?_replicate]
  split <;> rfl

set_option maxHeartbeats 4000000 in
theorem new_net (c : Cfg) (n : Nat) (hn : c.1 = (n : Int)) (hc : okCfg c) (K : Nat → Prop) (fv : Value) (fs : List (Int × Int)) (w : World) (hF : RowK K w fv 2 (fcells pr fs)) (hl : fs.length ≤ 1000) :
    Calls Try.prog 10 #[.agg (ccs c), fv] w fun e w' => ∃ b bs, e = .returned (.tuple #[.pointer (some ⟨b, 0, none⟩), .int .i64 0]) ∧ NetK (fun q => q < w.heap.size) w' b bs c [] fs (st0 n) ∧ Ext w w' := by
  obtain ⟨W0, e0⟩ : ∃ W0, W0 = w.alloc (.cells (ccs c) 23) := ⟨_, rfl⟩
  have X0 : Ext w W0 := by rw [e0]; exact (Ext.refl w).alloc _
  have C0 := ccs_cells c w W0 (by rw [e0]; exact Ext.refl _)
  have CC : Hid (∀ W, Ext W0 W → _) := fun W hW => ccs_cells c w W (by rw [← e0]; exact hW)
  obtain ⟨c1, c2, c3, c4, c5⟩ := c
  simp only at hn
  subst hn
  unfold okCfg at hc
  simp only at hc C0 CC
  obtain ⟨o1, o2, o3, o4, o5, o6, o7, o8, o9, o10⟩ := hc
  obtain ⟨y0, y1, y2, y3, y4⟩ := C0
  have G := hid (Grp.new_any n c4 c5 W0 (by omega) (by omega) (by omega) (by omega) (by omega) (by omega))
  have P : Hid (∀ W, Calls Try.prog 23 #[.int .i64 c3] W fun e w' => e = .returned (.tuple #[.pointer (some ⟨W.heap.size, 0, none⟩), .int .i64 0]) ∧ w' = W.alloc (.cells #[.int .i64 c3, .slice none 0 0] 98 (0, 0))) := fun W => Pip.new_any c3 W (by omega) (by omega)
  have NP : Hid (∀ W : World, PipK (fun i => i < W.heap.size) (W.alloc (.cells #[.int .i64 c3, .slice none 0 0] 98 (0, 0))) W.heap.size c3 []) := fun W => new_pipe c3 W (by omega) (by omega)
  have CL : Hid (∀ W, Ext w W → Calls Try.prog 24 #[fv] W fun e w' => ∃ v', e = .returned v' ∧ NewR pr 63 2 W w' v' fs) := fun W hW => cloneF_any K W fv fs (hF.kept (Kept.of_ext hW)) hl
  unfold ccs at e0
  simp only at e0
  rw [e0] at y0 y1 y2 y3 y4
  have E0 := hid e0
  have XX := hid X0
  clear e0 X0 hF
  unfold ccs
  go_enter Try.func10, Try.ntmps10
  go_wp2_with fail
  rw [← E0.out]
  refine G.out.mono ?_
  rintro e w1 ⟨gb, gg, gc, rfl, g, g1, g2, x1⟩
  obtain ⟨z0, z1, z2, z3, z4⟩ := CC.out w1 x1
  have P1 := hid (P.out w1)
  have G1 := hid g
  have G2 : Hid (w.heap.size ≤ gb ∧ w.heap.size ≤ gg) := ⟨Nat.le_trans XX.out.size g1, Nat.le_trans XX.out.size g2⟩
  have X1 := hid (XX.out.trans x1)
  have xx1 := hid x1
  clear g g1 g2 x1 G y0 y1 y2 y3 y4 P
  go_wp2_with fail
  refine P1.out.mono ?_
  rintro e w2 ⟨rfl, e2⟩
  have X2 : Ext w1 w2 := by rw [e2]; exact (Ext.refl w1).alloc _
  have x2 := xx1.out.trans X2
  have CC2 : Hid (∀ W, Ext w2 W → _) := fun W hW => CC.out W (x2.trans hW)
  obtain ⟨v0, v1, v2, v3, v4⟩ := CC.out w2 x2
  have X3 := hid (X1.out.trans X2)
  have PU : Hid (PipK (fun q => q < w.heap.size) w2 w1.heap.size c3 []) := by
    have q := NP.out w1
    rw [← e2] at q
    exact q.less (fun q hq => Nat.lt_of_lt_of_le hq X1.out.size)
  have GU := hid (G1.out.ext X2)
  have CL2 := hid (CL.out w2.drew (X3.out.trans ((Ext.refl w2).drewN 1)))
  obtain ⟨ub, eub⟩ : ∃ ub, ub = w1.heap.size := ⟨_, rfl⟩
  rw [← eub] at PU
  rw [← eub]
  clear e2 X2 x2 z0 z1 z2 z3 z4 eub CC NP G1 P1 CL
  go_wp2_with fail
  refine wp_region_held_drew (S := fun V => Ext w2 V) (by kernel_rfl) (Below.drew (Ext.refl w2)) (fun hHeld => ?_)
  refine takeE (v := ?_) 0 40 rfl rfl (by kernel_rfl) (by kernel_rfl) (by kernel_rfl) (fun _ _ _ h => h) (Or.inl ⟨by rfl, fun V hV => ?_⟩) hHeld ?_
  rotate_left
  · (go_simp; try with_reducible rfl)
  simp only [Act.put, List.setIfInBounds_toArray, List.set_cons_zero, List.set_cons_succ]
  refine takeE (v := ?_) 1 41 rfl rfl (by kernel_rfl) (by kernel_rfl) (by kernel_rfl) (fun _ _ _ h => h) (Or.inl ⟨by rfl, fun V hV => ?_⟩) hHeld ?_
  rotate_left
  · (go_simp; try with_reducible rfl)
  simp only [Act.put, List.setIfInBounds_toArray, List.set_cons_zero, List.set_cons_succ]
  refine takeE (v := ?_) 2 42 rfl rfl (by kernel_rfl) (by kernel_rfl) (by kernel_rfl) (fun _ _ _ h => h) (Or.inl ⟨by rfl, fun V hV => ?_⟩) hHeld ?_
  rotate_left
  · (have y1 := hV.cell v1; go_simp; try with_reducible rfl)
  simp only [Act.put, List.setIfInBounds_toArray, List.set_cons_zero, List.set_cons_succ]
  refine takeE (v := ?_) 3 43 rfl rfl (by kernel_rfl) (by kernel_rfl) (by kernel_rfl) (fun _ _ _ h => h) (Or.inl ⟨by rfl, fun V hV => ?_⟩) hHeld ?_
  rotate_left
  · (go_simp; try with_reducible rfl)
  simp only [Act.put, List.setIfInBounds_toArray, List.set_cons_zero, List.set_cons_succ]
  refine takeE (v := ?_) 4 44 rfl rfl (by kernel_rfl) (by kernel_rfl) (by kernel_rfl) (fun _ _ _ h => h) (Or.inl ⟨by rfl, fun V hV => ?_⟩) hHeld ?_
  rotate_left
  · (go_simp; try with_reducible rfl)
  simp only [Act.put, List.setIfInBounds_toArray, List.set_cons_zero, List.set_cons_succ]
  refine callE 5 45 rfl rfl (by kernel_rfl) (by rfl) (by go_simp; first | exact ⟨rfl, rfl⟩ | rfl) ?_
  refine CL2.out.mono ?_
  rintro e w3 ⟨v, rfl, nr⟩
  have X23 : Ext w2 w3 := (show Ext w2 w2.drew from (Ext.refl w2).drewN 1).trans nr.2.2
  have NR : Hid (NewR pr 63 2 w w3 v (fs.drop 0)) := ⟨nr.1, fun k hk => Nat.le_trans X3.out.size (nr.2.1 k hk), X3.out.trans X23⟩
  have HS := hid (HalfN.start (c := ((n : Int), c2, c3, c4, c5)) (n := n) (x := st0 n) (fs := fs) (l := []) ⟨rfl, by simp [st0], by simp only; omega, by simp only; omega⟩ (GU.out.ext X23) G2.out (by rw [st0_at]; exact PU.out.ext X23) NR.out)
  obtain ⟨ao, c, ev, _⟩ := nr.slice
  have CCW := hid (CC2.out _ (X23.alloc (.cells (nrow gb c2 (.slice none 0 0) ub v 0 (0, 0, 0, 0, 0, 0)) 59)))
  have X23' := hid X23
  subst ev
  clear nr CL2
  refine ⟨_, rfl, X23, ?_⟩
  simp only [Act.put, List.setIfInBounds_toArray, List.set_cons_zero, List.set_cons_succ]
  refine takeE (v := ?_) 6 46 rfl rfl (by kernel_rfl) (by kernel_rfl) (by kernel_rfl) (fun _ _ _ h => h) (Or.inl ⟨by rfl, fun V hV => ?_⟩) X23 ?_
  rotate_left
  · (go_simp; try with_reducible rfl)
  simp only [Act.put, List.setIfInBounds_toArray, List.set_cons_zero, List.set_cons_succ]
  refine knownE 7 47 rfl rfl (by kernel_rfl) (by rfl) (w' := w3.alloc (.cells (nrow gb c2 (.slice none 0 0) ub (.slice ao fs.length c) 0 (0, 0, 0, 0, 0, 0)) 59)) (v := .pointer (some ⟨w3.heap.size, 0, none⟩)) (by go_simp; rfl) (X23.alloc _) ?_
  simp only [Act.put, List.setIfInBounds_toArray, List.set_cons_zero, List.set_cons_succ]
  refine takeE (v := ?_) 8 9 rfl rfl (by kernel_rfl) (by kernel_rfl) (by kernel_rfl) (fun _ _ _ h => h) (Or.inl ⟨by rfl, fun V hV => ?_⟩) (X23.alloc _) ?_
  rotate_left
  · (go_simp; try with_reducible rfl)
  simp only [Act.put, List.setIfInBounds_toArray, List.set_cons_zero, List.set_cons_succ]
  refine wpAnyH_done (by kernel_rfl) ?_ _
  obtain ⟨W4, e4⟩ : ∃ W4, W4 = w3.alloc (.cells (nrow gb c2 (.slice none 0 0) ub (.slice ao fs.length c) 0 (0, 0, 0, 0, 0, 0)) 59) := ⟨_, rfl⟩
  obtain ⟨b, eb⟩ : ∃ b, b = w3.heap.size := ⟨_, rfl⟩
  have HH : Hid (HalfN w W4 b gb gg gc n ((n : Int), c2, c3, c4, c5) (.slice none 0 0) (.slice ao fs.length c) [] fs (st0 n) (fun _ => ub) 0) := by rw [e4, eb]; exact HS.out
  rw [← e4] at CCW
  rw [← e4, ← eb]
  obtain ⟨u0, u1, u2, u3, u4⟩ := CCW.out
  clear HS CCW e4 eb X23 NR PU GU
  go_wp2_with fail
  go_loopw [50] (fun iv wr => ∃ (k : Nat) (dv : Value) (p : Nat → Nat), k ≤ n ∧ iv = .int .i64 (k : Int) ∧ p 0 = ub ∧ Hid (HalfN w wr b gb gg gc n ((n : Int), c2, c3, c4, c5) dv (.slice ao fs.length c) [] fs (st0 n) p k)) (fun iv _ => (n - intOf iv).toNat)
  case atStart => exact ⟨0, _, _, by omega, rfl, rfl, HH⟩
  case round =>
    obtain ⟨k, dv, p, hk, rfl, hp, hr⟩ := hrel
    clear HH
    by_cases q : k < n
    · have i1 : (k : Int) < (n : Int) := by omega
      obtain ⟨Ki, pk, _, _⟩ := hr.out.2.2.2.2.2.2.one (i := 0) (by omega)
      have e1 : lsf (st0 n) n 0 = [] := by unfold lsf; rw [if_pos rfl, st0_at]; rfl
      rw [e1, hp] at pk
      have CP : Hid (Calls Try.prog 25 #[.pointer (some ⟨ub, 0, none⟩)] wr.drew fun e w' => ∃ pc, e = .returned (.pointer (some ⟨pc, 0, none⟩)) ∧ Ext wr w' ∧ PipK (fun i => i < wr.heap.size) w' pc c3 (ord ((st0 n).1.getD k []))) := by
        refine (Pip.copy_any Ki ub c3 [] wr.drew (pk.ext ((Ext.refl wr).drewN 1))).mono ?_
        rintro e w' ⟨pc, rfl, _, h2, h3⟩
        rw [st0_at]
        exact ⟨pc, rfl, (show Ext wr wr.drew from (Ext.refl wr).drewN 1).trans h3, h2⟩
      have ST : Hid (∀ W1 pc, Ext wr W1 → PipK (fun i => i < wr.heap.size) W1 pc c3 (ord ((st0 n).1.getD k [])) → _) := fun W1 pc h1 h2 => hr.out.step (W1 := W1) (pc := pc) q h1 h2
      have cb0 : wr.drew.cell? ⟨b, 2, none⟩ = some dv := by
        show wr.cell? ⟨b, 2, none⟩ = some dv
        rw [cell_of_row wr b 2 _ _ _ hr.out.2.1]; rfl
      obtain ⟨da, dc, ed, _⟩ := hr.out.2.2.2.1.slice
      rw [List.length_map, List.length_range] at ed
      subst ed
      clear hr pk e1
      go_wp2_with fail
      refine wp_region_held_drew (S := fun V => True) (by kernel_rfl) trivial (fun hHeld => ?_)
      refine takeE (v := ?_) 0 52 rfl rfl (by kernel_rfl) (by kernel_rfl) (by kernel_rfl) (fun _ _ _ h => h) (Or.inl ⟨by rfl, fun V hV => ?_⟩) hHeld ?_
      rotate_left
      · (go_simp; try with_reducible rfl)
      simp only [Act.put, List.setIfInBounds_toArray, List.set_cons_zero, List.set_cons_succ]
      refine takeE (v := ?_) 1 53 rfl rfl (by kernel_rfl) (by kernel_rfl) (by kernel_rfl) (fun _ _ _ h => h) (Or.inl ⟨by rfl, fun V hV => ?_⟩) hHeld ?_
      rotate_left
      · (go_simp; try with_reducible rfl)
      simp only [Act.put, List.setIfInBounds_toArray, List.set_cons_zero, List.set_cons_succ]
      refine takeE (v := ?_) 2 54 rfl rfl (by kernel_rfl) (by kernel_rfl) (by kernel_rfl) (fun _ _ _ h => h) (Or.inl ⟨by rfl, fun V hV => ?_⟩) hHeld ?_
      rotate_left
      · (go_simp; try with_reducible rfl)
      simp only [Act.put, List.setIfInBounds_toArray, List.set_cons_zero, List.set_cons_succ]
      refine takeE (v := ?_) 3 55 rfl rfl (by kernel_rfl) (by kernel_rfl) (by kernel_rfl) (fun _ _ _ h => h) (Or.inl ⟨by rfl, fun V hV => ?_⟩) hHeld ?_
      rotate_left
      · (go_simp; try with_reducible rfl)
      simp only [Act.put, List.setIfInBounds_toArray, List.set_cons_zero, List.set_cons_succ]
      refine takeE (v := ?_) 5 57 rfl rfl (by kernel_rfl) (by kernel_rfl) (by kernel_rfl) (fun _ _ _ h => h) (Or.inl ⟨by rfl, fun V hV => ?_⟩) hHeld ?_
      rotate_left
      · (go_simp; try with_reducible rfl)
      simp only [Act.put, List.setIfInBounds_toArray, List.set_cons_zero, List.set_cons_succ]
      refine loadCallE 4 56 6 58 rfl rfl rfl rfl (by kernel_rfl) (by rfl) (by rfl) (v := .slice da k dc) (by go_simp; try with_reducible rfl) (by go_simp; first | exact ⟨rfl, rfl⟩ | rfl) trivial ?_ ?_
      · simp only [Act.put, List.setIfInBounds_toArray, List.set_cons_zero, List.set_cons_succ]
        refine callE 6 58 rfl rfl (by kernel_rfl) (by rfl) (by go_simp; first | exact ⟨rfl, rfl⟩ | rfl) ?_
        refine CP.out.mono ?_
        rintro e W1 ⟨pc, rfl, x1, pk1⟩
        obtain ⟨v', w', r, ⟨ao', cp', e'⟩, d1, d2, d3, NX⟩ := ST.out W1 pc x1 pk1
        subst e'
        have RR := hid r
        have NN := hid NX
        clear r NX x1 pk1 CP ST
        refine ⟨_, rfl, trivial, ?_⟩
        simp only [Act.put, List.setIfInBounds_toArray, List.set_cons_zero, List.set_cons_succ]
        refine knownE 7 59 rfl rfl (by kernel_rfl) (by rfl) (v := .slice (some ⟨W1.heap.size, 0, none⟩) 1 1) (w' := W1.alloc (.cells #[.pointer (some ⟨pc, 0, none⟩)] 57)) (by go_simp; try with_reducible rfl) trivial ?_
        simp only [Act.put, List.setIfInBounds_toArray, List.set_cons_zero, List.set_cons_succ]
        refine knownE 8 60 rfl rfl (by kernel_rfl) (by rfl) (exec_append (.tmp 56) (.tmp 59) 56 rfl _ _ _ _ rfl rfl RR.out) trivial ?_
        simp only [Act.put, List.setIfInBounds_toArray, List.set_cons_zero, List.set_cons_succ]
        refine takeE (v := ?_) 9 61 rfl rfl (by kernel_rfl) (by kernel_rfl) (by kernel_rfl) (fun _ _ _ h => h) (Or.inl ⟨by rfl, fun V hV => ?_⟩) trivial ?_
        rotate_left
        · (go_simp; try with_reducible rfl)
        simp only [Act.put, List.setIfInBounds_toArray, List.set_cons_zero, List.set_cons_succ]
        refine takeE (v := ?_) 10 62 rfl rfl (by kernel_rfl) (by kernel_rfl) (by kernel_rfl) (fun _ _ _ h => h) (Or.inl ⟨by rfl, fun V hV => ?_⟩) trivial ?_
        rotate_left
        · (go_simp; try with_reducible rfl)
        simp only [Act.put, List.setIfInBounds_toArray, List.set_cons_zero, List.set_cons_succ]
        refine storeN 11 rfl rfl (by kernel_rfl) (by rfl) (w' := w'.setCell ⟨b, 2, none⟩ (.slice ao' (k + 1) cp')) (by go_simp; try with_reducible rfl) trivial ?_
        refine wpAnyH_done (by kernel_rfl) ?_ _
        go_wp2_with fail
        go_roundw
        case rel => exact ⟨k + 1, _, _, by omega, by go_num, by rw [← hp]; exact upd_other _ _ (by omega), NN⟩
        case measure => simp [intOf]; omega
      · skip
        refine CP.out.mono ?_
        rintro e W1 ⟨pc, rfl, x1, pk1⟩
        obtain ⟨v', w', r, ⟨ao', cp', e'⟩, d1, d2, d3, NX⟩ := ST.out W1 pc x1 pk1
        subst e'
        have RR := hid r
        have NN := hid NX
        clear r NX x1 pk1 CP ST
        refine ⟨_, rfl, trivial, ?_⟩
        simp only [Act.put, List.setIfInBounds_toArray, List.set_cons_zero, List.set_cons_succ]
        have d4 : (W1.alloc (.cells #[.pointer (some ⟨pc, 0, none⟩)] 57)).cell? ⟨b, 2, none⟩ = some (.slice da k dc) := ((Ext.refl W1).alloc _).cell d1
        refine bothE 4 56 7 59 rfl rfl rfl rfl (by kernel_rfl) (by kernel_rfl) (by kernel_rfl) (by rfl) (by rfl) (by rfl) (by rfl) (v := .slice da k dc) (u := .slice (some ⟨W1.heap.size, 0, none⟩) 1 1) (w' := W1.alloc (.cells #[.pointer (some ⟨pc, 0, none⟩)] 57)) (by go_simp; try with_reducible rfl) (by go_simp; try with_reducible rfl) (by go_simp; try with_reducible rfl) (by go_simp; try with_reducible rfl) trivial trivial ?_ ?_
        · simp only [Act.put, List.setIfInBounds_toArray, List.set_cons_zero, List.set_cons_succ]
          refine knownE 8 60 rfl rfl (by kernel_rfl) (by rfl) (exec_append (.tmp 56) (.tmp 59) 56 rfl _ _ _ _ rfl rfl RR.out) trivial ?_
          simp only [Act.put, List.setIfInBounds_toArray, List.set_cons_zero, List.set_cons_succ]
          refine takeE (v := ?_) 9 61 rfl rfl (by kernel_rfl) (by kernel_rfl) (by kernel_rfl) (fun _ _ _ h => h) (Or.inl ⟨by rfl, fun V hV => ?_⟩) trivial ?_
          rotate_left
          · (go_simp; try with_reducible rfl)
          simp only [Act.put, List.setIfInBounds_toArray, List.set_cons_zero, List.set_cons_succ]
          refine takeE (v := ?_) 10 62 rfl rfl (by kernel_rfl) (by kernel_rfl) (by kernel_rfl) (fun _ _ _ h => h) (Or.inl ⟨by rfl, fun V hV => ?_⟩) trivial ?_
          rotate_left
          · (go_simp; try with_reducible rfl)
          simp only [Act.put, List.setIfInBounds_toArray, List.set_cons_zero, List.set_cons_succ]
          refine storeN 11 rfl rfl (by kernel_rfl) (by rfl) (w' := w'.setCell ⟨b, 2, none⟩ (.slice ao' (k + 1) cp')) (by go_simp; try with_reducible rfl) trivial ?_
          refine wpAnyH_done (by kernel_rfl) ?_ _
          go_wp2_with fail
          go_roundw
          case rel => exact ⟨k + 1, _, _, by omega, by go_num, by rw [← hp]; exact upd_other _ _ (by omega), NN⟩
          case measure => simp [intOf]; omega
        · simp only [Act.put, List.setIfInBounds_toArray, List.set_cons_zero, List.set_cons_succ]
          refine knownE 8 60 rfl rfl (by kernel_rfl) (by rfl) (exec_append (.tmp 56) (.tmp 59) 56 rfl _ _ _ _ rfl rfl RR.out) trivial ?_
          simp only [Act.put, List.setIfInBounds_toArray, List.set_cons_zero, List.set_cons_succ]
          refine takeE (v := ?_) 9 61 rfl rfl (by kernel_rfl) (by kernel_rfl) (by kernel_rfl) (fun _ _ _ h => h) (Or.inl ⟨by rfl, fun V hV => ?_⟩) trivial ?_
          rotate_left
          · (go_simp; try with_reducible rfl)
          simp only [Act.put, List.setIfInBounds_toArray, List.set_cons_zero, List.set_cons_succ]
          refine takeE (v := ?_) 10 62 rfl rfl (by kernel_rfl) (by kernel_rfl) (by kernel_rfl) (fun _ _ _ h => h) (Or.inl ⟨by rfl, fun V hV => ?_⟩) trivial ?_
          rotate_left
          · (go_simp; try with_reducible rfl)
          simp only [Act.put, List.setIfInBounds_toArray, List.set_cons_zero, List.set_cons_succ]
          refine storeN 11 rfl rfl (by kernel_rfl) (by rfl) (w' := w'.setCell ⟨b, 2, none⟩ (.slice ao' (k + 1) cp')) (by go_simp; try with_reducible rfl) trivial ?_
          refine wpAnyH_done (by kernel_rfl) ?_ _
          go_wp2_with fail
          go_roundw
          case rel => exact ⟨k + 1, _, _, by omega, by go_num, by rw [← hp]; exact upd_other _ _ (by omega), NN⟩
          case measure => simp [intOf]; omega
    · obtain rfl : k = n := by omega
      have DN := hid hr.out.done
      clear hr
      go_wp2_with fail
      go_ret2
      exact ⟨b, _, rfl, DN.out⟩
end Go.Proofs.Ytkhdfcjdbhhikaa.Sim

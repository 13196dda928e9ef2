/-
  The walk of Copy: another net, all of it new.
-/
import Derived.Test.YtjmgigfaiaemeaaMNew
namespace Go.Proofs.Ytjmgigfaiaemeaa.Sim
set_option linter.unusedVariables false
set_option maxRecDepth 100000
open Go.RowKit Go.Lib Go.Proofs.Ytjmgigfaiaemeaa.Crc Go.Proofs.Ytjmgigfaiaemeaa.Grp
open Go.Proofs.Ytjmgigfaiaemeaa.Pip hiding NewR

/-- several calls, any of which may come up -/
theorem callsE {P : Program} {md : Region.Mode} {ops : Array Oper} {Q : Exit → Act → World → Prop} {S : World → Prop} (rs : List Nat) {fuel : Nat} {listed : Array Bool} {a : Act} {w : World} (hr : Region.ready md ops listed = rs) (hne : rs ≠ [])
    (h : ∀ i ∈ rs, ∃ (oi : Oper) (d : Nat) (f : FuncId) (args : Array Value), ops[i]? = some oi ∧ oi.dst = some d ∧ Region.wanted oi (yielded ops a.tmps) = true ∧ (execOp a.eval oi).run P w = .ok (.enter f args) w ∧
      Calls P f args w (fun e w' => ∃ v, e = .returned v ∧ S w' ∧ wpAnyH P md ops Q S fuel (listed.setIfInBounds i true) (a.put (some d) v) w')) : wpAnyH P md ops Q S (fuel + 1) listed a w := by
  refine wpAnyH_all hr hne (fun j hj => ?_)
  obtain ⟨oi, d, f, args, hi, hd, hw, he, hc⟩ := h j hj
  unfold wpOp
  simp only [hi, hw, if_true, Oper.wp, he, Oper.upon]
  left
  refine hc.mono ?_
  rintro e w' ⟨v, rfl, h1, h2⟩
  simp only [hd]
  exact ⟨h1, h2⟩

/-- what Copy's three calls tell -/
def CG (w : World) (n : Nat) (j lv : Int) (l : List Tri) (gb : Nat) : Prop := ∀ V, Ext w V → Calls Try.prog 27 #[.pointer (some ⟨gb, 0, none⟩)] V fun e V' => ∃ c g' cap', e = .returned (.pointer (some ⟨c, 0, none⟩)) ∧ (Grp V' c g' cap' n j lv l ∧ w.heap.size ≤ c ∧ w.heap.size ≤ g') ∧ Ext V V'
def CP (w : World) (room : Int) (ml : Ms) (ub : Nat) : Prop := ∀ V, Ext w V → Calls Try.prog 20 #[.pointer (some ⟨ub, 0, none⟩)] V fun e V' => ∃ c, e = .returned (.pointer (some ⟨c, 0, none⟩)) ∧ PipK (fun i => i < w.heap.size) V' c room ml ∧ Ext V V'
def CF (w : World) (fr : List (Int × Int)) (fv : Value) : Prop := ∀ V, Ext w V → Calls Try.prog 19 #[fv] V fun e V' => ∃ ao n c, e = .returned (.slice ao n c) ∧ NewR pr 69 2 w V' (.slice ao n c) fr ∧ Ext V V'

set_option maxHeartbeats 16000000 in
theorem copy_net {K : Nat → Prop} {w : World} {b : Nat} {bs : Nat → Nat} {c : Cfg} {l : List Tri} {fs : List (Int × Int)} {x : St} (h : NetK K w b bs c l fs x) (hfs : fs.length ≤ 1000) :
    Calls Try.prog 12 #[.pointer (some ⟨b, 0, none⟩)] w fun e w' => ∃ cb cs, e = .returned (.pointer (some ⟨cb, 0, none⟩)) ∧ NetK (fun q => q < w.heap.size) w' cb cs c l fs x ∧ Ext w w' := by
  obtain ⟨n0, gd, od, dcap, e1, n1, n2, n3, c2, k1, k2, pp, c3⟩ := h.down
  obtain ⟨K2, gb, gg, gc, n, dv, fv, h⟩ := h
  obtain rfl : n0 = n := by have := h.1.1; omega
  have PS : Hid (∀ i, i < n0 + 1 → ∃ Ki, PipK Ki w (bs i) c.2.2.1 (ord (x.1.getD i []))) := fun i hi => by
    obtain ⟨Ki, pk, _⟩ := h.one hi
    exact ⟨Ki, pk⟩
  obtain ⟨fo, fc, ef, fk1, fk2, _⟩ := fates_view h.2.2.2.2.1
  have ln : (fs.drop x.2.1).length ≤ 1000 := by rw [List.length_drop]; omega
  have HG : Hid (CG w n0 c.2.2.2.1 c.2.2.2.2 l gb) := fun V hV => by
    refine (Grp.copy_any gb gg gc n0 _ _ l V (h.2.2.1.ext hV)).mono ?_
    rintro e V' ⟨c', g', cap', rfl, q1, q2, q3, q4⟩
    have := hV.size
    exact ⟨c', g', cap', rfl, ⟨q1, by omega, by omega⟩, q4⟩
  have HP : Hid (CP w c.2.2.1 (ord (x.1.getD n0 [])) (bs n0)) := fun V hV => by
    obtain ⟨Ki, pk⟩ := PS.out n0 (by omega)
    refine (Pip.copy_any Ki (bs n0) c.2.2.1 _ V (pk.ext hV)).mono ?_
    rintro e V' ⟨pc, rfl, q1, q2, q3⟩
    exact ⟨pc, rfl, q2.less (fun i hi => Nat.lt_of_lt_of_le hi hV.size), q3⟩
  have HF : Hid (CF w (fs.drop x.2.1) fv) := fun V hV => by
    refine (cloneF_any _ V fv (fs.drop x.2.1) (h.2.2.2.2.1.kept (Kept.of_ext hV)) ln).mono ?_
    rintro e V' ⟨v', rfl, q⟩
    obtain ⟨ao, c', e', _⟩ := q.slice
    subst e'
    exact ⟨_, _, _, rfl, ⟨q.1, fun k hk => Nat.le_trans hV.size (q.2.1 k hk), hV.trans q.2.2⟩, q.2.2⟩
  have c0 := h.cells 0 (.pointer (some ⟨gb, 0, none⟩)) rfl
  have c1 := h.cells 1 (.int .i64 c.2.1) rfl
  have c4 := h.cells 4 fv rfl
  have c5 := h.cells 5 (.int .i64 (x.2.1 : Int)) rfl
  have H1 : Hid (c.1 = (n0 : Int) ∧ x.1.length = n0 + 1 ∧ 0 ≤ c.2.1 ∧ c.2.1 ≤ 64) := h.1
  have MK : Hid (∀ (V : World) (cg g' cap' pc : Nat) (v : Value), (Grp V cg g' cap' n0 c.2.2.2.1 c.2.2.2.2 l ∧ w.heap.size ≤ cg ∧ w.heap.size ≤ g') → PipK (fun i => i < w.heap.size) V pc c.2.2.1 (ord (x.1.getD n0 [])) → NewR pr 69 2 w V v (fs.drop x.2.1) → HalfN w (V.alloc (.cells (nrow cg c.2.1 (.slice none 0 0) pc v (x.2.1 : Int) x.2.2) 56)) V.heap.size cg g' cap' n0 c (.slice none 0 0) v l fs x (fun _ => pc) 0) := fun V cg g' cap' pc v q1 q2 q3 => HalfN.start H1.out q1.1 q1.2 q2 q3
  obtain ⟨ls, u, s0, s1, s2, s3, s4, s5⟩ := x
  simp only at c5 MK HP HF PS
  have c6 := h.cells 6 (.int .i64 s0) rfl
  have c7 := h.cells 7 (.int .i64 s1) rfl
  have c8 := h.cells 8 (.int .i64 s2) rfl
  have c9 := h.cells 9 (.int .i64 s3) rfl
  have c10 := h.cells 10 (.int .i64 s4) rfl
  have c11 := h.cells 11 (.int .i64 s5) rfl
  obtain ⟨ub, eub⟩ : ∃ ub, ub = bs n0 := ⟨_, rfl⟩
  rw [← eub] at c3 HP
  obtain ⟨dl, edl⟩ : ∃ dl, dl = c.2.1 := ⟨_, rfl⟩
  rw [← edl] at c1 MK
  unfold maxLen at k2 fk2
  have PP := hid pp
  have C2 := hid c2
  subst ef
  generalize (fs.drop u).length = FL at *
  have XD : Hid (Ext w w.drew) := (Ext.refl w).drewN 1
  clear h eub edl pp
  go_enter Try.func12, Try.ntmps12
  go_wp2_with fail
  refine wp_region_held_drew (S := fun V => Ext w V) (by kernel_rfl) (Below.drew (Ext.refl w)) (fun hHeld => ?_)
  refine takeE (v := ?_) 0 6 rfl rfl (by kernel_rfl) (by kernel_rfl) (by kernel_rfl) (fun _ _ _ h => h) (Or.inl ⟨by rfl, fun V hV => ?_⟩) hHeld ?_
  rotate_left
  · (go_simp; try with_reducible rfl)
  simp only [Act.put, List.setIfInBounds_toArray, List.set_cons_zero, List.set_cons_succ]
  refine takeE (v := ?_) 1 7 rfl rfl (by kernel_rfl) (by kernel_rfl) (by kernel_rfl) (fun _ _ _ h => h) (Or.inl ⟨by rfl, fun V hV => ?_⟩) hHeld ?_
  rotate_left
  · (go_simp; try with_reducible rfl)
  simp only [Act.put, List.setIfInBounds_toArray, List.set_cons_zero, List.set_cons_succ]
  refine takeE (v := ?_) 2 8 rfl rfl (by kernel_rfl) (by kernel_rfl) (by kernel_rfl) (fun _ _ _ h => h) (Or.inl ⟨by rfl, fun V hV => ?_⟩) hHeld ?_
  rotate_left
  · (go_simp; try with_reducible rfl)
  simp only [Act.put, List.setIfInBounds_toArray, List.set_cons_zero, List.set_cons_succ]
  refine takeE (v := ?_) 3 9 rfl rfl (by kernel_rfl) (by kernel_rfl) (by kernel_rfl) (fun _ _ _ h => h) (Or.inl ⟨by rfl, fun V hV => ?_⟩) hHeld ?_
  rotate_left
  · (have y0 := hV.cell c0; have y1 := hV.cell c1; have y3 := hV.cell c3; have y4 := hV.cell c4; have y5 := hV.cell c5; have y6 := hV.cell c6; have y7 := hV.cell c7; have y8 := hV.cell c8; have y9 := hV.cell c9; have y10 := hV.cell c10; have y11 := hV.cell c11; go_simp; try with_reducible rfl)
  simp only [Act.put, List.setIfInBounds_toArray, List.set_cons_zero, List.set_cons_succ]
  refine takeE (v := ?_) 5 11 rfl rfl (by kernel_rfl) (by kernel_rfl) (by kernel_rfl) (fun _ _ _ h => h) (Or.inl ⟨by rfl, fun V hV => ?_⟩) hHeld ?_
  rotate_left
  · (go_simp; try with_reducible rfl)
  simp only [Act.put, List.setIfInBounds_toArray, List.set_cons_zero, List.set_cons_succ]
  refine takeE (v := ?_) 6 12 rfl rfl (by kernel_rfl) (by kernel_rfl) (by kernel_rfl) (fun _ _ _ h => h) (Or.inl ⟨by rfl, fun V hV => ?_⟩) hHeld ?_
  rotate_left
  · (go_simp; try with_reducible rfl)
  simp only [Act.put, List.setIfInBounds_toArray, List.set_cons_zero, List.set_cons_succ]
  refine takeE (v := ?_) 7 13 rfl rfl (by kernel_rfl) (by kernel_rfl) (by kernel_rfl) (fun _ _ _ h => h) (Or.inl ⟨by rfl, fun V hV => ?_⟩) hHeld ?_
  rotate_left
  · (go_simp; try with_reducible rfl)
  simp only [Act.put, List.setIfInBounds_toArray, List.set_cons_zero, List.set_cons_succ]
  refine takeE (v := ?_) 8 14 rfl rfl (by kernel_rfl) (by kernel_rfl) (by kernel_rfl) (fun _ _ _ h => h) (Or.inl ⟨by rfl, fun V hV => ?_⟩) hHeld ?_
  rotate_left
  · (have y0 := hV.cell c0; have y1 := hV.cell c1; have y3 := hV.cell c3; have y4 := hV.cell c4; have y5 := hV.cell c5; have y6 := hV.cell c6; have y7 := hV.cell c7; have y8 := hV.cell c8; have y9 := hV.cell c9; have y10 := hV.cell c10; have y11 := hV.cell c11; go_simp; try with_reducible rfl)
  simp only [Act.put, List.setIfInBounds_toArray, List.set_cons_zero, List.set_cons_succ]
  refine takeE (v := ?_) 9 15 rfl rfl (by kernel_rfl) (by kernel_rfl) (by kernel_rfl) (fun _ _ _ h => h) (Or.inl ⟨by rfl, fun V hV => ?_⟩) hHeld ?_
  rotate_left
  · (go_simp; try with_reducible rfl)
  simp only [Act.put, List.setIfInBounds_toArray, List.set_cons_zero, List.set_cons_succ]
  refine takeE (v := ?_) 10 16 rfl rfl (by kernel_rfl) (by kernel_rfl) (by kernel_rfl) (fun _ _ _ h => h) (Or.inl ⟨by rfl, fun V hV => ?_⟩) hHeld ?_
  rotate_left
  · (go_simp; try with_reducible rfl)
  simp only [Act.put, List.setIfInBounds_toArray, List.set_cons_zero, List.set_cons_succ]
  refine takeE (v := ?_) 11 17 rfl rfl (by kernel_rfl) (by kernel_rfl) (by kernel_rfl) (fun _ _ _ h => h) (Or.inl ⟨by rfl, fun V hV => ?_⟩) hHeld ?_
  rotate_left
  · (go_simp; try with_reducible rfl)
  simp only [Act.put, List.setIfInBounds_toArray, List.set_cons_zero, List.set_cons_succ]
  refine takeE (v := ?_) 12 18 rfl rfl (by kernel_rfl) (by kernel_rfl) (by kernel_rfl) (fun _ _ _ h => h) (Or.inl ⟨by rfl, fun V hV => ?_⟩) hHeld ?_
  rotate_left
  · (have y0 := hV.cell c0; have y1 := hV.cell c1; have y3 := hV.cell c3; have y4 := hV.cell c4; have y5 := hV.cell c5; have y6 := hV.cell c6; have y7 := hV.cell c7; have y8 := hV.cell c8; have y9 := hV.cell c9; have y10 := hV.cell c10; have y11 := hV.cell c11; go_simp; try with_reducible rfl)
  simp only [Act.put, List.setIfInBounds_toArray, List.set_cons_zero, List.set_cons_succ]
  refine takeE (v := ?_) 14 20 rfl rfl (by kernel_rfl) (by kernel_rfl) (by kernel_rfl) (fun _ _ _ h => h) (Or.inl ⟨by rfl, fun V hV => ?_⟩) hHeld ?_
  rotate_left
  · (go_simp; try with_reducible rfl)
  simp only [Act.put, List.setIfInBounds_toArray, List.set_cons_zero, List.set_cons_succ]
  refine takeE (v := ?_) 15 21 rfl rfl (by kernel_rfl) (by kernel_rfl) (by kernel_rfl) (fun _ _ _ h => h) (Or.inl ⟨by rfl, fun V hV => ?_⟩) hHeld ?_
  rotate_left
  · (go_simp; try with_reducible rfl)
  simp only [Act.put, List.setIfInBounds_toArray, List.set_cons_zero, List.set_cons_succ]
  refine takeE (v := ?_) 16 22 rfl rfl (by kernel_rfl) (by kernel_rfl) (by kernel_rfl) (fun _ _ _ h => h) (Or.inl ⟨by rfl, fun V hV => ?_⟩) hHeld ?_
  rotate_left
  · (go_simp; try with_reducible rfl)
  simp only [Act.put, List.setIfInBounds_toArray, List.set_cons_zero, List.set_cons_succ]
  refine takeE (v := ?_) 17 23 rfl rfl (by kernel_rfl) (by kernel_rfl) (by kernel_rfl) (fun _ _ _ h => h) (Or.inl ⟨by rfl, fun V hV => ?_⟩) hHeld ?_
  rotate_left
  · (have y0 := hV.cell c0; have y1 := hV.cell c1; have y3 := hV.cell c3; have y4 := hV.cell c4; have y5 := hV.cell c5; have y6 := hV.cell c6; have y7 := hV.cell c7; have y8 := hV.cell c8; have y9 := hV.cell c9; have y10 := hV.cell c10; have y11 := hV.cell c11; go_simp; try with_reducible rfl)
  simp only [Act.put, List.setIfInBounds_toArray, List.set_cons_zero, List.set_cons_succ]
  refine takeE (v := ?_) 19 25 rfl rfl (by kernel_rfl) (by kernel_rfl) (by kernel_rfl) (fun _ _ _ h => h) (Or.inl ⟨by rfl, fun V hV => ?_⟩) hHeld ?_
  rotate_left
  · (go_simp; try with_reducible rfl)
  simp only [Act.put, List.setIfInBounds_toArray, List.set_cons_zero, List.set_cons_succ]
  refine takeE (v := ?_) 20 26 rfl rfl (by kernel_rfl) (by kernel_rfl) (by kernel_rfl) (fun _ _ _ h => h) (Or.inl ⟨by rfl, fun V hV => ?_⟩) hHeld ?_
  rotate_left
  · (go_simp; try with_reducible rfl)
  simp only [Act.put, List.setIfInBounds_toArray, List.set_cons_zero, List.set_cons_succ]
  refine takeE (v := ?_) 21 27 rfl rfl (by kernel_rfl) (by kernel_rfl) (by kernel_rfl) (fun _ _ _ h => h) (Or.inl ⟨by rfl, fun V hV => ?_⟩) hHeld ?_
  rotate_left
  · (go_simp; try with_reducible rfl)
  simp only [Act.put, List.setIfInBounds_toArray, List.set_cons_zero, List.set_cons_succ]
  refine takeE (v := ?_) 22 28 rfl rfl (by kernel_rfl) (by kernel_rfl) (by kernel_rfl) (fun _ _ _ h => h) (Or.inl ⟨by rfl, fun V hV => ?_⟩) hHeld ?_
  rotate_left
  · (have y0 := hV.cell c0; have y1 := hV.cell c1; have y3 := hV.cell c3; have y4 := hV.cell c4; have y5 := hV.cell c5; have y6 := hV.cell c6; have y7 := hV.cell c7; have y8 := hV.cell c8; have y9 := hV.cell c9; have y10 := hV.cell c10; have y11 := hV.cell c11; go_simp; try with_reducible rfl)
  simp only [Act.put, List.setIfInBounds_toArray, List.set_cons_zero, List.set_cons_succ]
  refine takeE (v := ?_) 23 29 rfl rfl (by kernel_rfl) (by kernel_rfl) (by kernel_rfl) (fun _ _ _ h => h) (Or.inl ⟨by rfl, fun V hV => ?_⟩) hHeld ?_
  rotate_left
  · (go_simp; try with_reducible rfl)
  simp only [Act.put, List.setIfInBounds_toArray, List.set_cons_zero, List.set_cons_succ]
  refine takeE (v := ?_) 24 30 rfl rfl (by kernel_rfl) (by kernel_rfl) (by kernel_rfl) (fun _ _ _ h => h) (Or.inl ⟨by rfl, fun V hV => ?_⟩) hHeld ?_
  rotate_left
  · (go_simp; try with_reducible rfl)
  simp only [Act.put, List.setIfInBounds_toArray, List.set_cons_zero, List.set_cons_succ]
  refine takeE (v := ?_) 25 31 rfl rfl (by kernel_rfl) (by kernel_rfl) (by kernel_rfl) (fun _ _ _ h => h) (Or.inl ⟨by rfl, fun V hV => ?_⟩) hHeld ?_
  rotate_left
  · (go_simp; try with_reducible rfl)
  simp only [Act.put, List.setIfInBounds_toArray, List.set_cons_zero, List.set_cons_succ]
  refine takeE (v := ?_) 26 32 rfl rfl (by kernel_rfl) (by kernel_rfl) (by kernel_rfl) (fun _ _ _ h => h) (Or.inl ⟨by rfl, fun V hV => ?_⟩) hHeld ?_
  rotate_left
  · (have y0 := hV.cell c0; have y1 := hV.cell c1; have y3 := hV.cell c3; have y4 := hV.cell c4; have y5 := hV.cell c5; have y6 := hV.cell c6; have y7 := hV.cell c7; have y8 := hV.cell c8; have y9 := hV.cell c9; have y10 := hV.cell c10; have y11 := hV.cell c11; go_simp; try with_reducible rfl)
  simp only [Act.put, List.setIfInBounds_toArray, List.set_cons_zero, List.set_cons_succ]
  refine callE 4 10 rfl rfl (by kernel_rfl) (by rfl) (by go_simp; first | exact ⟨rfl, rfl⟩ | rfl) ?_
  refine (HG.out _ hHeld).mono ?_
  rintro e V1 ⟨cg, g', cap', rfl, fg, x1⟩
  have hV1 := hHeld.trans x1
  refine ⟨_, rfl, hV1, ?_⟩
  simp only [Act.put, List.setIfInBounds_toArray, List.set_cons_zero, List.set_cons_succ]
  refine callE 13 19 rfl rfl (by kernel_rfl) (by rfl) (by go_simp; first | exact ⟨rfl, rfl⟩ | rfl) ?_
  refine (HP.out _ hV1).mono ?_
  rintro e V2 ⟨pc, rfl, fp, x2⟩
  have hV2 := hV1.trans x2
  refine ⟨_, rfl, hV2, ?_⟩
  simp only [Act.put, List.setIfInBounds_toArray, List.set_cons_zero, List.set_cons_succ]
  refine callE 18 24 rfl rfl (by kernel_rfl) (by rfl) (by go_simp; first | exact ⟨rfl, rfl⟩ | rfl) ?_
  refine (HF.out _ hV2).mono ?_
  rintro e V3 ⟨fo', fn', fc', rfl, ff, x3⟩
  have hV3 := hV2.trans x3
  refine ⟨_, rfl, hV3, ?_⟩
  simp only [Act.put, List.setIfInBounds_toArray, List.set_cons_zero, List.set_cons_succ]
  have HS := hid (MK.out V3 cg g' cap' pc (.slice fo' fn' fc') ⟨fg.1.ext (x2.trans x3), fg.2⟩ (fp.ext x3) ff)
  have XV3 : Ext w V3 := hV3
  clear fg fp ff x1 x2 x3
  refine takeE (v := ?_) 27 33 rfl rfl (by kernel_rfl) (by kernel_rfl) (by kernel_rfl) (fun _ _ _ h => h) (Or.inl ⟨by rfl, fun V hV => ?_⟩) hV3 ?_
  rotate_left
  · (go_simp; try with_reducible rfl)
  simp only [Act.put, List.setIfInBounds_toArray, List.set_cons_zero, List.set_cons_succ]
  refine knownE 28 34 rfl rfl (by kernel_rfl) (by rfl) (w' := V3.alloc (.cells (nrow cg dl (.slice none 0 0) pc (.slice fo' fn' fc') (u : Int) (s0, s1, s2, s3, s4, s5)) 56)) (v := .pointer (some ⟨V3.heap.size, 0, none⟩)) (by go_simp; rfl) (hV3.alloc _) ?_
  simp only [Act.put, List.setIfInBounds_toArray, List.set_cons_zero, List.set_cons_succ]
  refine takeE (v := ?_) 29 3 rfl rfl (by kernel_rfl) (by kernel_rfl) (by kernel_rfl) (fun _ _ _ h => h) (Or.inl ⟨by rfl, fun V hV => ?_⟩) (hV3.alloc _) ?_
  rotate_left
  · (go_simp; try with_reducible rfl)
  simp only [Act.put, List.setIfInBounds_toArray, List.set_cons_zero, List.set_cons_succ]
  refine wpAnyH_done (by kernel_rfl) ?_ _
  obtain ⟨W4, e4⟩ : ∃ W4, W4 = V3.alloc (.cells (nrow cg dl (.slice none 0 0) pc (.slice fo' fn' fc') (u : Int) (s0, s1, s2, s3, s4, s5)) 56) := ⟨_, rfl⟩
  obtain ⟨cb, eb⟩ : ∃ cb, cb = V3.heap.size := ⟨_, rfl⟩
  have HH : Hid (HalfN w W4 cb cg g' cap' n0 c (.slice none 0 0) (.slice fo' fn' fc') l fs (ls, u, s0, s1, s2, s3, s4, s5) (fun _ => pc) 0) := by rw [e4, eb]; exact HS.out
  have m2 : W4.cell? ⟨b, 2, none⟩ = some (.slice (some ⟨gd, od, none⟩) n0 dcap) := by rw [e4]; exact (hV3.alloc _).cell C2.out
  rw [← e4, ← eb]
  clear HS e4 eb hHeld
  go_wp2_with fail
  go_loopw [5, 40] (fun _ iv wr => ∃ (k : Nat) (dv : Value) (p : Nat → Nat), k ≤ n0 ∧ iv = .int .i64 (k : Int) ∧ Hid (HalfN w wr cb cg g' cap' n0 c dv (.slice fo' fn' fc') l fs (ls, u, s0, s1, s2, s3, s4, s5) p k)) (fun _ iv _ => (n0 - intOf iv).toNat)
  case atStart => exact ⟨0, _, _, by omega, rfl, HH⟩
  case round =>
    obtain ⟨k, dv, p, hk, rfl, hr⟩ := hrel
    clear HH
    by_cases q : k < n0
    · have i1 : (k : Int) < (n0 : Int) := by omega
      have i2 : (0 : Int) ≤ (k : Int) := by omega
      have XW : Ext w wr := hr.out.2.2.2.1.2.2
      obtain ⟨Ki, pk⟩ := PS.out k (by omega)
      have CPY : Hid (Calls Try.prog 20 #[.pointer (some ⟨bs k, 0, none⟩)] wr.drew fun e w' => ∃ pc, e = .returned (.pointer (some ⟨pc, 0, none⟩)) ∧ Ext wr w' ∧ PipK (fun i => i < wr.heap.size) w' pc c.2.2.1 (ord (ls.getD k []))) := by
        refine (Pip.copy_any Ki (bs k) c.2.2.1 _ wr.drew ((pk.ext XW).ext ((Ext.refl wr).drewN 1))).mono ?_
        rintro e w' ⟨pc, rfl, _, h2, h3⟩
        exact ⟨pc, rfl, (show Ext wr wr.drew from (Ext.refl wr).drewN 1).trans h3, h2⟩
      have ST : Hid (∀ W1 pc, Ext wr W1 → PipK (fun i => i < wr.heap.size) W1 pc c.2.2.1 (ord (ls.getD k [])) → _) := fun W1 pc h1 h2 => hr.out.step (W1 := W1) (pc := pc) q h1 h2
      have cb0 : wr.drew.cell? ⟨cb, 2, none⟩ = some dv := by
        show wr.cell? ⟨cb, 2, none⟩ = some dv
        rw [cell_of_row wr cb 2 _ _ _ hr.out.2.1]; rfl
      have y0 := XW.cell (PP.out k q)
      obtain ⟨da, dc, ed, _⟩ := hr.out.2.2.2.1.slice
      rw [List.length_map, List.length_range] at ed
      subst ed
      clear hr pk XW
      go_wp2_with fail
      refine wp_region_held_drew (S := fun V => True) (by kernel_rfl) trivial (fun hHeld => ?_)
      refine takeE (v := ?_) 0 44 rfl rfl (by kernel_rfl) (by kernel_rfl) (by kernel_rfl) (fun _ _ _ h => h) (Or.inl ⟨by rfl, fun V hV => ?_⟩) hHeld ?_
      rotate_left
      · (go_simp; try with_reducible rfl)
      simp only [Act.put, List.setIfInBounds_toArray, List.set_cons_zero, List.set_cons_succ]
      refine takeE (v := ?_) 1 45 rfl rfl (by kernel_rfl) (by kernel_rfl) (by kernel_rfl) (fun _ _ _ h => h) (Or.inl ⟨by rfl, fun V hV => ?_⟩) hHeld ?_
      rotate_left
      · (go_simp; try with_reducible rfl)
      simp only [Act.put, List.setIfInBounds_toArray, List.set_cons_zero, List.set_cons_succ]
      refine takeE (v := ?_) 2 46 rfl rfl (by kernel_rfl) (by kernel_rfl) (by kernel_rfl) (fun _ _ _ h => h) (Or.inl ⟨by rfl, fun V hV => ?_⟩) hHeld ?_
      rotate_left
      · (go_simp; try with_reducible rfl)
      simp only [Act.put, List.setIfInBounds_toArray, List.set_cons_zero, List.set_cons_succ]
      refine takeE (v := ?_) 3 47 rfl rfl (by kernel_rfl) (by kernel_rfl) (by kernel_rfl) (fun _ _ _ h => h) (Or.inl ⟨by rfl, fun V hV => ?_⟩) hHeld ?_
      rotate_left
      · (go_simp; try with_reducible rfl)
      simp only [Act.put, List.setIfInBounds_toArray, List.set_cons_zero, List.set_cons_succ]
      refine takeE (v := ?_) 5 49 rfl rfl (by kernel_rfl) (by kernel_rfl) (by kernel_rfl) (fun _ _ _ h => h) (Or.inl ⟨by rfl, fun V hV => ?_⟩) hHeld ?_
      rotate_left
      · (go_simp; try with_reducible rfl)
      simp only [Act.put, List.setIfInBounds_toArray, List.set_cons_zero, List.set_cons_succ]
      refine loadCallE 4 48 6 50 rfl rfl rfl rfl (by kernel_rfl) (by rfl) (by rfl) (v := .slice da k dc) (by go_simp; try with_reducible rfl) (by go_simp; first | exact ⟨rfl, rfl⟩ | rfl) trivial ?_ ?_
      · simp only [Act.put, List.setIfInBounds_toArray, List.set_cons_zero, List.set_cons_succ]
        refine callE 6 50 rfl rfl (by kernel_rfl) (by rfl) (by go_simp; first | exact ⟨rfl, rfl⟩ | rfl) ?_
        refine CPY.out.mono ?_
        rintro e W1 ⟨pc1, rfl, x1, pk1⟩
        obtain ⟨v', w', r, ⟨ao', cp', e'⟩, d1, d2, d3, NX⟩ := ST.out W1 pc1 x1 pk1
        subst e'
        have RR := hid r
        have NN := hid NX
        clear r NX x1 pk1 CPY ST
        refine ⟨_, rfl, trivial, ?_⟩
        simp only [Act.put, List.setIfInBounds_toArray, List.set_cons_zero, List.set_cons_succ]
        refine knownE 7 51 rfl rfl (by kernel_rfl) (by rfl) (v := .slice (some ⟨W1.heap.size, 0, none⟩) 1 1) (w' := W1.alloc (.cells #[.pointer (some ⟨pc1, 0, none⟩)] 53)) (by go_simp; try with_reducible rfl) trivial ?_
        simp only [Act.put, List.setIfInBounds_toArray, List.set_cons_zero, List.set_cons_succ]
        refine knownE 8 52 rfl rfl (by kernel_rfl) (by rfl) (exec_append (.tmp 48) (.tmp 51) 52 rfl _ _ _ _ rfl rfl RR.out) trivial ?_
        simp only [Act.put, List.setIfInBounds_toArray, List.set_cons_zero, List.set_cons_succ]
        refine takeE (v := ?_) 9 53 rfl rfl (by kernel_rfl) (by kernel_rfl) (by kernel_rfl) (fun _ _ _ h => h) (Or.inl ⟨by rfl, fun V hV => ?_⟩) trivial ?_
        rotate_left
        · (go_simp; try with_reducible rfl)
        simp only [Act.put, List.setIfInBounds_toArray, List.set_cons_zero, List.set_cons_succ]
        refine takeE (v := ?_) 10 54 rfl rfl (by kernel_rfl) (by kernel_rfl) (by kernel_rfl) (fun _ _ _ h => h) (Or.inl ⟨by rfl, fun V hV => ?_⟩) trivial ?_
        rotate_left
        · (go_simp; try with_reducible rfl)
        simp only [Act.put, List.setIfInBounds_toArray, List.set_cons_zero, List.set_cons_succ]
        refine storeN 11 rfl rfl (by kernel_rfl) (by rfl) (w' := w'.setCell ⟨cb, 2, none⟩ (.slice ao' (k + 1) cp')) (by go_simp; try with_reducible rfl) trivial ?_
        refine wpAnyH_done (by kernel_rfl) ?_ _
        go_wp2_with fail
        go_roundw
        case rel => exact ⟨k + 1, _, _, by omega, by go_num, NN⟩
        case measure => simp [intOf]; omega
      · skip
        refine CPY.out.mono ?_
        rintro e W1 ⟨pc1, rfl, x1, pk1⟩
        obtain ⟨v', w', r, ⟨ao', cp', e'⟩, d1, d2, d3, NX⟩ := ST.out W1 pc1 x1 pk1
        subst e'
        have RR := hid r
        have NN := hid NX
        clear r NX x1 pk1 CPY ST
        refine ⟨_, rfl, trivial, ?_⟩
        simp only [Act.put, List.setIfInBounds_toArray, List.set_cons_zero, List.set_cons_succ]
        have d4 : (W1.alloc (.cells #[.pointer (some ⟨pc1, 0, none⟩)] 53)).cell? ⟨cb, 2, none⟩ = some (.slice da k dc) := ((Ext.refl W1).alloc _).cell d1
        refine bothE 4 48 7 51 rfl rfl rfl rfl (by kernel_rfl) (by kernel_rfl) (by kernel_rfl) (by rfl) (by rfl) (by rfl) (by rfl) (v := .slice da k dc) (u := .slice (some ⟨W1.heap.size, 0, none⟩) 1 1) (w' := W1.alloc (.cells #[.pointer (some ⟨pc1, 0, none⟩)] 53)) (by go_simp; try with_reducible rfl) (by go_simp; try with_reducible rfl) (by go_simp; try with_reducible rfl) (by go_simp; try with_reducible rfl) trivial trivial ?_ ?_
        · simp only [Act.put, List.setIfInBounds_toArray, List.set_cons_zero, List.set_cons_succ]
          refine knownE 8 52 rfl rfl (by kernel_rfl) (by rfl) (exec_append (.tmp 48) (.tmp 51) 52 rfl _ _ _ _ rfl rfl RR.out) trivial ?_
          simp only [Act.put, List.setIfInBounds_toArray, List.set_cons_zero, List.set_cons_succ]
          refine takeE (v := ?_) 9 53 rfl rfl (by kernel_rfl) (by kernel_rfl) (by kernel_rfl) (fun _ _ _ h => h) (Or.inl ⟨by rfl, fun V hV => ?_⟩) trivial ?_
          rotate_left
          · (go_simp; try with_reducible rfl)
          simp only [Act.put, List.setIfInBounds_toArray, List.set_cons_zero, List.set_cons_succ]
          refine takeE (v := ?_) 10 54 rfl rfl (by kernel_rfl) (by kernel_rfl) (by kernel_rfl) (fun _ _ _ h => h) (Or.inl ⟨by rfl, fun V hV => ?_⟩) trivial ?_
          rotate_left
          · (go_simp; try with_reducible rfl)
          simp only [Act.put, List.setIfInBounds_toArray, List.set_cons_zero, List.set_cons_succ]
          refine storeN 11 rfl rfl (by kernel_rfl) (by rfl) (w' := w'.setCell ⟨cb, 2, none⟩ (.slice ao' (k + 1) cp')) (by go_simp; try with_reducible rfl) trivial ?_
          refine wpAnyH_done (by kernel_rfl) ?_ _
          go_wp2_with fail
          go_roundw
          case rel => exact ⟨k + 1, _, _, by omega, by go_num, NN⟩
          case measure => simp [intOf]; omega
        · simp only [Act.put, List.setIfInBounds_toArray, List.set_cons_zero, List.set_cons_succ]
          refine knownE 8 52 rfl rfl (by kernel_rfl) (by rfl) (exec_append (.tmp 48) (.tmp 51) 52 rfl _ _ _ _ rfl rfl RR.out) trivial ?_
          simp only [Act.put, List.setIfInBounds_toArray, List.set_cons_zero, List.set_cons_succ]
          refine takeE (v := ?_) 9 53 rfl rfl (by kernel_rfl) (by kernel_rfl) (by kernel_rfl) (fun _ _ _ h => h) (Or.inl ⟨by rfl, fun V hV => ?_⟩) trivial ?_
          rotate_left
          · (go_simp; try with_reducible rfl)
          simp only [Act.put, List.setIfInBounds_toArray, List.set_cons_zero, List.set_cons_succ]
          refine takeE (v := ?_) 10 54 rfl rfl (by kernel_rfl) (by kernel_rfl) (by kernel_rfl) (fun _ _ _ h => h) (Or.inl ⟨by rfl, fun V hV => ?_⟩) trivial ?_
          rotate_left
          · (go_simp; try with_reducible rfl)
          simp only [Act.put, List.setIfInBounds_toArray, List.set_cons_zero, List.set_cons_succ]
          refine storeN 11 rfl rfl (by kernel_rfl) (by rfl) (w' := w'.setCell ⟨cb, 2, none⟩ (.slice ao' (k + 1) cp')) (by go_simp; try with_reducible rfl) trivial ?_
          refine wpAnyH_done (by kernel_rfl) ?_ _
          go_wp2_with fail
          go_roundw
          case rel => exact ⟨k + 1, _, _, by omega, by go_num, NN⟩
          case measure => simp [intOf]; omega
    · obtain rfl : k = n0 := by omega
      have DN := hid hr.out.done
      clear hr
      go_wp2_with fail
      go_ret
      exact ⟨cb, _, rfl, DN.out⟩
end Go.Proofs.Ytjmgigfaiaemeaa.Sim

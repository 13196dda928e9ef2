/-
  The walk of Put.
-/
import Derived.Test.YtjmgigfaiaemeaaPipOps
import Derived.Test.YtjmgigfaiaemeaaPipIns
namespace Go.Proofs.Ytjmgigfaiaemeaa.Pip
set_option linter.unusedVariables false
set_option maxRecDepth 100000
open Go.RowKit Go.Lib

set_option maxHeartbeats 1000000 in
theorem put_bad (b : Nat) (due : Int) (u : Value) (t : List UInt8) (w : World) (hu : Bytes w u t) (h : due < 0 ∨ 2199023255552 < due ∨ 320 < t.length) :
    Calls Try.prog 56 #[.pointer (some ⟨b, 0, none⟩), .int .i64 due, u] w fun e w' => e = .returned (.int .i64 11) ∧ w' = w := by
  obtain ⟨ao, c, rfl, k1, k2, _⟩ := hu
  unfold maxLen at k2
  generalize t.length = n at *
  by_cases h1 : due < 0
  · clear h
    go_enter Try.func56, Try.ntmps56
    go_wp2
    go_ret
    exact ⟨rfl, rfl⟩
  · by_cases h2 : 2199023255552 < due
    · clear h
      go_enter Try.func56, Try.ntmps56
      go_wp2
      go_ret
      exact ⟨rfl, rfl⟩
    · have h3 : (320 : Int) < (n : Int) := by omega
      clear h
      go_enter Try.func56, Try.ntmps56
      go_wp2
      go_ret
      exact ⟨rfl, rfl⟩

set_option maxHeartbeats 1000000 in
theorem put_full (K : Nat → Prop) (b : Nat) (room due : Int) (l : Ms) (u : Value) (t : List UInt8) (w : World) (hw : PipK K w b room l) (hu : Bytes w u t) (h1 : ¬ due < 0) (h2 : ¬ 2199023255552 < due) (h3 : t.length ≤ 320) (hf : (l.length : Int) = room) :
    Calls Try.prog 56 #[.pointer (some ⟨b, 0, none⟩), .int .i64 due, u] w fun e w' => e = .returned (.int .i64 15) ∧ Ext w w' := by
  obtain ⟨ao, c, rfl, k1, k2, _⟩ := hu
  obtain ⟨⟨r1, r2, r3, r4⟩, v, ml, hU, el⟩ := hw
  have e0 : ml.length = l.length := by rw [← el, List.length_map]
  have R := room_any b room v ml w hU.1 ⟨r1, r2⟩ (by omega)
  rw [e0, show room - (l.length : Int) = 0 by omega] at R
  have RR := hid R
  unfold maxLen at k2
  generalize t.length = n at *
  have h4 : ¬ (320 : Int) < (n : Int) := by omega
  clear hU el e0 R hf r3 r4
  go_enter Try.func56, Try.ntmps56
  go_wp2_with fail
  refine RR.out.mono ?_
  rintro e w1 ⟨rfl, m, rfl⟩
  have X : Hid (Ext w (w.drewN m)) := (Ext.refl w).drewN m
  clear RR
  go_wp2_with fail
  go_ret
  exact ⟨rfl, X.out⟩

/-- the message put into the row -/
theorem put_row (K : Nat → Prop) (b : Nat) (room due : Int) (v : Value) (ml : List Msg) (l : Ms) (t : List UInt8) (w : World) (hw : PipU K w b room v ml) (el : ml.map told = l) (r : 1 ≤ room ∧ room ≤ 256) (hs : Srt l) (hl : (l.length : Int) < room) (h3 : t.length ≤ 320)
    (W2 : World) (s : Sl) (X : Ext w W2) (hs2 : OwnB W2 (sval s) t) (hn : ∀ k, (sval s).ownBlock = some k → w.heap.size ≤ k) :
    Calls Try.prog 62 #[v, .int .i64 (du l due : Int), .slice (some ⟨W2.heap.size, 0, none⟩) 1 1] (W2.alloc (.cells #[.int .i64 due, sval s] 99)) fun e w' =>
      ∃ v', e = .returned v' ∧ (∃ ao n c, v' = .slice ao n c) ∧ w'.cell? ⟨b, 1, none⟩ = some v ∧ w'.frozen? ⟨b, 1, none⟩ = false ∧ PipK K (w'.setCell ⟨b, 1, none⟩ v') b room (ins l (due, t)) ∧ Kept K w (w'.setCell ⟨b, 1, none⟩ v') := by
  have e0 : ml.length = l.length := by rw [← el, List.length_map]
  have XA := (Ext.refl W2).alloc (.cells #[.int .i64 due, sval s] 99)
  have X3 := X.trans XA
  have n3 := heap_alloc_new W2 (.cells #[.int .i64 due, sval s] 99)
  obtain ⟨W3, e3⟩ : ∃ W3, W3 = W2.alloc (.cells #[.int .i64 due, sval s] 99) := ⟨_, rfl⟩
  rw [← e3] at XA X3 n3 ⊢
  have u3 := hw.ext X3
  have xs := X.size
  have dl := du_le l due
  have ov : OwnM W3 (.slice (some ⟨W2.heap.size, 0, none⟩) 1 1) [(due, s)] := own_of_rowM (Y := []) rfl n3 (Nat.le_refl _) (by unfold maxLen; omega) rfl
  refine (insert_any W3 v _ (ml.map mval) [(due, s)] (du l due) u3.1.2.1 ov (fun k hk e => ?_) (by rw [List.length_map]; omega) (by rw [List.length_map]; omega) (by simp)).mono ?_
  · have := (World.ownsRow.lt hw.1.2.1 k hk).2
    simp only [Value.ownBlock, Option.some.injEq] at e
    omega
  · rintro e w' ⟨s', rfl, hT, gb, hv⟩
    obtain ⟨ml', em⟩ : ∃ ml' : List Msg, ml' = ml.take (du l due) ++ (due, s, t) :: ml.drop (du l due) := ⟨_, rfl⟩
    have e1 : (ml.map mval).take (du l due) ++ [(due, s)] ++ (ml.map mval).drop (du l due) = ml'.map mval := by rw [em]; simp [mval, List.map_take, List.map_drop]
    have e2 : ml'.map told = ins l (due, t) := by rw [em, ← el]; simp [ins, told, List.map_take, List.map_drop, el]
    rw [e1] at hT
    have mem : ∀ p ∈ ml', p = (due, s, t) ∨ p ∈ ml := by
      intro p hp
      rw [em] at hp
      rcases List.mem_append.1 hp with h | h
      · exact .inr (List.mem_of_mem_take h)
      · rcases List.mem_cons.1 h with h | h
        · exact .inl h
        · exact .inr (List.mem_of_mem_drop h)
    have hM : ∀ p ∈ ml', p.2.2.length ≤ 320 ∧ OwnB W3 (sval p.2.1) p.2.2 ∧ ∀ g, (sval p.2.1).ownBlock = some g → ¬ K g := by
      intro p hp
      rcases mem p hp with rfl | h
      · refine ⟨h3, hs2.ext XA, fun g hg q => ?_⟩
        have := hn g hg
        have := hw.2.2.2.2.2 g q
        omega
      · exact ⟨(u3.1.2.2 p h).1, (u3.1.2.2 p h).2, u3.2.2.2.1 p h⟩
    have hP : ml'.Pairwise Apart := by
      rw [em]
      have : ((due, s, t) :: ml).Pairwise Apart := List.pairwise_cons.2 ⟨fun q hq g h1 h2 => (by
        have := hn g h1
        have := (hw.1.2.2 q hq).2.lt h2
        omega), hw.2.2.2.2.1⟩
      refine (List.Perm.pairwise_iff (fun h => Apart.symm h) ?_).1 this
      conv => lhs; rw [← List.take_append_drop (du l due) ml]
      exact List.perm_middle.symm
    obtain ⟨a1, a2, a3, a4, _⟩ := u3.turn hT gb hv hM hP
    exact ⟨_, rfl, owns_slice hT, a3, a4, ⟨⟨r.1, r.2, ins_srt hs _, by rw [ins_length]; omega⟩, _, _, a1, e2⟩, (Kept.of_ext X3).trans a2⟩

set_option maxHeartbeats 2000000 in
theorem put_any (K : Nat → Prop) (b : Nat) (room due : Int) (l : Ms) (u : Value) (t : List UInt8) (w : World) (hw : PipK K w b room l) (hu : Bytes w u t) (hp : Plain u) (h1 : ¬ due < 0) (h2 : ¬ 2199023255552 < due) (h3 : t.length ≤ 320) (hf : (l.length : Int) < room) :
    Calls Try.prog 56 #[.pointer (some ⟨b, 0, none⟩), .int .i64 due, u] w fun e w' => e = .returned (.int .i64 0) ∧ PipK K w' b room (ins l (due, t)) ∧ Kept K w w' := by
  obtain ⟨⟨r1, r2, r3, r4⟩, v, ml, hU, el⟩ := hw
  have e0 : ml.length = l.length := by rw [← el, List.length_map]
  have R := room_any b room v ml w hU.1 ⟨r1, r2⟩ (by omega)
  rw [e0] at R
  have RR := hid R
  have DUE0 : Hid (∀ V, Ext w V → Calls Try.prog 52 #[.pointer (some ⟨b, 0, none⟩), .int .i64 due] V fun e w' => e = .returned (.int .i64 (du l due : Int)) ∧ Ext V w') := fun V hV => due_any b room due v ml l V (hU.1.ext hV) el r3 (by omega)
  have CLO0 : Hid (∀ V, Ext w V → Calls Try.prog 40 #[u] V fun e w' => ∃ s : Sl, e = .returned (sval s) ∧ s.2.1 = t.length ∧ OwnB w' (sval s) t ∧ Ext V w' ∧ ∀ k, (sval s).ownBlock = some k → V.heap.size ≤ k) := fun V hV => cloneB_any V u t (hu.ext hV) hp (by omega)
  have INS0 := hid (put_row K b room due v ml l t w hU el ⟨r1, r2⟩ r3 hf h3)
  obtain ⟨c8, c9⟩ := hU.1.cells
  obtain ⟨vo, vc, ev, _⟩ := hU.1.slice
  obtain ⟨ao, c, eu, k1, k2, _⟩ := hu
  subst eu
  have z0 : ¬ (room - (l.length : Int) = 0) := by omega
  unfold maxLen at k2
  have EV := hid ev
  clear hU el R r3 r4 hf c8 hp ev
  generalize du l due = D at *
  obtain ⟨N, eN⟩ : ∃ N : Int, N = room - (l.length : Int) := ⟨_, rfl⟩
  rw [← eN] at RR z0
  generalize t.length = n at *
  have h4 : ¬ (320 : Int) < (n : Int) := by omega
  clear eN e0
  go_enter Try.func56, Try.ntmps56
  go_wp2_with fail
  refine RR.out.mono ?_
  rintro e w0 ⟨rfl, m, ew0⟩
  have X0 : Ext w w0 := by rw [ew0]; exact (Ext.refl w).drewN m
  have c0 : w0.cell? ⟨b, 1, none⟩ = some v := X0.cell c9
  have DUE : Hid (∀ V, Ext w0 V → _) := fun V hV => DUE0.out V (X0.trans hV)
  have CLO : Hid (∀ V, Ext w0 V → _) := fun V hV => CLO0.out V (X0.trans hV)
  have INS : Hid (∀ (W2 : World) (s : Sl) (X : Ext w0 W2), OwnB W2 (sval s) t → (∀ k, (sval s).ownBlock = some k → w0.heap.size ≤ k) → _) := fun W2 s X h1 h2 => INS0.out W2 s (X0.trans X) h1 (fun k hk => Nat.le_trans X0.size (h2 k hk))
  clear c9 ew0
  clear RR DUE0 CLO0 INS0 X0
  go_wp2_with fail
  refine wp_region_held_drew (S := fun _ => True) (by kernel_rfl) trivial (fun hHeld => ?_)
  refine takeE (v := ?_) 0 21 rfl rfl (by kernel_rfl) (by kernel_rfl) (by kernel_rfl) (fun _ _ _ h => h) (Or.inl ⟨by rfl, fun V hV => ?_⟩) trivial ?_
  rotate_left
  · (go_simp; try with_reducible rfl)
  simp only [Act.put, List.setIfInBounds_toArray, List.set_cons_zero, List.set_cons_succ]
  refine takeE (v := ?_) 1 22 rfl rfl (by kernel_rfl) (by kernel_rfl) (by kernel_rfl) (fun _ _ _ h => h) (Or.inl ⟨by rfl, fun V hV => ?_⟩) trivial ?_
  rotate_left
  · (go_simp; try with_reducible rfl)
  simp only [Act.put, List.setIfInBounds_toArray, List.set_cons_zero, List.set_cons_succ]
  refine takeE (v := ?_) 2 23 rfl rfl (by kernel_rfl) (by kernel_rfl) (by kernel_rfl) (fun _ _ _ h => h) (Or.inl ⟨by rfl, fun V hV => ?_⟩) trivial ?_
  rotate_left
  · (go_simp; try with_reducible rfl)
  simp only [Act.put, List.setIfInBounds_toArray, List.set_cons_zero, List.set_cons_succ]
  refine takeE (v := ?_) 3 24 rfl rfl (by kernel_rfl) (by kernel_rfl) (by kernel_rfl) (fun _ _ _ h => h) (Or.inl ⟨by rfl, fun V hV => ?_⟩) trivial ?_
  rotate_left
  · (go_simp; try with_reducible rfl)
  simp only [Act.put, List.setIfInBounds_toArray, List.set_cons_zero, List.set_cons_succ]
  refine takeE (v := ?_) 5 26 rfl rfl (by kernel_rfl) (by kernel_rfl) (by kernel_rfl) (fun _ _ _ h => h) (Or.inl ⟨by rfl, fun V hV => ?_⟩) trivial ?_
  rotate_left
  · (go_simp; try with_reducible rfl)
  simp only [Act.put, List.setIfInBounds_toArray, List.set_cons_zero, List.set_cons_succ]
  refine takeE (v := ?_) 6 27 rfl rfl (by kernel_rfl) (by kernel_rfl) (by kernel_rfl) (fun _ _ _ h => h) (Or.inl ⟨by rfl, fun V hV => ?_⟩) trivial ?_
  rotate_left
  · (go_simp; try with_reducible rfl)
  simp only [Act.put, List.setIfInBounds_toArray, List.set_cons_zero, List.set_cons_succ]
  refine takeE (v := ?_) 8 29 rfl rfl (by kernel_rfl) (by kernel_rfl) (by kernel_rfl) (fun _ _ _ h => h) (Or.inl ⟨by rfl, fun V hV => ?_⟩) trivial ?_
  rotate_left
  · (go_simp; try with_reducible rfl)
  simp only [Act.put, List.setIfInBounds_toArray, List.set_cons_zero, List.set_cons_succ]
  refine takeE (v := ?_) 9 30 rfl rfl (by kernel_rfl) (by kernel_rfl) (by kernel_rfl) (fun _ _ _ h => h) (Or.inl ⟨by rfl, fun V hV => ?_⟩) trivial ?_
  rotate_left
  · (go_simp; try with_reducible rfl)
  simp only [Act.put, List.setIfInBounds_toArray, List.set_cons_zero, List.set_cons_succ]
  refine loadCallE 4 25 7 28 rfl rfl rfl rfl (by kernel_rfl) (by rfl) (by rfl) (v := v) (by go_simp) (by go_simp; first | exact ⟨rfl, rfl⟩ | rfl) trivial ?loadA ?dueB
  case' loadA =>
    simp only [Act.put, List.setIfInBounds_toArray, List.set_cons_zero, List.set_cons_succ]
    refine callE 7 28 rfl rfl (by kernel_rfl) (by rfl) (by go_simp; first | exact ⟨rfl, rfl⟩ | rfl) ?_
    refine (DUE.out _ ((Ext.refl w0).drewN 1)).mono ?_
    rintro e W1 ⟨rfl, x1⟩
    have X1 := hid (((Ext.refl w0).drewN 1).trans x1)
    have c1 := X1.out.cell c0
    clear x1
    refine ⟨_, rfl, trivial, ?_⟩
    simp only [Act.put, List.setIfInBounds_toArray, List.set_cons_zero, List.set_cons_succ]
    refine callE 10 31 rfl rfl (by kernel_rfl) (by rfl) (by go_simp; first | exact ⟨rfl, rfl⟩ | rfl) ?_
    refine (CLO.out _ X1.out).mono ?_
    rintro e W2 ⟨⟨s1, s2, s3⟩, rfl, _, o2, x2, n2⟩
    have X2 := hid (X1.out.trans x2)
    have O2 := hid o2
    have N2 : Hid (∀ k, (sval (s1, s2, s3)).ownBlock = some k → w0.heap.size ≤ k) := fun k hk => Nat.le_trans X1.out.size (n2 k hk)
    have c2 := X2.out.cell c0
    clear x2 o2 n2
    refine ⟨_, rfl, trivial, ?_⟩
    simp only [sval]
    simp only [Act.put, List.setIfInBounds_toArray, List.set_cons_zero, List.set_cons_succ]
    refine takeE (v := ?_) 11 32 rfl rfl (by kernel_rfl) (by kernel_rfl) (by kernel_rfl) (fun _ _ _ h => h) (Or.inl ⟨by rfl, fun V hV => ?_⟩) trivial ?_
    rotate_left
    · (go_simp; try with_reducible rfl)
    simp only [Act.put, List.setIfInBounds_toArray, List.set_cons_zero, List.set_cons_succ]
    refine knownE 12 33 rfl rfl (by kernel_rfl) (by rfl) (w' := W2.alloc (.cells #[.int .i64 due, .slice s1 s2 s3] 99)) (v := .slice (some ⟨W2.heap.size, 0, none⟩) 1 1) (by go_simp; try with_reducible rfl) trivial ?_
    simp only [Act.put, List.setIfInBounds_toArray, List.set_cons_zero, List.set_cons_succ]
  case' dueB =>
    refine (DUE.out _ ((Ext.refl w0).drewN 1)).mono ?_
    rintro e W1 ⟨rfl, x1⟩
    have X1 := hid (((Ext.refl w0).drewN 1).trans x1)
    have c1 := X1.out.cell c0
    clear x1
    refine ⟨_, rfl, trivial, ?_⟩
    simp only [Act.put, List.setIfInBounds_toArray, List.set_cons_zero, List.set_cons_succ]
    refine loadCallE 4 25 10 31 rfl rfl rfl rfl (by kernel_rfl) (by rfl) (by rfl) (v := v) (by go_simp) (by go_simp; first | exact ⟨rfl, rfl⟩ | rfl) trivial ?loadB ?cloB
  case' loadB =>
    simp only [Act.put, List.setIfInBounds_toArray, List.set_cons_zero, List.set_cons_succ]
    refine callE 10 31 rfl rfl (by kernel_rfl) (by rfl) (by go_simp; first | exact ⟨rfl, rfl⟩ | rfl) ?_
    refine (CLO.out _ X1.out).mono ?_
    rintro e W2 ⟨⟨s1, s2, s3⟩, rfl, _, o2, x2, n2⟩
    have X2 := hid (X1.out.trans x2)
    have O2 := hid o2
    have N2 : Hid (∀ k, (sval (s1, s2, s3)).ownBlock = some k → w0.heap.size ≤ k) := fun k hk => Nat.le_trans X1.out.size (n2 k hk)
    have c2 := X2.out.cell c0
    clear x2 o2 n2
    refine ⟨_, rfl, trivial, ?_⟩
    simp only [sval]
    simp only [Act.put, List.setIfInBounds_toArray, List.set_cons_zero, List.set_cons_succ]
    refine takeE (v := ?_) 11 32 rfl rfl (by kernel_rfl) (by kernel_rfl) (by kernel_rfl) (fun _ _ _ h => h) (Or.inl ⟨by rfl, fun V hV => ?_⟩) trivial ?_
    rotate_left
    · (go_simp; try with_reducible rfl)
    simp only [Act.put, List.setIfInBounds_toArray, List.set_cons_zero, List.set_cons_succ]
    refine knownE 12 33 rfl rfl (by kernel_rfl) (by rfl) (w' := W2.alloc (.cells #[.int .i64 due, .slice s1 s2 s3] 99)) (v := .slice (some ⟨W2.heap.size, 0, none⟩) 1 1) (by go_simp; try with_reducible rfl) trivial ?_
    simp only [Act.put, List.setIfInBounds_toArray, List.set_cons_zero, List.set_cons_succ]
  case' cloB =>
    refine (CLO.out _ X1.out).mono ?_
    rintro e W2 ⟨⟨s1, s2, s3⟩, rfl, _, o2, x2, n2⟩
    have X2 := hid (X1.out.trans x2)
    have O2 := hid o2
    have N2 : Hid (∀ k, (sval (s1, s2, s3)).ownBlock = some k → w0.heap.size ≤ k) := fun k hk => Nat.le_trans X1.out.size (n2 k hk)
    have c2 := X2.out.cell c0
    clear x2 o2 n2
    refine ⟨_, rfl, trivial, ?_⟩
    simp only [sval]
    simp only [Act.put, List.setIfInBounds_toArray, List.set_cons_zero, List.set_cons_succ]
    refine takeE (v := ?_) 11 32 rfl rfl (by kernel_rfl) (by kernel_rfl) (by kernel_rfl) (fun _ _ _ h => h) (Or.inl ⟨by rfl, fun V hV => ?_⟩) trivial ?_
    rotate_left
    · (go_simp; try with_reducible rfl)
    simp only [Act.put, List.setIfInBounds_toArray, List.set_cons_zero, List.set_cons_succ]
    have c3 := ((Ext.refl W2).alloc (.cells #[.int .i64 due, .slice s1 s2 s3] 99)).cell c2
    refine bothE 4 25 12 33 rfl rfl rfl rfl (by kernel_rfl) (by kernel_rfl) (by kernel_rfl) (by rfl) (by rfl) (by rfl) (by rfl) (v := v) (u := .slice (some ⟨W2.heap.size, 0, none⟩) 1 1) (w' := W2.alloc (.cells #[.int .i64 due, .slice s1 s2 s3] 99)) (by go_simp) (by go_simp; try with_reducible rfl) (by go_simp; try with_reducible rfl) (by go_simp) trivial trivial ?lB ?mB
  case' lB =>
    clear c3
    simp only [Act.put, List.setIfInBounds_toArray, List.set_cons_zero, List.set_cons_succ]
  case' mB =>
    clear c3
    simp only [Act.put, List.setIfInBounds_toArray, List.set_cons_zero, List.set_cons_succ]
  all_goals refine callE 13 34 rfl rfl (by kernel_rfl) (by rfl) (by go_simp; first | exact ⟨rfl, rfl⟩ | rfl) ?_
  all_goals refine (INS.out W2 (s1, s2, s3) X2.out O2.out N2.out).mono ?_
  all_goals rintro e W4 ⟨v', rfl, ⟨ao, n, c, rfl⟩, h1, h2, h3⟩
  all_goals have R := hid h3
  all_goals refine ⟨_, rfl, trivial, ?_⟩
  all_goals clear h3 INS CLO DUE X1 X2 O2 N2 c1 c2
  all_goals simp only [Act.put, List.setIfInBounds_toArray, List.set_cons_zero, List.set_cons_succ]
  all_goals refine takeE (v := ?_) 14 35 rfl rfl (by kernel_rfl) (by kernel_rfl) (by kernel_rfl) (fun _ _ _ h => h) (Or.inl ⟨by rfl, fun V hV => (by (go_simp; try with_reducible rfl))⟩) trivial ?_
  all_goals simp only [Act.put, List.setIfInBounds_toArray, List.set_cons_zero, List.set_cons_succ]
  all_goals refine takeE (v := ?_) 15 36 rfl rfl (by kernel_rfl) (by kernel_rfl) (by kernel_rfl) (fun _ _ _ h => h) (Or.inl ⟨by rfl, fun V hV => (by (go_simp; try with_reducible rfl))⟩) trivial ?_
  all_goals simp only [Act.put, List.setIfInBounds_toArray, List.set_cons_zero, List.set_cons_succ]
  all_goals refine storeE 16 rfl (by kernel_rfl) (by rfl) (w' := W4.setCell ⟨b, 1, none⟩ (.slice ao n c)) (by go_simp; try with_reducible rfl) trivial ?_
  all_goals simp only [Act.put]
  all_goals refine wpAnyH_done (by kernel_rfl) ?_ _
  all_goals clear h1 h2
  all_goals generalize W4.setCell ⟨b, 1, none⟩ (.slice ao n c) = W5 at *
  all_goals go_wp2_with fail
  all_goals go_ret
  all_goals exact ⟨rfl, R.out⟩
end Go.Proofs.Ytjmgigfaiaemeaa.Pip

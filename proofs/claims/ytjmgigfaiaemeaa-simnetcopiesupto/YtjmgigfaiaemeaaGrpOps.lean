/-
  Walks of Level, Asked, Count, Members, Ask.
-/
import Derived.Test.YtjmgigfaiaemeaaGrpMem
import Derived.Test.YtjmgigfaiaemeaaMCore
namespace Go.Proofs.Ytjmgigfaiaemeaa.Grp
set_option linter.unusedVariables false
set_option maxRecDepth 100000
open Go.RowKit Go.Lib

theorem has_yes {b g cap n : Nat} {j lv : Int} {l : List Tri} {w : World} (h : Grp w b g cap n j lv l) (r : Int) (h0 : 0 ≤ r) (h1 : r < n) : Calls Try.prog 28 #[.pointer (some ⟨b, 0, none⟩), .int .i64 r] w fun e w' => e = .returned (.bool true) ∧ w' = w := by
  have := has_any b n cap _ r w h.cells.2.2
  rw [show (decide (0 ≤ r) && decide (r < (n : Int))) = true by simp; omega] at this
  exact this
theorem has_no {b g cap n : Nat} {j lv : Int} {l : List Tri} {w : World} (h : Grp w b g cap n j lv l) (r : Int) (h0 : r < 0 ∨ (n : Int) ≤ r) : Calls Try.prog 28 #[.pointer (some ⟨b, 0, none⟩), .int .i64 r] w fun e w' => e = .returned (.bool false) ∧ w' = w := by
  have := has_any b n cap _ r w h.cells.2.2
  rw [show (decide (0 ≤ r) && decide (r < (n : Int))) = false by simp; omega] at this
  exact this

/-- one number as it lies in a cell -/
def one (x : Int) : List Value := [.int .i64 x]
theorem encI : Enc one 1 := ⟨by decide, fun _ => rfl, fun x u h => by
  simp only [one, List.mem_cons, List.not_mem_nil, or_false] at h
  subst h
  rfl⟩

theorem elemsI : Elems 89 3 1 8 (.int .i64 0) := ⟨Try.underlying89, by kernel_rfl, rfl, by decide⟩

/-- who gets a layer -/
def mems (j lv : Int) (l : List Tri) (layer now : Int) (n : Nat) : List Int := if layer < 0 then [] else mem j lv l layer now n

set_option maxHeartbeats 2000000 in
theorem members_any (b g cap n : Nat) (j lv : Int) (l : List Tri) (layer now : Int) (w : World) (h : Grp w b g cap n j lv l) :
    Calls Try.prog 33 #[.pointer (some ⟨b, 0, none⟩), .int .i64 layer, .int .i64 now] w fun e w' => ∃ v', e = .returned v' ∧ NewR one 3 1 w w' v' (mems j lv l layer now n) := by
  by_cases hl : layer < 0
  · have N := hid (NewR.nil one 3 1 w)
    have e : mems j lv l layer now n = [] := by unfold mems; rw [if_pos hl]
    rw [e]
    clear h e
    go_enter Try.func33, Try.ntmps33
    go_wp2_with fail
    go_ret
    exact ⟨_, rfl, N.out⟩
  · have e : mems j lv l layer now n = mem j lv l layer now n := by unfold mems; rw [if_neg hl]
    rw [e]
    clear e
    obtain ⟨c0, c1, c2⟩ := h.cells
    have GG := hid h
    have N0 := hid (NewR.nil one 3 1 w)
    obtain ⟨r1, r2, r3⟩ := h.rows
    have R3 := hid r3
    have n64 := h.1.2.1
    unfold maxLen at r2
    clear h r3 c0 c1
    go_enter Try.func33, Try.ntmps33
    go_wp2_with fail
    go_loopw [7, 8, 9, 17] (fun m _ _ i wr => ∃ k : Nat, k ≤ n ∧ i = .int .i64 (k : Int) ∧ NewR one 3 1 w wr m (mem j lv l layer now k)) (fun _ _ _ i _ => (n - intOf i).toNat)
    case atStart => exact ⟨0, by omega, rfl, N0.out⟩
    case round =>
      obtain ⟨k, hk, rfl, N⟩ := hrel
      have X := N.2.2
      have HN := hid N
      obtain ⟨ma, mc, em, m1, m2⟩ := N.slice
      have ml := mem_length_le j lv l layer now k
      have EM := hid (And.intro em m1)
      obtain ⟨mn, emn⟩ : ∃ mn, mn = (mem j lv l layer now k).length := ⟨_, rfl⟩
      rw [← emn] at em
      clear N0 N emn m1
      subst em
      by_cases h : k < n
      · obtain ⟨x0, x1, x2⟩ := R3.out k h
        have y0 := X.cell x0
        have y1 := X.cell x1
        have y2 := X.cell x2
        have i1 : (k : Int) < (n : Int) := by omega
        have i2 : (0 : Int) ≤ (k : Int) := by omega
        obtain ⟨W, eW⟩ : ∃ W, W = wr.alloc (.cells #[.int .i64 (st j lv l k).1, .int .i64 (st j lv l k).2.1, .int .i64 (st j lv l k).2.2] 83) := ⟨_, rfl⟩
        have XW : Ext wr W := by rw [eW]; exact (Ext.refl wr).alloc _
        have G2 := GG.out.ext (X.trans XW)
        have L := hid (levelAt_any b j lv (st j lv l k) now W ⟨G2.1.2.2.1, G2.1.2.2.2.1⟩ ⟨G2.1.2.2.2.2.1, G2.1.2.2.2.2.2.1⟩ (st_fit G2.1.2.2.2.2.2.2 _) G2.cells.1 G2.cells.2.1)
        have MS := hid (mem_succ j lv l layer now k)
        have XX := hid XW
        have EW := hid eW
        clear x0 x1 x2 G2 XW eW X
        generalize lat j lv (st j lv l k) now = y at *
        generalize st j lv l k = s at *
        obtain ⟨t, lev, asked⟩ := s
        simp only at *
        go_wp2_with fail
        rw [← EW.out]
        refine L.out.mono ?_
        rintro e w1 ⟨rfl, x1⟩
        have X1 := hid (XX.out.trans x1)
        have N1 := (HN.out.ext X1.out)
        clear L x1 y0 y1 y2
        by_cases q : layer ≤ y
        · have ST := N1.step elemsI encI 89 (k : Int) (by omega)
          have ek : mem j lv l layer now (k + 1) = mem j lv l layer now k ++ [(k : Int)] := by rw [MS.out, if_pos q]
          rw [← ek] at ST
          obtain ⟨v', w', r, N2, _⟩ := ST
          have NN := hid N2
          have R := hid r
          obtain ⟨a', c', e', _⟩ := N2.slice
          obtain ⟨Y, eY⟩ : ∃ Y, Y = (mem j lv l layer now (k + 1)).length := ⟨_, rfl⟩
          rw [← eY] at e'
          clear eY
          subst e'
          clear N1 N2 r MS
          go_wp2_with (at_builtin; refine wpList_append_run _ rfl (.tmp 28) (.tmp 30) 89 89 rfl _ _ rfl rfl _ _ R.out ?_)
          go_roundw
          case rel => exact ⟨k + 1, by omega, by go_num, NN.out⟩
          case measure => simp [intOf]; omega
        · have ek : mem j lv l layer now (k + 1) = mem j lv l layer now k := by rw [MS.out, if_neg q, List.append_nil]
          have NN := hid N1
          rw [← ek] at NN
          clear N1 MS ek
          go_wp2_with fail
          go_roundw
          case rel => exact ⟨k + 1, by omega, by go_num, NN.out⟩
          case measure => simp [intOf]; omega
      · obtain rfl : k = n := by omega
        clear X
        go_wp2_with fail
        go_ret
        exact ⟨_, rfl, HN.out⟩

theorem ask_bad (b g cap n : Nat) (j lv : Int) (l : List Tri) (a : Tri) (w : World) (h : Grp w b g cap n j lv l) (hb : badAsk n a) :
    Calls Try.prog 13 #[.pointer (some ⟨b, 0, none⟩), .int .i64 a.1, .int .i64 a.2.1, .int .i64 a.2.2] w fun e w' => e = .returned (.int .i64 11) ∧ w' = w := by
  obtain ⟨r, lev, now⟩ := a
  unfold badAsk at hb
  simp only at hb ⊢
  by_cases q : r < 0 ∨ (n : Int) ≤ r
  · have H := hid (has_no h r q)
    clear h hb
    go_enter Try.func13, Try.ntmps13
    go_wp2_with fail
    refine H.out.mono ?_
    rintro e w1 ⟨rfl, rfl⟩
    go_wp2_with fail
    go_ret
    exact ⟨rfl, rfl⟩
  · have H := hid (has_yes h r (by omega) (by omega))
    have L := isLevel_any lev w
    have T := isTick_any now w
    clear h
    by_cases q2 : lev < -1 ∨ 7 < lev
    · rw [show (decide (-1 ≤ lev) && decide (lev < 8)) = false by simp; omega] at L
      have LL := hid L
      clear L T q q2 hb
      go_enter Try.func13, Try.ntmps13
      go_wp2_with fail
      refine H.out.mono ?_
      rintro e w1 ⟨rfl, rfl⟩
      go_wp2_with fail
      refine LL.out.mono ?_
      rintro e w1 ⟨rfl, rfl⟩
      go_wp2_with fail
      go_ret
      exact ⟨rfl, rfl⟩
    · rw [show (decide (-1 ≤ lev) && decide (lev < 8)) = true by simp; omega] at L
      rw [show (decide (0 ≤ now) && decide (now ≤ 1099511627776)) = false by simp; omega] at T
      have LL := hid L
      have TT := hid T
      clear L T q q2 hb
      go_enter Try.func13, Try.ntmps13
      go_wp2_with fail
      refine H.out.mono ?_
      rintro e w1 ⟨rfl, rfl⟩
      go_wp2_with fail
      refine LL.out.mono ?_
      rintro e w1 ⟨rfl, rfl⟩
      go_wp2_with fail
      refine TT.out.mono ?_
      rintro e w1 ⟨rfl, rfl⟩
      go_wp2_with fail
      go_ret
      exact ⟨rfl, rfl⟩

theorem size_rcv : (Try.prog.info? 83).map (·.size) = some 3 := by kernel_rfl

set_option maxHeartbeats 4000000 in
theorem ask_fit (b g cap n : Nat) (j lv : Int) (l : List Tri) (a : Tri) (w : World) (h : Grp w b g cap n j lv l) (hf : fit n a) :
    Calls Try.prog 13 #[.pointer (some ⟨b, 0, none⟩), .int .i64 a.1, .int .i64 a.2.1, .int .i64 a.2.2] w fun e w' => e = .returned (.int .i64 (wrg j lv n l a)) ∧ Grp w' b g cap n j lv (aft j lv n l a) ∧ Kept (fun i => i ≠ g) w w' := by
  have hb : ¬ badAsk n a := by unfold badAsk; obtain ⟨f1, f2, f3, f4, f5, f6⟩ := hf; omega
  have WR : wrg j lv n l a = if a.2.2 < (st j lv l a.1).1 then 23 else 0 := by unfold wrg; rw [if_neg hb]
  have FF := hid hf
  have GG := hid h
  obtain ⟨f1, f2, f3, f4, f5, f6⟩ := hf
  have H := hid (has_yes h a.1 f1 f2)
  have LL := isLevel_any a.2.1 w
  rw [show (decide (-1 ≤ a.2.1) && decide (a.2.1 < 8)) = true by simp; omega] at LL
  have TT := isTick_any a.2.2 w
  rw [show (decide (0 ≤ a.2.2) && decide (a.2.2 ≤ 1099511627776)) = true by simp; omega] at TT
  have L := hid LL
  have T := hid TT
  clear LL TT hb
  obtain ⟨i, ei⟩ : ∃ i : Nat, a.1 = (i : Int) := ⟨a.1.toNat, by omega⟩
  have hi : i < n := by omega
  obtain ⟨c0, c1, c2⟩ := h.cells
  obtain ⟨r1, r2, r3⟩ := h.rows
  obtain ⟨x0, x1, x2⟩ := r3 i hi
  have i1 : (i : Int) < (n : Int) := by omega
  have i2 : (0 : Int) ≤ (i : Int) := by omega
  have nb := h.ne
  have hlt := h.lt
  unfold maxLen at r2
  obtain ⟨W, eW⟩ : ∃ W, W = w.alloc (.cells #[.int .i64 (st j lv l i).1, .int .i64 (st j lv l i).2.1, .int .i64 (st j lv l i).2.2] 83) := ⟨_, rfl⟩
  have XW : Ext w W := by rw [eW]; exact (Ext.refl w).alloc _
  have b9 : W.heap[w.heap.size]? = some (.cells #[.int .i64 (st j lv l i).1, .int .i64 (st j lv l i).2.1, .int .i64 (st j lv l i).2.2] 83 (0, 0)) := by rw [eW]; exact heap_alloc_new w _
  have LA : Hid (∀ V, Ext W V → Calls Try.prog 31 #[.pointer (some ⟨b, 0, none⟩), .agg #[.int .i64 (st j lv l i).1, .int .i64 (st j lv l i).2.1, .int .i64 (st j lv l i).2.2], .int .i64 a.2.2] V fun e w' => e = .returned (.int .i64 (lat j lv (st j lv l i) a.2.2)) ∧ Ext V w') := fun V hV => by
    have G2 := h.ext (XW.trans hV)
    exact levelAt_any b j lv (st j lv l i) a.2.2 V ⟨G2.1.2.2.1, G2.1.2.2.2.1⟩ ⟨G2.1.2.2.2.2.1, G2.1.2.2.2.2.2.1⟩ (st_fit G2.1.2.2.2.2.2.2 _) G2.cells.1 G2.cells.2.1
  have PUT : Hid (∀ V, Ext W V → a.2.2 < (st j lv l i).1 ∨ ∃ V', (Instr.storeAt 83 (.pointer (some ⟨g, i * 3, none⟩)) (.agg #[.int .i64 a.2.2, .int .i64 (lat j lv (st j lv l i) a.2.2), .int .i64 a.2.1])).run Try.prog V = .ok () V' ∧ Kept (fun i => i ≠ g) V V' ∧ (Grp V' b g cap n j lv (aft j lv n l a) ∧ Kept (fun i => i ≠ g) w V')) := fun V hV => by
    by_cases q : a.2.2 < (st j lv l i).1
    · exact .inl q
    · right
      have G2 := h.ext (XW.trans hV)
      obtain ⟨V', s1, s2, s3⟩ := G2.2.2.set encT size_rcv i (ask1 j lv (st j lv l i) a) (by rw [rcs_length]; exact hi)
      have ea : aft j lv n l a = l ++ [a] := by unfold aft; rw [WR, ei, if_neg q]; rfl
      refine ⟨V', s1, s3, ⟨⟨G2.1.1, G2.1.2.1, G2.1.2.2.1, G2.1.2.2.2.1, G2.1.2.2.2.2.1, G2.1.2.2.2.2.2.1, aft_fit G2.1.2.2.2.2.2.2⟩, s3.row nb G2.2.1, ?_⟩, (Kept.of_ext (XW.trans hV)).trans s3⟩
      rw [ea, ← rcs_ask j lv l n i a ei hi]
      exact s2
  have WR2 := hid WR
  have AF : Hid (a.2.2 < (st j lv l i).1 → aft j lv n l a = l) := fun q => by unfold aft; rw [WR, ei, if_pos q]; rfl
  have XX := hid XW
  have EW := hid eW
  have B9 := hid b9
  have c2W := XW.cell c2
  have gW : g ≠ w.heap.size := by omega
  have bW : b ≠ w.heap.size := by omega
  rw [ei] at H WR2
  rw [ei]
  clear h XW eW b9 r3 WR c0 c1 ei
  generalize lat j lv (st j lv l i) a.2.2 = y at *
  generalize st j lv l i = s at *
  obtain ⟨t, lev, asked⟩ := s
  obtain ⟨ar, al, an⟩ := a
  simp only at *
  generalize wrg j lv n l (ar, al, an) = E at *
  generalize aft j lv n l (ar, al, an) = l' at *
  by_cases q : an < t
  · have e23 : E = 23 := by rw [WR2.out, if_pos q]
    subst e23
    have el := AF.out q
    subst el
    clear PUT LA AF WR2 c2W
    have R : Hid (Grp W b g cap n j lv l' ∧ Kept (fun i => i ≠ g) w W) := ⟨GG.out.ext XX.out, Kept.of_ext XX.out⟩
    go_enter Try.func13, Try.ntmps13
    go_wp2_with fail
    refine H.out.mono ?_
    rintro e w1 ⟨rfl, rfl⟩
    go_wp2_with fail
    refine L.out.mono ?_
    rintro e w1 ⟨rfl, rfl⟩
    go_wp2_with fail
    refine T.out.mono ?_
    rintro e w1 ⟨rfl, rfl⟩
    go_wp2_with fail
    go_ret
    rw [← EW.out]
    exact ⟨rfl, R.out⟩
  · have e0 : E = 0 := by rw [WR2.out, if_neg q]
    subst e0
    clear AF WR2
    go_enter Try.func13, Try.ntmps13
    go_wp2_with fail
    refine H.out.mono ?_
    rintro e w1 ⟨rfl, rfl⟩
    go_wp2_with fail
    refine L.out.mono ?_
    rintro e w1 ⟨rfl, rfl⟩
    go_wp2_with fail
    refine T.out.mono ?_
    rintro e w1 ⟨rfl, rfl⟩
    go_wp2_with fail
    rw [← EW.out]
    clear H L T
    refine wp_region_held_drew (S := fun V => Kept (fun i => i ≠ g) W V) (by kernel_rfl) (Kept.refl _ W) (fun hHeld => ?_)
    refine takeE (v := ?_) 0 35 rfl rfl (by kernel_rfl) (by kernel_rfl) (by kernel_rfl) (fun _ _ _ h => h) (Or.inl ⟨by rfl, fun V hV => ?_⟩) hHeld ?_
    rotate_left
    · (go_simp; try with_reducible rfl)
    simp only [Act.put, List.setIfInBounds_toArray, List.set_cons_zero, List.set_cons_succ]
    refine takeE (v := ?_) 1 36 rfl rfl (by kernel_rfl) (by kernel_rfl) (by kernel_rfl) (fun _ _ _ h => h) (Or.inl ⟨by rfl, fun V hV => ?_⟩) hHeld ?_
    rotate_left
    · (go_simp; try with_reducible rfl)
    simp only [Act.put, List.setIfInBounds_toArray, List.set_cons_zero, List.set_cons_succ]
    refine takeE (v := ?_) 2 37 rfl rfl (by kernel_rfl) (by kernel_rfl) (by kernel_rfl) (fun _ _ _ h => h) (Or.inl ⟨by rfl, fun V hV => ?_⟩) hHeld ?_
    rotate_left
    · (go_simp; try with_reducible rfl)
    simp only [Act.put, List.setIfInBounds_toArray, List.set_cons_zero, List.set_cons_succ]
    refine takeE (v := ?_) 3 38 rfl rfl (by kernel_rfl) (by kernel_rfl) (by kernel_rfl) (fun _ _ _ h => h) (Or.inl ⟨by rfl, fun V hV => ?_⟩) hHeld ?_
    rotate_left
    · (have y1 := hV.cell (a := ⟨b, 2, none⟩) nb c2W; go_simp; try with_reducible rfl)
    simp only [Act.put, List.setIfInBounds_toArray, List.set_cons_zero, List.set_cons_succ]
    refine takeE (v := ?_) 4 39 rfl rfl (by kernel_rfl) (by kernel_rfl) (by kernel_rfl) (fun _ _ _ h => h) (Or.inl ⟨by rfl, fun V hV => ?_⟩) hHeld ?_
    rotate_left
    · (go_simp; try with_reducible rfl)
    simp only [Act.put, List.setIfInBounds_toArray, List.set_cons_zero, List.set_cons_succ]
    refine takeE (v := ?_) 5 40 rfl rfl (by kernel_rfl) (by kernel_rfl) (by kernel_rfl) (fun _ _ _ h => h) (Or.inl ⟨by rfl, fun V hV => ?_⟩) hHeld ?_
    rotate_left
    · (go_simp; try with_reducible rfl)
    simp only [Act.put, List.setIfInBounds_toArray, List.set_cons_zero, List.set_cons_succ]
    refine takeE (v := ?_) 6 41 rfl rfl (by kernel_rfl) (by kernel_rfl) (by kernel_rfl) (fun _ _ _ h => h) (Or.inl ⟨by rfl, fun V hV => ?_⟩) hHeld ?_
    rotate_left
    · (go_simp; try with_reducible rfl)
    simp only [Act.put, List.setIfInBounds_toArray, List.set_cons_zero, List.set_cons_succ]
    refine takeE (v := .agg #[.int .i64 t, .int .i64 lev, .int .i64 asked]) 7 42 rfl rfl (by kernel_rfl) (by kernel_rfl) (by kernel_rfl) (fun _ _ _ h => h) ?_ hHeld ?_
    · exact yields_row 83 (.tmp 9) rfl (by rfl) w1.heap.size (by rfl) 83 _ (0, 0) _ (fun V hV => Kept.row hV gW.symm B9.out) Try.underlying83 rfl (by kernel_rfl)
    simp only [Act.put, List.setIfInBounds_toArray, List.set_cons_zero, List.set_cons_succ]
    refine takeE (v := ?_) 8 43 rfl rfl (by kernel_rfl) (by kernel_rfl) (by kernel_rfl) (fun _ _ _ h => h) (Or.inl ⟨by rfl, fun V hV => ?_⟩) hHeld ?_
    rotate_left
    · (go_simp; try with_reducible rfl)
    simp only [Act.put, List.setIfInBounds_toArray, List.set_cons_zero, List.set_cons_succ]
    refine takeE (v := ?_) 10 45 rfl rfl (by kernel_rfl) (by kernel_rfl) (by kernel_rfl) (fun _ _ _ h => h) (Or.inl ⟨by rfl, fun V hV => ?_⟩) hHeld ?_
    rotate_left
    · (go_simp; try with_reducible rfl)
    simp only [Act.put, List.setIfInBounds_toArray, List.set_cons_zero, List.set_cons_succ]
    refine callE 9 44 rfl rfl (by kernel_rfl) (by rfl) (by go_simp; first | exact ⟨rfl, rfl⟩ | rfl) ?_
    refine (LA.out _ ((Ext.refl W).drewN 1)).mono ?_
    rintro e W2 ⟨rfl, x2⟩
    have X2 : Hid (Ext W W2) := (show Ext W W.drew from (Ext.refl W).drewN 1).trans x2
    clear x2 LA
    refine ⟨_, rfl, Kept.of_ext X2.out, ?_⟩
    simp only [Act.put, List.setIfInBounds_toArray, List.set_cons_zero, List.set_cons_succ]
    refine takeE (v := ?_) 11 46 rfl rfl (by kernel_rfl) (by kernel_rfl) (by kernel_rfl) (fun _ _ _ h => h) (Or.inl ⟨by rfl, fun V hV => ?_⟩) (Kept.of_ext X2.out) ?_
    rotate_left
    · (go_simp; try with_reducible rfl)
    simp only [Act.put, List.setIfInBounds_toArray, List.set_cons_zero, List.set_cons_succ]
    refine takeE (v := ?_) 12 47 rfl rfl (by kernel_rfl) (by kernel_rfl) (by kernel_rfl) (fun _ _ _ h => h) (Or.inl ⟨by rfl, fun V hV => ?_⟩) (Kept.of_ext X2.out) ?_
    rotate_left
    · (go_simp; try with_reducible rfl)
    simp only [Act.put, List.setIfInBounds_toArray, List.set_cons_zero, List.set_cons_succ]
    obtain ⟨V', s1, s2, s3⟩ := (PUT.out W2 X2.out).resolve_left (Int.not_lt.2 q)
    have R := hid s3
    refine storeE 13 rfl (by kernel_rfl) (by rfl) (w' := V') (exec_store 83 (.tmp 47) (.tmp 46) rfl s1) ((Kept.of_ext X2.out).trans s2) ?_
    simp only [Act.put]
    refine wpAnyH_done (by kernel_rfl) ?_ _
    clear s1 s2 s3 PUT hHeld
    go_wp2_with fail
    go_ret
    exact ⟨rfl, R.out⟩

theorem ask_any (b g cap n : Nat) (j lv : Int) (l : List Tri) (a : Tri) (w : World) (h : Grp w b g cap n j lv l) :
    Calls Try.prog 13 #[.pointer (some ⟨b, 0, none⟩), .int .i64 a.1, .int .i64 a.2.1, .int .i64 a.2.2] w fun e w' => e = .returned (.int .i64 (wrg j lv n l a)) ∧ Grp w' b g cap n j lv (aft j lv n l a) ∧ Kept (fun i => i ≠ g) w w' := by
  by_cases hb : badAsk n a
  · refine (ask_bad b g cap n j lv l a w h hb).mono ?_
    rintro e w' ⟨rfl, rfl⟩
    have e1 : wrg j lv n l a = 11 := by unfold wrg; rw [if_pos hb]
    have e2 : aft j lv n l a = l := by unfold aft; rw [e1]; rfl
    rw [e1, e2]
    exact ⟨rfl, h, Kept.refl _ _⟩
  · exact ask_fit b g cap n j lv l a w h (fit_of_not_bad hb)
end Go.Proofs.Ytjmgigfaiaemeaa.Grp

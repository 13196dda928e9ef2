/-
  Walks of the reference's field: Seq, Rate, Rates, Ranges, Data.
-/
import Derived.Test.YtlnjkjpllmfcaaaWireText
namespace Go.Proofs.Ytlnjkjpllmfcaaa
set_option linter.unusedVariables false
set_option maxRecDepth 100000
open Go.RowKit Go.Lib


set_option maxHeartbeats 8000000 in
theorem field_seq (w : World) (p : Pk) (ra rg da : Value) (hf : fine p) :
    Calls Try.prog 34 #[.agg (prow p ra rg da), .int .u8 83] w fun e w' => e = .returned (.string (str (enc 83 p))) ∧ Ext w w' := by
  obtain ⟨n, en⟩ := Int.eq_ofNat_of_zero_le hf.1
  have nb : n < 4294967296 := by have := hf.2.1; omega
  have EN : Hid (enc 83 p = le 4 n) := by show le 4 (p.1 3).toNat = _; rw [en]; rfl
  clear hf
  obtain ⟨w1, e1⟩ : ∃ w1, w1 = w.alloc (.cells (prow p ra rg da) 35) := ⟨_, rfl⟩
  have X1 : Ext w w1 := by rw [e1]; exact (Ext.refl w).alloc _
  have g1 : w1.heap[w.heap.size]? = some (.cells (prow p ra rg da) 35 (0, 0)) := by rw [e1]; exact heap_alloc_new w _
  obtain ⟨c1, c2, c4, c5, c6, c7, c8, _⟩ := ref_cells g1
  obtain ⟨w2, e2⟩ : ∃ w2, w2 = w1.alloc (.cells (nvrow p) 87) := ⟨_, rfl⟩
  have SN : Hid ((w1.alloc (.cells #[.int .i64 0, .int .i64 0, .int .i64 0, .int .i64 0, .int .i64 0, .int .i64 0, .int .i64 0] 87)).setRow w1.heap.size (nvrow p) = w2) := by rw [e2]; exact setRow_new w1 _ _ _ _
  have GZ : Hid ((w1.alloc (.cells #[.int .i64 0, .int .i64 0, .int .i64 0, .int .i64 0, .int .i64 0, .int .i64 0, .int .i64 0] 87)).heap[w1.heap.size]? = some (.cells #[.int .i64 0, .int .i64 0, .int .i64 0, .int .i64 0, .int .i64 0, .int .i64 0, .int .i64 0] 87 (0, 0))) := heap_alloc_new w1 _
  have X2 : Ext w1 w2 := by rw [e2]; exact (Ext.refl w1).alloc _
  have g2 := X2.row g1
  have ON : Hid ((nvrow p).all (·.oneCell') = true) := by simp [Value.oneCell', Hid]
  have XX := hid (X1.trans X2)
  have E1 := hid e1
  have NE : Hid (∀ j, j < 7 → nletters.getD j 0 ≠ 83) := by
    intro j hj
    have b : j = 0 ∨ j = 1 ∨ j = 2 ∨ j = 3 ∨ j = 4 ∨ j = 5 ∨ j = 6 := by omega
    rcases b with rfl | rfl | rfl | rfl | rfl | rfl | rfl <;> decide
  have LS := hid nlet_str
  have sz : (str nletters).size = 7 := rfl
  have ln : nletters.length = 7 := rfl
  have GP := hid g2
  have cs : w2.cell? ⟨w.heap.size, 3, none⟩ = some (.int .u32 (n : Int)) := by rw [(ref_cells g2).2.2.2.2.2.2.2.1, en]
  have CB := hid (refBytes_any w2 n 4 (by omega) (by omega))
  rw [EN.out]
  clear en
  clear e1 e2 X1 X2 g1 g2
  go_enter Try.func34, Try.ntmps34
  go_wp2_with (first | rw [← E1.out] | (refine wpList_store_row rfl 87 _ _ rfl w1.heap.size (nvrow p) rfl rfl 87 #[.int .i64 0, .int .i64 0, .int .i64 0, .int .i64 0, .int .i64 0, .int .i64 0, .int .i64 0] GZ.out cells_seven rfl ON.out ?_; rw [SN.out]))
  rw [LS.out]
  generalize nletters = S at *
  clear c1 c2 c4 c5 c6 c7 c8 SN GZ ON E1
  go_loop [7] (fun i => ∃ j : Nat, j ≤ 7 ∧ i = .int .i64 j) (fun i => (7 - intOf i).toNat)
  case atStart => exact ⟨0, by omega, rfl⟩
  case round =>
    obtain ⟨j, hj, rfl⟩ := hrel
    by_cases t : j < 7
    · have t1 : (j : Int) < 7 := by omega
      have t2 : (0 : Int) ≤ (j : Int) := by omega
      have SA := hid (str_at S j (by omega))
      have EQ : ((((str S)[j]'(by rw [sz]; omega)).toNat : Int) == 83) = false := by
        have := byte_eq (S.getD j 0) 83
        rw [SA.out]
        rw [beq_eq_false_iff_ne.2 (NE.out j t)] at this
        exact this
      go_wp2_with fail
      exact ⟨⟨j + 1, by omega, by go_num⟩, by simp [intOf]; omega⟩
    · obtain rfl : j = 7 := by omega
      go_wp2_with fail
      refine CB.out.mono ?_
      rintro e w3 ⟨rfl, X3⟩
      have Y := hid (XX.out.trans X3)
      clear X3 CB
      go_wp2_with fail
      go_ret
      exact ⟨rfl, Y.out⟩

set_option maxHeartbeats 8000000 in
theorem field_rate (w : World) (p : Pk) (ra rg da : Value) (hf : fine p) :
    Calls Try.prog 34 #[.agg (prow p ra rg da), .int .u8 82] w fun e w' => e = .returned (.string (str (enc 82 p))) ∧ Ext w w' := by
  obtain ⟨n, en⟩ := Int.eq_ofNat_of_zero_le hf.2.2.1
  have nb : n < 18446744073709551616 := by have := hf.2.2.2; omega
  have EN : Hid (enc 82 p = le 8 n) := by show le 8 (p.1 9).toNat = _; rw [en]; rfl
  clear hf
  obtain ⟨w1, e1⟩ : ∃ w1, w1 = w.alloc (.cells (prow p ra rg da) 35) := ⟨_, rfl⟩
  have X1 : Ext w w1 := by rw [e1]; exact (Ext.refl w).alloc _
  have g1 : w1.heap[w.heap.size]? = some (.cells (prow p ra rg da) 35 (0, 0)) := by rw [e1]; exact heap_alloc_new w _
  obtain ⟨c1, c2, c4, c5, c6, c7, c8, _⟩ := ref_cells g1
  obtain ⟨w2, e2⟩ : ∃ w2, w2 = w1.alloc (.cells (nvrow p) 87) := ⟨_, rfl⟩
  have SN : Hid ((w1.alloc (.cells #[.int .i64 0, .int .i64 0, .int .i64 0, .int .i64 0, .int .i64 0, .int .i64 0, .int .i64 0] 87)).setRow w1.heap.size (nvrow p) = w2) := by rw [e2]; exact setRow_new w1 _ _ _ _
  have GZ : Hid ((w1.alloc (.cells #[.int .i64 0, .int .i64 0, .int .i64 0, .int .i64 0, .int .i64 0, .int .i64 0, .int .i64 0] 87)).heap[w1.heap.size]? = some (.cells #[.int .i64 0, .int .i64 0, .int .i64 0, .int .i64 0, .int .i64 0, .int .i64 0, .int .i64 0] 87 (0, 0))) := heap_alloc_new w1 _
  have X2 : Ext w1 w2 := by rw [e2]; exact (Ext.refl w1).alloc _
  have g2 := X2.row g1
  have ON : Hid ((nvrow p).all (·.oneCell') = true) := by simp [Value.oneCell', Hid]
  have XX := hid (X1.trans X2)
  have E1 := hid e1
  have NE : Hid (∀ j, j < 7 → nletters.getD j 0 ≠ 82) := by
    intro j hj
    have b : j = 0 ∨ j = 1 ∨ j = 2 ∨ j = 3 ∨ j = 4 ∨ j = 5 ∨ j = 6 := by omega
    rcases b with rfl | rfl | rfl | rfl | rfl | rfl | rfl <;> decide
  have LS := hid nlet_str
  have sz : (str nletters).size = 7 := rfl
  have ln : nletters.length = 7 := rfl
  have GP := hid g2
  have cs : w2.cell? ⟨w.heap.size, 9, none⟩ = some (.int .u64 (n : Int)) := by rw [(ref_cells g2).2.2.2.2.2.2.2.2.1, en]
  have CB := hid (refBytes_any w2 n 8 (by omega) (by omega))
  rw [EN.out]
  clear en
  clear e1 e2 X1 X2 g1 g2
  go_enter Try.func34, Try.ntmps34
  go_wp2_with (first | rw [← E1.out] | (refine wpList_store_row rfl 87 _ _ rfl w1.heap.size (nvrow p) rfl rfl 87 #[.int .i64 0, .int .i64 0, .int .i64 0, .int .i64 0, .int .i64 0, .int .i64 0, .int .i64 0] GZ.out cells_seven rfl ON.out ?_; rw [SN.out]))
  rw [LS.out]
  generalize nletters = S at *
  clear c1 c2 c4 c5 c6 c7 c8 SN GZ ON E1
  go_loop [7] (fun i => ∃ j : Nat, j ≤ 7 ∧ i = .int .i64 j) (fun i => (7 - intOf i).toNat)
  case atStart => exact ⟨0, by omega, rfl⟩
  case round =>
    obtain ⟨j, hj, rfl⟩ := hrel
    by_cases t : j < 7
    · have t1 : (j : Int) < 7 := by omega
      have t2 : (0 : Int) ≤ (j : Int) := by omega
      have SA := hid (str_at S j (by omega))
      have EQ : ((((str S)[j]'(by rw [sz]; omega)).toNat : Int) == 82) = false := by
        have := byte_eq (S.getD j 0) 82
        rw [SA.out]
        rw [beq_eq_false_iff_ne.2 (NE.out j t)] at this
        exact this
      go_wp2_with fail
      exact ⟨⟨j + 1, by omega, by go_num⟩, by simp [intOf]; omega⟩
    · obtain rfl : j = 7 := by omega
      go_wp2_with fail
      refine CB.out.mono ?_
      rintro e w3 ⟨rfl, X3⟩
      have Y := hid (XX.out.trans X3)
      clear X3 CB
      go_wp2_with fail
      go_ret
      exact ⟨rfl, Y.out⟩

theorem le_one (n : Nat) : le 1 n = [UInt8.ofNat n] := rfl
theorem str_cons (x : UInt8) (l : List UInt8) : str (x :: l) = str [x] ++ str l := str_append [x] l

set_option maxHeartbeats 8000000 in
theorem field_data (w : World) (p : Pk) (ra rg da : Value) (hv : RowK (fun _ => True) w da 1 (bcells p.2.2.2)) (hd : p.2.2.2.length ≤ 1000) :
    Calls Try.prog 34 #[.agg (prow p ra rg da), .int .u8 68] w fun e w' => e = .returned (.string (str (enc 68 p))) ∧ Ext w w' := by
  have EN : Hid (str (enc 68 p) = str (le 1 p.2.2.2.length) ++ str p.2.2.2) := str_cons _ _
  have BD : Hid (Bytes w da p.2.2.2) := by
    obtain ⟨ao, n, c, rfl, h1, h2, h3, h4⟩ := hv
    rw [bcells_length, Nat.mul_one] at h1
    subst h1
    refine ⟨ao, c, rfl, h2, h3, fun k hk => ?_⟩
    obtain ⟨g, o, e, _, hc⟩ := h4 (by omega)
    exact ⟨g, o, e, block_lt_of_cell (hc k _ (bcells_at _ k hk)), hc k _ (bcells_at _ k hk)⟩
  obtain ⟨ao, n, c, rfl, h1, h2, h3, h4⟩ := hv
  rw [bcells_length, Nat.mul_one] at h1
  subst h1
  unfold maxLen at h3
  clear h4
  obtain ⟨L, eL⟩ : ∃ L, L = p.2.2.2.length := ⟨_, rfl⟩
  rw [← eL] at EN h2 hd ⊢
  have z1 : (str (le 1 L)).size = 1 := rfl
  have z2 : (str p.2.2.2).size = L := by rw [str_size, eL]
  obtain ⟨w1, e1⟩ : ∃ w1, w1 = w.alloc (.cells (prow p ra rg (.slice ao L c)) 35) := ⟨_, rfl⟩
  have X1 : Ext w w1 := by rw [e1]; exact (Ext.refl w).alloc _
  have g1 : w1.heap[w.heap.size]? = some (.cells (prow p ra rg (.slice ao L c)) 35 (0, 0)) := by rw [e1]; exact heap_alloc_new w _
  obtain ⟨c1, c2, c4, c5, c6, c7, c8, _⟩ := ref_cells g1
  obtain ⟨w2, e2⟩ : ∃ w2, w2 = w1.alloc (.cells (nvrow p) 87) := ⟨_, rfl⟩
  have SN : Hid ((w1.alloc (.cells #[.int .i64 0, .int .i64 0, .int .i64 0, .int .i64 0, .int .i64 0, .int .i64 0, .int .i64 0] 87)).setRow w1.heap.size (nvrow p) = w2) := by rw [e2]; exact setRow_new w1 _ _ _ _
  have GZ : Hid ((w1.alloc (.cells #[.int .i64 0, .int .i64 0, .int .i64 0, .int .i64 0, .int .i64 0, .int .i64 0, .int .i64 0] 87)).heap[w1.heap.size]? = some (.cells #[.int .i64 0, .int .i64 0, .int .i64 0, .int .i64 0, .int .i64 0, .int .i64 0, .int .i64 0] 87 (0, 0))) := heap_alloc_new w1 _
  have X2 : Ext w1 w2 := by rw [e2]; exact (Ext.refl w1).alloc _
  have g2 := X2.row g1
  have ON : Hid ((nvrow p).all (·.oneCell') = true) := by simp [Value.oneCell', Hid]
  have XX := hid (X1.trans X2)
  have E1 := hid e1
  have NE : Hid (∀ j, j < 7 → nletters.getD j 0 ≠ 68) := by
    intro j hj
    have b : j = 0 ∨ j = 1 ∨ j = 2 ∨ j = 3 ∨ j = 4 ∨ j = 5 ∨ j = 6 := by omega
    rcases b with rfl | rfl | rfl | rfl | rfl | rfl | rfl <;> decide
  have LS := hid nlet_str
  have sz : (str nletters).size = 7 := rfl
  have ln : nletters.length = 7 := rfl
  have GP := hid g2
  have CE : ∀ n : Ever w2, n.W.cell? ⟨w.heap.size, 12, none⟩ = some (.slice ao L c) := fun n => (ref_cells (n.ok.row g2)).2.2.2.2.2.2.2.2.2.2.2
  have CV : ∀ n : Ever w2, (convert 27 9 (.slice ao L c)).run Try.prog n.W = .ok (.string (str p.2.2.2)) n.W := fun n => by rw [eL]; exact ((BD.out.ext XX.out).ext n.ok).str
  have CBE : Hid (∀ n : Ever w2, Calls Try.prog 33 #[.int .u64 (L : Int), .int .i64 1] n.W fun e w' => e = .returned (.string (str (le 1 L))) ∧ Ext n.W w') := fun n => refBytes_any n.W L 1 (by omega) (by omega)
  rw [EN.out]
  generalize str (le 1 L) = S1 at *
  generalize str p.2.2.2 = S2 at *
  clear eL BD
  clear e1 e2 X1 X2 g1 g2
  go_enter Try.func34, Try.ntmps34
  go_wp2_with (first | rw [← E1.out] | (refine wpList_store_row rfl 87 _ _ rfl w1.heap.size (nvrow p) rfl rfl 87 #[.int .i64 0, .int .i64 0, .int .i64 0, .int .i64 0, .int .i64 0, .int .i64 0, .int .i64 0] GZ.out cells_seven rfl ON.out ?_; rw [SN.out]))
  rw [LS.out]
  generalize nletters = S at *
  clear c1 c2 c4 c5 c6 c7 c8 SN GZ ON E1
  go_loop [7] (fun i => ∃ j : Nat, j ≤ 7 ∧ i = .int .i64 j) (fun i => (7 - intOf i).toNat)
  case atStart => exact ⟨0, by omega, rfl⟩
  case round =>
    obtain ⟨j, hj, rfl⟩ := hrel
    by_cases t : j < 7
    · have t1 : (j : Int) < 7 := by omega
      have t2 : (0 : Int) ≤ (j : Int) := by omega
      have SA := hid (str_at S j (by omega))
      have EQ : ((((str S)[j]'(by rw [sz]; omega)).toNat : Int) == 68) = false := by
        have := byte_eq (S.getD j 0) 68
        rw [SA.out]
        rw [beq_eq_false_iff_ne.2 (NE.out j t)] at this
        exact this
      go_wp2_with fail
      exact ⟨⟨j + 1, by omega, by go_num⟩, by simp [intOf]; omega⟩
    · obtain rfl : j = 7 := by omega
      go_wp2_with fail
      refine wp_region_ext (by kernel_rfl) (by kernel_rfl) ?_
      have some := Ever.some w2
      repeat (go_big_quiet_step ((go_at_call 33; refine (CBE.out _).mono ?_; rintro e w' ⟨rfl, Y⟩; exact ⟨rfl, ⟨_, (Ever.ok _).trans Y⟩, rfl⟩)))
      refine wpQuiet_nil ?_
      rintro w3 ⟨⟨_, x3⟩, rfl⟩
      have Y := hid (XX.out.trans x3)
      clear x3 CE CV CBE some
      go_wp2_with fail
      go_ret
      exact ⟨rfl, Y.out⟩

theorem str_head (x : UInt8) (l m : List UInt8) : str (x :: (l ++ m)) = str (x :: l) ++ str m := str_append (x :: l) m

set_option maxHeartbeats 8000000 in
theorem field_rates (w : World) (p : Pk) (ra rg da : Value) (hv : RowK (fun _ => True) w ra 1 (acells p.2.1)) (hd : p.2.1.length ≤ 1000) :
    Calls Try.prog 34 #[.agg (prow p ra rg da), .int .u8 65] w fun e w' => e = .returned (.string (str (enc 65 p))) ∧ Ext w w' := by
  obtain ⟨ao, n, c, rfl, h1, h2, h3, h4⟩ := hv
  rw [acells_length, Nat.mul_one] at h1
  subst h1
  unfold maxLen at h3
  have H4 := hid h4
  have EN : enc 65 p = UInt8.ofNat p.2.1.length :: encA p.2.1 := rfl
  rw [EN]
  clear h4 EN
  generalize p.2.1 = rs at *
  obtain ⟨w1, e1⟩ : ∃ w1, w1 = w.alloc (.cells (prow p (.slice ao rs.length c) rg da) 35) := ⟨_, rfl⟩
  have X1 : Ext w w1 := by rw [e1]; exact (Ext.refl w).alloc _
  have g1 : w1.heap[w.heap.size]? = some (.cells (prow p (.slice ao rs.length c) rg da) 35 (0, 0)) := by rw [e1]; exact heap_alloc_new w _
  obtain ⟨c1, c2, c4, c5, c6, c7, c8, _⟩ := ref_cells g1
  obtain ⟨w2, e2⟩ : ∃ w2, w2 = w1.alloc (.cells (nvrow p) 87) := ⟨_, rfl⟩
  have SN : Hid ((w1.alloc (.cells #[.int .i64 0, .int .i64 0, .int .i64 0, .int .i64 0, .int .i64 0, .int .i64 0, .int .i64 0] 87)).setRow w1.heap.size (nvrow p) = w2) := by rw [e2]; exact setRow_new w1 _ _ _ _
  have GZ : Hid ((w1.alloc (.cells #[.int .i64 0, .int .i64 0, .int .i64 0, .int .i64 0, .int .i64 0, .int .i64 0, .int .i64 0] 87)).heap[w1.heap.size]? = some (.cells #[.int .i64 0, .int .i64 0, .int .i64 0, .int .i64 0, .int .i64 0, .int .i64 0, .int .i64 0] 87 (0, 0))) := heap_alloc_new w1 _
  have X2 : Ext w1 w2 := by rw [e2]; exact (Ext.refl w1).alloc _
  have g2 := X2.row g1
  have ON : Hid ((nvrow p).all (·.oneCell') = true) := by simp [Value.oneCell', Hid]
  have XX := hid (X1.trans X2)
  have E1 := hid e1
  have NE : Hid (∀ j, j < 7 → nletters.getD j 0 ≠ 65) := by
    intro j hj
    have b : j = 0 ∨ j = 1 ∨ j = 2 ∨ j = 3 ∨ j = 4 ∨ j = 5 ∨ j = 6 := by omega
    rcases b with rfl | rfl | rfl | rfl | rfl | rfl | rfl <;> decide
  have LS := hid nlet_str
  have sz : (str nletters).size = 7 := rfl
  have ln : nletters.length = 7 := rfl
  have GP := hid g2
  have c10 : w2.cell? ⟨w.heap.size, 10, none⟩ = some (.slice ao rs.length c) := (ref_cells g2).2.2.2.2.2.2.2.2.2.1
  have CB := hid (refBytes_any w2 rs.length 1 (by omega) (by omega))
  clear e1 e2 X1 X2 g1 g2
  go_enter Try.func34, Try.ntmps34
  go_wp2_with (first | rw [← E1.out] | (refine wpList_store_row rfl 87 _ _ rfl w1.heap.size (nvrow p) rfl rfl 87 #[.int .i64 0, .int .i64 0, .int .i64 0, .int .i64 0, .int .i64 0, .int .i64 0, .int .i64 0] GZ.out cells_seven rfl ON.out ?_; rw [SN.out]))
  rw [LS.out]
  generalize nletters = S at *
  clear c1 c2 c4 c5 c6 c7 c8 SN GZ ON E1
  go_loop [7] (fun i => ∃ j : Nat, j ≤ 7 ∧ i = .int .i64 j) (fun i => (7 - intOf i).toNat)
  case atStart => exact ⟨0, by omega, rfl⟩
  case round =>
    obtain ⟨j, hj, rfl⟩ := hrel
    by_cases t : j < 7
    · have t1 : (j : Int) < 7 := by omega
      have t2 : (0 : Int) ≤ (j : Int) := by omega
      have SA := hid (str_at S j (by omega))
      have EQ : ((((str S)[j]'(by rw [sz]; omega)).toNat : Int) == 65) = false := by
        have := byte_eq (S.getD j 0) 65
        rw [SA.out]
        rw [beq_eq_false_iff_ne.2 (NE.out j t)] at this
        exact this
      go_wp2_with fail
      exact ⟨⟨j + 1, by omega, by go_num⟩, by simp [intOf]; omega⟩
    · obtain rfl : j = 7 := by omega
      go_wp2_with fail
      refine CB.out.mono ?_
      rintro e w3 ⟨rfl, X3⟩
      have G3 := hid (X3.row GP.out)
      have Y3 := hid (XX.out.trans X3)
      have LO := hid (le_one rs.length)
      rw [LO.out]
      clear X3 CB c10
      go_wp2_with fail
      go_loopw [8, 9] (fun s i wr => ∃ k : Nat, k ≤ rs.length ∧ i = .int .i64 k ∧ s = .string (str (UInt8.ofNat rs.length :: encA (rs.take k))) ∧ wr.heap[w.heap.size]? = some (.cells (prow p (.slice ao rs.length c) rg da) 35 (0, 0)) ∧ Ext w wr) (fun _ i _ => (rs.length - intOf i).toNat)
      case atStart => exact ⟨0, by omega, rfl, rfl, G3.out, Y3.out⟩
      case round =>
        obtain ⟨k, hk, rfl, rfl, hg, hx⟩ := hrel
        have cr : wr.cell? ⟨w.heap.size, 10, none⟩ = some (.slice ao rs.length c) := (ref_cells hg).2.2.2.2.2.2.2.2.2.1
        by_cases t : k < rs.length
        · obtain ⟨b, o, rfl, _, hc⟩ := H4.out (by omega)
          have x1 := hx.cell (hc k _ (acells_at rs k t))
          have CB := hid (refBytes_any wr (rs.getD k 0).toNat 8 (rs.getD k 0).toNat_lt (by omega))
          have TS : Hid (str (UInt8.ofNat rs.length :: encA (rs.take (k + 1))) = str (UInt8.ofNat rs.length :: encA (rs.take k)) ++ str (le 8 (rs.getD k 0).toNat)) := by
            show _ = _
            rw [take_snocA rs k t, encA_snoc, str_head]
          have z1 : (str (UInt8.ofNat rs.length :: encA (rs.take k))).size ≤ 100000 := by rw [str_size, List.length_cons, encA_length, List.length_take]; omega
          have z2 : (str (le 8 (rs.getD k 0).toNat)).size = 8 := rfl
          have HG := hid hg
          have HX := hid hx
          generalize str (le 8 (rs.getD k 0).toNat) = S1 at *
          generalize str (UInt8.ofNat rs.length :: encA (rs.take k)) = S2 at *
          generalize (rs.getD k 0).toNat = x at *
          have t1 : (k : Int) < (rs.length : Int) := by omega
          have t2 : (0 : Int) ≤ (k : Int) := by omega
          clear hc hg hx
          go_wp2_with fail
          refine CB.out.mono ?_
          rintro e w4 ⟨rfl, X4⟩
          have R4 := hid (And.intro (X4.row HG.out) (HX.out.trans X4))
          clear X4 CB x1 cr
          go_wp2_with fail
          go_roundw
          case rel => exact ⟨k + 1, by omega, by go_num, by rw [TS.out], R4.1, R4.2⟩
          case measure => simp [intOf]; omega
        · obtain rfl : k = rs.length := by omega
          rw [List.take_length]
          have HX := hid hx
          clear hg hx
          go_wp2_with fail
          go_ret
          exact ⟨rfl, HX.out⟩

set_option maxHeartbeats 8000000 in
theorem field_ranges (w : World) (p : Pk) (ra rg da : Value) (hv : RowK (fun _ => True) w rg 2 (gcells p.2.2.1)) (hd : p.2.2.1.length ≤ 1000) :
    Calls Try.prog 34 #[.agg (prow p ra rg da), .int .u8 71] w fun e w' => e = .returned (.string (str (enc 71 p))) ∧ Ext w w' := by
  obtain ⟨ao, n, c, rfl, h1, h2, h3, h4⟩ := hv
  rw [gcells_length] at h1
  have hn : n = p.2.2.1.length := by omega
  subst hn
  clear h1
  unfold maxLen at h3
  have H4 := hid h4
  have EN : enc 71 p = UInt8.ofNat p.2.2.1.length :: encG p.2.2.1 := rfl
  rw [EN]
  clear h4 EN
  generalize p.2.2.1 = gs at *
  obtain ⟨w1, e1⟩ : ∃ w1, w1 = w.alloc (.cells (prow p ra (.slice ao gs.length c) da) 35) := ⟨_, rfl⟩
  have X1 : Ext w w1 := by rw [e1]; exact (Ext.refl w).alloc _
  have g1 : w1.heap[w.heap.size]? = some (.cells (prow p ra (.slice ao gs.length c) da) 35 (0, 0)) := by rw [e1]; exact heap_alloc_new w _
  obtain ⟨c1, c2, c4, c5, c6, c7, c8, _⟩ := ref_cells g1
  obtain ⟨w2, e2⟩ : ∃ w2, w2 = w1.alloc (.cells (nvrow p) 87) := ⟨_, rfl⟩
  have SN : Hid ((w1.alloc (.cells #[.int .i64 0, .int .i64 0, .int .i64 0, .int .i64 0, .int .i64 0, .int .i64 0, .int .i64 0] 87)).setRow w1.heap.size (nvrow p) = w2) := by rw [e2]; exact setRow_new w1 _ _ _ _
  have GZ : Hid ((w1.alloc (.cells #[.int .i64 0, .int .i64 0, .int .i64 0, .int .i64 0, .int .i64 0, .int .i64 0, .int .i64 0] 87)).heap[w1.heap.size]? = some (.cells #[.int .i64 0, .int .i64 0, .int .i64 0, .int .i64 0, .int .i64 0, .int .i64 0, .int .i64 0] 87 (0, 0))) := heap_alloc_new w1 _
  have X2 : Ext w1 w2 := by rw [e2]; exact (Ext.refl w1).alloc _
  have g2 := X2.row g1
  have ON : Hid ((nvrow p).all (·.oneCell') = true) := by simp [Value.oneCell', Hid]
  have XX := hid (X1.trans X2)
  have E1 := hid e1
  have NE : Hid (∀ j, j < 7 → nletters.getD j 0 ≠ 71) := by
    intro j hj
    have b : j = 0 ∨ j = 1 ∨ j = 2 ∨ j = 3 ∨ j = 4 ∨ j = 5 ∨ j = 6 := by omega
    rcases b with rfl | rfl | rfl | rfl | rfl | rfl | rfl <;> decide
  have LS := hid nlet_str
  have sz : (str nletters).size = 7 := rfl
  have ln : nletters.length = 7 := rfl
  have GP := hid g2
  have c11 : w2.cell? ⟨w.heap.size, 11, none⟩ = some (.slice ao gs.length c) := (ref_cells g2).2.2.2.2.2.2.2.2.2.2.1
  have CB := hid (refBytes_any w2 gs.length 1 (by omega) (by omega))
  clear e1 e2 X1 X2 g1 g2
  go_enter Try.func34, Try.ntmps34
  go_wp2_with (first | rw [← E1.out] | (refine wpList_store_row rfl 87 _ _ rfl w1.heap.size (nvrow p) rfl rfl 87 #[.int .i64 0, .int .i64 0, .int .i64 0, .int .i64 0, .int .i64 0, .int .i64 0, .int .i64 0] GZ.out cells_seven rfl ON.out ?_; rw [SN.out]))
  rw [LS.out]
  generalize nletters = S at *
  clear c1 c2 c4 c5 c6 c7 c8 SN GZ ON E1
  go_loop [7] (fun i => ∃ j : Nat, j ≤ 7 ∧ i = .int .i64 j) (fun i => (7 - intOf i).toNat)
  case atStart => exact ⟨0, by omega, rfl⟩
  case round =>
    obtain ⟨j, hj, rfl⟩ := hrel
    by_cases t : j < 7
    · have t1 : (j : Int) < 7 := by omega
      have t2 : (0 : Int) ≤ (j : Int) := by omega
      have SA := hid (str_at S j (by omega))
      have EQ : ((((str S)[j]'(by rw [sz]; omega)).toNat : Int) == 71) = false := by
        have := byte_eq (S.getD j 0) 71
        rw [SA.out]
        rw [beq_eq_false_iff_ne.2 (NE.out j t)] at this
        exact this
      go_wp2_with fail
      exact ⟨⟨j + 1, by omega, by go_num⟩, by simp [intOf]; omega⟩
    · obtain rfl : j = 7 := by omega
      go_wp2_with fail
      refine CB.out.mono ?_
      rintro e w3 ⟨rfl, X3⟩
      have G3 := hid (X3.row GP.out)
      have Y3 := hid (XX.out.trans X3)
      have LO := hid (le_one gs.length)
      rw [LO.out]
      clear X3 CB c11
      go_wp2_with fail
      go_loopw [8, 10] (fun s i wr => ∃ k : Nat, k ≤ gs.length ∧ i = .int .i64 k ∧ s = .string (str (UInt8.ofNat gs.length :: encG (gs.take k))) ∧ wr.heap[w.heap.size]? = some (.cells (prow p ra (.slice ao gs.length c) da) 35 (0, 0)) ∧ Ext w wr) (fun _ i _ => (gs.length - intOf i).toNat)
      case atStart => exact ⟨0, by omega, rfl, rfl, G3.out, Y3.out⟩
      case round =>
        obtain ⟨k, hk, rfl, rfl, hg, hx⟩ := hrel
        have cr : wr.cell? ⟨w.heap.size, 11, none⟩ = some (.slice ao gs.length c) := (ref_cells hg).2.2.2.2.2.2.2.2.2.2.1
        by_cases t : k < gs.length
        · obtain ⟨b, o, rfl, _, hc⟩ := H4.out (by omega)
          obtain ⟨w8, rfl⟩ : ∃ w8, w8 = wr := ⟨_, rfl⟩
          have e11 : ∀ n : Ever w8, n.W.cell? ⟨w.heap.size, 11, none⟩ = some (.slice (some ⟨b, o, none⟩) gs.length c) := fun n => n.ok.cell cr
          have x1 : ∀ n : Ever w8, n.W.cell? ⟨b, o + k * 2, none⟩ = some (.int .i64 (gs.getD k (0, 0)).1) := fun n => (hx.trans n.ok).cell (hc _ _ (gcells_at gs k t).1)
          have x2 : ∀ n : Ever w8, n.W.cell? ⟨b, o + k * 2 + 1, none⟩ = some (.int .i64 (gs.getD k (0, 0)).2) := fun n => by rw [Nat.add_assoc]; exact (hx.trans n.ok).cell (hc _ _ (gcells_at gs k t).2)
          have CB1 : Hid (∀ n : Ever w8, Calls Try.prog 33 #[.int .u64 (u64 (gs.getD k (0, 0)).1 : Int), .int .i64 8] n.W fun e w' => e = .returned (.string (str (le 8 (u64 (gs.getD k (0, 0)).1)))) ∧ Ext n.W w') := fun n => refBytes_any n.W _ 8 (u64_lt _) (by omega)
          have CB2 : Hid (∀ n : Ever w8, Calls Try.prog 33 #[.int .u64 (u64 (gs.getD k (0, 0)).2 : Int), .int .i64 8] n.W fun e w' => e = .returned (.string (str (le 8 (u64 (gs.getD k (0, 0)).2)))) ∧ Ext n.W w') := fun n => refBytes_any n.W _ 8 (u64_lt _) (by omega)
          have TS : Hid (str (UInt8.ofNat gs.length :: encG (gs.take (k + 1))) = str (UInt8.ofNat gs.length :: encG (gs.take k)) ++ (str (le 8 (u64 (gs.getD k (0, 0)).1)) ++ str (le 8 (u64 (gs.getD k (0, 0)).2)))) := by
            show _ = _
            rw [take_snocG gs k t, encG_snoc, str_head, str_append (le 8 _) (le 8 _)]
          have z1 : (str (UInt8.ofNat gs.length :: encG (gs.take k))).size ≤ 100000 := by rw [str_size, List.length_cons, encG_length, List.length_take]; omega
          have z2 : (str (le 8 (u64 (gs.getD k (0, 0)).1))).size = 8 := rfl
          have z3 : (str (le 8 (u64 (gs.getD k (0, 0)).2))).size = 8 := rfl
          have z4 : (str (le 8 (u64 (gs.getD k (0, 0)).1)) ++ str (le 8 (u64 (gs.getD k (0, 0)).2))).size = 16 := rfl
          have U1 := u64_val (gs.getD k (0, 0)).1
          have U2 := u64_val (gs.getD k (0, 0)).2
          have HG := hid hg
          have HX := hid hx
          generalize str (le 8 (u64 (gs.getD k (0, 0)).1)) = S1 at *
          generalize str (le 8 (u64 (gs.getD k (0, 0)).2)) = S3 at *
          generalize str (UInt8.ofNat gs.length :: encG (gs.take k)) = S2 at *
          generalize (gs.getD k (0, 0)).1 = x at *
          generalize (gs.getD k (0, 0)).2 = y at *
          generalize u64 x = ux at *
          generalize u64 y = uy at *
          have t1 : (k : Int) < (gs.length : Int) := by omega
          have t2 : (0 : Int) ≤ (k : Int) := by omega
          clear hc hg hx
          go_wp2_with fail
          refine wp_region_ext (by kernel_rfl) (by kernel_rfl) ?_
          have some := Ever.some w8
          iterate 8 go_big_quiet_step (fail)
          go_big_quiet_step ((go_at_call 33; refine (CB1.out _).mono ?_; rintro e w' ⟨rfl, Y⟩; exact ⟨rfl, ⟨_, (Ever.ok _).trans Y⟩, rfl⟩))
          iterate 7 go_big_quiet_step (fail)
          go_big_quiet_step ((go_at_call 33; refine (CB2.out _).mono ?_; rintro e w' ⟨rfl, Y⟩; exact ⟨rfl, ⟨_, (Ever.ok _).trans Y⟩, rfl⟩))
          repeat (go_big_quiet_step (fail))
          refine wpQuiet_nil ?_
          rintro w4 ⟨⟨_, x4⟩, rfl⟩
          have R4 := hid (And.intro (x4.row HG.out) (HX.out.trans x4))
          clear x4 e11 x1 x2 CB1 CB2 cr some
          go_wp2_with fail
          go_roundw
          case rel => exact ⟨k + 1, by omega, by go_num, by rw [TS.out], R4.1, R4.2⟩
          case measure => simp [intOf]; omega
        · obtain rfl : k = gs.length := by omega
          rw [List.take_length]
          have HX := hid hx
          clear hg hx
          go_wp2_with fail
          go_ret
          exact ⟨rfl, HX.out⟩
end Go.Proofs.Ytlnjkjpllmfcaaa

/-
  The walk of WireParses: any bytes are a right packet's, or none: what is read has just these bytes.
-/
import Derived.Test.YtlnjkjpllmfcaaaWireBytesW
namespace Go.Proofs.Ytlnjkjpllmfcaaa
set_option linter.unusedVariables false
set_option maxRecDepth 100000
open Go.RowKit Go.Lib

theorem slim_of_right {p : Pk} (h : right p = true) : slim p := by
  obtain ⟨_, hk⟩ := right_parts h
  have ha := hk 65 (by decide)
  have hg := hk 71 (by decide)
  have hd := hk 68 (by decide)
  unfold okc at ha hg hd
  refine ⟨?_, ?_, ?_⟩
  · split at ha <;> simp [fits, blank, oneto] at ha <;> first | omega | simp [ha]
  · split at hg <;> simp [fits, blank, oneto] at hg <;> first | omega | simp [hg]
  · split at hd <;> simp [fits, blank, oneto] at hd <;> first | omega | simp [hd]
theorem pparse_short {b : List UInt8} (h : b.length < 4) : pparse b = (21, pnone) := by
  unfold pparse copens
  rw [if_neg (by omega)]
  have : decide (4 ≤ b.length) = false := by simp; omega
  rw [this]
  rfl
theorem pparse_long {b : List UInt8} (h : 320 < b.length) : pparse b = (21, pnone) := by
  unfold pparse
  rw [if_pos h]
theorem pparse_no {b : List UInt8} (h : copens b = false) : pparse b = (21, pnone) := by
  unfold pparse
  rw [h]
  split <;> rfl
theorem pparse_yes {b : List UInt8} (hl : b.length ≤ 320) (h : copens b = true) : pparse b = pbody (b.take (b.length - 4)) := by
  unfold pparse
  rw [if_neg (by omega), if_pos h]
theorem take_head {b : List UInt8} {m : Nat} (h : 0 < m) : (b.take m).getD 0 0 = b.getD 0 0 := by
  rw [List.getD_eq_getElem?_getD, List.getD_eq_getElem?_getD, List.getElem?_take_of_lt h]

namespace wireParses
set_option maxHeartbeats 8000000 in
theorem walk (v0 : Value) (b : List UInt8) (w : World) (hv : Bytes w v0 b) :
    Calls Try.prog 4 #[v0] w fun e w' => e = .returned (.bool true) ∧ Ext w w' := by
  have HB := hid hv
  obtain ⟨ao, cb, rfl, q1, q2, _⟩ := hv
  unfold maxLen at q2
  by_cases t1 : 600 < b.length
  · have t1' : (600 : Int) < (b.length : Int) := by omega
    go_enter Try.func4, Try.ntmps4
    go_wp2_with fail
    refine (awake7_any _).mono ?_
    rintro e w' ⟨rfl, X⟩
    go_wp2_with fail
    go_ret
    exact ⟨rfl, X⟩
  · have t1' : decide ((600 : Int) < (b.length : Int)) = false := by simp; omega
    have lb : b.length ≤ 600 := by omega
    obtain ⟨R, eR⟩ : ∃ R, R = pparse b := ⟨_, rfl⟩
    have ER := hid eR
    have CP := parse_any w _ b HB.out (by omega)
    rw [← eR] at CP
    have CPH := hid CP
    clear t1 CP eR
    go_enter Try.func4, Try.ntmps4
    go_wp2_with fail
    refine CPH.out.mono ?_
    intro e w1 told
    obtain ⟨A, rfl, vA, X1, zA, oA⟩ := told.val
    obtain ⟨w2, e2⟩ : ∃ w2, w2 = w1.alloc (.cells A 29) := ⟨_, rfl⟩
    have SN2 : Hid ((w1.alloc (.cells zrow 29)).setRow w1.heap.size A = w2) := by rw [e2]; exact setRow_new w1 _ _ _ _
    have GZ2 : Hid ((w1.alloc (.cells zrow 29)).heap[w1.heap.size]? = some (.cells zrow 29 (0, 0))) := heap_alloc_new w1 _
    have X2 : Ext w1 w2 := by rw [e2]; exact (Ext.refl w1).alloc _
    have G2 : Hid (w2.heap[w1.heap.size]? = some (.cells A 29 (0, 0))) := by rw [e2]; exact heap_alloc_new w1 _
    have ZZ : Hid ((Try.prog.info? 29).map (·.size) = some A.size) := by rw [zA]; exact cells_packet
    have ZB : Hid (zrow.size = A.size) := by rw [zA]; exact rfl
    have OA := hid oA
    have Y2 := hid (X1.trans X2)
    have VA := hid (vA.ext X2)
    have CNE : Hid (R.2 = pnone → ∀ W, Ext w2 W → Calls Try.prog 14 #[.agg A, .agg zrow] W fun e w' => e = .returned (.bool true) ∧ Ext W w') := fun h W X => by
      have v := VA.out
      rw [h] at v
      have c := equal_any W _ _ pnone pnone (v.ext X) (pval_none W) ⟨by simp [pnone], by simp [pnone], by simp [pnone]⟩
      rw [sameB_self] at c
      exact c
    have SBY := hid (HB.out.ext Y2.out)
    clear e2 X1 X2 vA zA oA told CPH
    have q0 : (0 : Int) ≤ (b.length : Int) := by omega
    by_cases t4 : 4 ≤ b.length
    · obtain ⟨bg, bf, bc, ev, k1, k2, k3⟩ := SBY.out.at (by omega)
      injection ev with ev1 _ ev2
      subst ev1 ev2
      obtain ⟨m, hm⟩ : ∃ m, m = b.length - 4 := ⟨_, rfl⟩
      have i1 : (b.length : Int) - 4 = (m : Int) := by omega
      have i2 : (0 : Int) ≤ (m : Int) := by omega
      have i3 : (m : Int) ≤ (cb : Int) := by omega
      have i4 : max (m : Int) 0 = (m : Int) := by omega
      have i5 : ¬ cb = 0 := by omega
      have i6 : (4 : Int) ≤ (b.length : Int) := by omega
      have i7 : max ((b.length : Int) - 4) 0 = (m : Int) := by omega
      have BT := hid (k3.take m (by omega) k1 k2)
      have IFF := hid (copens_iff b t4)
      rw [← hm] at IFF
      have HM := hid hm
      have LT : Hid ((b.take m).length = m) := by show _ = _; rw [List.length_take]; omega
      have c0 : Hid (w2.cell? ⟨bg, bf, none⟩ = some (.int .u8 ((b.getD 0 0).toNat : Int))) := (k3 0 (by omega)).2
      have CV3 : ∀ n : Ever w2, (convert 27 9 (.slice (some ⟨bg, bf, none⟩) b.length cb)).run Try.prog n.W = .ok (.string (str b)) n.W := fun n => (SBY.out.ext n.ok).str
      have CS : Hid (∀ n : Ever w2, Calls Try.prog 18 #[.slice (some ⟨bg, bf, none⟩) m cb] n.W fun e w' => e = .returned (.string (str (cseal (b.take m)))) ∧ Ext n.W w') := fun n => sealed_any _ _ _ (BT.out.ext n.ok) (by rw [LT.out]; omega)
      clear hm k1 k2 k3
      by_cases t320 : 320 < b.length
      · have e21 : R = (21, pnone) := ER.out.trans (pparse_long t320)
        have P2 : Hid (R.2 = pnone) := by show _ = _; rw [e21]
        obtain ⟨r1, r2⟩ := R
        have er : r1 = 21 := by injection e21
        subst er
        clear e21
        have i8 : decide ((b.length : Int) ≤ 320) = false := by simp; omega
        clear CV3 CS t320
        go_wp2_with (refine wpList_store_row rfl 29 _ _ rfl w1.heap.size A rfl rfl 29 zrow GZ2.out ZZ.out ZB.out OA.out ?_; rw [SN2.out])
        refine wp_region_ext (by kernel_rfl) (by kernel_rfl) ?_
        have some := Ever.some w2
        repeat (go_big_quiet_step (fail))
        refine wpQuiet_nil ?_
        rintro w3 ⟨⟨_, x3⟩, rfl⟩
        have Y3 := hid x3
        clear x3 some
        have CE := hid (CNE.out P2.out w3 Y3.out)
        have G3 := hid (Y3.out.row G2.out)
        clear CNE
        go_wp2_with (refine wpList_load_row_g rfl 29 _ rfl w1.heap.size rfl 29 A (0, 0) _ G3.out Try.underlying29 rfl ZZ.out ?_)
        refine CE.out.mono ?_
        rintro e w4 ⟨rfl, X4⟩
        have Y4 := hid (Y3.out.trans X4)
        clear X4 CE
        go_wp2_with fail
        refine (awake7_any w4).mono ?_
        rintro e w5 ⟨rfl, X5⟩
        have Y5 := hid (Y2.out.trans (Y4.out.trans X5))
        clear X5
        go_wp2_with fail
        go_ret
        exact ⟨rfl, Y5.out⟩
      · have i8 : (b.length : Int) ≤ 320 := by omega
        have l320 : b.length ≤ 320 := by omega
        clear t320
        cases hc : copens b with
        | false =>
          have e21 : R = (21, pnone) := ER.out.trans (pparse_no hc)
          have P2 : Hid (R.2 = pnone) := by show _ = _; rw [e21]
          obtain ⟨r1, r2⟩ := R
          have er : r1 = 21 := by injection e21
          subst er
          clear e21
          rw [hc] at IFF
          have EQ : ((str (cseal (b.take m))).toList == (str b).toList) = false := by rw [str_beq]; exact IFF.out.symm
          generalize str (cseal (b.take m)) = S3 at *
          generalize str b = S5 at *
          clear hc IFF
          go_wp2_with (refine wpList_store_row rfl 29 _ _ rfl w1.heap.size A rfl rfl 29 zrow GZ2.out ZZ.out ZB.out OA.out ?_; rw [SN2.out])
          refine wp_region_ext (by kernel_rfl) (by kernel_rfl) ?_
          have some := Ever.some w2
          repeat (go_big_quiet_step ((go_at_call 18; refine (CS.out _).mono ?_; rintro e w' ⟨rfl, Y⟩; exact ⟨rfl, ⟨_, (Ever.ok _).trans Y⟩, rfl⟩)))
          refine wpQuiet_nil ?_
          rintro w3 ⟨⟨_, x3⟩, rfl⟩
          have Y3 := hid x3
          clear x3 some EQ CV3 CS
          have CE := hid (CNE.out P2.out w3 Y3.out)
          have G3 := hid (Y3.out.row G2.out)
          clear CNE
          go_wp2_with (refine wpList_load_row_g rfl 29 _ rfl w1.heap.size rfl 29 A (0, 0) _ G3.out Try.underlying29 rfl ZZ.out ?_)
          refine CE.out.mono ?_
          rintro e w4 ⟨rfl, X4⟩
          have Y4 := hid (Y3.out.trans X4)
          clear X4 CE
          go_wp2_with fail
          refine (awake7_any w4).mono ?_
          rintro e w5 ⟨rfl, X5⟩
          have Y5 := hid (Y2.out.trans (Y4.out.trans X5))
          clear X5
          go_wp2_with fail
          go_ret
          exact ⟨rfl, Y5.out⟩
        | true =>
          have eB : R = pbody (b.take m) := by rw [HM.out]; exact ER.out.trans (pparse_yes l320 hc)
          have EB := hid eB
          rw [hc] at IFF
          have CB : Hid (cseal (b.take m) = b) := by
            have := IFF.out
            exact eq_of_beq this.symm
          have EQ : ((str (cseal (b.take m))).toList == (str b).toList) = true := by rw [str_beq]; exact IFF.out.symm
          obtain ⟨S5, eS5⟩ : ∃ S5, S5 = str b := ⟨_, rfl⟩
          have ES5 := hid eS5
          rw [← eS5] at CV3 EQ
          generalize str (cseal (b.take m)) = S3 at *
          clear hc IFF eB eS5
          go_wp2_with (refine wpList_store_row rfl 29 _ _ rfl w1.heap.size A rfl rfl 29 zrow GZ2.out ZZ.out ZB.out OA.out ?_; rw [SN2.out])
          refine wp_region_ext (by kernel_rfl) (by kernel_rfl) ?_
          have some := Ever.some w2
          repeat (go_big_quiet_step ((go_at_call 18; refine (CS.out _).mono ?_; rintro e w' ⟨rfl, Y⟩; exact ⟨rfl, ⟨_, (Ever.ok _).trans Y⟩, rfl⟩)))
          refine wpQuiet_nil ?_
          rintro w3 ⟨⟨_, x3⟩, rfl⟩
          have Y3 := hid x3
          have CV : Hid (∀ W, Ext w3 W → (convert 27 9 (.slice (.some ⟨bg, bf, none⟩) b.length cb)).run Try.prog W = .ok (.string S5) W) := fun W X => CV3 ⟨W, x3.trans X⟩
          clear x3 some EQ CV3 CS
          have G3 := hid (Y3.out.row G2.out)
          by_cases m0 : m = 0
          · have eN : R.1 = 22 ∧ R.2 = pnone := by rw [EB.out, m0]; exact ⟨rfl, rfl⟩
            have P2 := hid eN.2
            obtain ⟨r1, r2⟩ := R
            have er : r1 = 22 := eN.1
            subst er
            clear eN
            have m0i : (m : Int) = 0 := by omega
            clear m0
            have CE := hid (CNE.out P2.out w3 Y3.out)
            clear CNE
            go_wp2_with (refine wpList_load_row_g rfl 29 _ rfl w1.heap.size rfl 29 A (0, 0) _ G3.out Try.underlying29 rfl ZZ.out ?_)
            refine CE.out.mono ?_
            rintro e w4 ⟨rfl, X4⟩
            have Y4 := hid (Y3.out.trans X4)
            clear X4 CE
            go_wp2_with fail
            refine (awake7_any w4).mono ?_
            rintro e w5 ⟨rfl, X5⟩
            have Y5 := hid (Y2.out.trans (Y4.out.trans X5))
            clear X5
            go_wp2_with fail
            go_ret
            exact ⟨rfl, Y5.out⟩
          · have m0i : ¬ (m : Int) = 0 := by omega
            have c3 := Y3.out.cell c0.out
            have f1 : ¬ b.length = 0 := by omega
            have f2 : (0 : Int) < (b.length : Int) := by omega
            have KE := pbody_err (b.take m)
            rw [take_head (by omega), ← EB.out] at KE
            obtain ⟨x, ex⟩ : ∃ x, x = (b.getD 0 0).toNat := ⟨_, rfl⟩
            rw [← ex] at c3 KE
            have xr : x < 256 := by rw [ex]; exact UInt8.toNat_lt _
            clear ex
            rcases KE with ⟨k1, k2, k3⟩ | ⟨k3, k4⟩
            · have eN : R.1 = 22 ∧ R.2 = pnone := ⟨k1, k2⟩
              have P2 := hid eN.2
              obtain ⟨r1, r2⟩ := R
              have er : r1 = 22 := eN.1
              subst er
              clear eN
              clear k1 k2
              by_cases x1 : x < 1
              · have x1i : (x : Int) < 1 := by omega
                clear k3 x1
                have CE := hid (CNE.out P2.out w3 Y3.out)
                clear CNE
                go_wp2_with (refine wpList_load_row_g rfl 29 _ rfl w1.heap.size rfl 29 A (0, 0) _ G3.out Try.underlying29 rfl ZZ.out ?_)
                refine CE.out.mono ?_
                rintro e w4 ⟨rfl, X4⟩
                have Y4 := hid (Y3.out.trans X4)
                clear X4 CE
                go_wp2_with fail
                refine (awake7_any w4).mono ?_
                rintro e w5 ⟨rfl, X5⟩
                have Y5 := hid (Y2.out.trans (Y4.out.trans X5))
                clear X5
                go_wp2_with fail
                go_ret
                exact ⟨rfl, Y5.out⟩
              · have x1i : ¬ (x : Int) < 1 := by omega
                have x2i : (7 : Int) < (x : Int) := by omega
                clear k3 x1
                have CE := hid (CNE.out P2.out w3 Y3.out)
                clear CNE
                go_wp2_with (refine wpList_load_row_g rfl 29 _ rfl w1.heap.size rfl 29 A (0, 0) _ G3.out Try.underlying29 rfl ZZ.out ?_)
                refine CE.out.mono ?_
                rintro e w4 ⟨rfl, X4⟩
                have Y4 := hid (Y3.out.trans X4)
                clear X4 CE
                go_wp2_with fail
                refine (awake7_any w4).mono ?_
                rintro e w5 ⟨rfl, X5⟩
                have Y5 := hid (Y2.out.trans (Y4.out.trans X5))
                clear X5
                go_wp2_with fail
                go_ret
                exact ⟨rfl, Y5.out⟩
            · have x1i : ¬ (x : Int) < 1 := by omega
              have x2i : ¬ (7 : Int) < (x : Int) := by omega
              clear k3
              rcases k4 with k5 | ⟨k5 | k5, k6⟩
              · have er : R = (0, R.2) := by rw [← k5]
                obtain ⟨hr, ht, hf⟩ := parse_back (EB.out.symm.trans er)
                have HR := hid hr
                have SL := hid (slim_of_right hr)
                have HF := hid hf
                have CSD : Hid (∀ W v, PVal W v R.2 → Calls Try.prog 17 #[v] W fun e w' => e = .returned (.string S5) ∧ Ext W w') := fun W v hv => by
                  have c := refSealed_any W v R.2 hv HF.out SL.out HR.out
                  rw [ht, CB.out, ← ES5.out] at c
                  exact c
                have CRR : Hid (∀ W v, PVal W v R.2 → Calls Try.prog 10 #[v] W fun e w' => e = .returned (.bool true) ∧ Ext W w') := fun W v hv => by
                  have c := refRight_any W v R.2 hv SL.out
                  rw [HR.out] at c
                  exact c
                have CRF : Hid (∀ W, Ext w3 W → Calls Try.prog 11 #[.agg A] W fun e w' => ∃ v', e = .returned v' ∧ PVal w' v' R.2 ∧ Ext W w') := fun W X =>
                  ref_any W _ R.2 (VA.out.ext (Y3.out.trans X)) SL.out
                have Y23 := hid (Y2.out.trans Y3.out)
                obtain ⟨r1, r2⟩ := R
                have er0 : r1 = 0 := k5
                subst er0
                clear k5 er hr ht hf CNE CB EB ER
                go_wp2_with fail
                refine wp_region_held_drew (S := fun W => Ext w3 W) (by kernel_rfl) (Below.drew (Ext.refl w3)) (fun hHeld => ?_)
                refine takeH7 (v := .agg (A)) 0 92 rfl rfl (by kernel_rfl) (by kernel_rfl) (by kernel_rfl) (fun _ _ _ h => h) (yields_load_row 29 (.tmp 3) rfl (by rfl) w1.heap.size rfl 29 _ (0, 0) _ (fun W h => Ext.row h G3.out) Try.underlying29 rfl ZZ.out) hHeld ?_
                simp only [Act.put, List.setIfInBounds_toArray, List.set_cons_zero, List.set_cons_succ]
                refine callH7 1 93 rfl rfl (by kernel_rfl) (by rfl) (by go_simp; first | exact ⟨rfl, rfl⟩ | rfl) ?_
                refine (CRF.out _ hHeld).mono ?_
                rintro e w4 ⟨v4, rfl, hv4, x4⟩
                refine ⟨_, rfl, hHeld.trans x4, ?_⟩
                replace hHeld := hHeld.trans x4
                simp only [Act.put, List.setIfInBounds_toArray, List.set_cons_zero, List.set_cons_succ]
                refine callH7 2 94 rfl rfl (by kernel_rfl) (by rfl) (by go_simp; first | exact ⟨rfl, rfl⟩ | rfl) ?_
                refine (CRR.out _ _ hv4).mono ?_
                rintro e w5 ⟨rfl, x5⟩
                refine ⟨_, rfl, hHeld.trans x5, ?_⟩
                replace hHeld := hHeld.trans x5
                simp only [Act.put, List.setIfInBounds_toArray, List.set_cons_zero, List.set_cons_succ]
                refine takeH7 (v := ?_) 3 95 rfl rfl (by kernel_rfl) (by kernel_rfl) (by kernel_rfl) (fun _ _ _ h => h) (Or.inl ⟨by rfl, fun W hW => ?_⟩) hHeld ?_
                rotate_left
                · (go_simp; try with_reducible rfl)
                simp only [Act.put, List.setIfInBounds_toArray, List.set_cons_zero, List.set_cons_succ]
                refine takeH7 (v := .agg (A)) 4 96 rfl rfl (by kernel_rfl) (by kernel_rfl) (by kernel_rfl) (fun _ _ _ h => h) (yields_load_row 29 (.tmp 3) rfl (by rfl) w1.heap.size rfl 29 _ (0, 0) _ (fun W h => Ext.row h G3.out) Try.underlying29 rfl ZZ.out) hHeld ?_
                simp only [Act.put, List.setIfInBounds_toArray, List.set_cons_zero, List.set_cons_succ]
                refine takeH7 (v := ?_) 7 99 rfl rfl (by kernel_rfl) (by kernel_rfl) (by kernel_rfl) (fun _ _ _ h => h) (Or.inl ⟨by rfl, fun W hW => ?_⟩) hHeld ?_
                rotate_left
                · (go_simp; try with_reducible rfl)
                simp only [Act.put, List.setIfInBounds_toArray, List.set_cons_zero, List.set_cons_succ]
                refine takeH7 (v := ?_) 8 100 rfl rfl (by kernel_rfl) (by kernel_rfl) (by kernel_rfl) (fun _ _ _ h => h) (Or.inl ⟨by rfl, fun W hW => ?_⟩) hHeld ?_
                rotate_left
                · (have c := CV.out W hW; go_simp; try with_reducible rfl)
                simp only [Act.put, List.setIfInBounds_toArray, List.set_cons_zero, List.set_cons_succ]
                refine callH7 5 97 rfl rfl (by kernel_rfl) (by rfl) (by go_simp; first | exact ⟨rfl, rfl⟩ | rfl) ?_
                refine (CRF.out _ hHeld).mono ?_
                rintro e w6 ⟨v6, rfl, hv6, x6⟩
                refine ⟨_, rfl, hHeld.trans x6, ?_⟩
                replace hHeld := hHeld.trans x6
                simp only [Act.put, List.setIfInBounds_toArray, List.set_cons_zero, List.set_cons_succ]
                refine callH7 6 98 rfl rfl (by kernel_rfl) (by rfl) (by go_simp; first | exact ⟨rfl, rfl⟩ | rfl) ?_
                refine (CSD.out _ _ hv6).mono ?_
                rintro e w7 ⟨rfl, x7⟩
                refine ⟨_, rfl, hHeld.trans x7, ?_⟩
                replace hHeld := hHeld.trans x7
                simp only [Act.put, List.setIfInBounds_toArray, List.set_cons_zero, List.set_cons_succ]
                refine takeH7 (v := ?_) 9 101 rfl rfl (by kernel_rfl) (by kernel_rfl) (by kernel_rfl) (fun _ _ _ h => h) (Or.inl ⟨by rfl, fun W hW => ?_⟩) hHeld ?_
                rotate_left
                · (go_simp; try with_reducible rfl)
                simp only [Act.put, List.setIfInBounds_toArray, List.set_cons_zero, List.set_cons_succ]
                refine takeH7 (v := ?_) 10 102 rfl rfl (by kernel_rfl) (by kernel_rfl) (by kernel_rfl) (fun _ _ _ h => h) (Or.inl ⟨by rfl, fun W hW => ?_⟩) hHeld ?_
                rotate_left
                · (go_simp; try with_reducible rfl)
                simp only [Act.put, List.setIfInBounds_toArray, List.set_cons_zero, List.set_cons_succ]
                refine takeH7 (v := ?_) 11 103 rfl rfl (by kernel_rfl) (by kernel_rfl) (by kernel_rfl) (fun _ _ _ h => h) (Or.inl ⟨by rfl, fun W hW => ?_⟩) hHeld ?_
                rotate_left
                · (go_simp; try with_reducible rfl)
                simp only [Act.put, List.setIfInBounds_toArray, List.set_cons_zero, List.set_cons_succ]
                refine callH7 12 104 rfl rfl (by kernel_rfl) (by rfl) (by go_simp; first | exact ⟨rfl, rfl⟩ | rfl) ?_
                refine (awake7_any _).mono ?_
                rintro e w8 ⟨rfl, x8⟩
                refine ⟨_, rfl, hHeld.trans x8, ?_⟩
                replace hHeld := hHeld.trans x8
                simp only [Act.put, List.setIfInBounds_toArray, List.set_cons_zero, List.set_cons_succ]
                refine takeH7 (v := ?_) 13 105 rfl rfl (by kernel_rfl) (by kernel_rfl) (by kernel_rfl) (fun _ _ _ h => h) (Or.inl ⟨by rfl, fun W hW => ?_⟩) hHeld ?_
                rotate_left
                · (go_simp; try with_reducible rfl)
                simp only [Act.put, List.setIfInBounds_toArray, List.set_cons_zero, List.set_cons_succ]
                refine takeH7 (v := ?_) 14 2 rfl rfl (by kernel_rfl) (by kernel_rfl) (by kernel_rfl) (fun _ _ _ h => h) (Or.inl ⟨by rfl, fun W hW => ?_⟩) hHeld ?_
                rotate_left
                · (go_simp; try with_reducible rfl)
                simp only [Act.put, List.setIfInBounds_toArray, List.set_cons_zero, List.set_cons_succ]
                refine wpAnyH_done (by kernel_rfl) ?_ _
                have Y9 := hid (Y23.out.trans hHeld)
                go_wp2_with fail
                go_ret
                exact ⟨rfl, Y9.out⟩
              · have eN : R.1 = 10 ∧ R.2 = pnone := ⟨k5, k6⟩
                have P2 := hid eN.2
                obtain ⟨r1, r2⟩ := R
                have er : r1 = 10 := eN.1
                subst er
                clear eN
                clear k5 k6
                have CE := hid (CNE.out P2.out w3 Y3.out)
                clear CNE
                go_wp2_with (refine wpList_load_row_g rfl 29 _ rfl w1.heap.size rfl 29 A (0, 0) _ G3.out Try.underlying29 rfl ZZ.out ?_)
                refine CE.out.mono ?_
                rintro e w4 ⟨rfl, X4⟩
                have Y4 := hid (Y3.out.trans X4)
                clear X4 CE
                go_wp2_with fail
                refine (awake7_any w4).mono ?_
                rintro e w5 ⟨rfl, X5⟩
                have Y5 := hid (Y2.out.trans (Y4.out.trans X5))
                clear X5
                go_wp2_with fail
                go_ret
                exact ⟨rfl, Y5.out⟩
              · have eN : R.1 = 20 ∧ R.2 = pnone := ⟨k5, k6⟩
                have P2 := hid eN.2
                obtain ⟨r1, r2⟩ := R
                have er : r1 = 20 := eN.1
                subst er
                clear eN
                clear k5 k6
                have CE := hid (CNE.out P2.out w3 Y3.out)
                clear CNE
                go_wp2_with (refine wpList_load_row_g rfl 29 _ rfl w1.heap.size rfl 29 A (0, 0) _ G3.out Try.underlying29 rfl ZZ.out ?_)
                refine CE.out.mono ?_
                rintro e w4 ⟨rfl, X4⟩
                have Y4 := hid (Y3.out.trans X4)
                clear X4 CE
                go_wp2_with fail
                refine (awake7_any w4).mono ?_
                rintro e w5 ⟨rfl, X5⟩
                have Y5 := hid (Y2.out.trans (Y4.out.trans X5))
                clear X5
                go_wp2_with fail
                go_ret
                exact ⟨rfl, Y5.out⟩
    · have e21 : R = (21, pnone) := ER.out.trans (pparse_short (by omega))
      have P2 : Hid (R.2 = pnone) := by show _ = _; rw [e21]
      obtain ⟨r1, r2⟩ := R
      have er : r1 = 21 := by injection e21
      subst er
      clear e21
      have i1 : decide ((4 : Int) ≤ (b.length : Int)) = false := by simp; omega
      have i2 : (b.length : Int) < 4 := by omega
      clear t4
      go_wp2_with (refine wpList_store_row rfl 29 _ _ rfl w1.heap.size A rfl rfl 29 zrow GZ2.out ZZ.out ZB.out OA.out ?_; rw [SN2.out])
      refine wp_region_ext (by kernel_rfl) (by kernel_rfl) ?_
      have some := Ever.some w2
      repeat (go_big_quiet_step (fail))
      refine wpQuiet_nil ?_
      rintro w3 ⟨⟨_, x3⟩, rfl⟩
      have Y3 := hid x3
      clear x3 some
      have CE := hid (CNE.out P2.out w3 Y3.out)
      have G3 := hid (Y3.out.row G2.out)
      clear CNE
      go_wp2_with (refine wpList_load_row_g rfl 29 _ rfl w1.heap.size rfl 29 A (0, 0) _ G3.out Try.underlying29 rfl ZZ.out ?_)
      refine CE.out.mono ?_
      rintro e w4 ⟨rfl, X4⟩
      have Y4 := hid (Y3.out.trans X4)
      clear X4 CE
      go_wp2_with fail
      refine (awake7_any w4).mono ?_
      rintro e w5 ⟨rfl, X5⟩
      have Y5 := hid (Y2.out.trans (Y4.out.trans X5))
      clear X5
      go_wp2_with fail
      go_ret
      exact ⟨rfl, Y5.out⟩
end wireParses
end Go.Proofs.Ytlnjkjpllmfcaaa

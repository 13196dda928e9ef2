/-
  The walk of CrcSeals: any bytes are sealed as the document says, and opened again; any bytes are opened just if they are sealed ones.
-/
import Derived.Test.YtekkfoncbcibiaaCrcSumsW
namespace Go.Proofs.Ytekkfoncbcibiaa.crcSeals
set_option linter.unusedVariables false
open Go.RowKit Go.Lib

set_option maxHeartbeats 4000000 in
theorem walk (v0 v1 : Value) (a b : List UInt8) (w : World) (ha : Bytes w v0 a) (hb : Bytes w v1 b) :
    Calls Try.prog 4 #[v0, v1] w fun e w' => e = .returned (.bool true) ∧ Ext w w' := by
  have HA := hid ha
  have HB := hid hb
  obtain ⟨ao, ca, rfl, qa1, qa2, _⟩ := ha
  obtain ⟨bo, cb, rfl, qb1, qb2, _⟩ := hb
  unfold maxLen at qa2 qb2
  by_cases t1 : 1000 < a.length
  · have t1' : (1000 : Int) < (a.length : Int) := by omega
    go_enter Try.func4, Try.ntmps4
    go_wp2_with fail
    refine (awake6_any _).mono ?_
    rintro e w' ⟨rfl, X⟩
    go_wp2_with fail
    go_ret
    exact ⟨rfl, X⟩
  · have t1' : decide ((1000 : Int) < (a.length : Int)) = false := by simp; omega
    by_cases t2 : 1000 < b.length
    · have t2' : (1000 : Int) < (b.length : Int) := by omega
      clear t1
      go_enter Try.func4, Try.ntmps4
      go_wp2_with fail
      refine (awake6_any _).mono ?_
      rintro e w' ⟨rfl, X⟩
      go_wp2_with fail
      go_ret
      exact ⟨rfl, X⟩
    · have t2' : decide ((1000 : Int) < (b.length : Int)) = false := by simp; omega
      have C1 := hid (seal_any _ a w HA.out (by omega))
      have la : a.length ≤ 1000 := by omega
      have lb : b.length ≤ 1000 := by omega
      clear t1 t2
      go_enter Try.func4, Try.ntmps4
      go_wp2_with fail
      refine C1.out.mono ?_
      rintro e w1 ⟨g, rfl, hg, r1, x1⟩
      have X1 := hid x1
      have R1 := hid r1
      have B1 := r1.bytes (by rw [cseal_length]; omega)
      have C2 := hid (open_yes _ _ w1 B1 (by rw [cseal_length]; omega) (copens_cseal _))
      rw [cseal_take, cseal_length, Nat.add_sub_cancel] at C2
      clear r1 x1 C1 hg B1
      go_wp2_with fail
      refine C2.out.mono ?_
      rintro e w2 ⟨r, rfl, hr, r2, x2⟩
      have X2 := hid (X1.out.trans x2)
      have CV1 : ∀ n : Ever w2, (convert 22 9 (.slice (some ⟨g, 0, none⟩) (a.length + 4) (a.length + 4))).run Try.prog n.W = .ok (.string (str (cseal a))) n.W := fun n => by
        have := (((R1.out.ext x2).ext n.ok).bytes (by rw [cseal_length]; omega)).str
        rwa [cseal_length] at this
      have CV2 : ∀ n : Ever w2, (convert 22 9 (.slice (some ⟨r, 0, none⟩) a.length a.length)).run Try.prog n.W = .ok (.string (str a)) n.W := fun n => ((r2.ext n.ok).bytes (by omega)).str
      have CV3 : ∀ n : Ever w2, (convert 22 9 (.slice ao a.length ca)).run Try.prog n.W = .ok (.string (str a)) n.W := fun n => ((HA.out.ext X2.out).ext n.ok).str
      have CS : Hid (∀ n : Ever w2, Calls Try.prog 13 #[.slice ao a.length ca] n.W fun e w' => e = .returned (.string (str (cseal a))) ∧ Ext n.W w') := fun n => sealed_any _ a _ ((HA.out.ext X2.out).ext n.ok) (by omega)
      generalize str (cseal a) = S1 at *
      generalize str a = S2 at *
      clear r2 x2 C2 R1 hr X1
      go_wp2_with fail
      refine wp_region_ext (by kernel_rfl) (by kernel_rfl) ?_
      have some := Ever.some w2
      repeat (go_big_quiet_step ((go_at_call 13; refine (CS.out _).mono ?_; rintro e w' ⟨rfl, Y⟩; exact ⟨rfl, ⟨_, (Ever.ok _).trans Y⟩, rfl⟩)))
      refine wpQuiet_nil ?_
      rintro w3 ⟨⟨_, x3⟩, rfl⟩
      have X3 := hid (X2.out.trans x3)
      clear x3 CV1 CV2 CV3 CS X2 some
      go_wp2_with fail
      clear la HA qa1 qa2 t1'
      by_cases t4 : 4 ≤ b.length
      · obtain ⟨bg, bf, bc, ev, k1, k2, k3⟩ := HB.out.at (by omega)
        injection ev with ev1 _ ev2
        subst ev1 ev2
        obtain ⟨m, hm⟩ : ∃ m, m = b.length - 4 := ⟨_, rfl⟩
        have i1 : (b.length : Int) - 4 = (m : Int) := by omega
        have i2 : (0 : Int) ≤ (m : Int) := by omega
        have i3 : (m : Int) ≤ (cb : Int) := by omega
        have i4 : max (m : Int) 0 = (m : Int) := by omega
        have i5 : ¬ cb = 0 := by omega
        have i6 : (4 : Int) ≤ (b.length : Int) := by omega
        have i7 : max ((b.length : Int) - 4) 0 = (m : Int) := by omega
        have BT := hid (k3.take m (by omega) k1 k2)
        have IFF := hid (copens_iff b t4)
        have O1 := hid (open_yes _ b w3 (HB.out.ext X3.out) (by omega))
        have O2 := hid (open_no _ b w3 (HB.out.ext X3.out) (by omega))
        rw [← hm] at IFF O1
        have LT : Hid ((b.take m).length = m) := by show _ = _; rw [List.length_take]; omega
        clear hm k1 k2 k3
        cases hc : copens b with
        | true =>
          rw [hc] at IFF O1
          clear O2 hc
          refine (O1.out rfl).mono ?_
          rintro e w4 ⟨q, rfl, hq, r4, x4⟩
          have X4 := hid (X3.out.trans x4)
          have EQ : ((str (cseal (b.take m))).toList == (str b).toList) = true := by rw [str_beq]; exact IFF.out.symm
          have CV1 : ∀ n : Ever w4, (convert 22 9 (.slice (some ⟨q, 0, none⟩) m m)).run Try.prog n.W = .ok (.string (str (b.take m))) n.W := fun n => by
            have := ((r4.ext n.ok).bytes (by rw [LT.out]; omega)).str
            rwa [LT.out] at this
          have CV2 : ∀ n : Ever w4, (convert 22 9 (.slice (some ⟨bg, bf, none⟩) m cb)).run Try.prog n.W = .ok (.string (str (b.take m))) n.W := fun n => ((BT.out.ext X4.out).ext n.ok).str
          have CV3 : ∀ n : Ever w4, (convert 22 9 (.slice (some ⟨bg, bf, none⟩) b.length cb)).run Try.prog n.W = .ok (.string (str b)) n.W := fun n => ((HB.out.ext X4.out).ext n.ok).str
          have CS : Hid (∀ n : Ever w4, Calls Try.prog 13 #[.slice (some ⟨bg, bf, none⟩) m cb] n.W fun e w' => e = .returned (.string (str (cseal (b.take m)))) ∧ Ext n.W w') := fun n => sealed_any _ _ _ ((BT.out.ext X4.out).ext n.ok) (by rw [LT.out]; omega)
          generalize str (cseal (b.take m)) = S3 at *
          generalize str (b.take m) = S4 at *
          generalize str b = S5 at *
          clear r4 x4 O1 hq X3
          go_wp2_with fail
          refine wp_region_ext (by kernel_rfl) (by kernel_rfl) ?_
          have some := Ever.some w4
          repeat (go_big_quiet_step ((go_at_call 13; refine (CS.out _).mono ?_; rintro e w' ⟨rfl, Y⟩; exact ⟨rfl, ⟨_, (Ever.ok _).trans Y⟩, rfl⟩)))
          refine wpQuiet_nil ?_
          rintro w5 ⟨⟨_, x5⟩, rfl⟩
          have X5 := hid (X4.out.trans x5)
          have CW1 : ∀ n : Ever w5, (convert 22 9 (.slice (.some ⟨q, 0, none⟩) m m)).run Try.prog n.W = .ok (.string S4) n.W := fun n => CV1 ⟨n.W, x5.trans n.ok⟩
          have CW2 : ∀ n : Ever w5, (convert 22 9 (.slice (.some ⟨bg, bf, none⟩) m cb)).run Try.prog n.W = .ok (.string S4) n.W := fun n => CV2 ⟨n.W, x5.trans n.ok⟩
          clear CV1 CV2 CV3 CS x5 X4 some EQ
          go_wp2_with fail
          refine wp_region_ext (by kernel_rfl) (by kernel_rfl) ?_
          have some5 := Ever.some w5
          repeat (go_big_quiet_step (fail))
          refine wpQuiet_nil ?_
          rintro w6 ⟨⟨_, x6⟩, rfl⟩
          clear CW1 CW2
          have X6 := hid (X5.out.trans x6)
          clear x6 some5
          go_wp2_with fail
          refine (awake6_any _).mono ?_
          rintro e w7 ⟨rfl, x7⟩
          have X7 := hid (X6.out.trans x7)
          clear x7
          go_wp2_with fail
          go_ret
          exact ⟨rfl, X7.out⟩
        | false =>
          rw [hc] at IFF O2
          clear O1 hc
          refine (O2.out rfl).mono ?_
          rintro e w4 ⟨rfl, x4⟩
          have X4 := hid (X3.out.trans x4)
          have EQ : ((str (cseal (b.take m))).toList == (str b).toList) = false := by rw [str_beq]; exact IFF.out.symm
          have CV3 : ∀ n : Ever w4, (convert 22 9 (.slice (some ⟨bg, bf, none⟩) b.length cb)).run Try.prog n.W = .ok (.string (str b)) n.W := fun n => ((HB.out.ext X4.out).ext n.ok).str
          have CS : Hid (∀ n : Ever w4, Calls Try.prog 13 #[.slice (some ⟨bg, bf, none⟩) m cb] n.W fun e w' => e = .returned (.string (str (cseal (b.take m)))) ∧ Ext n.W w') := fun n => sealed_any _ _ _ ((BT.out.ext X4.out).ext n.ok) (by rw [LT.out]; omega)
          generalize str (cseal (b.take m)) = S3 at *
          generalize str b = S5 at *
          clear x4 O2 X3
          go_wp2_with fail
          refine wp_region_ext (by kernel_rfl) (by kernel_rfl) ?_
          have some := Ever.some w4
          repeat (go_big_quiet_step ((go_at_call 13; refine (CS.out _).mono ?_; rintro e w' ⟨rfl, Y⟩; exact ⟨rfl, ⟨_, (Ever.ok _).trans Y⟩, rfl⟩)))
          refine wpQuiet_nil ?_
          rintro w5 ⟨⟨_, x5⟩, rfl⟩
          have X5 := hid (X4.out.trans x5)
          clear CV3 CS x5 X4 some EQ
          go_wp2_with fail
          refine wp_region_ext (by kernel_rfl) (by kernel_rfl) ?_
          have some5 := Ever.some w5
          repeat (go_big_quiet_step (fail))
          refine wpQuiet_nil ?_
          rintro w6 ⟨⟨_, x6⟩, rfl⟩
          have X6 := hid (X5.out.trans x6)
          clear x6 some5
          go_wp2_with fail
          refine (awake6_any _).mono ?_
          rintro e w7 ⟨rfl, x7⟩
          have X7 := hid (X6.out.trans x7)
          clear x7
          go_wp2_with fail
          go_ret
          exact ⟨rfl, X7.out⟩
      · have i1 : (b.length : Int) < 4 := by omega
        have i2 : decide ((4 : Int) ≤ (b.length : Int)) = false := by simp; omega
        refine (open_short _ b w3 (HB.out.ext X3.out) (by omega)).mono ?_
        rintro e w4 ⟨rfl, rfl⟩
        clear t4
        go_wp2_with fail
        refine wp_region_ext (by kernel_rfl) (by kernel_rfl) ?_
        have some := Ever.some w4
        repeat (go_big_quiet_step (fail))
        refine wpQuiet_nil ?_
        rintro w5 ⟨⟨_, x5⟩, rfl⟩
        have X5 := hid (X3.out.trans x5)
        clear x5 X3 some
        go_wp2_with fail
        refine wp_region_ext (by kernel_rfl) (by kernel_rfl) ?_
        have some5 := Ever.some w5
        repeat (go_big_quiet_step (fail))
        refine wpQuiet_nil ?_
        rintro w6 ⟨⟨_, x6⟩, rfl⟩
        have X6 := hid (X5.out.trans x6)
        clear x6 some5
        go_wp2_with fail
        refine (awake6_any _).mono ?_
        rintro e w7 ⟨rfl, x7⟩
        have X7 := hid (X6.out.trans x7)
        clear x7
        go_wp2_with fail
        go_ret
        exact ⟨rfl, X7.out⟩
end Go.Proofs.Ytekkfoncbcibiaa.crcSeals

/-
  The walk of WireShort: what was sealed of a right packet's bytes cut off anywhere is ErrShort, or ErrKind; with more behind it ErrForm.
-/
import Derived.Test.YtlnjkjpllmfcaaaConvAppend
namespace Go.Proofs.Ytlnjkjpllmfcaaa
set_option linter.unusedVariables false
set_option maxRecDepth 100000
open Go.RowKit Go.Lib

theorem pparse_cseal (l : List UInt8) (h : l.length ≤ 316) : pparse (cseal l) = pbody l := by
  unfold pparse
  rw [if_neg (by rw [cseal_length]; omega), copens_cseal, if_pos rfl, cseal_take]
theorem pbody_nil : pbody [] = (22, pnone) := rfl

namespace wireShort
set_option maxHeartbeats 8000000 in
theorem walk (v0 : Value) (p : Pk) (n : Int) (more : UInt8) (w : World) (hv : PVal w v0 p) (hb : bnd p) :
    Calls Try.prog 5 #[v0, .int .i64 n, .int .u8 (more.toNat : Int)] w fun e w' => e = .returned (.bool true) ∧ Ext w w' := by
  obtain ⟨ra, rg, da, rfl, pl⟩ := hv
  obtain ⟨w1, e1⟩ : ∃ w1, w1 = w.alloc (.cells (prow p ra rg da) 29) := ⟨_, rfl⟩
  have X1 : Ext w w1 := by rw [e1]; exact (Ext.refl w).alloc _
  have g1 : w1.heap[w.heap.size]? = some (.cells (prow p ra rg da) 29 (0, 0)) := by rw [e1]; exact heap_alloc_new w _
  have HPL := hid pl
  have HB := hid hb
  have E1 := hid e1
  have XX := hid X1
  have G1 := hid g1
  have CS := hid (small_any w1 _ p ⟨ra, rg, da, rfl, pl.kept (.of_ext X1)⟩)
  have SL := hid (fun h : smallB p = true => slim_of_small h)
  have ZA : Hid ((Try.prog.info? 29).map (·.size) = some (prow p ra rg da).size) := cells_packet
  clear e1 X1 g1 pl hb
  go_enter Try.func5, Try.ntmps5
  go_wp2_with (first | rw [← E1.out] | refine wpList_load_row rfl 29 _ rfl w.heap.size rfl 29 (prow p ra rg da) (0, 0) _ G1.out Try.underlying29 rfl ZA.out ?_)
  refine CS.out.mono ?_
  rintro e w2 ⟨rfl, X2⟩
  clear CS
  cases hs : smallB p with
  | false =>
    have Y2 := hid (XX.out.trans X2)
    clear X2 hs
    go_wp2_with fail
    refine (awake7_any w2).mono ?_
    rintro e w3 ⟨rfl, X3⟩
    have Y3 := hid (Y2.out.trans X3)
    clear X3
    go_wp2_with fail
    go_ret
    exact ⟨rfl, Y3.out⟩
  | true =>
    have sl := SL.out hs
    have HSL := hid sl
    have G2 := hid (X2.row G1.out)
    have Y2 := hid (XX.out.trans X2)
    have CR := hid (ref_any w2 _ p ⟨ra, rg, da, rfl, HPL.out.kept (.of_ext Y2.out)⟩ sl)
    clear X2 hs sl SL
    go_wp2_with (refine wpList_load_row_g rfl 29 _ rfl w.heap.size rfl 29 (prow p ra rg da) (0, 0) _ G2.out Try.underlying29 rfl ZA.out ?_)
    refine CR.out.mono ?_
    rintro e w3 ⟨v3, rfl, hv3, X3⟩
    have G3 := hid (X3.row G2.out)
    have Y3 := hid (Y2.out.trans X3)
    have CT := hid (refRight_any w3 v3 p hv3 HSL.out)
    clear CR X3 hv3
    go_wp2_with fail
    refine CT.out.mono ?_
    rintro e w4 ⟨rfl, X4⟩
    have G4 := hid (X4.row G3.out)
    have Y4 := hid (Y3.out.trans X4)
    clear CT X4
    cases hr : right p with
    | false =>
      clear hr
      go_wp2_with fail
      refine (awake7_any w4).mono ?_
      rintro e w5 ⟨rfl, X5⟩
      have Y5 := hid (Y4.out.trans X5)
      clear X5
      go_wp2_with fail
      go_ret
      exact ⟨rfl, Y5.out⟩
    | true =>
      have TL := text_length hr
      have CR2 := hid (ref_any w4 _ p ⟨ra, rg, da, rfl, HPL.out.kept (.of_ext Y4.out)⟩ HSL.out)
      have CUT := hid (parse_cut hr HB.out.1)
      have MORE := hid (parse_more hr HB.out.1 more)
      have HR := hid hr
      clear hr
      go_wp2_with (refine wpList_load_row rfl 29 _ rfl w.heap.size rfl 29 (prow p ra rg da) (0, 0) _ G4.out Try.underlying29 rfl ZA.out ?_)
      refine CR2.out.mono ?_
      rintro e w5 ⟨v5, rfl, hv5, X5⟩
      have Y5 := hid (Y4.out.trans X5)
      have CX := hid (text_any w5 v5 p hv5 HB.out.1 HSL.out HR.out)
      clear CR2 X5 hv5
      generalize text p = T at *
      go_wp2_with fail
      refine CX.out.mono ?_
      rintro e w6 ⟨rfl, X6⟩
      have Y6 := hid (Y5.out.trans X6)
      have sz : (str T).size = T.length := str_size T
      have t310 : ¬ (310 : Int) < (T.length : Int) := by omega
      clear CX X6
      by_cases tn : n < 0
      · have d1 : decide (n < 0) = true := by simp [tn]
        go_wp2_with fail
        refine (awake7_any w6).mono ?_
        rintro e w7 ⟨rfl, X7⟩
        have Y7 := hid (Y6.out.trans X7)
        clear X7
        go_wp2_with fail
        go_ret
        exact ⟨rfl, Y7.out⟩
      · have d1 : decide (n < 0) = false := by simp; omega
        obtain ⟨m, rfl⟩ := Int.eq_ofNat_of_zero_le (show 0 ≤ n by omega)
        by_cases tm : T.length ≤ m
        · have d2 : (T.length : Int) ≤ (m : Int) := by omega
          clear tn
          go_wp2_with fail
          refine (awake7_any w6).mono ?_
          rintro e w7 ⟨rfl, X7⟩
          have Y7 := hid (Y6.out.trans X7)
          clear X7
          go_wp2_with fail
          go_ret
          exact ⟨rfl, Y7.out⟩
        · have d2 : decide ((T.length : Int) ≤ (m : Int)) = false := by simp; omega
          have d3 : (0 : Int) ≤ (m : Int) := by omega
          have d4 : (m : Int) ≤ (T.length : Int) := by omega
          have EX := str_extract T m
          clear tn
          obtain ⟨c7, w7, cv7, b7, X7⟩ := conv_bytes w6 (T.take m) (by rw [List.length_take]; omega)
          have LM : (T.take m).length = m := by rw [List.length_take]; omega
          rw [LM] at cv7 b7
          have CS := hid (seal_any _ (T.take m) w7 b7 (by rw [LM]; omega))
          have Y7 := hid (Y6.out.trans X7)
          clear b7 X7
          go_wp2_with fail
          refine CS.out.mono ?_
          rintro e w8 ⟨g8, rfl, hg8, r8, X8⟩
          have b8 := r8.bytes (by rw [cseal_length, LM]; omega)
          rw [cseal_length, LM] at b8
          have CP := parse_any w8 _ (cseal (T.take m)) b8 (by rw [cseal_length, LM]; omega)
          rw [pparse_cseal _ (by rw [LM]; omega)] at CP
          have CPH := hid CP
          have Y8 := hid (Y7.out.trans X8)
          rw [LM]
          clear b8 r8 X8 CP CS cv7
          obtain ⟨R1, eR1⟩ : ∃ R, R = pbody (T.take m) := ⟨_, rfl⟩
          rw [← eR1] at CPH
          have ER1 := hid eR1
          clear eR1
          go_wp2_with fail
          refine CPH.out.mono ?_
          intro e w9 told
          obtain ⟨A, rfl, vA, X9, zA, oA⟩ := told.val
          obtain ⟨w10, e10⟩ : ∃ w10, w10 = w9.alloc (.cells A 29) := ⟨_, rfl⟩
          have SN10 : Hid ((w9.alloc (.cells zrow 29)).setRow w9.heap.size A = w10) := by rw [e10]; exact setRow_new w9 _ _ _ _
          have GZ10 : Hid ((w9.alloc (.cells zrow 29)).heap[w9.heap.size]? = some (.cells zrow 29 (0, 0))) := heap_alloc_new w9 _
          have X10 : Ext w9 w10 := by rw [e10]; exact (Ext.refl w9).alloc _
          have ZZ : Hid ((Try.prog.info? 29).map (·.size) = some A.size) := by rw [zA]; exact cells_packet
          have ZB : Hid (zrow.size = A.size) := by rw [zA]; exact rfl
          have OA := hid oA
          have Y10 := hid (Y8.out.trans (X9.trans X10))
          obtain ⟨c11, w11, cv11, X11, v12, w13, ap13, b13, X13⟩ := conv_append w10 T more (by omega)
          have AP := hid ap13
          have sl : (T ++ [more]).length = T.length + 1 := by simp
          have CS2 := hid (seal_any v12 (T ++ [more]) w13 b13 (by rw [sl]; omega))
          have Y13 := hid (Y10.out.trans X13)
          clear e10 X10 X9 vA zA oA told CPH ap13 b13 X13 X11
          obtain ⟨w12, e12⟩ : ∃ w12, w12 = w11.alloc (.cells #[.int .u8 (more.toNat : Int)] 5) := ⟨_, rfl⟩
          have E12 := hid e12
          rw [← e12] at AP
          clear e12
          go_wp2_with (first
            | (refine wpList_store_row rfl 29 _ _ rfl w9.heap.size A rfl rfl 29 zrow GZ10.out ZZ.out ZB.out OA.out ?_; rw [SN10.out])
            | (at_builtin; rw [← E12.out]; refine wpList_append_run rfl (.tmp 50) (.tmp 52) 27 rfl _ _ _ _ rfl rfl AP.out ?_))
          refine CS2.out.mono ?_
          rintro e w14 ⟨g14, rfl, hg14, r14, X14⟩
          have b14 := r14.bytes (by rw [cseal_length, sl]; omega)
          rw [cseal_length, sl] at b14
          have CP := parse_any w14 _ (cseal (T ++ [more])) b14 (by rw [cseal_length, sl]; omega)
          rw [pparse_cseal _ (by rw [sl]; omega), MORE.out] at CP
          have CPH := hid CP
          have Y14 := hid (Y13.out.trans X14)
          rw [sl]
          clear b14 r14 X14 CP CS2 cv11 AP
          go_wp2_with fail
          refine CPH.out.mono ?_
          intro e w15 told
          obtain ⟨B, rfl, vB, X15, zB, oB⟩ := told.val
          obtain ⟨w16, e16⟩ : ∃ w16, w16 = w15.alloc (.cells B 29) := ⟨_, rfl⟩
          have SN16 : Hid ((w15.alloc (.cells zrow 29)).setRow w15.heap.size B = w16) := by rw [e16]; exact setRow_new w15 _ _ _ _
          have GZ16 : Hid ((w15.alloc (.cells zrow 29)).heap[w15.heap.size]? = some (.cells zrow 29 (0, 0))) := heap_alloc_new w15 _
          have X16 : Ext w15 w16 := by rw [e16]; exact (Ext.refl w15).alloc _
          have ZZ2 : Hid ((Try.prog.info? 29).map (·.size) = some B.size) := by rw [zB]; exact cells_packet
          have ZB2 : Hid (zrow.size = B.size) := by rw [zB]; exact rfl
          have OB := hid oB
          have Y16 := hid (Y14.out.trans (X15.trans X16))
          clear e16 X16 X15 vB zB oB told CPH
          by_cases m0 : m = 0
          · have E0 : Hid (R1.1 = 22) := by
              show _ = _
              rw [ER1.out, m0, List.take_zero, pbody_nil]
            have d0 : (m : Int) = 0 := by omega
            obtain ⟨r1, r2⟩ := R1
            have er : r1 = 22 := E0.out
            subst er
            clear E0 ER1 CUT
            go_wp2_with (refine wpList_store_row rfl 29 _ _ rfl w15.heap.size B rfl rfl 29 zrow GZ16.out ZZ2.out ZB2.out OB.out ?_; rw [SN16.out])
            refine (awake7_any w16).mono ?_
            rintro e w17 ⟨rfl, X17⟩
            have Y17 := hid (Y16.out.trans X17)
            clear X17
            go_wp2_with fail
            go_ret
            exact ⟨rfl, Y17.out⟩
          · have E0 : Hid (R1.1 = 20) := by
              show _ = _
              rw [ER1.out, CUT.out m (by omega) (by omega)]
            have d0 : ¬ (m : Int) = 0 := by omega
            obtain ⟨r1, r2⟩ := R1
            have er : r1 = 20 := E0.out
            subst er
            clear E0 ER1 CUT m0
            go_wp2_with (refine wpList_store_row rfl 29 _ _ rfl w15.heap.size B rfl rfl 29 zrow GZ16.out ZZ2.out ZB2.out OB.out ?_; rw [SN16.out])
            refine (awake7_any w16).mono ?_
            rintro e w17 ⟨rfl, X17⟩
            have Y17 := hid (Y16.out.trans X17)
            clear X17
            go_wp2_with fail
            go_ret
            exact ⟨rfl, Y17.out⟩
end wireShort
end Go.Proofs.Ytlnjkjpllmfcaaa

/-
  The walk of WireTurned: a packet's bytes of which one bit is turned are no packet's.
-/
import Derived.Test.YtlnjkjpllmfcaaaAwake7
import Derived.Test.YtlnjkjpllmfcaaaWireText3
import Derived.Test.YtlnjkjpllmfcaaaCrcTurn
namespace Go.Proofs.Ytlnjkjpllmfcaaa
set_option linter.unusedVariables false
set_option maxRecDepth 100000
open Go.RowKit Go.Lib

theorem slim_of_small {p : Pk} (h : smallB p = true) : slim p := by
  simp only [smallB, Bool.and_eq_true, decide_eq_true_eq] at h
  unfold slim
  omega

namespace wireTurned
set_option maxHeartbeats 8000000 in
theorem walk (v0 : Value) (p : Pk) (bit : Int) (w : World) (hv : PVal w v0 p) (hb : bnd p) (hbit : -9223372036854775808 ≤ bit ∧ bit < 9223372036854775808) :
    Calls Try.prog 6 #[v0, .int .i64 bit] w fun e w' => e = .returned (.bool true) ∧ Ext w w' := by
  obtain ⟨ra, rg, da, rfl, pl⟩ := hv
  obtain ⟨w1, e1⟩ : ∃ w1, w1 = w.alloc (.cells (prow p ra rg da) 29) := ⟨_, rfl⟩
  have X1 : Ext w w1 := by rw [e1]; exact (Ext.refl w).alloc _
  have g1 : w1.heap[w.heap.size]? = some (.cells (prow p ra rg da) 29 (0, 0)) := by rw [e1]; exact heap_alloc_new w _
  have HPL := hid pl
  have HB := hid hb
  have E1 := hid e1
  have XX := hid X1
  have G1 := hid g1
  have CS := hid (small_any w1 _ p ⟨ra, rg, da, rfl, pl.kept (.of_ext X1)⟩)
  have SL := hid (fun h : smallB p = true => slim_of_small h)
  have ZA : Hid ((Try.prog.info? 29).map (·.size) = some (prow p ra rg da).size) := cells_packet
  clear e1 X1 g1 pl hb
  go_enter Try.func6, Try.ntmps6
  go_wp2_with (first | rw [← E1.out] | refine wpList_load_row rfl 29 _ rfl w.heap.size rfl 29 (prow p ra rg da) (0, 0) _ G1.out Try.underlying29 rfl ZA.out ?_)
  refine CS.out.mono ?_
  rintro e w2 ⟨rfl, X2⟩
  clear CS
  cases hs : smallB p with
  | false =>
    have Y2 := hid (XX.out.trans X2)
    clear X2 hs
    go_wp2_with fail
    refine (awake7_any w2).mono ?_
    rintro e w3 ⟨rfl, X3⟩
    have Y3 := hid (Y2.out.trans X3)
    clear X3
    go_wp2_with fail
    go_ret
    exact ⟨rfl, Y3.out⟩
  | true =>
    have sl := SL.out hs
    have HSL := hid sl
    have G2 := hid (X2.row G1.out)
    have Y2 := hid (XX.out.trans X2)
    have CR := hid (ref_any w2 _ p ⟨ra, rg, da, rfl, HPL.out.kept (.of_ext Y2.out)⟩ sl)
    clear X2 hs sl SL
    go_wp2_with (refine wpList_load_row_g rfl 29 _ rfl w.heap.size rfl 29 (prow p ra rg da) (0, 0) _ G2.out Try.underlying29 rfl ZA.out ?_)
    refine CR.out.mono ?_
    rintro e w3 ⟨v3, rfl, hv3, X3⟩
    have G3 := hid (X3.row G2.out)
    have Y3 := hid (Y2.out.trans X3)
    have CT := hid (refRight_any w3 v3 p hv3 HSL.out)
    clear CR X3 hv3
    go_wp2_with fail
    refine CT.out.mono ?_
    rintro e w4 ⟨rfl, X4⟩
    have G4 := hid (X4.row G3.out)
    have Y4 := hid (Y3.out.trans X4)
    clear CT X4
    cases hr : right p with
    | false =>
      clear hr
      go_wp2_with fail
      refine (awake7_any w4).mono ?_
      rintro e w5 ⟨rfl, X5⟩
      have Y5 := hid (Y4.out.trans X5)
      clear X5
      go_wp2_with fail
      go_ret
      exact ⟨rfl, Y5.out⟩
    | true =>
      have TL := text_length hr
      have CB := hid (bytes_yes w4 _ p ⟨ra, rg, da, rfl, HPL.out.kept (.of_ext Y4.out)⟩ HB.out HSL.out hr)
      clear hr
      go_wp2_with (refine wpList_load_row rfl 29 _ rfl w.heap.size rfl 29 (prow p ra rg da) (0, 0) _ G4.out Try.underlying29 rfl ZA.out ?_)
      refine CB.out.mono ?_
      rintro e w5 ⟨g5, rfl, hg5, r5, X5⟩
      have cl := cseal_length (text p)
      have b5 := r5.bytes (by rw [cl]; omega)
      have TN := turn_any _ (cseal (text p)) bit w5 b5 (by rw [cl]; omega) (by rw [cl]; omega) hbit.1 (by omega)
      have NO := hid (copens_cturn (text p) bit)
      have LT := hid (cturn_length (cseal (text p)) bit)
      rw [cl] at TN LT
      have Y5 := hid (Y4.out.trans X5)
      have CT := hid TN
      clear X5 r5 b5 TN CB cl
      generalize text p = T at *
      go_wp2_with fail
      refine CT.out.mono ?_
      rintro e w6 ⟨rfl, r6, X6⟩
      have b6 := r6.bytes (by rw [LT.out]; omega)
      rw [LT.out] at b6
      have CP := parse_any w6 _ (cturn (cseal T) bit) b6 (by rw [LT.out]; omega)
      have PN : pparse (cturn (cseal T) bit) = (21, pnone) := by
        unfold pparse
        rw [NO.out]
        split <;> rfl
      rw [PN] at CP
      have CPH := hid CP
      have Y6 := hid (Y5.out.trans X6)
      clear CT X6 r6 b6 CP PN
      go_wp2_with fail
      refine CPH.out.mono ?_
      intro e w7 told
      obtain ⟨A, rfl, vA, X7, zA, oA⟩ := told.val
      obtain ⟨w8, e8⟩ : ∃ w8, w8 = w7.alloc (.cells A 29) := ⟨_, rfl⟩
      have SN8 : Hid ((w7.alloc (.cells zrow 29)).setRow w7.heap.size A = w8) := by rw [e8]; exact setRow_new w7 _ _ _ _
      have GZ8 : Hid ((w7.alloc (.cells zrow 29)).heap[w7.heap.size]? = some (.cells zrow 29 (0, 0))) := heap_alloc_new w7 _
      have X8 : Ext w7 w8 := by rw [e8]; exact (Ext.refl w7).alloc _
      have G8 : Hid (w8.heap[w7.heap.size]? = some (.cells A 29 (0, 0))) := by rw [e8]; exact heap_alloc_new w7 _
      have ZZ : Hid ((Try.prog.info? 29).map (·.size) = some A.size) := by rw [zA]; exact cells_packet
      have ZB : Hid (zrow.size = A.size) := by rw [zA]; exact rfl
      have OA := hid oA
      have Y8 := hid (Y6.out.trans (X7.trans X8))
      have SB : Hid (sameB pnone pnone = true) := (sameB_iff bnd_none bnd_none).2 (same.refl _)
      have CE := hid (equal_any w8 (.agg A) (.agg zrow) pnone pnone (vA.ext X8) (pval_none w8) ⟨by simp [pnone], by simp [pnone], by simp [pnone]⟩)
      rw [SB.out] at CE
      clear e8 X8 X7 vA zA oA told CPH
      go_wp2_with (first
        | (refine wpList_store_row rfl 29 _ _ rfl w7.heap.size A rfl rfl 29 zrow GZ8.out ZZ.out ZB.out OA.out ?_; rw [SN8.out])
        | refine wpList_load_row_g rfl 29 _ rfl w7.heap.size rfl 29 A (0, 0) _ G8.out Try.underlying29 rfl ZZ.out ?_)
      refine CE.out.mono ?_
      rintro e w9 ⟨rfl, X9⟩
      have Y9 := hid (Y8.out.trans X9)
      clear CE X9
      go_wp2_with fail
      refine (awake7_any w9).mono ?_
      rintro e w10 ⟨rfl, X10⟩
      have Y10 := hid (Y9.out.trans X10)
      clear X10
      go_wp2_with fail
      go_ret
      exact ⟨rfl, Y10.out⟩
end wireTurned
end Go.Proofs.Ytlnjkjpllmfcaaa

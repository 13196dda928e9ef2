/-
  The walk of MeterSums: a meter tells what came in its window, at the last tick and behind it, whatever came.
-/
import Derived.Test.YtjdcccienbahjaaMeterPlayed
namespace Go.Proofs.Ytjdcccienbahjaa.meterSums
set_option linter.unusedVariables false
open Go.RowKit

set_option maxHeartbeats 8000000 in
theorem walk (a0 : Int) (v1 : Value) (a2 : Int) (l : Ams) (w0 : (Lit.int .i64 a0).wf = true) (w2 : (Lit.int .i64 a2).wf = true) (w : World) (hl : IsAms w v1 l) :
    Calls Try.prog 3 #[.int .i64 a0, v1, .int .i64 a2] w fun e w' => e = .returned (.bool true) ∧ Below w.heap.size w w' := by
  obtain ⟨b0, b0'⟩ := bounds_i64 w0
  obtain ⟨b2, b2'⟩ := bounds_i64 w2
  clear w0 w2
  by_cases t : l.length ≤ 80 ∧ 1 ≤ a0 ∧ a0 ≤ 64 ∧ 0 ≤ a2 ∧ a2 ≤ 1000
  · obtain ⟨t1, h1, h2, h3, h4⟩ := t
    have P := hid (played_any a0 v1 l h1 h2 w hl t1)
    obtain ⟨ao, cp, rfl, vw⟩ := id hl
    clear hl vw
    have d0 : decide ((80 : Int) < (l.length : Int)) = false := by simp; omega
    have d1 : decide (a0 < 1) = false := by simp; omega
    have d2 : decide (64 < a0) = false := by simp; omega
    have d3 : decide (a2 < 0) = false := by simp; omega
    have d4 : decide (1000 < a2) = false := by simp; omega
    obtain ⟨H, eH⟩ : ∃ H, H = w.heap.size := ⟨_, rfl⟩
    rw [← eH] at P
    have EH := hid eH
    clear eH
    go_enter Try.func3, Try.ntmps3
    go_wp2_with fail
    refine P.out.mono ?_
    rintro e w1 ⟨v, x, rfl, S⟩
    clear P
    have sl := S.len
    have f := S.meter.fine
    have fl := f.last
    have tf := tally_fine f (show x.length ≤ 1000 by omega) (lastOf x + a2 - a0) (lastOf x + a2)
    have tot := f.total
    obtain ⟨u, hb⟩ := S.meter.block
    have q1 := last_any _ a0 _ u w1 hb
    have q2 := fun W (e : Ext w1 W) => refSum_any v x a0 (lastOf x + a2) W (S.kept.ext e).ams (by omega) h1 h2 (by omega) (by omega) f.nonneg (by omega)
    have q3 := fun W (e : Ext w1 W) => sum_any _ _ a0 (lastOf x + a2) x W (S.meter.ext e) (by omega) (by omega) (by omega)
    have q4 := fun W (e : Ext w1 W) => rate_any _ _ a0 (lastOf x + a2) x W (S.meter.ext e) (by omega) (by omega) (by omega)
    obtain ⟨y, ey⟩ : ∃ y, y = lastOf x := ⟨_, rfl⟩
    rw [← ey] at q1 q2 q3 q4 tf fl
    obtain ⟨T, eT⟩ : ∃ T, T = tally x (y + a2 - a0) (y + a2) := ⟨_, rfl⟩
    rw [← eT] at q2 q3 q4 tf
    have q5 := fun W => ratio_any T a0 (by omega) (by omega) (by omega) (by omega) W
    obtain ⟨R, eR⟩ : ∃ R, R = fratio T a0 := ⟨_, rfl⟩
    rw [← eR] at q4 q5
    rw [← EH.out] at q1 q3 q4
    have Q1 := hid q1
    have Q2 := hid q2
    have Q3 := hid q3
    have Q4 := hid q4
    have Q5 := hid q5
    have X1 := hid S.ext
    clear q1 q2 q3 q4 q5 eR eT ey hb f tot S
    go_wp2_with fail
    refine Q1.out.mono ?_
    rintro e w3 ⟨rfl, rfl⟩
    go_wp2_with fail
    refine (Q2.out _ (Ext.refl _)).mono ?_
    rintro e w4 ⟨rfl, rfl⟩
    go_wp2_with fail
    refine (Q3.out _ (Ext.refl _)).mono ?_
    rintro e w5 ⟨rfl, x5⟩
    have X5 := hid x5
    clear x5
    go_wp2_with fail
    refine (Q4.out _ X5.out).mono ?_
    rintro e w6 ⟨rfl, x6⟩
    have X6 := hid (X5.out.trans x6)
    clear x6
    go_wp2_with fail
    refine (Q5.out _).mono ?_
    rintro e w7 ⟨rfl, n7, rfl⟩
    go_wp2_with fail
    refine (awake4_any _).mono ?_
    rintro e w8 ⟨rfl, x8⟩
    have X8 := hid (X1.out.trans ((X6.out.drewN n7).trans x8))
    clear x8
    go_wp2_with fail
    go_ret
    exact ⟨rfl, X8⟩
  · obtain ⟨ao, cp, rfl, vw⟩ := id hl
    clear hl vw
    by_cases t1 : (80 : Int) < (l.length : Int)
    case' neg =>
      by_cases t2 : a0 < 1
      case' neg =>
        by_cases t3 : 64 < a0
        case' neg =>
          by_cases t4 : a2 < 0
          case' neg => have t5 : 1000 < a2 := by omega
    all_goals
      clear t
      go_enter Try.func3, Try.ntmps3
      go_wp2_with fail
      refine (awake4_any _).mono ?_
      rintro e w' ⟨rfl, X⟩
      go_wp2_with fail
      go_ret
      exact ⟨rfl, X⟩
end Go.Proofs.Ytjdcccienbahjaa.meterSums

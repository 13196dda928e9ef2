/-
  The walk of RangesGaps: of any stretch what is not in the set is told.
-/
import Derived.Test.YtbolhkafdgiggaaRngPlaysW
import Derived.Test.YtbolhkafdgiggaaRngGaps
namespace Go.Proofs.Ytbolhkafdgiggaa.rangesGaps
set_option linter.unusedVariables false
set_option maxRecDepth 100000
open Go.RowKit Go.Lib

set_option maxHeartbeats 4000000 in
theorem walk (v0 : Value) (os : Ops) (x y : Int) (w : World) (hv : RowK (fun _ => True) w v0 3 (ocells os)) :
    Calls Try.prog 5 #[v0, .int .i64 x, .int .i64 y] w fun e w' => e = .returned (.bool true) ∧ Ext w w' := by
  have HV := hid hv
  obtain ⟨ao, m, c, rfl, h1, h2, h3, _⟩ := hv
  have e : m = os.length := by rw [ocells_length] at h1; omega
  subst e
  unfold maxLen at h3
  clear h1
  by_cases t : 12 < os.length
  · have t' : (12 : Int) < (os.length : Int) := by omega
    go_enter Try.func5, Try.ntmps5
    go_wp2_with fail
    refine (awake8_any _).mono ?_
    rintro e w' ⟨rfl, X⟩
    go_wp2_with fail
    go_ret
    exact ⟨rfl, X⟩
  · have t' : decide ((12 : Int) < (os.length : Int)) = false := by simp; omega
    have C1 := hid (played_any _ w _ os HV.out (by omega))
    clear HV
    go_enter Try.func5, Try.ntmps5
    go_wp2_with fail
    refine C1.out.mono ?_
    rintro e w1 ⟨xv, rfl, P⟩
    obtain ⟨v, l, xs, g, o, cx, sv, hg, tab, rfl, q1, q2, xl, X1, _, rx⟩ := P.view
    have RX := hid rx
    have SV := hid sv
    have HG := hid hg
    have TB := hid tab
    have XX := hid X1
    unfold maxLen at q2
    clear C1 P sv hg tab X1 rx
    obtain ⟨b, eb⟩ : ∃ b, b = w.heap.size := ⟨_, rfl⟩
    rw [← eb] at SV ⊢
    clear eb
    by_cases wi : 0 ≤ x ∧ x ≤ y ∧ y ≤ 16384
    · have C2 := hid (gaps_yes b x y v l w1 SV.out HG.out wi.1 wi.2.1 wi.2.2)
      have d1 : ¬ (x < 0) := by omega
      have d2 : ¬ (16384 < y) := by omega
      have d3 : ¬ (y < x) := by omega
      go_wp2_with fail
      refine C2.out.mono ?_
      rintro e w2 ⟨gv, rfl, gs, ng, cn, hh⟩
      have C3 := hid (refRuns_any _ w2 _ xs x y 0 (RX.out.kept (Kept.of_ext ng.2.2)) (by omega) wi.1 wi.2.1 (by omega))
      obtain ⟨ga, gc, eg, u1, u2, _⟩ := ng.1.view
      have NG := hid ng
      have CN := hid (And.intro cn hh)
      have GLN := cn.len wi.2.1
      unfold maxLen at u2
      subst eg
      clear C2 ng cn hh
      go_wp2_with fail
      refine C3.out.mono ?_
      rintro e w3 ⟨mv, rfl, ms, nm, rn⟩
      obtain rfl : gs = ms := Runs.gaps wi.1 wi.2.2 TB.out rn CN.1 CN.2
      have C4 := hid (pairs_any _ _ w3 _ mv gs gs ((NG.out.ext nm.2.2).row) nm.row (by omega))
      rw [show (gs == gs) = true by simp] at C4
      have X3 := hid ((XX.out.trans NG.out.2.2).trans nm.2.2)
      obtain ⟨ma, mn, mc, em⟩ := owns_slice nm.1
      subst em
      clear C3 nm rn
      go_wp2_with fail
      refine C4.out.mono ?_
      rintro e w4 ⟨rfl, n4, rfl⟩
      clear C4
      go_wp2_with fail
      refine (awake8_any _).mono ?_
      rintro e w5 ⟨rfl, x5⟩
      have X5 := hid ((X3.out.drewN n4).trans x5)
      clear x5
      go_wp2_with fail
      go_ret
      exact ⟨rfl, X5.out⟩
    · have C2 := hid (gaps_no b x y w1 wi)
      have three : x < 0 ∨ (¬ x < 0 ∧ 16384 < y) ∨ (¬ x < 0 ∧ ¬ 16384 < y ∧ y < x) := by omega
      clear wi
      go_wp2_with fail
      refine C2.out.mono ?_
      rintro e w2 ⟨rfl, rfl⟩
      clear C2
      rcases three with d1 | ⟨d1, d2⟩ | ⟨d1, d2, d3⟩
      all_goals (
        go_wp2_with fail
        refine (awake8_any _).mono ?_
        rintro e w5 ⟨rfl, x5⟩
        have X5 := hid (XX.out.trans x5)
        clear x5
        go_wp2_with fail
        go_ret
        exact ⟨rfl, X5.out⟩)
end Go.Proofs.Ytbolhkafdgiggaa.rangesGaps

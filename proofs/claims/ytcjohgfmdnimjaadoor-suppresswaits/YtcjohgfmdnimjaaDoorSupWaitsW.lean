/-
  The walk of SuppressWaits: any wait is what the document says, and no longer than the most.
-/
import Derived.Test.YtcjohgfmdnimjaaDoorSupPlay
namespace Go.Proofs.YtcjohgfmdnimjaaDoor.suppressWaits
set_option linter.unusedVariables false
set_option maxRecDepth 100000
open Go.RowKit Go.Lib Go.Proofs.YtcjohgfmdnimjaaDoor.Sup

set_option maxHeartbeats 4000000 in
theorem walk (s m n : Int) (w : World) (H : Steps w) (wf0 : (Lit.int .u64 s).wf = true) (wf1 : (Lit.int .i64 m).wf = true) (wf2 : (Lit.int .i64 n).wf = true) : Calls Tryd.prog 3 #[.int .u64 s, .int .i64 m, .int .i64 n] w fun e w' => e = .returned (.bool true) ∧ Ext w w' := by
  obtain ⟨f0, f1⟩ := Go.bounds_u64 wf0
  clear wf0 wf1 wf2
  have AW : Hid (∀ V, Ext w V → Calls Tryd.prog 9 #[] V fun e w' => e = .returned (.bool true) ∧ Ext V w') := fun V x => awake_any V (H.ext x)
  by_cases ok : Wok s m n
  · have WT := hid (wait_ok s m n w H ok)
    have RW := hid (fun V => refWait_any s m n V ok)
    obtain ⟨v0, v1⟩ := wt_room ok
    obtain ⟨⟨s0, s1⟩, ⟨m0, m1⟩, n0, n1⟩ := ok
    obtain ⟨W, hW⟩ : ∃ W, W = wt s m n := ⟨_, rfl⟩
    rw [← hW] at WT RW v0 v1
    have ne : (s == 0) = false := by simp; omega
    clear hW
    go_enter Tryd.func3, Tryd.ntmps3
    go_wp2_with fail
    refine WT.out.mono ?_
    rintro e w1 ⟨rfl, k1, rfl⟩
    go_wp2_with fail
    refine (RW.out _).mono ?_
    rintro e w2 ⟨rfl, x2⟩
    have X2 := hid (((Ext.refl w).drewN k1).trans x2)
    clear x2 WT RW
    go_wp2_with fail
    refine (AW.out _ X2.out).mono ?_
    rintro e w3 ⟨rfl, x3⟩
    have XF := hid (X2.out.trans x3)
    clear AW X2 x3
    go_wp2_with fail
    go_ret
    exact ⟨rfl, XF.out⟩
  · have WT := hid (wait_bad s m n w f0 (by omega) ok)
    have BAD : s = 0 ∨ 4294967296 < s ∨ m < 0 ∨ 1048576 < m ∨ n < 2 ∨ 65536 < n := by
      unfold Wok at ok
      omega
    clear ok
    have AW2 := hid (AW.out w (Ext.refl w))
    clear AW
    by_cases q0 : s = 0
    · subst q0
      clear BAD f0 f1
      go_enter Tryd.func3, Tryd.ntmps3
      go_wp2_with fail
      refine WT.out.mono ?_
      rintro e w1 ⟨rfl, ew⟩
      obtain rfl : w = w1 := ew.symm
      go_wp2_with fail
      refine AW2.out.mono ?_
      rintro e w3 ⟨rfl, x3⟩
      go_wp2_with fail
      go_ret
      exact ⟨rfl, x3⟩
    have ne : (s == 0) = false := by simp; omega
    by_cases q1 : 4294967296 < s
    case' pos => clear BAD f0 f1 q0
    case' neg =>
      by_cases q2 : m < 0
      case' pos => clear BAD f0 f1 q0
      case' neg =>
        by_cases q3 : 1048576 < m
        case' pos => clear BAD f0 f1 q0
        case' neg =>
          by_cases q4 : n < 2
          case' pos => clear BAD f0 f1 q0
          case' neg =>
            have q5 : 65536 < n := by omega
            clear BAD f0 f1 q0
    all_goals
      go_enter Tryd.func3, Tryd.ntmps3
      go_wp2_with fail
      refine WT.out.mono ?_
      rintro e w1 ⟨rfl, ew⟩
      obtain rfl : w = w1 := ew.symm
      go_wp2_with fail
      refine AW2.out.mono ?_
      rintro e w3 ⟨rfl, x3⟩
      go_wp2_with fail
      go_ret
      exact ⟨rfl, x3⟩
end Go.Proofs.YtcjohgfmdnimjaaDoor.suppressWaits

/-
  The walk of GroupNew: there are groups of just the numbers that the document allows, in which nobody gets anything.
-/
import Derived.Test.YtmnngajklnljjaaGrpPlay
namespace Go.Proofs.Ytmnngajklnljjaa.groupNew
set_option linter.unusedVariables false
set_option maxRecDepth 100000
open Go.RowKit Go.Lib Go.Proofs.Ytmnngajklnljjaa.Grp

set_option maxHeartbeats 2000000 in
theorem walk (n j lv : Int) (w : World) : Calls Try.prog 5 #[.int .i64 n, .int .i64 j, .int .i64 lv] w fun e w' => e = .returned (.bool true) ∧ Ext w w' := by
  have AW := hid (fun W => awake_any W)
  by_cases ok : okCase n j lv 0
  · have RY := hid (fun W => right_yes n j lv none 0 0 W ok)
    obtain ⟨o1, o2, o3, o4, o5, o6, o7⟩ := ok
    obtain ⟨N, rfl⟩ : ∃ N : Nat, n = (N : Int) := ⟨n.toNat, by omega⟩
    have NW := hid (new_any N j lv w (by omega) (by omega) o3 o4 o5 o6)
    go_enter Try.func5, Try.ntmps5
    go_wp2_with fail
    refine NW.out.mono ?_
    rintro e w1 ⟨b, g, cap, rfl, G1, hb, hg, x1⟩
    have GG := hid G1
    have X1 := hid x1
    clear NW G1 hb hg x1
    go_wp2_with fail
    refine (RY.out _).mono ?_
    rintro e w2 ⟨rfl, x2⟩
    have G2 := hid (GG.out.ext x2)
    have X2 := hid (X1.out.trans x2)
    have CT := hid (count_any b g cap N j lv [] w2 G2.out)
    clear RY GG X1 x2
    go_wp2_with fail
    refine CT.out.mono ?_
    rintro e w3 ⟨rfl, rfl⟩
    have ME := hid (members_any b g cap N j lv [] 0 1000 w3 G2.out)
    clear CT
    go_wp2_with fail
    refine ME.out.mono ?_
    rintro e w4 ⟨v', rfl, Nn⟩
    have em : mems j lv [] 0 1000 N = [] := by unfold mems; rw [if_neg (by decide)]; exact mem_start j lv 0 1000 (by decide) N
    rw [em] at Nn
    obtain ⟨ao, c, rfl, hc1, hc2⟩ := Nn.slice
    have X4 := hid (X2.out.trans Nn.2.2)
    simp only [List.length_nil]
    clear ME Nn em hc1 hc2 X2 G2
    go_wp2_with fail
    refine (AW.out _).mono ?_
    rintro e w5 ⟨rfl, x5⟩
    have X5 := hid (X4.out.trans x5)
    clear x5
    go_wp2_with fail
    go_ret
    exact ⟨rfl, X5.out⟩
  · have RN := hid (fun W => right_no n j lv none 0 0 W ok)
    have NB := hid (new_bad n j lv w (by unfold okCase at ok; omega))
    clear ok
    go_enter Try.func5, Try.ntmps5
    go_wp2_with fail
    refine NB.out.mono ?_
    rintro e w1 ⟨rfl, rfl⟩
    clear NB
    go_wp2_with fail
    refine (RN.out _).mono ?_
    rintro e w2 ⟨rfl, x2⟩
    have X2 := hid x2
    clear x2
    go_wp2_with fail
    refine (AW.out _).mono ?_
    rintro e w5 ⟨rfl, x5⟩
    have X5 := hid (X2.out.trans x5)
    clear x5
    go_wp2_with fail
    go_ret
    exact ⟨rfl, X5.out⟩
end Go.Proofs.Ytmnngajklnljjaa.groupNew

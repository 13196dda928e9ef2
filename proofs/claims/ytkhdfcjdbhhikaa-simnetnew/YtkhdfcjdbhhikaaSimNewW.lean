/-
  The walk of SimnetNew: there are nets of just the numbers that the document allows, in which nothing waits.
-/
import Derived.Test.YtkhdfcjdbhhikaaSimAwake
import Derived.Test.YtkhdfcjdbhhikaaSimOpenA
import Derived.Test.YtkhdfcjdbhhikaaSimEq
namespace Go.Proofs.Ytkhdfcjdbhhikaa.simnetNew
set_option linter.unusedVariables false
set_option maxRecDepth 100000
open Go.RowKit Go.Lib Go.Proofs.Ytkhdfcjdbhhikaa.Sim Go.Proofs.Ytkhdfcjdbhhikaa.Grp
open Go.Proofs.Ytkhdfcjdbhhikaa.Pip hiding NewR

set_option maxHeartbeats 2000000 in
theorem walk (v : Value) (c : Cfg) (w : World) (hc : CfgIn w v c) : Calls Try.prog 5 #[v] w fun e w' => e = .returned (.bool true) ∧ Ext w w' := by
  unfold CfgIn at hc
  subst hc
  have AW := hid (fun W => awake_any W)
  obtain ⟨W0, e0⟩ : ∃ W0, W0 = w.alloc (.cells (ccs c) 23) := ⟨_, rfl⟩
  have X0 : Ext w W0 := by rw [e0]; exact (Ext.refl w).alloc _
  have CC : Hid (∀ W, Ext W0 W → _) := fun W hW => ccs_cells c w W (by rw [← e0]; exact hW)
  by_cases ok : okCfg c
  · have RY := hid (fun W => right_yes c W ok)
    obtain ⟨n, hn⟩ : ∃ n : Nat, c.1 = (n : Int) := ⟨c.1.toNat, by have := ok.1; omega⟩
    have n1 : 1 ≤ n := by have := ok.1; omega
    have NW := hid (new_net c n hn ok (fun _ => True) (.slice none 0 0) [] W0 (RowK.nil _ _ _) (by simp))
    have CN : Hid (c.1 = (n : Int)) := hn
    obtain ⟨c1, c2, c3, c4, c5⟩ := c
    simp only at CC
    unfold ccs at RY NW e0
    simp only at RY NW e0
    have C0 := CC.out W0 (Ext.refl _)
    rw [e0] at C0
    obtain ⟨y0, y1, y2, y3, y4⟩ := C0
    have E0 := hid e0
    have XX := hid X0
    unfold ccs
    clear e0 X0 hn
    go_enter Try.func5, Try.ntmps5
    go_wp2_with fail
    rw [← E0.out]
    refine NW.out.mono ?_
    rintro e w1 ⟨b, bs, rfl, h1, x1⟩
    obtain ⟨y0, y1, y2, y3, y4⟩ := CC.out w1 x1
    have H1 := hid h1
    have X1 := hid x1
    clear NW h1 x1
    go_wp2_with fail
    refine (RY.out _).mono ?_
    rintro e w2 ⟨rfl, x2⟩
    have X2 := hid (X1.out.trans x2)
    have h2 := H1.out.ext x2
    have US := hid (used_net h2)
    have H2 := hid h2
    clear RY X1 H1 x2 h2
    go_wp2_with fail
    refine US.out.mono ?_
    rintro e w3 ⟨rfl, rfl⟩
    have ST : Hid (Calls Try.prog 16 #[.pointer (some ⟨b, 0, none⟩)] w3 fun e w' => e = .returned (.agg #[.int .i64 0, .int .i64 0, .int .i64 0, .int .i64 0, .int .i64 0, .int .i64 0]) ∧ Ext w3 w') := stats_net H2.out
    clear US
    go_wp2_with fail
    refine ST.out.mono ?_
    rintro e w4 ⟨rfl, x4⟩
    have X4 := hid (X2.out.trans x4)
    have h4 := H2.out.ext x4
    have NZ : (binOp .neq 51 (.agg #[.int .i64 0, .int .i64 0, .int .i64 0, .int .i64 0, .int .i64 0, .int .i64 0]) (.agg #[.int .i64 0, .int .i64 0, .int .i64 0, .int .i64 0, .int .i64 0, .int .i64 0])).run Try.prog w4 = .ok (.bool false) w4 := neqN w4 (0, 0, 0, 0, 0, 0)
    have GN := guardN
    obtain ⟨gb, c0, LV⟩ := h4.level 0 (by have := CN.out; show ((0 : Nat) : Int) < c1; omega) 5
    rw [show lat c4 c5 (st c4 c5 [] ((0 : Nat) : Int)) 5 = -1 by unfold lat; rw [st_nil]; split <;> rfl] at LV
    have LL := hid LV
    have H4 := hid h4
    clear ST X2 H2 x4 h4 LV
    go_wp2_with fail
    refine LL.out.mono ?_
    rintro e w5 ⟨rfl, x5⟩
    have X5 := hid (X4.out.trans x5)
    have WT := waiting_yes (H4.out.ext x5) 0 (by have := CN.out; show ((0 : Nat) : Int) < c1; omega)
    rw [st0_at] at WT
    have WW := hid WT
    clear LL X4 H4 x5 WT NZ c0
    go_wp2_with fail
    refine WW.out.mono ?_
    rintro e w6 ⟨rfl, rfl⟩
    clear WW
    go_wp2_with fail
    refine (AW.out _).mono ?_
    rintro e w7 ⟨rfl, x7⟩
    have X7 := hid (XX.out.trans (X5.out.trans x7))
    clear x7
    go_wp2_with fail
    go_ret
    exact ⟨rfl, X7.out⟩
  · have RN := hid (fun W => right_no c W ok)
    have NB := hid (Sim.new_bad c (.slice none 0 0) W0 ok)
    obtain ⟨c1, c2, c3, c4, c5⟩ := c
    simp only at CC
    unfold ccs at RN NB e0
    simp only at RN NB e0
    have C0 := CC.out W0 (Ext.refl _)
    rw [e0] at C0
    obtain ⟨y0, y1, y2, y3, y4⟩ := C0
    have E0 := hid e0
    have XX := hid X0
    unfold ccs
    clear e0 X0 ok
    go_enter Try.func5, Try.ntmps5
    go_wp2_with fail
    rw [← E0.out]
    refine NB.out.mono ?_
    rintro e w1 ⟨rfl, x1⟩
    obtain ⟨y0, y1, y2, y3, y4⟩ := CC.out w1 x1
    have X1 := hid x1
    clear NB x1
    go_wp2_with fail
    refine (RN.out _).mono ?_
    rintro e w2 ⟨rfl, x2⟩
    have X2 := hid (X1.out.trans x2)
    clear RN X1 x2
    go_wp2_with fail
    refine (AW.out _).mono ?_
    rintro e w5 ⟨rfl, x5⟩
    have X5 := hid (XX.out.trans (X2.out.trans x5))
    clear x5
    go_wp2_with fail
    go_ret
    exact ⟨rfl, X5.out⟩
end Go.Proofs.Ytkhdfcjdbhhikaa.simnetNew

/-
  The walk of HistoryPlays: a history answers every sequence of calls as its intervals do.
-/
import Derived.Test.YtmkcgkmaabcjoaaDoorHisPlay
namespace Go.Proofs.YtmkcgkmaabcjoaaDoor.historyPlays
set_option linter.unusedVariables false
set_option maxRecDepth 100000
open Go.RowKit Go.Lib Go.Proofs.YtmkcgkmaabcjoaaDoor.His

set_option maxHeartbeats 1000000 in
theorem walk (v0 : Value) (l : List (Int × Int)) (w : World) (ht : Wts w) (hz : OpsK (fun _ => True) w v0 l) : Calls Tryd.prog 3 #[v0] w fun e w' => e = .returned (.bool true) ∧ Ext w w' := by
  have AW := hid (fun V (X : Ext w V) => awake_any V (ht.ext X))
  obtain ⟨ao, c, rfl, k1, k2⟩ := hz.slice
  by_cases big : 100 < l.length
  · obtain ⟨N, eN⟩ : ∃ N, N = l.length := ⟨_, rfl⟩
    rw [← eN] at big k1 ⊢
    have b1 : (100 : Int) < (N : Int) := by omega
    unfold maxLen at k2
    clear hz ht eN big
    go_enter Tryd.func3, Tryd.ntmps3
    go_wp2_with fail
    refine (AW.out _ (Ext.refl w)).mono ?_
    rintro e w1 ⟨rfl, x1⟩
    have X1 := hid x1
    clear AW x1
    go_wp2_with fail
    go_ret
    exact ⟨rfl, X1.out⟩
  have PL := hid (played_any _ l w hz (by omega))
  obtain ⟨N, eN⟩ : ∃ N, N = l.length := ⟨_, rfl⟩
  rw [← eN] at big k1 PL ⊢
  have b1 : ¬ (100 : Int) < (N : Int) := by omega
  unfold maxLen at k2
  obtain ⟨s, es⟩ : ∃ s, s = hrun l := ⟨_, rfl⟩
  rw [← es] at PL
  obtain ⟨o, lst⟩ := s
  clear hz ht eN big es
  go_enter Tryd.func3, Tryd.ntmps3
  go_wp2_with fail
  refine PL.out.mono ?_
  rintro e w1 ⟨b, cv, rfl, ps⟩
  have PS := hid ps
  have OP := hid (open_any b o lst w1 ps.1)
  have CL := hid (closed_any b o lst w1 ps.1)
  have l8 : lst.length ≤ 1000 := by have := ps.1.1.2.1; simp only at this; omega
  clear PL ps
  go_wp2_with fail
  refine OP.out.mono ?_
  rintro e w2 ⟨rfl, rfl⟩
  clear OP
  go_wp2_with fail
  refine CL.out.mono ?_
  rintro e w3 ⟨v', rfl, hn⟩
  have X3 := hid (PS.out.2.2.1.trans hn.2.2)
  have SM := hid (same_any _ _ lst w3 (NewR.list hn) (PS.out.2.1.ext hn.2.2) l8)
  clear CL hn
  go_wp2_with fail
  refine SM.out.mono ?_
  rintro e w4 ⟨rfl, x4⟩
  have X4 := hid (X3.out.trans x4)
  clear SM x4
  go_wp2_with fail
  refine (AW.out _ X4.out).mono ?_
  rintro e w5 ⟨rfl, x5⟩
  have X5 := hid (X4.out.trans x5)
  clear AW x5
  go_wp2_with fail
  go_ret
  exact ⟨rfl, X5.out⟩
end Go.Proofs.YtmkcgkmaabcjoaaDoor.historyPlays

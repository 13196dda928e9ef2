/-
  The walk of FixSums: sums and differences of any two numbers are exact, or the greatest one, or 0.
-/
import Derived.Test.YthipbhpggeekbaaRefUp
import Derived.OpenShut
namespace Go.Proofs.Ythipbhpggeekbaa.fixSums
set_option linter.unusedVariables false
open Go.RowKit

theorem add_room (a b : Int) (ha : 0 ≤ a) (hb : 0 ≤ b) : 0 ≤ fadd a b ∧ fadd a b < 18446744073709551616 := by unfold fadd; split <;> omega
theorem sub_room (a b : Int) (ha : 0 ≤ a) (hb : 0 ≤ b) (h : a ≤ 18446744073709551615) : 0 ≤ fsub a b ∧ fsub a b < 18446744073709551616 := by unfold fsub; split <;> omega

set_option maxHeartbeats 2000000 in
theorem walk (a0 : Int) (a1 : Int) (w0 : (Lit.int .u64 a0).wf = true) (w1 : (Lit.int .u64 a1).wf = true) (w : World) :
    Calls Try.prog 3 #[.int .u64 a0, .int .u64 a1] w fun e w' => e = .returned (.bool true) ∧ Below w.heap.size w w' := by
  obtain ⟨b0, b0'⟩ := bounds_u64 w0
  obtain ⟨b1, b1'⟩ := bounds_u64 w1
  clear w0 w1
  have r1 := add_room a0 a1 b0 b1
  have r2 := sub_room a0 a1 b0 b1 b0'
  have E := Ext.refl w
  have c1 := add_any a0 a1 b0 b1 (by omega) (by omega)
  have c2 := sub_any a0 a1 b0 b1 (by omega) (by omega)
  obtain ⟨s, es⟩ : ∃ s, s = fadd a0 a1 := ⟨_, rfl⟩
  obtain ⟨d, ed⟩ : ∃ d, d = fsub a0 a1 := ⟨_, rfl⟩
  rw [← es] at c1 r1
  rw [← ed] at c2 r2
  have hs : s = if 18446744073709551615 < a0 + a1 then 18446744073709551615 else a0 + a1 := es
  have hd : d = if a0 < a1 then 0 else a0 - a1 := ed
  have HS := hid hs
  have HD := hid hd
  clear hs hd es ed
  go_enter Try.func3, Try.ntmps3
  go_wp2_with fail
  refine (c1 _).mono ?_
  rintro e w' ⟨rfl, rfl⟩
  go_wp2_with fail
  refine (c2 _).mono ?_
  rintro e w' ⟨rfl, rfl⟩
  go_wp2_with fail
  refine (lawOf_any a0 _ b0 (by omega)).mono ?_
  rintro e w1 ⟨v1, rfl, X1, n1⟩
  replace E := E.trans X1
  go_wp2_with fail
  refine (lawOf_any a1 _ b1 (by omega)).mono ?_
  rintro e w2 ⟨v2, rfl, X2, n2⟩
  replace E := E.trans X2
  replace n1 := n1.ext X2
  go_wp2_with fail
  refine (refAdd_any _ _ _ _ _ _ _ n1 n2 (by decide) (by decide)).mono ?_
  rintro e w3 ⟨v3, rfl, b3, n3⟩
  have X3 : Ext w2 w3 := b3
  clear b3 n1 n2 X1 X2
  replace E := E.trans X3
  clear X3
  go_wp2_with fail
  refine (lawOf_any 18446744073709551615 _ (by decide) (by decide)).mono ?_
  rintro e w4 ⟨v4, rfl, X4, n4⟩
  replace E := E.trans X4
  replace n3 := n3.ext X4
  clear X4
  go_wp2_with fail
  refine (cmp_any _ _ _ _ _ _ _ n3 n4 (by decide) (by decide)).mono ?_
  rintro e w' ⟨rfl, k, rfl⟩
  replace E := E.drewN k
  replace n3 := n3.drewN k
  clear n4
  by_cases big : 18446744073709551615 < a0 + a1
  case' pos =>
    rw [sgn_pos big]
    go_wp2_with fail
    refine (lawOf_any 18446744073709551615 _ (by decide) (by decide)).mono ?_
    rintro e w5 ⟨v5, rfl, X5, n5⟩
    replace E := E.trans X5
    clear X5 n3
    have hs : s = 18446744073709551615 := by rw [HS.out, if_pos big]
    rw [← hs] at n5
  case' neg =>
    have t := sgn_le (show a0 + a1 ≤ 18446744073709551615 by omega)
    have hs : s = a0 + a1 := by rw [HS.out, if_neg big]
    have n5 := n3
    rw [← hs] at n5
    generalize sgn (a0 + a1) 18446744073709551615 = Z at *
    clear n3
  all_goals
    clear hs
    go_wp2_with fail
    refine (lawOf_any s _ r1.1 r1.2).mono ?_
    rintro e w6 ⟨v6, rfl, X6, n6⟩
    replace E := E.trans X6
    replace n5 := n5.ext X6
    clear X6
    go_wp2_with fail
    refine (cmp_any _ _ _ _ _ _ _ n6 n5 (by decide) (by decide)).mono ?_
    rintro e w' ⟨rfl, k2, rfl⟩
    replace E := E.drewN k2
    clear n6 n5
    rw [sgn_zero (show s = s from rfl)]
    by_cases less : a0 < a1
    · have hd : d = 0 := by rw [HD.out, if_pos less]
      subst hd
      go_wp2_with fail
      refine (awake_any _).mono ?_
      rintro e w' ⟨rfl, k3, rfl⟩
      replace E := E.drewN k3
      rw [World.drewN_drewN] at E
      go_wp2_with fail
      go_ret
      exact ⟨rfl, E⟩
    · have hd : d + a1 = a0 := by rw [HD.out, if_neg less]; omega
      have D := hid hd
      clear hd
      go_wp2_with fail
      refine (lawOf_any d _ r2.1 r2.2).mono ?_
      rintro e w7 ⟨v7, rfl, X7, n7⟩
      replace E := E.trans X7
      clear X7
      go_wp2_with fail
      refine (lawOf_any a1 _ b1 (by omega)).mono ?_
      rintro e w8 ⟨v8, rfl, X8, n8⟩
      replace E := E.trans X8
      replace n7 := n7.ext X8
      clear X8
      go_wp2_with fail
      refine (refAdd_any _ _ _ _ _ _ _ n7 n8 (by decide) (by decide)).mono ?_
      rintro e w9 ⟨v9, rfl, b9, n9⟩
      have X9 : Ext w8 w9 := b9
      replace E := E.trans X9
      clear b9 X9 n7 n8
      go_wp2_with fail
      refine (lawOf_any a0 _ b0 (by omega)).mono ?_
      rintro e wa ⟨va, rfl, Xa, na⟩
      replace E := E.trans Xa
      replace n9 := n9.ext Xa
      clear Xa
      go_wp2_with fail
      refine (cmp_any _ _ _ _ _ _ _ n9 na (by decide) (by decide)).mono ?_
      rintro e w' ⟨rfl, k3, rfl⟩
      replace E := E.drewN k3
      clear n9 na
      rw [sgn_zero D.out]
      go_wp2_with fail
      refine (awake_any _).mono ?_
      rintro e w' ⟨rfl, k4, rfl⟩
      replace E := E.drewN k4
      rw [World.drewN_drewN] at E
      go_wp2_with fail
      go_ret
      exact ⟨rfl, E⟩
end Go.Proofs.Ythipbhpggeekbaa.fixSums

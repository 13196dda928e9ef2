/-
  Walks of part and Wait, and of the reference's Wait.
-/
import Derived.Test.YtcjohgfmdnimjaaDoorSupMath
import Derived.Test.YtcjohgfmdnimjaaDoorEqnRef2
namespace Go.Proofs.YtcjohgfmdnimjaaDoor.Sup
set_option linter.unusedVariables false
set_option maxRecDepth 100000
open Go.RowKit Go.Lib

set_option maxHeartbeats 1000000 in
theorem part_any (s n : Int) (w : World) (H : Steps w) (h0 : 0 < s) (h1 : s ≤ 4294967296) (n0 : 2 ≤ n) (n1 : n ≤ 65536) :
    Calls Tryd.prog 20 #[.int .u64 s, .int .i64 n] w fun e w' => e = .returned (.int .u64 (prt s n)) ∧ ∃ k, w' = w.drewN k := by
  obtain ⟨ea, a0, a1⟩ := ratio_n n0 n1
  obtain ⟨b0, b1⟩ := neg_low h0 h1
  obtain ⟨l0, l1⟩ := lst_room n0 n1
  have w0 : IntKind.u64.wrap n = n := IntWalk.u64_in _ (by omega)
  have N1 := hid (neg_any s w H h0 (by omega))
  have RT := hid (fun V => ratio_any 1 n (by decide) (by omega) (by decide) (by omega) V)
  have N2 := hid (fun V (K : Steps V) => neg_any (4294967296 / n) V K (by omega) (by omega))
  have eL : fneg (4294967296 / n) = lst n := by unfold lst; rw [ea]
  rw [eL] at N2
  rw [ea] at RT
  have DV := hid (fun V => div_any (fneg s) (lst n) b0 (by omega) (by omega) (by omega) V)
  have q0 : 0 ≤ fratio (fneg s) (lst n) ∧ fratio (fneg s) (lst n) < 18446744073709551616 := by
    by_cases q : fneg s < lst n
    · obtain ⟨e, x, y⟩ := ratio_lt b0 q l1
      omega
    · have := ratio_ge (l := lst n) (x := fneg s) (by omega) (by omega)
      refine ⟨by omega, ?_⟩
      unfold fratio
      split
      · decide
      · have : fneg s * 4294967296 / lst n ≤ 137438953472 := Int.ediv_le_of_le_mul (by omega) (by omega)
        omega
  have SB := hid (fun V => sub_any 4294967296 (fratio (fneg s) (lst n)) (by decide) q0.1 (by decide) q0.2 V)
  have eP : fsub 4294967296 (fratio (fneg s) (lst n)) = prt s n := rfl
  rw [eP] at SB
  obtain ⟨P, hP⟩ : ∃ P, P = prt s n := ⟨_, rfl⟩
  rw [← hP] at SB ⊢
  obtain ⟨Q, hQ⟩ : ∃ Q, Q = fratio (fneg s) (lst n) := ⟨_, rfl⟩
  rw [← hQ] at SB DV
  obtain ⟨X, hX⟩ : ∃ X, X = fneg s := ⟨_, rfl⟩
  rw [← hX] at DV N1
  obtain ⟨L, hL⟩ : ∃ L, L = lst n := ⟨_, rfl⟩
  rw [← hL] at DV N2
  obtain ⟨R, hR⟩ : ∃ R, R = 4294967296 / n := ⟨_, rfl⟩
  rw [← hR] at RT N2
  clear hP hQ hX hL hR eP q0 eL ea a0 a1 b0 b1 l0 l1
  go_enter Tryd.func20, Tryd.ntmps20
  go_wp2_with fail
  refine N1.out.mono ?_
  rintro e w1 ⟨rfl, k1, rfl⟩
  go_wp2_with fail
  refine (RT.out _).mono ?_
  rintro e w1 ⟨rfl, k2, rfl⟩
  go_wp2_with fail
  refine (N2.out _ (H.drewN _)).mono ?_
  rintro e w1 ⟨rfl, k3, rfl⟩
  go_wp2_with fail
  refine (DV.out _).mono ?_
  rintro e w1 ⟨rfl, k4, rfl⟩
  go_wp2_with fail
  refine (SB.out _).mono ?_
  rintro e w1 ⟨rfl, ew⟩
  obtain rfl := ew
  go_wp2_with fail
  go_ret
  exact ⟨rfl, _, rfl⟩

set_option maxHeartbeats 1000000 in
theorem wait_ok (s m n : Int) (w : World) (H : Steps w) (ok : Wok s m n) :
    Calls Tryd.prog 8 #[.int .u64 s, .int .i64 m, .int .i64 n] w fun e w' => e = .returned (.tuple #[.int .i64 (wt s m n), .int .i64 0]) ∧ ∃ k, w' = w.drewN k := by
  obtain ⟨v0, v1⟩ := wt_room ok
  obtain ⟨⟨s0, s1⟩, ⟨m0, m1⟩, n0, n1⟩ := ok
  obtain ⟨p0, p1⟩ := prt_room s0 s1 n0 n1
  have PT := hid (part_any s n w H s0 s1 n0 n1)
  have TM := hid (fun V => times_any (prt s n) m p0 m0 (by omega) (by omega) V)
  have eW : ftimes (prt s n) m = wt s m n := rfl
  rw [eW] at TM
  obtain ⟨W, hW⟩ : ∃ W, W = wt s m n := ⟨_, rfl⟩
  rw [← hW] at TM v0 v1 ⊢
  obtain ⟨P, hP⟩ : ∃ P, P = prt s n := ⟨_, rfl⟩
  rw [← hP] at TM PT
  have w0 : IntKind.u64.wrap m = m := IntWalk.u64_in _ (by omega)
  have w1 : IntKind.i64.wrap W = W := IntWalk.i64_in _ (by omega)
  have ne : (s == 0) = false := by simp; omega
  clear hW hP eW p0 p1
  go_enter Tryd.func8, Tryd.ntmps8
  go_wp2_with fail
  refine PT.out.mono ?_
  rintro e w1 ⟨rfl, k1, rfl⟩
  go_wp2_with fail
  refine (TM.out _).mono ?_
  rintro e w1 ⟨rfl, ew⟩
  obtain rfl := ew
  go_wp2_with fail
  go_ret2
  exact ⟨rfl, _, rfl⟩

set_option maxHeartbeats 1000000 in
theorem wait_bad (s m n : Int) (w : World) (h0 : 0 ≤ s) (h1 : s < 18446744073709551616) (ok : ¬ Wok s m n) :
    Calls Tryd.prog 8 #[.int .u64 s, .int .i64 m, .int .i64 n] w fun e w' => e = .returned (.tuple #[.int .i64 0, .int .i64 11]) ∧ w' = w := by
  have BAD : s = 0 ∨ 4294967296 < s ∨ m < 0 ∨ 1048576 < m ∨ n < 2 ∨ 65536 < n := by
    unfold Wok at ok
    omega
  clear ok
  by_cases q0 : s = 0
  · subst q0
    clear BAD h0 h1
    go_enter Tryd.func8, Tryd.ntmps8
    go_wp2_with fail
    go_ret2
    exact ⟨rfl, rfl⟩
  have ne : (s == 0) = false := by simp; omega
  by_cases q1 : 4294967296 < s
  · clear BAD h0 h1 q0
    go_enter Tryd.func8, Tryd.ntmps8
    go_wp2_with fail
    go_ret2
    exact ⟨rfl, rfl⟩
  by_cases q2 : m < 0
  · clear BAD h0 h1 q0
    go_enter Tryd.func8, Tryd.ntmps8
    go_wp2_with fail
    go_ret2
    exact ⟨rfl, rfl⟩
  by_cases q3 : 1048576 < m
  · clear BAD h0 h1 q0
    go_enter Tryd.func8, Tryd.ntmps8
    go_wp2_with fail
    go_ret2
    exact ⟨rfl, rfl⟩
  by_cases q4 : n < 2
  · clear BAD h0 h1 q0
    go_enter Tryd.func8, Tryd.ntmps8
    go_wp2_with fail
    go_ret2
    exact ⟨rfl, rfl⟩
  · have q5 : 65536 < n := by omega
    clear BAD h0 h1 q0
    go_enter Tryd.func8, Tryd.ntmps8
    go_wp2_with fail
    go_ret2
    exact ⟨rfl, rfl⟩

set_option maxHeartbeats 2000000 in
theorem refWait_any (s m n : Int) (w : World) (ok : Wok s m n) :
    Calls Tryd.prog 10 #[.int .u64 s, .int .i64 m, .int .i64 n] w fun e w' => e = .returned (.int .i64 (wt s m n)) ∧ Ext w w' := by
  obtain ⟨v0, v1⟩ := wt_room ok
  obtain ⟨⟨s0, s1⟩, ⟨m0, m1⟩, n0, n1⟩ := ok
  obtain ⟨ea, a0, a1⟩ := ratio_n n0 n1
  obtain ⟨b0, b1⟩ := neg_low s0 s1
  obtain ⟨l0, l1⟩ := lst_room n0 n1
  have f1 := flog_low s0 s1
  have f2 := flog_low (s := 4294967296 / n) (by omega) (by omega)
  have e1 := fneg_low s0 s1
  have e2 : lst n = -flog (4294967296 / n) * 65536 := by unfold lst; rw [ea]; exact fneg_low (by omega) (by omega)
  have L1 := hid (fun V => refLog_any s V s0 (by omega))
  have L2 := hid (fun V => refLog_any (4294967296 / n) V (by omega) (by omega))
  have wn : IntKind.u64.wrap n = n := IntWalk.u64_in _ (by omega)
  have wm : IntKind.u64.wrap m = m := IntWalk.u64_in _ (by omega)
  have wn2 : IntKind.u64.wrap (n * 4294967296) = n * 4294967296 := IntWalk.u64_in _ (by omega)
  have D1 := hid (fun V => ref3Div_any 4294967296 (n * 4294967296) V (by decide) (by decide) (by omega) (by omega))
  have ed : fratio 4294967296 (n * 4294967296) = 4294967296 / n := by
    unfold fratio
    rw [if_neg (by omega), Int.mul_ediv_mul_of_pos_left _ _ (by decide)]
  rw [ed] at D1
  have w2 : IntKind.i64.wrap (-flog s) = -flog s := IntWalk.i64_in _ (by omega)
  have w3 : IntKind.u64.wrap (-flog s) = -flog s := IntWalk.u64_in _ (by omega)
  have w4 : IntKind.u64.wrap (-flog s * 65536) = -flog s * 65536 := IntWalk.u64_in _ (by omega)
  have w5 : IntKind.i64.wrap (-flog (4294967296 / n)) = -flog (4294967296 / n) := IntWalk.i64_in _ (by omega)
  have w6 : IntKind.u64.wrap (-flog (4294967296 / n)) = -flog (4294967296 / n) := IntWalk.u64_in _ (by omega)
  have w7 : IntKind.u64.wrap (-flog (4294967296 / n) * 65536) = -flog (4294967296 / n) * 65536 := IntWalk.u64_in _ (by omega)
  have D2 := hid (fun V => ref3Div_any (fneg s) (lst n) V b0 (by omega) (by omega) (by omega))
  have PS := fun q => prt_some s0 s1 n0 n1 q
  have PN := fun q => prt_none (s := s) n0 n1 q
  have TT : ∀ p, 0 ≤ p → p ≤ 4294967296 → ftimes p m = p * m / 4294967296 ∧ 0 ≤ p * m ∧ p * m ≤ 4503599627370496 := fun p h h' => by
    obtain ⟨x1, _, _, x2, x3⟩ := times_at h h' m0 m1
    exact ⟨x1, x2, x3⟩
  have WT : wt s m n = ftimes (prt s n) m := rfl
  have RL := fun q => (ratio_lt (x := fneg s) (l := lst n) b0 q l1).1
  rw [e1, e2] at D2 PS PN RL
  have eq1 : Hid (fneg s = -flog s * 65536) := e1
  rw [e1] at b0 b1
  rw [e2] at l0 l1
  clear e1 e2 ed
  clear eq1
  generalize flog (4294967296 / n) = l at *
  generalize flog s = x at *
  generalize 4294967296 / n = R at *
  by_cases q : -l * 65536 ≤ -x * 65536
  · have E0 : Hid (0 = wt s m n) := by show _ = _; rw [WT, PN q, (TT 0 (by decide) (by decide)).1]; simp
    clear PS PN TT WT RL D2 f1 f2
    generalize wt s m n = Z at *
    go_enter Tryd.func10, Tryd.ntmps10
    go_wp2_with fail
    refine (L1.out _).mono ?_
    rintro e w1 ⟨rfl, g1⟩
    have G1 := hid g1
    clear g1
    go_wp2_with fail
    refine (D1.out _).mono ?_
    rintro e w3 ⟨rfl, g1⟩
    have G2 := hid (G1.out.trans g1)
    clear g1 G1
    go_wp2_with fail
    refine (L2.out _).mono ?_
    rintro e w4 ⟨rfl, g1⟩
    have G3 := hid (G2.out.trans g1)
    clear g1 G2
    go_wp2_with fail
    go_ret
    exact ⟨ret_int E0.out, G3.out⟩
  · obtain ⟨e1, q0, q1⟩ := PS (by omega)
    have er := RL (by omega)
    obtain ⟨e3, t0, t1⟩ := TT (prt s n) (by omega) (by omega)
    rw [er] at D2
    have E0 : Hid ((4294967296 - -x * 65536 * 4294967296 / (-l * 65536)) * m / 4294967296 = wt s m n) := by show _ = _; rw [WT, e3, e1]
    rw [e1] at t0 t1
    clear PS PN TT WT RL f1 f2 e1 e3 er
    generalize wt s m n = Z at *
    generalize -x * 65536 * 4294967296 / (-l * 65536) = Q at *
    have w8 : IntKind.u64.wrap (4294967296 - Q) = 4294967296 - Q := IntWalk.u64_in _ (by omega)
    have w9 : IntKind.u64.wrap ((4294967296 - Q) * m) = (4294967296 - Q) * m := IntWalk.u64_in _ (by omega)
    have w10 : IntKind.i64.wrap ((4294967296 - Q) * m / 4294967296) = (4294967296 - Q) * m / 4294967296 := IntWalk.i64_in _ (by omega)
    go_enter Tryd.func10, Tryd.ntmps10
    go_wp2_with fail
    refine (L1.out _).mono ?_
    rintro e w1 ⟨rfl, g1⟩
    have G1 := hid g1
    clear g1
    go_wp2_with fail
    refine (D1.out _).mono ?_
    rintro e w3 ⟨rfl, g1⟩
    have G2 := hid (G1.out.trans g1)
    clear g1 G1
    go_wp2_with fail
    refine (L2.out _).mono ?_
    rintro e w4 ⟨rfl, g1⟩
    have G3 := hid (G2.out.trans g1)
    clear g1 G2
    go_wp2_with fail
    refine (D2.out _).mono ?_
    rintro e w5 ⟨rfl, g1⟩
    have G4 := hid (G3.out.trans g1)
    clear g1 G3
    go_wp2_with fail
    go_ret
    exact ⟨ret_int E0.out, G4.out⟩
end Go.Proofs.YtcjohgfmdnimjaaDoor.Sup

/-
  The walk of TripSteady: of samples that all last as long the guess is that.
-/
import Derived.Test.YtgdjdcedjegkjaaTrpPlay
namespace Go.Proofs.Ytgdjdcedjegkjaa.tripSteady
set_option linter.unusedVariables false
set_option maxRecDepth 100000
open Go.RowKit Go.Lib Go.Proofs.Ytgdjdcedjegkjaa.Trp

set_option maxHeartbeats 4000000 in
theorem walk (L n : Int) (w : World) : Calls Try.prog 6 #[.int .i64 L, .int .i64 n] w fun e w' => e = .returned (.bool true) ∧ Ext w w' := by
  have AW := hid (fun V => awake_any V)
  by_cases bad : L < 0 ∨ 1048576 < L ∨ n < 1 ∨ 200 < n
  · by_cases b0 : L < 0
    · clear bad
      go_enter Try.func6, Try.ntmps6
      go_wp2_with fail
      refine (AW.out _).mono ?_
      rintro e wz ⟨rfl, xz⟩
      have XZ := hid xz
      clear xz
      go_wp2_with fail
      go_ret
      exact ⟨rfl, XZ.out⟩
    by_cases b1 : 1048576 < L
    · clear bad
      go_enter Try.func6, Try.ntmps6
      go_wp2_with fail
      refine (AW.out _).mono ?_
      rintro e wz ⟨rfl, xz⟩
      have XZ := hid xz
      clear xz
      go_wp2_with fail
      go_ret
      exact ⟨rfl, XZ.out⟩
    by_cases b2 : n < 1
    · clear bad
      go_enter Try.func6, Try.ntmps6
      go_wp2_with fail
      refine (AW.out _).mono ?_
      rintro e wz ⟨rfl, xz⟩
      have XZ := hid xz
      clear xz
      go_wp2_with fail
      go_ret
      exact ⟨rfl, XZ.out⟩
    · have b3 : 200 < n := by omega
      clear bad
      go_enter Try.func6, Try.ntmps6
      go_wp2_with fail
      refine (AW.out _).mono ?_
      rintro e wz ⟨rfl, xz⟩
      have XZ := hid xz
      clear xz
      go_wp2_with fail
      go_ret
      exact ⟨rfl, XZ.out⟩
  have b0 : ¬ L < 0 := by omega
  have b1 : ¬ 1048576 < L := by omega
  have b2 : ¬ n < 1 := by omega
  have b3 : ¬ 200 < n := by omega
  obtain ⟨N, rfl⟩ : ∃ N : Nat, n = (N : Int) := ⟨n.toNat, by omega⟩
  obtain ⟨X, eX⟩ : ∃ X, X = max L 1 := ⟨_, rfl⟩
  have x0 : 1 ≤ X := by omega
  have x1 : X ≤ 1048576 := by omega
  have LS : Hid (∀ k : Nat, k < N → lasted (2097152 + (k : Int)) (2097152 + (k : Int) - L) 0 = X) := fun k hk => by
    rw [lasted_good _ _ _ (by omega)]
    omega
  have NW := hid (new_any 18446744073709551615 (by decide) (by decide) w)
  have OF := hid (fun V => of_any X (by omega) (by omega) V)
  have wX : IntKind.u32.wrap X = X := IntWalk.u32_in _ (by omega)
  have EE : Hid (err X = 0) := by show _ = _; unfold err; rw [if_neg (by omega)]
  have TKS : Hid (tk (X * 4294967296) = X) := tk_whole X
  clear bad
  go_enter Try.func6, Try.ntmps6
  go_wp2_with fail
  refine NW.out.mono ?_
  rintro e w1 ⟨b, rfl, t1, hb, y1⟩
  have S0 : Hid (PlS w b w1 (tnew 18446744073709551615) ∧ Sted (tnew 18446744073709551615) X 0) := ⟨⟨t1, y1, hb⟩, rfl, fun h => absurd h (Nat.lt_irrefl _)⟩
  clear NW t1 hb y1
  go_wp2_with fail
  go_loopw [26] (fun iv wr => ∃ (k : Nat) (s : TS), k ≤ N ∧ iv = .int .i64 (k : Int) ∧ Hid (PlS w b wr s ∧ Sted s X k)) (fun iv _ => (N - RowKit.intOf iv).toNat)
  case atStart => exact ⟨0, _, by omega, rfl, S0⟩
  case round =>
    obtain ⟨k, s, hk, rfl, HH⟩ := hrel
    clear S0
    by_cases q : k < N
    · have i1 : (k : Int) < (N : Int) := by omega
      have i2 : (0 : Int) ≤ (k : Int) := by omega
      have SMP := hid (HH.out.1.sample (by rw [HH.out.2.1]; omega) (2097152 + (k : Int)) (2097152 + (k : Int) - L) 0)
      rw [LS.out k q, EE.out] at SMP
      have ST := hid (sted_step HH.out.2 x0)
      have u1 : IntKind.i64.wrap (2097152 + (k : Int)) = 2097152 + (k : Int) := IntWalk.i64_in _ (by omega)
      have u2 : IntKind.i64.wrap (2097152 + (k : Int) - L) = 2097152 + (k : Int) - L := IntWalk.i64_in _ (by omega)
      clear LS HH EE
      go_wp2_with fail
      refine SMP.out.mono ?_
      rintro r w2 ⟨rfl, s2, kk⟩
      have F2 : Hid (PlS w b w2 (tst s X) ∧ Sted (tst s X) X (k + 1)) := ⟨s2, ST.out⟩
      clear SMP s2 kk ST
      go_wp2_with fail
      go_roundw
      case rel => exact ⟨k + 1, _, by omega, by go_num, F2⟩
      case measure => simp [RowKit.intOf]; omega
    · obtain rfl : N = k := by omega
      clear LS EE
      have g1 : s.1 = X * 4294967296 := HH.out.2.2 (by omega)
      have g2 : s.2 = (N : Int) := HH.out.2.1
      have GT := hid (fun V (h : TrpV V b s) => get_any b s V h)
      have KN := hid (fun V (h : TrpV V b s) => known_any b s V h)
      have TK := hid (fun V (h : TrpV V b s) => ticks_any b s V h)
      rw [g1] at GT TK
      rw [g2] at KN
      rw [TKS.out] at TK
      have S1 := hid HH.out.1
      obtain ⟨Y, eY⟩ : ∃ Y, Y = X * 4294967296 := ⟨_, rfl⟩
      rw [← eY] at GT OF
      clear g1 g2 HH eY TKS
      by_cases q0 : L < 1
      case' pos =>
        obtain rfl : X = 1 := by omega
        have q4 : L = 0 := by omega
      case' neg =>
        obtain rfl : X = L := by omega
        have q4 : 1 ≤ X := by omega
      all_goals
        clear eX
        go_wp2_with fail
        refine (GT.out _ S1.out.1).mono ?_
        rintro r w2 ⟨rfl, ew⟩
        obtain rfl : wr = w2 := ew.symm
        go_wp2_with fail
        refine (OF.out _).mono ?_
        rintro r w2 ⟨rfl, ew⟩
        obtain rfl : wr = w2 := ew.symm
        go_wp2_with fail
        refine (TK.out _ S1.out.1).mono ?_
        rintro r w2 ⟨rfl, x2⟩
        have S2 := hid (S1.out.ext x2)
        clear x2 S1 TK
        go_wp2_with fail
        refine (KN.out _ S2.out.1).mono ?_
        rintro r w3 ⟨rfl, ew⟩
        obtain rfl : w2 = w3 := ew.symm
        go_wp2_with fail
        refine (AW.out _).mono ?_
        rintro e wz ⟨rfl, xz⟩
        have XZ := hid (S2.out.2.1.trans xz)
        clear xz
        go_wp2_with fail
        go_ret
        exact ⟨rfl, XZ.out⟩
end Go.Proofs.Ytgdjdcedjegkjaa.tripSteady

/-
  The walk of TripBetween: a guess is never below One, and lies between the least and the greatest sample.
-/
import Derived.Test.YtgdjdcedjegkjaaTrpPlay
namespace Go.Proofs.Ytgdjdcedjegkjaa.tripBetween
set_option linter.unusedVariables false
set_option maxRecDepth 100000
open Go.RowKit Go.Lib Go.Proofs.Ytgdjdcedjegkjaa.Trp

set_option maxHeartbeats 4000000 in
theorem walk (fr : Int) (v0 : Value) (l : List Tri) (w : World) (wf : (Lit.int .u64 fr).wf = true) (hz : OpsK (fun _ => True) w v0 l) : Calls Try.prog 4 #[.int .u64 fr, v0] w fun e w' => e = .returned (.bool true) ∧ Ext w w' := by
  obtain ⟨f0, f1⟩ := Go.bounds_u64 wf
  clear wf
  have AW := hid (fun V => awake_any V)
  obtain ⟨ao, c, rfl, k1, k2⟩ := hz.slice
  by_cases big : 80 < l.length
  · obtain ⟨N, eN⟩ : ∃ N, N = l.length := ⟨_, rfl⟩
    rw [← eN] at big k1 ⊢
    unfold maxLen at k2
    have b1 : (80 : Int) < (N : Int) := by omega
    clear hz eN big
    go_enter Try.func4, Try.ntmps4
    go_wp2_with fail
    refine (AW.out _).mono ?_
    rintro e wz ⟨rfl, xz⟩
    have XZ := hid xz
    clear xz
    go_wp2_with fail
    go_ret
    exact ⟨rfl, XZ.out⟩
  have NW := hid (new_any fr f0 (by omega) w)
  have OPS := hid hz.seen
  have GET : Hid (∀ k, k < l.length → ∃ q : Tri, l[k]? = some q) := fun k hk => ⟨_, List.getElem?_eq_getElem hk⟩
  have FT := hid (fun k => trun_fit fr (by omega) (l.take k))
  have LE : Hid (∀ k, k ≤ l.length → (trun fr (l.take k)).2 ≤ (k : Int)) := fun k hk => by
    have := trun_le fr (l.take k)
    rw [List.length_take, Nat.min_eq_left hk] at this
    exact this
  have NXT := hid (fun k q h => fold_next (tnew fr) l k q h)
  obtain ⟨N, eN⟩ : ∃ N, N = l.length := ⟨_, rfl⟩
  rw [← eN] at big k1 GET LE ⊢
  have b1 : ¬ (80 : Int) < (N : Int) := by omega
  have b2 : (N : Int) ≤ 80 := by omega
  unfold maxLen at k2
  have wN : IntKind.u64.wrap (N : Int) = (N : Int) := IntWalk.u64_in _ (by omega)
  clear hz eN
  go_enter Try.func4, Try.ntmps4
  go_wp2_with fail
  refine NW.out.mono ?_
  rintro e w1 ⟨b, rfl, t1, hb, x1⟩
  have S0 : Hid (PlS w b w1 (trun fr (l.take 0)) ∧ Bet (trun fr (l.take 0)) 1073741824 0) := ⟨⟨t1, x1, hb⟩, bet_new fr⟩
  clear NW t1 hb x1
  go_wp2_with fail
  go_loopw [6, 7, 21] (fun lv hv iv wr => ∃ (k : Nat) (lo hi : Int), k ≤ N ∧ iv = .int .i64 (k : Int) ∧ lv = .int .i64 lo ∧ hv = .int .i64 hi ∧ Hid (PlS w b wr (trun fr (l.take k)) ∧ Bet (trun fr (l.take k)) lo hi)) (fun _ _ iv _ => (N - RowKit.intOf iv).toNat)
  case atStart => exact ⟨0, _, _, by omega, rfl, rfl, rfl, S0⟩
  case round =>
    obtain ⟨k, lo, hi, hk, rfl, rfl, rfl, HH⟩ := hrel
    clear S0
    by_cases q : k < N
    · have i1 : (k : Int) < (N : Int) := by omega
      have i2 : (0 : Int) ≤ (k : Int) := by omega
      obtain ⟨⟨a, e, h⟩, eo⟩ := GET.out k q
      obtain ⟨g, o, rfl, y0, y1, y2⟩ := OPS.out k _ eo _ HH.out.1.2.1
      have NX : Hid (trun fr (l.take (k + 1)) = tst (trun fr (l.take k)) (lasted a e h)) := NXT.out k _ eo
      have FK := hid (FT.out k)
      have LK := LE.out k hk
      obtain ⟨s, es⟩ : ∃ s, s = trun fr (l.take k) := ⟨_, rfl⟩
      rw [← es] at HH NX FK LK
      simp only at y0 y1 y2
      have hb := HH.out.1.1.lt
      have RL := hid (fun V => ref_lasted a e h V)
      have SMP := hid ((HH.out.1.ext (bx_ext wr a e h)).sample (by omega) a e h)
      have RM := lasted_room a e h
      have E1 : Hid (wr.alloc (.cells #[.int .i64 a, .int .i64 e, .int .i64 h] 35) = bx wr a e h) := rfl
      have BX := hid (fun V (kk : Kept (fun q => q ≠ b) (bx wr a e h) V) => bx_kept (Ext.refl _) hb kk)
      have BS := hid (fun g1 g2 => bet_step (x := lasted a e h) FK.out HH.out.2 g1 g2)
      have BT := hid HH.out.2
      have FS := hid (fit_step (x := lasted a e h) FK.out (lasted_room a e h))
      have TS1 : Hid (lasted a e h = -1 → tst s (lasted a e h) = s) := fun g1 => by unfold tst; rw [if_pos (by omega)]
      clear OPS GET FT LE NXT es eo HH FK
      obtain ⟨x, ex⟩ : ∃ x, x = lasted a e h := ⟨_, rfl⟩
      rw [← ex] at NX RL SMP RM TS1 BS FS
      clear ex
      go_wp2_with fail
      rw [E1.out]
      refine SMP.out.mono ?_
      rintro r w2 ⟨rfl, s2, kk⟩
      rw [← NX.out] at s2
      have S2 := hid s2
      obtain ⟨z0, z1, z2⟩ := BX.out _ kk
      clear y0 y1 y2 SMP s2 kk E1 BX
      rcases RM with x0 | ⟨x0, x1⟩
      · subst x0
        have ee : err (-1) = 11 := by decide
        rw [ee]
        have T0 : trun fr (l.take (k + 1)) = s := NX.out.trans (TS1.out rfl)
        have F2 : Hid (PlS w b w2 (trun fr (l.take (k + 1))) ∧ Bet (trun fr (l.take (k + 1))) lo hi) := ⟨S2.out, by rw [T0]; exact BT.out⟩
        clear NX TS1 ee T0 BS BT FS z0 z1 z2 S2
        go_wp2_with fail
        go_roundw
        case rel => exact ⟨k + 1, lo, hi, by omega, by go_num, rfl, rfl, F2⟩
        case measure => simp [RowKit.intOf]; omega
      · have ee : err x = 0 := by unfold err; rw [if_neg (by omega)]
        rw [ee]
        obtain ⟨m0, m1, m2, m3, m4, m5⟩ := BS.out x0 x1
        obtain ⟨r1, r2, _⟩ := FS.out
        have F2 : Hid (∀ V, PlS w b V (trun fr (l.take (k + 1))) → PlS w b V (trun fr (l.take (k + 1))) ∧ Bet (trun fr (l.take (k + 1))) (min lo x) (max hi x)) := fun V c => ⟨c, by rw [NX.out]; exact .inr ⟨m0, m1, m2, m3, m4, m5⟩⟩
        have S3 : Hid (PlS w b w2 (tst s x) ∧ trun fr (l.take (k + 1)) = tst s x) := ⟨by rw [← NX.out]; exact S2.out, NX.out⟩
        obtain ⟨S, eS⟩ : ∃ S, S = tst s x := ⟨_, rfl⟩
        rw [← eS] at S3 m0 m4 m5 r1 r2
        clear BS BT FS TS1 NX eS ee S2
        obtain ⟨G, n⟩ := S
        simp only at m0 m4 m5 r1 r2
        obtain ⟨m, em⟩ : ∃ m, min lo x = m := ⟨_, rfl⟩
        obtain ⟨M, eM⟩ : ∃ M, max hi x = M := ⟨_, rfl⟩
        rw [em] at m1 m2 m4 F2
        rw [eM] at m2 m3 m5 F2
        have A1 : fadd G (N : Int) = G + (N : Int) := by unfold fadd; rw [if_neg (by omega)]
        have A2 : fadd (M * 4294967296) (N : Int) = M * 4294967296 + (N : Int) := by unfold fadd; rw [if_neg (by omega)]
        have ADD := hid (fun V => add_any G (N : Int) (by omega) (by omega) (by omega) (by omega) V)
        have ADD2 := hid (fun V => add_any (M * 4294967296) (N : Int) (by omega) (by omega) (by omega) (by omega) V)
        rw [A1] at ADD
        rw [A2] at ADD2
        have OF := hid (fun V => of_any m (by omega) (by omega) V)
        have OF2 := hid (fun V => of_any M (by omega) (by omega) V)
        have u1 : IntKind.u32.wrap m = m := IntWalk.u32_in _ (by omega)
        have u2 : IntKind.u32.wrap M = M := IntWalk.u32_in _ (by omega)
        have d1 : ¬ G < 4294967296 := by omega
        obtain ⟨y, ey⟩ : ∃ y, y = m * 4294967296 := ⟨_, rfl⟩
        obtain ⟨Y, eY⟩ : ∃ Y, Y = M * 4294967296 := ⟨_, rfl⟩
        obtain ⟨z, ez⟩ : ∃ z, z = G + (N : Int) := ⟨_, rfl⟩
        obtain ⟨Z, eZ⟩ : ∃ Z, Z = M * 4294967296 + (N : Int) := ⟨_, rfl⟩
        rw [← eZ, ← eY] at ADD2
        rw [← ez] at ADD
        rw [← ey] at OF
        rw [← eY] at OF2
        have d2 : ¬ z < y := by omega
        have d3 : ¬ Z < G := by omega
        clear A1 A2 ey eY ez eZ m4 m5 r1 r2 m0 m1 m2 m3
        have GT := hid (fun V (h : TrpV V b (G, n)) => get_any b (G, n) V h)
        by_cases q5 : lo ≤ x
        · obtain rfl : m = lo := by omega
          by_cases q6 : x ≤ hi
          · obtain rfl : M = hi := by omega
            clear em eM
            go_wp2_with fail
            refine (RL.out _).mono ?_
            rintro r w3 ⟨rfl, x3⟩
            have T4 := hid (S3.out.1.ext x3)
            have F4 := hid (F2.out w3 (by rw [S3.out.2]; exact T4.out))
            clear z0 z1 z2 RL x3 S3 F2
            go_wp2_with fail
            refine (GT.out _ T4.out.1).mono ?_
            rintro r w4 ⟨rfl, ew⟩
            obtain rfl : w3 = w4 := ew.symm
            go_wp2_with fail
            refine (GT.out _ T4.out.1).mono ?_
            rintro r w4 ⟨rfl, ew⟩
            obtain rfl : w3 = w4 := ew.symm
            go_wp2_with fail
            refine (ADD.out _).mono ?_
            rintro r w4 ⟨rfl, ew⟩
            obtain rfl : w3 = w4 := ew.symm
            go_wp2_with fail
            refine (OF.out _).mono ?_
            rintro r w4 ⟨rfl, ew⟩
            obtain rfl : w3 = w4 := ew.symm
            go_wp2_with fail
            refine (GT.out _ T4.out.1).mono ?_
            rintro r w4 ⟨rfl, ew⟩
            obtain rfl : w3 = w4 := ew.symm
            go_wp2_with fail
            refine (OF2.out _).mono ?_
            rintro r w4 ⟨rfl, ew⟩
            obtain rfl : w3 = w4 := ew.symm
            go_wp2_with fail
            refine (ADD2.out _).mono ?_
            rintro r w4 ⟨rfl, ew⟩
            obtain rfl : w3 = w4 := ew.symm
            go_wp2_with fail
            go_roundw
            case rel => exact ⟨k + 1, _, _, by omega, by go_num, rfl, rfl, F4⟩
            case measure => simp [RowKit.intOf]; omega
          · obtain rfl : M = x := by omega
            clear em eM
            go_wp2_with fail
            refine (RL.out _).mono ?_
            rintro r w3 ⟨rfl, x3⟩
            have T4 := hid (S3.out.1.ext x3)
            have F4 := hid (F2.out w3 (by rw [S3.out.2]; exact T4.out))
            clear z0 z1 z2 RL x3 S3 F2
            go_wp2_with fail
            refine (GT.out _ T4.out.1).mono ?_
            rintro r w4 ⟨rfl, ew⟩
            obtain rfl : w3 = w4 := ew.symm
            go_wp2_with fail
            refine (GT.out _ T4.out.1).mono ?_
            rintro r w4 ⟨rfl, ew⟩
            obtain rfl : w3 = w4 := ew.symm
            go_wp2_with fail
            refine (ADD.out _).mono ?_
            rintro r w4 ⟨rfl, ew⟩
            obtain rfl : w3 = w4 := ew.symm
            go_wp2_with fail
            refine (OF.out _).mono ?_
            rintro r w4 ⟨rfl, ew⟩
            obtain rfl : w3 = w4 := ew.symm
            go_wp2_with fail
            refine (GT.out _ T4.out.1).mono ?_
            rintro r w4 ⟨rfl, ew⟩
            obtain rfl : w3 = w4 := ew.symm
            go_wp2_with fail
            refine (OF2.out _).mono ?_
            rintro r w4 ⟨rfl, ew⟩
            obtain rfl : w3 = w4 := ew.symm
            go_wp2_with fail
            refine (ADD2.out _).mono ?_
            rintro r w4 ⟨rfl, ew⟩
            obtain rfl : w3 = w4 := ew.symm
            go_wp2_with fail
            go_roundw
            case rel => exact ⟨k + 1, _, _, by omega, by go_num, rfl, rfl, F4⟩
            case measure => simp [RowKit.intOf]; omega
        · obtain rfl : m = x := by omega
          by_cases q6 : m ≤ hi
          · obtain rfl : M = hi := by omega
            clear em eM
            go_wp2_with fail
            refine (RL.out _).mono ?_
            rintro r w3 ⟨rfl, x3⟩
            have T4 := hid (S3.out.1.ext x3)
            have F4 := hid (F2.out w3 (by rw [S3.out.2]; exact T4.out))
            clear z0 z1 z2 RL x3 S3 F2
            go_wp2_with fail
            refine (GT.out _ T4.out.1).mono ?_
            rintro r w4 ⟨rfl, ew⟩
            obtain rfl : w3 = w4 := ew.symm
            go_wp2_with fail
            refine (GT.out _ T4.out.1).mono ?_
            rintro r w4 ⟨rfl, ew⟩
            obtain rfl : w3 = w4 := ew.symm
            go_wp2_with fail
            refine (ADD.out _).mono ?_
            rintro r w4 ⟨rfl, ew⟩
            obtain rfl : w3 = w4 := ew.symm
            go_wp2_with fail
            refine (OF.out _).mono ?_
            rintro r w4 ⟨rfl, ew⟩
            obtain rfl : w3 = w4 := ew.symm
            go_wp2_with fail
            refine (GT.out _ T4.out.1).mono ?_
            rintro r w4 ⟨rfl, ew⟩
            obtain rfl : w3 = w4 := ew.symm
            go_wp2_with fail
            refine (OF2.out _).mono ?_
            rintro r w4 ⟨rfl, ew⟩
            obtain rfl : w3 = w4 := ew.symm
            go_wp2_with fail
            refine (ADD2.out _).mono ?_
            rintro r w4 ⟨rfl, ew⟩
            obtain rfl : w3 = w4 := ew.symm
            go_wp2_with fail
            go_roundw
            case rel => exact ⟨k + 1, _, _, by omega, by go_num, rfl, rfl, F4⟩
            case measure => simp [RowKit.intOf]; omega
          · obtain rfl : M = m := by omega
            clear em eM
            go_wp2_with fail
            refine (RL.out _).mono ?_
            rintro r w3 ⟨rfl, x3⟩
            have T4 := hid (S3.out.1.ext x3)
            have F4 := hid (F2.out w3 (by rw [S3.out.2]; exact T4.out))
            clear z0 z1 z2 RL x3 S3 F2
            go_wp2_with fail
            refine (GT.out _ T4.out.1).mono ?_
            rintro r w4 ⟨rfl, ew⟩
            obtain rfl : w3 = w4 := ew.symm
            go_wp2_with fail
            refine (GT.out _ T4.out.1).mono ?_
            rintro r w4 ⟨rfl, ew⟩
            obtain rfl : w3 = w4 := ew.symm
            go_wp2_with fail
            refine (ADD.out _).mono ?_
            rintro r w4 ⟨rfl, ew⟩
            obtain rfl : w3 = w4 := ew.symm
            go_wp2_with fail
            refine (OF.out _).mono ?_
            rintro r w4 ⟨rfl, ew⟩
            obtain rfl : w3 = w4 := ew.symm
            go_wp2_with fail
            refine (GT.out _ T4.out.1).mono ?_
            rintro r w4 ⟨rfl, ew⟩
            obtain rfl : w3 = w4 := ew.symm
            go_wp2_with fail
            refine (OF2.out _).mono ?_
            rintro r w4 ⟨rfl, ew⟩
            obtain rfl : w3 = w4 := ew.symm
            go_wp2_with fail
            refine (ADD2.out _).mono ?_
            rintro r w4 ⟨rfl, ew⟩
            obtain rfl : w3 = w4 := ew.symm
            go_wp2_with fail
            go_roundw
            case rel => exact ⟨k + 1, _, _, by omega, by go_num, rfl, rfl, F4⟩
            case measure => simp [RowKit.intOf]; omega
    · obtain rfl : N = k := by omega
      clear OPS GET FT LE NXT
      go_wp2_with fail
      refine (AW.out _).mono ?_
      rintro e wz ⟨rfl, xz⟩
      have XZ := hid (HH.out.1.2.1.trans xz)
      clear xz
      go_wp2_with fail
      go_ret
      exact ⟨rfl, XZ.out⟩
end Go.Proofs.Ytgdjdcedjegkjaa.tripBetween

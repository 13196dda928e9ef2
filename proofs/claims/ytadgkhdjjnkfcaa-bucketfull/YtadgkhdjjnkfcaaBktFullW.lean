/-
  BucketFull's walk.
-/
import Derived.Test.YtadgkhdjjnkfcaaBktSmall
namespace Go.Proofs.Ytadgkhdjjnkfcaa.bucketFull
set_option linter.unusedVariables false
set_option maxRecDepth 100000
open Go.RowKit Go.Lib Go.Proofs.Ytadgkhdjjnkfcaa.Bkt

/-- the tokens, read off the world: the inner loop's measure -/
def toks (w : World) (b : Nat) : Nat := match w.cell? ⟨b, 1, none⟩ with | some (.int _ x) => x.toNat | _ => 0
theorem toks_is {w : World} {b : Nat} {s : BS} (h : BktV w b s) : toks w b = s.2.1.toNat := by unfold toks; rw [h.c1]

set_option maxHeartbeats 16000000 in
theorem walk (r n t : Int) (w : World) (wf0 : (Lit.int .u64 r).wf = true) (wf1 : (Lit.int .i64 n).wf = true) (wf2 : (Lit.int .i64 t).wf = true) : Calls Try.prog 6 #[.int .u64 r, .int .i64 n, .int .i64 t] w fun e w' => e = .returned (.bool true) ∧ Ext w w' := by
  have wr0 : Wd r := by have := Go.bounds_u64 wf0; unfold Wd; omega
  clear wf0 wf1 wf2
  have AW := hid (fun V => awake_any V)
  have O2 := hid (fun V => of_any 2000 (by decide) (by decide) V)
  rw [show (2000 : Int) * 4294967296 = 8589934592000 from rfl] at O2
  by_cases bad : n < 1 ∨ 320 < n ∨ t < 0 ∨ 200 < t
  · by_cases b0 : n < 1
    case' pos => clear bad
    case' neg =>
      by_cases b1 : 320 < n
      case' pos => clear bad
      case' neg =>
        by_cases b2 : t < 0
        case' pos => clear bad
        case' neg =>
          have b3 : 200 < t := by omega
          clear bad
    all_goals
      clear wr0
      go_enter Try.func6, Try.ntmps6
      go_wp2_with fail
      refine (AW.out _).mono ?_
      rintro e wz ⟨rfl, xz⟩
      have XZ := hid xz
      clear xz
      go_wp2_with fail
      go_ret
      exact ⟨rfl, XZ.out⟩
  have n1 : ¬ n < 1 := by omega
  have n2 : ¬ 320 < n := by omega
  have t1 : ¬ t < 0 := by omega
  have t2 : ¬ 200 < t := by omega
  clear bad
  by_cases big : 8589934592000 < r
  · go_enter Try.func6, Try.ntmps6
    go_wp2_with fail
    refine (O2.out _).mono ?_
    rintro e w' ⟨rfl, ew⟩
    obtain rfl := ew.symm
    go_wp2_with fail
    refine (AW.out _).mono ?_
    rintro e wz ⟨rfl, xz⟩
    have XZ := hid xz
    clear xz
    go_wp2_with fail
    go_ret
    exact ⟨rfl, XZ.out⟩
  have NW := hid (fun V => new_yes n V (by omega) (by omega))
  have WR := hid wr0
  have r0 : 0 ≤ r := wr0.1
  have ON := hid (fun V => of_any n (by omega) (by omega) V)
  have RK : Hid (∀ k : Nat, (k : Int) ≤ 200 → 0 ≤ (k : Int) * r ∧ (k : Int) * r ≤ 1717986918400000 ∧ ((k + 1 : Nat) : Int) * r = (k : Int) * r + r) := fun k hk => by
    refine ⟨Int.mul_nonneg (by omega) r0, ?_, ?_⟩
    · have h1 : (k : Int) * r ≤ 200 * r := Int.mul_le_mul_of_nonneg_right hk r0
      omega
    · rw [Int.natCast_add, Int.add_mul]; simp
  obtain ⟨T, eT⟩ : ∃ T : Nat, t = (T : Int) := ⟨t.toNat, by omega⟩
  subst eT
  clear wr0
  go_enter Try.func6, Try.ntmps6
  go_wp2_with fail
  refine (O2.out _).mono ?_
  rintro e w' ⟨rfl, ew⟩
  obtain rfl := ew.symm
  go_wp2_with fail
  refine (NW.out _).mono ?_
  rintro e w2 ⟨b, rfl, t, hb, x2⟩
  have S0 : Hid (PlS w b w2 (n, 0, 0)) := ⟨t, x2, hb⟩
  clear t hb x2 NW O2
  go_wp2_with fail
  go_loopw [42] (fun iv wr => ∃ (k : Nat) (a c : Int), k ≤ T ∧ iv = .int .i64 (k : Int) ∧ Hid ((0 ≤ a ∧ a < n * 4294967296) ∧ 0 ≤ c ∧ a + c * 4294967296 = (k : Int) * r) ∧ Hid (PlS w b wr (n, a, c))) (fun iv _ => (T - RowKit.intOf iv).toNat)
  case atStart => exact ⟨0, 0, 0, by omega, rfl, ⟨⟨by omega, by omega⟩, by omega, by simp⟩, S0⟩
  case round =>
    clear S0
    obtain ⟨k, a, c, hk, rfl, I, SR⟩ := hrel
    by_cases q : k < T
    · clear AW
      have i1 : (k : Int) < (T : Int) := by omega
      have i2 : (0 : Int) ≤ (k : Int) := by omega
      have FL := hid (SR.out.fill r WR.out)
      have rk := RK.out k (by omega)
      have rk1 := RK.out (k + 1) (by omega)
      have ib := I.out
      rw [show fil (n, a, c) r = (n, wadd a r, c) from rfl, show wadd a r = a + r from by unfold wadd; rw [if_neg (by omega)]] at FL
      have I2 : Hid (0 ≤ a + r ∧ 0 ≤ c ∧ (a + r) + c * 4294967296 = ((k + 1 : Nat) : Int) * r) := ⟨by omega, by omega, by omega⟩
      have B2 : Hid (((k + 1 : Nat) : Int) * r ≤ 1717986918400000) := rk1.2.1
      clear rk rk1 ib I SR
      generalize a + r = a2 at *
      go_wp2_with fail
      refine FL.out.mono ?_
      rintro e w3 ⟨rfl, t3, -⟩
      have S3 := hid t3
      clear t3 FL
      go_wp2_with fail
      obtain ⟨w8, e8⟩ : ∃ w8, w8 = wr := ⟨_, rfl⟩
      clear e8
      go_loopw [47] (fun _ wr => ∃ (a c : Int), Hid (0 ≤ a ∧ 0 ≤ c ∧ a + c * 4294967296 = ((k + 1 : Nat) : Int) * r) ∧ Hid (PlS w b wr (n, a, c))) (fun _ wr => toks wr b)
      case atStart => exact ⟨_, _, I2, S3⟩
      case round =>
        clear S3 I2
        obtain ⟨a3, c3, J, SJ⟩ := hrel
        have SP := hid (SJ.out.spend n)
        have jb := J.out
        have bb := B2.out
        by_cases cn : Bkt.Can (n, a3, c3) n
        · rw [decide_eq_true cn, spd_yes cn] at SP
          simp only at SP
          obtain ⟨-, -, c4⟩ := cn
          simp only at c4
          rw [isum_in (a := c3) (b := n) (by unfold Nm; omega)] at SP
          have J2 : Hid (0 ≤ a3 - n * 4294967296 ∧ 0 ≤ c3 + n ∧ (a3 - n * 4294967296) + (c3 + n) * 4294967296 = ((k + 1 : Nat) : Int) * r) := ⟨by omega, by omega, by omega⟩
          have TM : Hid (toks wr b = a3.toNat) := toks_is SJ.out.1
          have LT : Hid ((a3 - n * 4294967296).toNat < a3.toNat) := (show (a3 - n * 4294967296).toNat < a3.toNat by omega)
          clear jb bb SJ J c4
          generalize a3 - n * 4294967296 = a4 at *
          generalize c3 + n = c4 at *
          go_wp2_with fail
          refine SP.out.mono ?_
          rintro e w4 ⟨rfl, t4, -⟩
          have S4 := hid t4
          have T4 : Hid (toks w4 b = a4.toNat) := toks_is t4.1
          clear t4 SP
          go_wp2_with fail
          go_roundw
          case rel => exact ⟨_, _, J2, S4⟩
          case measure => rw [T4.out, TM.out]; exact LT.out
        · rw [decide_eq_false cn, spd_no cn] at SP
          have a4 : ¬ n * 4294967296 ≤ a3 := fun h => cn ⟨by show 1 ≤ n; omega, Int.le_refl _, h⟩
          have J2 : Hid ((0 ≤ a3 ∧ a3 < n * 4294967296) ∧ 0 ≤ c3 ∧ a3 + c3 * 4294967296 = ((k + 1 : Nat) : Int) * r) := ⟨by omega, by omega, by omega⟩
          have FE := hid (fun V (P : PlS w b V (n, a3, c3)) => P.fin)
          rw [show Bkt.fin (n, a3, c3) = (n, a3, c3) from by unfold Bkt.fin cap; simp only; rw [if_neg (by omega)]] at FE
          have e3 : n % 4294967296 = n := by omega
          clear jb bb SJ J cn
          go_wp2_with fail
          refine SP.out.mono ?_
          rintro e w4 ⟨rfl, t4, -⟩
          have S4 := hid t4
          clear t4 SP
          go_wp2_with fail
          refine (tokens_any b _ _ S4.out.1).mono ?_
          rintro e w' ⟨rfl, ew⟩
          obtain rfl := ew.symm
          simp only
          go_wp2_with fail
          refine (ON.out _).mono ?_
          rintro e w' ⟨rfl, ew⟩
          obtain rfl := ew.symm
          go_wp2_with fail
          refine (FE.out _ S4.out).mono ?_
          rintro e w5 ⟨rfl, t5, -⟩
          have S5 := hid t5
          clear t5 FE S4
          go_wp2_with fail
          go_roundw
          case rel => exact ⟨k + 1, _, _, by omega, by go_num, J2, S5⟩
          case measure => simp [RowKit.intOf]; omega
    · obtain rfl : T = k := by omega
      have ST := hid SR.out.2.1
      have SPN := hid (spent_any b _ _ SR.out.1)
      simp only at SPN
      have rk := RK.out T (by omega)
      have ib := I.out
      rw [Int.mul_comm (T : Int) r] at rk ib
      obtain ⟨m0, m1, -⟩ := rk
      obtain ⟨⟨a0, a1⟩, c0, ea⟩ := ib
      have e2 : c % 18446744073709551616 = c := by omega
      have e3 : n % 18446744073709551616 = n := by omega
      obtain ⟨M, eM⟩ : ∃ M, M = r * (T : Int) := ⟨_, rfl⟩
      have e1 : IntKind.u64.wrap (r * (T : Int)) = M := by rw [IntKind.wrap_u64, eM]; omega
      rw [← eM] at m0 m1 ea
      have e4 : c ≤ M / 4294967296 := by omega
      have e5 : M / 4294967296 < c + n := by omega
      have e6 : (T : Int) % 18446744073709551616 = (T : Int) := by omega
      clear I SR RK ON eM
      go_wp2_with fail
      refine SPN.out.mono ?_
      rintro e w' ⟨rfl, ew⟩
      obtain rfl := ew.symm
      go_wp2_with fail
      refine SPN.out.mono ?_
      rintro e w' ⟨rfl, ew⟩
      obtain rfl := ew.symm
      go_wp2_with fail
      refine (AW.out _).mono ?_
      rintro e wz ⟨rfl, xz⟩
      have XZ := hid (ST.out.trans xz)
      clear xz
      go_wp2_with fail
      go_ret
      exact ⟨rfl, XZ.out⟩
end Go.Proofs.Ytadgkhdjjnkfcaa.bucketFull

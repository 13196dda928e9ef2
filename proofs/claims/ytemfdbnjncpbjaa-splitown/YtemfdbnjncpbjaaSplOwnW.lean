/-
  SplitOwn's walk.
-/
import Derived.Test.YtemfdbnjncpbjaaSplCalls
namespace Go.Proofs.Ytemfdbnjncpbjaa.splitOwn
set_option linter.unusedVariables false
set_option maxRecDepth 100000
open Go.RowKit Go.Lib Go.Proofs.Ytemfdbnjncpbjaa.Spl

theorem osum_room {r : Int} (hr : Wd r) (L : Nat) : ∀ k, Wd (osum r L k)
  | 0 => by
    show Wd 0
    unfold Wd
    decide
  | k + 1 => cum_room hr L k
theorem own_room {r : Int} (hr : Wd r) {L k : Nat} (hk : k < L) : 0 ≤ own r L k := by
  unfold own
  split
  · exact (cum_room hr L 0).1
  · obtain ⟨j, rfl⟩ : ∃ j, k = j + 1 := ⟨k - 1, by omega⟩
    have := cum_rises hr hk
    rw [Nat.add_sub_cancel]
    omega

set_option maxHeartbeats 16000000 in
theorem walk (r L : Int) (w : World) (wf0 : (Lit.int .u64 r).wf = true) (wf1 : (Lit.int .i64 L).wf = true) : Calls Try.prog 4 #[.int .u64 r, .int .i64 L] w fun e w' => e = .returned (.bool true) ∧ Ext w w' := by
  have hr : Wd r := by have := Go.bounds_u64 wf0; unfold Wd; omega
  clear wf0 wf1
  have AW := hid (fun V => awake_any V)
  have RG := hid (fun V => right_any L V)
  by_cases bad : ¬ Lay L
  · have CN := hid (fun V => own_no r L 0 (fun c => bad c.1) V)
    rw [decide_eq_false bad] at RG
    clear hr bad
    go_enter Try.func4, Try.ntmps4
    go_wp2_with fail
    refine (RG.out _).mono ?_
    rintro e w' ⟨rfl, ew⟩
    obtain rfl := ew.symm
    go_wp2_with fail
    refine (CN.out _).mono ?_
    rintro e w' ⟨rfl, ew⟩
    obtain rfl := ew.symm
    go_wp2_with fail
    refine (AW.out _).mono ?_
    rintro e wz ⟨rfl, xz⟩
    have XZ := hid xz
    clear xz
    go_wp2_with fail
    go_ret
    exact ⟨rfl, XZ.out⟩
  obtain ⟨l1, l8⟩ := Classical.not_not.1 bad
  rw [decide_eq_true (show Lay L from ⟨l1, l8⟩)] at RG
  obtain ⟨N, eN⟩ : ∃ N : Nat, L = (N : Int) := ⟨L.toNat, by omega⟩
  subst eN
  have n1 : 1 ≤ N := by omega
  have n8 : N ≤ 8 := by omega
  have OY := hid (fun k (hk : k < N) V => own_yes hr N k n8 hk V)
  have CY := hid (fun k (hk : k < N) V => cum_yes hr N k n8 hk V)
  have O1 := hid (fun V => own_no r (N : Int) (N : Int) (fun c => by omega) V)
  have O2 := hid (fun V => own_no r (N : Int) (-1) (fun c => by omega) V)
  have SM := hid (fun k => osum_more r N k)
  have RM := hid (fun k => osum_room hr N k)
  have OR := hid (fun k (hk : k < N) => own_room hr hk)
  have NX : Hid (∀ k, osum r N (k + 1) = cum r N k) := fun k => rfl
  have Z0 : Hid ((0 : Int) = osum r N 0) := rfl
  have ZN : Hid (osum r N N = r) := by
    obtain ⟨M, rfl⟩ : ∃ M, N = M + 1 := ⟨N - 1, by omega⟩
    have := cum_last r n1
    rw [Nat.add_sub_cancel] at this
    exact this
  clear hr bad
  go_enter Try.func4, Try.ntmps4
  go_wp2_with fail
  refine (RG.out _).mono ?_
  rintro e w' ⟨rfl, ew⟩
  obtain rfl := ew.symm
  go_wp2_with fail
  go_loopw [7, 8, 9, 10, 11, 12, 32] (fun sv _ _ _ _ _ iv wr => ∃ k : Nat, k ≤ N ∧ iv = .int .i64 (k : Int) ∧ sv = .int .u64 (osum r N k) ∧ wr = w) (fun _ _ _ _ _ _ iv _ => (N - RowKit.intOf iv).toNat)
  case atStart => exact ⟨0, by omega, rfl, by rw [← Z0.out], rfl⟩
  case round =>
    obtain ⟨k, hk, rfl, rfl, rfl⟩ := hrel
    by_cases q : k < N
    · have i1 : (k : Int) < (N : Int) := by omega
      have i2 : (0 : Int) ≤ (k : Int) := by omega
      have OYK := hid (OY.out k q)
      have CYK := hid (CY.out k q)
      have sm := SM.out k
      obtain ⟨r0, r1⟩ := RM.out k
      obtain ⟨r2, r3⟩ := RM.out (k + 1)
      have r4 := OR.out k q
      rw [← NX.out k] at CYK
      obtain ⟨a, ea⟩ : ∃ a, a = osum r N k := ⟨_, rfl⟩
      obtain ⟨b, eb⟩ : ∃ b, b = osum r N (k + 1) := ⟨_, rfl⟩
      obtain ⟨o, eo⟩ : ∃ o, o = own r N k := ⟨_, rfl⟩
      rw [← ea] at sm r0 r1 ⊢
      rw [← eb] at sm r2 r3 CYK
      rw [← eo] at sm r4 OYK
      have EB := hid eb
      have ad : IntKind.u64.wrap (a + o) = b := by rw [IntKind.wrap_u64, sm]; omega
      have ad2 : (a + o) % 18446744073709551616 = b := by omega
      clear ea eb eo OY CY O1 O2 SM RM OR NX Z0 ZN AW RG sm
      go_wp2_with fail
      refine (OYK.out _).mono ?_
      rintro e w' ⟨rfl, ew⟩
      obtain rfl := ew.symm
      go_wp2_with fail
      refine (CYK.out _).mono ?_
      rintro e w' ⟨rfl, ew⟩
      obtain rfl := ew.symm
      go_wp2_with fail
      go_roundw
      case rel => exact ⟨k + 1, by omega, by go_num, by rw [EB.out], trivial⟩
      case measure => simp [RowKit.intOf]; omega
    · obtain rfl : N = k := by omega
      rw [ZN.out]
      clear OY CY SM RM OR NX Z0 ZN RG
      go_wp2_with fail
      refine (O1.out _).mono ?_
      rintro e w' ⟨rfl, ew⟩
      obtain rfl := ew.symm
      go_wp2_with fail
      refine (O2.out _).mono ?_
      rintro e w' ⟨rfl, ew⟩
      obtain rfl := ew.symm
      go_wp2_with fail
      refine (AW.out _).mono ?_
      rintro e wz ⟨rfl, xz⟩
      have XZ := hid xz
      clear xz
      go_wp2_with fail
      go_ret
      exact ⟨rfl, XZ.out⟩
end Go.Proofs.Ytemfdbnjncpbjaa.splitOwn

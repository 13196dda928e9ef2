/-
  BucketMost's walk.
-/
import Derived.Test.YtadgkhdjjnkfcaaBktSmall
namespace Go.Proofs.Ytadgkhdjjnkfcaa.bucketMost
set_option linter.unusedVariables false
set_option maxRecDepth 100000
open Go.RowKit Go.Lib Go.Proofs.Ytadgkhdjjnkfcaa.Bkt

set_option maxHeartbeats 8000000 in
theorem walk (v0 : Value) (l : List Int) (n : Int) (w : World) (hz : RatesIn w v0 l) : Calls Try.prog 5 #[v0, .int .i64 n] w fun e w' => e = .returned (.bool true) ∧ Ext w w' := by
  have AW := hid (fun V => awake_any V)
  obtain ⟨ao, cp, rfl, k1, k2, CC⟩ := row_one hz.1
  have HR := hid hz.1
  have HL := hid hz.2
  have GET : Hid (∀ k, k < l.length → ∃ q : Int, l[k]? = some q) := fun k hk => ⟨_, List.getElem?_eq_getElem hk⟩
  have STP : Hid (∀ k q, l[k]? = some q → Wd q ∧ ∃ g o, ao = some ⟨g, o, none⟩ ∧ w.cell? ⟨g, o + k, none⟩ = some (.int .u64 q)) := fun k q hk => ⟨hz.2 q (List.mem_of_getElem? hk), CC k q hk⟩
  clear hz CC
  unfold maxLen at k2
  by_cases bad : (100 : Int) < (l.length : Int) ∨ n < 0 ∨ 1048576 < n
  · clear HR HL GET STP
    generalize l.length = N at *
    by_cases b0 : (100 : Int) < (N : Int)
    case' pos => clear bad
    case' neg =>
      by_cases b1 : n < 0
      case' pos => clear bad
      case' neg =>
        have b2 : 1048576 < n := by omega
        clear bad
    all_goals
      go_enter Try.func5, Try.ntmps5
      go_wp2_with fail
      refine (AW.out _).mono ?_
      rintro e wz ⟨rfl, xz⟩
      have XZ := hid xz
      clear xz
      go_wp2_with fail
      go_ret
      exact ⟨rfl, XZ.out⟩
  have b0 : ¬ (100 : Int) < (l.length : Int) := by omega
  have b1 : ¬ n < 0 := by omega
  have b2 : ¬ 1048576 < n := by omega
  have MS := hid (fun V (R : RowK (fun _ => True) V (.slice ao l.length cp) 1 (fcells ru l)) => most_any _ l n V R HL.out (by omega) (by omega))
  have NW : Wd (n * 4294967296) := by unfold Wd; omega
  have ROOM : Hid (∀ k, Wd (msum (n * 4294967296) (l.take k))) := fun k => msum_room NW _ (fun x hx => HL.out x (List.mem_of_mem_take hx))
  have SUM : Hid (∀ k q, l[k]? = some q → msum (n * 4294967296) (l.take (k + 1)) = wadd (msum (n * 4294967296) (l.take k)) q) := fun k q hk => msum_take hk
  have Z0 : Hid (n * 4294967296 = msum (n * 4294967296) (l.take 0)) := rfl
  have SH : n % 18446744073709551616 = n := by omega
  have SH2 : n * 4294967296 % 18446744073709551616 = n * 4294967296 := by omega
  obtain ⟨N, eN⟩ : ∃ N, N = l.length := ⟨_, rfl⟩
  have ZN : Hid (msum (n * 4294967296) (l.take N) = msum (n * 4294967296) l) := by show _ = _; rw [eN, List.take_length]
  rw [← eN] at GET k1 b0 MS HR ⊢
  clear bad eN HL
  go_enter Try.func5, Try.ntmps5
  go_wp2_with fail
  go_loopw [5, 7, 25] (fun sv _ iv wr => ∃ k : Nat, k ≤ N ∧ iv = .int .i64 (k : Int) ∧ sv = .int .u64 (msum (n * 4294967296) (l.take k)) ∧ wr = w) (fun _ _ iv _ => (N - RowKit.intOf iv).toNat)
  case atStart => exact ⟨0, by omega, rfl, by rw [← Z0.out], rfl⟩
  case round =>
    obtain ⟨k, hk, rfl, rfl, rfl⟩ := hrel
    have R0 := ROOM.out k
    by_cases q : k < N
    · have i1 : (k : Int) < (N : Int) := by omega
      have i2 : (0 : Int) ≤ (k : Int) := by omega
      obtain ⟨x, ex⟩ := GET.out k q
      obtain ⟨wx, g0, q0, rfl, cc⟩ := STP.out k x ex
      have AD := hid (fun V => radd_any R0 wx V)
      rw [← SUM.out k x ex] at AD
      clear wx ex R0 SUM ROOM GET STP MS HR AW
      obtain ⟨m, em⟩ : ∃ m, m = msum (n * 4294967296) (l.take k) := ⟨_, rfl⟩
      rw [← em] at AD ⊢
      obtain ⟨m2, em2⟩ : ∃ m, m = msum (n * 4294967296) (l.take (k + 1)) := ⟨_, rfl⟩
      rw [← em2] at AD
      have EM := hid em2
      clear em em2
      go_wp2_with fail
      refine (AD.out _).mono ?_
      rintro e w' ⟨rfl, ew⟩
      obtain rfl := ew.symm
      go_wp2_with fail
      go_roundw
      case rel => exact ⟨k + 1, by omega, by go_num, by rw [EM.out], trivial⟩
      case measure => simp [RowKit.intOf]; omega
    · obtain rfl : N = k := by omega
      rw [ZN.out] at R0 ⊢
      have MM := hid (MS.out _ HR.out)
      clear ROOM GET STP Z0 ZN MS SUM
      obtain ⟨z, ez⟩ : ∃ z, z = msum (n * 4294967296) l := ⟨_, rfl⟩
      rw [← ez] at MM R0 ⊢
      obtain ⟨r0, r1⟩ := R0
      clear ez SH SH2
      go_wp2_with fail
      refine MM.out.mono ?_
      rintro e w' ⟨rfl, ew⟩
      obtain rfl := ew.symm
      go_wp2_with fail
      refine (AW.out _).mono ?_
      rintro e wz ⟨rfl, xz⟩
      have XZ := hid xz
      clear xz
      go_wp2_with fail
      go_ret
      exact ⟨rfl, XZ.out⟩
end Go.Proofs.Ytadgkhdjjnkfcaa.bucketMost

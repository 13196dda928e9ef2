/-
  Walks of the second law's fixed answer and of the reference's Log and Ln: the answer is true, the reference's logarithm is the one of LogsMath.
-/
import Derived.Test.YtcjohgfmdnimjaaDoorLogs
namespace Go.Proofs.YtcjohgfmdnimjaaDoor
set_option linter.unusedVariables false
open Go.RowKit

theorem flog_eight : flog 34359738368 = 196608 := by
  rw [flog_at 34359738368 28 (by decide) (by decide) (by decide) (by decide)]; decide
theorem fneg_half : fneg 2147483648 = 4294967296 := by
  unfold fneg
  rw [flog_at 2147483648 32 (by decide) (by decide) (by decide) (by decide)]; decide

theorem refTable_ext (w : World) : Calls Tryd.prog 37 #[] w fun e w' => e = .returned (.agg tabs) ∧ Ext w w' := by
  refine (refTable_any w).mono ?_
  rintro e w' ⟨rfl, rfl⟩
  exact ⟨rfl, (Ext.refl _).alloc _⟩

/-- halved j times, v is left -/
def Halved (a : Int) (j : Nat) (v : Int) : Prop := 1 ≤ v ∧ v * 2 ^ j ≤ a ∧ a < (v + 1) * 2 ^ j

theorem halved_start (a : Int) (h : 1 ≤ a) : Halved a 0 a := by
  refine ⟨h, ?_, ?_⟩ <;> simp <;> omega

theorem halved_on (a : Int) (j : Nat) (v : Int) (H : Halved a j v) (hv : 1 < v) : Halved a (j + 1) (v / 2) := by
  obtain ⟨h1, h2, h3⟩ := H
  have p : (0:Int) < 2 ^ j := Int.pow_pos (by decide)
  have e : (2:Int) ^ (j + 1) = 2 * 2 ^ j := by rw [Int.pow_succ, Int.mul_comm]
  refine ⟨by omega, ?_, ?_⟩
  · rw [e, ← Int.mul_assoc]
    have : v / 2 * 2 * 2 ^ j ≤ v * 2 ^ j := Int.mul_le_mul_of_nonneg_right (by omega) (Int.le_of_lt p)
    omega
  · rw [e, ← Int.mul_assoc]
    have : (v + 1) * 2 ^ j ≤ (v / 2 + 1) * 2 * 2 ^ j := Int.mul_le_mul_of_nonneg_right (by omega) (Int.le_of_lt p)
    omega

theorem halved_few (a : Int) (j : Nat) (v : Int) (H : Halved a j v) (ha : a < 18446744073709551616) : j < 64 := by
  obtain ⟨h1, h2, h3⟩ := H
  have p : (0:Int) < 2 ^ j := Int.pow_pos (by decide)
  have h4 : 1 * 2 ^ j ≤ v * 2 ^ j := Int.mul_le_mul_of_nonneg_right h1 (Int.le_of_lt p)
  apply Decidable.byContradiction
  intro hj
  have e : (2:Int) ^ j = 2 ^ 64 * 2 ^ (j - 64) := by rw [← Int.pow_add]; congr 1; omega
  have q : (0:Int) < 2 ^ (j - 64) := Int.pow_pos (by decide)
  have : (2:Int) ^ 64 * 1 ≤ 2 ^ 64 * 2 ^ (j - 64) := Int.mul_le_mul_of_nonneg_left (by omega) (by decide)
  rw [show (2:Int) ^ 64 = 18446744073709551616 from rfl] at *
  omega

theorem halved_end (a : Int) (j : Nat) (H : Halved a j 1) (hj : j < 64) (k : Nat) (hk : k ≤ 63 - j) :
    a * 2 ^ k < 18446744073709551616 ∧ (k = 63 - j → 9223372036854775808 ≤ a * 2 ^ k) := by
  obtain ⟨h1, h2, h3⟩ := H
  have q : (0:Int) < 2 ^ k := Int.pow_pos (by decide)
  have q2 : (0:Int) < 2 ^ (63 - j - k) := Int.pow_pos (by decide)
  have e1 : (2:Int) ^ j * 2 ^ k * 2 ^ (63 - j - k) = 9223372036854775808 := by
    rw [← Int.pow_add, ← Int.pow_add, show j + k + (63 - j - k) = 63 by omega]; rfl
  have u : (a + 1) * 2 ^ k ≤ (1 + 1) * 2 ^ j * 2 ^ k := Int.mul_le_mul_of_nonneg_right (by omega) (Int.le_of_lt q)
  have u1 : (a + 1) * 2 ^ k = a * 2 ^ k + 2 ^ k := by rw [Int.add_mul, Int.one_mul]
  have u2 : (1 + 1 : Int) * 2 ^ j * 2 ^ k = 2 * (2 ^ j * 2 ^ k) := by rw [Int.mul_assoc]; rfl
  have u3 : (2:Int) ^ j * 2 ^ k * 1 ≤ 2 ^ j * 2 ^ k * 2 ^ (63 - j - k) := Int.mul_le_mul_of_nonneg_left (by omega) (Int.mul_nonneg (Int.le_of_lt (Int.pow_pos (by decide))) (Int.le_of_lt q))
  refine ⟨by omega, fun hk2 => ?_⟩
  subst hk2
  rw [show 63 - j - (63 - j) = 0 by omega] at e1
  have u4 : 1 * 2 ^ j * 2 ^ (63 - j) ≤ a * 2 ^ (63 - j) := Int.mul_le_mul_of_nonneg_right h2 (Int.le_of_lt q)
  rw [Int.one_mul] at u4
  rw [Int.pow_zero, Int.mul_one] at e1
  omega

set_option maxHeartbeats 1000000 in
theorem refLog_any (a : Int) (w : World) (h0 : 0 < a) (h1 : a < 18446744073709551616) :
    Calls Tryd.prog 24 #[.int .u64 a] w fun e w' => e = .returned (.int .i64 (flog a)) ∧ Ext w w' := by
  have G0 := hid (halved_start a (by omega))
  go_enter Tryd.func24, Tryd.ntmps24
  go_wp2_with fail
  go_loop [3, 4] (fun e n => ∃ (j : Nat) (v : Int), e = .int .i64 j ∧ n = .int .u64 v ∧ j < 64 ∧ 1 ≤ v ∧ v < 18446744073709551616 ∧ Hid (Halved a j v)) (fun _ n => (intOf n).toNat)
  case atStart => exact ⟨0, a, rfl, rfl, by decide, by omega, by omega, G0⟩
  case round =>
    clear G0
    obtain ⟨j, v, rfl, rfl, hj, hv, hv', G⟩ := hrel
    by_cases t : 1 < v
    · have G2 := hid (halved_on a j v G t)
      have j2 := halved_few a _ _ G2 h1
      clear G
      go_wp2_with fail
      go_round
      case rel => exact ⟨j + 1, v / 2, by go_num, rfl, j2, by omega, by omega, G2⟩
      case measure => simp [intOf]; omega
    · have ev : v = 1 := by omega
      subst ev
      have E := hid (fun k hk => halved_end a j G hj k hk)
      clear G
      go_wp2_with fail
      go_loop [5, 6] (fun m i => ∃ (k : Nat) (x : Int), i = .int .i64 ((j : Int) + k) ∧ m = .int .u64 x ∧ k ≤ 63 - j ∧ 0 ≤ x ∧ x < 18446744073709551616 ∧ Hid (x = a * 2 ^ k)) (fun _ i => (63 - intOf i).toNat)
      case atStart => exact ⟨0, a, by simp, rfl, by omega, by omega, by omega, by show a = _; simp⟩
      case round =>
        obtain ⟨k, x, rfl, rfl, hk, hx, hx', X⟩ := hrel
        by_cases t2 : k < 63 - j
        · have e2 : a * 2 ^ (k + 1) = x * 2 := by rw [X.out, Int.pow_succ, Int.mul_assoc]
          have b2 := (E.out (k + 1) (by omega)).1
          rw [e2] at b2
          have X2 : Hid (x * 2 = a * 2 ^ (k + 1)) := e2.symm
          clear e2 X
          go_wp2_with fail
          go_round
          case rel => exact ⟨k + 1, x * 2, by go_num, rfl, by omega, by omega, by omega, X2⟩
          case measure => simp [intOf]; omega
        · have ek : k = 63 - j := by omega
          have b2 := (E.out k hk).2 ek
          have u2 := (E.out k hk).1
          have hs : ((63 - j : Nat) : Int) = 63 - (j : Int) := by omega
          obtain ⟨i, hi⟩ : ∃ i : Nat, i = ((a * 2 ^ k - 9223372036854775808) / 576460752303423488).toNat := ⟨_, rfl⟩
          obtain ⟨r, hr⟩ : ∃ r : Int, r = (a * 2 ^ k - 9223372036854775808) % 576460752303423488 / 2147483648 := ⟨_, rfl⟩
          have FM : Hid (flog a = (31 - (k : Int)) * 65536 + (tab i + (tab (i + 1) - tab i) * r / 268435456)) := by
            show flog a = _
            rw [flog_at a k h0 h1 b2 u2, hi, hr]; rfl
          rw [← X.out] at b2 hi hr
          have e1 : (x - 9223372036854775808) / 576460752303423488 = (i : Int) := by omega
          have i1 : i < 16 := by omega
          have r0 : 0 ≤ r := by omega
          have r1 : r < 268435456 := by omega
          have K : Hid (k = 63 - j) := ek
          have nk : ¬ (j : Int) + k < 63 := by omega
          have HI := hid e1
          have HR := hid hr.symm
          clear ek u2 hs X E hk t t2 e1 hr hi
          go_wp2_with fail
          rw [HI.out, HR.out]
          clear HI HR
          refine (refTable_ext _).mono ?_
          rintro e w' ⟨rfl, HW⟩
          have N1 : (w'.alloc (.cells noughts 72)).heap[w'.heap.size]? = some (.cells noughts 72 (0, 0)) := heap_alloc_new w' _
          go_wp2_with (refine wpList_store_row rfl 72 _ _ rfl w'.heap.size tabs rfl rfl 72 noughts N1 cells17 rfl tabs_one ?_)
          rw [setRow_new]
          have HE : Ext w (w'.alloc (.cells tabs 72)) := HW.alloc _
          have CB : ∀ i, i < 17 → (w'.alloc (.cells tabs 72)).cell? ⟨w'.heap.size, i, none⟩ = some (.int .i64 (tab i)) := fun i hi => by
            rw [cell_of_row _ _ i tabs _ _ (heap_alloc_new w' _), tabs_at i hi]
          clear HW N1
          generalize w'.alloc (.cells tabs 72) = W at *
          generalize w'.heap.size = b at *
          clear w'
          have c1 := CB i (by omega)
          have c2 := CB (i + 1) (by omega)
          have t1 := tab_room i (by omega)
          have t2 := tab_room (i + 1) (by omega)
          obtain ⟨u1, u2⟩ := tab_up i i1
          obtain ⟨p1, p2⟩ := part_step _ r u1 r0 r1
          clear CB
          generalize tab i = y at *
          generalize tab (i + 1) = z at *
          have q0 : 0 ≤ (z - y) * r := Int.mul_nonneg (by omega) r0
          have q1 : (z - y) * r ≤ 5732 * 268435456 := Int.mul_le_mul u2 (by omega) r0 (by decide)
          have e1 : IntKind.i64.wrap ((i : Int) + 1) = (i : Int) + 1 := IntWalk.i64_in _ (by omega)
          have e2 : IntKind.i64.wrap (z - y) = z - y := IntWalk.i64_in _ (by omega)
          have e3 : IntKind.i64.wrap ((z - y) * r) = (z - y) * r := IntWalk.i64_in _ (by omega)
          have b0 : (0:Int) ≤ (i : Int) := by omega
          have b1 : (i : Int) < 17 := by omega
          have b2 : (0:Int) ≤ (i : Int) + 1 := by omega
          have b3 : (i : Int) + 1 < 17 := by omega
          have b4 : ((i : Int) + 1).toNat = i + 1 := by omega
          go_quiet (fail)
          go_wp2
          go_ret
          refine ⟨ret_int ?_, HE.drewN _⟩
          have kk := K.out
          rw [FM.out]
          omega

end Go.Proofs.YtcjohgfmdnimjaaDoor

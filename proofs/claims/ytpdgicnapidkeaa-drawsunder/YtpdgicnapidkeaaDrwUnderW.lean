/-
  The walk of DrawsUnder: a draw below any number, and a share.
-/
import Derived.Test.YtpdgicnapidkeaaDrwRef
namespace Go.Proofs.Ytpdgicnapidkeaa.drawsUnder
set_option linter.unusedVariables false
set_option maxRecDepth 100000
open Go.RowKit Go.Lib

theorem room2 (x : Int) (h0 : 0 ≤ x) (h1 : x < 4294967296) : Room [x, x] := fun i => by
  match i with
  | 0 => exact ⟨h0, h1⟩
  | 1 => exact ⟨h0, h1⟩
  | n + 2 => exact ⟨by simp, by simp⟩
theorem dr0 (x : Int) : dr [x, x] 0 = x := by rfl
theorem dr1 (x : Int) : dr [x, x] 1 = x := by rfl
/-- what the part of a draw is -/
theorem parts (x n : Int) (h0 : 0 ≤ x) (h1 : x < 4294967296) (n0 : 1 ≤ n) (n1 : n ≤ 2147483648) :
    0 ≤ x * n / 4294967296 ∧ x * n / 4294967296 < n ∧ x * n / 4294967296 * 4294967296 ≤ x * n ∧ x * n < (x * n / 4294967296 + 1) * 4294967296 ∧ 0 ≤ x * n ∧ x * n ≤ 4294967295 * 2147483648 := by
  have m1 : 0 ≤ x * n := Int.mul_nonneg h0 (by omega)
  have m2 : x * n ≤ 4294967295 * 2147483648 := Int.mul_le_mul (by omega) n1 (by omega) (by omega)
  have m3 : x * n ≤ 4294967295 * n := Int.mul_le_mul_of_nonneg_right (by omega) (by omega)
  refine ⟨by omega, by omega, by omega, by omega, m1, m2⟩

set_option maxHeartbeats 4000000 in
theorem walk (x n : Int) (w : World) (wx : (Lit.int .u32 x).wf = true) (wn : (Lit.int .i64 n).wf = true) :
    Calls Try.prog 5 #[.int .u32 x, .int .i64 n] w fun e w' => e = .returned (.bool true) ∧ Ext w w' := by
  obtain ⟨x0, x1⟩ := bounds_u32 wx
  have x2 : x < 4294967296 := by omega
  clear wx wn x1
  have X1 : Hid (Ext w (w.alloc (.cells #[.int .u32 x, .int .u32 x] 27))) := (Ext.refl w).alloc _
  have C := hid (new_any _ _ _ [x, x] (lit_row w [x, x] (by simp)) (.inr ⟨_, _, _, rfl⟩) (by simp) (room2 x x0 x2))
  by_cases t : n < 1 ∨ 2147483648 < n
  · go_enter Try.func5, Try.ntmps5
    go_wp2_with fail
    refine C.out.mono ?_
    rintro e w1 ⟨b, rfl, D, X⟩
    have B1 : Hid (w.heap.size ≤ b) := Nat.le_trans X1.out.size D.its
    have X2 := hid (X1.out.trans X)
    have CU := hid (under_none b n w1 t)
    have CT := hid (told_any _ b [x, x] 0 w1 D)
    have CS := hid (share_any _ b [x, x] 0 w1 D (by omega))
    rw [dr0] at CS
    clear D X C X1
    go_wp2_with fail
    refine CU.out.mono ?_
    rintro e w2 ⟨rfl, rfl⟩
    clear CU
    rcases t with h | h
    · go_wp2_with fail
      refine CT.out.mono ?_
      rintro e w3 ⟨rfl, rfl⟩
      go_wp2_with fail
      refine CS.out.mono ?_
      rintro e w4 ⟨rfl, e4⟩
      have X4 : Hid (Ext w w4) := by rw [e4]; exact tells_ext X2.out B1.out _
      clear e4 CT CS
      go_wp2_with fail
      refine (awake_any _).mono ?_
      rintro e w5 ⟨rfl, X5⟩
      have X6 := hid (X4.out.trans X5)
      clear X5
      go_wp2_with fail
      go_ret
      exact ⟨rfl, X6.out⟩
    · have h0 : ¬ n < 1 := by omega
      go_wp2_with fail
      refine CT.out.mono ?_
      rintro e w3 ⟨rfl, rfl⟩
      go_wp2_with fail
      refine CS.out.mono ?_
      rintro e w4 ⟨rfl, e4⟩
      have X4 : Hid (Ext w w4) := by rw [e4]; exact tells_ext X2.out B1.out _
      clear e4 CT CS
      go_wp2_with fail
      refine (awake_any _).mono ?_
      rintro e w5 ⟨rfl, X5⟩
      have X6 := hid (X4.out.trans X5)
      clear X5
      go_wp2_with fail
      go_ret
      exact ⟨rfl, X6.out⟩
  · have n0 : 1 ≤ n := by omega
    have n1 : n ≤ 2147483648 := by omega
    clear t
    obtain ⟨p1, p2, p3, p4, p5, p6⟩ := parts x n x0 x2 n0 n1
    have mw : IntKind.u64.wrap (x * n) = x * n := by rw [IntKind.wrap_u64]; omega
    obtain ⟨k, ek⟩ : ∃ k, k = x * n / 4294967296 := ⟨_, rfl⟩
    rw [← ek] at p1 p2 p3 p4
    go_enter Try.func5, Try.ntmps5
    go_wp2_with fail
    refine C.out.mono ?_
    rintro e w1 ⟨b, rfl, D, X⟩
    have B1 : Hid (w.heap.size ≤ b) := Nat.le_trans X1.out.size D.its
    have X2 := hid (X1.out.trans X)
    have CU := hid (under_any _ b [x, x] 0 n w1 D (by omega) n0 n1)
    rw [dr0, ← ek] at CU
    have D2 := hid (D.tells 1)
    clear D X C X1 ek
    go_wp2_with fail
    refine CU.out.mono ?_
    rintro e w2 ⟨rfl, e2⟩
    have X3 : Hid (Ext w w2) := by rw [e2]; exact tells_ext X2.out B1.out _
    have e2' : w2 = tells w1 b 1 := e2
    rw [← e2'] at D2
    have CS := hid (share_any _ b [x, x] 1 w2 D2.out (by omega))
    rw [dr1] at CS
    clear e2 e2' X2 CU
    go_wp2_with fail
    refine CS.out.mono ?_
    rintro e w4 ⟨rfl, e4⟩
    have X4 : Hid (Ext w w4) := by rw [e4]; exact tells_ext X3.out B1.out _
    have D4 := hid (D2.out.tells 2)
    have e4' : w4 = tells w2 b 2 := e4
    rw [← e4'] at D4
    have CT := hid (told_any _ b [x, x] 2 w4 D4.out)
    clear e4 e4' CS D2 X3
    go_wp2_with fail
    refine CT.out.mono ?_
    rintro e w5 ⟨rfl, rfl⟩
    go_wp2_with fail
    refine (awake_any _).mono ?_
    rintro e w5 ⟨rfl, X5⟩
    have X6 := hid (X4.out.trans X5)
    clear X5
    go_wp2_with fail
    go_ret
    exact ⟨rfl, X6.out⟩
end Go.Proofs.Ytpdgicnapidkeaa.drawsUnder

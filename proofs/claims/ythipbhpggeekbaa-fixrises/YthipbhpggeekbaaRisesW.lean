/-
  The walk of FixRises: what is greater has greater sums, products, quotients and roots, or the same.
-/
import Derived.Test.YthipbhpggeekbaaAwake
import Derived.OpenShut
namespace Go.Proofs.Ythipbhpggeekbaa.fixRises
set_option linter.unusedVariables false
open Go.RowKit

theorem add_le (x y c : Int) (h : x ≤ y) : fadd x c ≤ fadd y c := by
  unfold fadd; split <;> split <;> omega
theorem sub_le (x y c : Int) (h : x ≤ y) : fsub x c ≤ fsub y c := by
  unfold fsub; split <;> split <;> omega
theorem sub_ge (x y c : Int) (h : x ≤ y) : fsub c y ≤ fsub c x := by
  unfold fsub; split <;> split <;> omega
theorem times_le (x y c : Int) (h : x ≤ y) (hc : 0 ≤ c) : ftimes x c ≤ ftimes y c := by
  have := Int.mul_le_mul_of_nonneg_right h hc
  unfold ftimes
  generalize x * c = p at *
  generalize y * c = q at *
  split <;> split <;> omega
theorem ratio_le (x y c : Int) (h : x ≤ y) (h0 : 0 ≤ x) (hy : y ≤ 18446744073709551615) : fratio x c ≤ fratio y c := by
  unfold fratio
  by_cases h1 : c ≤ x / 4294967296
  · rw [if_pos h1, if_pos (by omega)]; omega
  · rw [if_neg h1]
    have hc : 0 < c := by omega
    split
    · have : x * 4294967296 / c < 18446744073709551616 := Int.ediv_lt_of_lt_mul hc (by omega)
      omega
    · exact Int.ediv_le_ediv hc (by omega)
theorem ratio_ge (x y c : Int) (h : x ≤ y) (h0 : 0 ≤ x) (hc : 0 ≤ c) (hc' : c ≤ 18446744073709551615) : fratio c y ≤ fratio c x := by
  unfold fratio
  by_cases h1 : y ≤ c / 4294967296
  · rw [if_pos h1, if_pos (by omega)]; omega
  · rw [if_neg h1]
    have hy : 0 < y := by omega
    split
    · have : c * 4294967296 / y < 18446744073709551616 := Int.ediv_lt_of_lt_mul hy (by omega)
      omega
    · have hx : 0 < x := by omega
      apply Int.le_ediv_of_mul_le hx
      have a := Int.ediv_mul_le (c * 4294967296) (show y ≠ 0 by omega)
      have b : 0 ≤ c * 4294967296 / y := Int.ediv_nonneg (by omega) (by omega)
      have d := Int.mul_le_mul_of_nonneg_left h b
      omega
theorem root_le (x y r s : Int) (h : x ≤ y) (hr : 0 ≤ r) (hs : 0 ≤ s) (h1 : r * r ≤ x * 4294967296) (h2 : y * 4294967296 < (s + 1) * (s + 1)) : r ≤ s := by
  rcases Int.lt_or_le s r with k | k
  · have := Int.mul_le_mul (show s + 1 ≤ r by omega) (show s + 1 ≤ r by omega) (by omega) hr
    omega
  · exact k

set_option maxHeartbeats 1000000 in
theorem walk (a0 : Int) (a1 : Int) (a2 : Int) (w0 : (Lit.int .u64 a0).wf = true) (w1 : (Lit.int .u64 a1).wf = true) (w2 : (Lit.int .u64 a2).wf = true) (w : World) :
    Calls Try.prog 8 #[.int .u64 a0, .int .u64 a1, .int .u64 a2] w fun e w' => e = .returned (.bool true) ∧ Grown w w' := by
  obtain ⟨b0, b0'⟩ := bounds_u64 w0
  obtain ⟨b1, b1'⟩ := bounds_u64 w1
  obtain ⟨b2, b2'⟩ := bounds_u64 w2
  clear w0 w1 w2
  go_enter Try.func8, Try.ntmps8
  go_wp2_with fail
  obtain ⟨x, ex⟩ : ∃ x, min a0 a1 = x := ⟨_, rfl⟩
  obtain ⟨y, ey⟩ : ∃ y, max a0 a1 = y := ⟨_, rfl⟩
  have hxy : x ≤ y := by omega
  have hx : 0 ≤ x := by omega
  have hy : y ≤ 18446744073709551615 := by omega
  rw [ex, ey]
  clear ex ey
  have f1 := add_le x y a2 hxy
  have f2 := times_le x y a2 hxy b2
  have f3 := ratio_le x y a2 hxy hx hy
  have f4 := ratio_ge x y a2 hxy hx b2 b2'
  have f5 := sub_le x y a2 hxy
  have f6 := sub_ge x y a2 hxy
  refine (add_any x a2 (by omega) (by omega) (by omega) (by omega) _).mono ?_
  rintro e w' ⟨rfl, rfl⟩
  go_wp2_with fail
  refine (add_any y a2 (by omega) (by omega) (by omega) (by omega) _).mono ?_
  rintro e w' ⟨rfl, rfl⟩
  go_wp2_with fail
  refine (mul_any x a2 (by omega) (by omega) (by omega) (by omega) _).mono ?_
  rintro e w' ⟨rfl, rfl⟩
  go_wp2_with fail
  refine (mul_any y a2 (by omega) (by omega) (by omega) (by omega) _).mono ?_
  rintro e w' ⟨rfl, rfl⟩
  go_wp2_with fail
  refine (div_any x a2 (by omega) (by omega) (by omega) (by omega) _).mono ?_
  rintro e w' ⟨rfl, n1, rfl⟩
  go_wp2_with fail
  refine (div_any y a2 (by omega) (by omega) (by omega) (by omega) _).mono ?_
  rintro e w' ⟨rfl, n2, rfl⟩
  go_wp2_with fail
  refine (div_any a2 x (by omega) (by omega) (by omega) (by omega) _).mono ?_
  rintro e w' ⟨rfl, n3, rfl⟩
  go_wp2_with fail
  refine (div_any a2 y (by omega) (by omega) (by omega) (by omega) _).mono ?_
  rintro e w' ⟨rfl, n4, rfl⟩
  go_wp2_with fail
  refine (sub_any x a2 (by omega) (by omega) (by omega) (by omega) _).mono ?_
  rintro e w' ⟨rfl, rfl⟩
  go_wp2_with fail
  refine (sub_any y a2 (by omega) (by omega) (by omega) (by omega) _).mono ?_
  rintro e w' ⟨rfl, rfl⟩
  go_wp2_with fail
  refine (sub_any a2 x (by omega) (by omega) (by omega) (by omega) _).mono ?_
  rintro e w' ⟨rfl, rfl⟩
  go_wp2_with fail
  refine (sub_any a2 y (by omega) (by omega) (by omega) (by omega) _).mono ?_
  rintro e w' ⟨rfl, rfl⟩
  go_wp2_with fail
  refine (root_any x (by omega) (by omega) _).mono ?_
  rintro e w' ⟨r, r0, r1, r2, r3, rfl, rfl⟩
  have R2 := hid r2
  clear r2 r3
  go_wp2_with fail
  refine (root_any y (by omega) (by omega) _).mono ?_
  rintro e w' ⟨s, s0, s1, s2, s3, rfl, rfl⟩
  have f7 := root_le x y r s hxy r0 s0 R2 s3
  clear s2 s3
  go_wp2_with fail
  refine (awake_any _).mono ?_
  rintro e w' ⟨rfl, n, rfl⟩
  go_wp2_with fail
  go_ret
  exact ⟨rfl, grown_drewN _ _⟩
end Go.Proofs.Ythipbhpggeekbaa.fixRises

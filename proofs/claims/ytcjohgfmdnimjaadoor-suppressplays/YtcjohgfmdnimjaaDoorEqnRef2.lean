/-
  Walks of the reference of layer 3: Root and Div bit by bit, Rate step by step.
-/
import Derived.Test.YtcjohgfmdnimjaaDoorEqnRef
namespace Go.Proofs.YtcjohgfmdnimjaaDoor
set_option linter.unusedVariables false
open Go.RowKit

theorem sgn_low {x y : Int} (h : x ≤ y) : sgn x y ≤ 0 := by unfold sgn; split <;> (try split) <;> omega

/-! ### a quotient, bit by bit -/
/-- what is true of the quotient's high bits, c times 2^k, at the head of the loop -/
def Quot (A b : Int) (k : Nat) (c : Int) : Prop :=
  0 ≤ c ∧ (c + 1) * 2 ^ k ≤ 18446744073709551616 ∧ (c * 2 ^ k) * b ≤ A ∧ (A < ((c + 1) * 2 ^ k) * b ∨ (c + 1) * 2 ^ k = 18446744073709551616)

theorem quot_start (A b : Int) (h : 0 ≤ A) : Quot A b 64 0 :=
  ⟨by omega, by decide, by simpa using h, .inr (by decide)⟩

theorem quot_yes (A b : Int) (k : Nat) (c : Int) (g : Quot A b (k + 1) c) (t : ((2 * c + 1) * 2 ^ k) * b ≤ A) : Quot A b k (2 * c + 1) := by
  obtain ⟨h1, h2, h3, h4⟩ := g
  obtain ⟨_, _, e⟩ := FxMath.two_c c k
  rw [e] at h2 h4
  exact ⟨by omega, h2, t, h4⟩

theorem quot_no (A b : Int) (k : Nat) (c : Int) (g : Quot A b (k + 1) c) (t : A < ((2 * c + 1) * 2 ^ k) * b) : Quot A b k (2 * c) := by
  obtain ⟨h1, h2, h3, h4⟩ := g
  obtain ⟨_, e2, e⟩ := FxMath.two_c c k
  rw [e] at h2
  rw [e2] at h3
  have p : (0:Int) < 2 ^ k := Int.pow_pos (by decide)
  refine ⟨by omega, ?_, h3, .inl t⟩
  rw [Int.add_mul _ 1, Int.one_mul] at h2
  omega

theorem quot_room (A b : Int) (k : Nat) (c : Int) (g : Quot A b k c) : 0 ≤ c * 2 ^ k ∧ c * 2 ^ k + 2 ^ k ≤ 18446744073709551616 ∧ (0:Int) < 2 ^ k := by
  obtain ⟨h1, h2, h3, h4⟩ := g
  have p : (0:Int) < 2 ^ k := Int.pow_pos (by decide)
  have := Int.mul_nonneg h1 (show (0:Int) ≤ 2 ^ k by omega)
  rw [Int.add_mul, Int.one_mul] at h2
  omega

theorem quot_end (a b c : Int) (ha : 0 ≤ a) (hb : 0 ≤ b) (g : Quot (a * 4294967296) b 0 c) : c = fratio a b := by
  obtain ⟨h1, h2, h3, h4⟩ := g
  simp only [Int.pow_zero, Int.mul_one] at h2 h3 h4
  unfold fratio
  by_cases t : b ≤ a / 4294967296
  · rw [if_pos t]
    rcases h4 with h4 | h4
    · have := Int.mul_le_mul (show c + 1 ≤ 18446744073709551616 by omega) (show b ≤ a / 4294967296 by omega) hb (by omega)
      omega
    · omega
  · rw [if_neg t]
    have hp : 0 < b := by omega
    have e1 : c ≤ a * 4294967296 / b := (Int.le_ediv_iff_mul_le hp).2 h3
    have e2 : a * 4294967296 / b < 18446744073709551616 := Int.ediv_lt_of_lt_mul hp (by omega)
    rcases h4 with h4 | h4
    · have := Int.ediv_lt_of_lt_mul hp h4
      omega
    · omega

theorem root_end (a c : Int) (ha : 0 ≤ a) (ha' : a < 18446744073709551616) (g : FxMath.Rooted (a * 4294967296) 0 c) : c = froot a := by
  obtain ⟨h1, h2, h3, h4⟩ := g
  simp only [Int.pow_zero, Int.mul_one] at h2 h3 h4
  exact froot_is a c ha ha' h1 h3 h4

set_option maxHeartbeats 2000000 in
theorem ref3Div_any (a b : Int) (w : World) (a0 : 0 ≤ a) (a1 : a < 18446744073709551616) (b0 : 0 ≤ b) (b1 : b < 18446744073709551616) :
    Calls Tryd.prog 25 #[.int .u64 a, .int .u64 b] w fun e w' => e = .returned (.int .u64 (fratio a b)) ∧ Ext w w' := by
  have G0 := hid (quot_start (a * 4294967296) b (by omega))
  have EN := hid (fun c => quot_end a b c a0 b0)
  obtain ⟨Z, eZ⟩ : ∃ Z, Z = fratio a b := ⟨_, rfl⟩
  rw [← eZ] at EN ⊢
  clear eZ
  obtain ⟨A, eA⟩ : ∃ A, A = a * 4294967296 := ⟨_, rfl⟩
  rw [← eA] at G0 EN
  have EA := hid eA
  clear eA
  go_enter Tryd.func25, Tryd.ntmps25
  go_wp2_with fail
  refine (refOf_any a _ a0 a1).mono ?_
  rintro e w1 ⟨v1, rfl, X1, n1⟩
  have E : Ext w w1 := X1
  clear X1
  go_wp2_with fail
  refine (refUp_any _ _ _ _ n1 (by decide)).mono ?_
  rintro e w2 ⟨up, rfl, X2, n2⟩
  have X2 : Ext w1 w2 := X2
  replace E := E.trans X2
  clear X2 n1
  rw [← EA.out] at n2
  go_wp2_with fail
  go_loopw [6, 7] (fun o i wr => ∃ (k : Nat) (c : Int), k ≤ 64 ∧ o = .int .u64 (c * 2 ^ k) ∧ i = .int .i64 ((k : Int) - 1) ∧ Ext w wr ∧ Num wr up A 8 ∧ Hid (Quot A b k c)) (fun _ i _ => (intOf i + 1).toNat)
  case atStart => exact ⟨64, 0, by omega, rfl, rfl, E, n2, G0⟩
  case round =>
    clear G0 E n2
    obtain ⟨k, c, hk, rfl, rfl, E, N, G⟩ := hrel
    match k, hk, G with
    | 0, hk, G =>
      have e := EN.out c G.out
      subst e
      rw [show ((0 : Nat) : Int) - 1 = -1 from rfl, show c * 2 ^ 0 = c by rw [Int.pow_zero, Int.mul_one]]
      go_wp2
      go_ret
      exact ⟨rfl, E⟩
    | k + 1, hk, G =>
      obtain ⟨g1, g2, g3⟩ := quot_room _ _ _ _ G.out
      have p0 : (0:Int) < 2 ^ k := Int.pow_pos (by decide)
      have p2 : (2:Int) ^ (k + 1) = 2 ^ k * 2 := Int.pow_succ ..
      have p1 : (2:Int) ^ k < 18446744073709551616 := by omega
      obtain ⟨c1, c2, c3⟩ := FxMath.two_c c k
      have bb : 0 ≤ (2 * c + 1) * 2 ^ k ∧ (2 * c + 1) * 2 ^ k < 18446744073709551616 := by rw [← c1]; omega
      have C1 := hid c1
      have C2 := hid c2
      have S : (c * 2 ^ (k + 1) + 2 ^ k < 18446744073709551616) := by omega
      clear p2 c1 c2 c3
      rw [show ((k + 1 : Nat) : Int) - 1 = (k : Int) by omega]
      by_cases t : (2 * c + 1) * 2 ^ k * b ≤ A
      · have G2 := hid (quot_yes A b k c G t)
        have T := hid (sgn_low t)
        clear t G
        go_wp2_with fail
        rw [C1.out]
        refine (refOf_any _ _ bb.1 bb.2).mono ?_
        rintro e w3 ⟨v3, rfl, X, n3⟩
        have X : Ext wr w3 := X
        replace E := E.trans X
        replace N := N.ext X
        clear X
        go_wp2_with fail
        refine (refOf_any _ _ b0 b1).mono ?_
        rintro e w4 ⟨v4, rfl, X, n4⟩
        have X : Ext w3 w4 := X
        replace E := E.trans X
        replace N := N.ext X
        replace n3 := n3.ext X
        clear X
        go_wp2_with fail
        refine (refMul_any _ _ _ _ _ _ _ n3 n4 (by decide) (by decide)).mono ?_
        rintro e w5 ⟨v5, rfl, X, n5⟩
        have X : Ext w4 w5 := X
        replace E := E.trans X
        replace N := N.ext X
        clear X n3 n4
        go_wp2_with fail
        refine (cmp_any _ _ _ _ _ _ _ n5 N (by decide) (by decide)).mono ?_
        rintro e w6 ⟨rfl, q, rfl⟩
        replace E := E.drewN q
        replace N := N.drewN q
        clear n5
        have T := T.out
        generalize sgn ((2 * c + 1) * 2 ^ k * b) A = Y at *
        go_wp2_with fail
        go_roundw
        case rel => exact ⟨k, 2 * c + 1, by omega, rfl, by go_num, E, N, G2⟩
        case measure => simp [intOf]
      · have G2 := hid (quot_no A b k c G (by omega))
        have T := hid (sgn_pos (show A < (2 * c + 1) * 2 ^ k * b by omega))
        clear t G
        go_wp2_with fail
        rw [C1.out]
        refine (refOf_any _ _ bb.1 bb.2).mono ?_
        rintro e w3 ⟨v3, rfl, X, n3⟩
        have X : Ext wr w3 := X
        replace E := E.trans X
        replace N := N.ext X
        clear X
        go_wp2_with fail
        refine (refOf_any _ _ b0 b1).mono ?_
        rintro e w4 ⟨v4, rfl, X, n4⟩
        have X : Ext w3 w4 := X
        replace E := E.trans X
        replace N := N.ext X
        replace n3 := n3.ext X
        clear X
        go_wp2_with fail
        refine (refMul_any _ _ _ _ _ _ _ n3 n4 (by decide) (by decide)).mono ?_
        rintro e w5 ⟨v5, rfl, X, n5⟩
        have X : Ext w4 w5 := X
        replace E := E.trans X
        replace N := N.ext X
        clear X n3 n4
        go_wp2_with fail
        refine (cmp_any _ _ _ _ _ _ _ n5 N (by decide) (by decide)).mono ?_
        rintro e w6 ⟨rfl, q, rfl⟩
        replace E := E.drewN q
        replace N := N.drewN q
        clear n5
        rw [T.out]
        go_wp2_with fail
        go_roundw
        case rel => exact ⟨k, 2 * c, by omega, by rw [C2.out], by go_num, E, N, G2⟩
        case measure => simp [intOf]

end Go.Proofs.YtcjohgfmdnimjaaDoor

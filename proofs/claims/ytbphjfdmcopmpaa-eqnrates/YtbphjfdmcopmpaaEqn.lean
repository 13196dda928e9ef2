/-
  Walks of package eqn: divisor, Rate, Loss, Fair, First; and of the law's fixed answer, 'awake'.
-/
import Derived.Test.YtbphjfdmcopmpaaEqnMath
namespace Go.Proofs.Ytbphjfdmcopmpaa
set_option linter.unusedVariables false
open Go.RowKit

theorem drew_grown (w : World) (n : Nat) : Grown w (w.drewN n) := Grown.refl w

theorem rooted_any (a : Int) (ha : 0 ≤ a) (ha' : a < 18446744073709551616) (w : World) :
    Calls Try.prog 27 #[.int .u64 a] w fun e w' => e = .returned (.int .u64 (froot a)) ∧ w' = w := by
  refine (root_any a ha ha' w).mono ?_
  rintro e w' ⟨r, h0, h1, h2, h3, rfl, rfl⟩
  exact ⟨ret_int (froot_is a r ha ha' h0 h2 h3), rfl⟩

set_option maxHeartbeats 1000000 in
theorem divisor_any (rtt p : Int) (k0 : 0 ≤ rtt) (k1 : rtt < 18446744073709551616) (h0 : 0 ≤ p) (h1 : p < 18446744073709551616) (w : World) :
    Calls Try.prog 15 #[.int .u64 rtt, .int .u64 p] w fun e w' => e = .returned (.int .u64 (fdivisor rtt p)) ∧ ∃ n, w' = w.drewN n := by
  have R : fdivisor rtt p = ftimes rtt (fadd (froot (ftimes p 2863311530)) (ftimes (ftimes 51539607552 (froot (ftimes p 1610612736))) (ftimes p (fadd 4294967296 (ftimes 137438953472 (ftimes p p)))))) := rfl
  have a1 := ftimes_room p 2863311530 h0 (by decide)
  have a2 := froot_ok _ a1.1 a1.2
  have b1 := ftimes_room p 1610612736 h0 (by decide)
  have b2 := froot_ok _ b1.1 b1.2
  have b3 := ftimes_room 51539607552 _ (by decide) b2.1
  have c1 := ftimes_room p p h0 h0
  have c2 := ftimes_room 137438953472 _ (by decide) c1.1
  have c3 := fadd_room 4294967296 _ (by decide) c2.1
  have c4 := ftimes_room p _ h0 c3.1
  have d1 := ftimes_room _ _ b3.1 c4.1
  have d2 := fadd_room _ _ a2.1 d1.1
  have A1 := ratio_any 2 3 (by decide) (by decide) (by decide) (by decide)
  rw [show fratio 2 3 = 2863311530 from by decide] at A1
  have A2 := mul_any p 2863311530 h0 (by decide) h1 (by decide)
  have A3 := rooted_any _ a1.1 a1.2
  have B1 := ratio_any 3 8 (by decide) (by decide) (by decide) (by decide)
  rw [show fratio 3 8 = 1610612736 from by decide] at B1
  have B2 := mul_any p 1610612736 h0 (by decide) h1 (by decide)
  have B3 := rooted_any _ b1.1 b1.2
  have C1 := of_any 32 (by decide) (by decide)
  rw [show (32 : Int) * 4294967296 = 137438953472 from rfl] at C1
  have C2 := mul_any p p h0 h0 h1 h1
  have C3 := mul_any 137438953472 _ (by decide) c1.1 (by decide) c1.2
  have C4 := add_any 4294967296 _ (by decide) c2.1 (by decide) c2.2
  have C5 := mul_any p _ h0 c3.1 h1 c3.2
  have D1 := of_any 12 (by decide) (by decide)
  rw [show (12 : Int) * 4294967296 = 51539607552 from rfl] at D1
  have D2 := mul_any 51539607552 _ (by decide) b2.1 (by decide) (by omega)
  have D3 := mul_any _ _ b3.1 c4.1 b3.2 c4.2
  have D4 := add_any _ _ a2.1 d1.1 (by omega) d1.2
  have D5 := mul_any rtt _ k0 d2.1 k1 d2.2
  rw [R]
  clear R a1 a2 b1 b2 b3 c1 c2 c3 c4 d1 d2
  generalize ftimes rtt (fadd (froot (ftimes p 2863311530)) (ftimes (ftimes 51539607552 (froot (ftimes p 1610612736))) (ftimes p (fadd 4294967296 (ftimes 137438953472 (ftimes p p)))))) = y5 at *
  generalize fadd (froot (ftimes p 2863311530)) (ftimes (ftimes 51539607552 (froot (ftimes p 1610612736))) (ftimes p (fadd 4294967296 (ftimes 137438953472 (ftimes p p))))) = y4 at *
  generalize ftimes (ftimes 51539607552 (froot (ftimes p 1610612736))) (ftimes p (fadd 4294967296 (ftimes 137438953472 (ftimes p p)))) = y3 at *
  generalize ftimes 51539607552 (froot (ftimes p 1610612736)) = y2 at *
  generalize froot (ftimes p 1610612736) = y1 at *
  generalize ftimes p 1610612736 = y0 at *
  generalize ftimes p (fadd 4294967296 (ftimes 137438953472 (ftimes p p))) = x4 at *
  generalize fadd 4294967296 (ftimes 137438953472 (ftimes p p)) = x3 at *
  generalize ftimes 137438953472 (ftimes p p) = x2 at *
  generalize ftimes p p = x1 at *
  generalize froot (ftimes p 2863311530) = z1 at *
  generalize ftimes p 2863311530 = z0 at *
  go_enter Try.func15, Try.ntmps15
  go_wp2_with fail
  refine (A1 _).mono ?_
  rintro e w' ⟨rfl, n, rfl⟩
  go_wp2_with fail
  refine (A2 _).mono ?_
  rintro e w' ⟨rfl, rfl⟩
  go_wp2_with fail
  refine (A3 _).mono ?_
  rintro e w' ⟨rfl, rfl⟩
  go_wp2_with fail
  refine (B1 _).mono ?_
  rintro e w' ⟨rfl, m, rfl⟩
  go_wp2_with fail
  refine (B2 _).mono ?_
  rintro e w' ⟨rfl, rfl⟩
  go_wp2_with fail
  refine (B3 _).mono ?_
  rintro e w' ⟨rfl, rfl⟩
  go_wp2_with fail
  refine (C1 _).mono ?_
  rintro e w' ⟨rfl, rfl⟩
  go_wp2_with fail
  refine (C2 _).mono ?_
  rintro e w' ⟨rfl, rfl⟩
  go_wp2_with fail
  refine (C3 _).mono ?_
  rintro e w' ⟨rfl, rfl⟩
  go_wp2_with fail
  refine (C4 _).mono ?_
  rintro e w' ⟨rfl, rfl⟩
  go_wp2_with fail
  refine (C5 _).mono ?_
  rintro e w' ⟨rfl, rfl⟩
  go_wp2_with fail
  refine (D1 _).mono ?_
  rintro e w' ⟨rfl, rfl⟩
  go_wp2_with fail
  refine (D2 _).mono ?_
  rintro e w' ⟨rfl, rfl⟩
  go_wp2_with fail
  refine (D3 _).mono ?_
  rintro e w' ⟨rfl, rfl⟩
  go_wp2_with fail
  refine (D4 _).mono ?_
  rintro e w' ⟨rfl, rfl⟩
  go_wp2_with fail
  refine (D5 _).mono ?_
  rintro e w' ⟨rfl, rfl⟩
  go_wp2_with fail
  go_ret
  exact ⟨rfl, _, rfl⟩

set_option maxHeartbeats 1000000 in
theorem rate_any (size rtt p : Int) (s0 : 0 ≤ size) (s1 : size < 4294967296) (k0 : 0 ≤ rtt) (k1 : rtt < 18446744073709551616) (h0 : 0 ≤ p) (h1 : p < 18446744073709551616) (w : World) :
    Calls Try.prog 8 #[.int .u32 size, .int .u64 rtt, .int .u64 p] w fun e w' => e = .returned (.int .u64 (frate size rtt p)) ∧ ∃ n, w' = w.drewN n := by
  have b := fdivisor_room rtt p k0 h0 h1
  have Z := hid (frate_zero size rtt p s0)
  have D := divisor_any rtt p k0 k1 h0 h1
  have Q := div_any (size * 4294967296) _ (by omega) b.1 (by omega) b.2
  have R : frate size rtt p = fratio (size * 4294967296) (fdivisor rtt p) := rfl
  rw [← R] at Q
  clear R
  generalize frate size rtt p = X at *
  generalize fdivisor rtt p = d at *
  by_cases t : d = 0
  · have e := hid (Z.out t)
    subst t
    clear Z Q
    go_enter Try.func8, Try.ntmps8
    go_wp2_with fail
    refine (D _).mono ?_
    rintro e w' ⟨rfl, n, rfl⟩
    go_wp2_with fail
    go_ret
    exact ⟨ret_int e.out.symm, _, rfl⟩
  · have t' : (d == 0) = false := by simp [t]
    clear Z t
    go_enter Try.func8, Try.ntmps8
    go_wp2_with fail
    refine (D _).mono ?_
    rintro e w' ⟨rfl, n, rfl⟩
    go_wp2_with fail
    refine (of_any size s0 s1 _).mono ?_
    rintro e w' ⟨rfl, rfl⟩
    go_wp2_with fail
    refine (Q _).mono ?_
    rintro e w' ⟨rfl, m, rfl⟩
    go_wp2_with fail
    go_ret
    exact ⟨rfl, _, rfl⟩

/-- the number in the middle, as Loss finds it -/
theorem middle (l h : Int) (h1 : 1 ≤ l) (h2 : l < h) (h3 : h ≤ 4294967296) : fsub h l = h - l ∧ fhalf (h - l) 1 = (h - l) / 2 ∧ fadd l ((h - l) / 2) = l + (h - l) / 2 ∧ fadd (l + (h - l) / 2) 1 = l + (h - l) / 2 + 1 := by
  refine ⟨?_, ?_, ?_, ?_⟩
  · unfold fsub; rw [if_neg (by omega)]
  · unfold fhalf; rw [if_neg (by omega), if_neg (by omega)]; rfl
  · unfold fadd; rw [if_neg (by omega)]
  · unfold fadd; rw [if_neg (by omega)]

set_option maxHeartbeats 1000000 in
theorem loss_any (size rtt rate : Int) (s0 : 0 ≤ size) (s1 : size < 4294967296) (k0 : 0 ≤ rtt) (k1 : rtt < 18446744073709551616) (h0 : 0 ≤ rate) (h1 : rate < 18446744073709551616) (w : World) :
    Calls Try.prog 12 #[.int .u32 size, .int .u64 rtt, .int .u64 rate] w fun e w' => ∃ r, IsLoss size rtt rate r ∧ e = .returned (.int .u64 r) ∧ ∃ n, w' = w.drewN n := by
  have G0 := hid (seek_start size rtt rate)
  go_enter Try.func12, Try.ntmps12
  go_wp2
  go_loopw [7, 8] (fun lo hi wr => ∃ (l h : Int) (q : Nat), lo = .int .u64 l ∧ hi = .int .u64 h ∧ wr = w.drewN q ∧ Hid (Seek size rtt rate l h)) (fun lo hi _ => (intOf hi - intOf lo).toNat)
  case atStart => exact ⟨1, 4294967296, 0, rfl, rfl, rfl, G0⟩
  case round =>
    clear G0
    obtain ⟨l, h, q, rfl, rfl, rfl, G⟩ := hrel
    obtain ⟨g1, g2, g3, _, _⟩ := G.out
    by_cases t : l < h
    · have M := middle l h g1 t g3
      have c1 := sub_any h l (by omega) (by omega) (by omega) (by omega)
      have c2 := half_any (h - l) 1 (by omega) (by omega)
      have c3 := add_any l ((h - l) / 2) (by omega) (by omega) (by omega) (by omega)
      have c4 := add_any (l + (h - l) / 2) 1 (by omega) (by omega) (by omega) (by omega)
      rw [M.1] at c1
      rw [M.2.1] at c2
      rw [M.2.2.1] at c3
      rw [M.2.2.2] at c4
      clear M
      have m1 : l ≤ l + (h - l) / 2 := by omega
      have m2 : l + (h - l) / 2 < h := by omega
      obtain ⟨d, ed⟩ : ∃ d, d = (h - l) / 2 := ⟨_, rfl⟩
      rw [← ed] at c2 c3 c4 m1 m2
      clear ed
      obtain ⟨m, em⟩ : ∃ m, m = l + d := ⟨_, rfl⟩
      rw [← em] at c3 c4 m1 m2
      clear em
      have cr := rate_any size rtt m s0 s1 k0 k1 (by omega) (by omega)
      by_cases v : frate size rtt m ≤ rate
      · have G2 := hid (seek_yes size rtt rate l h m G.out m1 m2 v)
        generalize frate size rtt m = X at *
        go_wp2_with fail
        refine (c1 _).mono ?_
        rintro e w' ⟨rfl, rfl⟩
        go_wp2_with fail
        refine (c2 _).mono ?_
        rintro e w' ⟨rfl, rfl⟩
        go_wp2_with fail
        refine (c3 _).mono ?_
        rintro e w' ⟨rfl, rfl⟩
        go_wp2_with fail
        refine (cr _).mono ?_
        rintro e w' ⟨rfl, k, rfl⟩
        go_wp2_with fail
        go_roundw
        case rel => exact ⟨l, m, _, rfl, rfl, rfl, G2⟩
        case measure => simp [intOf]; omega
      · have G2 := hid (seek_no size rtt rate l h m s0 k0 G.out m1 m2 (by omega))
        generalize frate size rtt m = X at *
        go_wp2_with fail
        refine (c1 _).mono ?_
        rintro e w' ⟨rfl, rfl⟩
        go_wp2_with fail
        refine (c2 _).mono ?_
        rintro e w' ⟨rfl, rfl⟩
        go_wp2_with fail
        refine (c3 _).mono ?_
        rintro e w' ⟨rfl, rfl⟩
        go_wp2_with fail
        refine (cr _).mono ?_
        rintro e w' ⟨rfl, k, rfl⟩
        go_wp2_with fail
        refine (c4 _).mono ?_
        rintro e w' ⟨rfl, rfl⟩
        go_wp2_with fail
        go_roundw
        case rel => exact ⟨m + 1, h, _, rfl, rfl, rfl, G2⟩
        case measure => simp [intOf]; omega
    · have E := hid (seek_end size rtt rate l h G.out t)
      go_wp2
      go_ret
      exact ⟨h, E.out, rfl, _, rfl⟩

set_option maxHeartbeats 400000 in
theorem fair_any (size rtt p most : Int) (s0 : 0 ≤ size) (s1 : size < 4294967296) (k0 : 0 ≤ rtt) (k1 : rtt < 18446744073709551616) (h0 : 0 ≤ p) (h1 : p < 18446744073709551616) (m0 : 0 ≤ most) (m1 : most < 18446744073709551616) (w : World) :
    Calls Try.prog 13 #[.int .u32 size, .int .u64 rtt, .int .u64 p, .int .u64 most] w fun e w' => e = .returned (.int .u64 (min (frate size rtt p) most)) ∧ ∃ n, w' = w.drewN n := by
  have R := rate_any size rtt p s0 s1 k0 k1 h0 h1
  generalize frate size rtt p = X at *
  go_enter Try.func13, Try.ntmps13
  go_wp2_with fail
  refine (R _).mono ?_
  rintro e w' ⟨rfl, n, rfl⟩
  go_wp2_with fail
  go_ret
  exact ⟨rfl, _, rfl⟩

set_option maxHeartbeats 400000 in
theorem first_any (size rtt rate : Int) (s0 : 0 ≤ size) (s1 : size < 4294967296) (k0 : 0 ≤ rtt) (k1 : rtt < 18446744073709551616) (h0 : 0 ≤ rate) (h1 : rate < 18446744073709551616) (w : World) :
    Calls Try.prog 14 #[.int .u32 size, .int .u64 rtt, .int .u64 rate] w fun e w' => ∃ r, IsLoss size rtt rate r ∧ e = .returned (.int .u32 (ffirst r)) ∧ ∃ n, w' = w.drewN n := by
  go_enter Try.func14, Try.ntmps14
  go_wp2_with fail
  refine (loss_any size rtt rate s0 s1 k0 k1 h0 h1 _).mono ?_
  rintro e w' ⟨r, L, rfl, n, rfl⟩
  have L := hid L
  obtain ⟨l1, l2, _, _⟩ := L.out
  have Q := div_any 4294967296 r (by decide) (by omega) (by decide) (by omega)
  have b := fratio_room 4294967296 r (by decide) (by omega) (by decide)
  have W := whole_any _ b.1 b.2
  rw [show fratio 4294967296 r / 4294967296 = ffirst r from rfl] at W
  obtain ⟨Y, eY⟩ : ∃ Y, Y = ffirst r := ⟨_, rfl⟩
  rw [← eY] at W
  have EY := hid eY
  clear eY
  generalize fratio 4294967296 r = X at *
  go_wp2_with fail
  refine (Q _).mono ?_
  rintro e w' ⟨rfl, m, rfl⟩
  go_wp2_with fail
  refine (W _).mono ?_
  rintro e w' ⟨rfl, rfl⟩
  go_wp2_with fail
  go_ret
  exact ⟨r, L.out, ret_int EY.out, _, rfl⟩

set_option maxHeartbeats 1000000 in
theorem awake3_any (w : World) :
    Calls Try.prog 9 #[] w fun e w' => e = .returned (.bool true) ∧ ∃ n, w' = w.drewN n := by
  have c1 := ratio_any 1 100 (by decide) (by decide) (by decide) (by decide)
  rw [show fratio 1 100 = 42949672 from by decide] at c1
  have c2 := rate_any 1000 4294967296 42949672 (by decide) (by decide) (by decide) (by decide) (by decide) (by decide)
  rw [frate_known] at c2
  have c3 := of_any 9000 (by decide) (by decide)
  rw [show (9000 : Int) * 4294967296 = 38654705664000 from rfl] at c3
  have c4 := of_any 13000 (by decide) (by decide)
  rw [show (13000 : Int) * 4294967296 = 55834574848000 from rfl] at c4
  have le : ∀ r, IsLoss 1000 4294967296 48246328655604 r → 1 ≤ r ∧ r ≤ 42949672 := by
    intro r h
    obtain ⟨h1, h2, h3, h4⟩ := h
    refine ⟨h1, ?_⟩
    rcases Int.lt_or_le 42949672 r with k | k
    · have := h4 42949672 (by decide) k
      rw [frate_known] at this
      omega
    · exact k
  have LE := hid le
  clear le
  have c5 := loss_any 1000 4294967296 48246328655604 (by decide) (by decide) (by decide) (by decide) (by decide) (by decide)
  have c6 := rate_any 1 1 0 (by decide) (by decide) (by decide) (by decide) (by decide) (by decide)
  rw [frate_zero 1 1 0 (by decide) (fdivisor_zero 1)] at c6
  have c7 := first_any 1000 4294967296 48246328655604 (by decide) (by decide) (by decide) (by decide) (by decide) (by decide)
  go_enter Try.func9, Try.ntmps9
  go_wp2_with fail
  refine (c1 _).mono ?_
  rintro e w' ⟨rfl, n1, rfl⟩
  go_wp2_with fail
  refine (c2 _).mono ?_
  rintro e w' ⟨rfl, n2, rfl⟩
  go_wp2_with fail
  refine (c3 _).mono ?_
  rintro e w' ⟨rfl, rfl⟩
  go_wp2_with fail
  refine (c4 _).mono ?_
  rintro e w' ⟨rfl, rfl⟩
  go_wp2_with fail
  refine (c5 _).mono ?_
  rintro e w' ⟨r, L, rfl, n3, rfl⟩
  have b := (LE.out r L).2
  clear L
  go_wp2_with fail
  refine (c6 _).mono ?_
  rintro e w' ⟨rfl, n4, rfl⟩
  go_wp2_with fail
  refine (c7 _).mono ?_
  rintro e w' ⟨s, L, rfl, n5, rfl⟩
  have b2 := LE.out s L
  have b3 := ffirst_ge s b2.1 b2.2
  clear L b2
  generalize ffirst s = Y at *
  go_wp2_with fail
  go_ret
  exact ⟨rfl, _, rfl⟩
end Go.Proofs.Ytbphjfdmcopmpaa

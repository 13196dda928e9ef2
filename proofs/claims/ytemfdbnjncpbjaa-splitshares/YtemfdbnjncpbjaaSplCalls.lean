/-
  Walks of Fits, Level, Shares; of the reference's All and Fits; of awake.
-/
import Derived.Test.YtemfdbnjncpbjaaSplMem
namespace Go.Proofs.Ytemfdbnjncpbjaa.Spl
set_option linter.unusedVariables false
set_option maxRecDepth 100000
open Go.RowKit Go.Lib

/-! ### up to which place -/
set_option maxHeartbeats 4000000 in
theorem fits_any (o : Int) (v : Value) (l : List Int) (w : World) (h : Nums .u64 w v l) : Calls Try.prog 16 #[.int .u64 o, v] w fun e w' => e = .returned (.int .i64 ((fit o l : Int) - 1)) ∧ w' = w := by
  obtain ⟨ao, cp, rfl, k1, k2, CC⟩ := row_one h
  have GET : Hid (∀ k, k < l.length → ∃ q : Int, l[k]? = some q) := fun k hk => ⟨_, List.getElem?_eq_getElem hk⟩
  have CEL := hid CC
  have ALL : Hid ((∀ j y, j < l.length → l[j]? = some y → y ≤ o) → fit o l = l.length) := fun h => fit_all h
  obtain ⟨N, eN⟩ : ∃ N, N = l.length := ⟨_, rfl⟩
  rw [← eN] at GET k1 ALL ⊢
  unfold maxLen at k2
  clear h CC eN
  go_enter Try.func16, Try.ntmps16
  go_wp2_with fail
  go_loopw [5, 6, 9] (fun _ _ iv wr => ∃ k : Nat, k ≤ N ∧ iv = .int .i64 (k : Int) ∧ Hid (∀ j y, j < k → l[j]? = some y → y ≤ o) ∧ wr = w) (fun _ _ iv _ => (N - RowKit.intOf iv).toNat)
  case atStart => exact ⟨0, by omega, rfl, fun j y hj => absurd hj (by omega), rfl⟩
  case round =>
    obtain ⟨k, hk, rfl, LOW, rfl⟩ := hrel
    by_cases q : k < N
    · have i1 : (k : Int) < (N : Int) := by omega
      have i2 : (0 : Int) ≤ (k : Int) := by omega
      obtain ⟨x, ex⟩ := GET.out k q
      obtain ⟨g0, q0, rfl, cc⟩ := CEL.out k x ex
      by_cases q2 : o < x
      · have F := hid (fit_stop LOW.out ex q2)
        clear GET CEL ALL LOW ex
        go_wp2_with fail
        go_ret
        exact ⟨ret_int (by rw [F.out]), rfl⟩
      · have LOW2 := hid (low_more LOW.out ex (by omega))
        have q3 : x ≤ o := by omega
        clear GET CEL ALL LOW ex
        go_wp2_with fail
        go_roundw
        case rel => exact ⟨k + 1, by omega, by go_num, LOW2, trivial⟩
        case measure => simp [RowKit.intOf]; omega
    · obtain rfl : N = k := by omega
      have F := hid (ALL.out LOW.out)
      clear GET CEL ALL LOW
      go_wp2_with fail
      go_ret
      exact ⟨ret_int (by rw [F.out]), rfl⟩

theorem level_no (o r L : Int) (h : ¬ Lay L) (w : World) : Calls Try.prog 14 #[.int .u64 o, .int .u64 r, .int .i64 L] w fun e w' => e = .returned (.int .i64 (-1)) ∧ w' = w := by
  have AL := hid (fun V => all_no r L h V)
  have FI := hid (fun V => fits_any o _ [] V (Nums.nil .u64 V))
  rw [show ((fit o [] : Nat) : Int) - 1 = -1 from rfl] at FI
  clear h
  go_enter Try.func14, Try.ntmps14
  go_wp2_with fail
  refine (AL.out _).mono ?_
  rintro e w' ⟨rfl, ew⟩
  obtain rfl := ew.symm
  go_wp2_with fail
  refine (FI.out _).mono ?_
  rintro e w' ⟨rfl, ew⟩
  obtain rfl := ew.symm
  go_wp2_with fail
  go_ret
  exact ⟨rfl, rfl⟩

theorem level_yes (o : Int) {r : Int} (hr : Wd r) (N : Nat) (h1 : 1 ≤ N) (h8 : N ≤ 8) (w : World) : Calls Try.prog 14 #[.int .u64 o, .int .u64 r, .int .i64 (N : Int)] w fun e w' => e = .returned (.int .i64 ((fit o (cums r N) : Int) - 1)) ∧ Ext w w' := by
  have AL := hid (fun V => all_yes hr N h1 h8 V)
  have FI := hid (fun v V (R : Nums .u64 V v (cums r N)) => fits_any o v _ V R)
  generalize cums r N = l at *
  generalize ((fit o l : Nat) : Int) - 1 = m at *
  clear hr
  go_enter Try.func14, Try.ntmps14
  go_wp2_with fail
  refine (AL.out _).mono ?_
  rintro e w2 ⟨g, rfl, rr, xx⟩
  have RR := hid rr
  have XX := hid xx
  clear rr xx
  go_wp2_with fail
  refine (FI.out _ _ RR.out).mono ?_
  rintro e w' ⟨rfl, ew⟩
  obtain rfl := ew.symm
  go_wp2_with fail
  go_ret
  exact ⟨rfl, XX.out⟩

/-! ### shares -/
theorem shares_no (L : Int) (h : ¬ Lay L) (w : World) : Calls Try.prog 17 #[.int .i64 L] w fun e w' => e = .returned (.slice none 0 0) ∧ w' = w := by
  have MB := hid (fun V => mayBe_any L V)
  rw [decide_eq_false h] at MB
  clear h
  go_enter Try.func17, Try.ntmps17
  go_wp2_with fail
  refine (MB.out _).mono ?_
  rintro e w' ⟨rfl, ew⟩
  obtain rfl := ew.symm
  go_wp2_with fail
  go_ret
  exact ⟨rfl, rfl⟩

set_option maxHeartbeats 4000000 in
theorem shares_yes (N : Nat) (h1 : 1 ≤ N) (h8 : N ≤ 8) (w : World) : Calls Try.prog 17 #[.int .i64 (N : Int)] w fun e w' => ∃ g, e = .returned (.slice (some ⟨g, 0, none⟩) N N) ∧ Nums .i64 w' (.slice (some ⟨g, 0, none⟩) N N) (shrs N) ∧ Ext w w' := by
  have MB := hid (fun V => mayBe_any (N : Int) V)
  rw [decide_eq_true (show Lay (N : Int) from ⟨by omega, by omega⟩)] at MB
  have TK := hid (fun k (hk : k < N) => shrs_take hk)
  have LN := hid (shrs_length N)
  have SUM := hid blw_more
  have RM := hid (fun k (hk : k < N) => And.intro (blw_room (k := k) (by omega)) (shr_room (k := k) (by omega)))
  have MX : Hid (∀ k, (if blw k < 1 then 1 else blw k) = shr k) := fun k => by unfold shr; split <;> omega
  have Z0 : Hid ((0 : Int) = blw 0) := rfl
  obtain ⟨cur, hc, mk⟩ := make_row 40 3 .i64 8 Try.underlying40 infoI (by omega) N (by omega) w
  have ST := hid (Fil.start .i64 3 w (shrs N) hc)
  clear hc
  generalize shrs N = l at *
  go_enter Try.func17, Try.ntmps17
  go_wp2_with fail
  refine (MB.out _).mono ?_
  rintro e w' ⟨rfl, ew⟩
  obtain rfl := ew.symm
  generalize w.heap.size = g at *
  generalize w.alloc (.cells cur 3) = w2 at *
  go_wp2_with fail
  go_loopw [4, 5, 12] (fun sv _ iv wr => ∃ k : Nat, k ≤ N ∧ iv = .int .i64 (k : Int) ∧ sv = .int .i64 (blw k) ∧ Hid (Fil .i64 3 w wr g N k l)) (fun _ _ iv _ => (N - RowKit.intOf iv).toNat)
  case atStart => exact ⟨0, by omega, rfl, by rw [← Z0.out], ST⟩
  case round =>
    obtain ⟨k, hk, rfl, rfl, FR⟩ := hrel
    clear ST mk
    by_cases q : k < N
    · have i1 : (k : Int) < (N : Int) := by omega
      have i2 : (0 : Int) ≤ (k : Int) := by omega
      obtain ⟨⟨u, c3⟩, f3, c4, g3⟩ := FR.out.put q (TK.out k q)
      have G3 := hid g3
      obtain ⟨⟨r0, r1⟩, r2, r3⟩ := RM.out k q
      have SM := hid (SUM k)
      have mx := MX.out k
      clear TK FR g3 RM SUM MX Z0 MB
      obtain ⟨b, eb⟩ : ∃ b, b = blw k := ⟨_, rfl⟩
      obtain ⟨s, es⟩ : ∃ s, s = shr k := ⟨_, rfl⟩
      rw [← eb, ← es] at SM mx
      rw [← es] at G3 c4 r2 r3
      rw [← eb] at r0 r1 ⊢
      clear eb es
      go_wp2_with fail
      go_roundw
      case rel => exact ⟨k + 1, by omega, by go_num, by rw [← SM.out], G3⟩
      case measure => simp [RowKit.intOf]; omega
    · obtain rfl : N = k := by omega
      have D := hid (FR.out.done LN.out (by omega))
      clear FR TK RM SUM MX Z0
      go_wp2_with fail
      go_ret
      exact ⟨g, rfl, D.out.1, D.out.2⟩

/-! ### the reference -/
theorem ref_put {w wr : World} {v : Value} {l : List Int} (h : NewR (rk .u64) 22 1 w wr v l) (x : Int) (hl : l.length ≤ 90000) :
    ∃ v' w', (Builtin.append_ #[31, 31] 31 #[v, .slice (some ⟨wr.heap.size, 0, none⟩) 1 1]).run Try.prog (wr.alloc (.cells #[.int .u64 x] 22)) = .ok v' w' ∧ NewR (rk .u64) 22 1 w w' v' (l ++ [x]) := by
  obtain ⟨v', w', r, N', -⟩ := h.step elemsU (encK .u64) 31 x hl
  exact ⟨v', w', r, N'⟩

set_option maxHeartbeats 8000000 in
theorem refAll_any {r : Int} (hr : Wd r) (N : Nat) (h1 : 1 ≤ N) (h8 : N ≤ 8) (w : World) : Calls Try.prog 12 #[.int .u64 r, .int .i64 (N : Int)] w fun e w' => ∃ v, e = .returned v ∧ Nums .u64 w' v (cums r N) ∧ Ext w w' := by
  have HV := hid (fun j => hv_room hr j)
  have TK := hid (fun k (hk : k < N) => cums_take r hk)
  have CM : Hid (∀ k, cum r N k = hv (N - 1 - k) r) := fun k => rfl
  have HS : Hid (∀ j, hv (j + 1) r = hv j r / 2) := fun j => rfl
  have H0 : Hid (r = hv 0 r) := rfl
  have LN := hid (cums_length r N)
  have R0 : Hid (NewR (rk .u64) 22 1 w w (.slice none 0 0) ((cums r N).take 0)) := NewR.nil (rk .u64) 22 1 w
  clear hr
  generalize cums r N = l at *
  go_enter Try.func12, Try.ntmps12
  go_wp2_with fail
  go_loopw [5, 6, 7, 8] (fun ov iv _ _ wr => ∃ k : Nat, k ≤ N ∧ iv = .int .i64 (k : Int) ∧ Hid (NewR (rk .u64) 22 1 w wr ov (l.take k))) (fun _ iv _ _ _ => (N - RowKit.intOf iv).toNat)
  case atStart => exact ⟨0, by omega, rfl, R0⟩
  case round =>
    obtain ⟨k, hk, rfl, RR⟩ := hrel
    clear R0
    by_cases q : k < N
    · have i1 : (k : Int) < (N : Int) := by omega
      have i2 : (0 : Int) ≤ (k : Int) := by omega
      have tk := TK.out k q
      obtain ⟨v', w', r', N'⟩ := ref_put RR.out (cum r N k) (by rw [List.length_take]; omega)
      rw [← tk] at N'
      obtain ⟨av, cv, ev, -⟩ := RR.out.slice
      subst ev
      have RUN := hid r'
      have NR := hid N'
      rw [CM.out k] at RUN
      obtain ⟨m, em⟩ : ∃ m, m = (l.take k).length := ⟨_, rfl⟩
      rw [← em] at RUN ⊢
      obtain ⟨M, eM⟩ : ∃ M : Nat, M = N - 1 - k := ⟨_, rfl⟩
      rw [← eM] at RUN
      clear tk r' N' RR TK CM LN em
      go_wp2_with fail
      go_loopw [7, 8] (fun xv jv wr2 => ∃ j : Nat, j ≤ M ∧ jv = .int .i64 ((k : Int) + 1 + (j : Int)) ∧ xv = .int .u64 (hv j r) ∧ wr2 = wr) (fun _ jv _ => (N - RowKit.intOf jv).toNat)
      case atStart => exact ⟨0, by omega, by simp, by rw [← H0.out], rfl⟩
      case round =>
        obtain ⟨j, hj, rfl, rfl, rfl⟩ := hrel
        by_cases q2 : j < M
        · have j1 : (k : Int) + 1 + (j : Int) < (N : Int) := by omega
          have j2 : (0 : Int) ≤ (k : Int) + 1 + (j : Int) := by omega
          have E2 := hid (HS.out j)
          have rm := HV.out j
          obtain ⟨x, ex⟩ : ∃ x, x = hv j r := ⟨_, rfl⟩
          rw [← ex] at E2 rm ⊢
          obtain ⟨rm1, rm2⟩ := rm
          obtain ⟨J, eJ⟩ : ∃ J : Int, J = (k : Int) + 1 + (j : Int) := ⟨_, rfl⟩
          rw [← eJ] at j1 j2 ⊢
          have EJ := hid eJ
          clear ex eJ HV HS H0 RUN NR
          go_wp2_with fail
          go_roundw
          case rel => exact ⟨j + 1, by omega, by rw [EJ.out]; go_num, by rw [E2.out], trivial⟩
          case measure => simp [RowKit.intOf]; omega
        · obtain rfl : M = j := by omega
          have j1 : (k : Int) + 1 + (M : Int) = (N : Int) := by omega
          rw [j1]
          obtain ⟨x, ex⟩ : ∃ x, x = hv M r := ⟨_, rfl⟩
          rw [← ex] at RUN ⊢
          obtain ⟨a2, c2, e2, -⟩ := NR.out.slice
          subst e2
          obtain ⟨m2, em2⟩ : ∃ m2, m2 = (l.take (k + 1)).length := ⟨_, rfl⟩
          rw [← em2] at RUN NR
          clear em2 ex HV HS H0 hj
          go_wp2_with (at_builtin; refine wpList_append_run _ rfl (.tmp 24) (.tmp 26) 31 31 rfl _ _ rfl rfl _ _ RUN.out ?_)
          go_roundw
          case rel => exact ⟨k + 1, by omega, by go_num, NR⟩
          case measure => simp [RowKit.intOf]; omega
    · obtain rfl : N = k := by omega
      have D := hid RR.out
      rw [List.take_of_length_le (by have := LN.out; omega)] at D
      clear RR TK CM HV HS H0
      obtain ⟨av, cv, ev, -⟩ := D.out.slice
      subst ev
      go_wp2_with fail
      go_ret
      exact ⟨_, rfl, Nums.new D.out, D.out.2.2⟩

set_option maxHeartbeats 4000000 in
theorem refFits_any (o : Int) (v : Value) (l : List Int) (w : World) (h : Nums .u64 w v l) : Calls Try.prog 15 #[.int .u64 o, v] w fun e w' => e = .returned (.int .i64 ((fit o l : Int) - 1)) ∧ w' = w := by
  obtain ⟨ao, cp, rfl, k1, k2, CC⟩ := row_one h
  have GET : Hid (∀ k, k < l.length → ∃ q : Int, l[k]? = some q) := fun k hk => ⟨_, List.getElem?_eq_getElem hk⟩
  have CEL := hid CC
  have ALL : Hid ((∀ j y, j < l.length → l[j]? = some y → y ≤ o) → fit o l = l.length) := fun h => fit_all h
  obtain ⟨N, eN⟩ : ∃ N, N = l.length := ⟨_, rfl⟩
  rw [← eN] at GET k1 ALL ⊢
  unfold maxLen at k2
  clear h CC eN
  go_enter Try.func15, Try.ntmps15
  go_wp2_with fail
  go_loopw [5] (fun iv wr => ∃ k : Nat, k ≤ N ∧ iv = .int .i64 ((k : Int) - 1) ∧ Hid (∀ j y, j < k → l[j]? = some y → y ≤ o) ∧ wr = w) (fun iv _ => (N - RowKit.intOf iv).toNat)
  case atStart => exact ⟨0, by omega, rfl, fun j y hj => absurd hj (by omega), rfl⟩
  case round =>
    obtain ⟨k, hk, rfl, LOW, rfl⟩ := hrel
    obtain ⟨J, eJ⟩ : ∃ J : Int, J = (k : Int) - 1 := ⟨_, rfl⟩
    have EJ := hid eJ
    rw [← eJ]
    have j1 : -1 ≤ J := by omega
    have j2 : J ≤ 9223372036854775806 := by omega
    by_cases q : k < N
    · have i1 : J + 1 < (N : Int) := by omega
      have i2 : (0 : Int) ≤ J + 1 := by omega
      obtain ⟨x, ex⟩ := GET.out k q
      obtain ⟨g0, q0, rfl, cc⟩ := CEL.out k x ex
      have ej : (J + 1).toNat = k := by omega
      by_cases q2 : o < x
      · have F := hid (fit_stop LOW.out ex q2)
        have q4 : ¬ x ≤ o := by omega
        clear GET CEL ALL LOW ex eJ
        go_wp2_with fail
        go_ret
        exact ⟨ret_int (by rw [F.out, EJ.out]), rfl⟩
      · have LOW2 := hid (low_more LOW.out ex (by omega))
        have q3 : x ≤ o := by omega
        clear GET CEL ALL LOW ex eJ
        go_wp2_with fail
        go_roundw
        case rel => exact ⟨k + 1, by omega, by rw [EJ.out]; go_num, LOW2, trivial⟩
        case measure => simp [RowKit.intOf]; omega
    · obtain rfl : N = k := by omega
      have F := hid (ALL.out LOW.out)
      have i1 : ¬ J + 1 < (N : Int) := by omega
      clear GET CEL ALL LOW eJ
      go_wp2_with fail
      go_ret
      exact ⟨ret_int (by rw [F.out, EJ.out]), rfl⟩

/-! ### awake -/
theorem wd80 : Wd 343597383680 := by unfold Wd; decide
theorem aw_all : cums 343597383680 4 = [42949672960, 85899345920, 171798691840, 343597383680] := by decide +kernel

set_option maxHeartbeats 8000000 in
theorem awake_any (w : World) : Calls Try.prog 11 #[] w fun e w' => e = .returned (.bool true) ∧ Ext w w' := by
  have O80 := hid (fun V => of_any 80 (by decide) (by decide) V)
  have O20 := hid (fun V => of_any 20 (by decide) (by decide) V)
  have O40 := hid (fun V => of_any 40 (by decide) (by decide) V)
  have O45 := hid (fun V => of_any 45 (by decide) (by decide) V)
  rw [show (80 : Int) * 4294967296 = 343597383680 from rfl] at O80
  rw [show (20 : Int) * 4294967296 = 85899345920 from rfl] at O20
  rw [show (40 : Int) * 4294967296 = 171798691840 from rfl] at O40
  rw [show (45 : Int) * 4294967296 = 193273528320 from rfl] at O45
  have C1 := hid (fun V => cum_yes wd80 4 1 (by decide) (by decide) V)
  rw [show cum 343597383680 4 1 = 85899345920 from by decide +kernel, show ((4 : Nat) : Int) = 4 from rfl, show ((1 : Nat) : Int) = 1 from rfl] at C1
  have W1 := hid (fun V => own_yes wd80 4 3 (by decide) (by decide) V)
  rw [show own 343597383680 4 3 = 171798691840 from by decide +kernel, show ((4 : Nat) : Int) = 4 from rfl, show ((3 : Nat) : Int) = 3 from rfl] at W1
  have C9 := hid (fun V => cum_no 1 9 0 (fun c => absurd c.1.2 (by decide)) V)
  have LV := hid (fun V => level_yes 193273528320 wd80 4 (by decide) (by decide) V)
  rw [show ((fit 193273528320 (cums 343597383680 4) : Nat) : Int) - 1 = 2 from by rw [aw_all]; decide +kernel, show ((4 : Nat) : Int) = 4 from rfl] at LV
  have SH := hid (fun V => shares_yes 4 (by decide) (by decide) V)
  rw [show ((4 : Nat) : Int) = 4 from rfl] at SH
  go_enter Try.func11, Try.ntmps11
  go_wp2_with fail
  refine (O80.out _).mono ?_
  rintro e w' ⟨rfl, ew⟩
  obtain rfl := ew.symm
  go_wp2_with fail
  refine (C1.out _).mono ?_
  rintro e w' ⟨rfl, ew⟩
  obtain rfl := ew.symm
  go_wp2_with fail
  refine (O80.out _).mono ?_
  rintro e w' ⟨rfl, ew⟩
  obtain rfl := ew.symm
  go_wp2_with fail
  refine (W1.out _).mono ?_
  rintro e w' ⟨rfl, ew⟩
  obtain rfl := ew.symm
  go_wp2_with fail
  refine (C9.out _).mono ?_
  rintro e w' ⟨rfl, ew⟩
  obtain rfl := ew.symm
  go_wp2_with fail
  refine (O20.out _).mono ?_
  rintro e w' ⟨rfl, ew⟩
  obtain rfl := ew.symm
  go_wp2_with fail
  refine (O40.out _).mono ?_
  rintro e w' ⟨rfl, ew⟩
  obtain rfl := ew.symm
  go_wp2_with fail
  refine (O45.out _).mono ?_
  rintro e w' ⟨rfl, ew⟩
  obtain rfl := ew.symm
  go_wp2_with fail
  refine (O80.out _).mono ?_
  rintro e w' ⟨rfl, ew⟩
  obtain rfl := ew.symm
  go_wp2_with fail
  refine (LV.out _).mono ?_
  rintro e w2 ⟨rfl, x2⟩
  have X2 := hid x2
  clear x2
  go_wp2_with fail
  refine (SH.out _).mono ?_
  rintro e w3 ⟨g, rfl, -, x3⟩
  have X3 := hid (X2.out.trans x3)
  clear x3
  go_wp2_with fail
  go_ret
  exact ⟨rfl, X3.out⟩
end Go.Proofs.Ytemfdbnjncpbjaa.Spl

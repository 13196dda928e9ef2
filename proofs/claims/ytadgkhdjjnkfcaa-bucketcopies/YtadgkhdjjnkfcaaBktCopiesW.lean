/-
  BucketCopies' walk.
-/
import Derived.Test.YtadgkhdjjnkfcaaBktSmall
namespace Go.Proofs.Ytadgkhdjjnkfcaa.bucketCopies
set_option linter.unusedVariables false
set_option maxRecDepth 100000
open Go.RowKit Go.Lib Go.Proofs.Ytadgkhdjjnkfcaa.Bkt

set_option maxHeartbeats 16000000 in
theorem walk (n : Int) (v1 : Value) (l1 : List TkS) (v2 : Value) (l2 : List TkS) (w : World) (hz1 : TicksIn w v1 l1) (hz2 : TicksIn w v2 l2) : Calls Try.prog 7 #[.int .i64 n, v1, v2] w fun e w' => e = .returned (.bool true) ∧ Ext w w' := by
  have AW := hid (fun V => awake_any V)
  obtain ⟨ao, cp, rfl, k1, k2⟩ := hz1.slice
  obtain ⟨bo, cq, rfl, k3, k4⟩ := hz2.slice
  have SM := hid (small_any w w ao cp l1 hz1.seen (Ext.refl w) k1 k2)
  have SN := hid (fun V (X : Ext w V) => small_any w V bo cq l2 hz2.seen X k3 k4)
  have PA := hid (fun b s V (P : PlS w b V s) => play_any w V b s ao cp l1 hz1.seen P k1 k2)
  have PB := hid (fun b s V (P : PlS w b V s) => play_any w V b s bo cq l2 hz2.seen P k3 k4)
  generalize decide (smn l1.length l1 ≤ 300) = s1 at *
  generalize decide (smn l2.length l2 ≤ 300) = s2 at *
  clear hz1 hz2
  generalize l1.length = N1 at *
  generalize l2.length = N2 at *
  unfold maxLen at k2 k4
  cases s1 with
  | false =>
    clear SN PA PB
    go_enter Try.func7, Try.ntmps7
    go_wp2_with fail
    refine SM.out.mono ?_
    rintro e w1 ⟨rfl, x1⟩
    have X1 := hid x1
    clear x1
    go_wp2_with fail
    refine (AW.out _).mono ?_
    rintro e wz ⟨rfl, xz⟩
    have XZ := hid (X1.out.trans xz)
    clear xz X1
    go_wp2_with fail
    go_ret
    exact ⟨rfl, XZ.out⟩
  | true =>
  cases s2 with
  | false =>
    clear PA PB
    go_enter Try.func7, Try.ntmps7
    go_wp2_with fail
    refine SM.out.mono ?_
    rintro e w1 ⟨rfl, x1⟩
    have X1 := hid x1
    clear x1
    go_wp2_with fail
    refine (SN.out _ X1.out).mono ?_
    rintro e w2 ⟨rfl, x2⟩
    have X2 := hid (X1.out.trans x2)
    clear x2 X1
    go_wp2_with fail
    refine (AW.out _).mono ?_
    rintro e wz ⟨rfl, xz⟩
    have XZ := hid (X2.out.trans xz)
    clear xz X2
    go_wp2_with fail
    go_ret
    exact ⟨rfl, XZ.out⟩
  | true =>
  by_cases no : n < 1 ∨ 320 < n
  · clear PA PB
    by_cases q : n < 1
    case' pos => clear no
    case' neg =>
      have n1 : 320 < n := by omega
      clear no
    all_goals
      go_enter Try.func7, Try.ntmps7
      go_wp2_with fail
      refine SM.out.mono ?_
      rintro e w1 ⟨rfl, x1⟩
      have X1 := hid x1
      clear x1
      go_wp2_with fail
      refine (SN.out _ X1.out).mono ?_
      rintro e w2 ⟨rfl, x2⟩
      have X2 := hid (X1.out.trans x2)
      clear x2 X1
      go_wp2_with fail
      refine (AW.out _).mono ?_
      rintro e wz ⟨rfl, xz⟩
      have XZ := hid (X2.out.trans xz)
      clear xz X2
      go_wp2_with fail
      go_ret
      exact ⟨rfl, XZ.out⟩
  have n1 : ¬ n < 1 := by omega
  have n2 : ¬ 320 < n := by omega
  have NW := hid (fun V => new_yes n V (by omega) (by omega))
  clear no
  go_enter Try.func7, Try.ntmps7
  go_wp2_with fail
  refine SM.out.mono ?_
  rintro e w1 ⟨rfl, x1⟩
  have X1 := hid x1
  clear x1 SM
  go_wp2_with fail
  refine (SN.out _ X1.out).mono ?_
  rintro e w2 ⟨rfl, x2⟩
  have X2 := hid (X1.out.trans x2)
  clear x2 X1 SN
  go_wp2_with fail
  refine (NW.out _).mono ?_
  rintro e w3 ⟨b, rfl, t, hb, x3⟩
  have S0 : Hid (PlS w b w3 (n, 0, 0)) := ⟨t, X2.out.trans x3, Nat.le_trans X2.out.size hb⟩
  clear t hb x3 X2 NW
  go_wp2_with fail
  refine (PA.out b _ _ S0.out).mono ?_
  rintro e w4 ⟨rfl, t, -⟩
  generalize plays (n, 0, 0) l1 = s at *
  have S1 := hid t
  clear t S0 PA
  go_wp2_with fail
  refine (copy_any b _ _ S1.out.1).mono ?_
  rintro e w5 ⟨g, rfl, t5, hg, x5⟩
  have gb : g ≠ b := by have := S1.out.1.lt; omega
  have gw : w.heap.size ≤ g := by have := S1.out.2.1.size; omega
  have A5 := hid (S1.out.ext x5)
  have C5 : Hid (PlS w g w5 s) := ⟨t5, S1.out.2.1.trans x5, gw⟩
  clear S1 t5 x5 hg
  go_wp2_with fail
  refine (tokens_any b _ _ A5.out.1).mono ?_
  rintro e w' ⟨rfl, ew⟩
  obtain rfl := ew.symm
  go_wp2_with fail
  refine (spent_any b _ _ A5.out.1).mono ?_
  rintro e w' ⟨rfl, ew⟩
  obtain rfl := ew.symm
  go_wp2_with fail
  refine (PB.out g _ _ C5.out).mono ?_
  rintro e w6 ⟨rfl, t, kt⟩
  have C6 := hid t
  have A6 := hid (A5.out.beside kt gw gb.symm)
  clear t kt A5 C5
  go_wp2_with fail
  refine (tokens_any b _ _ A6.out.1).mono ?_
  rintro e w' ⟨rfl, ew⟩
  obtain rfl := ew.symm
  go_wp2_with fail
  refine (spent_any b _ _ A6.out.1).mono ?_
  rintro e w' ⟨rfl, ew⟩
  obtain rfl := ew.symm
  go_wp2_with fail
  refine (PB.out b _ _ A6.out).mono ?_
  rintro e w7 ⟨rfl, t, kt⟩
  have A7 := hid t
  have C7 := hid (C6.out.beside kt A6.out.2.2 gb)
  generalize plays s l2 = s2 at *
  clear t kt A6 C6
  go_wp2_with fail
  refine (tokens_any b _ _ A7.out.1).mono ?_
  rintro e w' ⟨rfl, ew⟩
  obtain rfl := ew.symm
  go_wp2_with fail
  refine (tokens_any g _ _ C7.out.1).mono ?_
  rintro e w' ⟨rfl, ew⟩
  obtain rfl := ew.symm
  go_wp2_with fail
  refine (spent_any b _ _ A7.out.1).mono ?_
  rintro e w' ⟨rfl, ew⟩
  obtain rfl := ew.symm
  go_wp2_with fail
  refine (spent_any g _ _ C7.out.1).mono ?_
  rintro e w' ⟨rfl, ew⟩
  obtain rfl := ew.symm
  go_wp2_with fail
  refine (AW.out _).mono ?_
  rintro e wz ⟨rfl, xz⟩
  have XZ := hid (A7.out.2.1.trans xz)
  clear xz
  go_wp2_with fail
  go_ret
  exact ⟨rfl, XZ.out⟩
end Go.Proofs.Ytadgkhdjjnkfcaa.bucketCopies

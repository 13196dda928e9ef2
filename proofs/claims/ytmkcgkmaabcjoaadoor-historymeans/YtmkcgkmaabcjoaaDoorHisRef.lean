/-
  Walks of the reference's Weight, Sum, Front, Ratio, and of the statements' same.
-/
import Derived.Test.YtmkcgkmaabcjoaaDoorHisCopy
namespace Go.Proofs.YtmkcgkmaabcjoaaDoor.His
set_option linter.unusedVariables false
set_option maxRecDepth 100000
open Go.RowKit Go.Lib

set_option maxHeartbeats 1000000 in
theorem weight_any (i : Nat) (w : World) (hi : i ≤ 1000) : Calls Tryd.prog 28 #[.int .i64 (i : Int)] w fun e w' => e = .returned (.int .i64 (wt i)) ∧ Ext w w' := by
  by_cases h : 7 < i
  · rw [wt_far i h]
    obtain ⟨I, eI⟩ : ∃ I : Int, I = (i : Int) := ⟨_, rfl⟩
    rw [← eI]
    have i0 : 7 < I := by omega
    have i1 : I ≤ 1000 := by omega
    clear h hi eI
    go_enter Tryd.func28, Tryd.ntmps28
    go_wp2_with fail
    go_ret
    exact ⟨rfl, (Ext.refl w).alloc _⟩
  · have h8 : i = 0 ∨ i = 1 ∨ i = 2 ∨ i = 3 ∨ i = 4 ∨ i = 5 ∨ i = 6 ∨ i = 7 := by omega
    clear h hi
    rcases h8 with rfl | rfl | rfl | rfl | rfl | rfl | rfl | rfl
    all_goals
      go_enter Tryd.func28, Tryd.ntmps28
      go_wp2_with fail
      go_ret
      exact ⟨rfl, (Ext.refl w).alloc _⟩

theorem refRatio_any (a b : Int) (w : World) (a0 : 0 ≤ a) (a1 : a < 2147483648) (b0 : 0 < b) (b1 : b < 2147483648) : Calls Tryd.prog 16 #[.int .i64 a, .int .i64 b] w fun e w' => e = .returned (.int .u64 (a * 4294967296 / b)) ∧ w' = w := by
  go_enter Tryd.func16, Tryd.ntmps16
  go_wp2_with fail
  go_ret
  exact ⟨rfl, rfl⟩

/-- what the first one counts more where it is counted twice -/
def more (half : Bool) (k : Nat) (x : Int) : Int := if half = true ∧ 0 < k then x * 5 else 0
set_option maxHeartbeats 2000000 in
theorem sum_any {K : Nat → Prop} (v : Value) (l : List Int) (half : Bool) (w : World) (hv : ListK K w v l) (l8 : l.length ≤ 8) (hs : Small l) :
    Calls Tryd.prog 15 #[v, .bool half] w fun e w' => e = .returned (.tuple #[.int .i64 (wsum 0 l + more half l.length (l.getD 0 0)), .int .i64 (wall 0 l + more half l.length 1)]) ∧ Ext w w' := by
  obtain ⟨ao, c, rfl, k1, k2⟩ := hv.slice
  have AT : Hid (∀ k, k < l.length → ∀ V, Ext w V → ∃ g o, ao = some ⟨g, o, none⟩ ∧ V.cell? ⟨g, o + k, none⟩ = some (.int .i64 (l.getD k 0))) := fun k hk V X => by
    obtain ⟨g, o, e, _, h⟩ := hv.at hk
    exact ⟨g, o, e, X.cell h⟩
  have RM : Hid (∀ k, (0 ≤ wsum 0 (l.take k) ∧ wsum 0 (l.take k) ≤ 41943040) ∧ 0 ≤ wall 0 (l.take k) ∧ wall 0 (l.take k) ≤ 40) := fun k => Fit.room (o := 0) ⟨by decide, l8, hs⟩ 0 k
  have NX := hid (fun k (hk : k < l.length) => (⟨wsum_next l 0 k hk, wall_next l 0 k hk⟩ : _ ∧ _))
  have GD := hid hs.getD
  obtain ⟨N, eN⟩ : ∃ N, N = l.length := ⟨_, rfl⟩
  have eS : wsum 0 l = wsum 0 (l.take N) := by rw [eN, List.take_length]
  have eA : wall 0 l = wall 0 (l.take N) := by rw [eN, List.take_length]
  rw [eS, eA]
  rw [← eN] at AT NX l8 k1 ⊢
  unfold maxLen at k2
  have WE : Hid (∀ k : Nat, k ≤ 8 → ∀ V, Calls Tryd.prog 28 #[.int .i64 (k : Int)] V fun e w' => e = .returned (.int .i64 (wt k)) ∧ Ext V w') := fun k hk V => weight_any k V (by omega)
  have ST := hid (show wsum 0 (l.take 0) + more half 0 (l.getD 0 0) = 0 ∧ wall 0 (l.take 0) + more half 0 1 = 0 by simp [wsum, wall, more])
  clear hv hs eS eA eN
  go_enter Tryd.func15, Tryd.ntmps15
  go_wp2_with fail
  go_loopw [6, 7, 8] (fun tv av iv wr => ∃ k : Nat, k ≤ N ∧ iv = .int .i64 (k : Int) ∧ tv = .int .i64 (wsum 0 (l.take k) + more half k (l.getD 0 0)) ∧ av = .int .i64 (wall 0 (l.take k) + more half k 1) ∧ Hid (Ext w wr)) (fun _ _ iv _ => (N - RowKit.intOf iv).toNat)
  case atStart => exact ⟨0, by omega, rfl, by rw [ST.out.1], by rw [ST.out.2], Ext.refl w⟩
  case round =>
    obtain ⟨k, hk, rfl, rfl, rfl, HH⟩ := hrel
    clear ST
    by_cases q : k < N
    · have i1 : (k : Int) < (N : Int) := by omega
      have i2 : (0 : Int) ≤ (k : Int) := by omega
      obtain ⟨n1, n2⟩ := NX.out k q
      rw [Nat.zero_add] at n1 n2
      obtain ⟨⟨s0, s1⟩, a0, a1⟩ := RM.out k
      obtain ⟨x0, x1⟩ := GD.out k
      obtain ⟨y0, y1⟩ := wt_room k
      have p0 : 0 ≤ wt k * l.getD k 0 := Int.mul_nonneg y0 x0
      have p1 : wt k * l.getD k 0 ≤ 5 * 1048576 := Int.mul_le_mul y1 x1 x0 (by decide)
      have WK := hid (WE.out k (by omega) wr)
      by_cases hh : half = true ∧ k = 0
      · obtain ⟨rfl, rfl⟩ := hh
        have A := AT.out 0 q
        have T1 := hid (show wsum 0 (l.take 0) + more true 0 (l.getD 0 0) = 0 ∧ wall 0 (l.take 0) + more true 0 1 = 0 by simp [wsum, wall, more])
        have FIN := hid (show wsum 0 (l.take (0 + 1)) + more true (0 + 1) (l.getD 0 0) = 10 * l.getD 0 0 ∧ wall 0 (l.take (0 + 1)) + more true (0 + 1) 1 = 10 by
          have e0 : wt 0 = 5 := rfl
          have z1 : wsum 0 (l.take 0) = 0 := by simp [wsum]
          have z2 : wall 0 (l.take 0) = 0 := by simp [wall]
          have z3 : more true (0 + 1) (l.getD 0 0) = l.getD 0 0 * 5 := by simp [more]
          have z4 : more true (0 + 1) 1 = 5 := by simp [more]
          rw [n1, n2, e0, z1, z2, z3, z4]
          constructor <;> omega)
        rw [T1.out.1, T1.out.2]
        have e0 : wt 0 = 5 := rfl
        rw [e0] at WK
        generalize l.getD 0 0 = x at *
        clear NX RM GD n1 n2 s0 s1 a0 a1 y0 y1 p0 p1 e0 T1
        have AA := hid A
        clear A AT
        go_wp2_with fail
        refine WK.out.mono ?_
        rintro e w2 ⟨rfl, x2⟩
        obtain ⟨g, o, rfl, y⟩ := AA.out w2 (HH.out.trans x2)
        rw [Nat.add_zero] at y
        have X2 := hid (HH.out.trans x2)
        clear WK AA x2
        go_wp2_with fail
        go_roundw
        case rel => exact ⟨0 + 1, by omega, by go_num, by rw [FIN.out.1], by rw [FIN.out.2], X2⟩
        case measure => simp [RowKit.intOf]; omega
      · have A := AT.out k q
        have em : ∀ x : Int, more half (k + 1) x = more half k x := fun x => by
          unfold more
          cases half
          · simp
          · have : 0 < k := by
              rcases Nat.eq_zero_or_pos k with e | e
              · exact absurd ⟨rfl, e⟩ hh
              · exact e
            simp [this]
        have m0 : 0 ≤ more half k (l.getD 0 0) ∧ more half k (l.getD 0 0) ≤ 5242880 := by
          have := GD.out 0
          unfold more
          split <;> omega
        have m1 : 0 ≤ more half k 1 ∧ more half k 1 ≤ 5 := by unfold more; split <;> omega
        have FIN : Hid (wsum 0 (l.take (k + 1)) + more half (k + 1) (l.getD 0 0) = wsum 0 (l.take k) + more half k (l.getD 0 0) + wt k * l.getD k 0 ∧ wall 0 (l.take (k + 1)) + more half (k + 1) 1 = wall 0 (l.take k) + more half k 1 + wt k) := by
          rw [n1, n2, em, em, Int.mul_comm (l.getD k 0)]
          constructor <;> omega
        have HB : half = true → ¬ (k : Int) = 0 := fun e e0 => hh ⟨e, by omega⟩
        obtain ⟨T, eT⟩ : ∃ T, T = wsum 0 (l.take k) + more half k (l.getD 0 0) := ⟨_, rfl⟩
        obtain ⟨B, eB⟩ : ∃ B, B = wall 0 (l.take k) + more half k 1 := ⟨_, rfl⟩
        have T0 : 0 ≤ T ∧ T ≤ 60000000 := by omega
        have B0 : 0 ≤ B ∧ B ≤ 100 := by omega
        obtain ⟨t0, t1⟩ := T0
        obtain ⟨b0, b1⟩ := B0
        rw [← eT, ← eB] at FIN ⊢
        obtain ⟨x, ex⟩ : ∃ x, x = l.getD k 0 := ⟨_, rfl⟩
        rw [← ex] at A FIN p0 p1 x0 x1
        obtain ⟨y, ey⟩ : ∃ y, y = wt k := ⟨_, rfl⟩
        rw [← ey] at WK FIN p0 p1 y0 y1
        have AA := hid A
        clear NX RM GD n1 n2 s0 s1 a0 a1 em m0 m1 A AT hh eT eB ex ey
        cases half
        · clear HB
          go_wp2_with fail
          refine WK.out.mono ?_
          rintro e w2 ⟨rfl, x2⟩
          obtain ⟨g, o, rfl, z⟩ := AA.out w2 (HH.out.trans x2)
          have X2 := hid (HH.out.trans x2)
          clear WK AA x2
          go_wp2_with fail
          go_roundw
          case rel => exact ⟨k + 1, by omega, by go_num, by rw [FIN.out.1], by rw [FIN.out.2], X2⟩
          case measure => simp [RowKit.intOf]; omega
        · have hb := HB rfl
          clear HB
          go_wp2_with fail
          refine WK.out.mono ?_
          rintro e w2 ⟨rfl, x2⟩
          obtain ⟨g, o, rfl, z⟩ := AA.out w2 (HH.out.trans x2)
          have X2 := hid (HH.out.trans x2)
          clear WK AA x2
          go_wp2_with fail
          go_roundw
          case rel => exact ⟨k + 1, by omega, by go_num, by rw [FIN.out.1], by rw [FIN.out.2], X2⟩
          case measure => simp [RowKit.intOf]; omega
    · obtain rfl : N = k := by omega
      clear AT NX RM GD WE
      go_wp2_with fail
      go_ret2
      exact ⟨rfl, HH.out⟩

set_option maxHeartbeats 1000000 in
theorem front_any {K : Nat → Prop} (n : Int) (v : Value) (l : List Int) (w : World) (hv : ListK K w v l) (l8 : l.length ≤ 1000) :
    Calls Tryd.prog 17 #[.int .i64 n, v] w fun e w' => ∃ v', e = .returned v' ∧ NewR one 3 1 w w' v' (n :: l) := by
  obtain ⟨ao, c, rfl, k1, k2⟩ := hv.slice
  have AT : Hid (∀ k, k < l.length → ∀ V, Ext w V → ∃ g o, ao = some ⟨g, o, none⟩ ∧ V.cell? ⟨g, o + k, none⟩ = some (.int .i64 (l.getD k 0))) := fun k hk V X => by
    obtain ⟨g, o, e, _, h⟩ := hv.at hk
    exact ⟨g, o, e, X.cell h⟩
  have TK : Hid (∀ k, k < l.length → n :: l.take (k + 1) = (n :: l.take k) ++ [l.getD k 0]) := fun k hk => by
    rw [take_next l k (l.getD k 0) (by rw [List.getD_eq_getElem?_getD, List.getElem?_eq_getElem hk]; rfl)]
    rfl
  obtain ⟨v1, w1, r1, N1, _⟩ := (NewR.nil one 3 1 w).step elemsI encI 25 n (by simp)
  have R1 := hid r1
  have NN : Hid (NewR one 3 1 w w1 v1 (n :: l.take 0)) := N1
  obtain ⟨ao1, c1, ev1, _⟩ := N1.slice
  obtain ⟨N, eN⟩ : ∃ N, N = l.length := ⟨_, rfl⟩
  have eL : n :: l = n :: l.take N := by rw [eN, List.take_length]
  rw [eL]
  rw [← eN] at AT TK l8 k1 ⊢
  unfold maxLen at k2
  simp only [List.nil_append, List.length_singleton] at ev1
  subst ev1
  clear hv r1 N1 eL eN
  go_enter Tryd.func17, Tryd.ntmps17
  go_wp2_with (at_builtin; refine wpList_append_run _ rfl (.tmp 7) (.tmp 9) 25 25 rfl _ _ rfl rfl _ _ R1.out ?_)
  clear R1
  go_loopw [5, 6] (fun ov iv wr => ∃ k : Nat, k ≤ N ∧ iv = .int .i64 (k : Int) ∧ Hid (NewR one 3 1 w wr ov (n :: l.take k))) (fun _ iv _ => (N - RowKit.intOf iv).toNat)
  case atStart => exact ⟨0, by omega, rfl, NN⟩
  case round =>
    obtain ⟨k, hk, rfl, HH⟩ := hrel
    clear NN
    by_cases q : k < N
    · have i1 : (k : Int) < (N : Int) := by omega
      have i2 : (0 : Int) ≤ (k : Int) := by omega
      obtain ⟨g, o, rfl, y⟩ := AT.out k q _ HH.out.2.2
      obtain ⟨v', w', r, N2, _⟩ := HH.out.step elemsI encI 25 (l.getD k 0) (by simp; omega)
      rw [← TK.out k q] at N2
      obtain ⟨ao3, c3, ev3, _⟩ := HH.out.slice
      have R := hid r
      have NN2 := hid N2
      obtain ⟨ao2, c2, ev2, _⟩ := N2.slice
      obtain ⟨m3, em3⟩ : ∃ m3, m3 = (n :: l.take k).length := ⟨_, rfl⟩
      obtain ⟨m2, em2⟩ : ∃ m2, m2 = (n :: l.take (k + 1)).length := ⟨_, rfl⟩
      rw [← em2] at ev2
      rw [← em3] at ev3
      subst ev2 ev3
      generalize l.getD k 0 = x at *
      clear HH r N2 AT TK em2 em3
      go_wp2_with (at_builtin; refine wpList_append_run _ rfl (.tmp 17) (.tmp 22) 25 25 rfl _ _ rfl rfl _ _ R.out ?_)
      go_roundw
      case rel => exact ⟨k + 1, by omega, by go_num, NN2⟩
      case measure => simp [RowKit.intOf]; omega
    · obtain rfl : N = k := by omega
      clear AT TK
      go_wp2_with fail
      go_ret
      exact ⟨_, rfl, HH.out⟩

set_option maxHeartbeats 1000000 in
theorem same_any {K L : Nat → Prop} (v u : Value) (l : List Int) (w : World) (hv : ListK K w v l) (hu : ListK L w u l) (l8 : l.length ≤ 1000) :
    Calls Tryd.prog 10 #[v, u] w fun e w' => e = .returned (.bool true) ∧ Ext w w' := by
  obtain ⟨ao, c, rfl, k1, k2⟩ := hv.slice
  obtain ⟨bo, d, rfl, k3, k4⟩ := hu.slice
  have AT : Hid (∀ k, k < l.length → ∀ V, Ext w V → ∃ g o h p, ao = some ⟨g, o, none⟩ ∧ bo = some ⟨h, p, none⟩ ∧ V.cell? ⟨g, o + k, none⟩ = some (.int .i64 (l.getD k 0)) ∧ V.cell? ⟨h, p + k, none⟩ = some (.int .i64 (l.getD k 0))) := fun k hk V X => by
    obtain ⟨g, o, e, _, h⟩ := hv.at hk
    obtain ⟨g', o', e', _, h'⟩ := hu.at hk
    exact ⟨g, o, g', o', e, e', X.cell h, X.cell h'⟩
  obtain ⟨N, eN⟩ : ∃ N, N = l.length := ⟨_, rfl⟩
  rw [← eN] at AT l8 k1 k3 ⊢
  unfold maxLen at k2 k4
  clear hv hu eN
  go_enter Tryd.func10, Tryd.ntmps10
  go_wp2_with fail
  go_loopw [13] (fun iv wr => ∃ k : Nat, k ≤ N ∧ iv = .int .i64 (k : Int) ∧ Hid (Ext w wr)) (fun iv _ => (N - RowKit.intOf iv).toNat)
  case atStart => exact ⟨0, by omega, rfl, Ext.refl w⟩
  case round =>
    obtain ⟨k, hk, rfl, HH⟩ := hrel
    by_cases q : k < N
    · have i1 : (k : Int) < (N : Int) := by omega
      have i2 : (0 : Int) ≤ (k : Int) := by omega
      obtain ⟨g, o, h, p, rfl, rfl, y, z⟩ := AT.out k q _ HH.out
      clear AT
      generalize l.getD k 0 = x at *
      go_wp2_with fail
      go_quiet (fail)
      go_wp2_with fail
      go_roundw
      case rel => exact ⟨k + 1, by omega, by go_num, HH.out.drewN _⟩
      case measure => simp [RowKit.intOf]; omega
    · obtain rfl : N = k := by omega
      clear AT
      go_wp2_with fail
      go_ret
      exact ⟨rfl, HH.out⟩
end Go.Proofs.YtmkcgkmaabcjoaaDoor.His

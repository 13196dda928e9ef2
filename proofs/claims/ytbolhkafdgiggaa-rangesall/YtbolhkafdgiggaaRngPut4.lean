/-
  Walks of slices.Replace ahead of the end, in place: what is put in fits where something stood, or not.
-/
import Derived.Test.YtbolhkafdgiggaaRngPut3
namespace Go.Proofs.Ytbolhkafdgiggaa
set_option linter.unusedVariables false
set_option maxRecDepth 100000
open Go.RowKit Go.Lib

set_option maxHeartbeats 4000000 in
theorem replace_fit (g n cap i j vb m vc : Nat) (l vs : Sts) (L V : List Value) (w : World) (hg : w.heap[g]? = some (.cells L.toArray 33 (0, 0))) (hL : L.length = cap * 2) (hn : l.length = n) (ht : L.take (n * 2) = gcells l)
    (hv : w.heap[vb]? = some (.cells V.toArray 33 (0, 0))) (hm : vs.length = m) (hvt : V.take (m * 2) = gcells vs) (hne : vb ≠ g) (hij : i < j) (hj : j < n) (hroom : i + m + (n - j) ≤ cap) (him : i + m ≤ j) (hnc : n ≤ cap) (hcm : cap ≤ maxLen) (hn2 : n ≤ 20000) (hm2 : m ≤ 20000) :
    Calls Try.prog 35 #[.slice (some ⟨g, 0, none⟩) n cap, .int .i64 i, .int .i64 j, .slice (some ⟨vb, 0, none⟩) m vc] w fun e w' =>
      e = .returned (.slice (some ⟨g, 0, none⟩) (i + m + (n - j)) cap) ∧ OwnG w' (.slice (some ⟨g, 0, none⟩) (i + m + (n - j)) cap) (l.take i ++ vs ++ l.drop j) ∧ w.grownBy w' (some g) := by
  have cl := gcells_length l
  have vl := gcells_length vs
  rw [hn] at cl
  rw [hm] at vl
  have hcm2 := hid hcm
  unfold maxLen at hcm
  obtain ⟨D, eD⟩ : ∃ D, D = (gcells l).drop (j * 2) := ⟨_, rfl⟩
  obtain ⟨X, eX⟩ : ∃ X, X = gcells vs := ⟨_, rfl⟩
  have dl : D.length = (n - j) * 2 := by rw [eD, List.length_drop, cl]; omega
  rw [← eX] at vl hvt
  have d1 : ∀ u ∈ D, u.oneCell' = true := fun u hu => gcells_one l u (by rw [eD] at hu; exact List.mem_of_mem_drop hu)
  have x1 : ∀ u ∈ X, u.oneCell' = true := by rw [eX]; exact gcells_one vs
  have dpre : D <+: L.drop (j * 2) := by
    rw [eD, ← ht, List.drop_take]
    exact List.take_prefix _ _
  obtain ⟨q, eq⟩ : ∃ q, q = n - j := ⟨_, rfl⟩
  rw [← eq] at hroom dl
  have qj : q + j = n := by omega
  obtain ⟨t, et⟩ : ∃ t, t = i + m + q := ⟨_, rfl⟩
  rw [← et] at hroom
  have ALL : ∀ k, ∃ (w1 w2 w3 : World), Hid ((Builtin.copy_ #[31, 31] 3 #[.slice (some ⟨g, i * 2, none⟩) (t - i) (cap - i), .slice (some ⟨vb, 0, none⟩) m vc]).run Try.prog (w.drewN k) = .ok (goInt m) w1) ∧
      Hid ((Builtin.copy_ #[31, 31] 3 #[.slice (some ⟨g, (i + m) * 2, none⟩) (t - (i + m)) (cap - (i + m)), .slice (some ⟨g, j * 2, none⟩) (n - j) (cap - j)]).run Try.prog w1.drew = .ok (goInt (q : Int)) w2) ∧
      Hid ((Builtin.clear_ #[31] 0 #[.slice (if cap = t then some ⟨g, 0, none⟩ else some ⟨g, t * 2, none⟩) (n - t) (cap - t)]).run Try.prog w2 = .ok (.tuple #[]) w3) ∧
      Hid (OwnG w3 (.slice (some ⟨g, 0, none⟩) t cap) (l.take i ++ vs ++ l.drop j) ∧ w.grownBy w3 (some g)) := by
    intro k
    have g0 : (w.drewN k).heap[g]? = some (.cells L.toArray 33 (0, 0)) := hg
    have v0 : (w.drewN k).heap[vb]? = some (.cells V.toArray 33 (0, 0)) := hv
    obtain ⟨L1, eL1⟩ : ∃ L1, L1 = splice L (i * 2) X := ⟨_, rfl⟩
    obtain ⟨L2, eL2⟩ : ∃ L2, L2 = splice L1 ((i + m) * 2) D := ⟨_, rfl⟩
    have l1 : L1.length = cap * 2 := by rw [eL1, length_splice _ _ _ (by omega), hL]
    have l2 : L2.length = cap * 2 := by rw [eL2, length_splice _ _ _ (by omega), l1]
    have e2 : L2 = gcells (l.take i ++ vs ++ l.drop j) ++ L.drop (i * 2 + m * 2 + q * 2) := by
      rw [eL2, eL1, show (i + m) * 2 = i * 2 + X.length by omega, splice_ab _ _ _ _ (by omega), vl, dl, gcells_append, gcells_append, gcells_take, gcells_drop, ← eX, ← eD, ← ht, List.take_take, Nat.min_eq_left (by omega)]
      simp only [List.append_assoc]
    obtain ⟨w1, ew1⟩ : ∃ w1, w1 = (w.drewN k).setRow g L1.toArray := ⟨_, rfl⟩
    have g1 : w1.drew.heap[g]? = some (.cells L1.toArray 33 (0, 0)) := by rw [ew1]; exact setRow_heap (w.drewN k) g _ _ _ _ g0
    obtain ⟨w2, ew2⟩ : ∃ w2, w2 = w1.drew.setRow g L2.toArray := ⟨_, rfl⟩
    have g2 : w2.heap[g]? = some (.cells L2.toArray 33 (0, 0)) := by rw [ew2]; exact setRow_heap w1.drew g _ _ _ _ g1
    have b2 : w.grownBy w2 (some g) := by
      rw [ew2, ew1]
      exact grown_then (grown_drawn (grown_from (n := k) (grown_set (w.drewN k) g _)) 1) (grown_set _ g _)
    have c1 : Hid ((Builtin.copy_ #[31, 31] 3 #[.slice (some ⟨g, i * 2, none⟩) (t - i) (cap - i), .slice (some ⟨vb, 0, none⟩) m vc]).run Try.prog (w.drewN k) = .ok (goInt m) w1) := by
      have mn : Nat.min m (t - i) = m := min_to (by omega)
      have := run_copy_wide (P := Try.prog) (w.drewN k) 31 31 3 33 2 g (i * 2) (t - i) (cap - i) ⟨vb, 0, none⟩ m vc L 33 X Try.underlying31 size_pair g0 (by rw [mn]; exact vl) (row_src v0 (by rw [List.drop_zero, ← hvt]; exact List.take_prefix _ _)) (by omega) x1
      rw [mn, ← eL1, ← ew1] at this
      exact this
    have c2 : Hid ((Builtin.copy_ #[31, 31] 3 #[.slice (some ⟨g, (i + m) * 2, none⟩) (t - (i + m)) (cap - (i + m)), .slice (some ⟨g, j * 2, none⟩) (n - j) (cap - j)]).run Try.prog w1.drew = .ok (goInt (q : Int)) w2) := by
      have mn : Nat.min (n - j) (t - (i + m)) = q := min_to (by omega)
      have dpre1 : D <+: L1.drop (j * 2) := by
        have : L1.drop (j * 2) = L.drop (j * 2) := by
          rw [eL1]
          unfold splice
          rw [← List.append_assoc, List.drop_append, List.drop_eq_nil_of_le (by simp; omega), List.nil_append, List.drop_drop]
          congr 1
          simp
          omega
        rw [this]; exact dpre
      have := run_copy_wide (P := Try.prog) w1.drew 31 31 3 33 2 g ((i + m) * 2) (t - (i + m)) (cap - (i + m)) ⟨g, j * 2, none⟩ (n - j) (cap - j) L1 33 D Try.underlying31 size_pair g1 (by rw [mn]; exact dl) (row_src g1 dpre1) (by omega) d1
      rw [mn, ← eL2, ← ew2] at this
      exact this
    have tl : (gcells (l.take i ++ vs ++ l.drop j)).length = t * 2 := by rw [gcells_length]; simp; omega
    by_cases hq : t < n
    · obtain ⟨zs, zl, cr⟩ := run_clear_pairs w2 g (t * 2) (n - t) (cap - t) L2 0 g2 (by omega) (by omega)
      refine ⟨w1, w2, _, c1, c2, by rw [if_neg (by omega)]; exact cr, ?_, grown_then b2 (grown_set _ g _)⟩
      have e3 : splice L2 (t * 2) zs = gcells (l.take i ++ vs ++ l.drop j) ++ (zs ++ L2.drop (t * 2 + zs.length)) := by
        unfold splice
        conv => lhs; lhs; rw [e2]
        rw [← tl, List.take_left]
      exact own_of_row (by simp; omega) (by rw [← e3]; exact setRow_heap _ _ _ _ _ _ g2) hroom hcm2.out (by rw [← e3, length_splice _ _ _ (by omega), l2])
    · refine ⟨w1, w2, w2, c1, c2, ?_, ?_, b2⟩
      · rw [show n - t = 0 by omega]
        exact run_clear_none w2 _ _ _
      · exact own_of_row (by simp; omega) (by rw [← e2]; exact g2) hroom hcm2.out (by rw [← e2, l2])
  clear hg ht hv hvt cl eD eX dl vl d1 x1 dpre hn hm hL
  have z1 : ¬ ((i : Int) = (j : Int)) := by omega
  have z2 : (0 : Int) ≤ (i : Int) := by omega
  have z3 : (i : Int) ≤ (j : Int) := by omega
  have z4 : (j : Int) ≤ (cap : Int) := by omega
  have z5 : (0 : Int) ≤ (j : Int) := by omega
  have z6 : (j : Int) ≤ (n : Int) := by omega
  have z7 : ¬ ((j : Int) = (n : Int)) := by omega
  have z8 : ¬ (cap = i) := by omega
  have z9 : ¬ (cap = j) := by omega
  have y1 : (i : Int) ≤ (cap : Int) := by omega
  have y2 : IntKind.i64.wrap ((i : Int) + (m : Int)) = (i : Int) + (m : Int) := IntWalk.i64_in _ (by omega)
  have y3 : (i : Int) + (m : Int) + ((n - j : Nat) : Int) = (t : Int) := by omega
  have y5 : decide ((cap : Int) < (t : Int)) = false := by simp; omega
  have y6 : ((i : Int) + (m : Int)).toNat = i + m := by omega
  have y7 : (0 : Int) ≤ (i : Int) + (m : Int) := by omega
  have y8 : (i : Int) + (m : Int) ≤ (t : Int) := by omega
  have y9 : (i : Int) ≤ (t : Int) := by omega
  have u1 : (0 : Int) ≤ (t : Int) := by omega
  have u2 : (t : Int) ≤ (cap : Int) := by omega
  have t1 : t ≤ 40000 := by omega
  have t2 : i + m ≤ t := by omega
  have t3 : i < t := by omega
  have t4 : i + m < t := by omega
  have v1 : ¬ (cap = i + m) := by omega
  have AA := hid ALL
  clear ALL
  have u3 : (t : Int) ≤ (n : Int) := by omega
  rw [← eq, ← et]
  have v2 : (i : Int) + (m : Int) ≤ (j : Int) := by omega
  clear eq et qj
  obtain ⟨ao, eao⟩ : ∃ ao : Option Addr, ao = if cap = t then some ⟨g, 0, none⟩ else some ⟨g, t * 2, none⟩ := ⟨_, rfl⟩
  rw [← eao] at AA
  by_cases z : cap = t
  · rw [if_pos z] at eao
    subst eao
    obtain rfl : n = cap := by omega
    obtain rfl : t = n := by omega
    clear z
    go_enter Try.func35, Try.ntmps35
    go_wp2
    go_quiet (fail)
    obtain ⟨w1, w2, w3, c1, c2, c3, R⟩ := AA.out nq
    clear AA
    simp only [Nat.sub_self] at c3
    go_wp2_with (refine wpList_copy_known rfl (.tmp 95) (.tmp 96) 31 31 rfl _ _ _ _ rfl rfl c1.out ?_)
    go_region_law (refine step_copy_known rfl (.tmp 103) (.tmp 106) 31 31 rfl _ _ _ _ (by simp [Act.eval, Act.put]) (by simp [Act.eval, Act.put]) c2.out ?_)
    go_wp2_with (refine wpList_clear_known rfl (.tmp 110) 31 rfl _ _ _ rfl c3.out ?_)
    go_ret
    exact ⟨rfl, R⟩
  · rw [if_neg z] at eao
    subst eao
    go_enter Try.func35, Try.ntmps35
    go_wp2
    go_quiet (fail)
    obtain ⟨w1, w2, w3, c1, c2, c3, R⟩ := AA.out nq
    clear AA
    go_wp2_with (refine wpList_copy_known rfl (.tmp 95) (.tmp 96) 31 31 rfl _ _ _ _ rfl rfl c1.out ?_)
    go_region_law (refine step_copy_known rfl (.tmp 103) (.tmp 106) 31 31 rfl _ _ _ _ (by simp [Act.eval, Act.put]) (by simp [Act.eval, Act.put]) c2.out ?_)
    go_wp2_with (refine wpList_clear_known rfl (.tmp 110) 31 rfl _ _ _ rfl c3.out ?_)
    go_ret
    exact ⟨rfl, R⟩
end Go.Proofs.Ytbolhkafdgiggaa

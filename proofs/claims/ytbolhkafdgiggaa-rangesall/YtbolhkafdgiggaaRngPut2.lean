/-
  Walks of slices.Replace ahead of the end; slices.Replace, whole.
-/
import Derived.Test.YtbolhkafdgiggaaRngPut
namespace Go.Proofs.Ytbolhkafdgiggaa
set_option linter.unusedVariables false
set_option maxRecDepth 100000
open Go.RowKit Go.Lib

set_option maxHeartbeats 4000000 in
/-- ahead of the end, there is no room -/
theorem replace_grow (g n cap i j vb m vc : Nat) (l vs : Sts) (L V : List Value) (w : World) (hg : w.heap[g]? = some (.cells L.toArray 33 (0, 0))) (hn : l.length = n) (ht : L.take (n * 2) = gcells l)
    (hv : w.heap[vb]? = some (.cells V.toArray 33 (0, 0))) (hm : vs.length = m) (hvt : V.take (m * 2) = gcells vs) (hij : i < j) (hj : j < n) (hroom : cap < i + m + (n - j)) (hnc : n ≤ cap) (hn2 : n ≤ 20000) (hm2 : m ≤ 20000) :
    Calls Try.prog 35 #[.slice (some ⟨g, 0, none⟩) n cap, .int .i64 i, .int .i64 j, .slice (some ⟨vb, 0, none⟩) m vc] w fun e w' =>
      ∃ c', e = .returned (.slice (some ⟨w.heap.size, 0, none⟩) (i + m + (n - j)) c') ∧ OwnG w' (.slice (some ⟨w.heap.size, 0, none⟩) (i + m + (n - j)) c') (l.take i ++ vs ++ l.drop j) ∧ w.grownBy w' (some g) := by
  have cl := gcells_length l
  have vl := gcells_length vs
  rw [hn] at cl
  rw [hm] at vl
  obtain ⟨D, eD⟩ : ∃ D, D = (gcells l).drop (j * 2) := ⟨_, rfl⟩
  obtain ⟨X, eX⟩ : ∃ X, X = gcells vs := ⟨_, rfl⟩
  obtain ⟨A, eA⟩ : ∃ A, A = (gcells l).take (i * 2) := ⟨_, rfl⟩
  have al : A.length = i * 2 := by rw [eA, List.length_take, cl]; omega
  have dl : D.length = (n - j) * 2 := by rw [eD, List.length_drop, cl]; omega
  rw [← eX] at vl hvt
  have d1 : ∀ u ∈ D, u.oneCell' = true := fun u hu => gcells_one l u (by rw [eD] at hu; exact List.mem_of_mem_drop hu)
  have x1 : ∀ u ∈ X, u.oneCell' = true := by rw [eX]; exact gcells_one vs
  have apre : A <+: L := by rw [eA, ← ht, List.take_take]; exact List.take_prefix _ _
  have dpre : D <+: L.drop (j * 2) := by
    rw [eD, ← ht, List.drop_take]
    exact List.take_prefix _ _
  obtain ⟨q, eq⟩ : ∃ q, q = n - j := ⟨_, rfl⟩
  rw [← eq] at hroom dl
  have qj : q + j = n := by omega
  obtain ⟨t, et⟩ : ∃ t, t = i + m + q := ⟨_, rfl⟩
  rw [← et] at hroom
  have ap : ∀ k, Hid ((Builtin.append_ #[31, 3] 31 #[.slice (some ⟨g, 0, none⟩) i cap, .int .i64 ((m + q : Nat) : Int)]).run Try.prog (w.drewN k) = .ok (.slice (some ⟨w.heap.size, 0, none⟩) t (grownCap (w.drewN k) t cap 33)) ((w.drewN k).drew.alloc (.cells (zrow (w.drewN k) A (m + q) t cap).toArray 33))) :=
    fun k => append_zeros (w.drewN k) g i cap (m + q) t L A 31 hg al apre (by omega) (by omega) hroom (by omega)
  have ALL : ∀ k, ∃ (Z : List Value) (C : Nat) (w1 w2 : World) (L1 L2 : List Value), t ≤ C ∧ C ≤ maxLen ∧ Hid ((Builtin.append_ #[31, 3] 31 #[.slice (some ⟨g, 0, none⟩) i cap, .int .i64 ((m + q : Nat) : Int)]).run Try.prog (w.drewN k) = .ok (.slice (some ⟨w.heap.size, 0, none⟩) t C) w1) ∧
      Hid ((Builtin.copy_ #[31, 31] 3 #[.slice (some ⟨w.heap.size, i * 2, none⟩) (t - i) (C - i), .slice (some ⟨vb, 0, none⟩) m vc]).run Try.prog w1 = .ok (goInt m) w2) ∧
      Hid ((Builtin.copy_ #[31, 31] 3 #[.slice (some ⟨w.heap.size, (i + m) * 2, none⟩) (t - (i + m)) (C - (i + m)), .slice (some ⟨g, j * 2, none⟩) (n - j) (cap - j)]).run Try.prog w2.drew = .ok (goInt (q : Int)) (w2.drew.setRow w.heap.size L2.toArray)) ∧
      Hid (OwnG (w2.drew.setRow w.heap.size L2.toArray) (.slice (some ⟨w.heap.size, 0, none⟩) t C) (l.take i ++ vs ++ l.drop j) ∧ w.grownBy (w2.drew.setRow w.heap.size L2.toArray) (some g)) := by
    intro k
    have zl := zrow_length (w.drewN k) A i (m + q) t cap al (by omega)
    have zt := zrow_take (w.drewN k) A (i * 2) (m + q) t cap al
    have cge := grownCap_ge (w.drewN k) t cap 33
    have cle := grownCap_le_maxLen (w.drewN k) t cap 33 (by unfold maxLen; omega)
    have ap := ap k
    generalize zrow (w.drewN k) A (m + q) t cap = Z at *
    generalize grownCap (w.drewN k) t cap 33 = C at *
    obtain ⟨h, eh⟩ : ∃ h, h = w.heap.size := ⟨_, rfl⟩
    obtain ⟨w1, ew1⟩ : ∃ w1, w1 = (w.drewN k).drew.alloc (.cells Z.toArray 33) := ⟨_, rfl⟩
    rw [← ew1] at ap
    rw [← eh] at ap ⊢
    have X1 : Ext w w1 := by rw [ew1]; exact ((Ext.refl w).drewN (k + 1)).alloc _
    have hgl := lt_of_row hg
    have hvl := lt_of_row hv
    have g1 : w1.heap[h]? = some (.cells Z.toArray 33 (0, 0)) := by rw [ew1, eh]; exact heap_alloc_new (w.drewN k).drew _
    have s1 := X1.row hg
    have v1 := X1.row hv
    obtain ⟨L1, eL1⟩ : ∃ L1, L1 = splice Z (i * 2) X := ⟨_, rfl⟩
    obtain ⟨L2, eL2⟩ : ∃ L2, L2 = splice L1 ((i + m) * 2) D := ⟨_, rfl⟩
    have l1 : L1.length = C * 2 := by rw [eL1, length_splice _ _ _ (by omega), zl]
    have e2 : L2 = gcells (l.take i ++ vs ++ l.drop j) ++ Z.drop (i * 2 + m * 2 + q * 2) := by
      rw [eL2, eL1, show (i + m) * 2 = i * 2 + X.length by omega, splice_ab _ _ _ _ (by omega), vl, dl, gcells_append, gcells_append, gcells_take, gcells_drop, ← eX, ← eD, ← eA, zt]
      simp only [List.append_assoc]
    obtain ⟨w2, ew2⟩ : ∃ w2, w2 = w1.setRow h L1.toArray := ⟨_, rfl⟩
    have cp1 : Hid ((Builtin.copy_ #[31, 31] 3 #[.slice (some ⟨h, i * 2, none⟩) (t - i) (C - i), .slice (some ⟨vb, 0, none⟩) m vc]).run Try.prog w1 = .ok (goInt m) w2) := by
      have mn : Nat.min m (t - i) = m := min_to (by omega)
      have := run_copy_wide (P := Try.prog) w1 31 31 3 33 2 h (i * 2) (t - i) (C - i) ⟨vb, 0, none⟩ m vc Z 33 X Try.underlying31 size_pair g1 (by rw [mn]; exact vl) (row_src v1 (by rw [List.drop_zero, ← hvt]; exact List.take_prefix _ _)) (by omega) x1
      rw [mn, ← eL1, ← ew2] at this
      exact this
    have g2 : w2.drew.heap[h]? = some (.cells L1.toArray 33 (0, 0)) := by rw [ew2]; exact setRow_heap w1 h _ _ _ _ g1
    have s2 : w2.drew.heap[g]? = some (.cells L.toArray 33 (0, 0)) := by
      rw [ew2]
      exact (setRow_other w1 h g _ (by omega)).trans s1
    refine ⟨Z, C, w1, w2, L1, L2, cge, cle, ap, cp1, ?_, ?_⟩
    · have mn : Nat.min (n - j) (t - (i + m)) = q := min_to (by omega)
      have := run_copy_wide (P := Try.prog) w2.drew 31 31 3 33 2 h ((i + m) * 2) (t - (i + m)) (C - (i + m)) ⟨g, j * 2, none⟩ (n - j) (cap - j) L1 33 D Try.underlying31 size_pair g2 (by rw [mn]; exact dl) (row_src s2 dpre) (by omega) d1
      rw [mn, ← eL2] at this
      exact this
    · refine ⟨own_of_row (by simp; omega) (by rw [← e2]; exact setRow_heap _ _ _ _ _ _ g2) cge cle (by rw [← e2, eL2, length_splice _ _ _ (by omega), l1]), ?_⟩
      have Y : Ext w (w2.drew.setRow h L2.toArray) := by
        rw [ew2]
        exact ((X1.setRow (by omega) _).drewN 1).setRow (by omega) _
      exact ⟨Below.os Y, Below.tape Y, Below.output Y, Below.size Y, fun k hk _ => Below.block Y k hk⟩
  clear hg ht hv hvt cl eD eX eA al apre dl vl d1 x1 dpre hn hm ap
  have AA := hid ALL
  clear ALL
  have z1 : ¬ ((i : Int) = (j : Int)) := by omega
  have z2 : (0 : Int) ≤ (i : Int) := by omega
  have z3 : (i : Int) ≤ (j : Int) := by omega
  have z4 : (j : Int) ≤ (cap : Int) := by omega
  have z5 : (0 : Int) ≤ (j : Int) := by omega
  have z6 : (j : Int) ≤ (n : Int) := by omega
  have z7 : ¬ ((j : Int) = (n : Int)) := by omega
  have z8 : ¬ (cap = i) := by omega
  have z9 : ¬ (cap = j) := by omega
  have y1 : (i : Int) ≤ (cap : Int) := by omega
  have y2 : IntKind.i64.wrap ((i : Int) + (m : Int)) = (i : Int) + (m : Int) := IntWalk.i64_in _ (by omega)
  have y3 : (i : Int) + (m : Int) + ((n - j : Nat) : Int) = (t : Int) := by omega
  have y4 : (t : Int) - (i : Int) = ((m + q : Nat) : Int) := by omega
  have y5 : (cap : Int) < (t : Int) := by omega
  have y6 : ((i : Int) + (m : Int)).toNat = i + m := by omega
  have y7 : (0 : Int) ≤ (i : Int) + (m : Int) := by omega
  have y8 : (i : Int) + (m : Int) ≤ (t : Int) := by omega
  have y9 : (i : Int) ≤ (t : Int) := by omega
  have t1 : t ≤ 40000 := by omega
  have t2 : i + m ≤ t := by omega
  have t3 : i < t := by omega
  have t4 : i + m < t := by omega
  rw [← eq, ← et]
  clear eq et qj
  go_enter Try.func35, Try.ntmps35
  go_wp2
  go_quiet (fail)
  obtain ⟨Z, C, w1, w2, L1, L2, c1, c2, ap, cp1, cp2, R⟩ := AA.out nq
  have x1 : ¬ (C = i) := by omega
  have x2 : ¬ (C = i + m) := by omega
  unfold maxLen at c2
  clear AA
  go_wp2_with (first
    | (refine wpList_append_run _ rfl (.tmp 63) (.tmp 66) 31 3 rfl _ _ rfl rfl _ _ ap.out ?_)
    | (refine wpList_copy_known rfl (.tmp 70) (.tmp 71) 31 31 rfl _ _ _ _ rfl rfl cp1.out ?_))
  go_region_law (refine step_copy_known rfl (.tmp 78) (.tmp 81) 31 31 rfl _ _ _ _ (by simp [Act.eval, Act.put]) (by simp [Act.eval, Act.put]) cp2.out ?_)
  go_wp2
  go_ret
  exact ⟨C, rfl, R⟩
end Go.Proofs.Ytbolhkafdgiggaa

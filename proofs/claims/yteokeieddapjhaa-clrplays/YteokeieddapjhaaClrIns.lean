/-
  slices.Insert and slices.Clone at rows of reports. (Printed out of PipIns by wip/gen/clrrow.py.)
-/
import Derived.Test.YteokeieddapjhaaClrRow
import Derived.Lib.BufferMore
namespace Go.Proofs.Yteokeieddapjhaa.Clr
set_option linter.unusedVariables false
set_option maxRecDepth 100000
open Go.RowKit Go.Lib

/-- slices.overlaps of two blocks -/
theorem overlaps_no (w : World) (g vb o p la ca lb cb : Nat) (L V : List Value) (hne : vb ≠ g) (hg : w.heap[g]? = some (.cells L.toArray 43 (0, 0))) (hv : w.heap[vb]? = some (.cells V.toArray 43 (0, 0))) (hL : L.length ≠ 0) :
    (callFunc 40 #[.slice (some ⟨vb, o, none⟩) la ca, .slice (some ⟨g, p, none⟩) lb cb]).run Try.prog w = .ok (.value (.bool false)) w := by
  rw [run_callFunc_extern Try.func40 (by kernel_rfl) (by kernel_rfl) (by kernel_rfl) (e := Extern.SlicesOverlaps.overlaps #[52, 52] #[4]) (by kernel_rfl),
    Lib.run_overlaps_apart w 52 4 43 Try.underlying52 3 Try.sizeOf43 ⟨vb, o, none⟩ ⟨g, p, none⟩ la ca lb cb hne 43 43 V.length L.length (by simp [World.shape?, hv]) (by simp [World.shape?, hg]) hL (by simp [World.frozen?, hv]) (by simp [World.frozen?, hv])]
  rfl

set_option maxHeartbeats 2000000 in
/-- Insert, there is room, ahead of the end -/
theorem insert_shift (g n cap i vb m vc : Nat) (l vs : List Rep) (L V : List Value) (w : World) (hg : w.heap[g]? = some (.cells L.toArray 43 (0, 0))) (hL : L.length = cap * 3) (hn : l.length = n) (ht : L.take (n * 3) = rcells l)
    (hv : w.heap[vb]? = some (.cells V.toArray 43 (0, 0))) (hm : vs.length = m) (hvt : V.take (m * 3) = rcells vs) (hne : vb ≠ g) (hi : i < n) (hm0 : 0 < m) (hroom : n + m ≤ cap) (hcm : cap ≤ maxLen) :
    Calls Try.prog 35 #[.slice (some ⟨g, 0, none⟩) n cap, .int .i64 i, .slice (some ⟨vb, 0, none⟩) m vc] w fun e w' =>
      e = .returned (.slice (some ⟨g, 0, none⟩) (n + m) cap) ∧ OwnR w' (.slice (some ⟨g, 0, none⟩) (n + m) cap) (l.take i ++ vs ++ l.drop i) ∧ w.grownBy w' (some g) := by
  have cl := rcells_length l
  have vl := rcells_length vs
  rw [hn] at cl
  rw [hm] at vl
  have hcm2 := hid hcm
  unfold maxLen at hcm
  obtain ⟨D, eD⟩ : ∃ D, D = (rcells l).drop (i * 3) := ⟨_, rfl⟩
  obtain ⟨X, eX⟩ : ∃ X, X = rcells vs := ⟨_, rfl⟩
  have dl : D.length = (n - i) * 3 := by rw [eD, List.length_drop, cl]; omega
  rw [← eX] at vl hvt
  have d1 : ∀ u ∈ D, u.oneCell' = true := fun u hu => rcells_one l u (by rw [eD] at hu; exact List.mem_of_mem_drop hu)
  have x1 : ∀ u ∈ X, u.oneCell' = true := by rw [eX]; exact rcells_one vs
  obtain ⟨L1, eL1⟩ : ∃ L1, L1 = splice L ((i + m) * 3) D := ⟨_, rfl⟩
  obtain ⟨L2, eL2⟩ : ∃ L2, L2 = splice L1 (i * 3) X := ⟨_, rfl⟩
  have l1 : L1.length = cap * 3 := by rw [eL1, length_splice _ _ _ (by omega), hL]
  have e2 : L2 = rcells (l.take i ++ vs ++ l.drop i) ++ L.drop (i * 3 + m * 3 + (n - i) * 3) := by
    rw [eL2, eL1, show (i + m) * 3 = i * 3 + X.length by omega, splice_ba _ _ _ _ (by omega), vl, dl, rcells_append, rcells_append, rcells_take, rcells_drop, ← eX, ← eD, ← ht, List.take_take, Nat.min_eq_left (by omega)]
    simp only [List.append_assoc]
  have dpre : D <+: L.drop (i * 3) := by
    rw [eD, ← ht, List.drop_take]
    exact List.take_prefix _ _
  have g0 : w.drew.heap[g]? = some (.cells L.toArray 43 (0, 0)) := hg
  have cp1 : ∀ ty dc sc, Hid ((Builtin.copy_ #[52, 52] ty #[.slice (some ⟨g, (i + m) * 3, none⟩) (n + m - (i + m)) dc, .slice (some ⟨g, i * 3, none⟩) (n + m - i) sc]).run Try.prog w.drew = .ok (goInt ((n - i : Nat) : Int)) (w.drew.setRow g L1.toArray)) := by
    intro ty dc sc
    have mn : Nat.min (n + m - i) (n + m - (i + m)) = n - i := min_to (by omega)
    have := run_copy_wide (P := Try.prog) w.drew 52 52 ty 43 3 g ((i + m) * 3) (n + m - (i + m)) dc ⟨g, i * 3, none⟩ (n + m - i) sc L 43 D Try.underlying52 size_rep g0 (by rw [mn]; exact dl) (row_src g0 dpre) (by omega) d1
    rw [mn, ← eL1] at this
    exact this
  obtain ⟨w1, ew1⟩ : ∃ w1, w1 = w.drew.setRow g L1.toArray := ⟨_, rfl⟩
  have g1 : w1.heap[g]? = some (.cells L1.toArray 43 (0, 0)) := by rw [ew1]; exact setRow_heap w.drew g _ _ _ _ g0
  have v1 : w1.heap[vb]? = some (.cells V.toArray 43 (0, 0)) := by rw [ew1, setRow_other _ _ _ _ hne]; exact hv
  have cp2 : ∀ ty dc, Hid ((Builtin.copy_ #[52, 52] ty #[.slice (some ⟨g, i * 3, none⟩) (n + m - i) dc, .slice (some ⟨vb, 0, none⟩) m vc]).run Try.prog w1 = .ok (goInt m) (w1.setRow g L2.toArray)) := by
    intro ty dc
    have mn : Nat.min m (n + m - i) = m := min_to (by omega)
    have := run_copy_wide (P := Try.prog) w1 52 52 ty 43 3 g (i * 3) (n + m - i) dc ⟨vb, 0, none⟩ m vc L1 43 X Try.underlying52 size_rep g1 (by rw [mn]; exact vl) (row_src v1 (by rw [List.drop_zero, ← hvt]; exact List.take_prefix _ _)) (by omega) x1
    rw [mn, ← eL2] at this
    exact this
  have ov : ∀ lb cb, (callFunc 40 #[.slice (some ⟨vb, 0, none⟩) m vc, .slice (some ⟨g, (i + m) * 3, none⟩) lb cb]).run Try.prog w = .ok (.value (.bool false)) w := fun lb cb => overlaps_no w g vb 0 _ m vc lb cb L V hne hg hv (by omega)
  have OV := hid ov
  have R : Hid (OwnR (w1.setRow g L2.toArray) (.slice (some ⟨g, 0, none⟩) (n + m) cap) (l.take i ++ vs ++ l.drop i) ∧ w.grownBy (w1.setRow g L2.toArray) (some g)) := by
    refine ⟨own_of_row (by simp; omega) (by rw [← e2]; exact setRow_heap _ _ _ _ _ _ g1) hroom hcm2.out (by rw [← e2, eL2, length_splice _ _ _ (by omega), l1]), ?_⟩
    refine grown_then ?_ (grown_set w1 g _)
    rw [ew1]
    exact grown_from (n := 1) (grown_set (w.drewN 1) g _)
  rw [← ew1] at cp1
  clear ov hg hL ht hv hvt hne cl eD eX dl vl d1 x1 eL1 eL2 l1 e2 dpre g0 ew1 g1 v1 hn hm
  have z1 : ¬ ((m : Int) = 0) := by omega
  have z2 : ¬ ((i : Int) = (n : Int)) := by omega
  have z3 : ¬ (cap = i + m) := by omega
  have z4 : ¬ (cap = i) := by omega
  have z5 : (0 : Int) ≤ (i : Int) := by omega
  have z6 : (i : Int) ≤ (n : Int) := by omega
  have z7 : (i : Int) ≤ (n : Int) + (m : Int) := by omega
  have z8 : (0 : Int) ≤ (i : Int) + (m : Int) := by omega
  have z9 : (i : Int) + (m : Int) ≤ (n : Int) + (m : Int) := by omega
  have y1 : (n : Int) + (m : Int) ≤ (cap : Int) := by omega
  have y2 : (0 : Int) ≤ (n : Int) + (m : Int) := by omega
  have y3 : ((i : Int) + (m : Int)).toNat = i + m := by omega
  have y4 : ((n : Int) + (m : Int)).toNat = n + m := by omega
  have y8 : IntKind.i64.wrap ((i : Int) + (m : Int)) = (i : Int) + (m : Int) := IntWalk.i64_in _ (by omega)
  go_enter Try.func35, Try.ntmps35
  go_wp2_with (simp only [OV.out])
  go_region_law (refine step_copy_known rfl (.tmp 73) (.tmp 76) 52 52 rfl _ _ _ _ (by simp [Act.eval, Act.put]) (by simp [Act.eval, Act.put]) (cp1 3 (cap - (i + m)) (cap - i)).out ?_)
  go_wp2_with (refine wpList_copy_known rfl (.tmp 80) (.tmp 81) 52 52 rfl _ _ _ _ rfl rfl (cp2 _ _).out ?_)
  go_ret
  exact ⟨rfl, R⟩

/-- the row that an append of noughts makes -/
def zrow (w : World) (A : List Value) (z need cap : Nat) : List Value := A ++ (Builtin.zeroCells #[.int .i64 0, .int .i64 0, .int .u64 0] z).toList ++ (Builtin.zeroCells #[.int .i64 0, .int .i64 0, .int .u64 0] (grownCap w need cap 43 - need)).toList
theorem zrow_length (w : World) (A : List Value) (k z need cap : Nat) (hA : A.length = k * 3) (hn : k + z = need) : (zrow w A z need cap).length = grownCap w need cap 43 * 3 := by
  have := grownCap_ge w need cap 43
  unfold zrow
  have e : ∀ q, (Builtin.zeroCells #[Value.int .i64 0, Value.int .i64 0, Value.int .u64 0] q).toList.length = q * 3 := fun q => by rw [Array.length_toList, size_zeroCells]; rfl
  rw [List.length_append, List.length_append, e, e, hA]
  omega
theorem zrow_take (w : World) (A : List Value) (k z need cap : Nat) (hA : A.length = k) : (zrow w A z need cap).take k = A := by
  unfold zrow
  rw [List.append_assoc, ← hA]
  exact List.take_left

set_option maxHeartbeats 400000 in
theorem append_zeros (w : World) (g i cap z need : Nat) (L A : List Value) (ty : TypeId) (hg : w.heap[g]? = some (.cells L.toArray 43 (0, 0))) (hA : A.length = i * 3) (hp : A <+: L) (hn : i + z = need) (hz : 0 < z) (hcap : cap < need) (hb : need ≤ 100000) :
    (Builtin.append_ #[52, 3] ty #[.slice (some ⟨g, 0, none⟩) i cap, .int .i64 (z : Int)]).run Try.prog w = .ok (.slice (some ⟨w.heap.size, 0, none⟩) need (grownCap w need cap 43)) (w.drew.alloc (.cells (zrow w A z need cap).toArray 43)) := by
  obtain ⟨i0, hi, hz0, hz1, hz2⟩ := info_parts info_rep
  subst hn
  have := run_append_zeros (P := Try.prog) w 52 3 ty 43 i0 (.agg #[.int .i64 0, .int .i64 0, .int .u64 0]) .i64 .i64 Try.underlying52 Try.underlying3 hi hz0 ⟨g, 0, none⟩ i cap A (by rw [hz1]; exact hA) (row_src hg (by rwa [List.drop_zero])) z hz (by rw [hz1]; decide) hcap (by omega) (by rw [hz2]; omega) (growslice_fits hcap (by rw [hz2]; omega))
  rw [this]
  congr 3
  apply Array.ext'
  simp [zrow, Value.cells]

set_option maxHeartbeats 2000000 in
/-- Insert, there is no room, ahead of the end -/
theorem insert_grow (g n cap i vb m vc : Nat) (l vs : List Rep) (L V : List Value) (w : World) (hg : w.heap[g]? = some (.cells L.toArray 43 (0, 0))) (hn : l.length = n) (ht : L.take (n * 3) = rcells l)
    (hv : w.heap[vb]? = some (.cells V.toArray 43 (0, 0))) (hm : vs.length = m) (hvt : V.take (m * 3) = rcells vs) (hi : i < n) (hm0 : 0 < m) (hroom : cap < n + m) (hnc : n ≤ cap) (hn2 : n ≤ 10000) (hm2 : m ≤ 10000) :
    Calls Try.prog 35 #[.slice (some ⟨g, 0, none⟩) n cap, .int .i64 i, .slice (some ⟨vb, 0, none⟩) m vc] w fun e w' =>
      ∃ c', e = .returned (.slice (some ⟨w.heap.size, 0, none⟩) (n + m) c') ∧ OwnR w' (.slice (some ⟨w.heap.size, 0, none⟩) (n + m) c') (l.take i ++ vs ++ l.drop i) ∧ w.grownBy w' (some g) := by
  have cl := rcells_length l
  have vl := rcells_length vs
  rw [hn] at cl
  rw [hm] at vl
  obtain ⟨D, eD⟩ : ∃ D, D = (rcells l).drop (i * 3) := ⟨_, rfl⟩
  obtain ⟨X, eX⟩ : ∃ X, X = rcells vs := ⟨_, rfl⟩
  obtain ⟨A, eA⟩ : ∃ A, A = (rcells l).take (i * 3) := ⟨_, rfl⟩
  have al : A.length = i * 3 := by rw [eA, List.length_take, cl]; omega
  have dl : D.length = (n - i) * 3 := by rw [eD, List.length_drop, cl]; omega
  rw [← eX] at vl hvt
  have d1 : ∀ u ∈ D, u.oneCell' = true := fun u hu => rcells_one l u (by rw [eD] at hu; exact List.mem_of_mem_drop hu)
  have x1 : ∀ u ∈ X, u.oneCell' = true := by rw [eX]; exact rcells_one vs
  have apre : A <+: L := by rw [eA, ← ht, List.take_take]; exact List.take_prefix _ _
  have dpre : D <+: L.drop (i * 3) := by
    rw [eD, ← ht, List.drop_take]
    exact List.take_prefix _ _
  have ap := hid (append_zeros w g i cap (n + m - i) (n + m) L A 52 hg al apre (by omega) (by omega) hroom (by omega))
  have zl := zrow_length w A i (n + m - i) (n + m) cap al (by omega)
  have zt := zrow_take w A (i * 3) (n + m - i) (n + m) cap al
  have cge := grownCap_ge w (n + m) cap 43
  have cle := grownCap_le_maxLen w (n + m) cap 43 (by unfold maxLen; omega)
  obtain ⟨Z, eZ⟩ : ∃ Z, Z = zrow w A (n + m - i) (n + m) cap := ⟨_, rfl⟩
  obtain ⟨C, eC⟩ : ∃ C, C = grownCap w (n + m) cap 43 := ⟨_, rfl⟩
  rw [← eZ, ← eC] at ap
  rw [← eZ, ← eC] at zl
  rw [← eZ] at zt
  rw [← eC] at cge cle
  clear eZ eC
  obtain ⟨h, eh⟩ : ∃ h, h = w.heap.size := ⟨_, rfl⟩
  obtain ⟨w1, ew1⟩ : ∃ w1, w1 = w.drew.alloc (.cells Z.toArray 43) := ⟨_, rfl⟩
  rw [← ew1, ← eh] at ap
  have X1 : Ext w w1 := by rw [ew1]; exact ((Ext.refl w).drewN 1).alloc _
  have hgl := lt_of_row hg
  have hvl := lt_of_row hv
  have g1 : w1.heap[h]? = some (.cells Z.toArray 43 (0, 0)) := by rw [ew1, eh]; exact heap_alloc_new w.drew _
  have s1 := X1.row hg
  have v1 := X1.row hv
  obtain ⟨L1, eL1⟩ : ∃ L1, L1 = splice Z (i * 3) X := ⟨_, rfl⟩
  obtain ⟨L2, eL2⟩ : ∃ L2, L2 = splice L1 ((i + m) * 3) D := ⟨_, rfl⟩
  have l1 : L1.length = C * 3 := by rw [eL1, length_splice _ _ _ (by omega), zl]
  have e2 : L2 = rcells (l.take i ++ vs ++ l.drop i) ++ Z.drop (i * 3 + m * 3 + (n - i) * 3) := by
    rw [eL2, eL1, show (i + m) * 3 = i * 3 + X.length by omega, splice_ab _ _ _ _ (by omega), vl, dl, rcells_append, rcells_append, rcells_take, rcells_drop, ← eX, ← eD, ← eA, zt]
    simp only [List.append_assoc]
  have cp1 : ∀ ty dc, Hid ((Builtin.copy_ #[52, 52] ty #[.slice (some ⟨h, i * 3, none⟩) (n + m - i) dc, .slice (some ⟨vb, 0, none⟩) m vc]).run Try.prog w1 = .ok (goInt m) (w1.setRow h L1.toArray)) := by
    intro ty dc
    have mn : Nat.min m (n + m - i) = m := min_to (by omega)
    have := run_copy_wide (P := Try.prog) w1 52 52 ty 43 3 h (i * 3) (n + m - i) dc ⟨vb, 0, none⟩ m vc Z 43 X Try.underlying52 size_rep g1 (by rw [mn]; exact vl) (row_src v1 (by rw [List.drop_zero, ← hvt]; exact List.take_prefix _ _)) (by omega) x1
    rw [mn, ← eL1] at this
    exact this
  obtain ⟨w2, ew2⟩ : ∃ w2, w2 = w1.setRow h L1.toArray := ⟨_, rfl⟩
  have g2 : w2.drew.heap[h]? = some (.cells L1.toArray 43 (0, 0)) := by rw [ew2]; exact setRow_heap w1 h _ _ _ _ g1
  have s2 : w2.drew.heap[g]? = some (.cells L.toArray 43 (0, 0)) := by
    rw [ew2]
    exact (setRow_other w1 h g _ (by omega)).trans s1
  have cp2 : ∀ ty dc sc, Hid ((Builtin.copy_ #[52, 52] ty #[.slice (some ⟨h, (i + m) * 3, none⟩) (n + m - (i + m)) dc, .slice (some ⟨g, i * 3, none⟩) (n - i) sc]).run Try.prog w2.drew = .ok (goInt ((n - i : Nat) : Int)) (w2.drew.setRow h L2.toArray)) := by
    intro ty dc sc
    have mn : Nat.min (n - i) (n + m - (i + m)) = n - i := min_to (by omega)
    have := run_copy_wide (P := Try.prog) w2.drew 52 52 ty 43 3 h ((i + m) * 3) (n + m - (i + m)) dc ⟨g, i * 3, none⟩ (n - i) sc L1 43 D Try.underlying52 size_rep g2 (by rw [mn]; exact dl) (row_src s2 dpre) (by omega) d1
    rw [mn, ← eL2] at this
    exact this
  have R : Hid (OwnR (w2.drew.setRow h L2.toArray) (.slice (some ⟨h, 0, none⟩) (n + m) C) (l.take i ++ vs ++ l.drop i) ∧ w.grownBy (w2.drew.setRow h L2.toArray) (some g)) := by
    refine ⟨own_of_row (by simp; omega) (by rw [← e2]; exact setRow_heap _ _ _ _ _ _ g2) cge cle (by rw [← e2, eL2, length_splice _ _ _ (by omega), l1]), ?_⟩
    have Y : Ext w (w2.drew.setRow h L2.toArray) := by
      rw [ew2]
      exact ((X1.setRow (by omega) _).drewN 1).setRow (by omega) _
    exact ⟨Below.os Y, Below.tape Y, Below.output Y, Below.size Y, fun k hk _ => Below.block Y k hk⟩
  rw [← ew2] at cp1
  clear hg ht hv hvt cl eD eX eA al apre dl vl d1 x1 eL1 eL2 l1 e2 dpre ew1 g1 v1 hn hm zl zt ew2 g2 s2 s1 hgl hvl X1
  rw [← eh]
  clear eh
  have z1 : ¬ ((m : Int) = 0) := by omega
  have z2 : ¬ ((i : Int) = (n : Int)) := by omega
  have z3 : ¬ (C = i + m) := by omega
  have z4 : ¬ (cap = i) := by omega
  have z5 : (0 : Int) ≤ (i : Int) := by omega
  have z6 : (i : Int) ≤ (n : Int) := by omega
  have z7 : (i : Int) ≤ (n : Int) + (m : Int) := by omega
  have z8 : (0 : Int) ≤ (i : Int) + (m : Int) := by omega
  have z9 : (i : Int) + (m : Int) ≤ (n : Int) + (m : Int) := by omega
  have y1 : (cap : Int) < (n : Int) + (m : Int) := by omega
  have y3 : ((i : Int) + (m : Int)).toNat = i + m := by omega
  have y5 : ¬ (C = i) := by omega
  have y6 : (n : Int) + (m : Int) - (i : Int) = ((n + m - i : Nat) : Int) := by omega
  have y8 : IntKind.i64.wrap ((i : Int) + (m : Int)) = (i : Int) + (m : Int) := IntWalk.i64_in _ (by omega)
  have y7 : (i : Int) ≤ (cap : Int) := by omega
  go_enter Try.func35, Try.ntmps35
  go_wp2_with (first
    | (refine wpList_append_run _ rfl (.tmp 34) (.tmp 39) 52 3 rfl _ _ rfl rfl _ _ ap.out ?_)
    | (refine wpList_copy_known rfl (.tmp 43) (.tmp 44) 52 52 rfl _ _ _ _ rfl rfl (cp1 _ _).out ?_))
  go_region_law (refine step_copy_known rfl (.tmp 50) (.tmp 53) 52 52 rfl _ _ _ _ (by simp [Act.eval, Act.put]) (by simp [Act.eval, Act.put]) (cp2 3 (C - (i + m)) (cap - i)).out ?_)
  go_wp2
  go_ret
  exact ⟨C, rfl, R⟩
/-- what is told of a row behind a call that may have turned it -/
def Turned (w w' : World) (s s' : Value) (l : List Rep) : Prop := OwnR w' s' l ∧ w.grownBy w' s.ownBlock ∧ (s'.ownBlock = s.ownBlock ∨ ∃ k, s'.ownBlock = some k ∧ w.heap.size ≤ k)

set_option maxHeartbeats 1000000 in
theorem insert_end (w : World) (s : Value) (l vs : List Rep) (n vb m vc : Nat) (V : List Value) (hs : OwnR w s l) (hn : l.length = n) (hv : w.heap[vb]? = some (.cells V.toArray 43 (0, 0))) (hm : vs.length = m) (hvt : V.take (m * 3) = rcells vs) (hm0 : 0 < m) (hn2 : n ≤ 10000) (hm2 : m ≤ 10000) (hmc : m ≤ vc) (hc : vc ≤ maxLen) :
    Calls Try.prog 35 #[s, .int .i64 n, .slice (some ⟨vb, 0, none⟩) m vc] w fun e w' => ∃ s', e = .returned s' ∧ Turned w w' s s' (l ++ vs) := by
  obtain ⟨s', w', r, o, gb, hb⟩ := append_reps w s l hs vb m vc V vs hv hm hvt (by omega) hmc hc
  have R := hid r
  have T : Hid (Turned w w' s s' (l ++ vs)) := ⟨o, gb, hb.imp id (fun h => ⟨_, h, Nat.le_refl _⟩)⟩
  obtain ⟨ao, cp, e, k1, k2, _⟩ := hs.view encR
  rw [hn] at e k1
  subst e
  obtain ⟨ao', cp', e', _⟩ := o.view encR
  obtain ⟨N, eN⟩ : ∃ N, N = (l ++ vs).length := ⟨_, rfl⟩
  rw [← eN] at e'
  subst e'
  unfold maxLen at k2
  clear hs hn hv hm hvt r o gb hb eN
  have z1 : ¬ ((m : Int) = 0) := by omega
  have z5 : (0 : Int) ≤ (n : Int) := by omega
  by_cases z4 : cp = n
  · subst z4
    go_enter Try.func35, Try.ntmps35
    go_wp2_with (refine wpList_append_run _ rfl (.tmp 23) (.tmp 24) 52 52 rfl _ _ rfl rfl _ _ R.out ?_)
    go_ret
    exact ⟨_, rfl, T.out⟩
  · go_enter Try.func35, Try.ntmps35
    go_wp2_with (refine wpList_append_run _ rfl (.tmp 23) (.tmp 24) 52 52 rfl _ _ rfl rfl _ _ R.out ?_)
    go_ret
    exact ⟨_, rfl, T.out⟩

set_option maxHeartbeats 1000000 in
theorem insert_none (w : World) (s v : Value) (l : List Rep) (i : Nat) (hs : OwnR w s l) (hi : i ≤ l.length) (hv : ∃ ao c, v = .slice ao 0 c) :
    Calls Try.prog 35 #[s, .int .i64 i, v] w fun e w' => e = .returned s ∧ w' = w := by
  obtain ⟨ao, cp, rfl, k1, k2, _⟩ := hs.view encR
  obtain ⟨ao', c', rfl⟩ := hv
  clear hs
  have z5 : (0 : Int) ≤ (i : Int) := by omega
  have z6 : (i : Int) ≤ (l.length : Int) := by omega
  unfold maxLen at k2
  generalize l.length = n at *
  by_cases z4 : cp = i
  · subst z4
    go_enter Try.func35, Try.ntmps35
    go_wp2
    go_ret
    exact ⟨rfl, rfl⟩
  · go_enter Try.func35, Try.ntmps35
    go_wp2
    go_ret
    exact ⟨rfl, rfl⟩

theorem insert_any (w : World) (s v : Value) (l vs : List Rep) (i : Nat) (hs : OwnR w s l) (hv : OwnR w v vs) (hne : ∀ k, s.ownBlock = some k → v.ownBlock ≠ some k) (hi : i ≤ l.length) (hl : l.length ≤ 10000) (hm : vs.length ≤ 10000) :
    Calls Try.prog 35 #[s, .int .i64 i, v] w fun e w' => ∃ s', e = .returned s' ∧ Turned w w' s s' (l.take i ++ vs ++ l.drop i) := by
  rcases Nat.eq_zero_or_pos vs.length with h0 | h0
  · have e : vs = [] := List.eq_nil_of_length_eq_zero h0
    subst e
    obtain ⟨ao, c, ev, _⟩ := hv.view encR
    refine (insert_none w s v l i hs hi ⟨ao, c, ev⟩).mono ?_
    rintro e w' ⟨rfl, rfl⟩
    refine ⟨s, rfl, ?_, ⟨rfl, rfl, rfl, Nat.le_refl _, fun _ _ _ => rfl⟩, .inl rfl⟩
    rw [List.append_nil, List.take_append_drop]
    exact hs
  · rcases hv.at with ⟨rfl, rfl⟩ | ⟨vb, vc, V, rfl, v1, v2, v3, v4, v5⟩
    · simp at h0
    · by_cases he : i = l.length
      · subst he
        rw [List.take_length, List.drop_length, List.append_nil]
        exact insert_end w s l vs l.length vb vs.length vc V hs rfl v1 rfl v5 h0 hl hm v2 v3
      · rcases hs.at with ⟨rfl, rfl⟩ | ⟨g, cap, L, rfl, g1, g2, g3, g4, g5⟩
        · simp at hi he; omega
        · have hvg : vb ≠ g := fun e => hne g rfl (by rw [e]; rfl)
          by_cases hr : l.length + vs.length ≤ cap
          · refine (insert_shift g l.length cap i vb vs.length vc l vs L V w g1 g4 rfl g5 v1 rfl v5 hvg (by omega) h0 hr g3).mono ?_
            rintro e w' ⟨rfl, o, gb⟩
            exact ⟨_, rfl, o, gb, .inl rfl⟩
          · refine (insert_grow g l.length cap i vb vs.length vc l vs L V w g1 rfl g5 v1 rfl v5 (by omega) h0 (by omega) g2 hl hm).mono ?_
            rintro e w' ⟨c', rfl, o, gb⟩
            exact ⟨_, rfl, o, gb, .inr ⟨_, rfl, Nat.le_refl _⟩⟩
set_option maxHeartbeats 1000000 in
theorem clone_any (w : World) (s : Value) (l : List Rep) (hs : OwnR w s l) (hl : l.length ≤ 10000) :
    Calls Try.prog 28 #[s] w fun e w' => ∃ v, e = .returned v ∧ OwnR w' v l ∧ Ext w w' ∧ ∀ k, v.ownBlock = some k → w.heap.size ≤ k := by
  rcases hs.at with ⟨rfl, rfl⟩ | ⟨g, cap, L, rfl, g1, g2, g3, g4, g5⟩
  · have hn := Lib.run_eql_slice_nil_nil (P := Try.prog) w 0 0 Try.underlying52
    have R : Hid (OwnR w (.slice none 0 0) [] ∧ Ext w w ∧ ∀ k, (Value.slice none 0 0).ownBlock = some k → w.heap.size ≤ k) := ⟨hs, Ext.refl w, fun k hk => by simp [Value.ownBlock] at hk⟩
    clear hs
    go_enter Try.func28, Try.ntmps28
    go_wp2
    go_ret
    exact ⟨_, rfl, R.out⟩
  · obtain ⟨w1, e1⟩ : ∃ w1, w1 = w.alloc (.cells #[] 43) := ⟨_, rfl⟩
    have X1 : Ext w w1 := by rw [e1]; exact (Ext.refl w).alloc _
    have n1 : w1.heap[w.heap.size]? = some (.cells (List.toArray []) 43 (0, 0)) := by rw [e1]; exact heap_alloc_new w _
    have o1 : OwnR w1 (.slice (some ⟨w.heap.size, 0, none⟩) 0 0) [] := own_of_row (Y := []) rfl n1 (Nat.le_refl _) (Nat.zero_le _) rfl
    obtain ⟨v', w', r, o, gb, hb⟩ := append_reps w1 _ [] o1 g l.length cap L l (X1.row g1) rfl g5 (by simp; omega) g2 g3
    rw [List.nil_append] at o
    have T : Hid (OwnR w' v' l ∧ Ext w w' ∧ ∀ k, v'.ownBlock = some k → w.heap.size ≤ k) := by
      refine ⟨o, X1.by_row gb (fun k hk => by simp [Value.ownBlock] at hk; omega), fun k hk => ?_⟩
      rcases hb with e | e
      · rw [e] at hk; simp [Value.ownBlock] at hk; omega
      · rw [e] at hk
        have := X1.size
        simp only [Option.some.injEq] at hk
        omega
    obtain ⟨a', n', c', e'⟩ := owns_slice o
    subst e'
    have R := hid r
    have E1 := hid e1
    clear hs g1 g4 g5 X1 n1 o1 r o gb hb e1
    unfold maxLen at g3
    generalize l.length = n at *
    have hn := Lib.run_eql_slice_some_nil (P := Try.prog) w ⟨g, 0, none⟩ n cap Try.underlying52
    go_enter Try.func28, Try.ntmps28
    go_wp2_with (at_builtin; rw [← E1.out]; refine wpList_append_run _ rfl (.tmp 5) (.tmp 6) 52 52 rfl _ _ rfl rfl _ _ R.out ?_)
    go_ret
    exact ⟨_, rfl, T.out⟩

end Go.Proofs.Yteokeieddapjhaa.Clr

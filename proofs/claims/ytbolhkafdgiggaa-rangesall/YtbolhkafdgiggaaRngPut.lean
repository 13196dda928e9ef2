/-
  Walks of slices.Replace at rows of stretches, each of its ways.
-/
import Derived.Test.YtbolhkafdgiggaaRngIns
namespace Go.Proofs.Ytbolhkafdgiggaa
set_option linter.unusedVariables false
set_option maxRecDepth 100000
open Go.RowKit Go.Lib

/-- a slice's cells cleared, in a row that is known -/
theorem run_clear_pairs (w : World) (g o m c : Nat) (L : List Value) (ty : TypeId) (hg : w.heap[g]? = some (.cells L.toArray 33 (0, 0))) (hm : 0 < m) (hfit : o + m * 2 ≤ L.length) :
    ∃ zs : List Value, zs.length = m * 2 ∧ (Builtin.clear_ #[31] ty #[.slice (some ⟨g, o, none⟩) m c]).run Try.prog w = .ok (.tuple #[]) (w.setRow g (splice L o zs).toArray) := by
  obtain ⟨i0, hi, hz0, hz1, hz2⟩ := info_parts info_pair
  have hlen : (Builtin.zeroCells #[.int .i64 0, .int .i64 0] m).toList.length = m * 2 := by rw [Array.length_toList, size_zeroCells]; rfl
  refine ⟨_, hlen, ?_⟩
  have hone : ∀ u ∈ (Builtin.zeroCells #[.int .i64 0, .int .i64 0] m).toList, u.oneCell' = true := by
    intro u hu
    simp only [Builtin.zeroCells, Array.toList_map, List.mem_map] at hu
    obtain ⟨j, _, rfl⟩ := hu
    have : j % (#[Value.int .i64 0, Value.int .i64 0] : Array Value).size < 2 := Nat.mod_lt _ (by decide)
    generalize j % (#[Value.int .i64 0, Value.int .i64 0] : Array Value).size = q at this
    match q, this with
    | 0, _ => rfl
    | 1, _ => rfl
  have hst := run_storeCells_at Try.prog g o 33 _ 0 L.toArray w hg (by rw [hlen, List.size_toArray]; omega) hone
  simp only [Nat.add_zero, hlen] at hst
  obtain ⟨m', rfl⟩ : ∃ m', m = m' + 1 := ⟨m - 1, by omega⟩
  simp [Builtin.clear_, run_underlying Try.underlying31, zeroValue, typeInfo, hi, hz0, Value.cells, hst, splice, hlen]
theorem run_clear_none (w : World) (ao : Option Addr) (c : Nat) (ty : TypeId) : (Builtin.clear_ #[31] ty #[.slice ao 0 c]).run Try.prog w = .ok (.tuple #[]) w := by
  cases ao <;> simp [Builtin.clear_, run_underlying Try.underlying31]
theorem wpList_clear_known {P : Program} {ops : Array Oper} {rest : List Oper} {o : Oper} {a : Act} {w : World} {Q : Exit → Act → World → Prop} (hg : o.guard = none) (d : Operand) (dT : TypeId)
    (hop : o.op = Op.call { callee := Callee.builtin Builtin.clear, args := #[d], argTypes := #[dT] }) (u r : Value) (w' : World) (hd : a.eval d = u)
    (hrun : (Builtin.clear_ #[dT] o.type #[u]).run P w = .ok r w') (h : wpList P ops Q rest (a.put o.dst r) w') : wpList P ops Q (o :: rest) a w := by
  refine wpList_known hg (v := r) (w' := w') ?_ h
  simp [execOp, hop, resolve, invoke, builtin, hd, hrun]

set_option maxHeartbeats 2000000 in
/-- up to the end, less than there was -/
theorem replace_less (g n cap i vb m vc : Nat) (l vs : Sts) (L V : List Value) (w : World) (hg : w.heap[g]? = some (.cells L.toArray 33 (0, 0))) (hL : L.length = cap * 2) (hn : l.length = n) (ht : L.take (n * 2) = gcells l)
    (hv : w.heap[vb]? = some (.cells V.toArray 33 (0, 0))) (hm : vs.length = m) (hvt : V.take (m * 2) = gcells vs) (hi : i + m < n) (hnc : n ≤ cap) (hcm : cap ≤ maxLen) (hn2 : n ≤ 20000) :
    Calls Try.prog 35 #[.slice (some ⟨g, 0, none⟩) n cap, .int .i64 i, .int .i64 n, .slice (some ⟨vb, 0, none⟩) m vc] w fun e w' =>
      e = .returned (.slice (some ⟨g, 0, none⟩) (i + m) cap) ∧ OwnG w' (.slice (some ⟨g, 0, none⟩) (i + m) cap) (l.take i ++ vs) ∧ w.grownBy w' (some g) := by
  obtain ⟨i0, hi0, hz0, hz1, hz2⟩ := info_parts info_pair
  have cl := gcells_length l
  have vl := gcells_length vs
  rw [hn] at cl
  rw [hm] at vl
  have hcm2 := hid hcm
  unfold maxLen at hcm
  obtain ⟨X, eX⟩ : ∃ X, X = gcells vs := ⟨_, rfl⟩
  rw [← eX] at vl hvt
  have x1 : ∀ u ∈ X, u.oneCell' = true := by rw [eX]; exact gcells_one vs
  obtain ⟨L1, eL1⟩ : ∃ L1, L1 = splice L (i * 2) X := ⟨_, rfl⟩
  have l1 : L1.length = cap * 2 := by rw [eL1, length_splice _ _ _ (by omega), hL]
  have ap : Hid ((Builtin.append_ #[31, 31] 31 #[.slice (some ⟨g, 0, none⟩) i cap, .slice (some ⟨vb, 0, none⟩) m vc]).run Try.prog w = .ok (.slice (some ⟨g, 0, none⟩) (i + m) cap) (w.setRow g L1.toArray)) := by
    have := run_append_room (P := Try.prog) w 31 31 33 i0 Try.underlying31 hi0 g i cap L.toArray hg ⟨vb, 0, none⟩ m vc X (by rw [hz1]; exact vl) (row_src hv (by rw [List.drop_zero, ← hvt]; exact List.take_prefix _ _)) x1 (by omega) (by rw [hz1, vl, List.size_toArray, hL]; omega)
    rw [hz1] at this
    rw [eL1]
    unfold splice
    rw [← List.append_assoc]
    exact this
  obtain ⟨w1, ew1⟩ : ∃ w1, w1 = w.setRow g L1.toArray := ⟨_, rfl⟩
  rw [← ew1] at ap
  have g1 : w1.heap[g]? = some (.cells L1.toArray 33 (0, 0)) := by rw [ew1]; exact setRow_heap w g _ _ _ _ hg
  obtain ⟨zs, zl, cr⟩ := run_clear_pairs w1 g ((i + m) * 2) (n - (i + m)) (cap - (i + m)) L1 0 g1 (by omega) (by omega)
  have CR := hid cr
  have R : Hid (OwnG (w1.setRow g (splice L1 ((i + m) * 2) zs).toArray) (.slice (some ⟨g, 0, none⟩) (i + m) cap) (l.take i ++ vs) ∧ w.grownBy (w1.setRow g (splice L1 ((i + m) * 2) zs).toArray) (some g)) := by
    have e2 : splice L1 ((i + m) * 2) zs = gcells (l.take i ++ vs) ++ (zs ++ L.drop (i * 2 + m * 2 + zs.length)) := by
      rw [eL1, show (i + m) * 2 = i * 2 + X.length by omega, splice_ab _ _ _ _ (by omega), vl, gcells_append, gcells_take, ← eX, ← ht, List.take_take, Nat.min_eq_left (by omega), List.append_assoc]
    refine ⟨own_of_row (by simp; omega) (by rw [← e2]; exact setRow_heap _ _ _ _ _ _ g1) (by omega) hcm2.out (by rw [← e2, length_splice _ _ _ (by omega), l1]), ?_⟩
    refine grown_then ?_ (grown_set w1 g _)
    rw [ew1]
    exact grown_set w g _
  clear hg hL ht hv hvt cl eX vl x1 eL1 l1 ew1 g1 hn hm zl cr hi0 hz0 hz1 hz2
  have z1 : ¬ ((i : Int) = (n : Int)) := by omega
  have z2 : (0 : Int) ≤ (i : Int) := by omega
  have z3 : (i : Int) ≤ (n : Int) := by omega
  have z4 : (n : Int) ≤ (cap : Int) := by omega
  have z5 : (i : Int) + (m : Int) < (n : Int) := by omega
  have z6 : (0 : Int) ≤ (i : Int) + (m : Int) := by omega
  have z7 : (i : Int) + (m : Int) ≤ (n : Int) := by omega
  have z8 : ¬ (cap = i) := by omega
  have z9 : ¬ (cap = i + m) := by omega
  have y1 : (0 : Int) ≤ (n : Int) := by omega
  have y2 : (i : Int) ≤ (cap : Int) := by omega
  have y3 : ((i : Int) + (m : Int)).toNat = i + m := by omega
  go_enter Try.func35, Try.ntmps35
  go_wp2_with (first
    | (refine wpList_append_run _ rfl (.tmp 32) (.tmp 33) 31 31 rfl _ _ rfl rfl _ _ ap.out ?_)
    | (refine wpList_clear_known rfl (.tmp 43) 31 rfl _ _ _ rfl CR.out ?_))
  go_ret
  exact ⟨rfl, R⟩

set_option maxHeartbeats 2000000 in
/-- up to the end, as much as there was or more -/
theorem replace_end (g n cap i vb m vc : Nat) (l vs : Sts) (L V : List Value) (w : World) (hg : w.heap[g]? = some (.cells L.toArray 33 (0, 0))) (hL : L.length = cap * 2) (hn : l.length = n) (ht : L.take (n * 2) = gcells l)
    (hv : w.heap[vb]? = some (.cells V.toArray 33 (0, 0))) (hm : vs.length = m) (hvt : V.take (m * 2) = gcells vs) (hi : i < n) (him : n ≤ i + m) (hnc : n ≤ cap) (hcm : cap ≤ maxLen) (hn2 : n ≤ 20000) (hm2 : m ≤ 20000) :
    Calls Try.prog 35 #[.slice (some ⟨g, 0, none⟩) n cap, .int .i64 i, .int .i64 n, .slice (some ⟨vb, 0, none⟩) m vc] w fun e w' =>
      ∃ s', e = .returned s' ∧ Turned w w' (.slice (some ⟨g, 0, none⟩) n cap) s' (l.take i ++ vs) := by
  have hown : OwnG w (.slice (some ⟨g, 0, none⟩) i cap) (l.take i) := by
    have e : L = gcells (l.take i) ++ L.drop (i * 2) := by
      rw [gcells_take, ← ht, List.take_take, Nat.min_eq_left (by omega), List.take_append_drop]
    exact own_of_row (Y := L.drop (i * 2)) (by simp; omega) (by rw [← e]; exact hg) (by omega) hcm (by rw [← e]; exact hL)
  obtain ⟨s', w', r, o, gb, hb⟩ := append_pairs w _ (l.take i) hown vb m vc V vs hv hm hvt (by simp; omega)
  have R := hid r
  have T : Hid (Turned w w' (.slice (some ⟨g, 0, none⟩) n cap) s' (l.take i ++ vs)) := ⟨o, gb, hb.imp id (fun h => ⟨_, h, Nat.le_refl _⟩)⟩
  obtain ⟨ao', cp', e', q1, q2, _⟩ := o.view
  rw [show (l.take i ++ vs).length = i + m by simp; omega] at e' q1
  subst e'
  unfold maxLen at hcm q2
  clear hg hL hn ht hv hm hvt hown r o gb hb
  have z1 : ¬ ((i : Int) = (n : Int)) := by omega
  have z2 : (0 : Int) ≤ (i : Int) := by omega
  have z3 : (i : Int) ≤ (n : Int) := by omega
  have z4 : (n : Int) ≤ (cap : Int) := by omega
  have z5 : decide ((i : Int) + (m : Int) < (n : Int)) = false := by simp; omega
  have z8 : ¬ (cap = i) := by omega
  have y1 : (0 : Int) ≤ (n : Int) := by omega
  have y2 : (i : Int) ≤ (cap : Int) := by omega
  go_enter Try.func35, Try.ntmps35
  go_wp2_with (refine wpList_append_run _ rfl (.tmp 32) (.tmp 33) 31 31 rfl _ _ rfl rfl _ _ R.out ?_)
  go_ret
  exact ⟨_, rfl, T.out⟩

set_option maxHeartbeats 2000000 in
theorem replace_none (w : World) (s v : Value) (l vs : Sts) (i : Nat) (hs : OwnG w s l) (hv : OwnG w v vs) (hne : ∀ k, s.ownBlock = some k → v.ownBlock ≠ some k) (hi : i ≤ l.length) (hl : l.length ≤ 20000) (hm : vs.length ≤ 20000) :
    Calls Try.prog 35 #[s, .int .i64 i, .int .i64 i, v] w fun e w' => ∃ s', e = .returned s' ∧ Turned w w' s s' (l.take i ++ vs ++ l.drop i) := by
  have C := hid (insert_any w s v l vs i hs hv hne hi hl hm)
  obtain ⟨ao, cp, rfl, k1, k2, _⟩ := hs.view
  obtain ⟨av, cv, rfl, _⟩ := hv.view
  clear hs hv hne
  have z2 : (0 : Int) ≤ (i : Int) := by omega
  have z3 : (i : Int) ≤ (cp : Int) := by omega
  unfold maxLen at k2
  by_cases z4 : cp = i
  · subst z4
    go_enter Try.func35, Try.ntmps35
    go_wp2_with fail
    refine C.out.mono ?_
    rintro e w1 ⟨s', rfl, T1⟩
    have T := hid T1
    obtain ⟨a1, n1, c1, e1⟩ := owns_slice T1.1
    subst e1
    clear T1 C
    go_wp2_with fail
    go_ret
    exact ⟨_, rfl, T.out⟩
  · go_enter Try.func35, Try.ntmps35
    go_wp2_with fail
    refine C.out.mono ?_
    rintro e w1 ⟨s', rfl, T1⟩
    have T := hid T1
    obtain ⟨a1, n1, c1, e1⟩ := owns_slice T1.1
    subst e1
    clear T1 C
    go_wp2_with fail
    go_ret
    exact ⟨_, rfl, T.out⟩
end Go.Proofs.Ytbolhkafdgiggaa

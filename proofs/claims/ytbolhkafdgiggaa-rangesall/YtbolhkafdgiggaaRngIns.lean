/-
  The walk of slices.Insert, whole.
-/
import Derived.Test.YtbolhkafdgiggaaRngRepl
namespace Go.Proofs.Ytbolhkafdgiggaa
set_option linter.unusedVariables false
set_option maxRecDepth 100000
open Go.RowKit Go.Lib

/-- a row's block -/
theorem OwnG.at {w : World} {v : Value} {l : Sts} (h : OwnG w v l) : (v = .slice none 0 0 ∧ l = []) ∨
    ∃ g cap L, v = .slice (some ⟨g, 0, none⟩) l.length cap ∧ w.heap[g]? = some (.cells (List.toArray L) 33 (0, 0)) ∧ l.length ≤ cap ∧ cap ≤ maxLen ∧ L.length = cap * 2 ∧ L.take (l.length * 2) = gcells l := by
  rcases h.2 with ⟨rfl, h0⟩ | ⟨g, cap, cur, rfl, hb, hg, h1, h2, h3, h4⟩
  · exact .inl ⟨rfl, List.eq_nil_of_length_eq_zero h0⟩
  · exact .inr ⟨g, cap, cur.toList, rfl, by rw [Array.toArray_toList]; exact hg, h1, h2, by rw [Array.length_toList]; exact h3, h4⟩

/-- elements put behind a row of one's own -/
theorem append_pairs (w : World) (v : Value) (xs : Sts) (hown : OwnG w v xs) (g m c : Nat) (V : List Value) (ys : Sts) (hg : w.heap[g]? = some (.cells V.toArray 33 (0, 0))) (hm : ys.length = m) (ht : V.take (m * 2) = gcells ys) (hl : xs.length + ys.length ≤ 100000) :
    ∃ v' w', (Builtin.append_ #[31, 31] 31 #[v, .slice (some ⟨g, 0, none⟩) m c]).run Try.prog w = .ok v' w' ∧ OwnG w' v' (xs ++ ys) ∧ w.grownBy w' v.ownBlock ∧ (v'.ownBlock = v.ownBlock ∨ v'.ownBlock = some w.heap.size) := by
  obtain ⟨i0, hi, hz0, hz1, hz2⟩ := info_parts info_pair
  have src : ∀ j u, (gcells ys)[j]? = some u → w.cell? ((⟨g, 0, none⟩ : Addr).add j) = some u := row_src hg (by rw [List.drop_zero, ← ht]; exact List.take_prefix _ _)
  have yl : (gcells ys).length = m * 2 := by rw [gcells_length, hm]
  obtain ⟨v', w', r, o, gb, _⟩ := run_append_own (P := Try.prog) w 0 31 31 33 i0 (.agg #[.int .i64 0, .int .i64 0]) 2 16 Try.underlying31 hi hz0 hz1 hz2 rfl (by decide) v xs.length (gcells xs) hown ⟨g, 0, none⟩ m c (gcells ys) yl src (gcells_one ys) (by unfold maxLen; omega) (by omega) (Nat.zero_le _)
  refine ⟨v', w', r, ?_, gb, ?_⟩
  · unfold OwnG
    rw [List.length_append, gcells_append, hm]
    exact o
  · rcases hown.at with ⟨rfl, rfl⟩ | ⟨b, cap, L, rfl, hgb, hnc, hcm, hL, htk⟩
    · rcases Nat.eq_zero_or_pos m with h0 | h0
      · subst h0
        have hy : ys = [] := List.eq_nil_of_length_eq_zero hm
        subst hy
        have : (Builtin.append_ #[31, 31] 31 #[.slice none 0 0, .slice (some ⟨g, 0, none⟩) 0 c]).run Try.prog w = .ok (.slice none 0 0) w := by
          simp [Builtin.append_, run_underlying Try.underlying31, sizeOf, typeInfo, hi, Builtin.lenOf, Builtin.firstCells, loadCells, loadCellsFrom]
        rw [this] at r
        cases r
        exact .inl rfl
      · have hr := run_append_nil (P := Try.prog) w 31 31 33 i0 _ Try.underlying31 hi hz0 ⟨g, 0, none⟩ m c (gcells ys) (by rw [hz1]; exact yl) src h0 (by omega) (by rw [hz2]; omega)
        rw [hr] at r
        cases r
        exact .inr rfl
    · by_cases hroom : xs.length + m ≤ cap
      · have hr := run_append_room (P := Try.prog) w 31 31 33 i0 Try.underlying31 hi b xs.length cap _ hgb ⟨g, 0, none⟩ m c (gcells ys) (by rw [hz1]; exact yl) src (gcells_one ys) hroom (by rw [hz1, yl, List.size_toArray, hL]; omega)
        rw [hr] at r
        cases r
        exact .inl rfl
      · have holds : ∀ j u, (gcells xs)[j]? = some u → w.cell? ((⟨b, 0, none⟩ : Addr).add j) = some u := World.ownsRow.cells hown (g := b) rfl
        have hr := run_append_grow (P := Try.prog) w 31 31 33 i0 _ Try.underlying31 hi hz0 ⟨b, 0, none⟩ xs.length cap (gcells xs) (by rw [hz1, gcells_length]) holds ⟨g, 0, none⟩ m c (gcells ys) (by rw [hz1]; exact yl) src (by omega) (by omega) (growslice_fits (by omega) (by rw [hz2]; omega))
        rw [hr] at r
        cases r
        exact .inr rfl

/-- what is told of a row behind a call that may have turned it -/
def Turned (w w' : World) (s s' : Value) (l : Sts) : Prop := OwnG w' s' l ∧ w.grownBy w' s.ownBlock ∧ (s'.ownBlock = s.ownBlock ∨ ∃ k, s'.ownBlock = some k ∧ w.heap.size ≤ k)

set_option maxHeartbeats 1000000 in
theorem insert_end (w : World) (s : Value) (l vs : Sts) (n vb m vc : Nat) (V : List Value) (hs : OwnG w s l) (hn : l.length = n) (hv : w.heap[vb]? = some (.cells V.toArray 33 (0, 0))) (hm : vs.length = m) (hvt : V.take (m * 2) = gcells vs) (hm0 : 0 < m) (hn2 : n ≤ 20000) (hm2 : m ≤ 20000) :
    Calls Try.prog 37 #[s, .int .i64 n, .slice (some ⟨vb, 0, none⟩) m vc] w fun e w' => ∃ s', e = .returned s' ∧ Turned w w' s s' (l ++ vs) := by
  obtain ⟨s', w', r, o, gb, hb⟩ := append_pairs w s l hs vb m vc V vs hv hm hvt (by omega)
  have R := hid r
  have T : Hid (Turned w w' s s' (l ++ vs)) := ⟨o, gb, hb.imp id (fun h => ⟨_, h, Nat.le_refl _⟩)⟩
  obtain ⟨ao, cp, e, k1, k2, _⟩ := hs.view
  rw [hn] at e k1
  subst e
  obtain ⟨ao', cp', e', _⟩ := o.view
  obtain ⟨N, eN⟩ : ∃ N, N = (l ++ vs).length := ⟨_, rfl⟩
  rw [← eN] at e'
  subst e'
  unfold maxLen at k2
  clear hs hn hv hm hvt r o gb hb eN
  have z1 : ¬ ((m : Int) = 0) := by omega
  have z5 : (0 : Int) ≤ (n : Int) := by omega
  by_cases z4 : cp = n
  · subst z4
    go_enter Try.func37, Try.ntmps37
    go_wp2_with (refine wpList_append_run _ rfl (.tmp 23) (.tmp 24) 31 31 rfl _ _ rfl rfl _ _ R.out ?_)
    go_ret
    exact ⟨_, rfl, T.out⟩
  · go_enter Try.func37, Try.ntmps37
    go_wp2_with (refine wpList_append_run _ rfl (.tmp 23) (.tmp 24) 31 31 rfl _ _ rfl rfl _ _ R.out ?_)
    go_ret
    exact ⟨_, rfl, T.out⟩

set_option maxHeartbeats 1000000 in
theorem insert_none (w : World) (s v : Value) (l : Sts) (i : Nat) (hs : OwnG w s l) (hi : i ≤ l.length) (hv : ∃ ao c, v = .slice ao 0 c) :
    Calls Try.prog 37 #[s, .int .i64 i, v] w fun e w' => e = .returned s ∧ w' = w := by
  obtain ⟨ao, cp, rfl, k1, k2, _⟩ := hs.view
  obtain ⟨ao', c', rfl⟩ := hv
  clear hs
  have z5 : (0 : Int) ≤ (i : Int) := by omega
  have z6 : (i : Int) ≤ (l.length : Int) := by omega
  unfold maxLen at k2
  generalize l.length = n at *
  by_cases z4 : cp = i
  · subst z4
    go_enter Try.func37, Try.ntmps37
    go_wp2
    go_ret
    exact ⟨rfl, rfl⟩
  · go_enter Try.func37, Try.ntmps37
    go_wp2
    go_ret
    exact ⟨rfl, rfl⟩

theorem insert_any (w : World) (s v : Value) (l vs : Sts) (i : Nat) (hs : OwnG w s l) (hv : OwnG w v vs) (hne : ∀ k, s.ownBlock = some k → v.ownBlock ≠ some k) (hi : i ≤ l.length) (hl : l.length ≤ 20000) (hm : vs.length ≤ 20000) :
    Calls Try.prog 37 #[s, .int .i64 i, v] w fun e w' => ∃ s', e = .returned s' ∧ Turned w w' s s' (l.take i ++ vs ++ l.drop i) := by
  rcases Nat.eq_zero_or_pos vs.length with h0 | h0
  · have e : vs = [] := List.eq_nil_of_length_eq_zero h0
    subst e
    obtain ⟨ao, c, ev, _⟩ := hv.view
    refine (insert_none w s v l i hs hi ⟨ao, c, ev⟩).mono ?_
    rintro e w' ⟨rfl, rfl⟩
    refine ⟨s, rfl, ?_, ⟨rfl, rfl, rfl, Nat.le_refl _, fun _ _ _ => rfl⟩, .inl rfl⟩
    rw [List.append_nil, List.take_append_drop]
    exact hs
  · rcases hv.at with ⟨rfl, rfl⟩ | ⟨vb, vc, V, rfl, v1, v2, v3, v4, v5⟩
    · simp at h0
    · by_cases he : i = l.length
      · subst he
        rw [List.take_length, List.drop_length, List.append_nil]
        exact insert_end w s l vs l.length vb vs.length vc V hs rfl v1 rfl v5 h0 hl hm
      · rcases hs.at with ⟨rfl, rfl⟩ | ⟨g, cap, L, rfl, g1, g2, g3, g4, g5⟩
        · simp at hi he; omega
        · have hvg : vb ≠ g := fun e => hne g rfl (by rw [e]; rfl)
          by_cases hr : l.length + vs.length ≤ cap
          · refine (insert_shift g l.length cap i vb vs.length vc l vs L V w g1 g4 rfl g5 v1 rfl v5 hvg (by omega) h0 hr g3).mono ?_
            rintro e w' ⟨rfl, o, gb⟩
            exact ⟨_, rfl, o, gb, .inl rfl⟩
          · refine (insert_grow g l.length cap i vb vs.length vc l vs L V w g1 rfl g5 v1 rfl v5 (by omega) h0 (by omega) g2 hl hm).mono ?_
            rintro e w' ⟨c', rfl, o, gb⟩
            exact ⟨_, rfl, o, gb, .inr ⟨_, rfl, Nat.le_refl _⟩⟩
end Go.Proofs.Ytbolhkafdgiggaa

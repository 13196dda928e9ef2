/-
  The walk of the reference's Stretches.
-/
import Derived.Test.YtbolhkafdgiggaaRngInts
import Derived.Test.YtbolhkafdgiggaaRngLay
namespace Go.Proofs.Ytbolhkafdgiggaa
set_option linter.unusedVariables false
set_option maxRecDepth 100000
open Go.RowKit Go.Lib

theorem gcells_set (m : Sts) (c d e : Int) : (gcells (m ++ [(c, d)])).set (m.length * 2 + 1) (.int .i64 e) = gcells (m ++ [(c, e)]) := by
  induction m with
  | nil => rfl
  | cons p l ih =>
    have e1 : ∀ q : Sts, gcells (p :: q) = .int .i64 p.1 :: .int .i64 p.2 :: gcells q := fun q => by simp [gcells]
    rw [List.cons_append, List.cons_append, e1, e1, List.length_cons, show (l.length + 1) * 2 + 1 = l.length * 2 + 1 + 1 + 1 by omega, List.set_cons_succ, List.set_cons_succ, ih]

/-- the last stretch's end, written anew -/
theorem OwnG.put {w : World} {g k cap : Nat} {m : Sts} {c d e : Int} (hk : m.length = k) (h : OwnG w (.slice (some ⟨g, 0, none⟩) (k + 1) cap) (m ++ [(c, d)])) : OwnG (w.setCell ⟨g, k * 2 + 1, none⟩ (.int .i64 e)) (.slice (some ⟨g, 0, none⟩) (k + 1) cap) (m ++ [(c, e)]) := by
  subst hk
  obtain ⟨h1, h2⟩ := h
  refine ⟨gcells_length _, ?_⟩
  rcases h2 with ⟨h2, _⟩ | ⟨g', cap', cur, e2, hb, hg, hn, hm, hs, ht⟩
  · simp at h2
  · simp only [Value.slice.injEq, Option.some.injEq, Addr.mk.injEq] at e2
    obtain ⟨⟨rfl, _, _⟩, h3, rfl⟩ := e2
    refine .inr ⟨g, cap, cur.setIfInBounds (m.length * 2 + 1) (.int .i64 e), by simp, hb, ?_, by simpa using hn, hm, by simpa using hs, ?_⟩
    · rw [setCell_eq_setRow w g _ cur _ _ _ hg, setRow_heap w g cur _ _ _ hg]
    · rw [Array.toList_setIfInBounds, List.take_set]
      have e3 : (m ++ [(c, e)]).length * 2 = (m ++ [(c, d)]).length * 2 := by simp
      rw [e3, ht, gcells_set]

/-- stretches that the walk makes: where they lie is new -/
def NewG (w wr : World) (v : Value) (l : Sts) : Prop := OwnG wr v l ∧ (∀ k, v.ownBlock = some k → w.heap.size ≤ k) ∧ Ext w wr
theorem NewG.nil (w : World) : NewG w w (.slice none 0 0) [] := ⟨World.ownsRow_nil _ _ _ _, fun k hk => by simp [Value.ownBlock] at hk, Ext.refl w⟩
theorem NewG.step {w wr : World} {v : Value} {xs : Sts} (h : NewG w wr v xs) (x y : Int) (hl : xs.length ≤ 20000) :
    ∃ v' w', (Builtin.append_ #[31, 31] 31 #[v, .slice (some ⟨wr.heap.size, 0, none⟩) 1 1]).run Try.prog (wr.alloc (.cells #[.int .i64 x, .int .i64 y] 33)) = .ok v' w' ∧ NewG w w' v' (xs ++ [(x, y)]) := by
  obtain ⟨o, hk, X⟩ := h
  have Y := (Ext.refl wr).alloc (.cells #[.int .i64 x, .int .i64 y] 33)
  have n1 := heap_alloc_new wr (.cells #[.int .i64 x, .int .i64 y] 33)
  have s1 : (wr.alloc (.cells #[.int .i64 x, .int .i64 y] 33)).heap.size = wr.heap.size + 1 := by simp
  obtain ⟨v', w', r, o', gb, hb'⟩ := append_pairs _ v xs (o.ext Y) wr.heap.size 1 1 [.int .i64 x, .int .i64 y] [(x, y)] n1 rfl rfl (by simp; omega)
  have x1 := X.size
  refine ⟨v', w', r, o', ?_, (X.trans Y).rowed gb hk⟩
  intro k e
  rcases hb' with q | q
  · rw [q] at e; exact hk k e
  · rw [q] at e
    simp only [Option.some.injEq] at e
    omega
theorem NewG.row {w wr : World} {v : Value} {l : Sts} (h : NewG w wr v l) : RowK (fun i => w.heap.size ≤ i ∧ i < wr.heap.size) wr v 2 (gcells l) := by
  refine h.1.row.mono (by decide) fun i hi hk => ⟨h.2.1 i hk, hi⟩

/-- the stretches of those that are so -/
def Runs (xs : List Int) (is a i : Int) (m : Sts) : Prop := Canon a i m ∧ ∀ j, a ≤ j → j < i → has m j = decide (xs.getD j.toNat 0 = is)
theorem Runs.zero (xs : List Int) (is a : Int) : Runs xs is a a [] := ⟨Canon.nil _ _, fun j h1 h2 => by omega⟩
theorem Runs.no {xs : List Int} {is a i : Int} {m : Sts} (h : Runs xs is a i m) (hx : xs.getD i.toNat 0 ≠ is) : Runs xs is a (i + 1) m := by
  refine ⟨h.1.stay, fun j h1 h2 => ?_⟩
  by_cases e : j = i
  · subst e
    rw [h.1.out (.inr (Int.le_refl _)), decide_eq_false hx]
  · exact h.2 j h1 (by omega)
theorem Runs.put {xs : List Int} {is a i c : Int} {m : Sts} (h : Runs xs is a i (m ++ [(c, i)])) (hx : xs.getD i.toNat 0 = is) : Runs xs is a (i + 1) (m ++ [(c, i + 1)]) := by
  refine ⟨h.1.put, fun j h1 h2 => ?_⟩
  rw [has_put h.1 j (by omega)]
  by_cases e : j = i
  · rw [if_pos e, e, decide_eq_true hx]
  · rw [if_neg e]; exact h.2 j h1 (by omega)
theorem Runs.new {xs : List Int} {is a i : Int} {m : Sts} (h : Runs xs is a i m) (ha : a ≤ i) (hne : ∀ p ∈ m, p.2 ≠ i) (hx : xs.getD i.toNat 0 = is) : Runs xs is a (i + 1) (m ++ [(i, i + 1)]) := by
  refine ⟨h.1.new ha hne, fun j h1 h2 => ?_⟩
  rw [has_new h.1 j (by omega)]
  by_cases e : j = i
  · rw [if_pos e, e, decide_eq_true hx]
  · rw [if_neg e]; exact h.2 j h1 (by omega)
theorem last_of {l : Sts} {k : Nat} (h : l.length = k + 1) : ∃ m c d, l = m ++ [(c, d)] ∧ m.length = k := by
  refine ⟨l.take k, (l.getD k (0, 0)).1, (l.getD k (0, 0)).2, ?_, by simp; omega⟩
  rw [← take_more l k (by omega), ← h, List.take_length]

set_option maxHeartbeats 4000000 in
theorem refRuns_any (K : Nat → Prop) (w : World) (v : Value) (xs : List Int) (a b is : Int) (hv : RowK K w v 1 (icells xs)) (hl : xs.length ≤ 16384) (ha : 0 ≤ a) (hab : a ≤ b) (hb : b ≤ xs.length) :
    Calls Try.prog 11 #[v, .int .i64 a, .int .i64 b, .int .i64 is] w fun e w' => ∃ v', e = .returned v' ∧ ∃ m, NewG w w' v' m ∧ Runs xs is a b m := by
  obtain ⟨ao, n, c, rfl, h1, h2, h3, h4⟩ := hv
  have e : n = xs.length := by rw [icells_length] at h1; omega
  subst e
  have H4 := hid h4
  have N0 := hid (And.intro (NewG.nil w) (Runs.zero xs is a))
  unfold maxLen at h3
  clear h1 h4
  go_enter Try.func11, Try.ntmps11
  go_wp2_with fail
  go_loopw [9, 10] (fun o i wr => ∃ (k : Nat) (m : Sts), a ≤ (k : Int) ∧ (k : Int) ≤ b ∧ i = .int .i64 (k : Int) ∧ NewG w wr o m ∧ Runs xs is a (k : Int) m) (fun _ i _ => (b - intOf i).toNat)
  case atStart => exact ⟨a.toNat, [], by omega, by omega, by rw [Int.toNat_of_nonneg ha], N0.1, by rw [Int.toNat_of_nonneg ha]; exact N0.2⟩
  case round =>
    obtain ⟨k, m, ka, kb, rfl, N, G⟩ := hrel
    clear N0
    have ml := Canon.len G.1 ka
    by_cases q : (k : Int) < b
    · have qk : k < xs.length := by omega
      obtain ⟨g, o, rfl, hg, hc⟩ := H4.out (by omega)
      have x1 := N.2.2.cell (hc k _ (icells_at xs k qk))
      have i1 : (k : Int) < (xs.length : Int) := by omega
      have i2 : (0 : Int) ≤ (k : Int) := by omega
      have G1 : Hid (xs.getD k 0 ≠ is → Runs xs is a ((k : Int) + 1) m) := fun h => G.no (by rwa [Int.toNat_natCast])
      have GP : Hid (∀ m' c, m = m' ++ [(c, (k : Int))] → xs.getD k 0 = is → Runs xs is a ((k : Int) + 1) (m' ++ [(c, (k : Int) + 1)])) := fun m' c e h => by
        rw [e] at G
        exact G.put (by rwa [Int.toNat_natCast])
      have GN : Hid ((∀ p ∈ m, p.2 ≠ (k : Int)) → xs.getD k 0 = is → Runs xs is a ((k : Int) + 1) (m ++ [((k : Int), (k : Int) + 1)])) := fun h1 h => G.new ka h1 (by rwa [Int.toNat_natCast])
      have GL : Hid (∀ m' c d, m = m' ++ [(c, d)] → d ≠ (k : Int) → ∀ p ∈ m, p.2 ≠ (k : Int)) := fun m' c d e h => by
        rw [e] at G ⊢
        exact G.1.last h
      have ST := hid (N.step (k : Int) ((k : Int) + 1) (by omega))
      have NN := hid N
      clear hc G
      generalize xs.getD k 0 = x at *
      by_cases t : x = is
      · have t' : (x == is) = true := by simpa using t
        subst t
        rcases Nat.eq_zero_or_pos m.length with h0 | h0
        · obtain rfl : m = [] := List.eq_nil_of_length_eq_zero h0
          obtain ⟨w5, w6, r, N'⟩ := ST.out
          have R := hid r
          have N2 := hid N'
          have G2 := hid (GN.out (by simp) rfl)
          obtain ⟨oa, cp, eo, p1, p2, _⟩ := N.1.view
          obtain ⟨oa', on', oc', eo'⟩ := owns_slice N'.1
          subst eo'
          subst eo
          clear ST r N' N NN GP GN GL G1 h0
          go_wp2_with (at_builtin; refine wpList_append_run _ rfl (.tmp 45) (.tmp 50) 31 31 rfl _ _ rfl rfl _ _ R.out ?_)
          go_roundw
          case rel => exact ⟨k + 1, _, by omega, by omega, by go_num, N2.out, G2.out⟩
          case measure => simp [intOf]; omega
        · obtain ⟨j, hj⟩ : ∃ j, m.length = j + 1 := ⟨m.length - 1, by omega⟩
          obtain ⟨m', c, d, em, hm'⟩ := last_of hj
          obtain ⟨oa, cp, eo, p1, p2, vw⟩ := N.1.view
          obtain ⟨g2, eg2, _, y2⟩ := vw j (by omega)
          rw [hj] at eo p1
          subst eg2
          have ed : (m.getD j (0, 0)).2 = d := by rw [em, List.getD_eq_getElem?_getD, ← hm']; simp
          rw [ed] at y2
          have j1 : (0 : Int) ≤ (j : Int) := by omega
          have j2 : (j : Int) < (j : Int) + 1 := by omega
          have j3 : (0 : Int) < (j : Int) + 1 := by omega
          have j4 : j ≤ 16384 := by omega
          unfold maxLen at p2
          by_cases t2 : d = (k : Int)
          · have hgr : g2 < wr.heap.size ∧ wr.frozen? ⟨g2, j * 2 + 1, none⟩ = false ∧ w.heap.size ≤ g2 := by
              have := N.2.1 g2 (by rw [eo]; rfl)
              rcases N.1.at with ⟨e1, _⟩ | ⟨g3, c3, L3, e3, l3, _⟩
              · rw [eo] at e1; simp at e1
              · rw [eo] at e3
                simp only [Value.slice.injEq, Option.some.injEq, Addr.mk.injEq] at e3
                obtain ⟨⟨e4, _⟩, _⟩ := e3
                subst e4
                exact ⟨lt_of_row l3, frozen_of_row _ _ _ _ _ l3, this⟩
            subst t2
            have fz := hgr.2.1
            have N2 : Hid (NewG w (wr.setCell ⟨g2, j * 2 + 1, none⟩ (.int .i64 ((k : Int) + 1))) (.slice (some ⟨g2, 0, none⟩) (j + 1) cp) (m' ++ [(c, (k : Int) + 1)])) := by
              have o1 := N.1
              rw [em, eo] at o1
              exact ⟨o1.put hm', fun q e => by simp [Value.ownBlock] at e; omega, N.2.2.setCell hgr.2.2 _⟩
            have G2 := hid (GP.out m' c em rfl)
            subst eo
            clear ST N NN GP GN GL G1 h0 hgr vw em ed hj ml
            go_wp2_with fail
            go_roundw
            case rel => exact ⟨k + 1, _, by omega, by omega, by go_num, N2.out, G2.out⟩
            case measure => simp [intOf]; omega
          · have t3 : (d == (k : Int)) = false := by simpa using t2
            obtain ⟨w5, w6, r, N'⟩ := ST.out
            have R := hid r
            have N2 := hid N'
            have G2 := hid (GN.out (GL.out m' c d em t2) rfl)
            obtain ⟨oa', on', oc', eo'⟩ := owns_slice N'.1
            subst eo'
            subst eo
            clear ST r N' N NN GP GN GL G1 h0 vw em ed hj ml
            go_wp2_with (at_builtin; refine wpList_append_run _ rfl (.tmp 45) (.tmp 50) 31 31 rfl _ _ rfl rfl _ _ R.out ?_)
            go_roundw
            case rel => exact ⟨k + 1, _, by omega, by omega, by go_num, N2.out, G2.out⟩
            case measure => simp [intOf]; omega
      · have t' : (x == is) = false := by simpa using t
        have G2 := hid (G1.out t)
        obtain ⟨oa, on, oc, eo⟩ := owns_slice N.1
        subst eo
        clear ST N GP GN GL G1
        go_wp2_with fail
        go_roundw
        case rel => exact ⟨k + 1, m, by omega, by omega, by go_num, NN.out, G2.out⟩
        case measure => simp [intOf]; omega
    · obtain rfl : b = (k : Int) := by omega
      have R := hid (And.intro N G)
      obtain ⟨oa, on, oc, eo⟩ := owns_slice N.1
      subst eo
      clear N G
      go_wp2_with fail
      go_ret
      exact ⟨_, rfl, m, R.1, R.2⟩
end Go.Proofs.Ytbolhkafdgiggaa

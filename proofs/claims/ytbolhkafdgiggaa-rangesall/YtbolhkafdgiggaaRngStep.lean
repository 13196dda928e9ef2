/-
  The walk of step: one call of both, the set and the list of truths.
-/
import Derived.Test.YtbolhkafdgiggaaRngAdd
import Derived.Test.YtbolhkafdgiggaaRngRuns
namespace Go.Proofs.Ytbolhkafdgiggaa
set_option linter.unusedVariables false
set_option maxRecDepth 100000
open Go.RowKit Go.Lib

/-- a set and a list of ints beside it -/
def Both (K : Nat → Prop) (w : World) (b : Nat) (xv : Value) (l : Sts) (xs : List Int) : Prop := (Good l ∧ xs.length = 16384) ∧ SetK K w b l ∧ RowK K w xv 1 (icells xs)
/-- the list tells of each number whether it is in the set -/
def Tab (xs : List Int) (l : Sts) : Prop := ∀ i : Int, 0 ≤ i → i < 16384 → xs.getD i.toNat 0 = if has l i = true then 1 else 0
/-- what step leads to -/
def Stepped (K : Nat → Prop) (w w' : World) (b : Nat) (l : Sts) (xs : List Int) (e : Ending) : Prop :=
  ∃ xv' ok, e = .returned (.tuple #[xv', .bool ok]) ∧ Kept K w w' ∧ ∃ K' l' xs', (∀ i, K i → K' i) ∧ Both K' w' b xv' l' xs' ∧ (Tab xs l → ok = true ∧ Tab xs' l')

theorem Both.len {K : Nat → Prop} {w : World} {b : Nat} {xv : Value} {l : Sts} {xs : List Int} (h : Both K w b xv l xs) : xs.length = 16384 := h.1.2

/-- behind Add, Cut and the reference's Set -/
theorem both_next {K : Nat → Prop} {w w1 w2 : World} {b : Nat} {l' : Sts} {v' : Value} {xs' : List Int} (g : Good l') (s : SetK K w1 b l') (k : Kept K w w1) (n : NewI w1 w2 v' xs') (hl : xs'.length = 16384) :
    Kept K w w2 ∧ Both (fun i => K i ∨ (w1.heap.size ≤ i ∧ i < w2.heap.size)) w2 b v' l' xs' := by
  refine ⟨k.trans (Kept.of_ext n.2.2), ⟨g, hl⟩, s.more n.2.2, ?_⟩
  exact n.row.mono (by decide) fun i _ hi => .inr hi

theorem tab_at {xs : List Int} {l : Sts} (h : Tab xs l) (i : Int) (h0 : 0 ≤ i) (h1 : i < 16384) (y : Int) (hy : y = 1 ∨ y = 0) : decide (xs.getD i.toNat 0 = y) = (if y = 1 then has l i else !has l i) := by
  rw [h i h0 h1]
  rcases hy with rfl | rfl
  · cases has l i <;> simp
  · cases has l i <;> simp
theorem tab_add {xs : List Int} {l l' : Sts} (h : Tab xs l) {a b : Int} (hh : ∀ i, has l' i = (has l i || (decide (a ≤ i) && decide (i < b)))) : Tab (rlist xs a b 1 16384) l' := by
  intro i h0 h1
  rw [rlist_at _ _ _ _ _ _ (by omega), hh i]
  unfold rset
  rw [Int.toNat_of_nonneg h0]
  by_cases c : a ≤ i ∧ i < b
  · rw [if_pos c]; simp [c.1, c.2]
  · rw [if_neg c, h i h0 h1]
    have : (decide (a ≤ i) && decide (i < b)) = false := by simp; omega
    rw [this, Bool.or_false]
theorem tab_cut {xs : List Int} {l l' : Sts} (h : Tab xs l) {a b : Int} (hh : ∀ i, has l' i = (has l i && !(decide (a ≤ i) && decide (i < b)))) : Tab (rlist xs a b 0 16384) l' := by
  intro i h0 h1
  rw [rlist_at _ _ _ _ _ _ (by omega), hh i]
  unfold rset
  rw [Int.toNat_of_nonneg h0]
  by_cases c : a ≤ i ∧ i < b
  · rw [if_pos c]; simp [c.1, c.2]
  · rw [if_neg c, h i h0 h1]
    have : (decide (a ≤ i) && decide (i < b)) = false := by simp; omega
    rw [this, Bool.not_false, Bool.and_true]
theorem was_add {xs : List Int} {l : Sts} (h : Tab xs l) (g : Good l) {a b : Int} (h1 : 0 ≤ a) (h2 : a ≤ b) (h3 : b ≤ 16384) : num (rwas xs a b 1) 16384 = b - a - tot a b l := by
  rw [← tot_not h1 h2 h3 g]
  refine num_congr _ fun i i0 i1 => ?_
  unfold rwas
  rw [tab_at h i i0 (by omega) 1 (.inl rfl), if_pos rfl]
theorem was_cut {xs : List Int} {l : Sts} (h : Tab xs l) (g : Good l) {a b : Int} (h1 : 0 ≤ a) (h3 : b ≤ 16384) : num (rwas xs a b 0) 16384 = tot a b l := by
  rw [tot_num h1 h3 g]
  refine num_congr _ fun i i0 i1 => ?_
  unfold rwas
  rw [tab_at h i i0 (by omega) 0 (.inr rfl), if_neg (by decide), Bool.not_not]

set_option maxHeartbeats 4000000 in
theorem stepAdd_any (K : Nat → Prop) (w : World) (b : Nat) (xv : Value) (l : Sts) (xs : List Int) (x y : Int) (h : Both K w b xv l xs) :
    Calls Try.prog 10 #[.pointer (some ⟨b, 0, none⟩), xv, .agg #[.int .i64 1, .int .i64 x, .int .i64 y]] w fun e w' => Stepped K w w' b l xs e := by
  have H := hid h
  have X1 := (Ext.refl w).alloc (.cells #[.int .i64 1, .int .i64 x, .int .i64 y] 28 (0, 0))
  obtain ⟨w1, e1⟩ : ∃ w1, w1 = w.alloc (.cells #[.int .i64 1, .int .i64 x, .int .i64 y] 28 (0, 0)) := ⟨_, rfl⟩
  rw [← e1] at X1
  have r1 : w1.heap[w.heap.size]? = some (.cells #[.int .i64 1, .int .i64 x, .int .i64 y] 28 (0, 0)) := by rw [e1]; exact heap_alloc_new w _
  obtain ⟨ao, n, c, ev, h1, h2, h3, h4⟩ := h.2.2
  by_cases t : 0 ≤ x ∧ x ≤ y ∧ y ≤ 16384
  · -- the block of the call's own is one of those that stay
    have M := (h.2.1.more X1)
    have C := hid (add_yes _ b x y l w1 M h.1.1 t.1 t.2.1 t.2.2)
    have XX := hid X1
    have R1 := hid r1
    have cs : ∀ W, Kept (fun i => K i ∨ (w.heap.size ≤ i ∧ i < w1.heap.size)) w1 W → W.cell? ⟨w.heap.size, 0, none⟩ = some (.int .i64 1) ∧ W.cell? ⟨w.heap.size, 1, none⟩ = some (.int .i64 x) ∧ W.cell? ⟨w.heap.size, 2, none⟩ = some (.int .i64 y) := by
      intro W kW
      have r2 := kW.row (g := w.heap.size) (.inr ⟨Nat.le_refl _, lt_of_row r1⟩) r1
      refine ⟨?_, ?_, ?_⟩ <;> (rw [cell_of_row W _ _ _ _ _ r2]; rfl)
    have CS := hid cs
    have d1 : decide (x < 0) = false := by simp; omega
    have d2 : decide (16384 < y) = false := by simp; omega
    have d3 : decide (y < x) = false := by simp; omega
    have H1 := hid h.1.1
    have TB := tot_bound t.1 t.2.1 t.2.2 h.1.1
    obtain ⟨N, eN⟩ : ∃ N, y - x - tot x y l = N := ⟨_, rfl⟩
    have EN := hid eN
    rw [eN] at C
    have N1 : 0 ≤ N ∧ N ≤ 16384 := by omega
    subst ev
    clear X1 r1 M cs h4 eN h TB
    subst e1
    go_enter Try.func10, Try.ntmps10
    go_wp2_with fail
    refine C.out.mono ?_
    rintro e w2 ⟨rfl, A⟩
    obtain ⟨l', g', hh, s2, k2⟩ := A
    obtain ⟨c0, c1, c2⟩ := CS.out w2 k2
    have xr := (H.out.2.2.kept (Kept.of_ext XX.out)).mono (L := fun i => K i ∨ (w.heap.size ≤ i ∧ i < (w.alloc (.cells #[.int .i64 1, .int .i64 x, .int .i64 y] 28 (0, 0))).heap.size)) (by decide) (fun i _ hi => .inl hi)
    have C2 := hid (refSet_any _ w2 _ xs x y 1 (xr.kept k2) (by rw [H.out.len]; decide))
    rw [H.out.len] at C2
    obtain ⟨M, eM⟩ : ∃ M, num (rwas xs x y 1) 16384 = M := ⟨_, rfl⟩
    have EM := hid eM
    rw [eM] at C2
    have S2 := hid (s2.less (L := K) (fun i hi => .inl hi))
    have K2 := hid ((Kept.of_ext XX.out).trans (k2.mono (L := K) (fun i hi => .inl hi)))
    have HH := hid hh
    have GG := hid g'
    clear C CS xr eM s2 k2 hh g'
    go_wp2_with fail
    refine C2.out.mono ?_
    rintro e w3 ⟨v', rfl, n3⟩
    have R : Hid (∀ ok, (Tab xs l → ok = true) → Stepped K w w3 b l xs (.returned (.tuple #[v', .bool ok]))) := by
      intro ok hok
      obtain ⟨k3, b3⟩ := both_next GG.out S2.out K2.out n3 (rlist_length _ _ _ _ _)
      exact ⟨v', ok, rfl, k3, _, l', _, fun i hi => .inl hi, b3, fun ht => ⟨hok ht, tab_add ht HH.out⟩⟩
    have NM : Hid (Tab xs l → N = M) := fun ht => by rw [← EN.out, ← EM.out, was_add ht H1.out t.1 t.2.1 t.2.2]
    obtain ⟨va, vn, vc, ev⟩ := owns_slice n3.1
    subst ev
    clear C2 n3 EN EM GG HH S2 K2 H
    by_cases q : N = M
    · subst q
      go_wp2_with fail
      go_ret2
      exact R.out true (fun _ => rfl)
    · have q1 : (N == M) = false := by simpa using q
      go_wp2_with fail
      go_ret2
      exact R.out false (fun ht => absurd (NM.out ht) q)
  · have C := hid (add_no b x y w1 t)
    have R : Hid (Stepped K w w1 b l xs (.returned (.tuple #[xv, .bool true]))) := by
      refine ⟨xv, true, rfl, Kept.of_ext X1, K, l, xs, fun i hi => hi, ⟨h.1, h.2.1.ext X1, h.2.2.kept (Kept.of_ext X1)⟩, fun ht => ⟨rfl, ht⟩⟩
    subst ev
    clear h H h4 X1 r1
    subst e1
    by_cases t1 : x < 0
    · clear t
      go_enter Try.func10, Try.ntmps10
      go_wp2_with fail
      refine C.out.mono ?_
      rintro e w2 ⟨rfl, rfl⟩
      go_wp2_with fail
      go_ret2
      exact R.out
    · by_cases t2 : 16384 < y
      · clear t
        go_enter Try.func10, Try.ntmps10
        go_wp2_with fail
        refine C.out.mono ?_
        rintro e w2 ⟨rfl, rfl⟩
        go_wp2_with fail
        go_ret2
        exact R.out
      · have t3 : y < x := by omega
        clear t
        go_enter Try.func10, Try.ntmps10
        go_wp2_with fail
        refine C.out.mono ?_
        rintro e w2 ⟨rfl, rfl⟩
        go_wp2_with fail
        go_ret2
        exact R.out

set_option maxHeartbeats 4000000 in
theorem stepCut_any (K : Nat → Prop) (w : World) (b : Nat) (xv : Value) (l : Sts) (xs : List Int) (x y : Int) (h : Both K w b xv l xs) :
    Calls Try.prog 10 #[.pointer (some ⟨b, 0, none⟩), xv, .agg #[.int .i64 2, .int .i64 x, .int .i64 y]] w fun e w' => Stepped K w w' b l xs e := by
  have H := hid h
  have X1 := (Ext.refl w).alloc (.cells #[.int .i64 2, .int .i64 x, .int .i64 y] 28 (0, 0))
  obtain ⟨w1, e1⟩ : ∃ w1, w1 = w.alloc (.cells #[.int .i64 2, .int .i64 x, .int .i64 y] 28 (0, 0)) := ⟨_, rfl⟩
  rw [← e1] at X1
  have r1 : w1.heap[w.heap.size]? = some (.cells #[.int .i64 2, .int .i64 x, .int .i64 y] 28 (0, 0)) := by rw [e1]; exact heap_alloc_new w _
  obtain ⟨ao, n, c, ev, h1, h2, h3, h4⟩ := h.2.2
  by_cases t : 0 ≤ x ∧ x ≤ y ∧ y ≤ 16384
  · -- the block of the call's own is one of those that stay
    have M := (h.2.1.more X1)
    have C := hid (cut_yes _ b x y l w1 M h.1.1 t.1 t.2.1 t.2.2)
    have XX := hid X1
    have R1 := hid r1
    have cs : ∀ W, Kept (fun i => K i ∨ (w.heap.size ≤ i ∧ i < w1.heap.size)) w1 W → W.cell? ⟨w.heap.size, 0, none⟩ = some (.int .i64 2) ∧ W.cell? ⟨w.heap.size, 1, none⟩ = some (.int .i64 x) ∧ W.cell? ⟨w.heap.size, 2, none⟩ = some (.int .i64 y) := by
      intro W kW
      have r2 := kW.row (g := w.heap.size) (.inr ⟨Nat.le_refl _, lt_of_row r1⟩) r1
      refine ⟨?_, ?_, ?_⟩ <;> (rw [cell_of_row W _ _ _ _ _ r2]; rfl)
    have CS := hid cs
    have d1 : decide (x < 0) = false := by simp; omega
    have d2 : decide (16384 < y) = false := by simp; omega
    have d3 : decide (y < x) = false := by simp; omega
    have H1 := hid h.1.1
    have TB := tot_bound t.1 t.2.1 t.2.2 h.1.1
    obtain ⟨N, eN⟩ : ∃ N, tot x y l = N := ⟨_, rfl⟩
    have EN := hid eN
    rw [eN] at C
    have N1 : 0 ≤ N ∧ N ≤ 16384 := by omega
    subst ev
    clear X1 r1 M cs h4 eN h TB
    subst e1
    go_enter Try.func10, Try.ntmps10
    go_wp2_with fail
    refine C.out.mono ?_
    rintro e w2 ⟨rfl, A⟩
    obtain ⟨l', g', hh, s2, k2⟩ := A
    obtain ⟨c0, c1, c2⟩ := CS.out w2 k2
    have xr := (H.out.2.2.kept (Kept.of_ext XX.out)).mono (L := fun i => K i ∨ (w.heap.size ≤ i ∧ i < (w.alloc (.cells #[.int .i64 2, .int .i64 x, .int .i64 y] 28 (0, 0))).heap.size)) (by decide) (fun i _ hi => .inl hi)
    have C2 := hid (refSet_any _ w2 _ xs x y 0 (xr.kept k2) (by rw [H.out.len]; decide))
    rw [H.out.len] at C2
    obtain ⟨M, eM⟩ : ∃ M, num (rwas xs x y 0) 16384 = M := ⟨_, rfl⟩
    have EM := hid eM
    rw [eM] at C2
    have S2 := hid (s2.less (L := K) (fun i hi => .inl hi))
    have K2 := hid ((Kept.of_ext XX.out).trans (k2.mono (L := K) (fun i hi => .inl hi)))
    have HH := hid hh
    have GG := hid g'
    clear C CS xr eM s2 k2 hh g'
    go_wp2_with fail
    refine C2.out.mono ?_
    rintro e w3 ⟨v', rfl, n3⟩
    have R : Hid (∀ ok, (Tab xs l → ok = true) → Stepped K w w3 b l xs (.returned (.tuple #[v', .bool ok]))) := by
      intro ok hok
      obtain ⟨k3, b3⟩ := both_next GG.out S2.out K2.out n3 (rlist_length _ _ _ _ _)
      exact ⟨v', ok, rfl, k3, _, l', _, fun i hi => .inl hi, b3, fun ht => ⟨hok ht, tab_cut ht HH.out⟩⟩
    have NM : Hid (Tab xs l → N = M) := fun ht => by rw [← EN.out, ← EM.out, was_cut ht H1.out t.1 t.2.2]
    obtain ⟨va, vn, vc, ev⟩ := owns_slice n3.1
    subst ev
    clear C2 n3 EN EM GG HH S2 K2 H
    by_cases q : N = M
    · subst q
      go_wp2_with fail
      go_ret2
      exact R.out true (fun _ => rfl)
    · have q1 : (N == M) = false := by simpa using q
      go_wp2_with fail
      go_ret2
      exact R.out false (fun ht => absurd (NM.out ht) q)
  · have C := hid (cut_no b x y w1 t)
    have R : Hid (Stepped K w w1 b l xs (.returned (.tuple #[xv, .bool true]))) := by
      refine ⟨xv, true, rfl, Kept.of_ext X1, K, l, xs, fun i hi => hi, ⟨h.1, h.2.1.ext X1, h.2.2.kept (Kept.of_ext X1)⟩, fun ht => ⟨rfl, ht⟩⟩
    subst ev
    clear h H h4 X1 r1
    subst e1
    by_cases t1 : x < 0
    · clear t
      go_enter Try.func10, Try.ntmps10
      go_wp2_with fail
      refine C.out.mono ?_
      rintro e w2 ⟨rfl, rfl⟩
      go_wp2_with fail
      go_ret2
      exact R.out
    · by_cases t2 : 16384 < y
      · clear t
        go_enter Try.func10, Try.ntmps10
        go_wp2_with fail
        refine C.out.mono ?_
        rintro e w2 ⟨rfl, rfl⟩
        go_wp2_with fail
        go_ret2
        exact R.out
      · have t3 : y < x := by omega
        clear t
        go_enter Try.func10, Try.ntmps10
        go_wp2_with fail
        refine C.out.mono ?_
        rintro e w2 ⟨rfl, rfl⟩
        go_wp2_with fail
        go_ret2
        exact R.out

set_option maxHeartbeats 4000000 in
theorem stepNone_any (K : Nat → Prop) (w : World) (b : Nat) (xv : Value) (l : Sts) (xs : List Int) (k x y : Int) (h : Both K w b xv l xs) (h1 : k ≠ 1) (h2 : k ≠ 2) :
    Calls Try.prog 10 #[.pointer (some ⟨b, 0, none⟩), xv, .agg #[.int .i64 k, .int .i64 x, .int .i64 y]] w fun e w' => Stepped K w w' b l xs e := by
  have X1 := (Ext.refl w).alloc (.cells #[.int .i64 k, .int .i64 x, .int .i64 y] 28 (0, 0))
  have R : Hid (Stepped K w (w.alloc (.cells #[.int .i64 k, .int .i64 x, .int .i64 y] 28 (0, 0))) b l xs (.returned (.tuple #[xv, .bool true]))) := by
    refine ⟨xv, true, rfl, Kept.of_ext X1, K, l, xs, fun i hi => hi, ⟨h.1, h.2.1.ext X1, h.2.2.kept (Kept.of_ext X1)⟩, fun ht => ⟨rfl, ht⟩⟩
  obtain ⟨ao, n, c, ev, _⟩ := h.2.2
  subst ev
  have q1 : (k != 1) = true := by simpa using h1
  have q2 : (k != 2) = true := by simpa using h2
  clear h X1
  go_enter Try.func10, Try.ntmps10
  go_wp2_with fail
  go_ret2
  exact R.out

theorem step_any (K : Nat → Prop) (w : World) (b : Nat) (xv : Value) (l : Sts) (xs : List Int) (k x y : Int) (h : Both K w b xv l xs) :
    Calls Try.prog 10 #[.pointer (some ⟨b, 0, none⟩), xv, .agg #[.int .i64 k, .int .i64 x, .int .i64 y]] w fun e w' => Stepped K w w' b l xs e := by
  by_cases h1 : k = 1
  · subst h1; exact stepAdd_any K w b xv l xs x y h
  · by_cases h2 : k = 2
    · subst h2; exact stepCut_any K w b xv l xs x y h
    · exact stepNone_any K w b xv l xs k x y h h1 h2
end Go.Proofs.Ytbolhkafdgiggaa

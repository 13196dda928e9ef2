/-
  Rows of timers and of pairs: a slice of one's own, what is put behind it. (Texts of RngMem, RngRepl, RngIns, at two types.)
-/
import Derived.Test.YthokjkkhkcdceaaKeptCore
import Derived.Test.YthokjkkhkcdceaaKnownCore
import Derived.Test.YthokjkkhkcdceaaWhlMath
import Derived.WalkKit
import Derived.WalkSpells
import Derived.WalkLawsBesides
import Derived.Handy
import Derived.OwnWalk
import Derived.Maps.AppendAt
import Derived.Laws.ShiftsVarLaws
import Derived.Deep.QuietTactic
import Derived.BigQuiet
import Derived.BigRegion
namespace Go.Proofs.Ythokjkkhkcdceaa
set_option linter.unusedVariables false
set_option maxRecDepth 100000
open Go.RowKit Go.Lib

theorem gcells_append (a b : Sts) : gcells (a ++ b) = gcells a ++ gcells b := by simp [gcells]
theorem gcells_one (l : Sts) : ∀ u ∈ gcells l, u.oneCell' = true := by
  intro u hu
  simp only [gcells, List.mem_flatMap, List.mem_cons, List.not_mem_nil, or_false] at hu
  obtain ⟨p, _, rfl | rfl⟩ := hu <;> rfl
theorem gcells_take (l : Sts) : ∀ k, gcells (l.take k) = (gcells l).take (k * 2) := by
  induction l with
  | nil => intro k; simp [gcells]
  | cons p r ih =>
    intro k
    cases k with
    | zero => simp [gcells]
    | succ k =>
      have := ih k
      simp only [gcells] at this
      rw [show (k + 1) * 2 = k * 2 + 1 + 1 by omega]
      simp [gcells, this]
theorem gcells_drop (l : Sts) : ∀ k, gcells (l.drop k) = (gcells l).drop (k * 2) := by
  induction l with
  | nil => intro k; simp [gcells]
  | cons p r ih =>
    intro k
    cases k with
    | zero => simp
    | succ k =>
      have := ih k
      simp only [gcells] at this
      rw [show (k + 1) * 2 = k * 2 + 1 + 1 by omega]
      simp [gcells, this]

theorem min_to {a b c : Nat} (h : (a ≤ b ∧ a = c) ∨ (b ≤ a ∧ b = c)) : Nat.min a b = c := by
  have : Nat.min a b = if a ≤ b then a else b := Nat.min_def
  rw [this]
  split <;> omega
theorem goInt_sub {a b : Nat} (h : b ≤ a) : goInt ((a - b : Nat) : Int) = goInt ((a : Int) - (b : Int)) := by rw [Int.ofNat_sub h]
theorem grown_set (w : World) (g : Nat) (cs : Array Value) : w.grownBy (w.setRow g cs) (some g) := ⟨rfl, rfl, rfl, by simp, fun k _ hk => setRow_other w g k cs (fun e => hk (by rw [e]))⟩
theorem grown_drawn {w w' : World} {row : Option Nat} (h : w.grownBy w' row) (n : Nat) : w.grownBy (w'.drewN n) row := ⟨h.os, h.tape, h.output, h.size, h.block⟩
theorem grown_from {w w' : World} {row : Option Nat} {n : Nat} (h : (w.drewN n).grownBy w' row) : w.grownBy w' row := ⟨h.os, h.tape, h.output, h.size, h.block⟩
theorem grown_then {a b c : World} {row : Option Nat} (h : a.grownBy b row) (k : b.grownBy c row) : a.grownBy c row :=
  ⟨k.os.trans h.os, k.tape.trans h.tape, k.output.trans h.output, Nat.le_trans h.size k.size, fun i hi hr => (k.block i (Nat.lt_of_lt_of_le hi h.size) hr).trans (h.block i hi hr)⟩

theorem Ext.rowed {w0 w w' : World} {row : Option Nat} (h : Ext w0 w) (hg : w.grownBy w' row) (hrow : ∀ k, row = some k → w0.heap.size ≤ k) : Ext w0 w' := Below.grown h hg h.size hrow

theorem info_pair : (Try.prog.info? 55).map (fun i => (i.zero, i.size, i.bytes)) = some (some (.agg #[.int .i64 0, .int .i64 0]), 2, 16) := by kernel_rfl

/-- the stretches l lie in a row of one's own -/
def OwnG (w : World) (v : Value) (l : Sts) : Prop := w.ownsRow 0 55 2 v l.length (gcells l)

theorem OwnG.view {w : World} {v : Value} {l : Sts} (h : OwnG w v l) :
    ∃ ao c, v = .slice ao l.length c ∧ l.length ≤ c ∧ c ≤ maxLen ∧ ∀ k, k < l.length → ∃ g, ao = some ⟨g, 0, none⟩ ∧ w.cell? ⟨g, k * 2, none⟩ = some (.int .i64 (l.getD k (0, 0)).1) ∧ w.cell? ⟨g, k * 2 + 1, none⟩ = some (.int .i64 (l.getD k (0, 0)).2) := by
  have h' := h
  rcases h.2 with ⟨rfl, h0⟩ | ⟨g, cap, cur, rfl, hb, hg, h1, h2, _, ht⟩
  · exact ⟨none, 0, by rw [h0], by omega, Nat.zero_le _, fun k hk => by omega⟩
  · refine ⟨_, _, rfl, h1, h2, fun k hk => ⟨g, rfl, ?_, ?_⟩⟩
    · have := World.ownsRow.cells h' (g := g) rfl (k * 2) _ (gcells_at l k hk).1
      rwa [Addr.add_mid, Nat.zero_add] at this
    · have := World.ownsRow.cells h' (g := g) rfl (k * 2 + 1) _ (gcells_at l k hk).2
      rwa [Addr.add_mid, Nat.zero_add] at this
theorem OwnG.kept {K : Nat → Prop} {w w' : World} {v : Value} {l : Sts} (h : OwnG w v l) (k : Kept K w w') (hk : ∀ g, v.ownBlock = some g → K g) : OwnG w' v l := by
  refine ⟨h.1, ?_⟩
  rcases h.2 with hn | ⟨g, cap, cur, rfl, hb, hgg, rest⟩
  · exact .inl hn
  · exact .inr ⟨g, cap, cur, rfl, hb, k.row (hk g rfl) hgg, rest⟩
theorem OwnG.ext {w w' : World} {v : Value} {l : Sts} (h : OwnG w v l) (e : Ext w w') : OwnG w' v l := h.kept (K := fun _ => True) (Kept.of_ext e) (fun _ _ => trivial)
theorem OwnG.row {w : World} {v : Value} {l : Sts} (h : OwnG w v l) : RowK (fun i => v.ownBlock = some i) w v 2 (gcells l) := by
  rcases h.2 with ⟨rfl, h0⟩ | ⟨g, cap, cur, rfl, hb, hg, h1, h2, _, ht⟩
  · have : l = [] := List.eq_nil_of_length_eq_zero h0
    subst this
    exact RowK.nil _ w 2
  · exact ⟨_, _, _, rfl, h.1, h1, h2, fun _ => ⟨g, 0, rfl, rfl, fun j u hu => by
      have := World.ownsRow.cells h (g := g) rfl j u hu
      rwa [Addr.add_mid] at this⟩⟩

theorem size_pair : (Try.prog.info? 55).map (·.size) = some 2 := by kernel_rfl

/-- a row's cells, as elements and what is spare -/
theorem own_of_row {w : World} {g cap n : Nat} {l : Sts} {Y : List Value} (hn : l.length = n) (hg : w.heap[g]? = some (.cells (gcells l ++ Y).toArray 55 (0, 0))) (hnc : n ≤ cap) (hcm : cap ≤ maxLen) (hl : (gcells l ++ Y).length = cap * 2) :
    OwnG w (.slice (some ⟨g, 0, none⟩) n cap) l := by
  subst hn
  refine ⟨gcells_length l, .inr ⟨g, cap, _, rfl, Nat.zero_le _, hg, hnc, hcm, by simpa using hl, ?_⟩⟩
  rw [← gcells_length l]
  exact List.take_left

/-- a row's block -/
theorem OwnG.at {w : World} {v : Value} {l : Sts} (h : OwnG w v l) : (v = .slice none 0 0 ∧ l = []) ∨
    ∃ g cap L, v = .slice (some ⟨g, 0, none⟩) l.length cap ∧ w.heap[g]? = some (.cells (List.toArray L) 55 (0, 0)) ∧ l.length ≤ cap ∧ cap ≤ maxLen ∧ L.length = cap * 2 ∧ L.take (l.length * 2) = gcells l := by
  rcases h.2 with ⟨rfl, h0⟩ | ⟨g, cap, cur, rfl, hb, hg, h1, h2, h3, h4⟩
  · exact .inl ⟨rfl, List.eq_nil_of_length_eq_zero h0⟩
  · exact .inr ⟨g, cap, cur.toList, rfl, by rw [Array.toArray_toList]; exact hg, h1, h2, by rw [Array.length_toList]; exact h3, h4⟩

/-- elements put behind a row of one's own -/
theorem append_pairs (w : World) (v : Value) (xs : Sts) (hown : OwnG w v xs) (g m c : Nat) (V : List Value) (ys : Sts) (hg : w.heap[g]? = some (.cells V.toArray 55 (0, 0))) (hm : ys.length = m) (ht : V.take (m * 2) = gcells ys) (hl : xs.length + ys.length ≤ 100000) :
    ∃ v' w', (Builtin.append_ #[26, 26] 26 #[v, .slice (some ⟨g, 0, none⟩) m c]).run Try.prog w = .ok v' w' ∧ OwnG w' v' (xs ++ ys) ∧ w.grownBy w' v.ownBlock ∧ (v'.ownBlock = v.ownBlock ∨ v'.ownBlock = some w.heap.size) := by
  obtain ⟨i0, hi, hz0, hz1, hz2⟩ := info_parts info_pair
  have src : ∀ j u, (gcells ys)[j]? = some u → w.cell? ((⟨g, 0, none⟩ : Addr).add j) = some u := row_src hg (by rw [List.drop_zero, ← ht]; exact List.take_prefix _ _)
  have yl : (gcells ys).length = m * 2 := by rw [gcells_length, hm]
  obtain ⟨v', w', r, o, gb, _⟩ := run_append_own (P := Try.prog) w 0 26 26 55 i0 (.agg #[.int .i64 0, .int .i64 0]) 2 16 Try.underlying26 hi hz0 hz1 hz2 rfl (by decide) v xs.length (gcells xs) hown ⟨g, 0, none⟩ m c (gcells ys) yl src (gcells_one ys) (by unfold maxLen; omega) (by omega) (Nat.zero_le _)
  refine ⟨v', w', r, ?_, gb, ?_⟩
  · unfold OwnG
    rw [List.length_append, gcells_append, hm]
    exact o
  · rcases hown.at with ⟨rfl, rfl⟩ | ⟨b, cap, L, rfl, hgb, hnc, hcm, hL, htk⟩
    · rcases Nat.eq_zero_or_pos m with h0 | h0
      · subst h0
        have hy : ys = [] := List.eq_nil_of_length_eq_zero hm
        subst hy
        have : (Builtin.append_ #[26, 26] 26 #[.slice none 0 0, .slice (some ⟨g, 0, none⟩) 0 c]).run Try.prog w = .ok (.slice none 0 0) w := by
          simp [Builtin.append_, run_underlying Try.underlying26, sizeOf, typeInfo, hi, Builtin.lenOf, Builtin.firstCells, loadCells, loadCellsFrom]
        rw [this] at r
        cases r
        exact .inl rfl
      · have hr := run_append_nil (P := Try.prog) w 26 26 55 i0 _ Try.underlying26 hi hz0 ⟨g, 0, none⟩ m c (gcells ys) (by rw [hz1]; exact yl) src h0 (by omega) (by rw [hz2]; omega)
        rw [hr] at r
        cases r
        exact .inr rfl
    · by_cases hroom : xs.length + m ≤ cap
      · have hr := run_append_room (P := Try.prog) w 26 26 55 i0 Try.underlying26 hi b xs.length cap _ hgb ⟨g, 0, none⟩ m c (gcells ys) (by rw [hz1]; exact yl) src (gcells_one ys) hroom (by rw [hz1, yl, List.size_toArray, hL]; omega)
        rw [hr] at r
        cases r
        exact .inl rfl
      · have holds : ∀ j u, (gcells xs)[j]? = some u → w.cell? ((⟨b, 0, none⟩ : Addr).add j) = some u := World.ownsRow.cells hown (g := b) rfl
        have hr := run_append_grow (P := Try.prog) w 26 26 55 i0 _ Try.underlying26 hi hz0 ⟨b, 0, none⟩ xs.length cap (gcells xs) (by rw [hz1, gcells_length]) holds ⟨g, 0, none⟩ m c (gcells ys) (by rw [hz1]; exact yl) src (by omega) (by omega) (growslice_fits (by omega) (by rw [hz2]; omega))
        rw [hr] at r
        cases r
        exact .inr rfl

/-- stretches that the walk makes: where they lie is new -/
def NewG (w wr : World) (v : Value) (l : Sts) : Prop := OwnG wr v l ∧ (∀ k, v.ownBlock = some k → w.heap.size ≤ k) ∧ Ext w wr
theorem NewG.nil (w : World) : NewG w w (.slice none 0 0) [] := ⟨World.ownsRow_nil _ _ _ _, fun k hk => by simp [Value.ownBlock] at hk, Ext.refl w⟩
theorem NewG.step {w wr : World} {v : Value} {xs : Sts} (h : NewG w wr v xs) (x y : Int) (hl : xs.length ≤ 20000) :
    ∃ v' w', (Builtin.append_ #[26, 26] 26 #[v, .slice (some ⟨wr.heap.size, 0, none⟩) 1 1]).run Try.prog (wr.alloc (.cells #[.int .i64 x, .int .i64 y] 55)) = .ok v' w' ∧ NewG w w' v' (xs ++ [(x, y)]) := by
  obtain ⟨o, hk, X⟩ := h
  have Y := (Ext.refl wr).alloc (.cells #[.int .i64 x, .int .i64 y] 55)
  have n1 := heap_alloc_new wr (.cells #[.int .i64 x, .int .i64 y] 55)
  have s1 : (wr.alloc (.cells #[.int .i64 x, .int .i64 y] 55)).heap.size = wr.heap.size + 1 := by simp
  obtain ⟨v', w', r, o', gb, hb'⟩ := append_pairs _ v xs (o.ext Y) wr.heap.size 1 1 [.int .i64 x, .int .i64 y] [(x, y)] n1 rfl rfl (by simp; omega)
  have x1 := X.size
  refine ⟨v', w', r, o', ?_, (X.trans Y).rowed gb hk⟩
  intro k e
  rcases hb' with q | q
  · rw [q] at e; exact hk k e
  · rw [q] at e
    simp only [Option.some.injEq] at e
    omega
theorem NewG.row {w wr : World} {v : Value} {l : Sts} (h : NewG w wr v l) : RowK (fun i => w.heap.size ≤ i ∧ i < wr.heap.size) wr v 2 (gcells l) := by
  refine h.1.row.mono (by decide) fun i hi hk => ⟨h.2.1 i hk, hi⟩

theorem info_timer : (Try.prog.info? 60).map (fun i => (i.zero, i.size, i.bytes)) = some (some (.agg #[.int .i64 0, .int .i64 0]), 2, 16) := by kernel_rfl

/-- the stretches l lie in a row of one's own -/
def OwnT (w : World) (v : Value) (l : Sts) : Prop := w.ownsRow 0 60 2 v l.length (gcells l)

theorem OwnT.view {w : World} {v : Value} {l : Sts} (h : OwnT w v l) :
    ∃ ao c, v = .slice ao l.length c ∧ l.length ≤ c ∧ c ≤ maxLen ∧ ∀ k, k < l.length → ∃ g, ao = some ⟨g, 0, none⟩ ∧ w.cell? ⟨g, k * 2, none⟩ = some (.int .i64 (l.getD k (0, 0)).1) ∧ w.cell? ⟨g, k * 2 + 1, none⟩ = some (.int .i64 (l.getD k (0, 0)).2) := by
  have h' := h
  rcases h.2 with ⟨rfl, h0⟩ | ⟨g, cap, cur, rfl, hb, hg, h1, h2, _, ht⟩
  · exact ⟨none, 0, by rw [h0], by omega, Nat.zero_le _, fun k hk => by omega⟩
  · refine ⟨_, _, rfl, h1, h2, fun k hk => ⟨g, rfl, ?_, ?_⟩⟩
    · have := World.ownsRow.cells h' (g := g) rfl (k * 2) _ (gcells_at l k hk).1
      rwa [Addr.add_mid, Nat.zero_add] at this
    · have := World.ownsRow.cells h' (g := g) rfl (k * 2 + 1) _ (gcells_at l k hk).2
      rwa [Addr.add_mid, Nat.zero_add] at this
theorem OwnT.kept {K : Nat → Prop} {w w' : World} {v : Value} {l : Sts} (h : OwnT w v l) (k : Kept K w w') (hk : ∀ g, v.ownBlock = some g → K g) : OwnT w' v l := by
  refine ⟨h.1, ?_⟩
  rcases h.2 with hn | ⟨g, cap, cur, rfl, hb, hgg, rest⟩
  · exact .inl hn
  · exact .inr ⟨g, cap, cur, rfl, hb, k.row (hk g rfl) hgg, rest⟩
theorem OwnT.ext {w w' : World} {v : Value} {l : Sts} (h : OwnT w v l) (e : Ext w w') : OwnT w' v l := h.kept (K := fun _ => True) (Kept.of_ext e) (fun _ _ => trivial)
theorem OwnT.row {w : World} {v : Value} {l : Sts} (h : OwnT w v l) : RowK (fun i => v.ownBlock = some i) w v 2 (gcells l) := by
  rcases h.2 with ⟨rfl, h0⟩ | ⟨g, cap, cur, rfl, hb, hg, h1, h2, _, ht⟩
  · have : l = [] := List.eq_nil_of_length_eq_zero h0
    subst this
    exact RowK.nil _ w 2
  · exact ⟨_, _, _, rfl, h.1, h1, h2, fun _ => ⟨g, 0, rfl, rfl, fun j u hu => by
      have := World.ownsRow.cells h (g := g) rfl j u hu
      rwa [Addr.add_mid] at this⟩⟩

theorem size_timer : (Try.prog.info? 60).map (·.size) = some 2 := by kernel_rfl

/-- a row's cells, as elements and what is spare -/
theorem own_of_rowT {w : World} {g cap n : Nat} {l : Sts} {Y : List Value} (hn : l.length = n) (hg : w.heap[g]? = some (.cells (gcells l ++ Y).toArray 60 (0, 0))) (hnc : n ≤ cap) (hcm : cap ≤ maxLen) (hl : (gcells l ++ Y).length = cap * 2) :
    OwnT w (.slice (some ⟨g, 0, none⟩) n cap) l := by
  subst hn
  refine ⟨gcells_length l, .inr ⟨g, cap, _, rfl, Nat.zero_le _, hg, hnc, hcm, by simpa using hl, ?_⟩⟩
  rw [← gcells_length l]
  exact List.take_left

/-- a row's block -/
theorem OwnT.at {w : World} {v : Value} {l : Sts} (h : OwnT w v l) : (v = .slice none 0 0 ∧ l = []) ∨
    ∃ g cap L, v = .slice (some ⟨g, 0, none⟩) l.length cap ∧ w.heap[g]? = some (.cells (List.toArray L) 60 (0, 0)) ∧ l.length ≤ cap ∧ cap ≤ maxLen ∧ L.length = cap * 2 ∧ L.take (l.length * 2) = gcells l := by
  rcases h.2 with ⟨rfl, h0⟩ | ⟨g, cap, cur, rfl, hb, hg, h1, h2, h3, h4⟩
  · exact .inl ⟨rfl, List.eq_nil_of_length_eq_zero h0⟩
  · exact .inr ⟨g, cap, cur.toList, rfl, by rw [Array.toArray_toList]; exact hg, h1, h2, by rw [Array.length_toList]; exact h3, h4⟩

/-- elements put behind a row of one's own -/
theorem append_timers (w : World) (v : Value) (xs : Sts) (hown : OwnT w v xs) (g m c : Nat) (V : List Value) (ys : Sts) (hg : w.heap[g]? = some (.cells V.toArray 60 (0, 0))) (hm : ys.length = m) (ht : V.take (m * 2) = gcells ys) (hl : xs.length + ys.length ≤ 100000) :
    ∃ v' w', (Builtin.append_ #[47, 47] 47 #[v, .slice (some ⟨g, 0, none⟩) m c]).run Try.prog w = .ok v' w' ∧ OwnT w' v' (xs ++ ys) ∧ w.grownBy w' v.ownBlock ∧ (v'.ownBlock = v.ownBlock ∨ v'.ownBlock = some w.heap.size) := by
  obtain ⟨i0, hi, hz0, hz1, hz2⟩ := info_parts info_timer
  have src : ∀ j u, (gcells ys)[j]? = some u → w.cell? ((⟨g, 0, none⟩ : Addr).add j) = some u := row_src hg (by rw [List.drop_zero, ← ht]; exact List.take_prefix _ _)
  have yl : (gcells ys).length = m * 2 := by rw [gcells_length, hm]
  obtain ⟨v', w', r, o, gb, _⟩ := run_append_own (P := Try.prog) w 0 47 47 60 i0 (.agg #[.int .i64 0, .int .i64 0]) 2 16 Try.underlying47 hi hz0 hz1 hz2 rfl (by decide) v xs.length (gcells xs) hown ⟨g, 0, none⟩ m c (gcells ys) yl src (gcells_one ys) (by unfold maxLen; omega) (by omega) (Nat.zero_le _)
  refine ⟨v', w', r, ?_, gb, ?_⟩
  · unfold OwnT
    rw [List.length_append, gcells_append, hm]
    exact o
  · rcases hown.at with ⟨rfl, rfl⟩ | ⟨b, cap, L, rfl, hgb, hnc, hcm, hL, htk⟩
    · rcases Nat.eq_zero_or_pos m with h0 | h0
      · subst h0
        have hy : ys = [] := List.eq_nil_of_length_eq_zero hm
        subst hy
        have : (Builtin.append_ #[47, 47] 47 #[.slice none 0 0, .slice (some ⟨g, 0, none⟩) 0 c]).run Try.prog w = .ok (.slice none 0 0) w := by
          simp [Builtin.append_, run_underlying Try.underlying47, sizeOf, typeInfo, hi, Builtin.lenOf, Builtin.firstCells, loadCells, loadCellsFrom]
        rw [this] at r
        cases r
        exact .inl rfl
      · have hr := run_append_nil (P := Try.prog) w 47 47 60 i0 _ Try.underlying47 hi hz0 ⟨g, 0, none⟩ m c (gcells ys) (by rw [hz1]; exact yl) src h0 (by omega) (by rw [hz2]; omega)
        rw [hr] at r
        cases r
        exact .inr rfl
    · by_cases hroom : xs.length + m ≤ cap
      · have hr := run_append_room (P := Try.prog) w 47 47 60 i0 Try.underlying47 hi b xs.length cap _ hgb ⟨g, 0, none⟩ m c (gcells ys) (by rw [hz1]; exact yl) src (gcells_one ys) hroom (by rw [hz1, yl, List.size_toArray, hL]; omega)
        rw [hr] at r
        cases r
        exact .inl rfl
      · have holds : ∀ j u, (gcells xs)[j]? = some u → w.cell? ((⟨b, 0, none⟩ : Addr).add j) = some u := World.ownsRow.cells hown (g := b) rfl
        have hr := run_append_grow (P := Try.prog) w 47 47 60 i0 _ Try.underlying47 hi hz0 ⟨b, 0, none⟩ xs.length cap (gcells xs) (by rw [hz1, gcells_length]) holds ⟨g, 0, none⟩ m c (gcells ys) (by rw [hz1]; exact yl) src (by omega) (by omega) (growslice_fits (by omega) (by rw [hz2]; omega))
        rw [hr] at r
        cases r
        exact .inr rfl

/-- stretches that the walk makes: where they lie is new -/
def NewT (w wr : World) (v : Value) (l : Sts) : Prop := OwnT wr v l ∧ (∀ k, v.ownBlock = some k → w.heap.size ≤ k) ∧ Ext w wr
theorem NewT.nil (w : World) : NewT w w (.slice none 0 0) [] := ⟨World.ownsRow_nil _ _ _ _, fun k hk => by simp [Value.ownBlock] at hk, Ext.refl w⟩
theorem NewT.step {w wr : World} {v : Value} {xs : Sts} (h : NewT w wr v xs) (x y : Int) (hl : xs.length ≤ 20000) :
    ∃ v' w', (Builtin.append_ #[47, 47] 47 #[v, .slice (some ⟨wr.heap.size, 0, none⟩) 1 1]).run Try.prog (wr.alloc (.cells #[.int .i64 x, .int .i64 y] 60)) = .ok v' w' ∧ NewT w w' v' (xs ++ [(x, y)]) := by
  obtain ⟨o, hk, X⟩ := h
  have Y := (Ext.refl wr).alloc (.cells #[.int .i64 x, .int .i64 y] 60)
  have n1 := heap_alloc_new wr (.cells #[.int .i64 x, .int .i64 y] 60)
  have s1 : (wr.alloc (.cells #[.int .i64 x, .int .i64 y] 60)).heap.size = wr.heap.size + 1 := by simp
  obtain ⟨v', w', r, o', gb, hb'⟩ := append_timers _ v xs (o.ext Y) wr.heap.size 1 1 [.int .i64 x, .int .i64 y] [(x, y)] n1 rfl rfl (by simp; omega)
  have x1 := X.size
  refine ⟨v', w', r, o', ?_, (X.trans Y).rowed gb hk⟩
  intro k e
  rcases hb' with q | q
  · rw [q] at e; exact hk k e
  · rw [q] at e
    simp only [Option.some.injEq] at e
    omega
theorem NewT.row {w wr : World} {v : Value} {l : Sts} (h : NewT w wr v l) : RowK (fun i => w.heap.size ≤ i ∧ i < wr.heap.size) wr v 2 (gcells l) := by
  refine h.1.row.mono (by decide) fun i hi hk => ⟨h.2.1 i hk, hi⟩

end Go.Proofs.Ythokjkkhkcdceaa

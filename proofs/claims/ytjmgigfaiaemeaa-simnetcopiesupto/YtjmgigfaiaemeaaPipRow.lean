/-
  Rows of messages, of the reference's messages, of bytes: a slice of one's own, what is put behind it. (Texts of WhlRow, CrcMem, CrcSumsW, at these types.)
-/
import Derived.Test.YtjmgigfaiaemeaaMCore
import Derived.Test.YtjmgigfaiaemeaaMMath
import Derived.WalkKit
import Derived.WalkSpells
import Derived.WalkLawsBesides
import Derived.Handy
import Derived.OwnWalk
import Derived.Maps.AppendAt
import Derived.Laws.ShiftsVarLaws
import Derived.Laws.AppendOwnNone
import Derived.Deep.OwnRows
import Derived.Deep.QuietTactic
import Derived.BigQuiet
import Derived.BigRegion
namespace Go.Proofs.Ytjmgigfaiaemeaa.Pip
set_option linter.unusedVariables false
set_option maxRecDepth 100000
open Go.RowKit Go.Lib

abbrev Mv := List (Int × Sl)

def mcells (l : Mv) : List Value := l.flatMap fun g => [.int .i64 g.1, sval g.2]
theorem mcells_length (l : Mv) : (mcells l).length = l.length * 2 := by
  induction l with
  | nil => rfl
  | cons g l ih => simp only [mcells, List.flatMap_cons, List.length_append, List.length_cons, List.length_nil] at ih ⊢; omega
theorem mcells_at (l : Mv) : ∀ k, k < l.length → (mcells l)[k * 2]? = some (.int .i64 (l.getD k (0, (none, 0, 0))).1) ∧ (mcells l)[k * 2 + 1]? = some (sval (l.getD k (0, (none, 0, 0))).2) := by
  induction l with
  | nil => intro k h; simp at h
  | cons g l ih =>
    intro k h
    cases k with
    | zero => simp [mcells]
    | succ k =>
      have := ih k (by simpa using h)
      have e1 : (k + 1) * 2 = k * 2 + 1 + 1 := by omega
      rw [e1]
      simpa [mcells] using this
theorem mcells_append (a b : Mv) : mcells (a ++ b) = mcells a ++ mcells b := by simp [mcells]
theorem mcells_one (l : Mv) : ∀ u ∈ mcells l, u.oneCell' = true := by
  intro u hu
  simp only [mcells, List.mem_flatMap, List.mem_cons, List.not_mem_nil, or_false] at hu
  obtain ⟨p, _, rfl | rfl⟩ := hu <;> rfl
theorem mcells_take (l : Mv) : ∀ k, mcells (l.take k) = (mcells l).take (k * 2) := by
  induction l with
  | nil => intro k; simp [mcells]
  | cons p r ih =>
    intro k
    cases k with
    | zero => simp [mcells]
    | succ k =>
      have := ih k
      simp only [mcells] at this
      rw [show (k + 1) * 2 = k * 2 + 1 + 1 by omega]
      simp [mcells, this]
theorem mcells_drop (l : Mv) : ∀ k, mcells (l.drop k) = (mcells l).drop (k * 2) := by
  induction l with
  | nil => intro k; simp [mcells]
  | cons p r ih =>
    intro k
    cases k with
    | zero => simp
    | succ k =>
      have := ih k
      simp only [mcells] at this
      rw [show (k + 1) * 2 = k * 2 + 1 + 1 by omega]
      simp [mcells, this]


def rcells (l : Ms) : List Value := l.flatMap fun g => [.int .i64 g.1, .string (str g.2)]
theorem rcells_length (l : Ms) : (rcells l).length = l.length * 2 := by
  induction l with
  | nil => rfl
  | cons g l ih => simp only [rcells, List.flatMap_cons, List.length_append, List.length_cons, List.length_nil] at ih ⊢; omega
theorem rcells_at (l : Ms) : ∀ k, k < l.length → (rcells l)[k * 2]? = some (.int .i64 (l.getD k (0, [])).1) ∧ (rcells l)[k * 2 + 1]? = some (.string (str (l.getD k (0, [])).2)) := by
  induction l with
  | nil => intro k h; simp at h
  | cons g l ih =>
    intro k h
    cases k with
    | zero => simp [rcells]
    | succ k =>
      have := ih k (by simpa using h)
      have e1 : (k + 1) * 2 = k * 2 + 1 + 1 := by omega
      rw [e1]
      simpa [rcells] using this
theorem rcells_append (a b : Ms) : rcells (a ++ b) = rcells a ++ rcells b := by simp [rcells]
theorem rcells_one (l : Ms) : ∀ u ∈ rcells l, u.oneCell' = true := by
  intro u hu
  simp only [rcells, List.mem_flatMap, List.mem_cons, List.not_mem_nil, or_false] at hu
  obtain ⟨p, _, rfl | rfl⟩ := hu <;> rfl
theorem rcells_take (l : Ms) : ∀ k, rcells (l.take k) = (rcells l).take (k * 2) := by
  induction l with
  | nil => intro k; simp [rcells]
  | cons p r ih =>
    intro k
    cases k with
    | zero => simp [rcells]
    | succ k =>
      have := ih k
      simp only [rcells] at this
      rw [show (k + 1) * 2 = k * 2 + 1 + 1 by omega]
      simp [rcells, this]
theorem rcells_drop (l : Ms) : ∀ k, rcells (l.drop k) = (rcells l).drop (k * 2) := by
  induction l with
  | nil => intro k; simp [rcells]
  | cons p r ih =>
    intro k
    cases k with
    | zero => simp
    | succ k =>
      have := ih k
      simp only [rcells] at this
      rw [show (k + 1) * 2 = k * 2 + 1 + 1 by omega]
      simp [rcells, this]

theorem min_to {a b c : Nat} (h : (a ≤ b ∧ a = c) ∨ (b ≤ a ∧ b = c)) : Nat.min a b = c := by
  have : Nat.min a b = if a ≤ b then a else b := Nat.min_def
  rw [this]
  split <;> omega
theorem goInt_sub {a b : Nat} (h : b ≤ a) : goInt ((a - b : Nat) : Int) = goInt ((a : Int) - (b : Int)) := by rw [Int.ofNat_sub h]
theorem grown_set (w : World) (g : Nat) (cs : Array Value) : w.grownBy (w.setRow g cs) (some g) := ⟨rfl, rfl, rfl, by simp, fun k _ hk => setRow_other w g k cs (fun e => hk (by rw [e]))⟩
theorem grown_drawn {w w' : World} {row : Option Nat} (h : w.grownBy w' row) (n : Nat) : w.grownBy (w'.drewN n) row := ⟨h.os, h.tape, h.output, h.size, h.block⟩
theorem grown_from {w w' : World} {row : Option Nat} {n : Nat} (h : (w.drewN n).grownBy w' row) : w.grownBy w' row := ⟨h.os, h.tape, h.output, h.size, h.block⟩
theorem grown_then {a b c : World} {row : Option Nat} (h : a.grownBy b row) (k : b.grownBy c row) : a.grownBy c row :=
  ⟨k.os.trans h.os, k.tape.trans h.tape, k.output.trans h.output, Nat.le_trans h.size k.size, fun i hi hr => (k.block i (Nat.lt_of_lt_of_le hi h.size) hr).trans (h.block i hi hr)⟩

theorem info_msg : (Try.prog.info? 99).map (fun i => (i.zero, i.size, i.bytes)) = some (some (.agg #[.int .i64 0, .slice none 0 0]), 2, 32) := by kernel_rfl

/-- the stretches l lie in a row of one's own -/
def OwnM (w : World) (v : Value) (l : Mv) : Prop := w.ownsRow 0 99 2 v l.length (mcells l)

theorem OwnM.view {w : World} {v : Value} {l : Mv} (h : OwnM w v l) :
    ∃ ao c, v = .slice ao l.length c ∧ l.length ≤ c ∧ c ≤ maxLen ∧ ∀ k, k < l.length → ∃ g, ao = some ⟨g, 0, none⟩ ∧ w.cell? ⟨g, k * 2, none⟩ = some (.int .i64 (l.getD k (0, (none, 0, 0))).1) ∧ w.cell? ⟨g, k * 2 + 1, none⟩ = some (sval (l.getD k (0, (none, 0, 0))).2) := by
  have h' := h
  rcases h.2 with ⟨rfl, h0⟩ | ⟨g, cap, cur, rfl, hb, hg, h1, h2, _, ht⟩
  · exact ⟨none, 0, by rw [h0], by omega, Nat.zero_le _, fun k hk => by omega⟩
  · refine ⟨_, _, rfl, h1, h2, fun k hk => ⟨g, rfl, ?_, ?_⟩⟩
    · have := World.ownsRow.cells h' (g := g) rfl (k * 2) _ (mcells_at l k hk).1
      rwa [Addr.add_mid, Nat.zero_add] at this
    · have := World.ownsRow.cells h' (g := g) rfl (k * 2 + 1) _ (mcells_at l k hk).2
      rwa [Addr.add_mid, Nat.zero_add] at this
theorem OwnM.kept {K : Nat → Prop} {w w' : World} {v : Value} {l : Mv} (h : OwnM w v l) (k : Kept K w w') (hk : ∀ g, v.ownBlock = some g → K g) : OwnM w' v l := by
  refine ⟨h.1, ?_⟩
  rcases h.2 with hn | ⟨g, cap, cur, rfl, hb, hgg, rest⟩
  · exact .inl hn
  · exact .inr ⟨g, cap, cur, rfl, hb, k.row (hk g rfl) hgg, rest⟩
theorem OwnM.ext {w w' : World} {v : Value} {l : Mv} (h : OwnM w v l) (e : Ext w w') : OwnM w' v l := h.kept (K := fun _ => True) (Kept.of_ext e) (fun _ _ => trivial)
theorem OwnM.row {w : World} {v : Value} {l : Mv} (h : OwnM w v l) : RowK (fun i => v.ownBlock = some i) w v 2 (mcells l) := by
  rcases h.2 with ⟨rfl, h0⟩ | ⟨g, cap, cur, rfl, hb, hg, h1, h2, _, ht⟩
  · have : l = [] := List.eq_nil_of_length_eq_zero h0
    subst this
    exact RowK.nil _ w 2
  · exact ⟨_, _, _, rfl, h.1, h1, h2, fun _ => ⟨g, 0, rfl, rfl, fun j u hu => by
      have := World.ownsRow.cells h (g := g) rfl j u hu
      rwa [Addr.add_mid] at this⟩⟩

theorem size_msg : (Try.prog.info? 99).map (·.size) = some 2 := by kernel_rfl

/-- a row's cells, as elements and what is spare -/
theorem own_of_rowM {w : World} {g cap n : Nat} {l : Mv} {Y : List Value} (hn : l.length = n) (hg : w.heap[g]? = some (.cells (mcells l ++ Y).toArray 99 (0, 0))) (hnc : n ≤ cap) (hcm : cap ≤ maxLen) (hl : (mcells l ++ Y).length = cap * 2) :
    OwnM w (.slice (some ⟨g, 0, none⟩) n cap) l := by
  subst hn
  refine ⟨mcells_length l, .inr ⟨g, cap, _, rfl, Nat.zero_le _, hg, hnc, hcm, by simpa using hl, ?_⟩⟩
  rw [← mcells_length l]
  exact List.take_left

/-- a row's block -/
theorem OwnM.at {w : World} {v : Value} {l : Mv} (h : OwnM w v l) : (v = .slice none 0 0 ∧ l = []) ∨
    ∃ g cap L, v = .slice (some ⟨g, 0, none⟩) l.length cap ∧ w.heap[g]? = some (.cells (List.toArray L) 99 (0, 0)) ∧ l.length ≤ cap ∧ cap ≤ maxLen ∧ L.length = cap * 2 ∧ L.take (l.length * 2) = mcells l := by
  rcases h.2 with ⟨rfl, h0⟩ | ⟨g, cap, cur, rfl, hb, hg, h1, h2, h3, h4⟩
  · exact .inl ⟨rfl, List.eq_nil_of_length_eq_zero h0⟩
  · exact .inr ⟨g, cap, cur.toList, rfl, by rw [Array.toArray_toList]; exact hg, h1, h2, by rw [Array.length_toList]; exact h3, h4⟩

/-- elements put behind a row of one's own -/
theorem append_msgs (w : World) (v : Value) (xs : Mv) (hown : OwnM w v xs) (g m c : Nat) (V : List Value) (ys : Mv) (hg : w.heap[g]? = some (.cells V.toArray 99 (0, 0))) (hm : ys.length = m) (ht : V.take (m * 2) = mcells ys) (hl : xs.length + ys.length ≤ 100000) :
    ∃ v' w', (Builtin.append_ #[94, 94] 94 #[v, .slice (some ⟨g, 0, none⟩) m c]).run Try.prog w = .ok v' w' ∧ OwnM w' v' (xs ++ ys) ∧ w.grownBy w' v.ownBlock ∧ (v'.ownBlock = v.ownBlock ∨ v'.ownBlock = some w.heap.size) := by
  obtain ⟨i0, hi, hz0, hz1, hz2⟩ := info_parts info_msg
  have src : ∀ j u, (mcells ys)[j]? = some u → w.cell? ((⟨g, 0, none⟩ : Addr).add j) = some u := row_src hg (by rw [List.drop_zero, ← ht]; exact List.take_prefix _ _)
  have yl : (mcells ys).length = m * 2 := by rw [mcells_length, hm]
  obtain ⟨v', w', r, o, gb, _⟩ := run_append_own (P := Try.prog) w 0 94 94 99 i0 (.agg #[.int .i64 0, .slice none 0 0]) 2 32 Try.underlying94 hi hz0 hz1 hz2 rfl (by decide) v xs.length (mcells xs) hown ⟨g, 0, none⟩ m c (mcells ys) yl src (mcells_one ys) (by unfold maxLen; omega) (by omega) (Nat.zero_le _)
  refine ⟨v', w', r, ?_, gb, ?_⟩
  · unfold OwnM
    rw [List.length_append, mcells_append, hm]
    exact o
  · rcases hown.at with ⟨rfl, rfl⟩ | ⟨b, cap, L, rfl, hgb, hnc, hcm, hL, htk⟩
    · rcases Nat.eq_zero_or_pos m with h0 | h0
      · subst h0
        have hy : ys = [] := List.eq_nil_of_length_eq_zero hm
        subst hy
        have : (Builtin.append_ #[94, 94] 94 #[.slice none 0 0, .slice (some ⟨g, 0, none⟩) 0 c]).run Try.prog w = .ok (.slice none 0 0) w := by
          simp [Builtin.append_, run_underlying Try.underlying94, sizeOf, typeInfo, hi, Builtin.lenOf, Builtin.firstCells, loadCells, loadCellsFrom]
        rw [this] at r
        cases r
        exact .inl rfl
      · have hr := run_append_nil (P := Try.prog) w 94 94 99 i0 _ Try.underlying94 hi hz0 ⟨g, 0, none⟩ m c (mcells ys) (by rw [hz1]; exact yl) src h0 (by omega) (by rw [hz2]; omega)
        rw [hr] at r
        cases r
        exact .inr rfl
    · by_cases hroom : xs.length + m ≤ cap
      · have hr := run_append_room (P := Try.prog) w 94 94 99 i0 Try.underlying94 hi b xs.length cap _ hgb ⟨g, 0, none⟩ m c (mcells ys) (by rw [hz1]; exact yl) src (mcells_one ys) hroom (by rw [hz1, yl, List.size_toArray, hL]; omega)
        rw [hr] at r
        cases r
        exact .inl rfl
      · have holds : ∀ j u, (mcells xs)[j]? = some u → w.cell? ((⟨b, 0, none⟩ : Addr).add j) = some u := World.ownsRow.cells hown (g := b) rfl
        have hr := run_append_grow (P := Try.prog) w 94 94 99 i0 _ Try.underlying94 hi hz0 ⟨b, 0, none⟩ xs.length cap (mcells xs) (by rw [hz1, mcells_length]) holds ⟨g, 0, none⟩ m c (mcells ys) (by rw [hz1]; exact yl) src (by omega) (by omega) (growslice_fits (by omega) (by rw [hz2]; omega))
        rw [hr] at r
        cases r
        exact .inr rfl

/-- stretches that the walk makes: where they lie is new -/
def NewM (w wr : World) (v : Value) (l : Mv) : Prop := OwnM wr v l ∧ (∀ k, v.ownBlock = some k → w.heap.size ≤ k) ∧ Ext w wr
theorem NewM.nil (w : World) : NewM w w (.slice none 0 0) [] := ⟨World.ownsRow_nil _ _ _ _, fun k hk => by simp [Value.ownBlock] at hk, Ext.refl w⟩
theorem NewM.step {w wr : World} {v : Value} {xs : Mv} (h : NewM w wr v xs) (x : Int) (y : Sl) (hl : xs.length ≤ 20000) :
    ∃ v' w', (Builtin.append_ #[94, 94] 94 #[v, .slice (some ⟨wr.heap.size, 0, none⟩) 1 1]).run Try.prog (wr.alloc (.cells #[.int .i64 x, sval y] 99)) = .ok v' w' ∧ NewM w w' v' (xs ++ [(x, y)]) := by
  obtain ⟨o, hk, X⟩ := h
  have Y := (Ext.refl wr).alloc (.cells #[.int .i64 x, sval y] 99)
  have n1 := heap_alloc_new wr (.cells #[.int .i64 x, sval y] 99)
  have s1 : (wr.alloc (.cells #[.int .i64 x, sval y] 99)).heap.size = wr.heap.size + 1 := by simp
  obtain ⟨v', w', r, o', gb, hb'⟩ := append_msgs _ v xs (o.ext Y) wr.heap.size 1 1 [.int .i64 x, sval y] [(x, y)] n1 rfl rfl (by simp; omega)
  have x1 := X.size
  refine ⟨v', w', r, o', ?_, (X.trans Y).by_row gb hk⟩
  intro k e
  rcases hb' with q | q
  · rw [q] at e; exact hk k e
  · rw [q] at e
    simp only [Option.some.injEq] at e
    omega
theorem NewM.row {w wr : World} {v : Value} {l : Mv} (h : NewM w wr v l) : RowK (fun i => w.heap.size ≤ i ∧ i < wr.heap.size) wr v 2 (mcells l) := by
  refine h.1.row.mono (by decide) fun i hi hk => ⟨h.2.1 i hk, hi⟩

theorem info_ref : (Try.prog.info? 106).map (fun i => (i.zero, i.size, i.bytes)) = some (some (.agg #[.int .i64 0, .string ⟨#[]⟩]), 2, 24) := by kernel_rfl

/-- the stretches l lie in a row of one's own -/
def OwnR (w : World) (v : Value) (l : Ms) : Prop := w.ownsRow 0 106 2 v l.length (rcells l)

theorem OwnR.view {w : World} {v : Value} {l : Ms} (h : OwnR w v l) :
    ∃ ao c, v = .slice ao l.length c ∧ l.length ≤ c ∧ c ≤ maxLen ∧ ∀ k, k < l.length → ∃ g, ao = some ⟨g, 0, none⟩ ∧ w.cell? ⟨g, k * 2, none⟩ = some (.int .i64 (l.getD k (0, [])).1) ∧ w.cell? ⟨g, k * 2 + 1, none⟩ = some (.string (str (l.getD k (0, [])).2)) := by
  have h' := h
  rcases h.2 with ⟨rfl, h0⟩ | ⟨g, cap, cur, rfl, hb, hg, h1, h2, _, ht⟩
  · exact ⟨none, 0, by rw [h0], by omega, Nat.zero_le _, fun k hk => by omega⟩
  · refine ⟨_, _, rfl, h1, h2, fun k hk => ⟨g, rfl, ?_, ?_⟩⟩
    · have := World.ownsRow.cells h' (g := g) rfl (k * 2) _ (rcells_at l k hk).1
      rwa [Addr.add_mid, Nat.zero_add] at this
    · have := World.ownsRow.cells h' (g := g) rfl (k * 2 + 1) _ (rcells_at l k hk).2
      rwa [Addr.add_mid, Nat.zero_add] at this
theorem OwnR.kept {K : Nat → Prop} {w w' : World} {v : Value} {l : Ms} (h : OwnR w v l) (k : Kept K w w') (hk : ∀ g, v.ownBlock = some g → K g) : OwnR w' v l := by
  refine ⟨h.1, ?_⟩
  rcases h.2 with hn | ⟨g, cap, cur, rfl, hb, hgg, rest⟩
  · exact .inl hn
  · exact .inr ⟨g, cap, cur, rfl, hb, k.row (hk g rfl) hgg, rest⟩
theorem OwnR.ext {w w' : World} {v : Value} {l : Ms} (h : OwnR w v l) (e : Ext w w') : OwnR w' v l := h.kept (K := fun _ => True) (Kept.of_ext e) (fun _ _ => trivial)
theorem OwnR.row {w : World} {v : Value} {l : Ms} (h : OwnR w v l) : RowK (fun i => v.ownBlock = some i) w v 2 (rcells l) := by
  rcases h.2 with ⟨rfl, h0⟩ | ⟨g, cap, cur, rfl, hb, hg, h1, h2, _, ht⟩
  · have : l = [] := List.eq_nil_of_length_eq_zero h0
    subst this
    exact RowK.nil _ w 2
  · exact ⟨_, _, _, rfl, h.1, h1, h2, fun _ => ⟨g, 0, rfl, rfl, fun j u hu => by
      have := World.ownsRow.cells h (g := g) rfl j u hu
      rwa [Addr.add_mid] at this⟩⟩

theorem size_ref : (Try.prog.info? 106).map (·.size) = some 2 := by kernel_rfl

/-- a row's cells, as elements and what is spare -/
theorem own_of_rowR {w : World} {g cap n : Nat} {l : Ms} {Y : List Value} (hn : l.length = n) (hg : w.heap[g]? = some (.cells (rcells l ++ Y).toArray 106 (0, 0))) (hnc : n ≤ cap) (hcm : cap ≤ maxLen) (hl : (rcells l ++ Y).length = cap * 2) :
    OwnR w (.slice (some ⟨g, 0, none⟩) n cap) l := by
  subst hn
  refine ⟨rcells_length l, .inr ⟨g, cap, _, rfl, Nat.zero_le _, hg, hnc, hcm, by simpa using hl, ?_⟩⟩
  rw [← rcells_length l]
  exact List.take_left

/-- a row's block -/
theorem OwnR.at {w : World} {v : Value} {l : Ms} (h : OwnR w v l) : (v = .slice none 0 0 ∧ l = []) ∨
    ∃ g cap L, v = .slice (some ⟨g, 0, none⟩) l.length cap ∧ w.heap[g]? = some (.cells (List.toArray L) 106 (0, 0)) ∧ l.length ≤ cap ∧ cap ≤ maxLen ∧ L.length = cap * 2 ∧ L.take (l.length * 2) = rcells l := by
  rcases h.2 with ⟨rfl, h0⟩ | ⟨g, cap, cur, rfl, hb, hg, h1, h2, h3, h4⟩
  · exact .inl ⟨rfl, List.eq_nil_of_length_eq_zero h0⟩
  · exact .inr ⟨g, cap, cur.toList, rfl, by rw [Array.toArray_toList]; exact hg, h1, h2, by rw [Array.length_toList]; exact h3, h4⟩

/-- elements put behind a row of one's own -/
theorem append_refs (w : World) (v : Value) (xs : Ms) (hown : OwnR w v xs) (g m c : Nat) (V : List Value) (ys : Ms) (hg : w.heap[g]? = some (.cells V.toArray 106 (0, 0))) (hm : ys.length = m) (ht : V.take (m * 2) = rcells ys) (hl : xs.length + ys.length ≤ 100000) :
    ∃ v' w', (Builtin.append_ #[78, 78] 78 #[v, .slice (some ⟨g, 0, none⟩) m c]).run Try.prog w = .ok v' w' ∧ OwnR w' v' (xs ++ ys) ∧ w.grownBy w' v.ownBlock ∧ (v'.ownBlock = v.ownBlock ∨ v'.ownBlock = some w.heap.size) := by
  obtain ⟨i0, hi, hz0, hz1, hz2⟩ := info_parts info_ref
  have src : ∀ j u, (rcells ys)[j]? = some u → w.cell? ((⟨g, 0, none⟩ : Addr).add j) = some u := row_src hg (by rw [List.drop_zero, ← ht]; exact List.take_prefix _ _)
  have yl : (rcells ys).length = m * 2 := by rw [rcells_length, hm]
  obtain ⟨v', w', r, o, gb, _⟩ := run_append_own (P := Try.prog) w 0 78 78 106 i0 (.agg #[.int .i64 0, .string ⟨#[]⟩]) 2 24 Try.underlying78 hi hz0 hz1 hz2 rfl (by decide) v xs.length (rcells xs) hown ⟨g, 0, none⟩ m c (rcells ys) yl src (rcells_one ys) (by unfold maxLen; omega) (by omega) (Nat.zero_le _)
  refine ⟨v', w', r, ?_, gb, ?_⟩
  · unfold OwnR
    rw [List.length_append, rcells_append, hm]
    exact o
  · rcases hown.at with ⟨rfl, rfl⟩ | ⟨b, cap, L, rfl, hgb, hnc, hcm, hL, htk⟩
    · rcases Nat.eq_zero_or_pos m with h0 | h0
      · subst h0
        have hy : ys = [] := List.eq_nil_of_length_eq_zero hm
        subst hy
        have : (Builtin.append_ #[78, 78] 78 #[.slice none 0 0, .slice (some ⟨g, 0, none⟩) 0 c]).run Try.prog w = .ok (.slice none 0 0) w := by
          simp [Builtin.append_, run_underlying Try.underlying78, sizeOf, typeInfo, hi, Builtin.lenOf, Builtin.firstCells, loadCells, loadCellsFrom]
        rw [this] at r
        cases r
        exact .inl rfl
      · have hr := run_append_nil (P := Try.prog) w 78 78 106 i0 _ Try.underlying78 hi hz0 ⟨g, 0, none⟩ m c (rcells ys) (by rw [hz1]; exact yl) src h0 (by omega) (by rw [hz2]; omega)
        rw [hr] at r
        cases r
        exact .inr rfl
    · by_cases hroom : xs.length + m ≤ cap
      · have hr := run_append_room (P := Try.prog) w 78 78 106 i0 Try.underlying78 hi b xs.length cap _ hgb ⟨g, 0, none⟩ m c (rcells ys) (by rw [hz1]; exact yl) src (rcells_one ys) hroom (by rw [hz1, yl, List.size_toArray, hL]; omega)
        rw [hr] at r
        cases r
        exact .inl rfl
      · have holds : ∀ j u, (rcells xs)[j]? = some u → w.cell? ((⟨b, 0, none⟩ : Addr).add j) = some u := World.ownsRow.cells hown (g := b) rfl
        have hr := run_append_grow (P := Try.prog) w 78 78 106 i0 _ Try.underlying78 hi hz0 ⟨b, 0, none⟩ xs.length cap (rcells xs) (by rw [hz1, rcells_length]) holds ⟨g, 0, none⟩ m c (rcells ys) (by rw [hz1]; exact yl) src (by omega) (by omega) (growslice_fits (by omega) (by rw [hz2]; omega))
        rw [hr] at r
        cases r
        exact .inr rfl

/-- stretches that the walk makes: where they lie is new -/
def NewR (w wr : World) (v : Value) (l : Ms) : Prop := OwnR wr v l ∧ (∀ k, v.ownBlock = some k → w.heap.size ≤ k) ∧ Ext w wr
theorem NewR.nil (w : World) : NewR w w (.slice none 0 0) [] := ⟨World.ownsRow_nil _ _ _ _, fun k hk => by simp [Value.ownBlock] at hk, Ext.refl w⟩
theorem NewR.step {w wr : World} {v : Value} {xs : Ms} (h : NewR w wr v xs) (x : Int) (y : List UInt8) (hl : xs.length ≤ 20000) :
    ∃ v' w', (Builtin.append_ #[78, 78] 78 #[v, .slice (some ⟨wr.heap.size, 0, none⟩) 1 1]).run Try.prog (wr.alloc (.cells #[.int .i64 x, .string (str y)] 106)) = .ok v' w' ∧ NewR w w' v' (xs ++ [(x, y)]) := by
  obtain ⟨o, hk, X⟩ := h
  have Y := (Ext.refl wr).alloc (.cells #[.int .i64 x, .string (str y)] 106)
  have n1 := heap_alloc_new wr (.cells #[.int .i64 x, .string (str y)] 106)
  have s1 : (wr.alloc (.cells #[.int .i64 x, .string (str y)] 106)).heap.size = wr.heap.size + 1 := by simp
  obtain ⟨v', w', r, o', gb, hb'⟩ := append_refs _ v xs (o.ext Y) wr.heap.size 1 1 [.int .i64 x, .string (str y)] [(x, y)] n1 rfl rfl (by simp; omega)
  have x1 := X.size
  refine ⟨v', w', r, o', ?_, (X.trans Y).by_row gb hk⟩
  intro k e
  rcases hb' with q | q
  · rw [q] at e; exact hk k e
  · rw [q] at e
    simp only [Option.some.injEq] at e
    omega
theorem NewR.row {w wr : World} {v : Value} {l : Ms} (h : NewR w wr v l) : RowK (fun i => w.heap.size ≤ i ∧ i < wr.heap.size) wr v 2 (rcells l) := by
  refine h.1.row.mono (by decide) fun i hi hk => ⟨h.2.1 i hk, hi⟩


end Go.Proofs.Ytjmgigfaiaemeaa.Pip

/-
  Walks of a meter's count and Add: what is kept of all that came.
-/
import Derived.Test.YtjdcccienbahjaaMeter
import Derived.Handy
namespace Go.Proofs.Ytjdcccienbahjaa
set_option linter.unusedVariables false
open Go.RowKit

theorem grown_trans {a b c : World} {row : Option Nat} (h : a.grownBy b row) (k : b.grownBy c row) : a.grownBy c row :=
  ⟨k.os.trans h.os, k.tape.trans h.tape, k.output.trans h.output, Nat.le_trans h.size k.size, fun i hi hr => (k.block i (Nat.lt_of_lt_of_le hi h.size) hr).trans (h.block i hi hr)⟩

theorem cell_two_new (w : World) (x y : Value) (t : TypeId) : ∀ (j : Nat) (u : Value), [x, y][j]? = some u → (w.alloc (.cells #[x, y] t)).cell? ((⟨w.heap.size, 0, none⟩ : Addr).add j) = some u := by
  intro j u hu
  rw [Addr.add_mid, Nat.zero_add, cell_of_row _ _ _ _ _ _ (heap_alloc_new w _)]
  match j, hu with
  | 0, hu => simpa using hu
  | 1, hu => simpa using hu

theorem cells2_set (m : Ams) (t q r : Int) : (cells2 (m ++ [(t, q)])).set (m.length * 2 + 1) (.int .i64 r) = cells2 (m ++ [(t, r)]) := by
  induction m with
  | nil => rfl
  | cons p l ih =>
    simp only [List.cons_append, cells2, List.length_cons]
    rw [show (l.length + 1) * 2 + 1 = l.length * 2 + 1 + 1 + 1 by omega, List.set_cons_succ, List.set_cons_succ, ih]

/-- the last amount, written anew -/
theorem Own.put {w : World} {base g c : Nat} {m : Ams} {t q r : Int} (h : Own w base (.slice (some ⟨g, 0, none⟩) (m.length + 1) c) (m ++ [(t, q)])) : Own (w.setCell ⟨g, m.length * 2 + 1, none⟩ (.int .i64 r)) base (.slice (some ⟨g, 0, none⟩) (m.length + 1) c) (m ++ [(t, r)]) := by
  obtain ⟨h1, h2⟩ := h
  refine ⟨by rw [cells2_length], ?_⟩
  rcases h2 with ⟨h2, _⟩ | ⟨g', cap, cur, e, hb, hg, hn, hm, hs, ht⟩
  · simp at h2
  · simp only [Value.slice.injEq, Option.some.injEq, Addr.mk.injEq] at e
    obtain ⟨⟨rfl, _, _⟩, h3, rfl⟩ := e
    refine .inr ⟨g, c, cur.setIfInBounds (m.length * 2 + 1) (.int .i64 r), by simp, hb, ?_, by simpa using hn, hm, by simpa using hs, ?_⟩
    · rw [setCell_eq_setRow w g _ cur _ _ _ hg, setRow_heap w g cur _ _ _ hg]
    · rw [Array.toList_setIfInBounds, List.take_set]
      have e2 : (m ++ [(t, r)]).length * 2 = (m ++ [(t, q)]).length * 2 := by simp
      rw [e2, ht, cells2_set]

/-- how an amount is counted -/
def Counted (l : Ams) (t n : Int) (l' : Ams) : Prop := (∃ m q, l = m ++ [(t, q)] ∧ l' = m ++ [(t, q + n)]) ∨ l' = l ++ [(t, n)]

theorem snoc_of {l : Ams} {k : Nat} (h : l.length = k + 1) : ∃ m p, l = m ++ [p] ∧ m.length = k := by
  refine ⟨l.take k, l.getD k (0, 0), ?_, by simp; omega⟩
  rw [← take_succ (by omega), ← h, List.take_length]

set_option maxHeartbeats 1000000 in
theorem count_put (base b g c k : Nat) (win last t q n : Int) (m : Ams) (w : World) (hb : Block w b win last (.slice (some ⟨g, 0, none⟩) (k + 1) c)) (hw : Own w base (.slice (some ⟨g, 0, none⟩) (k + 1) c) (m ++ [(t, q)])) (hk : m.length = k) (hl : k ≤ 100000) (h5 : 0 ≤ q) (h6 : q ≤ 1099511627776) (h7 : 0 ≤ n) (h8 : n ≤ 1099511627776) (hbb : base ≤ b) (hbs : base ≤ w.heap.size) :
    Calls Try.prog 23 #[.pointer (some ⟨b, 0, none⟩), .int .i64 t, .int .i64 n] w fun e w' => e = .returned (.tuple #[]) ∧ ∃ v', Block w' b win last v' ∧ Own w' base v' (m ++ [(t, q + n)]) ∧ Below base w w' ∧ Stays w w' := by
  have c2 := hb.c2
  obtain ⟨ao, cp, e, vw⟩ := hw.view
  obtain ⟨g', rfl, hg, ⟨cur, hgr⟩, x1, x2⟩ := vw k (by simp; omega)
  have eg : g' = g := by simp only [Value.slice.injEq, Option.some.injEq, Addr.mk.injEq] at e; exact e.1.1.symm
  subst eg
  have fr : w.frozen? ⟨g', k * 2 + 1, none⟩ = false := by simp [World.frozen?, hgr]
  have eg : (m ++ [(t, q)]).getD k (0, 0) = (t, q) := by simp [List.getD_eq_getElem?_getD, ← hk]
  rw [eg] at x1 x2
  simp only at x1 x2
  have R : Hid (∃ v', Block (w.setCell ⟨g', k * 2 + 1, none⟩ (.int .i64 (q + n))) b win last v' ∧ Own (w.setCell ⟨g', k * 2 + 1, none⟩ (.int .i64 (q + n))) base v' (m ++ [(t, q + n)]) ∧ Below base w (w.setCell ⟨g', k * 2 + 1, none⟩ (.int .i64 (q + n))) ∧ Stays w (w.setCell ⟨g', k * 2 + 1, none⟩ (.int .i64 (q + n)))) := by
    have hne : ∀ {j : Nat}, j ≠ g' → (w.setCell ⟨g', k * 2 + 1, none⟩ (.int .i64 (q + n))).heap[j]? = w.heap[j]? := fun {j} h => Below.heap_setCell _ _ _ _ h
    refine ⟨.slice (some ⟨g', 0, none⟩) (k + 1) c, ?_, ?_, (Below.refl base w).setCell hg _, ?_⟩
    · unfold Block
      rw [hne, hb]
      rintro rfl
      unfold Block at hb
      rw [hgr] at hb
      simp at hb
    · subst hk
      exact Own.put hw
    · intro j cu f hj
      rw [hne, hj]
      rintro rfl
      rw [hgr] at hj
      simp at hj
  clear hb hw e vw hgr eg
  have i1 : ((k : Int) + 1 - 1) = (k : Int) := by omega
  have i2 : (0 : Int) ≤ (k : Int) := by omega
  have i3 : (k : Int) < (k : Int) + 1 := by omega
  go_enter Try.func23, Try.ntmps23
  go_wp2
  go_returns
  exact ⟨rfl, R⟩

theorem own_snoc {w : World} {base : Nat} {v : Value} {l : Ams} {t n : Int} (h : w.ownsRow base 51 2 v (l.length + 1) (cells2 l ++ [.int .i64 t, .int .i64 n])) : Own w base v (l ++ [(t, n)]) := by
  unfold Own
  rw [cells2_append, List.length_append]
  exact h

set_option maxHeartbeats 1000000 in
theorem count_new (base b : Nat) (win last t n : Int) (v : Value) (l : Ams) (w : World) (hb : Block w b win last v) (hw : Own w base v l) (hl : l.length ≤ 100000) (hbb : base ≤ b) (hbs : base ≤ w.heap.size)
    (hne : ∀ m q, l ≠ m ++ [(t, q)]) :
    Calls Try.prog 23 #[.pointer (some ⟨b, 0, none⟩), .int .i64 t, .int .i64 n] w fun e w' => e = .returned (.tuple #[]) ∧ ∃ v', Block w' b win last v' ∧ Own w' base v' (l ++ [(t, n)]) ∧ Below base w w' ∧ Stays w w' := by
  obtain ⟨i0, hi, hz0, hz1, hz2⟩ := info_parts info_amount
  have c2 := hb.c2
  have f2 := hb.fr 2
  have HB := hid hb
  have HW := hid hw
  obtain ⟨ao, cp, rfl, vw⟩ := hw.view
  have tail : ∀ (w1 : World) (v1 : Value), w1.ownsRow base 51 2 v1 (l.length + 1) (cells2 l ++ [.int .i64 t, .int .i64 n]) → (w.alloc (.cells #[.int .i64 t, .int .i64 n] 51)).grownBy w1 (Value.ownBlock (.slice ao l.length cp)) →
      (w1.cell? ⟨b, 2, none⟩ = some (.slice ao l.length cp)) ∧ w1.frozen? ⟨b, 2, none⟩ = false ∧ (∃ a' n' c', v1 = .slice a' n' c') ∧ Hid (∃ v', Block (w1.setCell ⟨b, 2, none⟩ v1) b win last v' ∧ Own (w1.setCell ⟨b, 2, none⟩ v1) base v' (l ++ [(t, n)]) ∧ Below base w (w1.setCell ⟨b, 2, none⟩ v1) ∧ Stays w (w1.setCell ⟨b, 2, none⟩ v1)) := by
    intro w1 v1 o1 g1
    have O1 := own_snoc o1
    have G1 := grown_trans (World.grownBy_alloc w (.cells #[.int .i64 t, .int .i64 n] 51) _) g1
    have B1 := hb.grown hw G1
    obtain ⟨T1, T2, T3, T4⟩ := turned hb hbb hbs hw G1 O1
    exact ⟨B1.c2, B1.fr 2, Own.form O1, _, T1, T2, T3, T4⟩
  have HOWN : World.ownsRow (w.alloc (.cells #[.int .i64 t, .int .i64 n] 51)) base 51 2 (.slice ao l.length cp) l.length (cells2 l) := World.ownsRow.alloc hw _
  have bad : ∀ k, l.length = k + 1 → ((l.getD k (0, 0)).1 == t) = false := by
    intro k hk
    obtain ⟨m, p, rfl, hm⟩ := snoc_of hk
    have : (m ++ [p]).getD k (0, 0) = p := by simp [List.getD_eq_getElem?_getD, ← hm]
    rw [this]
    simp only [beq_eq_false_iff_ne, ne_eq]
    rintro rfl
    exact hne m p.2 rfl
  clear hb hw hne HB HW
  obtain ⟨N, eN⟩ : ∃ N, l.length = N := ⟨_, rfl⟩
  rw [eN] at vw tail HOWN c2 bad hl
  clear eN
  cases N with
  | zero =>
    have TAIL := hid tail
    have H := hid HOWN
    clear tail HOWN vw bad
    go_enter Try.func23, Try.ntmps23
    go_wp2_with (at_builtin; refine wpList_append_own _ rfl _ _ 47 rfl base 51 i0 (.agg #[.int .i64 0, .int .i64 0]) 2 16 Try.underlying47 hi hz0 hz1 hz2 rfl (by decide) _ _ _ rfl H.out ⟨w.heap.size, 0, none⟩ 1 1 [.int .i64 t, .int .i64 n] rfl rfl (cell_two_new _ _ _ _) ?c2 ?c3 ?c4 ?c5 ?_)
    case c2 => intro u hu; simp at hu; rcases hu with rfl | rfl <;> rfl
    case c3 => unfold maxLen; omega
    case c4 => omega
    case c5 => simp; omega
    intro v1 w1 o1 g1 _
    obtain ⟨c2', f2', ⟨a', n', c', rfl⟩, R⟩ := TAIL.out w1 v1 o1 g1
    clear o1 g1 H TAIL c2 f2
    go_wp2
    go_returns
    exact ⟨rfl, R⟩
  | succ k =>
    obtain ⟨g, rfl, hg, _, x1, _⟩ := vw k (by omega)
    have bad := bad k rfl
    obtain ⟨d, ed⟩ : ∃ d, d = (l.getD k (0, 0)).1 := ⟨_, rfl⟩
    rw [← ed] at x1 bad
    have TAIL := hid tail
    have H := hid HOWN
    clear tail HOWN vw ed
    have i2 : (0 : Int) ≤ (k : Int) := by omega
    have i3 : (k : Int) < (k : Int) + 1 := by omega
    go_enter Try.func23, Try.ntmps23
    go_wp2_with (at_builtin; refine wpList_append_own _ rfl _ _ 47 rfl base 51 i0 (.agg #[.int .i64 0, .int .i64 0]) 2 16 Try.underlying47 hi hz0 hz1 hz2 rfl (by decide) _ _ _ rfl H.out ⟨w.heap.size, 0, none⟩ 1 1 [.int .i64 t, .int .i64 n] rfl rfl (cell_two_new _ _ _ _) ?c2 ?c3 ?c4 ?c5 ?_)
    case c2 => intro u hu; simp at hu; rcases hu with rfl | rfl <;> rfl
    case c3 => unfold maxLen; omega
    case c4 => omega
    case c5 => simp; omega
    intro v1 w1 o1 g1 _
    obtain ⟨c2', f2', ⟨a', n', c', rfl⟩, R⟩ := TAIL.out w1 v1 o1 g1
    clear o1 g1 H TAIL c2 f2 x1 bad
    go_wp2
    go_returns
    exact ⟨rfl, R⟩
end Go.Proofs.Ytjdcccienbahjaa

/-
  slices.Insert and slices.Clone at rows of timers. (The texts of RngRepl, RngIns, RngMake.)
-/
import Derived.Test.YthokjkkhkcdceaaWhlRepl
import Derived.Lib.BufferMore
namespace Go.Proofs.Ythokjkkhkcdceaa
set_option linter.unusedVariables false
set_option maxRecDepth 100000
open Go.RowKit Go.Lib

/-- what is told of a row behind a call that may have turned it -/
def Turned (w w' : World) (s s' : Value) (l : Sts) : Prop := OwnT w' s' l ∧ w.grownBy w' s.ownBlock ∧ (s'.ownBlock = s.ownBlock ∨ ∃ k, s'.ownBlock = some k ∧ w.heap.size ≤ k)

set_option maxHeartbeats 1000000 in
theorem insert_end (w : World) (s : Value) (l vs : Sts) (n vb m vc : Nat) (V : List Value) (hs : OwnT w s l) (hn : l.length = n) (hv : w.heap[vb]? = some (.cells V.toArray 60 (0, 0))) (hm : vs.length = m) (hvt : V.take (m * 2) = gcells vs) (hm0 : 0 < m) (hn2 : n ≤ 20000) (hm2 : m ≤ 20000) :
    Calls Try.prog 40 #[s, .int .i64 n, .slice (some ⟨vb, 0, none⟩) m vc] w fun e w' => ∃ s', e = .returned s' ∧ Turned w w' s s' (l ++ vs) := by
  obtain ⟨s', w', r, o, gb, hb⟩ := append_timers w s l hs vb m vc V vs hv hm hvt (by omega)
  have R := hid r
  have T : Hid (Turned w w' s s' (l ++ vs)) := ⟨o, gb, hb.imp id (fun h => ⟨_, h, Nat.le_refl _⟩)⟩
  obtain ⟨ao, cp, e, k1, k2, _⟩ := hs.view
  rw [hn] at e k1
  subst e
  obtain ⟨ao', cp', e', _⟩ := o.view
  obtain ⟨N, eN⟩ : ∃ N, N = (l ++ vs).length := ⟨_, rfl⟩
  rw [← eN] at e'
  subst e'
  unfold maxLen at k2
  clear hs hn hv hm hvt r o gb hb eN
  have z1 : ¬ ((m : Int) = 0) := by omega
  have z5 : (0 : Int) ≤ (n : Int) := by omega
  by_cases z4 : cp = n
  · subst z4
    go_enter Try.func40, Try.ntmps40
    go_wp2_with (refine wpList_append_run _ rfl (.tmp 23) (.tmp 24) 47 47 rfl _ _ rfl rfl _ _ R.out ?_)
    go_ret
    exact ⟨_, rfl, T.out⟩
  · go_enter Try.func40, Try.ntmps40
    go_wp2_with (refine wpList_append_run _ rfl (.tmp 23) (.tmp 24) 47 47 rfl _ _ rfl rfl _ _ R.out ?_)
    go_ret
    exact ⟨_, rfl, T.out⟩

set_option maxHeartbeats 1000000 in
theorem insert_none (w : World) (s v : Value) (l : Sts) (i : Nat) (hs : OwnT w s l) (hi : i ≤ l.length) (hv : ∃ ao c, v = .slice ao 0 c) :
    Calls Try.prog 40 #[s, .int .i64 i, v] w fun e w' => e = .returned s ∧ w' = w := by
  obtain ⟨ao, cp, rfl, k1, k2, _⟩ := hs.view
  obtain ⟨ao', c', rfl⟩ := hv
  clear hs
  have z5 : (0 : Int) ≤ (i : Int) := by omega
  have z6 : (i : Int) ≤ (l.length : Int) := by omega
  unfold maxLen at k2
  generalize l.length = n at *
  by_cases z4 : cp = i
  · subst z4
    go_enter Try.func40, Try.ntmps40
    go_wp2
    go_ret
    exact ⟨rfl, rfl⟩
  · go_enter Try.func40, Try.ntmps40
    go_wp2
    go_ret
    exact ⟨rfl, rfl⟩

theorem insert_any (w : World) (s v : Value) (l vs : Sts) (i : Nat) (hs : OwnT w s l) (hv : OwnT w v vs) (hne : ∀ k, s.ownBlock = some k → v.ownBlock ≠ some k) (hi : i ≤ l.length) (hl : l.length ≤ 20000) (hm : vs.length ≤ 20000) :
    Calls Try.prog 40 #[s, .int .i64 i, v] w fun e w' => ∃ s', e = .returned s' ∧ Turned w w' s s' (l.take i ++ vs ++ l.drop i) := by
  rcases Nat.eq_zero_or_pos vs.length with h0 | h0
  · have e : vs = [] := List.eq_nil_of_length_eq_zero h0
    subst e
    obtain ⟨ao, c, ev, _⟩ := hv.view
    refine (insert_none w s v l i hs hi ⟨ao, c, ev⟩).mono ?_
    rintro e w' ⟨rfl, rfl⟩
    refine ⟨s, rfl, ?_, ⟨rfl, rfl, rfl, Nat.le_refl _, fun _ _ _ => rfl⟩, .inl rfl⟩
    rw [List.append_nil, List.take_append_drop]
    exact hs
  · rcases hv.at with ⟨rfl, rfl⟩ | ⟨vb, vc, V, rfl, v1, v2, v3, v4, v5⟩
    · simp at h0
    · by_cases he : i = l.length
      · subst he
        rw [List.take_length, List.drop_length, List.append_nil]
        exact insert_end w s l vs l.length vb vs.length vc V hs rfl v1 rfl v5 h0 hl hm
      · rcases hs.at with ⟨rfl, rfl⟩ | ⟨g, cap, L, rfl, g1, g2, g3, g4, g5⟩
        · simp at hi he; omega
        · have hvg : vb ≠ g := fun e => hne g rfl (by rw [e]; rfl)
          by_cases hr : l.length + vs.length ≤ cap
          · refine (insert_shift g l.length cap i vb vs.length vc l vs L V w g1 g4 rfl g5 v1 rfl v5 hvg (by omega) h0 hr g3).mono ?_
            rintro e w' ⟨rfl, o, gb⟩
            exact ⟨_, rfl, o, gb, .inl rfl⟩
          · refine (insert_grow g l.length cap i vb vs.length vc l vs L V w g1 rfl g5 v1 rfl v5 (by omega) h0 (by omega) g2 hl hm).mono ?_
            rintro e w' ⟨c', rfl, o, gb⟩
            exact ⟨_, rfl, o, gb, .inr ⟨_, rfl, Nat.le_refl _⟩⟩
set_option maxHeartbeats 1000000 in
theorem clone_any (w : World) (s : Value) (l : Sts) (hs : OwnT w s l) (hl : l.length ≤ 20000) :
    Calls Try.prog 28 #[s] w fun e w' => ∃ v, e = .returned v ∧ OwnT w' v l ∧ Ext w w' ∧ ∀ k, v.ownBlock = some k → w.heap.size ≤ k := by
  rcases hs.at with ⟨rfl, rfl⟩ | ⟨g, cap, L, rfl, g1, g2, g3, g4, g5⟩
  · have hn := Lib.run_eql_slice_nil_nil (P := Try.prog) w 0 0 Try.underlying47
    have R : Hid (OwnT w (.slice none 0 0) [] ∧ Ext w w ∧ ∀ k, (Value.slice none 0 0).ownBlock = some k → w.heap.size ≤ k) := ⟨hs, Ext.refl w, fun k hk => by simp [Value.ownBlock] at hk⟩
    clear hs
    go_enter Try.func28, Try.ntmps28
    go_wp2
    go_ret
    exact ⟨_, rfl, R.out⟩
  · obtain ⟨w1, e1⟩ : ∃ w1, w1 = w.alloc (.cells #[] 60) := ⟨_, rfl⟩
    have X1 : Ext w w1 := by rw [e1]; exact (Ext.refl w).alloc _
    have n1 : w1.heap[w.heap.size]? = some (.cells (List.toArray []) 60 (0, 0)) := by rw [e1]; exact heap_alloc_new w _
    have o1 : OwnT w1 (.slice (some ⟨w.heap.size, 0, none⟩) 0 0) [] := own_of_rowT (Y := []) rfl n1 (Nat.le_refl _) (Nat.zero_le _) rfl
    obtain ⟨v', w', r, o, gb, hb⟩ := append_timers w1 _ [] o1 g l.length cap L l (X1.row g1) rfl g5 (by simp; omega)
    rw [List.nil_append] at o
    have T : Hid (OwnT w' v' l ∧ Ext w w' ∧ ∀ k, v'.ownBlock = some k → w.heap.size ≤ k) := by
      refine ⟨o, X1.rowed gb (fun k hk => by simp [Value.ownBlock] at hk; omega), fun k hk => ?_⟩
      rcases hb with e | e
      · rw [e] at hk; simp [Value.ownBlock] at hk; omega
      · rw [e] at hk
        have := X1.size
        simp only [Option.some.injEq] at hk
        omega
    obtain ⟨a', n', c', e'⟩ := owns_slice o
    subst e'
    have R := hid r
    have E1 := hid e1
    clear hs g1 g4 g5 X1 n1 o1 r o gb hb e1
    unfold maxLen at g3
    generalize l.length = n at *
    have hn := Lib.run_eql_slice_some_nil (P := Try.prog) w ⟨g, 0, none⟩ n cap Try.underlying47
    go_enter Try.func28, Try.ntmps28
    go_wp2_with (at_builtin; rw [← E1.out]; refine wpList_append_run _ rfl (.tmp 5) (.tmp 6) 47 47 rfl _ _ rfl rfl _ _ R.out ?_)
    go_ret
    exact ⟨_, rfl, T.out⟩

end Go.Proofs.Ythokjkkhkcdceaa

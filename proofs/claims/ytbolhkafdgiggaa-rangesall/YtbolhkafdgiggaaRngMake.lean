/-
  Walks of New, slices.Clone, Stretches, Copy: what is made new.
-/
import Derived.Test.YtbolhkafdgiggaaRngIns
import Derived.Test.YtbolhkafdgiggaaRngRead
import Derived.Lib.BufferMore
namespace Go.Proofs.Ytbolhkafdgiggaa
set_option linter.unusedVariables false
set_option maxRecDepth 100000
open Go.RowKit Go.Lib

theorem new_any (w : World) : Calls Try.prog 9 #[] w fun e w' => e = .returned (.pointer (some ⟨w.heap.size, 0, none⟩)) ∧ w' = w.alloc (.cells #[.slice none 0 0] 57 (0, 0)) := by
  go_enter Try.func9, Try.ntmps9
  go_wp2
  go_ret
  exact ⟨rfl, rfl⟩
theorem new_set (w : World) : SetK (fun i => i < w.heap.size) (w.alloc (.cells #[.slice none 0 0] 57 (0, 0))) w.heap.size [] := by
  refine ⟨.slice none 0 0, ⟨heap_alloc_new w _, World.ownsRow_nil _ _ _ _⟩, by omega, fun k hk => by simp [Value.ownBlock] at hk, fun i hi => ?_⟩
  simp; omega

theorem Ext.rowed {w0 w w' : World} {row : Option Nat} (h : Ext w0 w) (hg : w.grownBy w' row) (hrow : ∀ k, row = some k → w0.heap.size ≤ k) : Ext w0 w' := Below.grown h hg h.size hrow

set_option maxHeartbeats 1000000 in
theorem clone_any (w : World) (s : Value) (l : Sts) (hs : OwnG w s l) (hl : l.length ≤ 20000) :
    Calls Try.prog 25 #[s] w fun e w' => ∃ v, e = .returned v ∧ OwnG w' v l ∧ Ext w w' ∧ ∀ k, v.ownBlock = some k → w.heap.size ≤ k := by
  rcases hs.at with ⟨rfl, rfl⟩ | ⟨g, cap, L, rfl, g1, g2, g3, g4, g5⟩
  · have hn := Lib.run_eql_slice_nil_nil (P := Try.prog) w 0 0 Try.underlying31
    have R : Hid (OwnG w (.slice none 0 0) [] ∧ Ext w w ∧ ∀ k, (Value.slice none 0 0).ownBlock = some k → w.heap.size ≤ k) := ⟨hs, Ext.refl w, fun k hk => by simp [Value.ownBlock] at hk⟩
    clear hs
    go_enter Try.func25, Try.ntmps25
    go_wp2
    go_ret
    exact ⟨_, rfl, R.out⟩
  · obtain ⟨w1, e1⟩ : ∃ w1, w1 = w.alloc (.cells #[] 33) := ⟨_, rfl⟩
    have X1 : Ext w w1 := by rw [e1]; exact (Ext.refl w).alloc _
    have n1 : w1.heap[w.heap.size]? = some (.cells (List.toArray []) 33 (0, 0)) := by rw [e1]; exact heap_alloc_new w _
    have o1 : OwnG w1 (.slice (some ⟨w.heap.size, 0, none⟩) 0 0) [] := own_of_row (Y := []) rfl n1 (Nat.le_refl _) (Nat.zero_le _) rfl
    obtain ⟨v', w', r, o, gb, hb⟩ := append_pairs w1 _ [] o1 g l.length cap L l (X1.row g1) rfl g5 (by simp; omega)
    rw [List.nil_append] at o
    have T : Hid (OwnG w' v' l ∧ Ext w w' ∧ ∀ k, v'.ownBlock = some k → w.heap.size ≤ k) := by
      refine ⟨o, X1.rowed gb (fun k hk => by simp [Value.ownBlock] at hk; omega), fun k hk => ?_⟩
      rcases hb with e | e
      · rw [e] at hk; simp [Value.ownBlock] at hk; omega
      · rw [e] at hk
        have := X1.size
        simp only [Option.some.injEq] at hk
        omega
    obtain ⟨a', n', c', e'⟩ := owns_slice o
    subst e'
    have R := hid r
    have E1 := hid e1
    clear hs g1 g4 g5 X1 n1 o1 r o gb hb e1
    unfold maxLen at g3
    generalize l.length = n at *
    have hn := Lib.run_eql_slice_some_nil (P := Try.prog) w ⟨g, 0, none⟩ n cap Try.underlying31
    go_enter Try.func25, Try.ntmps25
    go_wp2_with (at_builtin; rw [← E1.out]; refine wpList_append_run _ rfl (.tmp 5) (.tmp 6) 31 31 rfl _ _ rfl rfl _ _ R.out ?_)
    go_ret
    exact ⟨_, rfl, T.out⟩

set_option maxHeartbeats 1000000 in
theorem stretches_any (b : Nat) (v : Value) (l : Sts) (w : World) (hs : SetV w b v l) (hl : l.length ≤ 20000) :
    Calls Try.prog 13 #[.pointer (some ⟨b, 0, none⟩)] w fun e w' => ∃ v', e = .returned v' ∧ OwnG w' v' l ∧ Ext w w' ∧ ∀ k, v'.ownBlock = some k → w.heap.size ≤ k := by
  have C := hid (clone_any w v l hs.2 hl)
  have c := hs.cell
  obtain ⟨a', n', c', e'⟩ := owns_slice hs.2
  subst e'
  clear hs
  go_enter Try.func13, Try.ntmps13
  go_wp2_with fail
  refine C.out.mono ?_
  rintro e w1 ⟨v', rfl, o, R⟩
  have T := hid (And.intro o R)
  obtain ⟨a1, n1, c1, e1⟩ := owns_slice o
  subst e1
  clear o R C
  go_wp2_with fail
  go_ret
  exact ⟨_, rfl, T.out⟩

set_option maxHeartbeats 1000000 in
theorem copy_any (b : Nat) (v : Value) (l : Sts) (w : World) (hs : SetV w b v l) (hl : l.length ≤ 20000) :
    Calls Try.prog 20 #[.pointer (some ⟨b, 0, none⟩)] w fun e w' => ∃ c, e = .returned (.pointer (some ⟨c, 0, none⟩)) ∧ SetK (fun i => i < w.heap.size) w' c l ∧ Ext w w' := by
  have C := hid (clone_any w v l hs.2 hl)
  have c := hs.cell
  obtain ⟨a', n', c', e'⟩ := owns_slice hs.2
  subst e'
  clear hs
  go_enter Try.func20, Try.ntmps20
  go_wp2_with fail
  refine C.out.mono ?_
  rintro e w1 ⟨v', rfl, o, X, hk⟩
  have T : Hid (SetK (fun i => i < w.heap.size) (w1.alloc (.cells #[v'] 57 (0, 0))) w1.heap.size l ∧ Ext w (w1.alloc (.cells #[v'] 57 (0, 0)))) := by
    have s1 := X.size
    refine ⟨⟨v', ⟨heap_alloc_new w1 _, o.ext ((Ext.refl w1).alloc _)⟩, by omega, fun k h => ?_, fun i hi => by simp; omega⟩, X.alloc _⟩
    have := hk k h
    have := (World.ownsRow.lt o k h).2
    omega
  obtain ⟨a1, n1, c1, e1⟩ := owns_slice o
  subst e1
  clear o X hk C
  go_wp2_with fail
  go_ret
  exact ⟨_, rfl, T.out⟩
end Go.Proofs.Ytbolhkafdgiggaa

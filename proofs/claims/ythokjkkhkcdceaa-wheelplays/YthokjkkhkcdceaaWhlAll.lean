/-
  The walk of All.
-/
import Derived.Test.YthokjkkhkcdceaaWhlCat
namespace Go.Proofs.Ythokjkkhkcdceaa
set_option linter.unusedVariables false
set_option maxRecDepth 100000
open Go.RowKit Go.Lib

theorem make_pairs (n : Nat) (h : n ≤ 100000) (w : World) :
    ∃ Z : List Value, Z.length = n * 2 ∧ (Instr.makeSlice 26 (.int .i64 0) (.int .i64 (n : Int))).run Try.prog w = .ok (.slice (some ⟨w.heap.size, 0, none⟩) 0 n) (w.alloc (.cells Z.toArray 55)) := by
  obtain ⟨i0, hi, hz0, hz1, hz2⟩ := info_parts info_pair
  have := run_make (P := Try.prog) w 26 55 i0 (.agg #[.int .i64 0, .int .i64 0]) Try.underlying26 hi hz0 .i64 .i64 0 (n : Int) (by omega) (by omega) (by rw [hz2]; omega) (by omega)
  rw [hz1] at this
  refine ⟨(madeCells #[.int .i64 0, .int .i64 0] (n * 2)).toList, by rw [Array.length_toList, size_madeCells], ?_⟩
  rw [this, Array.toArray_toList]
  rfl

set_option maxHeartbeats 400000 in
theorem all_any (b : Nat) (t : Int) (v : Nat → Value) (l : Sts) (w : World) (hw : WhV w b t v l) (hl : Wl l) :
    Calls Try.prog 22 #[.pointer (some ⟨b, 0, none⟩)] w fun e w' => ∃ s, e = .returned s ∧ NewG w w' s l := by
  have C := hid (concat_any b t v l w hw hl.2.2.2)
  have WL := hid hl
  have LL := hl.2.2.2
  clear hw hl
  go_enter Try.func22, Try.ntmps22
  go_wp2_with fail
  refine C.out.mono ?_
  rintro e w1 ⟨s, rfl, n1⟩
  have S := hid (sort_any w1 s (cat l 64) l n1.1 (cat_all l) WL.out.1 (by rw [cat_length, cnt_all]; exact LL))
  have N1 := hid n1
  obtain ⟨a1, m1, c1, e1⟩ := owns_slice n1.1
  subst e1
  clear n1 C
  go_wp2_with fail
  refine S.out.mono ?_
  rintro e w2 ⟨rfl, r2, k2⟩
  have X2 : Hid (Ext w w2) := by
    refine Below.trans N1.out.2.2 (k2.below N1.out.2.2.size (fun i hi e => ?_))
    have := N1.out.2.1 i e
    omega
  obtain ⟨ao, n, c, e2, q1, q2, q3, q4⟩ := r2
  simp only [Value.slice.injEq] at e2
  obtain ⟨rfl, rfl, rfl⟩ := e2
  rw [gcells_length] at q1
  have q5 : l.length = m1 := by omega
  have RW : Hid (∀ k, k < m1 → ∃ g o, a1 = some ⟨g, o, none⟩ ∧ w2.cell? ⟨g, o + k * 2, none⟩ = some (.int .i64 (l.getD k (0, 0)).1) ∧ w2.cell? ⟨g, o + k * 2 + 1, none⟩ = some (.int .i64 (l.getD k (0, 0)).2)) := fun k hk => by
    obtain ⟨g, o, ea, _, hc⟩ := q4 (by omega)
    have := gcells_at l k (by omega)
    exact ⟨g, o, ea, hc _ _ this.1, by rw [Nat.add_assoc]; exact hc _ _ this.2⟩
  have Q5 := hid q5
  unfold maxLen at q3
  clear q4 q1 k2 S q5
  have mm : m1 ≤ 1024 := by rw [← Q5.out]; exact LL
  obtain ⟨Z, zl, mk⟩ := make_pairs m1 (by omega) w2
  have NG : Hid (NewG w2 (w2.alloc (.cells Z.toArray 55)) (.slice (some ⟨w2.heap.size, 0, none⟩) 0 m1) []) := by
    refine ⟨own_of_row (Y := Z) rfl (heap_alloc_new w2 _) (Nat.zero_le _) (by unfold maxLen; omega) (by simpa [gcells] using zl), fun k hk => ?_, (Ext.refl w2).alloc _⟩
    simp [Value.ownBlock] at hk; omega
  clear zl
  go_wp2_with fail
  clear mk
  go_loopw [4, 6, 19] (fun s _ i wr => ∃ k : Nat, k ≤ m1 ∧ i = .int .i64 (k : Int) ∧ Hid (NewG w2 wr s (l.take k))) (fun _ _ i _ => (m1 - intOf i).toNat)
  case atStart => exact ⟨0, by omega, rfl, NG⟩
  case round =>
    obtain ⟨k, hk, rfl, N⟩ := hrel
    obtain ⟨a0, m0, c0, e0⟩ := owns_slice N.out.1
    subst e0
    by_cases h : k < m1
    · obtain ⟨g, o, rfl, x1, x2⟩ := RW.out k h
      have y1 := N.out.2.2.cell x1
      have y2 := N.out.2.2.cell x2
      have ex : Hid (l.take k ++ [((l.getD k (0, 0)).1, (l.getD k (0, 0)).2)] = l.take (k + 1)) := by
        have hkl : k < l.length := by rw [Q5.out]; exact h
        rw [List.take_add_one, List.getElem?_eq_getElem hkl, List.getD_eq_getElem?_getD, List.getElem?_eq_getElem hkl]
        rfl
      have NX : NewG w2 (wr.alloc (.cells #[.int .i64 (l.getD k (0, 0)).1, .int .i64 (l.getD k (0, 0)).2] 60)) (.slice a0 m0 c0) (l.take k) := ⟨N.out.1.ext ((Ext.refl wr).alloc _), N.out.2.1, N.out.2.2.alloc _⟩
      obtain ⟨v', w', r, n2⟩ := NX.step (l.getD k (0, 0)).1 (l.getD k (0, 0)).2 (by rw [List.length_take]; omega)
      rw [ex.out] at n2
      rw [show (wr.alloc (.cells #[.int .i64 (l.getD k (0, 0)).1, .int .i64 (l.getD k (0, 0)).2] 60)).heap.size = wr.heap.size + 1 by simp] at r
      have R := hid r
      have N2 := hid n2
      obtain ⟨a2, m2, c2, e2⟩ := owns_slice n2.1
      subst e2
      have g0 := block_lt_of_cell y1
      have g1 : g ≠ wr.heap.size := by simp only at g0; omega
      have i1 : (k : Int) < (m1 : Int) := by omega
      have i2 : (0 : Int) ≤ (k : Int) := by omega
      clear x1 x2 NX r n2 ex
      generalize (l.getD k (0, 0)).1 = pi at *
      generalize (l.getD k (0, 0)).2 = tk at *
      go_wp2_with (at_builtin; refine wpList_append_run _ rfl (.tmp 23) (.tmp 29) 26 26 rfl _ _ rfl rfl _ _ R.out ?_)
      go_roundw
      case rel => exact ⟨k + 1, by omega, by go_num, N2⟩
      case measure => simp [intOf]; omega
    · obtain rfl : k = m1 := by omega
      have e3 : Hid (NewG w2 wr (.slice a0 m0 c0) l) := by
        have := N.out
        rwa [List.take_of_length_le (by rw [Q5.out]; exact Nat.le_refl _)] at this
      go_wp2_with fail
      go_ret
      exact ⟨_, rfl, e3.out.1, fun q hq => Nat.le_trans X2.out.size (e3.out.2.1 q hq), X2.out.trans e3.out.2.2⟩
end Go.Proofs.Ythokjkkhkcdceaa

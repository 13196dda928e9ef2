/-
  Walks of the reference: First, Without.
-/
import Derived.Test.YtjmgigfaiaemeaaPipByte
namespace Go.Proofs.Ytjmgigfaiaemeaa.Pip
set_option linter.unusedVariables false
set_option maxRecDepth 100000
open Go.RowKit Go.Lib

theorem _root_.Go.Proofs.Ytjmgigfaiaemeaa.RowK.view {K : Nat → Prop} {w : World} {v : Value} {l : Ms} (h : RowK K w v 2 (rcells l)) :
    ∃ ao c, v = .slice ao l.length c ∧ l.length ≤ c ∧ c ≤ maxLen ∧ ∀ k, k < l.length → ∃ g o, ao = some ⟨g, o, none⟩ ∧ w.cell? ⟨g, o + k * 2, none⟩ = some (.int .i64 (l.getD k (0, [])).1) ∧ w.cell? ⟨g, o + k * 2 + 1, none⟩ = some (.string (str (l.getD k (0, [])).2)) := by
  obtain ⟨ao, n, c, e, q1, q2, q3, q4⟩ := h
  rw [rcells_length] at q1
  obtain rfl : l.length = n := by omega
  refine ⟨ao, c, e, q2, q3, fun k hk => ?_⟩
  obtain ⟨g, o, ea, _, hc⟩ := q4 (by omega)
  have := rcells_at l k hk
  exact ⟨g, o, ea, hc _ _ this.1, by rw [Nat.add_assoc]; exact hc _ _ this.2⟩

set_option maxHeartbeats 400000 in
theorem first_any (K : Nat → Prop) (lv : Value) (x : Ms) (w : World) (hl : RowK K w lv 2 (rcells x)) (hb : x.length ≤ 1000) :
    Calls Try.prog 44 #[lv] w fun e w' => ∃ a : Int, e = .returned (.int .i64 a) ∧ ((x = [] ∧ a = -1) ∨ ∃ i : Nat, a = (i : Int) ∧ IsF x i) ∧ ∃ m, w' = w.drewN m := by
  obtain ⟨ao, c, rfl, k1, k2, vw⟩ := hl.view
  have VW := hid vw
  clear vw hl
  unfold maxLen at k2
  have DN : Hid (∀ a, IsFk x x.length a → ((x = [] ∧ a = -1) ∨ ∃ i : Nat, a = (i : Int) ∧ IsF x i)) := fun a h => h.done
  obtain ⟨n, en⟩ : ∃ n, n = x.length := ⟨_, rfl⟩
  rw [← en] at k1 VW hb DN
  rw [← en]
  clear en
  go_enter Try.func44, Try.ntmps44
  go_wp2
  go_loopw [3, 4] (fun a i wr => ∃ (k m : Nat) (z : Int), k ≤ n ∧ i = .int .i64 (k : Int) ∧ a = .int .i64 z ∧ wr = w.drewN m ∧ Hid (IsFk x k z)) (fun _ i _ => (n - intOf i).toNat)
  case atStart => exact ⟨0, 0, -1, by omega, rfl, rfl, rfl, IsFk.none⟩
  case round =>
    obtain ⟨k, m, z, hk, rfl, rfl, rfl, A⟩ := hrel
    by_cases h : k < n
    · obtain ⟨g, o, rfl, x1, x2⟩ := VW.out k h
      have i1 : (k : Int) < (n : Int) := by omega
      have i2 : (0 : Int) ≤ (k : Int) := by omega
      clear x2
      rcases A.out with ⟨e1, e2⟩ | ⟨i, h1, h2, h3, h4⟩
      · have F1 : Hid (IsFk x (k + 1) (k : Int)) := by rw [e1]; exact IsFk.first
        subst e2
        clear x1 A e1
        go_wp2_with fail
        go_quiet (fail)
        go_wp2_with fail
        go_roundw
        case rel => exact ⟨k + 1, m + nq, (k : Int), by omega, by go_num, rfl, rfl, F1⟩
        case measure => simp [intOf]; omega
      · subst h2
        obtain ⟨g', o', eg, y1, y2⟩ := VW.out i (by omega)
        cases eg
        have L1 : Hid ((x.getD k (0, [])).1 < (x.getD i (0, [])).1 → IsFk x (k + 1) (k : Int)) := fun q => A.out.less q
        have L2 : Hid (¬ (x.getD k (0, [])).1 < (x.getD i (0, [])).1 → IsFk x (k + 1) (i : Int)) := fun q => A.out.keep q
        have i3 : (i : Int) < (n : Int) := by omega
        have i4 : (0 : Int) ≤ (i : Int) := by omega
        have i5 : decide ((i : Int) < 0) = false := by simp
        clear y2 h3 h4 A
        generalize (x.getD k (0, [])).1 = dk at *
        generalize (x.getD i (0, [])).1 = di at *
        by_cases hd : dk < di
        · have F1 := hid (L1.out hd)
          have hd' : decide (dk < di) = true := by simp [hd]
          go_wp2_with fail
          go_quiet (fail)
          go_wp2_with fail
          go_roundw
          case rel => exact ⟨k + 1, m + nq, (k : Int), by omega, by go_num, rfl, rfl, F1⟩
          case measure => simp [intOf]; omega
        · have F1 := hid (L2.out hd)
          have hd' : decide (dk < di) = false := by simp; omega
          go_wp2_with fail
          go_quiet (fail)
          go_wp2_with fail
          go_roundw
          case rel => exact ⟨k + 1, m + nq, (i : Int), by omega, by go_num, rfl, rfl, F1⟩
          case measure => simp [intOf]; omega
    · obtain rfl : k = n := by omega
      have R := hid (DN.out z A.out)
      clear A
      go_wp2_with fail
      go_ret
      exact ⟨z, rfl, R.out, m, rfl⟩

set_option maxHeartbeats 400000 in
theorem without_any (K : Nat → Prop) (lv : Value) (x : Ms) (at_ : Nat) (w : World) (hl : RowK K w lv 2 (rcells x)) (hb : x.length ≤ 1000) :
    Calls Try.prog 45 #[lv, .int .i64 (at_ : Int)] w fun e w' => ∃ v, e = .returned v ∧ NewR w w' v (x.eraseIdx at_) := by
  obtain ⟨ao, c, rfl, k1, k2, vw⟩ := hl.view
  have VW := hid vw
  clear vw hl
  unfold maxLen at k2
  have HS := hid (fun k (h : k < x.length) => erase_step x at_ k h)
  have HZ : Hid ((x.take x.length).eraseIdx at_ = x.eraseIdx at_) := erase_all x at_
  have HL : Hid (∀ k, ((x.take k).eraseIdx at_).length ≤ k) := fun k => by
    have : ((x.take k).eraseIdx at_).length ≤ (x.take k).length := List.length_eraseIdx_le ..
    rw [List.length_take] at this
    omega
  obtain ⟨n, en⟩ : ∃ n, n = x.length := ⟨_, rfl⟩
  rw [← en] at k1 VW hb HS HZ
  rw [← en]
  clear en
  go_enter Try.func45, Try.ntmps45
  go_wp2
  go_loopw [5, 6] (fun s i wr => ∃ (k : Nat) (y : Ms), k ≤ n ∧ i = .int .i64 (k : Int) ∧ Hid (NewR w wr s y) ∧ Hid (y = (x.take k).eraseIdx at_)) (fun _ i _ => (n - intOf i).toNat)
  case atStart => exact ⟨0, [], by omega, rfl, NewR.nil w, by show _ = _; simp⟩
  case round =>
    obtain ⟨k, y, hk, rfl, N, A⟩ := hrel
    obtain ⟨a0, m0, c0, e0⟩ := owns_slice N.out.1
    subst e0
    by_cases h : k < n
    · obtain ⟨g, o, rfl, x1, x2⟩ := VW.out k h
      have y1 := N.out.2.2.cell x1
      have y2 := N.out.2.2.cell x2
      have i1 : (k : Int) < (n : Int) := by omega
      have i2 : (0 : Int) ≤ (k : Int) := by omega
      have ly : y.length ≤ k := by rw [A.out]; exact HL.out k
      by_cases h2 : k = at_
      · have A2 : Hid (y = (x.take (k + 1)).eraseIdx at_) := by rw [HS.out k h, if_pos h2]; exact A.out
        subst h2
        clear x1 x2 y1 y2 A
        go_wp2_with fail
        go_roundw
        case rel => exact ⟨k + 1, y, by omega, by go_num, N, A2⟩
        case measure => simp [intOf]; omega
      · obtain ⟨v', w', r, n2⟩ := N.out.step (x.getD k (0, [])).1 (x.getD k (0, [])).2 (by omega)
        have A2 : Hid (y ++ [((x.getD k (0, [])).1, (x.getD k (0, [])).2)] = (x.take (k + 1)).eraseIdx at_) := by
          have := HS.out k h
          rw [if_neg h2, ← A.out] at this
          exact this.symm
        have R := hid r
        have N2 := hid n2
        obtain ⟨a2, m2, c2, e2⟩ := owns_slice n2.1
        subst e2
        have h3 : ¬ ((k : Int) = (at_ : Int)) := by omega
        clear x1 x2 r n2 A
        generalize (x.getD k (0, [])).1 = pi at *
        generalize (x.getD k (0, [])).2 = tk at *
        go_wp2_with (at_builtin; refine wpList_append_run _ rfl (.tmp 16) (.tmp 21) 78 78 rfl _ _ rfl rfl _ _ R.out ?_)
        go_roundw
        case rel => exact ⟨k + 1, _, by omega, by go_num, N2, A2⟩
        case measure => simp [intOf]; omega
    · obtain rfl : k = n := by omega
      have R : Hid (NewR w wr (.slice a0 m0 c0) (x.eraseIdx at_)) := by
        have := N.out
        rw [A.out, HZ.out] at this
        exact this
      clear N A
      go_wp2_with fail
      go_ret
      exact ⟨_, rfl, R.out⟩
end Go.Proofs.Ytjmgigfaiaemeaa.Pip

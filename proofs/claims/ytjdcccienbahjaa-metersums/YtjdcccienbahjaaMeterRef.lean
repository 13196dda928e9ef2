/-
  Walks of the reference's Sum and Last over a list of all that came; the fixed answer.
-/
import Derived.Test.YtjdcccienbahjaaMeterSum
namespace Go.Proofs.Ytjdcccienbahjaa
set_option linter.unusedVariables false
open Go.RowKit

/-- v is a slice of the amounts l, as they lie in w -/
def IsAms (w : World) (v : Value) (l : Ams) : Prop :=
  ∃ ao c, v = .slice ao l.length c ∧ ∀ k, k < l.length → ∃ g o, ao = some ⟨g, o, none⟩ ∧ g < w.heap.size ∧ w.cell? ⟨g, o + k * 2, none⟩ = some (.int .i64 (l.getD k (0, 0)).1) ∧ w.cell? ⟨g, o + k * 2 + 1, none⟩ = some (.int .i64 (l.getD k (0, 0)).2)

theorem IsAms.ext {w w' : World} {v : Value} {l : Ams} (h : IsAms w v l) (e : Ext w w') : IsAms w' v l := by
  obtain ⟨ao, c, rfl, h⟩ := h
  refine ⟨ao, c, rfl, fun k hk => ?_⟩
  obtain ⟨g, o, rfl, h1, h2, h3⟩ := h k hk
  exact ⟨g, o, rfl, Nat.lt_of_lt_of_le h1 e.size, e.cell h2, e.cell h3⟩
theorem IsAms.drewN {w : World} {v : Value} {l : Ams} (h : IsAms w v l) (n : Nat) : IsAms (w.drewN n) v l := h

set_option maxHeartbeats 1000000 in
theorem refLast_any (v : Value) (l : Ams) (w : World) (h : IsAms w v l) (hl : l.length ≤ 100000) :
    Calls Try.prog 19 #[v] w fun e w' => e = .returned (.int .i64 (lastOf l)) ∧ w' = w := by
  obtain ⟨ao, cp, rfl, vw⟩ := h
  obtain ⟨S, eS⟩ : ∃ S, S = lastOf l := ⟨_, rfl⟩
  rw [← eS]
  have ES := hid eS
  clear eS
  go_enter Try.func19, Try.ntmps19
  go_wp2
  go_loop [3, 4] (fun s i => ∃ (k : Nat) (q : Int), k ≤ l.length ∧ i = .int .i64 k ∧ s = .int .i64 q ∧ Hid (q = lastOf (l.take k))) (fun _ i => (l.length - intOf i).toNat)
  case atStart => exact ⟨0, 0, by omega, rfl, rfl, by simp [Hid, lastOf, lastFrom]⟩
  case round =>
    obtain ⟨k, q, hk, rfl, rfl, Q⟩ := hrel
    by_cases t1 : k < l.length
    · obtain ⟨g, o, rfl, hg, x1, x2⟩ := vw k t1
      have TK := lastOf_take t1
      rw [← Q.out] at TK
      obtain ⟨d, ed⟩ : ∃ d, d = (l.getD k (0, 0)).1 := ⟨_, rfl⟩
      rw [← ed] at TK x1
      have i1 : (k : Int) < (l.length : Int) := by omega
      have i2 : (0 : Int) ≤ (k : Int) := by omega
      clear vw ed x2 Q
      by_cases g1 : q < d
      · rw [if_pos g1] at TK
        have T := hid TK.symm
        clear TK
        go_wp2
        go_round
        case rel => exact ⟨k + 1, d, by omega, by go_num, rfl, T⟩
        case measure => simp [intOf]; omega
      · rw [if_neg g1] at TK
        have T := hid TK.symm
        clear TK
        have g2 : decide (q < d) = false := by simp; omega
        go_wp2
        go_round
        case rel => exact ⟨k + 1, q, by omega, by go_num, rfl, T⟩
        case measure => simp [intOf]; omega
    · rw [show (k : Int) = (l.length : Int) by omega]
      have hkl : k = l.length := by omega
      have e0 : Hid (q = S) := by
        show q = S
        rw [Q.out, ES.out, hkl, List.take_length]
      clear vw t1 hk hkl
      go_wp2
      go_ret
      exact ⟨ret_int e0, rfl⟩

set_option maxHeartbeats 2000000 in
theorem refSum_any (v : Value) (l : Ams) (win tick : Int) (w : World) (h : IsAms w v l) (hl : l.length ≤ 100000) (h1 : 1 ≤ win) (h2 : win ≤ 64) (h3 : -1099511627776 ≤ tick) (h4 : tick ≤ 2199023255552) (hp : NonNeg l) (ht : total l ≤ 1099511627776) :
    Calls Try.prog 10 #[v, .int .i64 win, .int .i64 tick] w fun e w' => e = .returned (.int .i64 (tally l (tick - win) tick)) ∧ w' = w := by
  obtain ⟨ao, cp, rfl, vw⟩ := h
  obtain ⟨S, eS⟩ : ∃ S, S = tally l (tick - win) tick := ⟨_, rfl⟩
  rw [← eS]
  have ES := hid eS
  clear eS
  go_enter Try.func10, Try.ntmps10
  go_wp2
  go_loop [7, 8] (fun s i => ∃ (k : Nat) (q : Int), k ≤ l.length ∧ i = .int .i64 k ∧ s = .int .i64 q ∧ 0 ≤ q ∧ q ≤ total l ∧ Hid (q = tally (l.take k) (tick - win) tick)) (fun _ i => (l.length - intOf i).toNat)
  case atStart => exact ⟨0, 0, by omega, rfl, rfl, by omega, total_nonneg hp, by simp [Hid, tally]⟩
  case round =>
    obtain ⟨k, q, hk, rfl, rfl, hq0, hq1, Q⟩ := hrel
    by_cases t1 : k < l.length
    · obtain ⟨g, o, rfl, hg, x1, x2⟩ := vw k t1
      have hpk := hp _ (getD_mem t1)
      have TK := tally_take t1 (tick - win) tick
      have TB := tally_bounds (l := l.take (k + 1)) (fun p h => hp p (List.mem_of_mem_take h)) (tick - win) tick
      have TL := total_take_le hp (k + 1)
      obtain ⟨d, ed⟩ : ∃ d, d = (l.getD k (0, 0)).1 := ⟨_, rfl⟩
      obtain ⟨n, en⟩ : ∃ n, n = (l.getD k (0, 0)).2 := ⟨_, rfl⟩
      rw [← ed, ← en, ← Q.out] at TK
      rw [← en] at hpk
      rw [← ed] at x1
      rw [← en] at x2
      have NX : ∀ r : Int, r = q + (if d ≤ tick ∧ tick - win < d then n else 0) → 0 ≤ r ∧ r ≤ total l ∧ Hid (r = tally (l.take (k + 1)) (tick - win) tick) := by
        intro r hr
        have e3 : r = tally (l.take (k + 1)) (tick - win) tick := by rw [TK]; exact hr
        exact ⟨by omega, by omega, e3⟩
      have i1 : (k : Int) < (l.length : Int) := by omega
      have i2 : (0 : Int) ≤ (k : Int) := by omega
      clear vw ed en TK TB TL Q
      by_cases g1 : d ≤ tick
      · by_cases g2 : tick - win < d
        · obtain ⟨r1, r2, r3⟩ := NX (q + n) (by rw [if_pos ⟨g1, g2⟩])
          clear NX
          go_wp2
          go_round
          case rel => exact ⟨k + 1, q + n, by omega, by go_num, by go_num, r1, r2, r3⟩
          case measure => simp [intOf]; omega
        · obtain ⟨r1, r2, r3⟩ := NX q (by rw [if_neg (by omega)]; omega)
          clear NX
          go_wp2
          go_round
          case rel => exact ⟨k + 1, q, by omega, by go_num, rfl, r1, r2, r3⟩
          case measure => simp [intOf]; omega
      · obtain ⟨r1, r2, r3⟩ := NX q (by rw [if_neg (by omega)]; omega)
        clear NX
        have g3 : decide (d ≤ tick) = false := by simp; omega
        go_wp2
        go_round
        case rel => exact ⟨k + 1, q, by omega, by go_num, rfl, r1, r2, r3⟩
        case measure => simp [intOf]; omega
    · rw [show (k : Int) = (l.length : Int) by omega]
      have hkl : k = l.length := by omega
      have e0 : Hid (q = S) := by
        show q = S
        rw [Q.out, ES.out, hkl, List.take_length]
      clear vw t1 hk hkl
      go_wp2
      go_ret
      exact ⟨ret_int e0, rfl⟩
end Go.Proofs.Ytjdcccienbahjaa

/-
  What is told of a slice of ints in memory; walks of the reference's trim and Cmp.
-/
import Derived.Test.YtcjohgfmdnimjaaDoorLeaf
import Derived.Test.YtcjohgfmdnimjaaDoorDigMath
import Derived.Deep.QuietTactic
import Derived.BigQuiet
namespace Go.Proofs.YtcjohgfmdnimjaaDoor
set_option linter.unusedVariables false
open Go.RowKit

/-- v is a slice of the ints l, as they lie in w -/
def IsRow (w : World) (v : Value) (l : List Int) : Prop :=
  (v = .slice none 0 0 ∧ l = []) ∨
  ∃ b o c, v = .slice (some ⟨b, o, none⟩) l.length c ∧ l.length ≤ c ∧ c ≤ maxLen ∧ b < w.heap.size ∧ ∀ k, k < l.length → w.cell? ⟨b, o + k, none⟩ = some (.int .i64 (l.getD k 0))

theorem IsRow.below {w w' : World} {v : Value} {l : List Int} (h : IsRow w v l) (hb : Below w.heap.size w w') : IsRow w' v l := by
  rcases h with h | ⟨b, o, c, e, h1, h2, h3, h4⟩
  · exact .inl h
  · exact .inr ⟨b, o, c, e, h1, h2, Nat.lt_of_lt_of_le h3 hb.size, fun k hk => (hb.cell (p := ⟨b, o + k, none⟩) h3).trans (h4 k hk)⟩

theorem IsRow.drewN {w : World} {v : Value} {l : List Int} (h : IsRow w v l) (n : Nat) : IsRow (w.drewN n) v l := h

theorem IsRow.view {w : World} {v : Value} {l : List Int} (h : IsRow w v l) :
    ∃ ao c, v = .slice ao l.length c ∧ ∀ k, k < l.length → ∃ b o, ao = some ⟨b, o, none⟩ ∧ b < w.heap.size ∧ w.cell? ⟨b, o + k, none⟩ = some (.int .i64 (l.getD k 0)) := by
  rcases h with ⟨e, rfl⟩ | ⟨b, o, c, e, h1, h2, h3, h4⟩
  · exact ⟨none, 0, e, fun k hk => by simp at hk⟩
  · exact ⟨_, c, e, fun k hk => ⟨b, o, rfl, h3, h4 k hk⟩⟩

/-- v is a slice of the number x's digits, at most n of them -/
def Num (w : World) (v : Value) (x : Int) (n : Nat) : Prop := ∃ l, IsRow w v l ∧ Dig.Canon l ∧ Dig.val l = x ∧ l.length ≤ n

theorem Num.below {w w' : World} {v : Value} {x : Int} {n : Nat} (h : Num w v x n) (hb : Below w.heap.size w w') : Num w' v x n := by
  obtain ⟨l, a, b⟩ := h
  exact ⟨l, a.below hb, b⟩
theorem Num.drewN {w : World} {v : Value} {x : Int} {n : Nat} (h : Num w v x n) (m : Nat) : Num (w.drewN m) v x n := h

set_option maxHeartbeats 1000000 in
theorem trim_any (v : Value) (l : List Int) (w : World) (h : IsRow w v l) (hl : Dig.Ok l) (hlen : l.length ≤ 100000000) :
    Calls Tryd.prog 46 #[v] w fun e w' => ∃ v', e = .returned v' ∧ w' = w ∧ Num w v' (Dig.val l) l.length := by
  rcases h with ⟨rfl, rfl⟩ | ⟨b, o, c, rfl, h1, h2, h3, h4⟩
  · go_enter Tryd.func46, Tryd.ntmps46
    go_wp2
    refine wp_loop_rounds 1 ?_
    rw [rounds_succ]
    go_wp2
    go_ret
    exact ⟨_, rfl, rfl, [], .inl ⟨rfl, rfl⟩, ⟨Dig.ok_nil, fun h => by simp at h⟩, rfl, by simp⟩
  · unfold maxLen at h2
    go_enter Tryd.func46, Tryd.ntmps46
    go_wp2
    go_loop [3] (fun t => ∃ n : Nat, n ≤ l.length ∧ t = .int .i64 n ∧ Hid (Dig.val (l.take n) = Dig.val l)) (fun t => (intOf t).toNat)
    case atStart => exact ⟨l.length, by omega, rfl, Dig.trim_start l⟩
    case round =>
      obtain ⟨n, hn, rfl, HV⟩ := hrel
      have fin : (0 < n → l.getD (n - 1) 0 ≠ 0) → Num w (.slice (some ⟨b, o, none⟩) n c) (Dig.val l) l.length := by
        intro hc
        have e : (l.take n).length = n := by simp; omega
        refine ⟨l.take n, .inr ⟨b, o, c, by rw [e], by omega, by unfold maxLen; omega, h3, ?_⟩, Dig.trim_end l n hn hl hc, HV, by omega⟩
        intro k hk
        rw [h4 k (by omega)]
        simp [List.getD_eq_getElem?_getD, show k < n by omega]
      match n, hn, HV, fin with
      | 0, hn, HV, fin =>
        clear h4
        go_wp2
        go_ret
        exact ⟨_, rfl, rfl, fin (by omega)⟩
      | n + 1, hn, HV, fin =>
        have hc := h4 n (by omega)
        obtain ⟨d, hd⟩ : ∃ d, d = l.getD n 0 := ⟨_, rfl⟩
        rw [← hd] at hc
        have HD := hid hd
        clear h4 hd
        rw [show ((n + 1 : Nat) : Int) = (n : Int) + 1 by omega]
        by_cases hz : d = 0
        · subst hz
          have HV2 := hid (Dig.trim_step l n hn HV HD.out.symm)
          go_wp2
          go_round
          case rel => exact ⟨n, by omega, by go_num, HV2⟩
          case measure => simp [intOf]
        · have hz' : (d == 0) = false := by simp [hz]
          have HZ := hid hz
          clear hz
          go_wp2
          go_ret
          exact ⟨_, rfl, rfl, fin (fun _ => by rw [show n + 1 - 1 = n by omega, ← HD.out]; exact HZ)⟩

theorem drawn {w W : World} (h : ∃ q, W = w.drewN q) (n : Nat) : ∃ q, W.drewN n = w.drewN q := by
  obtain ⟨q, rfl⟩ := h
  exact ⟨_, World.drewN_drewN ..⟩

/-- which one is greater -/
def sgn (x y : Int) : Int := if x < y then -1 else if y < x then 1 else 0

set_option maxHeartbeats 1000000 in
theorem cmp_any (va vb : Value) (x y : Int) (n m : Nat) (w : World) (ha : Num w va x n) (hb : Num w vb y m) (hn : n ≤ 1000000) (hm : m ≤ 1000000) :
    Calls Tryd.prog 40 #[va, vb] w fun e w' => e = .returned (.int .i64 (sgn x y)) ∧ ∃ q, w' = w.drewN q := by
  obtain ⟨la, ra, ca, rfl, na⟩ := ha
  obtain ⟨lb, rb, cb, rfl, nb⟩ := hb
  obtain ⟨aa, cpa, rfl, va⟩ := ra.view
  obtain ⟨ab, cpb, rfl, vb⟩ := rb.view
  clear ra rb
  obtain ⟨S, hS⟩ : ∃ S, S = sgn (Dig.val la) (Dig.val lb) := ⟨_, rfl⟩
  rw [← hS]
  have HS := hid hS
  clear hS
  by_cases hlen : la.length = lb.length
  · have hl1 : la.length ≤ lb.length := by omega
    have hl2 : lb.length ≤ la.length := by omega
    rw [hlen]
    rw [hlen] at va
    clear hlen
    have hz : ((lb.length : Int) != (lb.length : Int)) = false := by simp
    go_enter Tryd.func40, Tryd.ntmps40
    go_wp2
    go_loopw [5] (fun i wr => ∃ (k q : Nat), k ≤ lb.length ∧ i = .int .i64 ((k : Int) - 1) ∧ wr = w.drewN q ∧ Hid (la.drop k = lb.drop k)) (fun i _ => (intOf i + 1).toNat)
    case atStart => exact ⟨lb.length, 0, by omega, rfl, rfl, by show _ = _; rw [List.drop_of_length_le hl1, List.drop_length]⟩
    case round =>
      obtain ⟨k, q, hk, rfl, rfl, HD⟩ := hrel
      match k, hk, HD with
      | 0, hk, HD =>
        have e0 : Hid (0 = S) := by
          have : la = lb := by simpa using HD.out
          show 0 = S
          rw [HS.out, this]; unfold sgn; rw [if_neg (by omega), if_neg (by omega)]
        clear va vb
        rw [show ((0 : Nat) : Int) - 1 = -1 from rfl]
        go_wp2
        go_ret
        exact ⟨ret_int e0, _, rfl⟩
      | k + 1, hk, HD =>
        obtain ⟨b1, o1, rfl, hb1, hc1⟩ := va k (by omega)
        obtain ⟨b2, o2, rfl, hb2, hc2⟩ := vb k (by omega)
        obtain ⟨d, hd⟩ : ∃ d, d = la.getD k 0 := ⟨_, rfl⟩
        obtain ⟨e, he⟩ : ∃ e, e = lb.getD k 0 := ⟨_, rfl⟩
        rw [← hd] at hc1
        rw [← he] at hc2
        have D := hid hd
        have E := hid he
        clear hd he va vb
        rw [show ((k + 1 : Nat) : Int) - 1 = (k : Int) by omega]
        have i1 : (k : Int) < (lb.length : Int) := by omega
        have i2 : (0 : Int) ≤ (k : Int) := by omega
        by_cases t1 : d < e
        · have e0 : Hid (-1 = S) := by
            show -1 = S
            rw [HS.out]; unfold sgn
            rw [if_pos (Dig.higher ca.1 cb.1 (by omega) (by omega) HD (by rw [← D.out, ← E.out]; exact t1))]
          go_wp2
          go_quiet (fail)
          go_wp2
          go_ret
          exact ⟨ret_int e0, drawn ⟨_, rfl⟩ _⟩
        · by_cases t2 : e < d
          · have e0 : Hid (1 = S) := by
              show 1 = S
              have := Dig.higher cb.1 ca.1 (by omega) (by omega) HD.out.symm (by rw [← D.out, ← E.out]; exact t2)
              rw [HS.out]; unfold sgn
              rw [if_neg (by omega), if_pos this]
            go_wp2
            go_quiet (fail)
            go_wp2
            go_quiet (fail)
            go_wp2
            go_ret
            exact ⟨ret_int e0, drawn (drawn ⟨_, rfl⟩ _) _⟩
          · have HD2 := hid (Dig.drop_down (by omega) (by omega) HD (by rw [← D.out, ← E.out]; omega))
            go_wp2
            go_quiet (fail)
            go_wp2
            go_quiet (fail)
            go_wp2
            go_roundw
            case rel =>
              exact ⟨k, _, by omega, by go_num, rfl, HD2⟩
            case measure => simp [intOf]
  · have hz : ((la.length : Int) != (lb.length : Int)) = true := by simp; omega
    clear va vb
    by_cases t : la.length < lb.length
    · have e0 : Hid (-1 = S) := by
        show -1 = S
        rw [HS.out]; unfold sgn; rw [if_pos (Dig.longer ca.1 cb t)]
      go_enter Tryd.func40, Tryd.ntmps40
      go_wp2
      go_ret
      exact ⟨ret_int e0, 0, rfl⟩
    · have e0 : Hid (1 = S) := by
        show 1 = S
        have := Dig.longer cb.1 ca (show lb.length < la.length by omega)
        rw [HS.out]; unfold sgn; rw [if_neg (by omega), if_pos this]
      go_enter Tryd.func40, Tryd.ntmps40
      go_wp2
      go_ret
      exact ⟨ret_int e0, 0, rfl⟩
end Go.Proofs.YtcjohgfmdnimjaaDoor

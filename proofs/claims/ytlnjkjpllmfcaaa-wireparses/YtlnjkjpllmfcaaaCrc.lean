/-
  Walks of the sums: shift, More, Sum and the reference's Sum, at any slice of bytes; the world is as it was but for draws.
-/
import Derived.Test.YtlnjkjpllmfcaaaProg
import Derived.Test.YtlnjkjpllmfcaaaCrcMath
import Derived.WalkKit
import Derived.WalkSpells
import Derived.WalkLawsBesides
import Derived.Handy
import Derived.Below
import Derived.Laws.Rows
import Derived.Laws.CopyOwn
import Derived.Laws.BytesArg
import Derived.Laws.ShiftsVarLaws
import Derived.Deep.QuietTactic
import Derived.BigQuiet
import Derived.BigRegion
namespace Go.Proofs.Ytlnjkjpllmfcaaa
set_option linter.unusedVariables false
open Go.RowKit Go.Lib

theorem hid {p : Prop} (h : p) : Hid p := h
theorem ret_int {k : IntKind} {a b : Int} (h : a = b) : Ending.returned (.int k a) = .returned (.int k b) := by rw [h]

/-- v is a slice of the bytes l, as they lie in w -/
def Bytes (w : World) (v : Value) (l : List UInt8) : Prop :=
  ∃ ao c, v = .slice ao l.length c ∧ l.length ≤ c ∧ c ≤ maxLen ∧ ∀ k, k < l.length → ∃ g o, ao = some ⟨g, o, none⟩ ∧ g < w.heap.size ∧ w.cell? ⟨g, o + k, none⟩ = some (.int .u8 ((l.getD k 0).toNat : Int))

theorem and_one (y : Nat) (h : y < 4294967296) : bits .and .u32 (y : Int) 1 = ((y % 2 : Nat) : Int) := by
  have := u32_and_nat y 1 h (by decide)
  rw [Nat.and_one_is_mod] at this
  exact this
theorem xor_poly (y : Nat) (h : y < 4294967296) : bits .xor .u32 ((y : Int) / 2) 3988292384 = ((y / 2 ^^^ cpoly : Nat) : Int) :=
  u32_xor_nat (y / 2) 3988292384 (by omega) (by decide)

set_option maxHeartbeats 400000 in
theorem shift_any (r : Nat) (h : r < 4294967296) (w : World) :
    Calls Try.prog 102 #[.int .u32 r] w fun e w' => e = .returned (.int .u32 (cbits 8 r)) ∧ w' = w := by
  go_enter Try.func102, Try.ntmps102
  go_wp2
  go_loop [0, 4] (fun x i => ∃ k : Nat, k ≤ 8 ∧ i = .int .i64 k ∧ x = .int .u32 (cbits k r)) (fun _ i => (8 - intOf i).toNat)
  case atStart => exact ⟨0, by omega, rfl, rfl⟩
  case round =>
    obtain ⟨k, hk, rfl, rfl⟩ := hrel
    have hr := cbits_room k r h
    have hn : Hid (cbits (k + 1) r = cbit (cbits k r)) := rfl
    by_cases t : k < 8
    · have t' : (k : Int) < 8 := by omega
      generalize cbits k r = y at hr hn
      have a1 := and_one y hr
      have x1 := hid (xor_poly y hr)
      by_cases d : y % 2 = 1
      · rw [d] at a1
        have cb : Hid (cbit y = y / 2 ^^^ cpoly) := if_pos d
        clear d
        go_wp2
        go_round
        case rel => exact ⟨k + 1, by omega, by go_num, by rw [hn.out, cb.out, x1.out]⟩
        case measure => simp [intOf]; omega
      · rw [show y % 2 = 0 by omega] at a1
        have cb : Hid (cbit y = y / 2) := if_neg d
        clear d
        go_wp2
        go_round
        case rel => exact ⟨k + 1, by omega, by go_num, by rw [hn.out, cb.out]; go_num⟩
        case measure => simp [intOf]; omega
    · obtain rfl : k = 8 := by omega
      go_wp2
      go_ret
      exact ⟨rfl, rfl⟩

theorem not32 (s : Nat) (h : s < 4294967296) : bits .xor .u32 IntKind.u32.max (s : Int) = ((4294967295 - s : Nat) : Int) := by
  have e : 4294967295 ^^^ s = 4294967295 - s := by
    have h1 : (BitVec.allOnes 32 ^^^ BitVec.ofNat 32 s) = ~~~ BitVec.ofNat 32 s := BitVec.allOnes_xor ..
    have h2 := congrArg BitVec.toNat h1
    rw [BitVec.toNat_xor, BitVec.toNat_not, BitVec.toNat_allOnes, BitVec.toNat_ofNat, Nat.mod_eq_of_lt (show s < 2 ^ 32 by omega)] at h2
    exact h2
  rw [← e]
  exact u32_xor_nat 4294967295 s (by decide) h

theorem take_snoc (l : List UInt8) (k : Nat) (h : k < l.length) : l.take (k + 1) = l.take k ++ [l.getD k 0] := by
  rw [List.take_succ_eq_append_getElem h, List.getD_eq_getElem?_getD, List.getElem?_eq_getElem h]
  rfl

set_option maxHeartbeats 400000 in
theorem more_any (s : Nat) (v : Value) (l : List UInt8) (w : World) (h : s < 4294967296) (hv : Bytes w v l) :
    Calls Try.prog 94 #[.int .u32 s, v] w fun e w' => e = .returned (.int .u32 (cmore s l)) ∧ w' = w := by
  obtain ⟨ao, c, rfl, hc, hm, vw⟩ := hv
  unfold maxLen at hm
  have N1 := hid (not32 s h)
  have N2 : Hid (bits .xor .u32 IntKind.u32.max (creg (4294967295 - s) l : Int) = (cmore s l : Int)) := not32 _ (creg_room l _ (by omega))
  go_enter Try.func94, Try.ntmps94
  go_wp2_with fail
  go_loop [5, 12] (fun x i => ∃ k : Nat, k ≤ l.length ∧ i = .int .i64 k ∧ x = .int .u32 (creg (4294967295 - s) (l.take k))) (fun _ i => (l.length - intOf i).toNat)
  case atStart => exact ⟨0, by omega, rfl, by rw [N1.out]; rfl⟩
  case round =>
    obtain ⟨k, hk, rfl, rfl⟩ := hrel
    have hr := creg_room (l.take k) (4294967295 - s) (by omega)
    by_cases t : k < l.length
    · obtain ⟨g, o, rfl, hg, x1⟩ := vw k t
      have hn : Hid (creg (4294967295 - s) (l.take (k + 1)) = cbyte (creg (4294967295 - s) (l.take k)) (l.getD k 0)) := by
        show _ = _
        rw [take_snoc l k t, creg_snoc]
      have hb := byte_room (l.getD k 0)
      have i1 : (k : Int) < (l.length : Int) := by omega
      have i2 : (0 : Int) ≤ (k : Int) := by omega
      clear vw
      generalize l.getD k 0 = b at *
      generalize creg (4294967295 - s) (l.take k) = y at *
      have q1 := u32_xor_nat y b.toNat hr (by omega)
      have q2 := shift_any (y ^^^ b.toNat) (Nat.xor_lt_two_pow (n := 32) hr (by omega)) w
      go_wp2_with fail
      refine q2.mono ?_
      rintro e w' ⟨rfl, rfl⟩
      go_wp2_with fail
      go_round
      case rel => exact ⟨k + 1, by omega, by go_num, by rw [hn.out]; rfl⟩
      case measure => simp [intOf]; omega
    · obtain rfl : k = l.length := by omega
      clear vw
      go_wp2_with fail
      go_ret
      exact ⟨ret_int N2.out, rfl⟩
set_option maxHeartbeats 400000 in
theorem sum_any (v : Value) (l : List UInt8) (w : World) (hv : Bytes w v l) :
    Calls Try.prog 50 #[v] w fun e w' => e = .returned (.int .u32 (csum l)) ∧ w' = w := by
  have c := more_any 0 v l w (by decide) hv
  clear hv
  go_enter Try.func50, Try.ntmps50
  go_wp2_with fail
  refine c.mono ?_
  rintro e w' ⟨rfl, rfl⟩
  go_wp2_with fail
  go_ret
  exact ⟨rfl, rfl⟩

theorem Bytes.drewN {w : World} {v : Value} {l : List UInt8} (h : Bytes w v l) (n : Nat) : Bytes (w.drewN n) v l := h

set_option maxHeartbeats 1000000 in
theorem refSum_any (v : Value) (l : List UInt8) (w : World) (hv : Bytes w v l) :
    Calls Try.prog 32 #[v] w fun e w' => e = .returned (.int .u32 (csum l)) ∧ ∃ n, w' = w.drewN n := by
  obtain ⟨ao, c, rfl, hc, hm, vw⟩ := hv
  unfold maxLen at hm
  have rl := creg_room l 4294967295 (by decide)
  have N2 : Hid (4294967295 - (creg 4294967295 l : Int) = (csum l : Int)) := by
    show _ = ((4294967295 - creg 4294967295 l : Nat) : Int)
    omega
  go_enter Try.func32, Try.ntmps32
  go_wp2_with fail
  go_loopw [3, 4] (fun x i w' => ∃ k n : Nat, k ≤ l.length ∧ i = .int .i64 k ∧ x = .int .u32 (creg 4294967295 (l.take k)) ∧ w' = w.drewN n) (fun _ i _ => (l.length - intOf i).toNat)
  case atStart => exact ⟨0, 0, by omega, rfl, rfl, rfl⟩
  case round =>
    obtain ⟨k, n, hk, rfl, rfl, rfl⟩ := hrel
    have hr := creg_room (l.take k) 4294967295 (by decide)
    by_cases t : k < l.length
    · obtain ⟨g, o, rfl, hg, x1⟩ := vw k t
      have hn : Hid (creg 4294967295 (l.take (k + 1)) = rbits (creg 4294967295 (l.take k)) (l.getD k 0).toNat 8) := by
        show _ = _
        rw [take_snoc l k t, creg_snoc, cbyte_rbits]
      have hb := byte_room (l.getD k 0)
      have i1 : (k : Int) < (l.length : Int) := by omega
      have i2 : (0 : Int) ≤ (k : Int) := by omega
      clear vw
      generalize (l.getD k 0).toNat = b at *
      generalize creg 4294967295 (l.take k) = y at *
      go_wp2_with fail
      go_loopw [3, 5] (fun x i w' => ∃ j m : Nat, j ≤ 8 ∧ i = .int .i64 j ∧ x = .int .u32 (rbits y b j) ∧ w' = w.drewN m) (fun _ i _ => (8 - intOf i).toNat)
      case atStart => exact ⟨0, n, by omega, rfl, rfl, rfl⟩
      case round =>
        obtain ⟨j, m, hj, rfl, rfl, rfl⟩ := hrel
        have hz := rbits_room y b j hr
        by_cases t2 : j < 8
        · have j1 : (j : Int) < 8 := by omega
          have j2 : (0 : Int) ≤ (j : Int) := by omega
          have RB : Hid (rbits y b (j + 1) = rbit (rbits y b j) (b / 2 ^ j % 2)) := rfl
          generalize rbits y b j = z at *
          obtain ⟨p, hp⟩ : ∃ p, p = 2 ^ j := ⟨_, rfl⟩
          have p1 : 2 ^ j ≤ 2 ^ 7 := Nat.pow_le_pow_right (by decide) (by omega)
          have p2 : 1 ≤ p := by rw [hp]; exact Nat.two_pow_pos j
          have p3 : p ≤ 128 := by rw [hp]; exact p1
          have e1 : (2 : Int) ^ j % 4294967296 = (p : Int) := by
            have : ((2 ^ j : Nat) : Int) = (2 : Int) ^ j := by simp
            rw [← this, ← hp]; omega
          obtain ⟨q, hq⟩ : ∃ q, q = b / p % 2 := ⟨_, rfl⟩
          have e2 : (b : Int) / (p : Int) % 2 = (q : Int) := by rw [hq]; simp
          have q1 : q ≤ 1 := by omega
          rw [← hp, ← hq] at RB
          clear hp hq p1
          go_wp2_with fail
          go_quiet (fail)
          by_cases d : z % 2 = q
          · have cb : Hid (rbit z q = z / 2) := if_pos d
            have d' : ((z : Int) % 2 == (q : Int)) = true := by rw [beq_iff_eq]; omega
            clear d
            go_wp2_with fail
            go_roundw
            case rel => exact ⟨j + 1, _, by omega, by go_num, by rw [RB.out, cb.out]; go_num, rfl⟩
            case measure => simp [intOf]; omega
          · have cb : Hid (rbit z q = z / 2 ^^^ cpoly) := if_neg d
            have d' : ((z : Int) % 2 == (q : Int)) = false := by rw [beq_eq_false_iff_ne]; omega
            have xp := hid (xor_poly z hz)
            clear d
            go_wp2_with fail
            go_roundw
            case rel => exact ⟨j + 1, _, by omega, by go_num, by rw [RB.out, cb.out, xp.out], rfl⟩
            case measure => simp [intOf]; omega
        · obtain rfl : j = 8 := by omega
          go_wp2_with fail
          go_roundw
          case rel => exact ⟨k + 1, _, by omega, by go_num, by rw [hn.out], rfl⟩
          case measure => simp [intOf]; omega
    · obtain rfl : k = l.length := by omega
      clear vw
      go_wp2_with fail
      go_ret
      exact ⟨ret_int N2.out, _, rfl⟩
end Go.Proofs.Ytlnjkjpllmfcaaa

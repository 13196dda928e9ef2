/-
  The walk of SerialRow: along any steps forward each number is ahead of the next one, which is the later one of both.
-/
import Derived.Test.YtpkdjmhflgaknaaSerial
import Derived.OpenShut
import Derived.Lib.SmallJoins
namespace Go.Proofs.Ytpkdjmhflgaknaa.serialRow
set_option linter.unusedVariables false
open Go.RowKit

/-- v is a slice of the numbers l of 16 bits, as they lie in w -/
def IsU16s (w : World) (v : Value) (l : List Int) : Prop :=
  ∃ ao c, v = .slice ao l.length c ∧ ∀ k, k < l.length → ∃ g o, ao = some ⟨g, o, none⟩ ∧ g < w.heap.size ∧ w.cell? ⟨g, o + k, none⟩ = some (.int .u16 (l.getD k 0)) ∧ 0 ≤ l.getD k 0 ∧ l.getD k 0 ≤ 65535

theorem on (a n : Int) (ha : 0 ≤ a) (ha' : a < 4294967296) (h : 0 ≤ n) (h' : n ≤ 65535) : 0 < fway a (fnext a (n + 1)) ∧ ¬ 0 < fway (fnext a (n + 1)) a := by
  unfold fway fnext; omega

set_option maxHeartbeats 1000000 in
theorem walk (a0 : Int) (v1 : Value) (l : List Int) (w0 : (Lit.int .u32 a0).wf = true) (w : World) (hl : IsU16s w v1 l) :
    Calls Try.prog 6 #[.int .u32 a0, v1] w fun e w' => e = .returned (.bool true) ∧ w' = w := by
  obtain ⟨b0, b0'⟩ := bounds_u32 w0
  clear w0
  obtain ⟨ao, cp, rfl, vw⟩ := hl
  by_cases t1 : 100 < l.length
  · have t1' : (100 : Int) < (l.length : Int) := by omega
    clear vw
    go_enter Try.func6, Try.ntmps6
    go_wp2_with fail
    refine (awake5_any _).mono ?_
    rintro e w' ⟨rfl, rfl⟩
    go_wp2_with fail
    go_ret
    exact ⟨rfl, rfl⟩
  · have t1' : decide ((100 : Int) < (l.length : Int)) = false := by simp; omega
    have t2 : l.length ≤ 100 := by omega
    clear t1
    go_enter Try.func6, Try.ntmps6
    go_wp2_with fail
    go_loop [0, 14] (fun a i => ∃ (k : Nat) (x : Int), k ≤ l.length ∧ i = .int .i64 k ∧ a = .int .u32 x ∧ 0 ≤ x ∧ x < 4294967296) (fun _ i => (l.length - intOf i).toNat)
    case atStart => exact ⟨0, a0, by omega, rfl, rfl, by omega, by omega⟩
    case round =>
      obtain ⟨k, x, hk, rfl, rfl, hx, hx'⟩ := hrel
      by_cases t3 : k < l.length
      · obtain ⟨g, o, rfl, hg, x1, x2, x3⟩ := vw k t3
        clear vw
        generalize l.getD k 0 = n at x1 x2 x3
        have i1 : (k : Int) < (l.length : Int) := by omega
        have i2 : (0 : Int) ≤ (k : Int) := by omega
        obtain ⟨p1, p2⟩ := on x n hx hx' x2 x3
        have r := fnext_room x (n + 1)
        have c1 := next_any x (n + 1) hx hx' (by omega) (by omega) w
        have c2 := ahead_any x (fnext x (n + 1)) hx r.1 hx' r.2 w
        have c3 := ahead_any (fnext x (n + 1)) x r.1 hx r.2 hx' w
        have c4 := later_any x (fnext x (n + 1)) hx r.1 hx' r.2 w
        have c5 := later_any (fnext x (n + 1)) x r.1 hx r.2 hx' w
        rw [decide_eq_true p1] at c2
        rw [decide_eq_false p2] at c3
        unfold flater at c4 c5
        rw [if_pos p1] at c4
        rw [if_neg p2] at c5
        clear p1 p2
        generalize fnext x (n + 1) = y at r c1 c2 c3 c4 c5
        go_wp2_with fail
        refine c1.mono ?_
        rintro e w' ⟨rfl, rfl⟩
        go_wp2_with fail
        refine c2.mono ?_
        rintro e w' ⟨rfl, rfl⟩
        go_wp2_with fail
        refine c3.mono ?_
        rintro e w' ⟨rfl, rfl⟩
        go_wp2_with fail
        refine c4.mono ?_
        rintro e w' ⟨rfl, rfl⟩
        go_wp2_with fail
        refine c5.mono ?_
        rintro e w' ⟨rfl, rfl⟩
        go_wp2_with fail
        go_round
        case rel => exact ⟨k + 1, y, by omega, by go_num, rfl, by omega, by omega⟩
        case measure => simp [intOf]; omega
      · rw [show (k : Int) = (l.length : Int) by omega]
        clear vw t3
        go_wp2_with fail
        refine (awake5_any _).mono ?_
        rintro e w' ⟨rfl, rfl⟩
        go_wp2_with fail
        go_ret
        exact ⟨rfl, rfl⟩
end Go.Proofs.Ytpkdjmhflgaknaa.serialRow

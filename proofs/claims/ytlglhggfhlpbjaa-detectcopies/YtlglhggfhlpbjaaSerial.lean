/-
  Walks of package serial's calls and of the reference's: what each returns, for every argument; the world is as it was.
-/
import Derived.Test.YtlglhggfhlpbjaaProg
import Derived.WalkKit
import Derived.WalkSpells
import Derived.WalkLawsBesides
import Derived.Laws.BitsLemmas
import Derived.Handy
namespace Go.Proofs.Ytlglhggfhlpbjaa.Ser
set_option linter.unusedVariables false
open Go.RowKit Go.Lib

theorem hid {p : Prop} (h : p) : Hid p := h
theorem ret_int {k : IntKind} {a b : Int} (h : a = b) : Ending.returned (.int k a) = .returned (.int k b) := by rw [h]
theorem ret_bool {a b : Bool} (h : a = b) : Ending.returned (.bool a) = .returned (.bool b) := by rw [h]

/-- the shortest way from a to b, from -2^31 to 2^31 - 1 -/
def fway (a b : Int) : Int := (b - a + 2147483648) % 4294967296 - 2147483648
/-- n steps behind a -/
def fnext (a n : Int) : Int := (a + n) % 4294967296
/-- how many steps b is behind a -/
def fgap (a b : Int) : Int := if fway a b = -2147483648 then 0 else fway a b
/-- the later one -/
def flater (a b : Int) : Int := if 0 < fway a b then b else a
/-- the number that is meant -/
def fwide (m a : Int) : Int := if m < 0 ∨ 1099511627776 < m then 0 else m + fway m a

theorem fway_room (a b : Int) : -2147483648 ≤ fway a b ∧ fway a b ≤ 2147483647 := by unfold fway; omega
theorem fnext_room (a n : Int) : 0 ≤ fnext a n ∧ fnext a n < 4294967296 := by unfold fnext; omega
theorem fgap_room (a b : Int) : -2147483647 ≤ fgap a b ∧ fgap a b ≤ 2147483647 := by
  have := fway_room a b
  unfold fgap; split <;> omega
theorem fwide_room (m a : Int) : -2147483648 ≤ fwide m a ∧ fwide m a ≤ 1101659111424 := by
  have := fway_room m a
  unfold fwide; split <;> omega

set_option maxHeartbeats 400000 in
theorem steps_any (a b : Int) (ha : 0 ≤ a) (hb : 0 ≤ b) (ha' : a < 4294967296) (hb' : b < 4294967296) (w : World) :
    Calls Try.prog 38 #[.int .u32 a, .int .u32 b] w fun e w' => e = .returned (.int .i32 (fway a b)) ∧ w' = w := by
  go_enter Try.func38, Try.ntmps38
  go_wp2
  go_ret
  exact ⟨ret_int (by unfold wrap32 fway; omega), rfl⟩

set_option maxHeartbeats 400000 in
theorem next_any (a n : Int) (ha : 0 ≤ a) (ha' : a < 4294967296) (hn : -9223372036854775808 ≤ n) (hn' : n ≤ 9223372036854775807) (w : World) :
    Calls Try.prog 32 #[.int .u32 a, .int .i64 n] w fun e w' => e = .returned (.int .u32 (fnext a n)) ∧ w' = w := by
  go_enter Try.func32, Try.ntmps32
  go_wp2
  go_ret
  exact ⟨ret_int (by unfold fnext; omega), rfl⟩

set_option maxHeartbeats 400000 in
theorem gap_any (a b : Int) (ha : 0 ≤ a) (hb : 0 ≤ b) (ha' : a < 4294967296) (hb' : b < 4294967296) (w : World) :
    Calls Try.prog 37 #[.int .u32 a, .int .u32 b] w fun e w' => e = .returned (.int .i64 (fgap a b)) ∧ w' = w := by
  have r := fway_room a b
  have c := steps_any a b ha hb ha' hb' w
  have d : Hid (fgap a b = if fway a b = -2147483648 then 0 else fway a b) := rfl
  generalize fgap a b = z at d ⊢
  generalize fway a b = v at r c d
  by_cases h : v = -2147483648
  · subst h
    go_enter Try.func37, Try.ntmps37
    go_wp2_with fail
    refine c.mono ?_
    rintro e w' ⟨rfl, rfl⟩
    go_wp2_with fail
    go_ret
    exact ⟨ret_int (by rw [d.out]; simp), rfl⟩
  · go_enter Try.func37, Try.ntmps37
    go_wp2_with fail
    refine c.mono ?_
    rintro e w' ⟨rfl, rfl⟩
    go_wp2_with fail
    go_ret
    exact ⟨ret_int (by rw [d.out, if_neg h]), rfl⟩

theorem fway_mod (m a : Int) : fway (m % 4294967296) a = fway m a := by unfold fway; omega

/-- from a to b, from 0 to 2^32 - 1 -/
def rsteps (a b : Int) : Int := if b - a < 0 then b - a + 4294967296 else b - a

set_option maxHeartbeats 400000 in
theorem refSteps_any (a b : Int) (ha : 0 ≤ a) (hb : 0 ≤ b) (ha' : a < 4294967296) (hb' : b < 4294967296) (w : World) :
    Calls Try.prog 36 #[.int .u32 a, .int .u32 b] w fun e w' => e = .returned (.int .i64 (rsteps a b)) ∧ w' = w := by
  by_cases h : b - a < 0
  · go_enter Try.func36, Try.ntmps36
    go_wp2_with fail
    go_ret
    exact ⟨ret_int (by unfold rsteps; rw [if_pos h]), rfl⟩
  · go_enter Try.func36, Try.ntmps36
    go_wp2_with fail
    go_ret
    exact ⟨ret_int (by unfold rsteps; rw [if_neg (by omega)]), rfl⟩

theorem rsteps_room (a b : Int) (ha : 0 ≤ a) (hb : 0 ≤ b) (ha' : a < 4294967296) (hb' : b < 4294967296) : 0 ≤ rsteps a b ∧ rsteps a b < 4294967296 := by
  unfold rsteps; split <;> omega

theorem rsteps_gap (a b : Int) (ha : 0 ≤ a) (hb : 0 ≤ b) (ha' : a < 4294967296) (hb' : b < 4294967296) :
    fgap a b = if rsteps a b = 2147483648 then 0 else if 2147483648 < rsteps a b then rsteps a b - 4294967296 else rsteps a b := by
  unfold fgap fway rsteps; split <;> (repeat' split) <;> omega

set_option maxHeartbeats 400000 in
theorem refGap_any (a b : Int) (ha : 0 ≤ a) (hb : 0 ≤ b) (ha' : a < 4294967296) (hb' : b < 4294967296) (w : World) :
    Calls Try.prog 28 #[.int .u32 a, .int .u32 b] w fun e w' => e = .returned (.int .i64 (fgap a b)) ∧ w' = w := by
  have r := rsteps_room a b ha hb ha' hb'
  have c := refSteps_any a b ha hb ha' hb' w
  have d := hid (rsteps_gap a b ha hb ha' hb')
  generalize fgap a b = z at d ⊢
  generalize rsteps a b = v at r c d
  by_cases h1 : v = 2147483648
  · subst h1
    go_enter Try.func28, Try.ntmps28
    go_wp2_with fail
    refine c.mono ?_
    rintro e w' ⟨rfl, rfl⟩
    go_wp2_with fail
    go_ret
    exact ⟨ret_int (by rw [d.out]; simp), rfl⟩
  · by_cases h2 : 2147483648 < v
    · go_enter Try.func28, Try.ntmps28
      go_wp2_with fail
      refine c.mono ?_
      rintro e w' ⟨rfl, rfl⟩
      go_wp2_with fail
      go_ret
      exact ⟨ret_int (by rw [d.out, if_neg h1, if_pos h2]), rfl⟩
    · go_enter Try.func28, Try.ntmps28
      go_wp2_with fail
      refine c.mono ?_
      rintro e w' ⟨rfl, rfl⟩
      go_wp2_with fail
      go_ret
      exact ⟨ret_int (by rw [d.out, if_neg h1, if_neg (by omega)]), rfl⟩

/-- how far apart two numbers are -/
def ffar (a b : Int) : Int := if a < b then b - a else a - b

end Go.Proofs.Ytlglhggfhlpbjaa.Ser

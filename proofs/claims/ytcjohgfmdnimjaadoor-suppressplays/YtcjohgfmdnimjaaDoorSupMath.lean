/-
  How long is waited, and a round that is to come, as plain numbers.
-/
import Derived.Test.YtcjohgfmdnimjaaDoorLogsRef
import Derived.Test.YtcjohgfmdnimjaaDoorEverMore
import Derived.Test.YtcjohgfmdnimjaaDoorRowAny
namespace Go.Proofs.YtcjohgfmdnimjaaDoor.Sup
set_option linter.unusedVariables false
set_option maxRecDepth 100000
open Go.RowKit Go.Lib

/-- numbers that a wait may be asked for -/
def Wok (s m n : Int) : Prop := (0 < s ∧ s ≤ 4294967296) ∧ (0 ≤ m ∧ m ≤ 1048576) ∧ 2 ≤ n ∧ n ≤ 65536
/-- what the last one of so many has drawn -/
def lst (n : Int) : Int := fneg (fratio 1 n)
/-- the part of the most that is waited -/
def prt (s n : Int) : Int := fsub 4294967296 (fratio (fneg s) (lst n))
/-- how long is waited -/
def wt (s m n : Int) : Int := ftimes (prt s n) m

theorem flog_one : flog 4294967296 = 0 := by
  rw [flog_at 4294967296 31 (by decide) (by decide) (by decide) (by decide)]; decide
theorem fneg_at1 : fneg 4294967296 = 0 := by unfold fneg; rw [flog_one]; decide
theorem flog_quart : flog 1073741824 = -131072 := by
  rw [flog_at 1073741824 33 (by decide) (by decide) (by decide) (by decide)]; decide
theorem fneg_quart : fneg 1073741824 = 8589934592 := by unfold fneg; rw [flog_quart]; decide
theorem flog_sixt : flog 268435456 = -262144 := by
  rw [flog_at 268435456 35 (by decide) (by decide) (by decide) (by decide)]; decide
theorem fneg_sixt : fneg 268435456 = 17179869184 := by unfold fneg; rw [flog_sixt]; decide
theorem flog_low {s : Int} (h0 : 0 < s) (h1 : s ≤ 4294967296) : flog s ≤ 0 ∧ -2097152 ≤ flog s := by
  have := flog_rises s 4294967296 h0 h1 (by decide)
  rw [flog_one] at this
  exact ⟨this, (flog_room s h0 (by omega)).1⟩
theorem fneg_low {s : Int} (h0 : 0 < s) (h1 : s ≤ 4294967296) : fneg s = -flog s * 65536 := by
  have := (flog_low h0 h1).1
  unfold fneg
  rw [if_neg (by omega)]
theorem ratio_n {n : Int} (h0 : 2 ≤ n) (h1 : n ≤ 65536) : fratio 1 n = 4294967296 / n ∧ 65536 ≤ 4294967296 / n ∧ 4294967296 / n ≤ 2147483648 := by
  refine ⟨?_, ?_, ?_⟩
  · unfold fratio
    rw [if_neg (by omega)]
    rfl
  · exact Int.le_ediv_of_mul_le (by omega) (by omega)
  · exact Int.ediv_le_of_le_mul (by omega) (by omega)
theorem lst_room {n : Int} (h0 : 2 ≤ n) (h1 : n ≤ 65536) : 4294967296 ≤ lst n ∧ lst n ≤ 137438953472 := by
  obtain ⟨e, a, b⟩ := ratio_n h0 h1
  unfold lst
  rw [e]
  have f := fneg_falls (4294967296 / n) 2147483648 (by omega) b (by decide)
  rw [fneg_half] at f
  have g := flog_low (s := 4294967296 / n) (by omega) (by omega)
  rw [fneg_low (by omega) (by omega)] at f ⊢
  omega
theorem neg_low {s : Int} (h0 : 0 < s) (h1 : s ≤ 4294967296) : 0 ≤ fneg s ∧ fneg s ≤ 137438953472 := by
  have g := flog_low h0 h1
  rw [fneg_low h0 h1]
  omega

/-- with a remainder: the quotient of two numbers of which the first isn't the greater one -/
theorem ratio_lt {x l : Int} (h0 : 0 ≤ x) (h1 : x < l) (h2 : l ≤ 137438953472) : fratio x l = x * 4294967296 / l ∧ 0 ≤ x * 4294967296 / l ∧ x * 4294967296 / l < 4294967296 := by
  refine ⟨?_, Int.ediv_nonneg (by omega) (by omega), Int.ediv_lt_of_lt_mul (by omega) (by omega)⟩
  unfold fratio
  rw [if_neg (by omega)]
theorem ratio_ge {x l : Int} (h0 : 0 < l) (h1 : l ≤ x) : 4294967296 ≤ fratio x l := by
  unfold fratio
  split
  · decide
  · exact Int.le_ediv_of_mul_le h0 (by omega)

theorem prt_none {s n : Int} (h0 : 2 ≤ n) (h1 : n ≤ 65536) (q : lst n ≤ fneg s) : prt s n = 0 := by
  have r := ratio_ge (l := lst n) (by have := lst_room h0 h1; omega) q
  unfold prt fsub
  split <;> omega
theorem prt_some {s n : Int} (hs : 0 < s) (hs' : s ≤ 4294967296) (h0 : 2 ≤ n) (h1 : n ≤ 65536) (q : fneg s < lst n) : prt s n = 4294967296 - fneg s * 4294967296 / lst n ∧ 0 ≤ fneg s * 4294967296 / lst n ∧ fneg s * 4294967296 / lst n < 4294967296 := by
  obtain ⟨e, a, b⟩ := ratio_lt (neg_low hs hs').1 q (lst_room h0 h1).2
  refine ⟨?_, a, b⟩
  unfold prt fsub
  rw [e, if_neg (by omega)]
theorem prt_room {s n : Int} (hs : 0 < s) (hs' : s ≤ 4294967296) (h0 : 2 ≤ n) (h1 : n ≤ 65536) : 0 ≤ prt s n ∧ prt s n ≤ 4294967296 := by
  by_cases q : fneg s < lst n
  · obtain ⟨e, a, b⟩ := prt_some hs hs' h0 h1 q
    omega
  · rw [prt_none h0 h1 (by omega)]
    decide
theorem times_at {p m : Int} (h0 : 0 ≤ p) (h1 : p ≤ 4294967296) (m0 : 0 ≤ m) (m1 : m ≤ 1048576) : ftimes p m = p * m / 4294967296 ∧ 0 ≤ p * m / 4294967296 ∧ p * m / 4294967296 ≤ m ∧ 0 ≤ p * m ∧ p * m ≤ 4503599627370496 := by
  have a : 0 ≤ p * m := Int.mul_nonneg h0 m0
  have b : p * m ≤ 4294967296 * m := Int.mul_le_mul_of_nonneg_right h1 m0
  have c : p * m / 4294967296 ≤ m := by
    have := Int.ediv_le_ediv (c := 4294967296) (by decide) b
    omega
  refine ⟨?_, by omega, c, a, by omega⟩
  unfold ftimes
  rw [if_neg (by omega)]
theorem wt_room {s m n : Int} (h : Wok s m n) : 0 ≤ wt s m n ∧ wt s m n ≤ m := by
  obtain ⟨⟨s0, s1⟩, ⟨m0, m1⟩, n0, n1⟩ := h
  obtain ⟨p0, p1⟩ := prt_room s0 s1 n0 n1
  obtain ⟨e, a, b, _⟩ := times_at p0 p1 m0 m1
  unfold wt
  omega
/-- a greater share never waits less -/
theorem wt_rises {a b m n : Int} (ha : Wok a m n) (hb : Wok b m n) (h : a ≤ b) : wt a m n ≤ wt b m n := by
  obtain ⟨⟨a0, a1⟩, ⟨m0, m1⟩, n0, n1⟩ := ha
  obtain ⟨⟨b0, b1⟩, -⟩ := hb
  have f := fneg_falls a b a0 h (by omega)
  have r := lst_room n0 n1
  have pp : prt a n ≤ prt b n := by
    by_cases q : fneg a < lst n
    · obtain ⟨e, _, _⟩ := prt_some a0 a1 n0 n1 q
      obtain ⟨g, _, _⟩ := prt_some b0 b1 n0 n1 (by omega)
      rw [e, g]
      have := Int.ediv_le_ediv (a := fneg b * 4294967296) (b := fneg a * 4294967296) (c := lst n) (by omega) (by omega)
      omega
    · rw [prt_none n0 n1 (by omega)]
      exact (prt_room b0 b1 n0 n1).1
  obtain ⟨pa0, pa1⟩ := prt_room a0 a1 n0 n1
  obtain ⟨pb0, pb1⟩ := prt_room b0 b1 n0 n1
  unfold wt
  rw [(times_at pa0 pa1 m0 m1).1, (times_at pb0 pb1 m0 m1).1]
  exact Int.ediv_le_ediv (by decide) (Int.mul_le_mul_of_nonneg_right pp m0)

theorem wt_all : wt 4294967296 100 16 = 100 := by
  unfold wt prt lst
  rw [fneg_at1, show fratio 1 16 = 268435456 by decide, fneg_sixt]; decide
theorem wt_half : wt 1073741824 100 16 = 50 := by
  unfold wt prt lst
  rw [fneg_quart, show fratio 1 16 = 268435456 by decide, fneg_sixt]; decide

/-! ### a round -/
/-- number, own rate, does it run, when it is due (or was last) -/
abbrev SS := Int × Int × Bool × Int
/-- what is told as its tick -/
def pd (s : SS) : Int := if s.2.2.1 then s.2.2.2 else 0
abbrev isT (a : Int) : Prop := 0 ≤ a ∧ a ≤ 1099511627776
def Fit (s : SS) : Prop := (-1 ≤ s.1 ∧ s.1 ≤ 1099511627776) ∧ (0 ≤ s.2.1 ∧ s.2.1 < 18446744073709551616) ∧ 0 ≤ s.2.2.2 ∧ s.2.2.2 ≤ 2199023255552
def snew : SS := (-1, 0, false, 0)
def idl (s : SS) : SS := (s.1, s.2.1, false, s.2.2.2)
abbrev isLow (x o : Int) : Prop := x - x / 8 ≤ o
def sstart (s : SS) (a b c x : Int) : SS × Int := if isT a ∧ isT b ∧ isT c then if a ≤ s.1 then (s, 24) else ((a, x, true, b + c), 0) else (s, 11)
def secho (s : SS) (a x : Int) : SS × Bool := if s.2.2.1 = true ∧ a = s.1 ∧ isLow x s.2.1 then (idl s, true) else (s, false)
def sfire (s : SS) (a : Int) : SS × Bool := if s.2.2.1 = true ∧ s.2.2.2 ≤ a then (idl s, true) else (s, false)
def surge (s : SS) (a : Int) : SS × Int := if isT a then if s.2.2.1 = true then ((s.1, s.2.1, true, if a < s.2.2.2 then a else s.2.2.2), 0) else (s, 24) else (s, 11)
theorem fit_new : Fit snew := by unfold Fit snew; decide
theorem fit_idl {s : SS} (h : Fit s) : Fit (idl s) := h
theorem fit_start {s : SS} {a b c x : Int} (h : Fit s) (h0 : 0 ≤ x) (h1 : x < 18446744073709551616) : Fit (sstart s a b c x).1 := by
  unfold sstart
  split
  · rename_i q
    obtain ⟨⟨q0, q1⟩, ⟨q2, q3⟩, q4, q5⟩ := q
    split
    · exact h
    · exact ⟨⟨show (-1 : Int) ≤ a by omega, q1⟩, ⟨h0, h1⟩, show (0 : Int) ≤ b + c by omega, show b + c ≤ 2199023255552 by omega⟩
  · exact h
theorem fit_echo {s : SS} {a x : Int} (h : Fit s) : Fit (secho s a x).1 := by
  unfold secho
  split
  · exact fit_idl h
  · exact h
theorem fit_fire {s : SS} {a : Int} (h : Fit s) : Fit (sfire s a).1 := by
  unfold sfire
  split
  · exact fit_idl h
  · exact h
theorem fit_urge {s : SS} {a : Int} (h : Fit s) : Fit (surge s a).1 := by
  unfold surge
  split
  · rename_i q
    obtain ⟨q0, q1⟩ := q
    split
    · obtain ⟨f1, f2, f3, f4⟩ := h
      refine ⟨f1, f2, ?_, ?_⟩ <;> (simp only; split <;> omega)
    · exact h
  · exact h
end Go.Proofs.YtcjohgfmdnimjaaDoor.Sup

/-
  Walks of the reference of layer 3: cut, Mul, Add, Root, Div, Rate: each answers what package eqn's own numbers say.
-/
import Derived.Test.YtcjohgfmdnimjaaDoorEqn
import Derived.Test.YtcjohgfmdnimjaaDoorRefUp
namespace Go.Proofs.YtcjohgfmdnimjaaDoor
set_option linter.unusedVariables false
open Go.RowKit

/-- a number of any length as one of layer 1 -/
def fcut (x : Int) : Int := if 18446744073709551615 < x then 18446744073709551615 else x

theorem pow_le {n m : Nat} (h : n ≤ m) : (65536:Int) ^ n ≤ 65536 ^ m := by
  have := Nat.pow_le_pow_right (show 0 < 65536 by decide) h
  have e (n : Nat) : ((65536 ^ n : Nat) : Int) = 65536 ^ n := Int.natCast_pow 65536 n
  have := e n; have := e m; omega

theorem fadd_cut (a b : Int) : fcut (a + b) = fadd a b := rfl

theorem ftimes_cut (a b : Int) : fcut (a * b / 4294967296) = ftimes a b := rfl

theorem getD_drop' (l : List Int) (n k : Nat) : (l.drop n).getD k 0 = l.getD (n + k) 0 := by
  simp [List.getD_eq_getElem?_getD, List.getElem?_drop]

theorem ok_drop {l : List Int} (h : Dig.Ok l) (n : Nat) : Dig.Ok (l.drop n) := by
  intro k hk
  rw [getD_drop']
  exact Dig.getD_ok h _

theorem canon_drop {l : List Int} (h : Dig.Canon l) (n : Nat) : Dig.Canon (l.drop n) := by
  refine ⟨ok_drop h.1 n, fun hk => ?_⟩
  have hl : (l.drop n).length = l.length - n := by simp
  rw [hl] at hk
  rw [getD_drop', hl, show n + (l.length - n - 1) = l.length - 1 by omega]
  exact h.2 (by omega)

/-- what is behind the two lowest digits -/
theorem val_drop2 {l : List Int} (h : Dig.Ok l) (h2 : 2 ≤ l.length) : Dig.val (l.drop 2) = Dig.val l / 4294967296 := by
  have e := Dig.val_split l 2 h2
  have b := Dig.val_bounds (Dig.ok_take h 2)
  have hl : (l.take 2).length = 2 := by simp; omega
  rw [hl] at b
  generalize Dig.val (l.take 2) = t at *
  generalize Dig.val (l.drop 2) = u at *
  rw [show (65536:Int) ^ 2 = 4294967296 from rfl] at e b
  omega

theorem val_few {l : List Int} (h : Dig.Ok l) (h2 : l.length ≤ 2) : Dig.val l / 4294967296 = 0 := by
  have b := Dig.val_bounds h
  have p : (65536:Int) ^ l.length ≤ 65536 ^ 2 := pow_le h2
  rw [show (65536:Int) ^ 2 = 4294967296 from rfl] at p
  omega

theorem cut_great {l : List Int} (h : Dig.Canon l) (h4 : 4 < l.length) : fcut (Dig.val l) = 18446744073709551615 := by
  have b := Dig.canon_ge h (by omega)
  have p : (65536:Int) ^ 4 ≤ 65536 ^ (l.length - 1) := pow_le (by omega)
  rw [show (65536:Int) ^ 4 = 18446744073709551616 from rfl] at p
  unfold fcut; rw [if_pos (by omega)]

theorem cut_small {l : List Int} (h : Dig.Ok l) (h4 : ¬ 4 < l.length) : fcut (Dig.val l) = Dig.val l := by
  have b := Dig.val_bounds h
  have p : (65536:Int) ^ l.length ≤ 65536 ^ 4 := pow_le (by omega)
  rw [show (65536:Int) ^ 4 = 18446744073709551616 from rfl] at p
  unfold fcut; rw [if_neg (by omega)]

/-- one digit more, from above -/
theorem cut_step {l : List Int} (h : Dig.Ok l) (k : Nat) (hk : k < l.length) (h4 : ¬ 4 < l.length) :
    0 ≤ Dig.val (l.drop (k + 1)) ∧ Dig.val (l.drop (k + 1)) < 281474976710656 ∧ Dig.val (l.drop k) = Dig.val (l.drop (k + 1)) * 65536 + l.getD k 0 := by
  have b := Dig.val_bounds (ok_drop h (k + 1))
  have hl : (l.drop (k + 1)).length = l.length - (k + 1) := by simp
  rw [hl] at b
  have p : (65536:Int) ^ (l.length - (k + 1)) ≤ 65536 ^ 3 := pow_le (by omega)
  rw [show (65536:Int) ^ 3 = 281474976710656 from rfl] at p
  refine ⟨b.1, by omega, ?_⟩
  rw [Dig.drop_cons l k hk, Dig.val]
  omega

/-- a row without its two lowest digits -/
theorem row_drop2 {w : World} {b o c : Nat} {l : List Int} (h : IsRow w (.slice (some ⟨b, o, none⟩) l.length c) l) (h2 : 2 ≤ l.length) : IsRow w (.slice (some ⟨b, o + 2, none⟩) (l.length - 2) (c - 2)) (l.drop 2) := by
  rcases h with ⟨e, _⟩ | ⟨b', o', c', e, h1, h3, h4, h5⟩
  · cases e
  · cases e
    have hl : (l.drop 2).length = l.length - 2 := by simp
    refine .inr ⟨b, o + 2, c - 2, by rw [hl], by omega, by omega, h4, fun k hk => ?_⟩
    rw [hl] at hk
    rw [getD_drop', show o + 2 + k = o + (2 + k) by omega]
    exact h5 (2 + k) (by omega)

end Go.Proofs.YtcjohgfmdnimjaaDoor

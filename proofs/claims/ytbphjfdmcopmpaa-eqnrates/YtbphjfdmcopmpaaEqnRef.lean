/-
  Walks of the reference of layer 3: cut, Mul, Add, Root, Div, Rate: each answers what package eqn's own numbers say.
-/
import Derived.Test.YtbphjfdmcopmpaaEqn
import Derived.Test.YtbphjfdmcopmpaaRefUp
namespace Go.Proofs.Ytbphjfdmcopmpaa
set_option linter.unusedVariables false
open Go.RowKit

/-- a number of any length as one of layer 1 -/
def fcut (x : Int) : Int := if 18446744073709551615 < x then 18446744073709551615 else x

theorem pow_le {n m : Nat} (h : n ≤ m) : (65536:Int) ^ n ≤ 65536 ^ m := by
  have := Nat.pow_le_pow_right (show 0 < 65536 by decide) h
  have e (n : Nat) : ((65536 ^ n : Nat) : Int) = 65536 ^ n := Int.natCast_pow 65536 n
  have := e n; have := e m; omega

theorem fadd_cut (a b : Int) : fcut (a + b) = fadd a b := rfl

theorem ftimes_cut (a b : Int) : fcut (a * b / 4294967296) = ftimes a b := rfl

theorem getD_drop' (l : List Int) (n k : Nat) : (l.drop n).getD k 0 = l.getD (n + k) 0 := by
  simp [List.getD_eq_getElem?_getD, List.getElem?_drop]

theorem ok_drop {l : List Int} (h : Dig.Ok l) (n : Nat) : Dig.Ok (l.drop n) := by
  intro k hk
  rw [getD_drop']
  exact Dig.getD_ok h _

theorem canon_drop {l : List Int} (h : Dig.Canon l) (n : Nat) : Dig.Canon (l.drop n) := by
  refine ⟨ok_drop h.1 n, fun hk => ?_⟩
  have hl : (l.drop n).length = l.length - n := by simp
  rw [hl] at hk
  rw [getD_drop', hl, show n + (l.length - n - 1) = l.length - 1 by omega]
  exact h.2 (by omega)

/-- what is behind the two lowest digits -/
theorem val_drop2 {l : List Int} (h : Dig.Ok l) (h2 : 2 ≤ l.length) : Dig.val (l.drop 2) = Dig.val l / 4294967296 := by
  have e := Dig.val_split l 2 h2
  have b := Dig.val_bounds (Dig.ok_take h 2)
  have hl : (l.take 2).length = 2 := by simp; omega
  rw [hl] at b
  generalize Dig.val (l.take 2) = t at *
  generalize Dig.val (l.drop 2) = u at *
  rw [show (65536:Int) ^ 2 = 4294967296 from rfl] at e b
  omega

theorem val_few {l : List Int} (h : Dig.Ok l) (h2 : l.length ≤ 2) : Dig.val l / 4294967296 = 0 := by
  have b := Dig.val_bounds h
  have p : (65536:Int) ^ l.length ≤ 65536 ^ 2 := pow_le h2
  rw [show (65536:Int) ^ 2 = 4294967296 from rfl] at p
  omega

theorem cut_great {l : List Int} (h : Dig.Canon l) (h4 : 4 < l.length) : fcut (Dig.val l) = 18446744073709551615 := by
  have b := Dig.canon_ge h (by omega)
  have p : (65536:Int) ^ 4 ≤ 65536 ^ (l.length - 1) := pow_le (by omega)
  rw [show (65536:Int) ^ 4 = 18446744073709551616 from rfl] at p
  unfold fcut; rw [if_pos (by omega)]

theorem cut_small {l : List Int} (h : Dig.Ok l) (h4 : ¬ 4 < l.length) : fcut (Dig.val l) = Dig.val l := by
  have b := Dig.val_bounds h
  have p : (65536:Int) ^ l.length ≤ 65536 ^ 4 := pow_le (by omega)
  rw [show (65536:Int) ^ 4 = 18446744073709551616 from rfl] at p
  unfold fcut; rw [if_neg (by omega)]

/-- one digit more, from above -/
theorem cut_step {l : List Int} (h : Dig.Ok l) (k : Nat) (hk : k < l.length) (h4 : ¬ 4 < l.length) :
    0 ≤ Dig.val (l.drop (k + 1)) ∧ Dig.val (l.drop (k + 1)) < 281474976710656 ∧ Dig.val (l.drop k) = Dig.val (l.drop (k + 1)) * 65536 + l.getD k 0 := by
  have b := Dig.val_bounds (ok_drop h (k + 1))
  have hl : (l.drop (k + 1)).length = l.length - (k + 1) := by simp
  rw [hl] at b
  have p : (65536:Int) ^ (l.length - (k + 1)) ≤ 65536 ^ 3 := pow_le (by omega)
  rw [show (65536:Int) ^ 3 = 281474976710656 from rfl] at p
  refine ⟨b.1, by omega, ?_⟩
  rw [Dig.drop_cons l k hk, Dig.val]
  omega

set_option maxHeartbeats 1000000 in
theorem cut_any (v : Value) (l : List Int) (w : World) (h : IsRow w v l) (hc : Dig.Canon l) (hlen : l.length ≤ 1000000) :
    Calls Try.prog 34 #[v] w fun e w' => e = .returned (.int .u64 (fcut (Dig.val l))) ∧ w' = w := by
  obtain ⟨ao, cp, rfl, vw⟩ := h.view
  clear h
  by_cases t : 4 < l.length
  · rw [cut_great hc t]
    clear vw hc
    go_enter Try.func34, Try.ntmps34
    go_wp2
    go_ret
    exact ⟨rfl, rfl⟩
  · rw [cut_small hc.1 t]
    have OK := hid hc.1
    clear hc
    go_enter Try.func34, Try.ntmps34
    go_wp2
    go_loop [3, 4] (fun o i => ∃ k : Nat, k ≤ l.length ∧ i = .int .i64 ((k : Int) - 1) ∧ o = .int .u64 (Dig.val (l.drop k))) (fun _ i => (intOf i + 1).toNat)
    case atStart => exact ⟨l.length, by omega, rfl, by rw [List.drop_length]; rfl⟩
    case round =>
      obtain ⟨k, hk, rfl, rfl⟩ := hrel
      match k, hk with
      | 0, hk =>
        clear vw
        rw [show ((0 : Nat) : Int) - 1 = -1 from rfl, List.drop_zero]
        go_wp2
        go_ret
        exact ⟨rfl, rfl⟩
      | k + 1, hk =>
        obtain ⟨s1, s2, s3⟩ := cut_step OK.out k (by omega) t
        obtain ⟨b, o, rfl, hb, hx⟩ := vw k (by omega)
        have hd := Dig.getD_ok OK.out k
        obtain ⟨d, ed⟩ : ∃ d, d = l.getD k 0 := ⟨_, rfl⟩
        rw [← ed] at hx s3 hd
        have S3 := hid s3
        clear s3 ed vw
        generalize Dig.val (l.drop (k + 1)) = V at *
        rw [show ((k + 1 : Nat) : Int) - 1 = (k : Int) by omega]
        have i1 : (k : Int) < (l.length : Int) := by omega
        go_wp2
        go_round
        case rel => exact ⟨k, by omega, by go_num, by rw [S3.out]⟩
        case measure => simp [intOf]

set_option maxHeartbeats 1000000 in
theorem ref3Add_any (a b : Int) (w : World) (a0 : 0 ≤ a) (a1 : a < 18446744073709551616) (b0 : 0 ≤ b) (b1 : b < 18446744073709551616) :
    Calls Try.prog 22 #[.int .u64 a, .int .u64 b] w fun e w' => e = .returned (.int .u64 (fadd a b)) ∧ Ext w w' := by
  obtain ⟨Z, eZ⟩ : ∃ Z, Z = fadd a b := ⟨_, rfl⟩
  rw [← eZ]
  have EZ := hid eZ
  clear eZ
  go_enter Try.func22, Try.ntmps22
  go_wp2_with fail
  refine (refOf_any a _ a0 a1).mono ?_
  rintro e w1 ⟨v1, rfl, X1, n1⟩
  have E : Ext w w1 := X1
  clear X1
  go_wp2_with fail
  refine (refOf_any b _ b0 b1).mono ?_
  rintro e w2 ⟨v2, rfl, X2, n2⟩
  have X2 : Ext w1 w2 := X2
  replace E := E.trans X2
  replace n1 := n1.ext X2
  clear X2
  go_wp2_with fail
  refine (refAdd_any _ _ _ _ _ _ _ n1 n2 (by decide) (by decide)).mono ?_
  rintro e w3 ⟨v3, rfl, X3, n3⟩
  have X3 : Ext w2 w3 := X3
  replace E := E.trans X3
  clear X3 n1 n2
  obtain ⟨l, r, c, ev, nl⟩ := n3
  have C := cut_any v3 l w3 r c (by omega)
  rw [ev, fadd_cut, ← EZ.out] at C
  clear ev r c nl
  go_wp2_with fail
  refine C.mono ?_
  rintro e w' ⟨rfl, rfl⟩
  go_wp2_with fail
  go_ret
  exact ⟨rfl, E⟩

/-- a row without its two lowest digits -/
theorem row_drop2 {w : World} {b o c : Nat} {l : List Int} (h : IsRow w (.slice (some ⟨b, o, none⟩) l.length c) l) (h2 : 2 ≤ l.length) : IsRow w (.slice (some ⟨b, o + 2, none⟩) (l.length - 2) (c - 2)) (l.drop 2) := by
  rcases h with ⟨e, _⟩ | ⟨b', o', c', e, h1, h3, h4, h5⟩
  · cases e
  · cases e
    have hl : (l.drop 2).length = l.length - 2 := by simp
    refine .inr ⟨b, o + 2, c - 2, by rw [hl], by omega, by omega, h4, fun k hk => ?_⟩
    rw [hl] at hk
    rw [getD_drop', show o + 2 + k = o + (2 + k) by omega]
    exact h5 (2 + k) (by omega)

set_option maxHeartbeats 1000000 in
theorem ref3Mul_any (a b : Int) (w : World) (a0 : 0 ≤ a) (a1 : a < 18446744073709551616) (b0 : 0 ≤ b) (b1 : b < 18446744073709551616) :
    Calls Try.prog 20 #[.int .u64 a, .int .u64 b] w fun e w' => e = .returned (.int .u64 (ftimes a b)) ∧ Ext w w' := by
  obtain ⟨Z, eZ⟩ : ∃ Z, Z = ftimes a b := ⟨_, rfl⟩
  rw [← eZ]
  have EZ := hid eZ
  clear eZ
  go_enter Try.func20, Try.ntmps20
  go_wp2_with fail
  refine (refOf_any a _ a0 a1).mono ?_
  rintro e w1 ⟨v1, rfl, X1, n1⟩
  have E : Ext w w1 := X1
  clear X1
  go_wp2_with fail
  refine (refOf_any b _ b0 b1).mono ?_
  rintro e w2 ⟨v2, rfl, X2, n2⟩
  have X2 : Ext w1 w2 := X2
  replace E := E.trans X2
  replace n1 := n1.ext X2
  clear X2
  go_wp2_with fail
  refine (refMul_any _ _ _ _ _ _ _ n1 n2 (by decide) (by decide)).mono ?_
  rintro e w3 ⟨v3, rfl, X3, n3⟩
  have X3 : Ext w2 w3 := X3
  replace E := E.trans X3
  clear X3 n1 n2
  obtain ⟨l, r, c, ev, nl⟩ := n3
  by_cases t : l.length ≤ 2
  · have z : fcut (Dig.val l / 4294967296) = 0 := by rw [val_few c.1 t]; rfl
    rw [ev, ftimes_cut, ← EZ.out] at z
    obtain ⟨ao, cp, rfl, vw⟩ := r.view
    clear r vw c ev EZ
    subst z
    go_wp2_with fail
    go_ret
    exact ⟨rfl, E⟩
  · have r' := r
    rcases r with ⟨_, e⟩ | ⟨g, o, cp, rfl, h1, h2, h3, h4⟩
    · subst e; simp at t
    · have C := cut_any _ (l.drop 2) w3 (row_drop2 r' (by omega)) (canon_drop c 2) (by simp; omega)
      rw [val_drop2 c.1 (by omega), ev, ftimes_cut, ← EZ.out] at C
      clear ev r' c h4
      unfold maxLen at h2
      go_wp2_with fail
      refine C.mono ?_
      rintro e w' ⟨rfl, rfl⟩
      go_wp2_with fail
      go_ret
      exact ⟨rfl, E⟩
end Go.Proofs.Ytbphjfdmcopmpaa

/-
  The sum of bytes as plain numbers: a register's steps, that they keep registers apart, sealed bytes, one turned bit. No program.
-/
import Derived.Laws.BitsAllLaws
import Derived.Laws.Strings
namespace Go.Proofs.Ytkhdfcjdbhhikaa.Crc
set_option linter.unusedVariables false

/-- where a register is turned -/
def cpoly : Nat := 3988292384
/-- a register goes down by one place -/
def cbit (r : Nat) : Nat := if r % 2 = 1 then (r / 2) ^^^ cpoly else r / 2
/-- .. by k places -/
def cbits : Nat → Nat → Nat
  | 0, r => r
  | k + 1, r => cbit (cbits k r)
/-- a register goes by one byte -/
def cbyte (r : Nat) (b : UInt8) : Nat := cbits 8 (r ^^^ b.toNat)
/-- .. by bytes -/
def creg (r : Nat) (l : List UInt8) : Nat := l.foldl cbyte r
/-- the sum of bytes behind those of a sum -/
def cmore (s : Nat) (l : List UInt8) : Nat := 4294967295 - creg (4294967295 - s) l
/-- the sum of bytes -/
def csum (l : List UInt8) : Nat := cmore 0 l
/-- the reference's step: a register and a bit -/
def rbit (r b : Nat) : Nat := if r % 2 = b then r / 2 else (r / 2) ^^^ cpoly
/-- .. by the lowest k bits of a byte -/
def rbits (r b : Nat) : Nat → Nat
  | 0 => r
  | k + 1 => rbit (rbits r b k) (b / 2 ^ k % 2)

theorem xor_half (a b : Nat) : (a ^^^ b) / 2 = a / 2 ^^^ b / 2 := by
  apply Nat.eq_of_testBit_eq
  intro i
  rw [← Nat.testBit_succ, Nat.testBit_xor, Nat.testBit_xor, Nat.testBit_succ, Nat.testBit_succ]

theorem xor_low (a b : Nat) : (a ^^^ b) % 2 = (a + b) % 2 := by
  have h : (a ^^^ b).testBit 0 = (a.testBit 0 ^^ b.testBit 0) := Nat.testBit_xor ..
  rw [Nat.testBit_zero, Nat.testBit_zero, Nat.testBit_zero] at h
  rcases Nat.mod_two_eq_zero_or_one a with ha | ha <;> rcases Nat.mod_two_eq_zero_or_one b with hb | hb <;> rcases Nat.mod_two_eq_zero_or_one (a ^^^ b) with hc | hc <;> simp [ha, hb, hc] at h ⊢ <;> omega

theorem cbit_room (r : Nat) (h : r < 4294967296) : cbit r < 4294967296 := by
  unfold cbit
  split
  · exact Nat.xor_lt_two_pow (n := 32) (by omega) (by decide)
  · omega

theorem cbits_room (k r : Nat) (h : r < 4294967296) : cbits k r < 4294967296 := by
  induction k with
  | zero => exact h
  | succ k ih => exact cbit_room _ ih

theorem byte_room (b : UInt8) : b.toNat < 256 := UInt8.toNat_lt b

theorem cbyte_room (r : Nat) (b : UInt8) (h : r < 4294967296) : cbyte r b < 4294967296 := by
  have := byte_room b
  exact cbits_room 8 _ (Nat.xor_lt_two_pow (n := 32) h (by omega))

theorem creg_room (l : List UInt8) : ∀ r, r < 4294967296 → creg r l < 4294967296 := by
  induction l with
  | nil => intro r h; exact h
  | cons b l ih => intro r h; exact ih _ (cbyte_room r b h)

theorem cmore_room (s : Nat) (l : List UInt8) : cmore s l < 4294967296 := by unfold cmore; omega
theorem csum_room (l : List UInt8) : csum l < 4294967296 := cmore_room 0 l

theorem creg_append (r : Nat) (a b : List UInt8) : creg r (a ++ b) = creg (creg r a) b := List.foldl_append ..
theorem creg_snoc (r : Nat) (a : List UInt8) (b : UInt8) : creg r (a ++ [b]) = cbyte (creg r a) b := creg_append r a [b]

/-- in however many parts they come -/
theorem cmore_csum (a b : List UInt8) : cmore (csum a) b = csum (a ++ b) := by
  unfold csum cmore
  rw [creg_append]
  have := creg_room a (4294967295 - 0) (by decide)
  congr 2
  omega

/-- a step is the reference's, with the byte's other bits still to come -/
theorem cbit_xor (r b : Nat) : cbit (r ^^^ b) = rbit r (b % 2) ^^^ (b / 2) := by
  unfold cbit rbit
  rw [xor_low, xor_half]
  by_cases h : r % 2 = b % 2
  · rw [if_neg (by omega), if_pos h]
  · rw [if_pos (by omega), if_neg h, Nat.xor_assoc, Nat.xor_comm (b / 2), ← Nat.xor_assoc]

theorem cbits_xor (r b : Nat) : ∀ k, cbits k (r ^^^ b) = rbits r b k ^^^ (b / 2 ^ k)
  | 0 => by simp [cbits, rbits]
  | k + 1 => by
    show cbit (cbits k (r ^^^ b)) = rbit (rbits r b k) (b / 2 ^ k % 2) ^^^ (b / 2 ^ (k + 1))
    rw [cbits_xor r b k, cbit_xor, Nat.div_div_eq_div_mul, ← Nat.pow_succ]

theorem cbyte_rbits (r : Nat) (b : UInt8) : cbyte r b = rbits r b.toNat 8 := by
  have := byte_room b
  unfold cbyte
  rw [cbits_xor, show b.toNat / 2 ^ 8 = 0 by omega, Nat.xor_zero]

theorem rbit_room (r b : Nat) (h : r < 4294967296) : rbit r b < 4294967296 := by
  unfold rbit
  split
  · omega
  · exact Nat.xor_lt_two_pow (n := 32) (by omega) (by decide)
theorem rbits_room (r b k : Nat) (h : r < 4294967296) : rbits r b k < 4294967296 := by
  induction k with
  | zero => exact h
  | succ k ih => exact rbit_room _ _ ih

/-- a step keeps registers apart -/
theorem poly_high (a : Nat) (h : a < 2147483648) : 2147483648 ≤ a ^^^ cpoly := by
  apply Nat.ge_of_not_lt
  intro hlt
  have h1 : (a ^^^ cpoly).testBit 31 = false := Nat.testBit_lt_two_pow (by simpa using hlt)
  have h2 : a.testBit 31 = false := Nat.testBit_lt_two_pow (by simpa using h)
  have h3 : cpoly.testBit 31 = true := by decide
  rw [Nat.testBit_xor, h2, h3] at h1
  exact absurd h1 (by decide)

theorem xor_cancel (a b c : Nat) (h : a ^^^ c = b ^^^ c) : a = b := by
  have : (a ^^^ c) ^^^ c = (b ^^^ c) ^^^ c := by rw [h]
  rwa [Nat.xor_assoc, Nat.xor_assoc, Nat.xor_self, Nat.xor_zero, Nat.xor_zero] at this

theorem cbit_apart (a b : Nat) (ha : a < 4294967296) (hb : b < 4294967296) (h : cbit a = cbit b) : a = b := by
  unfold cbit at h
  by_cases x : a % 2 = 1 <;> by_cases y : b % 2 = 1
  · rw [if_pos x, if_pos y] at h
    have := xor_cancel _ _ _ h
    omega
  · rw [if_pos x, if_neg y] at h
    have := poly_high (a / 2) (by omega)
    omega
  · rw [if_neg x, if_pos y] at h
    have := poly_high (b / 2) (by omega)
    omega
  · rw [if_neg x, if_neg y] at h
    omega

theorem cbits_apart (k a b : Nat) (ha : a < 4294967296) (hb : b < 4294967296) (h : cbits k a = cbits k b) : a = b := by
  induction k with
  | zero => exact h
  | succ k ih => exact ih (cbit_apart _ _ (cbits_room k a ha) (cbits_room k b hb) h)

theorem cbyte_apart (a b : Nat) (x : UInt8) (ha : a < 4294967296) (hb : b < 4294967296) (h : cbyte a x = cbyte b x) : a = b := by
  have := byte_room x
  exact xor_cancel _ _ _ (cbits_apart 8 _ _ (Nat.xor_lt_two_pow (n := 32) ha (by omega)) (Nat.xor_lt_two_pow (n := 32) hb (by omega)) h)

theorem cbyte_other (a : Nat) (x y : UInt8) (ha : a < 4294967296) (h : cbyte a x = cbyte a y) : x = y := by
  have hx := byte_room x
  have hy := byte_room y
  have h1 := cbits_apart 8 _ _ (Nat.xor_lt_two_pow (n := 32) ha (by omega)) (Nat.xor_lt_two_pow (n := 32) ha (by omega)) h
  rw [Nat.xor_comm a, Nat.xor_comm a] at h1
  exact UInt8.toNat_inj.1 (xor_cancel _ _ _ h1)

theorem creg_apart (l : List UInt8) : ∀ a b, a < 4294967296 → b < 4294967296 → creg a l = creg b l → a = b := by
  induction l with
  | nil => intro a b _ _ h; exact h
  | cons x l ih => intro a b ha hb h; exact cbyte_apart a b x ha hb (ih _ _ (cbyte_room a x ha) (cbyte_room b x hb) h)

/-- another byte at one place: another sum -/
theorem csum_other (a b : List UInt8) (x y : UInt8) (h : csum (a ++ x :: b) = csum (a ++ y :: b)) : x = y := by
  have r1 := creg_room (a ++ x :: b) (4294967295 - 0) (by decide)
  have r2 := creg_room (a ++ y :: b) (4294967295 - 0) (by decide)
  have h1 : creg (4294967295 - 0) (a ++ x :: b) = creg (4294967295 - 0) (a ++ y :: b) := by
    unfold csum cmore at h
    omega
  have r3 := creg_room a (4294967295 - 0) (by decide)
  rw [creg_append, creg_append] at h1
  exact cbyte_other _ x y r3 (creg_apart b _ _ (cbyte_room _ x r3) (cbyte_room _ y r3) h1)

theorem set_parts (l : List UInt8) (i : Nat) (x : UInt8) (hi : i < l.length) : l.set i x = l.take i ++ (x :: l.drop (i + 1)) := by
  rw [List.set_eq_take_append_cons_drop, if_pos hi]
theorem own_parts (l : List UInt8) (i : Nat) (hi : i < l.length) : l = l.take i ++ (l.getD i 0 :: l.drop (i + 1)) := by
  have e := set_parts l i (l.getD i 0) hi
  rw [← e]
  apply List.ext_getElem?
  intro j
  rw [List.getElem?_set]
  by_cases h : i = j
  · subst h; simp [hi, List.getD_eq_getElem?_getD]
  · simp [h]

theorem csum_set (l : List UInt8) (i : Nat) (x : UInt8) (hi : i < l.length) (h : csum (l.set i x) = csum l) : x = l.getD i 0 := by
  rw [set_parts l i x hi] at h
  exact csum_other (l.take i) (l.drop (i + 1)) x (l.getD i 0) (h.trans (congrArg csum (own_parts l i hi)))

/-- a sum as four bytes -/
def ctail (s : Nat) : List UInt8 := [UInt8.ofNat s, UInt8.ofNat (s / 256), UInt8.ofNat (s / 65536), UInt8.ofNat (s / 16777216)]
theorem ctail_length (s : Nat) : (ctail s).length = 4 := rfl

theorem byte_same (a b : Nat) (h : UInt8.ofNat a = UInt8.ofNat b) : a % 256 = b % 256 := by
  have := congrArg UInt8.toNat h
  simpa using this

theorem ctail_apart (s t : Nat) (hs : s < 4294967296) (ht : t < 4294967296) (h : ctail s = ctail t) : s = t := by
  unfold ctail at h
  simp only [List.cons.injEq, and_true] at h
  obtain ⟨h0, h1, h2, h3⟩ := h
  have e0 := byte_same _ _ h0
  have e1 := byte_same _ _ h1
  have e2 := byte_same _ _ h2
  have e3 := byte_same _ _ h3
  omega

/-- sealed bytes -/
def cseal (l : List UInt8) : List UInt8 := l ++ ctail (csum l)
theorem cseal_length (l : List UInt8) : (cseal l).length = l.length + 4 := by unfold cseal; rw [List.length_append, ctail_length]
/-- are bytes sealed ones? -/
def copens (l : List UInt8) : Bool := decide (4 ≤ l.length) && (l.drop (l.length - 4) == ctail (csum (l.take (l.length - 4))))

theorem cseal_take (l : List UInt8) : (cseal l).take ((cseal l).length - 4) = l := by
  rw [cseal_length, Nat.add_sub_cancel]
  exact List.take_left
theorem cseal_drop (l : List UInt8) : (cseal l).drop ((cseal l).length - 4) = ctail (csum l) := by
  rw [cseal_length, Nat.add_sub_cancel]
  exact List.drop_left
theorem copens_cseal (l : List UInt8) : copens (cseal l) = true := by
  unfold copens
  rw [cseal_take, cseal_drop, cseal_length]
  simp

theorem copens_iff (l : List UInt8) (h : 4 ≤ l.length) : copens l = (cseal (l.take (l.length - 4)) == l) := by
  unfold copens cseal
  rw [Bool.eq_iff_iff]
  simp only [h, decide_true, Bool.true_and, beq_iff_eq]
  constructor
  · intro e
    rw [← e, List.take_append_drop]
  · intro e
    have := congrArg (List.drop (l.length - 4)) e
    rw [List.drop_append_of_le_length (by rw [List.length_take]; omega), List.drop_eq_nil_of_le (by rw [List.length_take]; omega), List.nil_append] at this
    exact this.symm

/-- the place and the bit that are turned -/
def cplace (n : Nat) (bit : Int) : Nat := (bit / 8 % (n : Int)).toNat
def cmask (bit : Int) : UInt8 := UInt8.ofNat (2 ^ (bit % 8).toNat)
/-- bytes of which one bit is turned -/
def cturn (l : List UInt8) (bit : Int) : List UInt8 := l.set (cplace l.length bit) (l.getD (cplace l.length bit) 0 ^^^ cmask bit)
theorem cturn_length (l : List UInt8) (bit : Int) : (cturn l bit).length = l.length := by unfold cturn; rw [List.length_set]
theorem cplace_lt (n : Nat) (bit : Int) (h : 0 < n) : cplace n bit < n := by
  unfold cplace
  have h1 := Int.emod_nonneg (bit / 8) (show (n : Int) ≠ 0 by omega)
  have h2 := Int.emod_lt_of_pos (bit / 8) (show (0 : Int) < n by omega)
  omega

theorem cmask_nat (bit : Int) : ∃ j : Nat, j < 8 ∧ (cmask bit).toNat = 2 ^ j ∧ (j : Int) = bit % 8 := by
  have h : (bit % 8).toNat < 8 := by omega
  refine ⟨(bit % 8).toNat, h, ?_, by omega⟩
  unfold cmask
  have : 2 ^ (bit % 8).toNat < 256 := Nat.pow_lt_pow_right (a := 2) (n := 8) (by decide) h
  rw [UInt8.toNat_ofNat']
  exact Nat.mod_eq_of_lt this
theorem cmask_one (bit : Int) (x : UInt8) : x ^^^ cmask bit ≠ x := by
  intro h
  obtain ⟨j, hj, e, _⟩ := cmask_nat bit
  have h1 := congrArg UInt8.toNat h
  rw [UInt8.toNat_xor, Nat.xor_comm] at h1
  have h2 : (cmask bit).toNat ^^^ x.toNat = 0 ^^^ x.toNat := by rw [h1, Nat.zero_xor]
  have h3 := xor_cancel _ _ _ h2
  rw [e] at h3
  have := Nat.two_pow_pos j
  omega

theorem getD_set_self (l : List UInt8) (i : Nat) (x : UInt8) (h : i < l.length) : (l.set i x).getD i 0 = x := by
  rw [List.getD_eq_getElem?_getD, List.getElem?_set]
  simp [h]
theorem getD_set_other (l : List UInt8) (i j : Nat) (x : UInt8) (h : i ≠ j) : (l.set i x).getD j 0 = l.getD j 0 := by
  rw [List.getD_eq_getElem?_getD, List.getD_eq_getElem?_getD, List.getElem?_set, if_neg h]

theorem cturn_cturn (l : List UInt8) (bit : Int) : cturn (cturn l bit) bit = l := by
  rcases Nat.eq_zero_or_pos l.length with h0 | h0
  · have e : l = [] := List.eq_nil_of_length_eq_zero h0
    subst e
    rfl
  · have hp := cplace_lt l.length bit h0
    have e1 : cplace (cturn l bit).length bit = cplace l.length bit := by rw [cturn_length]
    show (cturn l bit).set (cplace (cturn l bit).length bit) ((cturn l bit).getD (cplace (cturn l bit).length bit) 0 ^^^ cmask bit) = l
    rw [e1]
    unfold cturn
    rw [getD_set_self _ _ _ hp, List.set_set, UInt8.xor_assoc, UInt8.xor_self, UInt8.xor_zero, set_parts l _ _ hp]
    exact (own_parts l _ hp).symm

/-- sealed bytes of which one bit is turned are none -/
theorem copens_cturn (l : List UInt8) (bit : Int) : copens (cturn (cseal l) bit) = false := by
  have hl := cseal_length l
  have hp := cplace_lt (cseal l).length bit (by omega)
  have hn : ¬ copens (cturn (cseal l) bit) = true := by
    intro h
    unfold copens at h
    rw [cturn_length, Bool.and_eq_true, beq_iff_eq] at h
    obtain ⟨_, h⟩ := h
    unfold cturn at h
    have hne := cmask_one bit ((cseal l).getD (cplace (cseal l).length bit) 0)
    generalize (cseal l).getD (cplace (cseal l).length bit) 0 ^^^ cmask bit = x at h hne
    generalize cplace (cseal l).length bit = p at h hne hp
    have e : (cseal l).length - 4 = l.length := by omega
    rw [e] at h
    have t1 := cseal_take l
    have d1 := cseal_drop l
    rw [e] at t1 d1
    rcases Nat.lt_or_ge p l.length with c | c
    · rw [List.drop_set_of_lt c, d1, List.take_set, t1] at h
      have h2 := csum_set l p x c (ctail_apart _ _ (csum_room _) (csum_room _) h).symm
      apply hne
      rw [h2]
      conv => lhs; rw [← t1]
      rw [List.getD_eq_getElem?_getD, List.getD_eq_getElem?_getD, List.getElem?_take_of_lt c]
    · rw [List.take_set, t1, List.set_eq_of_length_le c, ← d1, List.drop_set, if_neg (by omega)] at h
      have h2 := congrArg (fun z => z.getD (p - l.length) 0) h
      rw [getD_set_self _ _ _ (by rw [List.length_drop]; omega)] at h2
      apply hne
      rw [h2, List.getD_eq_getElem?_getD, List.getD_eq_getElem?_getD, List.getElem?_drop]
      congr 2
      omega
  simpa using hn

/-- how many bits of a byte are set -/
def cpop : Nat → Nat → Nat
  | 0, _ => 0
  | k + 1, x => x % 2 + cpop k (x / 2)
theorem cpop_zero (k : Nat) : cpop k 0 = 0 := by
  induction k with
  | zero => rfl
  | succ k ih => show 0 % 2 + cpop k (0 / 2) = 0; rw [show 0 / 2 = 0 by decide, ih]
theorem cpop_one (j : Nat) (h : j < 8) : cpop 8 (2 ^ j) = 1 := by
  match j, h with
  | 0, _ | 1, _ | 2, _ | 3, _ | 4, _ | 5, _ | 6, _ | 7, _ => rfl
  | n + 8, h => exact absurd h (by omega)


theorem known_sum : csum [49, 50, 51, 52, 53, 54, 55, 56, 57] = 3421780262 := by decide +kernel
end Go.Proofs.Ytkhdfcjdbhhikaa.Crc

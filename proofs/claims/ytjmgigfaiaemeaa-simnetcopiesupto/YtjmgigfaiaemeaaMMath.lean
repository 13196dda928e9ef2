/-
  Messages as plain lists: those that were put, in that order; those that are told, in theirs. (No program.)
  The sum of bytes as plain numbers: a register's steps, that they keep registers apart, sealed bytes, one turned bit. No program.
  What becomes of a message, as plain numbers and lists: six counts, a fate (kind, number), a list of what is on its way. (No program.)
  Who gets which layers, as plain numbers: a receiver is (tick, level, asked), what is asked is (receiver, level, tick). (No program.)
-/
import Derived.Test.YtjmgigfaiaemeaaMCore
import Derived.Laws.BitsAllLaws
import Derived.Laws.Strings
namespace Go.Proofs.Ytjmgigfaiaemeaa.Pip
set_option linter.unusedVariables false

abbrev Ms := List (Int × List UInt8)

/-- how many are due -/
def du (l : Ms) (t : Int) : Nat := l.countP fun p => decide (p.1 ≤ t)
def Srt (l : Ms) : Prop := l.Pairwise fun p q => p.1 ≤ q.1
/-- one more, behind all that are due by then -/
def ins (l : Ms) (m : Int × List UInt8) : Ms := l.take (du l m.1) ++ m :: l.drop (du l m.1)
/-- in the order in which they are told -/
def ord (x : Ms) : Ms := x.foldl ins []
theorem ord_nil : ord [] = [] := rfl
theorem ord_snoc (x : Ms) (m : Int × List UInt8) : ord (x ++ [m]) = ins (ord x) m := by simp [ord]
theorem du_nil (t : Int) : du [] t = 0 := rfl
theorem du_le (l : Ms) (t : Int) : du l t ≤ l.length := List.countP_le_length
theorem du_append (a b : Ms) (t : Int) : du (a ++ b) t = du a t + du b t := by simp [du]
theorem du_cons (p : Int × List UInt8) (l : Ms) (t : Int) : du (p :: l) t = du l t + if p.1 ≤ t then 1 else 0 := by
  unfold du
  rw [List.countP_cons]
  simp
theorem ins_length (l : Ms) (m : Int × List UInt8) : (ins l m).length = l.length + 1 := by
  have := du_le l m.1
  simp [ins]; omega
theorem ord_length (x : Ms) : (ord x).length = x.length := by
  have h : ∀ (x a : Ms), (x.foldl ins a).length = a.length + x.length := by
    intro x
    induction x with
    | nil => intro a; simp
    | cons m r ih => intro a; rw [List.foldl_cons, ih, ins_length, List.length_cons]; omega
  unfold ord
  rw [h]; simp
theorem du_ins (l : Ms) (m : Int × List UInt8) (t : Int) : du (ins l m) t = du l t + if m.1 ≤ t then 1 else 0 := by
  unfold ins
  rw [du_append, du_cons]
  have h : du l t = du (l.take (du l m.1)) t + du (l.drop (du l m.1)) t := by rw [← du_append, List.take_append_drop]
  omega
theorem du_ord (x : Ms) (t : Int) : du (ord x) t = du x t := by
  have h : ∀ (x a : Ms), du (x.foldl ins a) t = du a t + du x t := by
    intro x
    induction x with
    | nil => intro a; simp [du_nil]
    | cons m r ih => intro a; rw [List.foldl_cons, ih, du_ins, du_cons]; omega
  unfold ord
  rw [h, du_nil]; omega

theorem du_zero {l : Ms} {t : Int} (h : ∀ p ∈ l, t < p.1) : du l t = 0 := by
  unfold du
  rw [List.countP_eq_zero]
  intro p hp
  have := h p hp
  simp; omega
theorem du_all {l : Ms} {t : Int} (h : ∀ p ∈ l, p.1 ≤ t) : du l t = l.length := by
  unfold du
  rw [List.countP_eq_length]
  intro p hp
  simpa using h p hp

/-- up to there all are due, behind it none -/
theorem srt_due : ∀ {l : Ms} (h : Srt l) (t : Int) (j : Nat) (hj : j < l.length), (j < du l t → l[j].1 ≤ t) ∧ (du l t ≤ j → t < l[j].1) := by
  intro l
  induction l with
  | nil => intro _ _ j hj; simp at hj
  | cons p r ih =>
    intro h t j hj
    have h1 := (List.pairwise_cons.1 h).1
    have h2 : Srt r := (List.pairwise_cons.1 h).2
    rw [du_cons]
    by_cases hp : p.1 ≤ t
    · rw [if_pos hp]
      cases j with
      | zero => exact ⟨fun _ => hp, fun hh => by omega⟩
      | succ j =>
        have := ih h2 t j (by simpa using hj)
        exact ⟨fun hh => this.1 (by omega), fun hh => this.2 (by omega)⟩
    · rw [if_neg hp]
      have hz : du r t = 0 := du_zero fun q hq => by have := h1 q hq; omega
      rw [hz]
      cases j with
      | zero => exact ⟨fun hh => by omega, fun _ => by show t < p.1; omega⟩
      | succ j =>
        refine ⟨fun hh => by omega, fun _ => ?_⟩
        have := h1 (r[j]'(by simpa using hj)) (List.getElem_mem _)
        show t < (r[j]'(by simpa using hj)).1
        omega
theorem ins_srt {l : Ms} (h : Srt l) (m : Int × List UInt8) : Srt (ins l m) := by
  unfold ins Srt
  have hs := h
  unfold Srt at hs
  rw [← List.take_append_drop (du l m.1) l, List.pairwise_append] at hs
  rw [List.pairwise_append]
  refine ⟨hs.1, List.pairwise_cons.2 ⟨fun q hq => ?_, hs.2.1⟩, fun p hp q hq => ?_⟩
  · obtain ⟨j, hj, rfl⟩ := List.getElem_of_mem hq
    rw [List.getElem_drop]
    have := (srt_due h m.1 (du l m.1 + j) (by simp at hj; omega)).2 (by omega)
    omega
  · rcases List.mem_cons.1 hq with rfl | hq
    · obtain ⟨j, hj, rfl⟩ := List.getElem_of_mem hp
      rw [List.getElem_take]
      simp only [List.length_take] at hj
      exact (srt_due h q.1 j (by omega)).1 (by omega)
    · exact hs.2.2 p hp q hq
theorem ord_srt (x : Ms) : Srt (ord x) := by
  have h : ∀ (x a : Ms), Srt a → Srt (x.foldl ins a) := by
    intro x
    induction x with
    | nil => intro a h; exact h
    | cons m r ih => intro a h; exact ih _ (ins_srt h m)
  exact h x [] List.Pairwise.nil

theorem ins_more (p m : Int × List UInt8) (r : Ms) (h : p.1 ≤ m.1) : ins (p :: r) m = p :: ins r m := by
  unfold ins
  rw [du_cons, if_pos h]
  rfl
theorem ins_less (p m : Int × List UInt8) (r : Ms) (hs : Srt (p :: r)) (h : m.1 < p.1) : ins (p :: r) m = m :: p :: r := by
  have hz : du (p :: r) m.1 = 0 := du_zero fun q hq => by
    rcases List.mem_cons.1 hq with rfl | hq
    · exact h
    · have := (List.pairwise_cons.1 hs).1 q hq; omega
  unfold ins
  rw [hz]
  rfl

/-- where the first one in order is -/
def IsF (x : Ms) (i : Nat) : Prop := i < x.length ∧ (∀ j, j < x.length → (x.getD i (0, [])).1 ≤ (x.getD j (0, [])).1) ∧ ∀ j, j < i → (x.getD i (0, [])).1 < (x.getD j (0, [])).1

theorem snoc_ind {α : Type} {P : List α → Prop} (h0 : P []) (hs : ∀ x m, P x → P (x ++ [m])) (x : List α) : P x := by
  rw [← List.reverse_reverse x]
  induction x.reverse with
  | nil => exact h0
  | cons m r ih => rw [List.reverse_cons]; exact hs _ _ ih

theorem getD_left {x : Ms} {m : Int × List UInt8} {j : Nat} (h : j < x.length) : (x ++ [m]).getD j (0, []) = x.getD j (0, []) := by
  rw [List.getD_eq_getElem?_getD, List.getD_eq_getElem?_getD, List.getElem?_append_left h]
theorem getD_last {x : Ms} {m : Int × List UInt8} : (x ++ [m]).getD x.length (0, []) = m := by
  rw [List.getD_eq_getElem?_getD, List.getElem?_append_right (Nat.le_refl _)]; simp

/-- the first one, and the rest -/
theorem ord_first (x : Ms) : ∀ i, IsF x i → ord x = x.getD i (0, []) :: ord (x.eraseIdx i) := by
  induction x using snoc_ind with
  | h0 => intro i h; exact absurd h.1 (by simp)
  | hs x m ih =>
    intro i ⟨h1, h2, h3⟩
    rw [List.length_append, List.length_singleton] at h1
    rw [ord_snoc]
    by_cases hi : i < x.length
    · have hF : IsF x i := by
        refine ⟨hi, fun j hj => ?_, fun j hj => ?_⟩
        · have := h2 j (by simp; omega)
          rwa [getD_left hi, getD_left hj] at this
        · have := h3 j hj
          rwa [getD_left hi, getD_left (by omega)] at this
      have hm := h2 x.length (by simp)
      rw [getD_left hi, getD_last] at hm
      rw [ih i hF, ins_more _ _ _ hm, getD_left hi, List.eraseIdx_append_of_lt_length hi, ord_snoc]
    · obtain rfl : i = x.length := by omega
      rw [getD_last]
      have e : (x ++ [m]).eraseIdx x.length = x := by rw [List.eraseIdx_append_of_length_le (Nat.le_refl _)]; simp
      rw [e]
      cases hx : ord x with
      | nil =>
        rfl
      | cons p r =>
        have hs := ord_srt x
        rw [hx] at hs
        refine ins_less p m r hs ?_
        have hp : p ∈ x := by
          have hmem : ∀ (x a : Ms) (q : Int × List UInt8), q ∈ x.foldl ins a → q ∈ a ∨ q ∈ x := by
            intro x
            induction x with
            | nil => intro a q h; exact .inl h
            | cons m r ih2 =>
              intro a q h
              rcases ih2 (ins a m) q h with h | h
              · unfold ins at h
                rcases List.mem_append.1 h with h | h
                · exact .inl (List.mem_of_mem_take h)
                · rcases List.mem_cons.1 h with rfl | h
                  · exact .inr (List.mem_cons_self ..)
                  · exact .inl (List.mem_of_mem_drop h)
              · exact .inr (List.mem_cons_of_mem _ h)
          rcases hmem x [] p (by show p ∈ ord x; rw [hx]; exact List.mem_cons_self ..) with h | h
          · simp at h
          · exact h
        obtain ⟨j, hj, rfl⟩ := List.getElem_of_mem hp
        have := h3 j hj
        rw [getD_last, getD_left hj, List.getD_eq_getElem?_getD, List.getElem?_eq_getElem hj] at this
        exact this

/-- all but one, as far as a loop has come -/
theorem erase_step (x : Ms) (i k : Nat) (h : k < x.length) : (x.take (k + 1)).eraseIdx i = if k = i then (x.take k).eraseIdx i else (x.take k).eraseIdx i ++ [x.getD k (0, [])] := by
  have e : x.take (k + 1) = x.take k ++ [x.getD k (0, [])] := by
    rw [List.take_add_one, List.getD_eq_getElem?_getD, List.getElem?_eq_getElem h]; rfl
  have hl : (x.take k).length = k := by rw [List.length_take]; omega
  rw [e]
  split
  · next h2 =>
    subst h2
    rw [List.eraseIdx_append_of_length_le (by omega), hl, List.eraseIdx_of_length_le (l := x.take k) (by omega)]
    simp
  · next h2 =>
    by_cases h3 : i < k
    · rw [List.eraseIdx_append_of_lt_length (by omega)]
    · rw [List.eraseIdx_append_of_length_le (by omega), hl, List.eraseIdx_of_length_le (l := x.take k) (by omega)]
      congr 1
      obtain ⟨d, hd⟩ : ∃ d, i - k = d + 1 := ⟨i - k - 1, by omega⟩
      rw [hd]; rfl
theorem erase_all (x : Ms) (i : Nat) : (x.take x.length).eraseIdx i = x.eraseIdx i := by rw [List.take_length]

/-- how far a search for the first one has come -/
def IsFk (x : Ms) (k : Nat) (a : Int) : Prop := (k = 0 ∧ a = -1) ∨ ∃ i : Nat, i < k ∧ a = (i : Int) ∧ (∀ j, j < k → (x.getD i (0, [])).1 ≤ (x.getD j (0, [])).1) ∧ ∀ j, j < i → (x.getD i (0, [])).1 < (x.getD j (0, [])).1
theorem IsFk.none {x : Ms} : IsFk x 0 (-1) := .inl ⟨rfl, rfl⟩
theorem IsFk.first {x : Ms} : IsFk x 1 0 := by
  refine .inr ⟨0, by omega, rfl, fun j hj => ?_, fun j hj => by omega⟩
  have e : j = 0 := by omega
  rw [e]
  exact Int.le_refl _
theorem IsFk.less {x : Ms} {k i : Nat} (h : IsFk x k (i : Int)) (hl : (x.getD k (0, [])).1 < (x.getD i (0, [])).1) : IsFk x (k + 1) (k : Int) := by
  rcases h with ⟨_, h⟩ | ⟨i', h1, h2, h3, h4⟩
  · omega
  · obtain rfl : i = i' := by omega
    refine .inr ⟨k, by omega, rfl, fun j hj => ?_, fun j hj => ?_⟩
    · by_cases hjk : j = k
      · rw [hjk]; exact Int.le_refl _
      · have := h3 j (by omega); omega
    · have := h3 j (by omega); omega
theorem IsFk.keep {x : Ms} {k i : Nat} (h : IsFk x k (i : Int)) (hl : ¬ (x.getD k (0, [])).1 < (x.getD i (0, [])).1) : IsFk x (k + 1) (i : Int) := by
  rcases h with ⟨_, h⟩ | ⟨i', h1, h2, h3, h4⟩
  · omega
  · obtain rfl : i = i' := by omega
    refine .inr ⟨i, by omega, rfl, fun j hj => ?_, h4⟩
    by_cases hjk : j = k
    · rw [hjk]; omega
    · exact h3 j (by omega)
theorem IsFk.done {x : Ms} {a : Int} (h : IsFk x x.length a) : (x = [] ∧ a = -1) ∨ ∃ i : Nat, a = (i : Int) ∧ IsF x i := by
  rcases h with ⟨h1, h2⟩ | ⟨i, h1, h2, h3, h4⟩
  · exact .inl ⟨List.eq_nil_of_length_eq_zero h1, h2⟩
  · exact .inr ⟨i, h2, h1, h3, h4⟩
end Go.Proofs.Ytjmgigfaiaemeaa.Pip

namespace Go.Proofs.Ytjmgigfaiaemeaa.Crc
set_option linter.unusedVariables false

/-- where a register is turned -/
def cpoly : Nat := 3988292384
/-- a register goes down by one place -/
def cbit (r : Nat) : Nat := if r % 2 = 1 then (r / 2) ^^^ cpoly else r / 2
/-- .. by k places -/
def cbits : Nat → Nat → Nat
  | 0, r => r
  | k + 1, r => cbit (cbits k r)
/-- a register goes by one byte -/
def cbyte (r : Nat) (b : UInt8) : Nat := cbits 8 (r ^^^ b.toNat)
/-- .. by bytes -/
def creg (r : Nat) (l : List UInt8) : Nat := l.foldl cbyte r
/-- the sum of bytes behind those of a sum -/
def cmore (s : Nat) (l : List UInt8) : Nat := 4294967295 - creg (4294967295 - s) l
/-- the sum of bytes -/
def csum (l : List UInt8) : Nat := cmore 0 l
/-- the reference's step: a register and a bit -/
def rbit (r b : Nat) : Nat := if r % 2 = b then r / 2 else (r / 2) ^^^ cpoly
/-- .. by the lowest k bits of a byte -/
def rbits (r b : Nat) : Nat → Nat
  | 0 => r
  | k + 1 => rbit (rbits r b k) (b / 2 ^ k % 2)

theorem xor_half (a b : Nat) : (a ^^^ b) / 2 = a / 2 ^^^ b / 2 := by
  apply Nat.eq_of_testBit_eq
  intro i
  rw [← Nat.testBit_succ, Nat.testBit_xor, Nat.testBit_xor, Nat.testBit_succ, Nat.testBit_succ]

theorem xor_low (a b : Nat) : (a ^^^ b) % 2 = (a + b) % 2 := by
  have h : (a ^^^ b).testBit 0 = (a.testBit 0 ^^ b.testBit 0) := Nat.testBit_xor ..
  rw [Nat.testBit_zero, Nat.testBit_zero, Nat.testBit_zero] at h
  rcases Nat.mod_two_eq_zero_or_one a with ha | ha <;> rcases Nat.mod_two_eq_zero_or_one b with hb | hb <;> rcases Nat.mod_two_eq_zero_or_one (a ^^^ b) with hc | hc <;> simp [ha, hb, hc] at h ⊢ <;> omega

theorem cbit_room (r : Nat) (h : r < 4294967296) : cbit r < 4294967296 := by
  unfold cbit
  split
  · exact Nat.xor_lt_two_pow (n := 32) (by omega) (by decide)
  · omega

theorem cbits_room (k r : Nat) (h : r < 4294967296) : cbits k r < 4294967296 := by
  induction k with
  | zero => exact h
  | succ k ih => exact cbit_room _ ih

theorem byte_room (b : UInt8) : b.toNat < 256 := UInt8.toNat_lt b

theorem cbyte_room (r : Nat) (b : UInt8) (h : r < 4294967296) : cbyte r b < 4294967296 := by
  have := byte_room b
  exact cbits_room 8 _ (Nat.xor_lt_two_pow (n := 32) h (by omega))

theorem creg_room (l : List UInt8) : ∀ r, r < 4294967296 → creg r l < 4294967296 := by
  induction l with
  | nil => intro r h; exact h
  | cons b l ih => intro r h; exact ih _ (cbyte_room r b h)

theorem cmore_room (s : Nat) (l : List UInt8) : cmore s l < 4294967296 := by unfold cmore; omega
theorem csum_room (l : List UInt8) : csum l < 4294967296 := cmore_room 0 l

theorem creg_append (r : Nat) (a b : List UInt8) : creg r (a ++ b) = creg (creg r a) b := List.foldl_append ..
theorem creg_snoc (r : Nat) (a : List UInt8) (b : UInt8) : creg r (a ++ [b]) = cbyte (creg r a) b := creg_append r a [b]

/-- in however many parts they come -/
theorem cmore_csum (a b : List UInt8) : cmore (csum a) b = csum (a ++ b) := by
  unfold csum cmore
  rw [creg_append]
  have := creg_room a (4294967295 - 0) (by decide)
  congr 2
  omega

/-- a step is the reference's, with the byte's other bits still to come -/
theorem cbit_xor (r b : Nat) : cbit (r ^^^ b) = rbit r (b % 2) ^^^ (b / 2) := by
  unfold cbit rbit
  rw [xor_low, xor_half]
  by_cases h : r % 2 = b % 2
  · rw [if_neg (by omega), if_pos h]
  · rw [if_pos (by omega), if_neg h, Nat.xor_assoc, Nat.xor_comm (b / 2), ← Nat.xor_assoc]

theorem cbits_xor (r b : Nat) : ∀ k, cbits k (r ^^^ b) = rbits r b k ^^^ (b / 2 ^ k)
  | 0 => by simp [cbits, rbits]
  | k + 1 => by
    show cbit (cbits k (r ^^^ b)) = rbit (rbits r b k) (b / 2 ^ k % 2) ^^^ (b / 2 ^ (k + 1))
    rw [cbits_xor r b k, cbit_xor, Nat.div_div_eq_div_mul, ← Nat.pow_succ]

theorem cbyte_rbits (r : Nat) (b : UInt8) : cbyte r b = rbits r b.toNat 8 := by
  have := byte_room b
  unfold cbyte
  rw [cbits_xor, show b.toNat / 2 ^ 8 = 0 by omega, Nat.xor_zero]

theorem rbit_room (r b : Nat) (h : r < 4294967296) : rbit r b < 4294967296 := by
  unfold rbit
  split
  · omega
  · exact Nat.xor_lt_two_pow (n := 32) (by omega) (by decide)
theorem rbits_room (r b k : Nat) (h : r < 4294967296) : rbits r b k < 4294967296 := by
  induction k with
  | zero => exact h
  | succ k ih => exact rbit_room _ _ ih

/-- a step keeps registers apart -/
theorem poly_high (a : Nat) (h : a < 2147483648) : 2147483648 ≤ a ^^^ cpoly := by
  apply Nat.ge_of_not_lt
  intro hlt
  have h1 : (a ^^^ cpoly).testBit 31 = false := Nat.testBit_lt_two_pow (by simpa using hlt)
  have h2 : a.testBit 31 = false := Nat.testBit_lt_two_pow (by simpa using h)
  have h3 : cpoly.testBit 31 = true := by decide
  rw [Nat.testBit_xor, h2, h3] at h1
  exact absurd h1 (by decide)

theorem xor_cancel (a b c : Nat) (h : a ^^^ c = b ^^^ c) : a = b := by
  have : (a ^^^ c) ^^^ c = (b ^^^ c) ^^^ c := by rw [h]
  rwa [Nat.xor_assoc, Nat.xor_assoc, Nat.xor_self, Nat.xor_zero, Nat.xor_zero] at this

theorem cbit_apart (a b : Nat) (ha : a < 4294967296) (hb : b < 4294967296) (h : cbit a = cbit b) : a = b := by
  unfold cbit at h
  by_cases x : a % 2 = 1 <;> by_cases y : b % 2 = 1
  · rw [if_pos x, if_pos y] at h
    have := xor_cancel _ _ _ h
    omega
  · rw [if_pos x, if_neg y] at h
    have := poly_high (a / 2) (by omega)
    omega
  · rw [if_neg x, if_pos y] at h
    have := poly_high (b / 2) (by omega)
    omega
  · rw [if_neg x, if_neg y] at h
    omega

theorem cbits_apart (k a b : Nat) (ha : a < 4294967296) (hb : b < 4294967296) (h : cbits k a = cbits k b) : a = b := by
  induction k with
  | zero => exact h
  | succ k ih => exact ih (cbit_apart _ _ (cbits_room k a ha) (cbits_room k b hb) h)

theorem cbyte_apart (a b : Nat) (x : UInt8) (ha : a < 4294967296) (hb : b < 4294967296) (h : cbyte a x = cbyte b x) : a = b := by
  have := byte_room x
  exact xor_cancel _ _ _ (cbits_apart 8 _ _ (Nat.xor_lt_two_pow (n := 32) ha (by omega)) (Nat.xor_lt_two_pow (n := 32) hb (by omega)) h)

theorem cbyte_other (a : Nat) (x y : UInt8) (ha : a < 4294967296) (h : cbyte a x = cbyte a y) : x = y := by
  have hx := byte_room x
  have hy := byte_room y
  have h1 := cbits_apart 8 _ _ (Nat.xor_lt_two_pow (n := 32) ha (by omega)) (Nat.xor_lt_two_pow (n := 32) ha (by omega)) h
  rw [Nat.xor_comm a, Nat.xor_comm a] at h1
  exact UInt8.toNat_inj.1 (xor_cancel _ _ _ h1)

theorem creg_apart (l : List UInt8) : ∀ a b, a < 4294967296 → b < 4294967296 → creg a l = creg b l → a = b := by
  induction l with
  | nil => intro a b _ _ h; exact h
  | cons x l ih => intro a b ha hb h; exact cbyte_apart a b x ha hb (ih _ _ (cbyte_room a x ha) (cbyte_room b x hb) h)

/-- another byte at one place: another sum -/
theorem csum_other (a b : List UInt8) (x y : UInt8) (h : csum (a ++ x :: b) = csum (a ++ y :: b)) : x = y := by
  have r1 := creg_room (a ++ x :: b) (4294967295 - 0) (by decide)
  have r2 := creg_room (a ++ y :: b) (4294967295 - 0) (by decide)
  have h1 : creg (4294967295 - 0) (a ++ x :: b) = creg (4294967295 - 0) (a ++ y :: b) := by
    unfold csum cmore at h
    omega
  have r3 := creg_room a (4294967295 - 0) (by decide)
  rw [creg_append, creg_append] at h1
  exact cbyte_other _ x y r3 (creg_apart b _ _ (cbyte_room _ x r3) (cbyte_room _ y r3) h1)

theorem set_parts (l : List UInt8) (i : Nat) (x : UInt8) (hi : i < l.length) : l.set i x = l.take i ++ (x :: l.drop (i + 1)) := by
  rw [List.set_eq_take_append_cons_drop, if_pos hi]
theorem own_parts (l : List UInt8) (i : Nat) (hi : i < l.length) : l = l.take i ++ (l.getD i 0 :: l.drop (i + 1)) := by
  have e := set_parts l i (l.getD i 0) hi
  rw [← e]
  apply List.ext_getElem?
  intro j
  rw [List.getElem?_set]
  by_cases h : i = j
  · subst h; simp [hi, List.getD_eq_getElem?_getD]
  · simp [h]

theorem csum_set (l : List UInt8) (i : Nat) (x : UInt8) (hi : i < l.length) (h : csum (l.set i x) = csum l) : x = l.getD i 0 := by
  rw [set_parts l i x hi] at h
  exact csum_other (l.take i) (l.drop (i + 1)) x (l.getD i 0) (h.trans (congrArg csum (own_parts l i hi)))

/-- a sum as four bytes -/
def ctail (s : Nat) : List UInt8 := [UInt8.ofNat s, UInt8.ofNat (s / 256), UInt8.ofNat (s / 65536), UInt8.ofNat (s / 16777216)]
theorem ctail_length (s : Nat) : (ctail s).length = 4 := rfl

theorem byte_same (a b : Nat) (h : UInt8.ofNat a = UInt8.ofNat b) : a % 256 = b % 256 := by
  have := congrArg UInt8.toNat h
  simpa using this

theorem ctail_apart (s t : Nat) (hs : s < 4294967296) (ht : t < 4294967296) (h : ctail s = ctail t) : s = t := by
  unfold ctail at h
  simp only [List.cons.injEq, and_true] at h
  obtain ⟨h0, h1, h2, h3⟩ := h
  have e0 := byte_same _ _ h0
  have e1 := byte_same _ _ h1
  have e2 := byte_same _ _ h2
  have e3 := byte_same _ _ h3
  omega

/-- sealed bytes -/
def cseal (l : List UInt8) : List UInt8 := l ++ ctail (csum l)
theorem cseal_length (l : List UInt8) : (cseal l).length = l.length + 4 := by unfold cseal; rw [List.length_append, ctail_length]
/-- are bytes sealed ones? -/
def copens (l : List UInt8) : Bool := decide (4 ≤ l.length) && (l.drop (l.length - 4) == ctail (csum (l.take (l.length - 4))))

theorem cseal_take (l : List UInt8) : (cseal l).take ((cseal l).length - 4) = l := by
  rw [cseal_length, Nat.add_sub_cancel]
  exact List.take_left
theorem cseal_drop (l : List UInt8) : (cseal l).drop ((cseal l).length - 4) = ctail (csum l) := by
  rw [cseal_length, Nat.add_sub_cancel]
  exact List.drop_left
theorem copens_cseal (l : List UInt8) : copens (cseal l) = true := by
  unfold copens
  rw [cseal_take, cseal_drop, cseal_length]
  simp

theorem copens_iff (l : List UInt8) (h : 4 ≤ l.length) : copens l = (cseal (l.take (l.length - 4)) == l) := by
  unfold copens cseal
  rw [Bool.eq_iff_iff]
  simp only [h, decide_true, Bool.true_and, beq_iff_eq]
  constructor
  · intro e
    rw [← e, List.take_append_drop]
  · intro e
    have := congrArg (List.drop (l.length - 4)) e
    rw [List.drop_append_of_le_length (by rw [List.length_take]; omega), List.drop_eq_nil_of_le (by rw [List.length_take]; omega), List.nil_append] at this
    exact this.symm

/-- the place and the bit that are turned -/
def cplace (n : Nat) (bit : Int) : Nat := (bit / 8 % (n : Int)).toNat
def cmask (bit : Int) : UInt8 := UInt8.ofNat (2 ^ (bit % 8).toNat)
/-- bytes of which one bit is turned -/
def cturn (l : List UInt8) (bit : Int) : List UInt8 := l.set (cplace l.length bit) (l.getD (cplace l.length bit) 0 ^^^ cmask bit)
theorem cturn_length (l : List UInt8) (bit : Int) : (cturn l bit).length = l.length := by unfold cturn; rw [List.length_set]
theorem cplace_lt (n : Nat) (bit : Int) (h : 0 < n) : cplace n bit < n := by
  unfold cplace
  have h1 := Int.emod_nonneg (bit / 8) (show (n : Int) ≠ 0 by omega)
  have h2 := Int.emod_lt_of_pos (bit / 8) (show (0 : Int) < n by omega)
  omega

theorem cmask_nat (bit : Int) : ∃ j : Nat, j < 8 ∧ (cmask bit).toNat = 2 ^ j ∧ (j : Int) = bit % 8 := by
  have h : (bit % 8).toNat < 8 := by omega
  refine ⟨(bit % 8).toNat, h, ?_, by omega⟩
  unfold cmask
  have : 2 ^ (bit % 8).toNat < 256 := Nat.pow_lt_pow_right (a := 2) (n := 8) (by decide) h
  rw [UInt8.toNat_ofNat']
  exact Nat.mod_eq_of_lt this
theorem cmask_one (bit : Int) (x : UInt8) : x ^^^ cmask bit ≠ x := by
  intro h
  obtain ⟨j, hj, e, _⟩ := cmask_nat bit
  have h1 := congrArg UInt8.toNat h
  rw [UInt8.toNat_xor, Nat.xor_comm] at h1
  have h2 : (cmask bit).toNat ^^^ x.toNat = 0 ^^^ x.toNat := by rw [h1, Nat.zero_xor]
  have h3 := xor_cancel _ _ _ h2
  rw [e] at h3
  have := Nat.two_pow_pos j
  omega

theorem getD_set_self (l : List UInt8) (i : Nat) (x : UInt8) (h : i < l.length) : (l.set i x).getD i 0 = x := by
  rw [List.getD_eq_getElem?_getD, List.getElem?_set]
  simp [h]
theorem getD_set_other (l : List UInt8) (i j : Nat) (x : UInt8) (h : i ≠ j) : (l.set i x).getD j 0 = l.getD j 0 := by
  rw [List.getD_eq_getElem?_getD, List.getD_eq_getElem?_getD, List.getElem?_set, if_neg h]

theorem cturn_cturn (l : List UInt8) (bit : Int) : cturn (cturn l bit) bit = l := by
  rcases Nat.eq_zero_or_pos l.length with h0 | h0
  · have e : l = [] := List.eq_nil_of_length_eq_zero h0
    subst e
    rfl
  · have hp := cplace_lt l.length bit h0
    have e1 : cplace (cturn l bit).length bit = cplace l.length bit := by rw [cturn_length]
    show (cturn l bit).set (cplace (cturn l bit).length bit) ((cturn l bit).getD (cplace (cturn l bit).length bit) 0 ^^^ cmask bit) = l
    rw [e1]
    unfold cturn
    rw [getD_set_self _ _ _ hp, List.set_set, UInt8.xor_assoc, UInt8.xor_self, UInt8.xor_zero, set_parts l _ _ hp]
    exact (own_parts l _ hp).symm

/-- sealed bytes of which one bit is turned are none -/
theorem copens_cturn (l : List UInt8) (bit : Int) : copens (cturn (cseal l) bit) = false := by
  have hl := cseal_length l
  have hp := cplace_lt (cseal l).length bit (by omega)
  have hn : ¬ copens (cturn (cseal l) bit) = true := by
    intro h
    unfold copens at h
    rw [cturn_length, Bool.and_eq_true, beq_iff_eq] at h
    obtain ⟨_, h⟩ := h
    unfold cturn at h
    have hne := cmask_one bit ((cseal l).getD (cplace (cseal l).length bit) 0)
    generalize (cseal l).getD (cplace (cseal l).length bit) 0 ^^^ cmask bit = x at h hne
    generalize cplace (cseal l).length bit = p at h hne hp
    have e : (cseal l).length - 4 = l.length := by omega
    rw [e] at h
    have t1 := cseal_take l
    have d1 := cseal_drop l
    rw [e] at t1 d1
    rcases Nat.lt_or_ge p l.length with c | c
    · rw [List.drop_set_of_lt c, d1, List.take_set, t1] at h
      have h2 := csum_set l p x c (ctail_apart _ _ (csum_room _) (csum_room _) h).symm
      apply hne
      rw [h2]
      conv => lhs; rw [← t1]
      rw [List.getD_eq_getElem?_getD, List.getD_eq_getElem?_getD, List.getElem?_take_of_lt c]
    · rw [List.take_set, t1, List.set_eq_of_length_le c, ← d1, List.drop_set, if_neg (by omega)] at h
      have h2 := congrArg (fun z => z.getD (p - l.length) 0) h
      rw [getD_set_self _ _ _ (by rw [List.length_drop]; omega)] at h2
      apply hne
      rw [h2, List.getD_eq_getElem?_getD, List.getD_eq_getElem?_getD, List.getElem?_drop]
      congr 2
      omega
  simpa using hn

/-- how many bits of a byte are set -/
def cpop : Nat → Nat → Nat
  | 0, _ => 0
  | k + 1, x => x % 2 + cpop k (x / 2)
theorem cpop_zero (k : Nat) : cpop k 0 = 0 := by
  induction k with
  | zero => rfl
  | succ k ih => show 0 % 2 + cpop k (0 / 2) = 0; rw [show 0 / 2 = 0 by decide, ih]
theorem cpop_one (j : Nat) (h : j < 8) : cpop 8 (2 ^ j) = 1 := by
  match j, h with
  | 0, _ | 1, _ | 2, _ | 3, _ | 4, _ | 5, _ | 6, _ | 7, _ => rfl
  | n + 8, h => exact absurd h (by omega)


theorem known_sum : csum [49, 50, 51, 52, 53, 54, 55, 56, 57] = 3421780262 := by decide +kernel
end Go.Proofs.Ytjmgigfaiaemeaa.Crc

namespace Go.Proofs.Ytjmgigfaiaemeaa.Sim
set_option linter.unusedVariables false
open Go.Proofs.Ytjmgigfaiaemeaa.Pip Go.Proofs.Ytjmgigfaiaemeaa.Crc

/-- sent, lost, dropped, doubled, late, turned -/
abbrev Cts := Int × Int × Int × Int × Int × Int
def sSent (s : Cts) : Cts := (s.1 + 1, s.2)
def sLost (s : Cts) : Cts := (s.1, s.2.1 + 1, s.2.2)
def sDrop (s : Cts) : Cts := (s.1, s.2.1, s.2.2.1 + 1, s.2.2.2)
def sDbl (s : Cts) : Cts := (s.1, s.2.1, s.2.2.1, s.2.2.2.1 + 1, s.2.2.2.2)
def sLate (s : Cts) : Cts := (s.1, s.2.1, s.2.2.1, s.2.2.2.1, s.2.2.2.2.1 + 1, s.2.2.2.2.2)
def sTurn (s : Cts) : Cts := (s.1, s.2.1, s.2.2.1, s.2.2.2.1, s.2.2.2.2.1, s.2.2.2.2.2 + 1)
/-- each count is from 0 to b -/
def SB (b : Int) (s : Cts) : Prop := (0 ≤ s.1 ∧ s.1 ≤ b) ∧ (0 ≤ s.2.1 ∧ s.2.1 ≤ b) ∧ (0 ≤ s.2.2.1 ∧ s.2.2.1 ≤ b) ∧ (0 ≤ s.2.2.2.1 ∧ s.2.2.2.1 ≤ b) ∧ (0 ≤ s.2.2.2.2.1 ∧ s.2.2.2.2.1 ≤ b) ∧ (0 ≤ s.2.2.2.2.2 ∧ s.2.2.2.2.2 ≤ b)
theorem SB.sent {b : Int} {s : Cts} (h : SB b s) : SB (b + 1) (sSent s) := by unfold SB sSent at *; simp only; omega
theorem SB.lost {b : Int} {s : Cts} (h : SB b s) : SB (b + 1) (sLost s) := by unfold SB sLost at *; simp only; omega
theorem SB.drop {b : Int} {s : Cts} (h : SB b s) : SB (b + 1) (sDrop s) := by unfold SB sDrop at *; simp only; omega
theorem SB.dbl {b : Int} {s : Cts} (h : SB b s) : SB (b + 1) (sDbl s) := by unfold SB sDbl at *; simp only; omega
theorem SB.late {b : Int} {s : Cts} (h : SB b s) : SB (b + 1) (sLate s) := by unfold SB sLate at *; simp only; omega
theorem SB.turn {b : Int} {s : Cts} (h : SB b s) : SB (b + 1) (sTurn s) := by unfold SB sTurn at *; simp only; omega
theorem SB.mono {b c : Int} {s : Cts} (h : SB b s) (hc : b ≤ c) : SB c s := by unfold SB at *; omega

/-- one copy -/
def lay1 (l : Ms) (room : Int) (m : Int × List UInt8) (s : Cts) : Ms × Cts := if room ≤ (l.length : Int) then (l, sDrop s) else (l ++ [m], s)
theorem lay1_bound {b : Int} {l : Ms} {room : Int} {m : Int × List UInt8} {s : Cts} (h : SB b s) : SB (b + 1) (lay1 l room m s).2 := by
  unfold lay1
  split
  · exact h.drop
  · exact h.mono (by omega)
theorem lay1_length {l : Ms} {room : Int} {m : Int × List UInt8} {s : Cts} : (lay1 l room m s).1.length ≤ l.length + 1 := by
  unfold lay1
  split <;> simp
/-- how much later -/
def cl (n : Int) : Int := if 64 < n then 64 else if 0 < n then n else 0
theorem cl_room (n : Int) : 0 ≤ cl n ∧ cl n ≤ 64 := by unfold cl; split <;> (try split) <;> omega
/-- a message by its fate -/
def give1 (l : Ms) (room due : Int) (t : List UInt8) (f : Int × Int) (s : Cts) : Ms × Cts :=
  if f.1 = 1 then (l, sLost (sSent s)) else
  if f.1 = 2 then lay1 (lay1 l room (due, t) (sDbl (sSent s))).1 room (due, t) (lay1 l room (due, t) (sDbl (sSent s))).2 else
  if f.1 = 3 then lay1 l room (due + cl f.2, t) (sLate (sSent s)) else
  if f.1 = 4 then lay1 l room (due, cturn t f.2) (sTurn (sSent s)) else
  lay1 l room (due, t) (sSent s)
theorem give1_bound {b : Int} {l : Ms} {room due : Int} {t : List UInt8} {f : Int × Int} {s : Cts} (h : SB b s) : SB (b + 4) (give1 l room due t f s).2 := by
  unfold give1
  split
  · exact h.sent.lost.mono (by omega)
  · split
    · exact (lay1_bound (lay1_bound h.sent.dbl)).mono (by omega)
    · split
      · exact (lay1_bound h.sent.late).mono (by omega)
      · split
        · exact (lay1_bound h.sent.turn).mono (by omega)
        · exact (lay1_bound h.sent).mono (by omega)
theorem give1_length {l : Ms} {room due : Int} {t : List UInt8} {f : Int × Int} {s : Cts} : (give1 l room due t f s).1.length ≤ l.length + 2 := by
  unfold give1
  split
  · simp
  · split
    · exact Nat.le_trans lay1_length (Nat.succ_le_succ lay1_length)
    · split
      · exact Nat.le_trans lay1_length (by omega)
      · split
        · exact Nat.le_trans lay1_length (by omega)
        · exact Nat.le_trans lay1_length (by omega)

/-- one bit of a byte, as the reference turns it -/
theorem bit_fin : ∀ (c : Fin 256) (j : Fin 8), (if c.val / 2 ^ j.val % 2 = 1 then c.val - 2 ^ j.val else c.val + 2 ^ j.val) = c.val ^^^ 2 ^ j.val := by decide +kernel
theorem bit_turn (c j : Nat) (hc : c < 256) (hj : j < 8) : (if c / 2 ^ j % 2 = 1 then c - 2 ^ j else c + 2 ^ j) = c ^^^ 2 ^ j := bit_fin ⟨c, hc⟩ ⟨j, hj⟩
theorem bit_sub (c j : Nat) (h : c / 2 ^ j % 2 = 1) : 2 ^ j ≤ c := by
  rcases Nat.lt_or_ge c (2 ^ j) with q | q
  · rw [Nat.div_eq_of_lt q] at h
    omega
  · exact q

/-- where the bit lies -/
theorem place_emod (n : Nat) (bit : Int) (hn : 0 < n) : ∃ A : Nat, bit % (8 * (n : Int)) = (A : Int) ∧ A < 8 * n ∧ A / 8 = cplace n bit ∧ ((A % 8 : Nat) : Int) = bit % 8 := by
  have h1 := Int.emod_nonneg bit (show (8 * (n : Int)) ≠ 0 by omega)
  have h2 := Int.emod_lt_of_pos bit (show (0 : Int) < 8 * (n : Int) by omega)
  have h3 := Int.mul_ediv_add_emod bit (8 * (n : Int))
  rw [Int.mul_assoc] at h3
  generalize bit % (8 * (n : Int)) = A at *
  obtain ⟨a, rfl⟩ : ∃ a : Nat, A = (a : Int) := ⟨A.toNat, by omega⟩
  generalize bit / (8 * (n : Int)) = q at *
  generalize hm : (n : Int) * q = m at *
  refine ⟨a, rfl, by omega, ?_, by omega⟩
  unfold cplace
  have e : bit / 8 = ((a / 8 : Nat) : Int) + (n : Int) * q := by rw [hm]; omega
  rw [e, Int.add_mul_emod_self_left, Int.emod_eq_of_lt (by omega) (by omega)]
  omega
/-- the first k bytes, one bit turned -/
theorem cturn_take (l : List UInt8) (bit : Int) (k : Nat) (hk : k < l.length) : (cturn l bit).take (k + 1) = (cturn l bit).take k ++ [if k = cplace l.length bit then l.getD k 0 ^^^ cmask bit else l.getD k 0] := by
  rw [List.take_add_one]
  congr 1
  unfold cturn
  rw [List.getElem?_set]
  by_cases e : cplace l.length bit = k
  · subst e
    simp [hk]
  · rw [if_neg e, if_neg (fun h => e h.symm), List.getD_eq_getElem?_getD, List.getElem?_eq_getElem hk]
    rfl
end Go.Proofs.Ytjmgigfaiaemeaa.Sim

namespace Go.Proofs.Ytjmgigfaiaemeaa.Grp
set_option linter.unusedVariables false

abbrev Tri := Int × Int × Int

/-- from when on a receiver has what it asked for -/
def cm (j lv : Int) (x : Tri) : Int := if x.2.1 < x.2.2 then x.1 + j else x.1 + lv
/-- its level at a tick -/
def lat (j lv : Int) (x : Tri) (now : Int) : Int := if now < cm j lv x then x.2.1 else x.2.2
/-- what one asking leaves -/
def ask1 (j lv : Int) (x : Tri) (a : Tri) : Tri := (a.2.2, lat j lv x a.2.2, a.2.1)
def st1 (j lv : Int) (r : Int) (s a : Tri) : Tri := if a.1 = r then ask1 j lv s a else s
/-- a receiver behind all that was asked -/
def st (j lv : Int) (l : List Tri) (r : Int) : Tri := l.foldl (st1 j lv r) (0, -1, -1)
theorem st_nil (j lv r : Int) : st j lv [] r = (0, -1, -1) := rfl
theorem st_snoc (j lv : Int) (l : List Tri) (a : Tri) (r : Int) : st j lv (l ++ [a]) r = st1 j lv r (st j lv l r) a := by simp [st]
theorem st_take (j lv : Int) (l : List Tri) (k : Nat) (x : Tri) (h : l[k]? = some x) (r : Int) : st j lv (l.take (k + 1)) r = st1 j lv r (st j lv (l.take k) r) x := by
  have e : l.take (k + 1) = l.take k ++ [x] := by rw [List.take_add_one, h]; rfl
  rw [e, st_snoc]

/-- what may be asked -/
def fit (n : Int) (a : Tri) : Prop := 0 ≤ a.1 ∧ a.1 < n ∧ -1 ≤ a.2.1 ∧ a.2.1 ≤ 7 ∧ 0 ≤ a.2.2 ∧ a.2.2 ≤ 1099511627776
def Fit (n : Int) (l : List Tri) : Prop := ∀ a ∈ l, fit n a
theorem Fit.nil (n : Int) : Fit n [] := fun a h => by cases h
theorem Fit.snoc {n : Int} {l : List Tri} {a : Tri} (h : Fit n l) (ha : fit n a) : Fit n (l ++ [a]) := fun x hx => by
  rcases List.mem_append.1 hx with h1 | h1
  · exact h x h1
  · simp only [List.mem_singleton] at h1
    subst h1
    exact ha
/-- a receiver's numbers -/
def rfit (x : Tri) : Prop := 0 ≤ x.1 ∧ x.1 ≤ 1099511627776 ∧ -1 ≤ x.2.1 ∧ x.2.1 ≤ 7 ∧ -1 ≤ x.2.2 ∧ x.2.2 ≤ 7
theorem lat_fit {j lv : Int} {x : Tri} (h : rfit x) (now : Int) : -1 ≤ lat j lv x now ∧ lat j lv x now ≤ 7 := by
  obtain ⟨_, _, h1, h2, h3, h4⟩ := h
  unfold lat
  split <;> omega
theorem ask1_fit {j lv n : Int} {x a : Tri} (h : rfit x) (ha : fit n a) : rfit (ask1 j lv x a) := by
  obtain ⟨b1, b2, b3, b4, b5, b6⟩ := ha
  obtain ⟨l1, l2⟩ := lat_fit (j := j) (lv := lv) h a.2.2
  exact ⟨b5, b6, l1, l2, b3, b4⟩
theorem st1_fit {j lv n r : Int} {x a : Tri} (h : rfit x) (ha : fit n a) : rfit (st1 j lv r x a) := by
  unfold st1
  split
  · exact ask1_fit h ha
  · exact h
theorem foldl_fit {j lv n r : Int} : ∀ (l : List Tri) (s : Tri), rfit s → Fit n l → rfit (l.foldl (st1 j lv r) s)
  | [], s, h, _ => h
  | a :: l, s, h, hl => foldl_fit l _ (st1_fit h (hl a (List.mem_cons_self ..))) (fun x hx => hl x (List.mem_cons_of_mem _ hx))
theorem st_fit {j lv n : Int} {l : List Tri} (h : Fit n l) (r : Int) : rfit (st j lv l r) := foldl_fit l _ ⟨by decide, by decide, by decide, by decide, by decide, by decide⟩ h
theorem Fit.take {n : Int} {l : List Tri} (h : Fit n l) (k : Nat) : Fit n (l.take k) := fun a ha => h a (List.mem_of_mem_take ha)
theorem lat_late {j lv : Int} {x : Tri} {t : Int} (hj : j ≤ 64) (hl : lv ≤ 64) (h : x.1 + 64 ≤ t) : lat j lv x t = x.2.2 := by
  unfold lat cm
  split <;> split <;> omega

/-- when and for what a receiver asked last does not depend on the delays -/
theorem st_last (j lv j' lv' : Int) (l : List Tri) (r : Int) : (st j lv l r).1 = (st j' lv' l r).1 ∧ (st j lv l r).2.2 = (st j' lv' l r).2.2 := by
  have key : ∀ (l : List Tri) (s s' : Tri), s.1 = s'.1 → s.2.2 = s'.2.2 → (l.foldl (st1 j lv r) s).1 = (l.foldl (st1 j' lv' r) s').1 ∧ (l.foldl (st1 j lv r) s).2.2 = (l.foldl (st1 j' lv' r) s').2.2 := by
    intro l
    induction l with
    | nil => exact fun s s' h1 h2 => ⟨h1, h2⟩
    | cons a l ih =>
      intro s s' h1 h2
      simp only [List.foldl_cons]
      refine ih _ _ ?_ ?_ <;> unfold st1 <;> split <;> first | rfl | assumption
  exact key l _ _ rfl rfl

/-- the document's three numbers (the level, the next one, from when on), of a receiver -/
def Doc (j lv : Int) (x : Tri) (level next due : Int) : Prop := level = x.2.1 ∧ next = x.2.2 ∧ (due = cm j lv x ∨ x.2.1 = x.2.2)
theorem Doc.at {j lv : Int} {x : Tri} {level next due : Int} (h : Doc j lv x level next due) (now : Int) : (if due ≤ now then next else level) = lat j lv x now := by
  obtain ⟨rfl, rfl, h⟩ := h
  unfold lat
  rcases h with rfl | h
  · by_cases c : cm j lv x ≤ now
    · rw [if_pos c, if_neg (by omega)]
    · rw [if_neg c, if_pos (by omega)]
  · rw [h]; simp
theorem Doc.start (j lv r : Int) : Doc j lv (0, -1, -1) (-1) (-1) 0 := ⟨rfl, rfl, .inr rfl⟩
theorem Doc.ask {j lv : Int} {x : Tri} {level next due : Int} (h : Doc j lv x level next due) (a : Tri) : Doc j lv (ask1 j lv x a) (if due ≤ a.2.2 then next else level) a.2.1 (if (if due ≤ a.2.2 then next else level) < a.2.1 then a.2.2 + j else a.2.2 + lv) := by
  rw [h.at]
  exact ⟨rfl, rfl, .inl rfl⟩

/-- the error that the document says -/
abbrev badAsk (n : Int) (a : Tri) : Prop := a.1 < 0 ∨ n ≤ a.1 ∨ a.2.1 < -1 ∨ 7 < a.2.1 ∨ a.2.2 < 0 ∨ 1099511627776 < a.2.2
theorem fit_of_not_bad {n : Int} {a : Tri} (h : ¬ badAsk n a) : fit n a := by
  unfold badAsk at h
  unfold fit
  omega
def wrg (j lv n : Int) (l : List Tri) (a : Tri) : Int := if badAsk n a then 11 else if a.2.2 < (st j lv l a.1).1 then 23 else 0
/-- what was asked, behind one more asking -/
def aft (j lv n : Int) (l : List Tri) (a : Tri) : List Tri := if wrg j lv n l a = 0 then l ++ [a] else l
theorem aft_fit {j lv n : Int} {l : List Tri} {a : Tri} (h : Fit n l) : Fit n (aft j lv n l a) := by
  unfold aft
  split
  · rename_i e
    refine h.snoc (fit_of_not_bad fun hb => ?_)
    unfold wrg at e
    rw [if_pos hb] at e
    cases e
  · exact h
theorem aft_length (j lv n : Int) (l : List Tri) (a : Tri) : (aft j lv n l a).length ≤ l.length + 1 := by
  unfold aft
  split <;> simp

/-- all receivers -/
def rcs (j lv : Int) (l : List Tri) (n : Nat) : List Tri := (List.range n).map fun i : Nat => st j lv l (i : Int)
theorem rcs_length (j lv : Int) (l : List Tri) (n : Nat) : (rcs j lv l n).length = n := by simp [rcs]
theorem rcs_at (j lv : Int) (l : List Tri) (n i : Nat) (h : i < n) : (rcs j lv l n)[i]? = some (st j lv l (i : Int)) := by simp [rcs, h]
theorem rcs_ask (j lv : Int) (l : List Tri) (n i : Nat) (a : Tri) (h : a.1 = (i : Int)) (hi : i < n) : (rcs j lv l n).set i (ask1 j lv (st j lv l (i : Int)) a) = rcs j lv (l ++ [a]) n := by
  apply List.ext_getElem?
  intro k
  rw [List.getElem?_set]
  by_cases hk : k < n
  · rw [rcs_at _ _ _ _ _ hk, rcs_at _ _ _ _ _ hk, st_snoc, rcs_length]
    unfold st1
    by_cases e : i = k
    · subst e
      rw [if_pos rfl, if_pos hi, if_pos h]
    · rw [if_neg e, if_neg (by rw [h]; omega)]
  · have h1 : (rcs j lv l n)[k]? = none := by rw [List.getElem?_eq_none]; rw [rcs_length]; omega
    have h2 : (rcs j lv (l ++ [a]) n)[k]? = none := by rw [List.getElem?_eq_none]; rw [rcs_length]; omega
    rw [h1, h2, rcs_length, if_neg (by omega)]
theorem rcs_start (j lv : Int) (n : Nat) : rcs j lv [] n = List.replicate n (0, -1, -1) := by
  unfold rcs
  simp only [st_nil]
  rw [List.map_const', List.length_range]

/-- who of the first k gets a layer -/
def mem (j lv : Int) (l : List Tri) (layer now : Int) (k : Nat) : List Int := ((List.range k).filter fun i : Nat => decide (layer ≤ lat j lv (st j lv l (i : Int)) now)).map fun i : Nat => (i : Int)
theorem mem_succ (j lv : Int) (l : List Tri) (layer now : Int) (k : Nat) : mem j lv l layer now (k + 1) = mem j lv l layer now k ++ if layer ≤ lat j lv (st j lv l (k : Int)) now then [(k : Int)] else [] := by
  unfold mem
  rw [List.range_succ, List.filter_append, List.map_append]
  congr 1
  by_cases h : layer ≤ lat j lv (st j lv l (k : Int)) now <;> simp [h]
theorem mem_length_le (j lv : Int) (l : List Tri) (layer now : Int) (k : Nat) : (mem j lv l layer now k).length ≤ k := by
  unfold mem
  rw [List.length_map]
  exact Nat.le_trans (List.length_filter_le ..) (by simp)
theorem mem_more (j lv : Int) (l : List Tri) (layer layer' now : Int) (h : layer' ≤ layer) : ∀ k, (mem j lv l layer now k).length ≤ (mem j lv l layer' now k).length
  | 0 => Nat.le_refl _
  | k + 1 => by
    have ih := mem_more j lv l layer layer' now h k
    rw [mem_succ, mem_succ, List.length_append, List.length_append]
    by_cases h1 : layer ≤ lat j lv (st j lv l (k : Int)) now
    · rw [if_pos h1, if_pos (by omega)]; simp; omega
    · rw [if_neg h1]; simp; omega
theorem mem_at {j lv : Int} {l : List Tri} {layer now : Int} {n : Nat} : ∀ (k : Nat), k < n → layer ≤ lat j lv (st j lv l (k : Int)) now → (mem j lv l layer now n)[(mem j lv l layer now k).length]? = some (k : Int) ∧ (mem j lv l layer now k).length < (mem j lv l layer now n).length := by
  intro k hk h
  obtain ⟨d, rfl⟩ : ∃ d, n = k + 1 + d := ⟨n - (k + 1), by omega⟩
  have key : ∀ d, ∃ r, mem j lv l layer now (k + 1 + d) = mem j lv l layer now k ++ (k : Int) :: r := by
    intro d
    induction d with
    | zero => exact ⟨[], by rw [Nat.add_zero, mem_succ, if_pos h]⟩
    | succ d ih =>
      obtain ⟨r, hr⟩ := ih
      rw [← Nat.add_assoc, mem_succ, hr]
      exact ⟨_, by rw [List.append_assoc, List.cons_append]⟩
  obtain ⟨r, hr⟩ := key d
  rw [hr]
  exact ⟨by simp, by simp⟩
theorem mem_start (j lv : Int) (layer now : Int) (h : 0 ≤ layer) (k : Nat) : mem j lv [] layer now k = [] := by
  unfold mem
  rw [List.filter_eq_nil_iff.2 (fun i _ => ?_)]
  · rfl
  · have e : lat j lv (st j lv [] (i : Int)) now = -1 := by rw [st_nil]; unfold lat; split <;> rfl
    rw [decide_eq_true_eq, e]
    omega

/-- the latest tick at which one of the first k asked last, and so much later, or later alone -/
def top (l : List Tri) (later : Int) : Nat → Int
  | 0 => later
  | k + 1 => max (top l later k) ((st 0 0 l (k : Int)).1 + later)
theorem top_room {n : Int} {l : List Tri} (h : Fit n l) {later : Int} (h0 : 0 ≤ later) (h1 : later ≤ 1000) : ∀ k, 0 ≤ top l later k ∧ top l later k ≤ 1099511628776
  | 0 => ⟨h0, by unfold top; omega⟩
  | k + 1 => by
    have ih := top_room h h0 h1 k
    obtain ⟨s1, s2, _⟩ := st_fit (j := 0) (lv := 0) h (k : Int)
    unfold top
    omega
end Go.Proofs.Ytjmgigfaiaemeaa.Grp

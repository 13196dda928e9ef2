/-
  Plain arithmetic of numbers as lists of digits, base 65536, the lowest first: no program in sight.
-/
import Derived.Lib.BitFns
namespace Go.Proofs.YtcjohgfmdnimjaaDoor.Dig
set_option linter.unusedVariables false

def val : List Int → Int
  | [] => 0
  | d :: l => d + 65536 * val l

/-- each digit is one -/
def Ok (l : List Int) : Prop := ∀ k, k < l.length → 0 ≤ l.getD k 0 ∧ l.getD k 0 < 65536
/-- .. and the last one is not nought -/
def Canon (l : List Int) : Prop := Ok l ∧ (0 < l.length → l.getD (l.length - 1) 0 ≠ 0)

theorem pow_pos' (n : Nat) : (0:Int) < 65536 ^ n := Int.pow_pos (by decide)

theorem ok_nil : Ok [] := fun k h => by simp at h
theorem ok_cons {d : Int} {l : List Int} (h : Ok (d :: l)) : (0 ≤ d ∧ d < 65536) ∧ Ok l :=
  ⟨by simpa using h 0 (by simp), fun k hk => by simpa using h (k + 1) (by simpa using hk)⟩
theorem ok_snoc {l : List Int} {d : Int} (h : Ok l) (h0 : 0 ≤ d) (h1 : d < 65536) : Ok (l ++ [d]) := by
  intro k hk
  by_cases c : k < l.length
  · have := h k c
    simpa [List.getD_eq_getElem?_getD, List.getElem?_append_left c] using this
  · have : k = l.length := by simp at hk; omega
    subst this
    simp [List.getD_eq_getElem?_getD]; exact ⟨h0, h1⟩
theorem ok_take {l : List Int} (h : Ok l) (n : Nat) : Ok (l.take n) := by
  intro k hk
  rw [List.length_take] at hk
  have h1 : k < n := by omega
  have := h k (by omega)
  simpa [List.getD_eq_getElem?_getD, List.getElem?_take, h1] using this
theorem ok_set {l : List Int} {d : Int} (h : Ok l) (j : Nat) (h0 : 0 ≤ d) (h1 : d < 65536) : Ok (l.set j d) := by
  intro k hk
  simp at hk
  by_cases c : j = k
  · subst c; simp [List.getD_eq_getElem?_getD, hk]; exact ⟨h0, h1⟩
  · have := h k hk
    simpa [List.getD_eq_getElem?_getD, List.getElem?_set_ne c] using this

theorem val_bounds : ∀ {l : List Int}, Ok l → 0 ≤ val l ∧ val l < 65536 ^ l.length
  | [], _ => by simp [val]
  | d :: l, h => by
    obtain ⟨⟨a, b⟩, c⟩ := ok_cons h
    have := val_bounds c
    simp only [val, List.length_cons, Int.pow_succ]
    omega

theorem val_append : ∀ (l m : List Int), val (l ++ m) = val l + 65536 ^ l.length * val m
  | [], m => by simp [val]
  | d :: l, m => by
    simp only [val, List.cons_append, val_append l m, List.length_cons, Int.pow_succ]
    rw [Int.mul_add, Int.mul_comm (65536 ^ l.length) 65536, Int.mul_assoc]; omega

theorem val_snoc (l : List Int) (d : Int) : val (l ++ [d]) = val l + 65536 ^ l.length * d := by
  rw [val_append]; simp [val]

theorem val_split (l : List Int) (k : Nat) (h : k ≤ l.length) : val l = val (l.take k) + 65536 ^ k * val (l.drop k) := by
  conv => lhs; rw [← List.take_append_drop k l]
  rw [val_append, List.length_take, Nat.min_eq_left h]

theorem take_succ' (l : List Int) (k : Nat) (h : k < l.length) : l.take (k + 1) = l.take k ++ [l.getD k 0] := by
  rw [List.take_succ_eq_append_getElem h]; simp [List.getD_eq_getElem?_getD, h]

theorem val_take_succ (l : List Int) (k : Nat) (h : k < l.length) : val (l.take (k + 1)) = val (l.take k) + 65536 ^ k * l.getD k 0 := by
  rw [take_succ' l k h, val_snoc, List.length_take, Nat.min_eq_left (by omega)]

theorem drop_cons (l : List Int) (k : Nat) (h : k < l.length) : l.drop k = l.getD k 0 :: l.drop (k + 1) := by
  rw [List.drop_eq_getElem_cons h]; simp [List.getD_eq_getElem?_getD, h]

/-- one place of a list changed -/
theorem val_set (l : List Int) (j : Nat) (d : Int) (h : j < l.length) : val (l.set j d) = val l + 65536 ^ j * (d - l.getD j 0) := by
  have e1 : l.set j d = l.take j ++ d :: l.drop (j + 1) := by rw [List.set_eq_take_append_cons_drop, if_pos h]
  rw [e1, val_append, val_split l j (by omega), drop_cons l j h, List.length_take, Nat.min_eq_left (by omega)]
  simp only [val]
  rw [Int.mul_add, Int.mul_add, Int.mul_sub]; omega

/-- a canonical number is at least as great as its place -/
theorem canon_ge {l : List Int} (h : Canon l) (h0 : 0 < l.length) : 65536 ^ (l.length - 1) ≤ val l := by
  obtain ⟨a, b⟩ := h
  have b := b h0
  have c := a (l.length - 1) (by omega)
  have e := val_take_succ l (l.length - 1) (by omega)
  rw [show l.length - 1 + 1 = l.length by omega, List.take_length] at e
  have f := (val_bounds (ok_take a (l.length - 1))).1
  have p := pow_pos' (l.length - 1)
  have := Int.mul_le_mul_of_nonneg_left (show 1 ≤ l.getD (l.length - 1) 0 by omega) (show (0:Int) ≤ 65536 ^ (l.length - 1) by omega)
  omega

theorem longer {a b : List Int} (ha : Ok a) (hb : Canon b) (h : a.length < b.length) : val a < val b := by
  have h1 := (val_bounds ha).2
  have h2 := canon_ge hb (by omega)
  have h3 : (65536:Int) ^ a.length ≤ 65536 ^ (b.length - 1) := by
    have := Nat.pow_le_pow_right (show 0 < 65536 by decide) (show a.length ≤ b.length - 1 by omega)
    have e (n : Nat) : ((65536 ^ n : Nat) : Int) = 65536 ^ n := Int.natCast_pow 65536 n
    have := e a.length; have := e (b.length - 1); omega
  omega

/-- the highest digit that differs decides -/
theorem higher {a b : List Int} {i : Nat} (ha : Ok a) (hb : Ok b) (h1 : i < a.length) (h2 : i < b.length) (hd : a.drop (i + 1) = b.drop (i + 1)) (h : a.getD i 0 < b.getD i 0) : val a < val b := by
  rw [val_split a (i + 1) (by omega), val_split b (i + 1) (by omega), hd, val_take_succ a i h1, val_take_succ b i h2]
  have x := (val_bounds (ok_take ha i)).2
  have y := (val_bounds (ok_take hb i)).1
  rw [List.length_take, Nat.min_eq_left (by omega)] at x
  have p := pow_pos' i
  have := Int.mul_le_mul_of_nonneg_left (show a.getD i 0 + 1 ≤ b.getD i 0 by omega) (show (0:Int) ≤ 65536 ^ i by omega)
  rw [Int.mul_add] at this
  omega

theorem drop_down {a b : List Int} {i : Nat} (h1 : i < a.length) (h2 : i < b.length) (hd : a.drop (i + 1) = b.drop (i + 1)) (h : a.getD i 0 = b.getD i 0) : a.drop i = b.drop i := by
  rw [drop_cons a i h1, drop_cons b i h2, hd, h]

/-! ### digits of a number of one word -/
/-- what is true at the head of the loop: out has been told of N, n is left -/
def Telling (N n : Int) (out : List Int) : Prop :=
  Ok out ∧ val out + 65536 ^ out.length * n = N ∧ 0 ≤ n ∧ out.length ≤ 4 ∧ n < 65536 ^ (4 - out.length) ∧ (n = 0 → Canon out)

theorem telling_start (N : Int) (h0 : 0 ≤ N) (h1 : N < 18446744073709551616) : Telling N N [] :=
  ⟨ok_nil, by simp [val], h0, by simp, by simpa using h1, fun _ => ⟨ok_nil, fun h => by simp at h⟩⟩

theorem telling_step (N n : Int) (out : List Int) (h : Telling N n out) (hn : 0 < n) : out.length ≤ 3 ∧ Telling N (n / 65536) (out ++ [n % 65536]) := by
  obtain ⟨a, b, c, d, e, f⟩ := h
  have hl : out.length ≤ 3 := by
    rcases Nat.lt_or_ge 3 out.length with x | x
    · have : 4 - out.length = 0 := by omega
      rw [this] at e; simp at e; omega
    · exact x
  refine ⟨hl, ok_snoc a (by omega) (by omega), ?_, by omega, by simp; omega, ?_, ?_⟩
  · rw [val_snoc, List.length_append, List.length_singleton, Int.pow_succ, Int.mul_assoc, Int.add_assoc, ← Int.mul_add, ← b]
    congr 2; omega
  · rw [List.length_append, List.length_singleton]
    rw [show 4 - out.length = 4 - (out.length + 1) + 1 by omega, Int.pow_succ] at e
    exact Int.ediv_lt_of_lt_mul (by decide) e
  · intro h
    refine ⟨ok_snoc a (by omega) (by omega), fun _ => ?_⟩
    simp [List.getD_eq_getElem?_getD]; omega

theorem telling_end (N n : Int) (out : List Int) (h : Telling N n out) (hn : ¬ 0 < n) : Canon out ∧ val out = N ∧ out.length ≤ 4 := by
  obtain ⟨a, b, c, d, e, f⟩ := h
  have : n = 0 := by omega
  subst this
  exact ⟨f rfl, by simpa using b, d⟩

/-! ### a sum -/
/-- a digit of a, or nought -/
def at_ (l : List Int) (k : Nat) : Int := l.getD k 0

theorem val_take_any (l : List Int) (k : Nat) : val (l.take (k + 1)) = val (l.take k) + 65536 ^ k * l.getD k 0 := by
  by_cases h : k < l.length
  · exact val_take_succ l k h
  · rw [List.take_of_length_le (by omega), List.take_of_length_le (by omega)]
    simp [List.getD_eq_getElem?_getD, List.getElem?_eq_none (show l.length ≤ k by omega)]

def Adding (a b : List Int) (k : Nat) (carry : Int) (out : List Int) : Prop :=
  Ok out ∧ out.length = k ∧ 0 ≤ carry ∧ carry ≤ 1 ∧ val out + 65536 ^ k * carry = val (a.take k) + val (b.take k) ∧ k ≤ max a.length b.length + 1 ∧ (0 < carry → k ≤ max a.length b.length)

theorem adding_start (a b : List Int) : Adding a b 0 0 [] := ⟨ok_nil, rfl, by omega, by omega, by simp [val], by omega, by omega⟩

theorem getD_ok {l : List Int} (h : Ok l) (k : Nat) : 0 ≤ l.getD k 0 ∧ l.getD k 0 < 65536 := by
  by_cases c : k < l.length
  · exact h k c
  · simp [List.getD_eq_getElem?_getD, List.getElem?_eq_none (show l.length ≤ k by omega)]

theorem getD_out {l : List Int} {k : Nat} (h : ¬ k < l.length) : l.getD k 0 = 0 := by
  simp [List.getD_eq_getElem?_getD, List.getElem?_eq_none (show l.length ≤ k by omega)]

theorem adding_step (a b : List Int) (k : Nat) (carry : Int) (out : List Int) (ha : Ok a) (hb : Ok b) (h : Adding a b k carry out) (ht : k < a.length ∨ k < b.length ∨ 0 < carry) :
    Adding a b (k + 1) ((carry + a.getD k 0 + b.getD k 0) / 65536) (out ++ [(carry + a.getD k 0 + b.getD k 0) % 65536]) := by
  obtain ⟨h1, h2, h3, h4, h5, h6, h7⟩ := h
  have x := getD_ok ha k
  have y := getD_ok hb k
  refine ⟨ok_snoc h1 (by omega) (by omega), by simp [h2], by omega, by omega, ?_, by omega, ?_⟩
  · rw [val_snoc, h2, val_take_any a, val_take_any b, Int.pow_succ, Int.mul_assoc, Int.add_assoc, ← Int.mul_add]
    have e : (carry + a.getD k 0 + b.getD k 0) % 65536 + 65536 * ((carry + a.getD k 0 + b.getD k 0) / 65536) = carry + a.getD k 0 + b.getD k 0 := by omega
    rw [e, Int.mul_add, Int.mul_add]; omega
  · intro hc
    by_cases c1 : k < a.length
    · omega
    · by_cases c2 : k < b.length
      · omega
      · rw [getD_out c1, getD_out c2] at hc; omega

theorem adding_end (a b : List Int) (k : Nat) (carry : Int) (out : List Int) (h : Adding a b k carry out) (ht : ¬ (k < a.length ∨ k < b.length ∨ 0 < carry)) :
    Ok out ∧ val out = val a + val b ∧ out.length ≤ max a.length b.length + 1 := by
  obtain ⟨h1, h2, h3, h4, h5, h6, h7⟩ := h
  have : carry = 0 := by omega
  subst this
  rw [List.take_of_length_le (by omega), List.take_of_length_le (by omega)] at h5
  exact ⟨h1, by simpa using h5, by omega⟩

/-! ### without noughts at the end -/
theorem trim_start (l : List Int) : val (l.take l.length) = val l := by rw [List.take_length]
theorem trim_step (l : List Int) (n : Nat) (hn : n + 1 ≤ l.length) (h : val (l.take (n + 1)) = val l) (h0 : l.getD n 0 = 0) : val (l.take n) = val l := by
  rw [val_take_succ l n (by omega), h0] at h; simpa using h
theorem trim_end (l : List Int) (n : Nat) (hn : n ≤ l.length) (hl : Ok l) (h : 0 < n → l.getD (n - 1) 0 ≠ 0) : Canon (l.take n) := by
  refine ⟨ok_take hl n, fun h0 => ?_⟩
  have e : (l.take n).length = n := by simp; omega
  rw [e] at h0 ⊢
  have := h h0
  simpa [List.getD_eq_getElem?_getD, List.getElem?_take, show n - 1 < n by omega] using this

/-! ### a product, digit by digit -/
/-- behind i digits of a -/
def Outer (a b : List Int) (i : Nat) (out : List Int) : Prop :=
  Ok out ∧ out.length = a.length + b.length + 1 ∧ val out = val (a.take i) * val b ∧ ∀ j, i + b.length ≤ j → out.getD j 0 = 0

/-- .. and k digits of b -/
def Inner (a b : List Int) (i k : Nat) (carry : Int) (out : List Int) : Prop :=
  Ok out ∧ out.length = a.length + b.length + 1 ∧ 0 ≤ carry ∧ carry < 65536 ∧
  val out + 65536 ^ (i + k) * carry = val (a.take i) * val b + 65536 ^ i * (a.getD i 0 * val (b.take k)) ∧
  k ≤ b.length + 1 ∧ (0 < carry → k ≤ b.length) ∧ ∀ j, i + max k b.length ≤ j → out.getD j 0 = 0

theorem val_zeros : ∀ n : Nat, val (List.replicate n 0) = 0
  | 0 => rfl
  | n + 1 => by simp [List.replicate_succ, val, val_zeros n]

theorem getD_zeros (n j : Nat) : (List.replicate n (0:Int)).getD j 0 = 0 := by
  simp [List.getD_eq_getElem?_getD, List.getElem?_replicate]; split <;> simp

theorem outer_start (a b : List Int) : Outer a b 0 (List.replicate (a.length + b.length + 1) 0) :=
  ⟨fun k _ => by rw [getD_zeros]; omega, by simp, by rw [val_zeros]; simp [val], fun j _ => getD_zeros _ j⟩

theorem inner_start (a b : List Int) (i : Nat) (out : List Int) (h : Outer a b i out) : Inner a b i 0 0 out := by
  obtain ⟨h1, h2, h3, h4⟩ := h
  exact ⟨h1, h2, by omega, by omega, by simp [h3, val], by omega, by omega, fun j hj => h4 j (by omega)⟩

theorem getD_set_ne (l : List Int) (i j : Nat) (d : Int) (h : i ≠ j) : (l.set i d).getD j 0 = l.getD j 0 := by
  simp [List.getD_eq_getElem?_getD, List.getElem?_set_ne h]

theorem digit_mul (x y : Int) (hx : 0 ≤ x) (hx' : x < 65536) (hy : 0 ≤ y) (hy' : y < 65536) : 0 ≤ x * y ∧ x * y ≤ 4294836225 :=
  ⟨Int.mul_nonneg hx hy, Int.mul_le_mul (show x ≤ 65535 by omega) (show y ≤ 65535 by omega) hy (by omega)⟩

theorem inner_step (a b : List Int) (i k : Nat) (carry n : Int) (out : List Int) (ha : Ok a) (hb : Ok b) (h : Inner a b i k carry out) (hi : i < a.length) (hk : k < b.length)
    (hn : n = out.getD (i + k) 0 + carry + a.getD i 0 * b.getD k 0) : Inner a b i (k + 1) (n / 65536) (out.set (i + k) (n % 65536)) := by
  obtain ⟨h1, h2, h3, h4, h5, h6, h7, h8⟩ := h
  have x := getD_ok ha i
  have y := getD_ok hb k
  have z := getD_ok h1 (i + k)
  have m := digit_mul _ _ x.1 x.2 y.1 y.2
  refine ⟨ok_set h1 _ (by omega) (by omega), by simpa using h2, by omega, by omega, ?_, by omega, by omega, ?_⟩
  · rw [val_set _ _ _ (by omega), val_take_succ b k hk]
    have e : n % 65536 - out.getD (i + k) 0 + 65536 * (n / 65536) = carry + a.getD i 0 * b.getD k 0 := by omega
    have e1 : (65536:Int) ^ (i + (k + 1)) = 65536 ^ (i + k) * 65536 := Int.pow_succ ..
    rw [e1, Int.mul_assoc, Int.add_assoc, ← Int.mul_add, e, Int.mul_add, ← Int.add_assoc, h5, Int.mul_add (a.getD i 0), Int.mul_add (65536 ^ i), Int.pow_add]
    have e2 : (65536:Int) ^ i * (a.getD i 0 * (65536 ^ k * b.getD k 0)) = 65536 ^ i * 65536 ^ k * (a.getD i 0 * b.getD k 0) := by
      rw [Int.mul_left_comm (a.getD i 0), Int.mul_assoc]
    rw [e2]; omega
  · intro j hj
    rw [getD_set_ne _ _ _ _ (by omega)]
    exact h8 j (by omega)

theorem inner_carry (a b : List Int) (i k : Nat) (carry n : Int) (out : List Int) (h : Inner a b i k carry out) (hi : i < a.length) (hk : ¬ k < b.length) (hc : 0 < carry)
    (hn : n = out.getD (i + k) 0 + carry) : k = b.length ∧ n = carry ∧ Inner a b i (k + 1) (n / 65536) (out.set (i + k) (n % 65536)) := by
  obtain ⟨h1, h2, h3, h4, h5, h6, h7, h8⟩ := h
  have e0 : k = b.length := by have := h7 hc; omega
  have z := h8 (i + k) (by omega)
  have en : n = carry := by omega
  refine ⟨e0, en, ok_set h1 _ (by omega) (by omega), by simpa using h2, by omega, by omega, ?_, by omega, by omega, ?_⟩
  · rw [val_set _ _ _ (by omega), z, show n / 65536 = 0 by omega, show n % 65536 - 0 = carry by omega]
    rw [List.take_of_length_le (show b.length ≤ k by omega)] at h5
    rw [List.take_of_length_le (show b.length ≤ k + 1 by omega), Int.mul_zero]
    omega
  · intro j hj
    rw [getD_set_ne _ _ _ _ (by omega)]
    exact h8 j (by omega)

theorem inner_end (a b : List Int) (i k : Nat) (carry : Int) (out : List Int) (h : Inner a b i k carry out) (hi : i < a.length) (hk : ¬ k < b.length) (hc : ¬ 0 < carry) :
    Outer a b (i + 1) out := by
  obtain ⟨h1, h2, h3, h4, h5, h6, h7, h8⟩ := h
  have e : carry = 0 := by omega
  refine ⟨h1, h2, ?_, fun j hj => h8 j (by omega)⟩
  rw [e, List.take_of_length_le (show b.length ≤ k by omega)] at h5
  rw [val_take_succ a i hi, Int.add_mul, Int.mul_assoc, ← h5]; simp

theorem outer_end (a b : List Int) (out : List Int) (h : Outer a b a.length out) : Ok out ∧ val out = val a * val b ∧ out.length = a.length + b.length + 1 := by
  obtain ⟨h1, h2, h3, h4⟩ := h
  rw [List.take_length] at h3
  exact ⟨h1, h3, h2⟩

end Go.Proofs.YtcjohgfmdnimjaaDoor.Dig

/-
  Packets as plain data: which are right, their bytes, what bytes say; that the two lead back to one another. No program.
-/
import Derived.Test.YtlnjkjpllmfcaaaCrcMath
namespace Go.Proofs.Ytlnjkjpllmfcaaa
set_option linter.unusedVariables false

/-- a packet: its numbers by their places (0 Kind, 1 From, 2 Layer, 3 Seq, 4 Block, 5 Tick, 6 Echo, 7 Level, 8 N, 9 Rate), its Rates, Ranges, Data -/
abbrev Pk : Type := (Nat → Int) × List UInt64 × List (Int × Int) × List UInt8
/-- the packet that has nothing -/
def pnone : Pk := (fun _ => 0, [], [], [])
/-- another number at a place -/
def setn (p : Pk) (i : Nat) (x : Int) : Pk := (fun k => if k = i then x else p.1 k, p.2)
def setA (p : Pk) (l : List UInt64) : Pk := (p.1, l, p.2.2)
def setG (p : Pk) (l : List (Int × Int)) : Pk := (p.1, p.2.1, l, p.2.2.2)
def setD (p : Pk) (l : List UInt8) : Pk := (p.1, p.2.1, p.2.2.1, l)
/-- are two packets one? -/
def same (p q : Pk) : Prop := (p.1 0 = q.1 0 ∧ p.1 1 = q.1 1 ∧ p.1 2 = q.1 2 ∧ p.1 3 = q.1 3 ∧ p.1 4 = q.1 4 ∧ p.1 5 = q.1 5 ∧ p.1 6 = q.1 6 ∧ p.1 7 = q.1 7 ∧ p.1 8 = q.1 8 ∧ p.1 9 = q.1 9) ∧ p.2.1 = q.2.1 ∧ p.2.2.1 = q.2.2.1 ∧ p.2.2.2 = q.2.2.2

/-- the lowest n bytes of a number, the lowest one first -/
def le : Nat → Nat → List UInt8
  | 0, _ => []
  | n + 1, x => UInt8.ofNat x :: le n (x / 256)
/-- the number of bytes -/
def ofle : List UInt8 → Nat
  | [] => 0
  | b :: t => b.toNat + 256 * ofle t
/-- a whole number of 64 bits as one from 0 on, and back -/
def u64 (x : Int) : Nat := (x % 18446744073709551616).toNat
def i64 (n : Nat) : Int := if n < 9223372036854775808 then (n : Int) else (n : Int) - 18446744073709551616

/-- a Kind's fields: F 70 From, L 76 Layer, S 83 Seq, B 66 Block, T 84 Tick, E 69 Echo, V 86 Level, N 78, R 82 Rate, A 65 Rates, G 71 Ranges, D 68 Data -/
def kfields : Nat → List Nat
  | 1 => [76, 83, 66, 84, 68]
  | 2 => [83, 66, 84, 68]
  | 3 => [76, 83, 84, 82, 65, 70]
  | 4 => [70, 86, 84, 69, 82, 78]
  | 5 => [70, 71]
  | 6 => [78, 76, 86, 84]
  | 7 => [78, 84]
  | _ => []
def codes : List Nat := [70, 76, 83, 66, 84, 69, 86, 78, 82, 65, 71, 68]

/-- do ranges rise? -/
def apart : Int → List (Int × Int) → Bool
  | _, [] => true
  | a, g :: l => decide (a < g.1) && (decide (g.1 < g.2) && (decide (g.2 ≤ 16384) && apart g.2 l))
def upto (x top : Int) : Bool := decide (0 ≤ x ∧ x ≤ top)
def oneto (n top : Nat) : Bool := decide (1 ≤ n ∧ n ≤ top)

/-- is a field within its bounds? -/
def fits : Nat → Pk → Bool
  | 70, p => upto (p.1 1) 63
  | 76, p => upto (p.1 2) 7
  | 66, p => upto (p.1 4) 16383
  | 84, p => upto (p.1 5) 1099511627776
  | 69, p => upto (p.1 6) 1099511627776
  | 86, p => upto (p.1 7) 7
  | 78, p => upto (p.1 8) 16384
  | 65, p => oneto p.2.1.length 8
  | 71, p => oneto p.2.2.1.length 16 && apart (-1) p.2.2.1
  | 68, p => oneto p.2.2.2.length 64
  | _, _ => true
/-- is there nothing in it? -/
def blank : Nat → Pk → Bool
  | 70, p => decide (p.1 1 = 0)
  | 76, p => decide (p.1 2 = 0)
  | 83, p => decide (p.1 3 = 0)
  | 66, p => decide (p.1 4 = 0)
  | 84, p => decide (p.1 5 = 0)
  | 69, p => decide (p.1 6 = 0)
  | 86, p => decide (p.1 7 = 0)
  | 78, p => decide (p.1 8 = 0)
  | 82, p => decide (p.1 9 = 0)
  | 65, p => decide (p.2.1 = [])
  | 71, p => decide (p.2.2.1 = [])
  | 68, p => decide (p.2.2.2 = [])
  | _, _ => true
/-- its bytes -/
def encA (l : List UInt64) : List UInt8 := l.flatMap fun x => le 8 x.toNat
def encG (l : List (Int × Int)) : List UInt8 := l.flatMap fun g => le 8 (u64 g.1) ++ le 8 (u64 g.2)
def enc : Nat → Pk → List UInt8
  | 70, p => le 8 (u64 (p.1 1))
  | 76, p => le 8 (u64 (p.1 2))
  | 83, p => le 4 (p.1 3).toNat
  | 66, p => le 8 (u64 (p.1 4))
  | 84, p => le 8 (u64 (p.1 5))
  | 69, p => le 8 (u64 (p.1 6))
  | 86, p => le 8 (u64 (p.1 7))
  | 78, p => le 8 (u64 (p.1 8))
  | 82, p => le 8 (p.1 9).toNat
  | 65, p => UInt8.ofNat p.2.1.length :: encA p.2.1
  | 71, p => UInt8.ofNat p.2.2.1.length :: encG p.2.2.1
  | 68, p => UInt8.ofNat p.2.2.2.length :: p.2.2.2
  | _, _ => []
/-- taken out of a packet -/
def drop : Nat → Pk → Pk
  | 70, p => setn p 1 0
  | 76, p => setn p 2 0
  | 83, p => setn p 3 0
  | 66, p => setn p 4 0
  | 84, p => setn p 5 0
  | 69, p => setn p 6 0
  | 86, p => setn p 7 0
  | 78, p => setn p 8 0
  | 82, p => setn p 9 0
  | 65, p => setA p []
  | 71, p => setG p []
  | 68, p => setD p []
  | _, p => p
/-- so many rates, ranges, of bytes -/
def unA : Nat → List UInt8 → List UInt64
  | 0, _ => []
  | n + 1, l => UInt64.ofNat (ofle (l.take 8)) :: unA n (l.drop 8)
def unG : Nat → List UInt8 → List (Int × Int)
  | 0, _ => []
  | n + 1, l => (i64 (ofle (l.take 8)), i64 (ofle ((l.drop 8).take 8))) :: unG n (l.drop 16)
/-- a number's field read off bytes -/
def getn (i : Nat) (p : Pk) (l : List UInt8) : Option (Pk × List UInt8) := if l.length < 8 then none else some (setn p i (i64 (ofle (l.take 8))), l.drop 8)
/-- a field read off bytes: the packet with it and what is left; nothing, if they end within it -/
def get : Nat → Pk → List UInt8 → Option (Pk × List UInt8)
  | 70, p, l => getn 1 p l
  | 76, p, l => getn 2 p l
  | 83, p, l => if l.length < 4 then none else some (setn p 3 (ofle (l.take 4) : Int), l.drop 4)
  | 66, p, l => getn 4 p l
  | 84, p, l => getn 5 p l
  | 69, p, l => getn 6 p l
  | 86, p, l => getn 7 p l
  | 78, p, l => getn 8 p l
  | 82, p, l => if l.length < 8 then none else some (setn p 9 (ofle (l.take 8) : Int), l.drop 8)
  | 65, p, l => if l.length < 1 then none else if (l.drop 1).length < 8 * (l.getD 0 0).toNat then none else some (setA p (unA (l.getD 0 0).toNat (l.drop 1)), (l.drop 1).drop (8 * (l.getD 0 0).toNat))
  | 71, p, l => if l.length < 1 then none else if (l.drop 1).length < 16 * (l.getD 0 0).toNat then none else some (setG p (unG (l.getD 0 0).toNat (l.drop 1)), (l.drop 1).drop (16 * (l.getD 0 0).toNat))
  | 68, p, l => if l.length < 1 then none else if (l.drop 1).length < (l.getD 0 0).toNat then none else some (setD p ((l.drop 1).take (l.getD 0 0).toNat), (l.drop 1).drop (l.getD 0 0).toNat)
  | _, p, l => some (p, l)

/-- a used field's bounds; else nothing is in it -/
def okc (c : Nat) (p : Pk) : Bool := if (kfields (p.1 0).toNat).contains c then fits c p else blank c p
/-- is it right? -/
def right (p : Pk) : Bool := decide (1 ≤ p.1 0 ∧ p.1 0 ≤ 7) && codes.all fun c => okc c p
/-- the bytes of a right one, not sealed -/
def text (p : Pk) : List UInt8 := UInt8.ofNat (p.1 0).toNat :: (kfields (p.1 0).toNat).flatMap fun c => enc c p
/-- the fields of bytes, one behind the other: the error and the packet -/
def pars : List Nat → Pk → List UInt8 → Int × Pk
  | [], p, l => if l = [] then (0, p) else (10, pnone)
  | c :: cs, p, l => match get c p l with
    | none => (20, pnone)
    | some (q, t) => if fits c q then pars cs q t else (10, pnone)
/-- the packet of what was sealed -/
def pbody (l : List UInt8) : Int × Pk := if kfields (l.getD 0 0).toNat = [] then (22, pnone) else pars (kfields (l.getD 0 0).toNat) (setn pnone 0 ((l.getD 0 0).toNat : Int)) (l.drop 1)
/-- the packet of bytes -/
def pparse (b : List UInt8) : Int × Pk := if 320 < b.length then (21, pnone) else if copens b then pbody (b.take (b.length - 4)) else (21, pnone)

theorem le_length (n : Nat) : ∀ x, (le n x).length = n := by
  induction n with
  | zero => intro x; rfl
  | succ n ih => intro x; simp [le, ih]
theorem ofle_lt : ∀ l : List UInt8, ofle l < 256 ^ l.length
  | [] => by simp [ofle]
  | b :: t => by
    have := ofle_lt t
    have := byte_room b
    simp only [ofle, List.length_cons, Nat.pow_succ]
    omega
theorem ofle_le (n : Nat) : ∀ x, x < 256 ^ n → ofle (le n x) = x := by
  induction n with
  | zero => intro x h; simp at h; subst h; rfl
  | succ n ih =>
    intro x h
    simp only [le, ofle, UInt8.toNat_ofNat']
    rw [ih (x / 256) (by rw [Nat.pow_succ] at h; omega)]
    omega
theorem le_ofle : ∀ l : List UInt8, le l.length (ofle l) = l
  | [] => rfl
  | b :: t => by
    have hb := byte_room b
    simp only [List.length_cons, le, ofle]
    rw [show (b.toNat + 256 * ofle t) / 256 = ofle t by omega, le_ofle t]
    congr 1
    apply UInt8.toNat_inj.1
    rw [UInt8.toNat_ofNat']
    omega
theorem le_take (n : Nat) (l : List UInt8) (h : n ≤ l.length) : le n (ofle (l.take n)) = l.take n := by
  have := le_ofle (l.take n)
  rwa [List.length_take, Nat.min_eq_left h] at this
theorem ofle_take (n : Nat) (l : List UInt8) (h : n ≤ l.length) : ofle (l.take n) < 256 ^ n := by
  have := ofle_lt (l.take n)
  rwa [List.length_take, Nat.min_eq_left h] at this
theorem u64_lt (x : Int) : u64 x < 18446744073709551616 := by unfold u64; omega
theorem u64_i64 (n : Nat) (h : n < 18446744073709551616) : u64 (i64 n) = n := by unfold u64 i64; split <;> omega
theorem i64_u64 (x : Int) (h1 : -9223372036854775808 ≤ x) (h2 : x < 9223372036854775808) : i64 (u64 x) = x := by unfold u64 i64; split <;> omega
theorem take_le (n x : Nat) (t : List UInt8) : (le n x ++ t).take n = le n x := List.take_left' (le_length n x)
theorem drop_le (n x : Nat) (t : List UInt8) : (le n x ++ t).drop n = t := List.drop_left' (le_length n x)

theorem encA_length (l : List UInt64) : (encA l).length = 8 * l.length := by
  induction l with
  | nil => rfl
  | cons x l ih => simp only [encA, List.flatMap_cons, List.length_append, le_length, List.length_cons] at ih ⊢; omega
theorem encG_length (l : List (Int × Int)) : (encG l).length = 16 * l.length := by
  induction l with
  | nil => rfl
  | cons x l ih => simp only [encG, List.flatMap_cons, List.length_append, le_length, List.length_cons] at ih ⊢; omega
theorem unA_length (n : Nat) : ∀ l, (unA n l).length = n := by
  induction n with
  | zero => intro l; rfl
  | succ n ih => intro l; simp [unA, ih]
theorem unG_length (n : Nat) : ∀ l, (unG n l).length = n := by
  induction n with
  | zero => intro l; rfl
  | succ n ih => intro l; simp [unG, ih]
theorem unA_encA (l : List UInt64) (t : List UInt8) : unA l.length (encA l ++ t) = l := by
  induction l with
  | nil => rfl
  | cons x l ih =>
    simp only [encA, List.flatMap_cons, List.append_assoc, List.length_cons, unA, take_le, drop_le] at ih ⊢
    rw [ih, ofle_le 8 x.toNat x.toNat_lt]
    simp
theorem encA_unA (n : Nat) : ∀ l : List UInt8, 8 * n ≤ l.length → encA (unA n l) = l.take (8 * n) := by
  induction n with
  | zero => intro l h; simp [unA, encA]
  | succ n ih =>
    intro l h
    have h8 : 8 ≤ l.length := by omega
    have hlt := ofle_take 8 l h8
    have := ih (l.drop 8) (by rw [List.length_drop]; omega)
    simp only [encA, unA, List.flatMap_cons] at this ⊢
    rw [this, UInt64.toNat_ofNat', Nat.mod_eq_of_lt hlt, le_take 8 l h8, show 8 * (n + 1) = 8 + 8 * n by omega, List.take_add]
/-- numbers that 64 bits hold -/
def fair (g : Int × Int) : Prop := (-9223372036854775808 ≤ g.1 ∧ g.1 < 9223372036854775808) ∧ (-9223372036854775808 ≤ g.2 ∧ g.2 < 9223372036854775808)
theorem unG_encG (l : List (Int × Int)) (t : List UInt8) (h : ∀ g ∈ l, fair g) : unG l.length (encG l ++ t) = l := by
  induction l with
  | nil => rfl
  | cons x l ih =>
    obtain ⟨⟨a1, a2⟩, b1, b2⟩ := h x (by simp)
    have := ih (fun g hg => h g (by simp [hg]))
    simp only [encG, List.flatMap_cons, List.append_assoc, List.length_cons, unG, take_le, drop_le] at this ⊢
    rw [show (16 : Nat) = 8 + 8 from rfl, ← List.drop_drop, drop_le, drop_le, this, ofle_le 8 _ (u64_lt _), ofle_le 8 _ (u64_lt _), i64_u64 _ a1 a2, i64_u64 _ b1 b2]
theorem encG_unG (n : Nat) : ∀ l : List UInt8, 16 * n ≤ l.length → encG (unG n l) = l.take (16 * n) := by
  induction n with
  | zero => intro l h; simp [unG, encG]
  | succ n ih =>
    intro l h
    have h8 : 8 ≤ l.length := by omega
    have h9 : 8 ≤ (l.drop 8).length := by rw [List.length_drop]; omega
    have := ih (l.drop 16) (by rw [List.length_drop]; omega)
    simp only [encG, unG, List.flatMap_cons] at this ⊢
    rw [this, u64_i64 _ (ofle_take 8 l h8), u64_i64 _ (ofle_take 8 _ h9), le_take 8 l h8, le_take 8 _ h9, show 16 * (n + 1) = 8 + (8 + 16 * n) by omega, List.take_add, List.take_add, List.drop_drop, List.append_assoc]
theorem apart_fair : ∀ (l : List (Int × Int)) (a : Int), -1 ≤ a → apart a l = true → ∀ g ∈ l, fair g
  | [], _, _, _ => by simp
  | x :: l, a, ha, h => by
    simp only [apart, Bool.and_eq_true, decide_eq_true_eq] at h
    intro g hg
    rcases List.mem_cons.1 hg with rfl | hg
    · unfold fair; omega
    · exact apart_fair l x.2 (by omega) h.2.2.2 g hg
end Go.Proofs.Ytlnjkjpllmfcaaa

/-
  Amounts at ticks as plain lists: what came within a span, the last tick; what a meter may forget and how it counts.
-/
import Derived.Test.YtjdcccienbahjaaFix
namespace Go.Proofs.Ytjdcccienbahjaa
set_option linter.unusedVariables false

/-- amounts: a tick, and how much -/
abbrev Ams := List (Int × Int)

/-- what came behind lo, up to hi -/
def tally : Ams → Int → Int → Int
  | [], _, _ => 0
  | p :: r, lo, hi => (if p.1 ≤ hi ∧ lo < p.1 then p.2 else 0) + tally r lo hi

/-- all that came -/
def total : Ams → Int
  | [] => 0
  | p :: r => p.2 + total r

/-- the greatest tick -/
def lastFrom : Int → Ams → Int
  | n, [] => n
  | n, p :: r => lastFrom (if n < p.1 then p.1 else n) r

def lastOf (l : Ams) : Int := lastFrom 0 l

theorem tally_append (a b : Ams) (lo hi : Int) : tally (a ++ b) lo hi = tally a lo hi + tally b lo hi := by
  induction a with
  | nil => simp [tally]
  | cons p r ih => simp only [List.cons_append, tally, ih]; omega

theorem total_append (a b : Ams) : total (a ++ b) = total a + total b := by
  induction a with
  | nil => simp [total]
  | cons p r ih => simp only [List.cons_append, total, ih]; omega

theorem lastFrom_append (a b : Ams) : ∀ n, lastFrom n (a ++ b) = lastFrom (lastFrom n a) b := by
  induction a with
  | nil => intro n; rfl
  | cons p r ih => intro n; simp only [List.cons_append, lastFrom, ih]

theorem lastOf_nil : lastOf [] = 0 := rfl
theorem lastOf_snoc (a : Ams) (p : Int × Int) : lastOf (a ++ [p]) = if lastOf a < p.1 then p.1 else lastOf a := by
  unfold lastOf; rw [lastFrom_append]; rfl

/-- each amount is none below 0 -/
def NonNeg (l : Ams) : Prop := ∀ p, p ∈ l → 0 ≤ p.2

theorem total_nonneg {l : Ams} (h : NonNeg l) : 0 ≤ total l := by
  induction l with
  | nil => simp [total]
  | cons p r ih =>
    have a := h p (by simp)
    have b := ih (fun q hq => h q (by simp [hq]))
    simp only [total]; omega

theorem tally_bounds {l : Ams} (h : NonNeg l) (lo hi : Int) : 0 ≤ tally l lo hi ∧ tally l lo hi ≤ total l := by
  induction l with
  | nil => simp [tally, total]
  | cons p r ih =>
    have a := h p (by simp)
    have b := ih (fun q hq => h q (by simp [hq]))
    simp only [tally, total]
    split <;> omega

theorem take_succ {l : Ams} {k : Nat} (h : k < l.length) : l.take (k + 1) = l.take k ++ [l.getD k (0, 0)] := by
  rw [List.take_add_one]
  congr 1
  simp [List.getD_eq_getElem?_getD, h]

theorem tally_take {l : Ams} {k : Nat} (h : k < l.length) (lo hi : Int) : tally (l.take (k + 1)) lo hi = tally (l.take k) lo hi + (if (l.getD k (0, 0)).1 ≤ hi ∧ lo < (l.getD k (0, 0)).1 then (l.getD k (0, 0)).2 else 0) := by
  rw [take_succ h, tally_append]; simp only [tally]; omega

theorem total_take_le {l : Ams} (h : NonNeg l) (k : Nat) : total (l.take k) ≤ total l := by
  have e : total l = total (l.take k) + total (l.drop k) := by rw [← total_append, List.take_append_drop]
  have := total_nonneg (l := l.drop k) (fun p hp => h p (List.mem_of_mem_drop hp))
  omega

theorem lastOf_take {l : Ams} {k : Nat} (h : k < l.length) : lastOf (l.take (k + 1)) = if lastOf (l.take k) < (l.getD k (0, 0)).1 then (l.getD k (0, 0)).1 else lastOf (l.take k) := by
  rw [take_succ h, lastOf_snoc]

theorem getD_mem {l : Ams} {k : Nat} (h : k < l.length) : l.getD k (0, 0) ∈ l := by
  simp [List.getD_eq_getElem?_getD, h]

theorem tally_none {l : Ams} {lo hi : Int} (h : ∀ p, p ∈ l → p.1 ≤ lo) : tally l lo hi = 0 := by
  induction l with
  | nil => rfl
  | cons p r ih =>
    have a := h p (by simp)
    have b := ih (fun q hq => h q (by simp [hq]))
    simp only [tally, b]
    rw [if_neg (by omega)]; rfl

theorem tally_drop {l : Ams} {k : Nat} {old : Int} (h : ∀ i, i < k → i < l.length → (l.getD i (0, 0)).1 ≤ old) (lo hi : Int) (ho : old ≤ lo) : tally (l.drop k) lo hi = tally l lo hi := by
  have e : tally l lo hi = tally (l.take k) lo hi + tally (l.drop k) lo hi := by rw [← tally_append, List.take_append_drop]
  have z : tally (l.take k) lo hi = 0 := by
    refine tally_none fun p hp => ?_
    obtain ⟨i, hi, rfl⟩ := List.mem_iff_getElem.1 hp
    have hi' : i < k ∧ i < l.length := by rw [List.length_take] at hi; omega
    have := h i hi'.1 hi'.2
    simp [List.getD_eq_getElem?_getD, hi'.2] at this
    simp; omega
  omega

/-- an amount that the document takes -/
abbrev Fit (t n : Int) : Prop := 0 ≤ t ∧ t ≤ 1099511627776 ∧ 0 ≤ n ∧ n ≤ 1048576

/-- all that came, once t and n are handed in -/
def played (x : Ams) (t n : Int) : Ams := if Fit t n then (if t < lastOf x then x else x ++ [(t, n)]) else x
/-- what is told then -/
def toldErr (x : Ams) (t n : Int) : Int := if Fit t n then (if t < lastOf x then 23 else 0) else 11

/-- amounts as the document takes them, all -/
def Fine (x : Ams) : Prop := ∀ p, p ∈ x → Fit p.1 p.2

theorem Fine.nil : Fine [] := fun p h => by simp at h
theorem Fine.snoc {x : Ams} {t n : Int} (h : Fine x) (f : Fit t n) : Fine (x ++ [(t, n)]) := by
  intro p hp
  rcases List.mem_append.1 hp with h' | h'
  · exact h p h'
  · simp at h'; subst h'; exact f
theorem Fine.nonneg {x : Ams} (h : Fine x) : NonNeg x := fun p hp => (h p hp).2.2.1

theorem Fine.total {x : Ams} (h : Fine x) : 0 ≤ total x ∧ total x ≤ 1048576 * x.length := by
  refine ⟨total_nonneg h.nonneg, ?_⟩
  induction x with
  | nil => simp [Go.Proofs.Ytjdcccienbahjaa.total]
  | cons p r ih =>
    have a := (h p (by simp)).2.2.2
    have b := ih (fun q hq => h q (by simp [hq]))
    simp only [Go.Proofs.Ytjdcccienbahjaa.total, List.length_cons]; omega

theorem Fine.last {x : Ams} (h : Fine x) : 0 ≤ lastOf x ∧ lastOf x ≤ 1099511627776 := by
  have key : ∀ (l : Ams), Fine l → ∀ n, 0 ≤ n → n ≤ 1099511627776 → 0 ≤ lastFrom n l ∧ lastFrom n l ≤ 1099511627776 := by
    intro l
    induction l with
    | nil => intro _ n h0 h1; exact ⟨h0, h1⟩
    | cons p r ih =>
      intro hl n h0 h1
      have a := hl p (by simp)
      simp only [lastFrom]
      refine ih (fun q hq => hl q (by simp [hq])) _ ?_ ?_ <;> (split <;> have := a.1 <;> have := a.2.1 <;> omega)
  exact key x h 0 (by omega) (by omega)

theorem played_fine {x : Ams} {t n : Int} (h : Fine x) : Fine (played x t n) := by
  unfold played
  split
  · split
    · exact h
    · exact h.snoc (by assumption)
  · exact h
theorem played_length (x : Ams) (t n : Int) : (played x t n).length ≤ x.length + 1 := by
  unfold played
  split
  · split <;> simp
  · omega

/-- l is what a meter of a window keeps of all that came, at tick last -/
def Keeps (win last : Int) (l x : Ams) : Prop :=
  (∀ lo hi, last - 64 - win ≤ lo → tally l lo hi = tally x lo hi) ∧ (∀ p, p ∈ l → 0 ≤ p.1 ∧ p.1 ≤ 1099511627776 ∧ 0 ≤ p.2) ∧ total l ≤ total x ∧ l.length ≤ x.length

theorem Keeps.nil (win last : Int) : Keeps win last [] [] := ⟨fun _ _ _ => rfl, fun p h => by simp at h, by simp [total], by simp⟩

theorem Keeps.nonneg {win last : Int} {l x : Ams} (h : Keeps win last l x) : NonNeg l := fun p hp => (h.2.1 p hp).2.2

theorem Keeps.bounds {win last : Int} {l x : Ams} (h : Keeps win last l x) (f : Fine x) (hx : x.length ≤ 1000) : 0 ≤ total l ∧ total l ≤ 1048576000 := by
  have a := total_nonneg h.nonneg
  have b := f.total
  have c := h.2.2.1
  omega

theorem elem_le_total {l : Ams} (h : NonNeg l) : ∀ p, p ∈ l → p.2 ≤ total l := by
  induction l with
  | nil => intro p hp; simp at hp
  | cons q r ih =>
    have h2 : NonNeg r := fun p hp => h p (by simp [hp])
    have a := h q (by simp)
    have b := total_nonneg h2
    intro p hp
    simp only [total]
    rcases List.mem_cons.1 hp with rfl | hp
    · omega
    · have := ih h2 p hp; omega

theorem total_drop_le {l : Ams} (h : NonNeg l) (k : Nat) : total (l.drop k) ≤ total l := by
  have e : total l = total (l.take k) + total (l.drop k) := by rw [← total_append, List.take_append_drop]
  have := total_nonneg (l := l.take k) (fun p hp => h p (List.mem_of_mem_take hp))
  omega

/-- a meter forgets what lies too far back -/
theorem Keeps.forget {win last last' : Int} {l x : Ams} (h : Keeps win last l x) (hl : last ≤ last') {k : Nat} (hk : ∀ i, i < k → i < l.length → (l.getD i (0, 0)).1 ≤ last' - 64 - win) : Keeps win last' (l.drop k) x := by
  refine ⟨fun lo hi hlo => ?_, fun p hp => h.2.1 p (List.mem_of_mem_drop hp), ?_, ?_⟩
  · rw [tally_drop hk lo hi hlo]; exact h.1 lo hi (by omega)
  · have := total_drop_le h.nonneg k
    have := h.2.2.1
    omega
  · have := h.2.2.2
    simp; omega

/-- a new amount goes to the end -/
theorem Keeps.snoc {win last : Int} {l x : Ams} (h : Keeps win last l x) {t n : Int} (f : Fit t n) : Keeps win last (l ++ [(t, n)]) (x ++ [(t, n)]) := by
  refine ⟨fun lo hi hlo => ?_, fun p hp => ?_, ?_, ?_⟩
  · rw [tally_append, tally_append, h.1 lo hi hlo]
  · rcases List.mem_append.1 hp with h' | h'
    · exact h.2.1 p h'
    · simp at h'; subst h'; exact ⟨f.1, f.2.1, f.2.2.1⟩
  · rw [total_append, total_append]; have := h.2.2.1; omega
  · have := h.2.2.2
    simp; omega

/-- the last amount grows -/
theorem Keeps.more {win last : Int} {m x : Ams} {t k n : Int} (h : Keeps win last (m ++ [(t, k)]) x) (f : Fit t n) : Keeps win last (m ++ [(t, k + n)]) (x ++ [(t, n)]) := by
  refine ⟨fun lo hi hlo => ?_, fun p hp => ?_, ?_, ?_⟩
  · have := h.1 lo hi hlo
    rw [tally_append] at this
    rw [tally_append, tally_append, ← this]
    simp only [tally]
    split <;> omega
  · rcases List.mem_append.1 hp with h' | h'
    · exact h.2.1 p (by simp [h'])
    · have := h.2.1 (t, k) (by simp)
      simp at h'; subst h'; exact ⟨this.1, this.2.1, by have := this.2.2; have := f.2.2.1; simp at *; omega⟩
  · have := h.2.2.1
    rw [total_append] at this
    rw [total_append, total_append]
    simp only [total] at *
    omega
  · have := h.2.2.2
    simp at *; omega

theorem last_played {x : Ams} {t n : Int} (h : ¬ t < lastOf x) : lastOf (x ++ [(t, n)]) = t := by
  rw [lastOf_snoc]
  split
  · rfl
  · simp at *; omega
end Go.Proofs.Ytjdcccienbahjaa

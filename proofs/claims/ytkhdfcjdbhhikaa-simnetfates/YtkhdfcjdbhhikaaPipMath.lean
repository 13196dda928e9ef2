/-
  Messages as plain lists: those that were put, in that order; those that are told, in theirs. (No program.)
-/
import Derived.Test.YtkhdfcjdbhhikaaKeptCore
namespace Go.Proofs.Ytkhdfcjdbhhikaa.Pip
set_option linter.unusedVariables false

abbrev Ms := List (Int × List UInt8)

/-- how many are due -/
def du (l : Ms) (t : Int) : Nat := l.countP fun p => decide (p.1 ≤ t)
def Srt (l : Ms) : Prop := l.Pairwise fun p q => p.1 ≤ q.1
/-- one more, behind all that are due by then -/
def ins (l : Ms) (m : Int × List UInt8) : Ms := l.take (du l m.1) ++ m :: l.drop (du l m.1)
/-- in the order in which they are told -/
def ord (x : Ms) : Ms := x.foldl ins []
theorem ord_nil : ord [] = [] := rfl
theorem ord_snoc (x : Ms) (m : Int × List UInt8) : ord (x ++ [m]) = ins (ord x) m := by simp [ord]
theorem du_nil (t : Int) : du [] t = 0 := rfl
theorem du_le (l : Ms) (t : Int) : du l t ≤ l.length := List.countP_le_length
theorem du_append (a b : Ms) (t : Int) : du (a ++ b) t = du a t + du b t := by simp [du]
theorem du_cons (p : Int × List UInt8) (l : Ms) (t : Int) : du (p :: l) t = du l t + if p.1 ≤ t then 1 else 0 := by
  unfold du
  rw [List.countP_cons]
  simp
theorem ins_length (l : Ms) (m : Int × List UInt8) : (ins l m).length = l.length + 1 := by
  have := du_le l m.1
  simp [ins]; omega
theorem ord_length (x : Ms) : (ord x).length = x.length := by
  have h : ∀ (x a : Ms), (x.foldl ins a).length = a.length + x.length := by
    intro x
    induction x with
    | nil => intro a; simp
    | cons m r ih => intro a; rw [List.foldl_cons, ih, ins_length, List.length_cons]; omega
  unfold ord
  rw [h]; simp
theorem du_ins (l : Ms) (m : Int × List UInt8) (t : Int) : du (ins l m) t = du l t + if m.1 ≤ t then 1 else 0 := by
  unfold ins
  rw [du_append, du_cons]
  have h : du l t = du (l.take (du l m.1)) t + du (l.drop (du l m.1)) t := by rw [← du_append, List.take_append_drop]
  omega
theorem du_ord (x : Ms) (t : Int) : du (ord x) t = du x t := by
  have h : ∀ (x a : Ms), du (x.foldl ins a) t = du a t + du x t := by
    intro x
    induction x with
    | nil => intro a; simp [du_nil]
    | cons m r ih => intro a; rw [List.foldl_cons, ih, du_ins, du_cons]; omega
  unfold ord
  rw [h, du_nil]; omega

theorem du_zero {l : Ms} {t : Int} (h : ∀ p ∈ l, t < p.1) : du l t = 0 := by
  unfold du
  rw [List.countP_eq_zero]
  intro p hp
  have := h p hp
  simp; omega
theorem du_all {l : Ms} {t : Int} (h : ∀ p ∈ l, p.1 ≤ t) : du l t = l.length := by
  unfold du
  rw [List.countP_eq_length]
  intro p hp
  simpa using h p hp

/-- up to there all are due, behind it none -/
theorem srt_due : ∀ {l : Ms} (h : Srt l) (t : Int) (j : Nat) (hj : j < l.length), (j < du l t → l[j].1 ≤ t) ∧ (du l t ≤ j → t < l[j].1) := by
  intro l
  induction l with
  | nil => intro _ _ j hj; simp at hj
  | cons p r ih =>
    intro h t j hj
    have h1 := (List.pairwise_cons.1 h).1
    have h2 : Srt r := (List.pairwise_cons.1 h).2
    rw [du_cons]
    by_cases hp : p.1 ≤ t
    · rw [if_pos hp]
      cases j with
      | zero => exact ⟨fun _ => hp, fun hh => by omega⟩
      | succ j =>
        have := ih h2 t j (by simpa using hj)
        exact ⟨fun hh => this.1 (by omega), fun hh => this.2 (by omega)⟩
    · rw [if_neg hp]
      have hz : du r t = 0 := du_zero fun q hq => by have := h1 q hq; omega
      rw [hz]
      cases j with
      | zero => exact ⟨fun hh => by omega, fun _ => by show t < p.1; omega⟩
      | succ j =>
        refine ⟨fun hh => by omega, fun _ => ?_⟩
        have := h1 (r[j]'(by simpa using hj)) (List.getElem_mem _)
        show t < (r[j]'(by simpa using hj)).1
        omega
theorem ins_srt {l : Ms} (h : Srt l) (m : Int × List UInt8) : Srt (ins l m) := by
  unfold ins Srt
  have hs := h
  unfold Srt at hs
  rw [← List.take_append_drop (du l m.1) l, List.pairwise_append] at hs
  rw [List.pairwise_append]
  refine ⟨hs.1, List.pairwise_cons.2 ⟨fun q hq => ?_, hs.2.1⟩, fun p hp q hq => ?_⟩
  · obtain ⟨j, hj, rfl⟩ := List.getElem_of_mem hq
    rw [List.getElem_drop]
    have := (srt_due h m.1 (du l m.1 + j) (by simp at hj; omega)).2 (by omega)
    omega
  · rcases List.mem_cons.1 hq with rfl | hq
    · obtain ⟨j, hj, rfl⟩ := List.getElem_of_mem hp
      rw [List.getElem_take]
      simp only [List.length_take] at hj
      exact (srt_due h q.1 j (by omega)).1 (by omega)
    · exact hs.2.2 p hp q hq
theorem ord_srt (x : Ms) : Srt (ord x) := by
  have h : ∀ (x a : Ms), Srt a → Srt (x.foldl ins a) := by
    intro x
    induction x with
    | nil => intro a h; exact h
    | cons m r ih => intro a h; exact ih _ (ins_srt h m)
  exact h x [] List.Pairwise.nil

theorem ins_more (p m : Int × List UInt8) (r : Ms) (h : p.1 ≤ m.1) : ins (p :: r) m = p :: ins r m := by
  unfold ins
  rw [du_cons, if_pos h]
  rfl
theorem ins_less (p m : Int × List UInt8) (r : Ms) (hs : Srt (p :: r)) (h : m.1 < p.1) : ins (p :: r) m = m :: p :: r := by
  have hz : du (p :: r) m.1 = 0 := du_zero fun q hq => by
    rcases List.mem_cons.1 hq with rfl | hq
    · exact h
    · have := (List.pairwise_cons.1 hs).1 q hq; omega
  unfold ins
  rw [hz]
  rfl

/-- where the first one in order is -/
def IsF (x : Ms) (i : Nat) : Prop := i < x.length ∧ (∀ j, j < x.length → (x.getD i (0, [])).1 ≤ (x.getD j (0, [])).1) ∧ ∀ j, j < i → (x.getD i (0, [])).1 < (x.getD j (0, [])).1

theorem snoc_ind {α : Type} {P : List α → Prop} (h0 : P []) (hs : ∀ x m, P x → P (x ++ [m])) (x : List α) : P x := by
  rw [← List.reverse_reverse x]
  induction x.reverse with
  | nil => exact h0
  | cons m r ih => rw [List.reverse_cons]; exact hs _ _ ih

theorem getD_left {x : Ms} {m : Int × List UInt8} {j : Nat} (h : j < x.length) : (x ++ [m]).getD j (0, []) = x.getD j (0, []) := by
  rw [List.getD_eq_getElem?_getD, List.getD_eq_getElem?_getD, List.getElem?_append_left h]
theorem getD_last {x : Ms} {m : Int × List UInt8} : (x ++ [m]).getD x.length (0, []) = m := by
  rw [List.getD_eq_getElem?_getD, List.getElem?_append_right (Nat.le_refl _)]; simp

/-- the first one, and the rest -/
theorem ord_first (x : Ms) : ∀ i, IsF x i → ord x = x.getD i (0, []) :: ord (x.eraseIdx i) := by
  induction x using snoc_ind with
  | h0 => intro i h; exact absurd h.1 (by simp)
  | hs x m ih =>
    intro i ⟨h1, h2, h3⟩
    rw [List.length_append, List.length_singleton] at h1
    rw [ord_snoc]
    by_cases hi : i < x.length
    · have hF : IsF x i := by
        refine ⟨hi, fun j hj => ?_, fun j hj => ?_⟩
        · have := h2 j (by simp; omega)
          rwa [getD_left hi, getD_left hj] at this
        · have := h3 j hj
          rwa [getD_left hi, getD_left (by omega)] at this
      have hm := h2 x.length (by simp)
      rw [getD_left hi, getD_last] at hm
      rw [ih i hF, ins_more _ _ _ hm, getD_left hi, List.eraseIdx_append_of_lt_length hi, ord_snoc]
    · obtain rfl : i = x.length := by omega
      rw [getD_last]
      have e : (x ++ [m]).eraseIdx x.length = x := by rw [List.eraseIdx_append_of_length_le (Nat.le_refl _)]; simp
      rw [e]
      cases hx : ord x with
      | nil =>
        rfl
      | cons p r =>
        have hs := ord_srt x
        rw [hx] at hs
        refine ins_less p m r hs ?_
        have hp : p ∈ x := by
          have hmem : ∀ (x a : Ms) (q : Int × List UInt8), q ∈ x.foldl ins a → q ∈ a ∨ q ∈ x := by
            intro x
            induction x with
            | nil => intro a q h; exact .inl h
            | cons m r ih2 =>
              intro a q h
              rcases ih2 (ins a m) q h with h | h
              · unfold ins at h
                rcases List.mem_append.1 h with h | h
                · exact .inl (List.mem_of_mem_take h)
                · rcases List.mem_cons.1 h with rfl | h
                  · exact .inr (List.mem_cons_self ..)
                  · exact .inl (List.mem_of_mem_drop h)
              · exact .inr (List.mem_cons_of_mem _ h)
          rcases hmem x [] p (by show p ∈ ord x; rw [hx]; exact List.mem_cons_self ..) with h | h
          · simp at h
          · exact h
        obtain ⟨j, hj, rfl⟩ := List.getElem_of_mem hp
        have := h3 j hj
        rw [getD_last, getD_left hj, List.getD_eq_getElem?_getD, List.getElem?_eq_getElem hj] at this
        exact this

/-- all but one, as far as a loop has come -/
theorem erase_step (x : Ms) (i k : Nat) (h : k < x.length) : (x.take (k + 1)).eraseIdx i = if k = i then (x.take k).eraseIdx i else (x.take k).eraseIdx i ++ [x.getD k (0, [])] := by
  have e : x.take (k + 1) = x.take k ++ [x.getD k (0, [])] := by
    rw [List.take_add_one, List.getD_eq_getElem?_getD, List.getElem?_eq_getElem h]; rfl
  have hl : (x.take k).length = k := by rw [List.length_take]; omega
  rw [e]
  split
  · next h2 =>
    subst h2
    rw [List.eraseIdx_append_of_length_le (by omega), hl, List.eraseIdx_of_length_le (l := x.take k) (by omega)]
    simp
  · next h2 =>
    by_cases h3 : i < k
    · rw [List.eraseIdx_append_of_lt_length (by omega)]
    · rw [List.eraseIdx_append_of_length_le (by omega), hl, List.eraseIdx_of_length_le (l := x.take k) (by omega)]
      congr 1
      obtain ⟨d, hd⟩ : ∃ d, i - k = d + 1 := ⟨i - k - 1, by omega⟩
      rw [hd]; rfl
theorem erase_all (x : Ms) (i : Nat) : (x.take x.length).eraseIdx i = x.eraseIdx i := by rw [List.take_length]

/-- how far a search for the first one has come -/
def IsFk (x : Ms) (k : Nat) (a : Int) : Prop := (k = 0 ∧ a = -1) ∨ ∃ i : Nat, i < k ∧ a = (i : Int) ∧ (∀ j, j < k → (x.getD i (0, [])).1 ≤ (x.getD j (0, [])).1) ∧ ∀ j, j < i → (x.getD i (0, [])).1 < (x.getD j (0, [])).1
theorem IsFk.none {x : Ms} : IsFk x 0 (-1) := .inl ⟨rfl, rfl⟩
theorem IsFk.first {x : Ms} : IsFk x 1 0 := by
  refine .inr ⟨0, by omega, rfl, fun j hj => ?_, fun j hj => by omega⟩
  have e : j = 0 := by omega
  rw [e]
  exact Int.le_refl _
theorem IsFk.less {x : Ms} {k i : Nat} (h : IsFk x k (i : Int)) (hl : (x.getD k (0, [])).1 < (x.getD i (0, [])).1) : IsFk x (k + 1) (k : Int) := by
  rcases h with ⟨_, h⟩ | ⟨i', h1, h2, h3, h4⟩
  · omega
  · obtain rfl : i = i' := by omega
    refine .inr ⟨k, by omega, rfl, fun j hj => ?_, fun j hj => ?_⟩
    · by_cases hjk : j = k
      · rw [hjk]; exact Int.le_refl _
      · have := h3 j (by omega); omega
    · have := h3 j (by omega); omega
theorem IsFk.keep {x : Ms} {k i : Nat} (h : IsFk x k (i : Int)) (hl : ¬ (x.getD k (0, [])).1 < (x.getD i (0, [])).1) : IsFk x (k + 1) (i : Int) := by
  rcases h with ⟨_, h⟩ | ⟨i', h1, h2, h3, h4⟩
  · omega
  · obtain rfl : i = i' := by omega
    refine .inr ⟨i, by omega, rfl, fun j hj => ?_, h4⟩
    by_cases hjk : j = k
    · rw [hjk]; omega
    · exact h3 j (by omega)
theorem IsFk.done {x : Ms} {a : Int} (h : IsFk x x.length a) : (x = [] ∧ a = -1) ∨ ∃ i : Nat, a = (i : Int) ∧ IsF x i := by
  rcases h with ⟨h1, h2⟩ | ⟨i, h1, h2, h3, h4⟩
  · exact .inl ⟨List.eq_nil_of_length_eq_zero h1, h2⟩
  · exact .inr ⟨i, h2, h1, h3, h4⟩
end Go.Proofs.Ytkhdfcjdbhhikaa.Pip

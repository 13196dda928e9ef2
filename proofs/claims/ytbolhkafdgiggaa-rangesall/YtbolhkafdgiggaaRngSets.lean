/-
  What is put into a set of stretches, cut out of it, left between them, found in them: plain lists, no program.
-/
import Derived.Test.YtbolhkafdgiggaaRngMath
namespace Go.Proofs.Ytbolhkafdgiggaa
set_option linter.unusedVariables false

theorem take_idx {l : Sts} {k : Nat} {p : Int × Int} (h : p ∈ l.take k) : ∃ i, i < k ∧ i < l.length ∧ p = l.getD i (0, 0) := by
  obtain ⟨i, hi, rfl⟩ := List.mem_iff_getElem.1 h
  have hi' : i < k ∧ i < l.length := by simp at hi; omega
  refine ⟨i, hi'.1, hi'.2, ?_⟩
  rw [List.getD_eq_getElem?_getD, List.getElem?_eq_getElem hi'.2]
  simp
theorem drop_idx {l : Sts} {k : Nat} {p : Int × Int} (h : p ∈ l.drop k) : ∃ i, k ≤ i ∧ i < l.length ∧ p = l.getD i (0, 0) := by
  obtain ⟨i, hi, rfl⟩ := List.mem_iff_getElem.1 h
  have hi' : k + i < l.length := by simp at hi; omega
  refine ⟨k + i, by omega, hi', ?_⟩
  rw [List.getD_eq_getElem?_getD, List.getElem?_eq_getElem hi']
  simp
theorem all_idx {l : Sts} {p : Int × Int} (h : p ∈ l) : ∃ i, i < l.length ∧ p = l.getD i (0, 0) := by
  obtain ⟨i, _, h1, h2⟩ := take_idx (k := l.length) (by rwa [List.take_length])
  exact ⟨i, h1, h2⟩

/-- empty ones fall out -/
def fill (ps : Sts) : Sts := ps.filter fun p => decide (p.1 < p.2)
/-- pieces in the place of the stretches from f up to t -/
def laid (l : Sts) (f t : Nat) (ps : Sts) : Sts := l.take f ++ fill ps ++ l.drop t

theorem mem_fill {ps : Sts} {p : Int × Int} : p ∈ fill ps ↔ p ∈ ps ∧ p.1 < p.2 := by simp [fill]
theorem mem_laid {l ps : Sts} {f t : Nat} {p : Int × Int} : p ∈ laid l f t ps ↔ p ∈ l.take f ∨ (p ∈ ps ∧ p.1 < p.2) ∨ p ∈ l.drop t := by
  unfold laid
  rw [List.mem_append, List.mem_append, mem_fill, or_assoc]

theorem laid_good {l : Sts} (h : Good l) {f t : Nat} (hft : f ≤ t) {ps : Sts} (h1 : ∀ p ∈ ps, p.1 < p.2 → 0 ≤ p.1 ∧ p.2 ≤ 16384) (h2 : ps.Pairwise fun p q => p.1 < p.2 → q.1 < q.2 → p.2 < q.1)
    (h3 : ∀ p ∈ l.take f, ∀ q ∈ ps, q.1 < q.2 → p.2 < q.1) (h4 : ∀ p ∈ ps, p.1 < p.2 → ∀ q ∈ l.drop t, p.2 < q.1) : Good (laid l f t ps) := by
  refine ⟨fun p hp => ?_, ?_⟩
  · rcases mem_laid.1 hp with hp | hp | hp
    · exact h.1 p (List.mem_of_mem_take hp)
    · have := h1 p hp.1 hp.2; omega
    · exact h.1 p (List.mem_of_mem_drop hp)
  · unfold laid
    rw [List.append_assoc]
    refine List.pairwise_append.2 ⟨h.2.sublist (List.take_sublist _ _), List.pairwise_append.2 ⟨?_, h.2.sublist (List.drop_sublist _ _), ?_⟩, ?_⟩
    · unfold fill
      rw [List.pairwise_filter]
      refine h2.imp ?_
      intro p q hpq e1 e2
      exact hpq (by simpa using e1) (by simpa using e2)
    · intro p hp q hq
      exact h4 p (mem_fill.1 hp).1 (mem_fill.1 hp).2 q hq
    · intro p hp q hq
      rcases List.mem_append.1 hq with hq | hq
      · exact h3 p hp q (mem_fill.1 hq).1 (mem_fill.1 hq).2
      · obtain ⟨i, i1, i2, rfl⟩ := take_idx hp
        obtain ⟨j, j1, j2, rfl⟩ := drop_idx hq
        exact at_mono h (by omega) j2

theorem bool_same {a b : Bool} (h1 : a = true → b = true) (h2 : b = true → a = true) : a = b := by cases a <;> cases b <;> simp_all

/-- a stretch is put in -/
theorem add_laws {l : Sts} (h : Good l) {a b : Int} (ha : 0 ≤ a) (hab : a ≤ b) (hb : b ≤ 16384) {f t : Nat} (pf : Parted l f (fun p => a - 1 < p.2)) (pt : Parted l t (fun p => b < p.1)) (a' b' : Int)
    (e1 : f < t → a' = min a (l.getD f (0, 0)).1 ∧ b' = max b (l.getD (t - 1) (0, 0)).2) (e2 : ¬ f < t → a' = a ∧ b' = b) :
    f ≤ t ∧ Good (laid l f t [(a', b')]) ∧ ∀ i, has (laid l f t [(a', b')]) i = (has l i || (decide (a ≤ i) && decide (i < b))) := by
  have hft : f ≤ t := by
    rcases Nat.lt_or_ge t f with h1 | h1
    · have hl : t < l.length := by have := pf.1; omega
      have q1 := pf.2.1 _ (mem_take_at h1 hl)
      have q2 := pt.2.2 _ (mem_drop_at (Nat.le_refl t) hl)
      have q3 := h.1 _ (at_mem hl)
      simp only at q1 q2
      omega
    · exact h1
  have tl := pt.1
  have hf : f < t → a - 1 < (l.getD f (0, 0)).2 ∧ 0 ≤ (l.getD f (0, 0)).1 := fun h1 => ⟨pf.2.2 _ (mem_drop_at (Nat.le_refl f) (by omega)), (h.1 _ (at_mem (by omega))).1⟩
  have ht : f < t → (l.getD (t - 1) (0, 0)).1 ≤ b ∧ (l.getD (t - 1) (0, 0)).2 ≤ 16384 := fun h1 => ⟨by have := pt.2.1 _ (mem_take_at (show t - 1 < t by omega) (by omega)); simp only at this; omega, (h.1 _ (at_mem (by omega))).2.2⟩
  have la : a' ≤ a := by by_cases q : f < t; · rw [(e1 q).1]; omega
                         · rw [(e2 q).1]; omega
  have lb : b ≤ b' := by by_cases q : f < t; · rw [(e1 q).2]; omega
                         · rw [(e2 q).2]; omega
  refine ⟨hft, laid_good h hft ?_ (List.pairwise_singleton _ _) ?_ ?_, fun i => bool_same ?_ ?_⟩
  · intro p hp _
    have : p = (a', b') := by simpa using hp
    subst this
    by_cases q : f < t
    · have := hf q; have := ht q; have := e1 q; simp only; omega
    · have := e2 q; simp only; omega
  · intro p hp q hq _
    have : q = (a', b') := by simpa using hq
    subst this
    have p1 := pf.2.1 p hp
    by_cases q : f < t
    · have q1 := e1 q
      obtain ⟨j, j1, j2, rfl⟩ := take_idx hp
      have q2 := at_mono h j1 (by omega : f < l.length)
      simp only at p1 ⊢
      omega
    · have := e2 q; simp only at p1 ⊢; omega
  · intro p hp _ q hq
    have : p = (a', b') := by simpa using hp
    subst this
    have p1 := pt.2.2 q hq
    by_cases q0 : f < t
    · have q1 := e1 q0
      obtain ⟨j, j1, j2, rfl⟩ := drop_idx hq
      have q2 := at_mono h (show t - 1 < j by omega) j2
      simp only at p1 ⊢
      omega
    · have := e2 q0; simp only at p1 ⊢; omega
  · intro hh
    obtain ⟨p, hp, h1, h2⟩ := (has_iff _ _).1 hh
    rw [Bool.or_eq_true]
    rcases mem_laid.1 hp with hp | hp | hp
    · exact .inl ((has_iff _ _).2 ⟨p, List.mem_of_mem_take hp, h1, h2⟩)
    · have : p = (a', b') := by simpa using hp.1
      subst this
      simp only at h1 h2
      by_cases x1 : a ≤ i
      · by_cases x2 : i < b
        · right; simp [x1, x2]
        · left
          have q0 : f < t := by
            rcases Nat.lt_or_ge f t with q | q
            · exact q
            · have := e2 (by omega); omega
          have := e1 q0; have := ht q0
          exact (has_iff _ _).2 ⟨_, at_mem (show t - 1 < l.length by omega), by omega, by omega⟩
      · left
        have q0 : f < t := by
          rcases Nat.lt_or_ge f t with q | q
          · exact q
          · have := e2 (by omega); omega
        have := e1 q0; have := hf q0
        exact (has_iff _ _).2 ⟨_, at_mem (show f < l.length by omega), by omega, by omega⟩
    · exact .inl ((has_iff _ _).2 ⟨p, List.mem_of_mem_drop hp, h1, h2⟩)
  · intro hh
    rw [Bool.or_eq_true] at hh
    refine (has_iff _ _).2 ?_
    rcases hh with hh | hh
    · obtain ⟨p, hp, h1, h2⟩ := (has_iff _ _).1 hh
      obtain ⟨j, jl, rfl⟩ := all_idx hp
      rcases Nat.lt_or_ge j f with j1 | j1
      · exact ⟨_, mem_laid.2 (.inl (mem_take_at j1 jl)), h1, h2⟩
      · rcases Nat.lt_or_ge j t with j2 | j2
        · have q0 : f < t := by omega
          have q1 := e1 q0
          have x1 : (l.getD f (0, 0)).1 ≤ (l.getD j (0, 0)).1 := by
            rcases Nat.eq_or_lt_of_le j1 with e | e
            · rw [e]; omega
            · have := at_mono h e jl; have := h.1 _ (at_mem (show f < l.length by omega)); omega
          have x2 : (l.getD j (0, 0)).2 ≤ (l.getD (t - 1) (0, 0)).2 := by
            rcases Nat.eq_or_lt_of_le (show j ≤ t - 1 by omega) with e | e
            · rw [e]; omega
            · have := at_mono h e (by omega); have := h.1 _ (at_mem (show t - 1 < l.length by omega)); omega
          exact ⟨(a', b'), mem_laid.2 (.inr (.inl ⟨by simp, by simp only; omega⟩)), by simp only; omega, by simp only; omega⟩
        · exact ⟨_, mem_laid.2 (.inr (.inr (mem_drop_at j2 jl))), h1, h2⟩
    · simp only [Bool.and_eq_true, decide_eq_true_eq] at hh
      exact ⟨(a', b'), mem_laid.2 (.inr (.inl ⟨by simp, by simp only; omega⟩)), by simp only; omega, by simp only; omega⟩

theorem two_mem {p x y : Int × Int} (h : p ∈ [x, y]) : p = x ∨ p = y := by
  rcases List.mem_cons.1 h with h | h
  · exact .inl h
  · exact .inr (List.mem_singleton.1 h)
/-- a stretch is cut out -/
theorem cut_laws {l : Sts} (h : Good l) {a b : Int} (ha : 0 ≤ a) (hab : a ≤ b) (hb : b ≤ 16384) {f t : Nat} (pf : Parted l f (fun p => a < p.2)) (pt : Parted l t (fun p => b - 1 < p.1)) (hn : tot a b l ≠ 0) :
    f < t ∧ a < b ∧ Good (laid l f t [((l.getD f (0, 0)).1, a), (b, (l.getD (t - 1) (0, 0)).2)]) ∧
      ∀ i, has (laid l f t [((l.getD f (0, 0)).1, a), (b, (l.getD (t - 1) (0, 0)).2)]) i = (has l i && !(decide (a ≤ i) && decide (i < b))) := by
  have tl := pt.1
  have lab : a < b := by have := tot_bound ha hab hb h; omega
  have hft : f < t := by
    rcases Nat.lt_or_ge f t with h1 | h1
    · exact h1
    · refine absurd (tot_none a b l (fun p hp => ?_) hab) hn
      obtain ⟨j, jl, rfl⟩ := all_idx hp
      rcases Nat.lt_or_ge j f with j1 | j1
      · have := pf.2.1 _ (mem_take_at j1 jl); simp only at this; omega
      · have := pt.2.2 _ (mem_drop_at (show t ≤ j by omega) jl); simp only at this; omega
  have f1 := pf.2.2 _ (mem_drop_at (Nat.le_refl f) (by omega))
  have f2 := h.1 _ (at_mem (show f < l.length by omega))
  have t1 := pt.2.1 _ (mem_take_at (show t - 1 < t by omega) (by omega))
  have t2 := h.1 _ (at_mem (show t - 1 < l.length by omega))
  simp only at f1 t1
  have mids : ∀ j, f ≤ j → j < t → (l.getD f (0, 0)).1 ≤ (l.getD j (0, 0)).1 ∧ (l.getD j (0, 0)).2 ≤ (l.getD (t - 1) (0, 0)).2 := by
    intro j j1 j2
    constructor
    · rcases Nat.eq_or_lt_of_le j1 with e | e
      · rw [e]; omega
      · have := at_mono h e (by omega); omega
    · rcases Nat.eq_or_lt_of_le (show j ≤ t - 1 by omega) with e | e
      · rw [e]; omega
      · have := at_mono h e (by omega); omega
  refine ⟨hft, lab, laid_good h (by omega) ?_ ?_ ?_ ?_, fun i => bool_same ?_ ?_⟩
  · intro p hp _
    rcases two_mem hp with rfl | rfl
    · simp only; omega
    · simp only; omega
  · refine List.pairwise_cons.2 ⟨fun q hq _ _ => ?_, List.pairwise_singleton _ _⟩
    obtain rfl := List.mem_singleton.1 hq
    exact lab
  · intro p hp q hq _
    have p1 := pf.2.1 p hp
    simp only at p1
    obtain ⟨j, j1, j2, rfl⟩ := take_idx hp
    have := at_mono h j1 (by omega : f < l.length)
    rcases two_mem hq with rfl | rfl
    · simp only; omega
    · simp only; omega
  · intro p hp _ q hq
    have p1 := pt.2.2 q hq
    simp only at p1
    obtain ⟨j, j1, j2, rfl⟩ := drop_idx hq
    have := at_mono h (show t - 1 < j by omega) j2
    rcases two_mem hp with rfl | rfl
    · simp only; omega
    · simp only; omega
  · intro hh
    obtain ⟨p, hp, h1, h2⟩ := (has_iff _ _).1 hh
    have key : has l i = true ∧ ¬ (a ≤ i ∧ i < b) := by
      rcases mem_laid.1 hp with hp | hp | hp
      · have := pf.2.1 p hp
        simp only at this
        exact ⟨(has_iff _ _).2 ⟨p, List.mem_of_mem_take hp, h1, h2⟩, by omega⟩
      · rcases two_mem hp.1 with rfl | rfl
        · simp only at h1 h2
          exact ⟨(has_iff _ _).2 ⟨_, at_mem (show f < l.length by omega), by omega, by omega⟩, by omega⟩
        · simp only at h1 h2
          exact ⟨(has_iff _ _).2 ⟨_, at_mem (show t - 1 < l.length by omega), by omega, by omega⟩, by omega⟩
      · have := pt.2.2 p hp
        simp only at this
        exact ⟨(has_iff _ _).2 ⟨p, List.mem_of_mem_drop hp, h1, h2⟩, by omega⟩
    rw [key.1]
    simp only [Bool.true_and, Bool.not_eq_true', Bool.and_eq_false_iff, decide_eq_false_iff_not]
    omega
  · intro hh
    simp only [Bool.and_eq_true, Bool.not_eq_true', Bool.and_eq_false_iff, decide_eq_false_iff_not] at hh
    obtain ⟨p, hp, h1, h2⟩ := (has_iff _ _).1 hh.1
    obtain ⟨j, jl, rfl⟩ := all_idx hp
    refine (has_iff _ _).2 ?_
    rcases Nat.lt_or_ge j f with j1 | j1
    · exact ⟨_, mem_laid.2 (.inl (mem_take_at j1 jl)), h1, h2⟩
    · rcases Nat.lt_or_ge j t with j2 | j2
      · have := mids j j1 j2
        rcases hh.2 with q | q
        · exact ⟨((l.getD f (0, 0)).1, a), mem_laid.2 (.inr (.inl ⟨by simp, by simp only; omega⟩)), by simp only; omega, by simp only; omega⟩
        · exact ⟨(b, (l.getD (t - 1) (0, 0)).2), mem_laid.2 (.inr (.inl ⟨by simp, by simp only; omega⟩)), by simp only; omega, by simp only; omega⟩
      · exact ⟨_, mem_laid.2 (.inr (.inr (mem_drop_at j2 jl))), h1, h2⟩

/-- what is counted by the stretches from k on, up to the j-th of them -/
theorem tot_part {l : Sts} {a b : Int} (hab : a ≤ b) {k j : Nat} (pk : Parted l k (fun p => a < p.2)) (hr : ∀ p ∈ l.drop (k + j), b ≤ p.1) : tot a b ((l.drop k).take j) = tot a b l := by
  have e : l = l.take k ++ ((l.drop k).take j ++ l.drop (k + j)) := by
    rw [← List.drop_drop, List.take_append_drop, List.take_append_drop]
  conv => rhs; rw [e, tot_append, tot_append]
  rw [tot_none a b (l.take k) (fun p hp => by have := pk.2.1 p hp; simp only at this; omega) hab, tot_none a b (l.drop (k + j)) (fun p hp => .inr (hr p hp)) hab]
  omega
theorem clip_in {a b : Int} {p : Int × Int} (h1 : p.1 < p.2) (h2 : a < p.2) (h3 : p.1 < b) (h4 : a ≤ b) : clip a b p = min p.2 b - max p.1 a := by unfold clip; omega
theorem rest_behind {l : Sts} (h : Good l) {b : Int} {i : Nat} (hi : i < l.length) (hb : b ≤ (l.getD i (0, 0)).1) : ∀ p ∈ l.drop i, b ≤ p.1 := by
  intro p hp
  obtain ⟨j, j1, j2, rfl⟩ := drop_idx hp
  rcases Nat.eq_or_lt_of_le j1 with e | e
  · rw [← e]; exact hb
  · have := at_mono h e j2; have := h.1 _ (at_mem hi); omega
theorem drop_at (l : Sts) (k j : Nat) : (l.drop k).getD j (0, 0) = l.getD (k + j) (0, 0) := by
  rw [List.getD_eq_getElem?_getD, List.getD_eq_getElem?_getD, List.getElem?_drop]
theorem take_more (l : Sts) (j : Nat) (h : j < l.length) : l.take (j + 1) = l.take j ++ [l.getD j (0, 0)] := by
  rw [List.take_succ_eq_append_getElem h, List.getD_eq_getElem?_getD, List.getElem?_eq_getElem h]
  rfl
theorem tot_more {a b : Int} {l : Sts} (h : Good l) (hab : a ≤ b) {k j : Nat} (pk : Parted l k (fun p => a < p.2)) (hj : k + j < l.length) (hb : (l.getD (k + j) (0, 0)).1 < b) :
    tot a b ((l.drop k).take (j + 1)) = tot a b ((l.drop k).take j) + (min (l.getD (k + j) (0, 0)).2 b - max (l.getD (k + j) (0, 0)).1 a) := by
  have h1 := pk.2.2 _ (mem_drop_at (show k ≤ k + j by omega) hj)
  have h2 := h.1 _ (at_mem hj)
  rw [take_more _ _ (by simp; omega), tot_append, drop_at, tot, tot, clip_in h2.2.1 h1 hb hab]
  omega
theorem tot_range {a b : Int} : ∀ (l : Sts), a ≤ b → 0 ≤ tot a b l ∧ tot a b l ≤ (b - a) * l.length
  | [], _ => by simp [tot]
  | p :: l, h => by
    have := tot_range l h
    have e : (b - a) * ((p :: l).length : Int) = (b - a) * l.length + (b - a) := by
      rw [List.length_cons, Int.natCast_add, Int.mul_add]; simp
    rw [e, tot]
    unfold clip
    omega

/-- the least number from one on -/
theorem first_none {l : Sts} {n : Int} (pk : Parted l l.length (fun p => n < p.2)) : ∀ i, n ≤ i → has l i = false := by
  intro i hi
  apply has_no
  rintro ⟨p, hp, h1, h2⟩
  have := pk.2.1 p (by rwa [List.take_length])
  simp only at this
  omega
theorem first_some {l : Sts} (h : Good l) {n : Int} {k : Nat} (hk : k < l.length) (pk : Parted l k (fun p => n < p.2)) :
    has l (max n (l.getD k (0, 0)).1) = true ∧ ∀ i, n ≤ i → i < max n (l.getD k (0, 0)).1 → has l i = false := by
  have h1 := pk.2.2 _ (mem_drop_at (Nat.le_refl k) hk)
  have h2 := h.1 _ (at_mem hk)
  simp only at h1
  refine ⟨(has_iff _ _).2 ⟨_, at_mem hk, by omega, by omega⟩, fun i i1 i2 => has_no ?_⟩
  rintro ⟨p, hp, p1, p2⟩
  obtain ⟨j, jl, rfl⟩ := all_idx hp
  rcases Nat.lt_or_ge j k with j1 | j1
  · have := pk.2.1 _ (mem_take_at j1 jl); simp only at this; omega
  · rcases Nat.eq_or_lt_of_le j1 with e | e
    · rw [← e] at p1 p2; omega
    · have := at_mono h e jl; omega

theorem out_in {c d i : Int} (h : i < c ∨ d ≤ i) : inP (c, d) i = false := by
  cases e : inP (c, d) i with
  | false => rfl
  | true => rw [inP_iff] at e; simp only at e; omega

/-- what is between the stretches, as far as one has come: up to the j-th of those from k on, and up to c -/
def Gapped (l : Sts) (a b : Int) (k j : Nat) (c : Int) (g : Sts) : Prop :=
  a ≤ c ∧ c ≤ 16384 ∧ ((∀ p ∈ l.take (k + j), p.2 ≤ c) ∧ (c = a ∨ ∃ p ∈ l.take (k + j), p.2 = c)) ∧ (∀ p ∈ g, a ≤ p.1 ∧ p.1 < p.2 ∧ p.2 < c ∧ p.2 ≤ b) ∧ g.Pairwise (fun p q => p.2 < q.1) ∧ ∀ i, a ≤ i → i < c → has g i = !has l i

theorem Gapped.zero {l : Sts} {a b : Int} {k : Nat} (ha : a ≤ 16384) (pk : Parted l k (fun p => a < p.2)) : Gapped l a b k 0 a [] :=
  ⟨by omega, ha, ⟨fun p hp => by have := pk.2.1 p hp; simp only at this; omega, .inl rfl⟩, by simp, List.Pairwise.nil, fun i h1 h2 => by omega⟩
/-- the numbers between c and the next stretch -/
theorem Gapped.free {l : Sts} (h : Good l) {a b c : Int} {k j : Nat} {g : Sts} (G : Gapped l a b k j c g) {e : Int} (hr : ∀ p ∈ l.drop (k + j), e ≤ p.1) : ∀ i, c ≤ i → i < e → has l i = false := by
  intro i h1 h2
  apply has_no
  rintro ⟨p, hp, p1, p2⟩
  obtain ⟨q, ql, rfl⟩ := all_idx hp
  rcases Nat.lt_or_ge q (k + j) with q1 | q1
  · have := G.2.2.1.1 _ (mem_take_at q1 ql); omega
  · have := hr _ (mem_drop_at q1 ql); omega
theorem Gapped.more {l : Sts} (h : Good l) {a b c : Int} {k j : Nat} {g : Sts} (G : Gapped l a b k j c g) (pk : Parted l k (fun p => a < p.2)) (hj : k + j < l.length) (hb : (l.getD (k + j) (0, 0)).1 < b) :
    Gapped l a b k (j + 1) (l.getD (k + j) (0, 0)).2 (if c < (l.getD (k + j) (0, 0)).1 then g ++ [(c, (l.getD (k + j) (0, 0)).1)] else g) := by
  have h1 := pk.2.2 _ (mem_drop_at (show k ≤ k + j by omega) hj)
  have h2 := h.1 _ (at_mem hj)
  have h3 := G.free h (rest_behind h hj (Int.le_refl _))
  simp only at h1
  obtain ⟨g1, g2, g3, g4, g5, g6⟩ := G
  have take : ∀ p ∈ l.take (k + (j + 1)), p.2 ≤ (l.getD (k + j) (0, 0)).2 := by
    intro p hp
    obtain ⟨q, q1, q2, rfl⟩ := take_idx hp
    rcases Nat.eq_or_lt_of_le (show q ≤ k + j by omega) with e | e
    · rw [e]; omega
    · have := at_mono h e hj; omega
  have mem : ∀ i, (l.getD (k + j) (0, 0)).1 ≤ i → i < (l.getD (k + j) (0, 0)).2 → has l i = true := fun i i1 i2 => (has_iff _ _).2 ⟨_, at_mem hj, i1, i2⟩
  have gno : ∀ i, c ≤ i → has g i = false := fun i hi => has_no (by rintro ⟨p, hp, p1, p2⟩; have := g4 p hp; omega)
  have hc : c ≤ (l.getD (k + j) (0, 0)).2 := by
    rcases g3.2 with e | ⟨p, hp, e⟩
    · omega
    · obtain ⟨q, q1, q2, rfl⟩ := take_idx hp
      have := at_mono h q1 hj
      omega
  by_cases t : c < (l.getD (k + j) (0, 0)).1
  · rw [if_pos t]
    refine ⟨by omega, by omega, ⟨take, .inr ⟨_, mem_take_at (show k + j < k + (j + 1) by omega) hj, rfl⟩⟩, ?_, ?_, ?_⟩
    · intro p hp
      rcases List.mem_append.1 hp with hp | hp
      · have := g4 p hp; omega
      · have : p = (c, (l.getD (k + j) (0, 0)).1) := by simpa using hp
        subst this
        simp only
        omega
    · refine List.pairwise_append.2 ⟨g5, List.pairwise_singleton _ _, fun p hp q hq => ?_⟩
      have : q = (c, (l.getD (k + j) (0, 0)).1) := by simpa using hq
      subst this
      exact (g4 p hp).2.2.1
    · intro i i1 i2
      rw [has_append, has_cons, has_nil, Bool.or_false]
      rcases Int.lt_or_le i c with q | q
      · have : inP (c, (l.getD (k + j) (0, 0)).1) i = false := out_in (.inl q)
        rw [this, Bool.or_false, g6 i i1 q]
      · rw [gno i q, Bool.false_or]
        rcases Int.lt_or_le i (l.getD (k + j) (0, 0)).1 with q2 | q2
        · rw [h3 i q q2, (inP_iff _ _).2 ⟨q, q2⟩]; rfl
        · rw [mem i q2 i2, out_in (.inr q2)]; rfl
  · rw [if_neg t]
    refine ⟨by omega, by omega, ⟨take, .inr ⟨_, mem_take_at (show k + j < k + (j + 1) by omega) hj, rfl⟩⟩, ?_, g5, ?_⟩
    · intro p hp
      have := g4 p hp
      omega
    · intro i i1 i2
      rcases Int.lt_or_le i c with q | q
      · exact g6 i i1 q
      · rw [gno i q, mem i (by omega) i2]; rfl
theorem Gapped.done {l : Sts} (h : Good l) {a b c : Int} {k j : Nat} {g : Sts} (hab : a ≤ b) (G : Gapped l a b k j c g) (hr : ∀ p ∈ l.drop (k + j), b ≤ p.1) :
    Canon a b (if c < b then g ++ [(c, b)] else g) ∧ ∀ i, a ≤ i → i < b → has (if c < b then g ++ [(c, b)] else g) i = !has l i := by
  have h3 := G.free h hr
  obtain ⟨g1, g2, g3, g4, g5, g6⟩ := G
  have gno : ∀ i, c ≤ i → has g i = false := fun i hi => has_no (by rintro ⟨p, hp, p1, p2⟩; have := g4 p hp; omega)
  by_cases t : c < b
  · rw [if_pos t]
    refine ⟨⟨?_, ?_⟩, ?_⟩
    · intro p hp
      rcases List.mem_append.1 hp with hp | hp
      · have := g4 p hp; omega
      · obtain rfl := List.mem_singleton.1 hp
        simp only
        omega
    · refine List.pairwise_append.2 ⟨g5, List.pairwise_singleton _ _, fun p hp q hq => ?_⟩
      obtain rfl := List.mem_singleton.1 hq
      exact (g4 p hp).2.2.1
    · intro i i1 i2
      rw [has_append, has_cons, has_nil, Bool.or_false]
      rcases Int.lt_or_le i c with q | q
      · rw [out_in (.inl q), Bool.or_false, g6 i i1 q]
      · rw [gno i q, Bool.false_or, h3 i q i2, (inP_iff _ _).2 ⟨q, i2⟩]; rfl
  · rw [if_neg t]
    refine ⟨⟨fun p hp => by have := g4 p hp; omega, g5⟩, fun i i1 i2 => g6 i i1 (by omega)⟩
end Go.Proofs.Ytbolhkafdgiggaa

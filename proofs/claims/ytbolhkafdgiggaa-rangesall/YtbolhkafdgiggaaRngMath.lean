/-
  Sets of numbers as stretches: which numbers they have, how many, what is put in, what is cut out, what is left between. Plain numbers alone, no program.
-/
namespace Go.Proofs.Ytbolhkafdgiggaa
set_option linter.unusedVariables false

abbrev Sts := List (Int × Int)

/-- is a number in a stretch? -/
def inP (p : Int × Int) (i : Int) : Bool := decide (p.1 ≤ i) && decide (i < p.2)
/-- is it in one of them? -/
def has (l : Sts) (i : Int) : Bool := l.any fun p => inP p i

theorem inP_iff (p : Int × Int) (i : Int) : inP p i = true ↔ p.1 ≤ i ∧ i < p.2 := by simp [inP]
theorem has_iff (l : Sts) (i : Int) : has l i = true ↔ ∃ p ∈ l, p.1 ≤ i ∧ i < p.2 := by simp [has, inP]
theorem has_nil (i : Int) : has [] i = false := rfl
theorem has_cons (p : Int × Int) (l : Sts) (i : Int) : has (p :: l) i = (inP p i || has l i) := by simp [has]
theorem has_append (a b : Sts) (i : Int) : has (a ++ b) i = (has a i || has b i) := by simp [has]
theorem has_no {l : Sts} {i : Int} (h : ¬ ∃ p ∈ l, p.1 ≤ i ∧ i < p.2) : has l i = false := by
  cases e : has l i with
  | false => rfl
  | true => exact absurd ((has_iff l i).1 e) h

/-- stretches between lo and hi that rise, none empty, no two touch -/
def Canon (lo hi : Int) (l : Sts) : Prop := (∀ p ∈ l, lo ≤ p.1 ∧ p.1 < p.2 ∧ p.2 ≤ hi) ∧ l.Pairwise (fun p q => p.2 < q.1)
/-- a set's stretches -/
def Good (l : Sts) : Prop := Canon 0 16384 l

theorem Canon.nil (lo hi : Int) : Canon lo hi [] := ⟨by simp, List.Pairwise.nil⟩
theorem Good.nil : Good [] := Canon.nil _ _
theorem Canon.tail {lo hi : Int} {p : Int × Int} {l : Sts} (h : Canon lo hi (p :: l)) : Canon (p.2 + 1) hi l :=
  ⟨fun q hq => by
    have h1 := h.1 q (List.mem_cons_of_mem _ hq)
    have h2 := (List.pairwise_cons.1 h.2).1 q hq
    omega, (List.pairwise_cons.1 h.2).2⟩
theorem Canon.out {lo hi : Int} {l : Sts} (h : Canon lo hi l) {i : Int} (hi' : i < lo ∨ hi ≤ i) : has l i = false := by
  apply has_no
  rintro ⟨p, hp, h1, h2⟩
  have := h.1 p hp
  omega
theorem Canon.len {hi : Int} : ∀ {l : Sts} {lo : Int}, Canon lo hi l → lo ≤ hi → (l.length : Int) ≤ hi - lo
  | [], lo, h, hl => by simp; omega
  | p :: l, lo, h, hl => by
    have h1 := h.1 p List.mem_cons_self
    rcases Int.lt_or_le hi (p.2 + 1) with h3 | h3
    · have : l = [] := by
        cases l with
        | nil => rfl
        | cons q l =>
          have := h.tail.1 q List.mem_cons_self
          omega
      subst this
      simp
      omega
    · have := Canon.len h.tail h3
      simp only [List.length_cons]
      omega
theorem Good.len {l : Sts} (h : Good l) : l.length ≤ 16384 := by
  have := Canon.len h (by decide)
  omega

/-- stretches as few as can be are told by their numbers -/
theorem canon_same {lo hi : Int} : ∀ {l m : Sts}, Canon lo hi l → Canon lo hi m → (∀ i, has l i = has m i) → l = m
  | [], [], _, _, _ => rfl
  | [], q :: m, _, h, e => by
    have := h.1 q List.mem_cons_self
    have e1 := e q.1
    rw [has_nil, has_cons, (inP_iff q q.1).2 (by omega)] at e1
    simp at e1
  | p :: l, [], h, _, e => by
    have := h.1 p List.mem_cons_self
    have e1 := e p.1
    rw [has_nil, has_cons, (inP_iff p p.1).2 (by omega)] at e1
    simp at e1
  | p :: l, q :: m, h, k, e => by
    have hp := h.1 p List.mem_cons_self
    have hq := k.1 q List.mem_cons_self
    have lt := h.tail
    have mt := k.tail
    have a1 : q.1 ≤ p.1 := by
      have e1 := e p.1
      rw [has_cons, (inP_iff p p.1).2 (by omega), Bool.true_or] at e1
      obtain ⟨r, hr, r1, r2⟩ := (has_iff _ _).1 e1.symm
      rcases List.mem_cons.1 hr with rfl | hr
      · exact r1
      · have := mt.1 r hr; omega
    have a2 : p.1 ≤ q.1 := by
      have e1 := e q.1
      rw [has_cons q, (inP_iff q q.1).2 (by omega), Bool.true_or] at e1
      obtain ⟨r, hr, r1, r2⟩ := (has_iff _ _).1 e1
      rcases List.mem_cons.1 hr with rfl | hr
      · exact r1
      · have := lt.1 r hr; omega
    have b1 : q.2 ≤ p.2 := by
      rcases Int.lt_or_le p.2 q.2 with h1 | h1
      · have e1 := e p.2
        rw [has_cons q, (inP_iff q p.2).2 (by omega), Bool.true_or, has_cons, lt.out (by omega)] at e1
        have : inP p p.2 = true := by simpa using e1
        rw [inP_iff] at this
        omega
      · exact h1
    have b2 : p.2 ≤ q.2 := by
      rcases Int.lt_or_le q.2 p.2 with h1 | h1
      · have e1 := e q.2
        rw [has_cons p, (inP_iff p q.2).2 (by omega), Bool.true_or, has_cons, mt.out (by omega)] at e1
        have : inP q q.2 = true := by simpa using e1.symm
        rw [inP_iff] at this
        omega
      · exact h1
    have epq : p = q := Prod.ext (by omega) (by omega)
    subst epq
    have : l = m := by
      refine canon_same lt mt fun i => ?_
      have e1 := e i
      rw [has_cons, has_cons] at e1
      rcases Int.lt_or_le i (p.2 + 1) with h1 | h1
      · rw [lt.out (.inl h1), mt.out (.inl h1)]
      · have : inP p i = false := by
          cases e2 : inP p i with
          | false => rfl
          | true => rw [inP_iff] at e2; omega
        rwa [this, Bool.false_or, Bool.false_or] at e1
    rw [this]

theorem canon_same_on {lo hi : Int} {l m : Sts} (h : Canon lo hi l) (k : Canon lo hi m) (e : ∀ i, lo ≤ i → i < hi → has l i = has m i) : l = m := by
  refine canon_same h k fun i => ?_
  rcases Int.lt_or_le i lo with h1 | h1
  · rw [h.out (.inl h1), k.out (.inl h1)]
  · rcases Int.lt_or_le i hi with h2 | h2
    · exact e i h1 h2
    · rw [h.out (.inr h2), k.out (.inr h2)]

/-- one number more, behind the last stretch -/
theorem Canon.put {a i c : Int} {m : Sts} (h : Canon a i (m ++ [(c, i)])) : Canon a (i + 1) (m ++ [(c, i + 1)]) := by
  refine ⟨fun p hp => ?_, ?_⟩
  · rcases List.mem_append.1 hp with hp | hp
    · have := h.1 p (List.mem_append_left _ hp); omega
    · have hp : p = (c, i + 1) := by simpa using hp
      subst hp
      have := h.1 (c, i) (by simp)
      simp at *
      omega
  · have := List.pairwise_append.1 h.2
    refine List.pairwise_append.2 ⟨this.1, List.pairwise_singleton _ _, fun p hp q hq => ?_⟩
    have hq : q = (c, i + 1) := by simpa using hq
    subst hq
    exact this.2.2 p hp (c, i) (by simp)
theorem has_put {a i c : Int} {m : Sts} (h : Canon a i (m ++ [(c, i)])) (j : Int) (hj : j ≤ i) : has (m ++ [(c, i + 1)]) j = if j = i then true else has (m ++ [(c, i)]) j := by
  have hc := h.1 (c, i) (by simp)
  rw [has_append, has_append, has_cons, has_cons, has_nil]
  by_cases e : j = i
  · rw [if_pos e]
    have : inP (c, i + 1) j = true := (inP_iff _ _).2 (by simp at *; omega)
    simp [this]
  · rw [if_neg e]
    have : inP (c, i + 1) j = inP (c, i) j := by
      have e1 : decide (j < i + 1) = true := by simp; omega
      have e2 : decide (j < i) = true := by simp; omega
      simp only [inP, e1, e2]
    rw [this]
theorem Canon.new {a i : Int} {m : Sts} (h : Canon a i m) (ha : a ≤ i) (hne : ∀ p ∈ m, p.2 ≠ i) : Canon a (i + 1) (m ++ [(i, i + 1)]) := by
  refine ⟨fun p hp => ?_, ?_⟩
  · rcases List.mem_append.1 hp with hp | hp
    · have := h.1 p hp; omega
    · have hp : p = (i, i + 1) := by simpa using hp
      subst hp
      simp
      omega
  · refine List.pairwise_append.2 ⟨h.2, List.pairwise_singleton _ _, fun p hp q hq => ?_⟩
    have hq : q = (i, i + 1) := by simpa using hq
    subst hq
    have := h.1 p hp
    have := hne p hp
    simp
    omega
theorem has_new {a i : Int} {m : Sts} (h : Canon a i m) (j : Int) (hj : j ≤ i) : has (m ++ [(i, i + 1)]) j = if j = i then true else has m j := by
  rw [has_append, has_cons, has_nil, Bool.or_false]
  by_cases e : j = i
  · rw [if_pos e, (inP_iff _ _).2 (by simp; omega), Bool.or_true]
  · rw [if_neg e]
    have : inP (i, i + 1) j = false := by
      cases e2 : inP (i, i + 1) j with
      | false => rfl
      | true => rw [inP_iff] at e2; simp at e2; omega
    rw [this, Bool.or_false]
theorem Canon.stay {a i : Int} {m : Sts} (h : Canon a i m) : Canon a (i + 1) m := ⟨fun p hp => by have := h.1 p hp; omega, h.2⟩
/-- all but the last one end earlier -/
theorem Canon.last {a i : Int} {m : Sts} {q : Int × Int} (h : Canon a i (m ++ [q])) (hq : q.2 ≠ i) : ∀ p ∈ m ++ [q], p.2 ≠ i := by
  intro p hp
  have hq' := h.1 q (by simp)
  rcases List.mem_append.1 hp with hp | hp
  · have := (List.pairwise_append.1 h.2).2.2 p hp q (by simp)
    omega
  · have : p = q := by simpa using hp
    rw [this]; exact hq

/-- how many numbers below k are so -/
def num (f : Int → Bool) : Nat → Int
  | 0 => 0
  | k + 1 => num f k + if f (k : Int) = true then 1 else 0

theorem num_congr {f g : Int → Bool} : ∀ k : Nat, (∀ i : Int, 0 ≤ i → i < k → f i = g i) → num f k = num g k
  | 0, _ => rfl
  | k + 1, h => by
    rw [num, num, num_congr k (fun i h1 h2 => h i h1 (by omega)), h k (by omega) (by omega)]
theorem num_or {f g : Int → Bool} : ∀ k : Nat, (∀ i : Int, f i = true → g i = false) → num (fun i => f i || g i) k = num f k + num g k
  | 0, _ => rfl
  | k + 1, h => by
    have := h k
    rw [num, num, num, num_or k h]
    cases e1 : f k <;> cases e2 : g k
    · simp
    · simp; omega
    · simp; omega
    · rw [e1] at this; rw [this rfl] at e2; cases e2
theorem num_bound (f : Int → Bool) : ∀ k : Nat, 0 ≤ num f k ∧ num f k ≤ k
  | 0 => by simp [num]
  | k + 1 => by
    have := num_bound f k
    rw [num]
    split <;> omega
theorem num_between (c d : Int) : ∀ k : Nat, num (fun i => decide (c ≤ i) && decide (i < d)) k = max 0 (min d k - max c 0)
  | 0 => by simp [num]; omega
  | k + 1 => by
    rw [num, num_between c d k]
    by_cases h1 : c ≤ (k : Int)
    · by_cases h2 : (k : Int) < d
      · simp [h1, h2]; omega
      · simp [h1, h2]; omega
    · simp [h1]; omega

/-- how much of a stretch lies from a up to b -/
def clip (a b : Int) (p : Int × Int) : Int := max 0 (min p.2 b - max p.1 a)
/-- how many numbers of the stretches lie from a up to b -/
def tot (a b : Int) : Sts → Int
  | [] => 0
  | p :: l => clip a b p + tot a b l

theorem tot_append (a b : Int) (l m : Sts) : tot a b (l ++ m) = tot a b l + tot a b m := by
  induction l with
  | nil => simp [tot]
  | cons p l ih => simp only [List.cons_append, tot, ih]; omega
theorem tot_none (a b : Int) : ∀ l : Sts, (∀ p ∈ l, p.2 ≤ a ∨ b ≤ p.1) → (a ≤ b) → tot a b l = 0
  | [], _, _ => rfl
  | p :: l, h, hab => by
    have h1 := h p List.mem_cons_self
    rw [tot, tot_none a b l (fun q hq => h q (List.mem_cons_of_mem _ hq)) hab]
    unfold clip
    omega
theorem tot_num {a b : Int} (ha : 0 ≤ a) (hb : b ≤ 16384) : ∀ {l : Sts} {lo : Int}, Canon lo 16384 l → tot a b l = num (fun i => (decide (a ≤ i) && decide (i < b)) && has l i) 16384
  | [], lo, _ => by
    rw [tot, num_congr (g := fun i => decide ((1 : Int) ≤ i) && decide (i < 0)) _ (fun i _ _ => by rw [has_nil, Bool.and_false]; symm; simp; omega), num_between]
    omega
  | p :: l, lo, h => by
    have hp := h.1 p List.mem_cons_self
    have e := tot_num ha hb h.tail
    rw [tot, e]
    have e2 : num (fun i => decide (max a p.1 ≤ i) && decide (i < min b p.2)) 16384 = clip a b p := by
      rw [num_between]
      unfold clip
      omega
    rw [← e2, ← num_or]
    · refine num_congr _ fun i _ _ => ?_
      rw [has_cons]
      have : (decide (max a p.1 ≤ i) && decide (i < min b p.2)) = ((decide (a ≤ i) && decide (i < b)) && inP p i) := by
        rw [Bool.eq_iff_iff]
        simp only [inP, Bool.and_eq_true, decide_eq_true_eq]
        omega
      rw [this, Bool.and_or_distrib_left]
    · intro i hi
      simp only [Bool.and_eq_true, decide_eq_true_eq] at hi
      rw [h.tail.out (by omega), Bool.and_false]
theorem tot_bound {a b : Int} (ha : 0 ≤ a) (hab : a ≤ b) (hb : b ≤ 16384) {l : Sts} (h : Good l) : 0 ≤ tot a b l ∧ tot a b l ≤ b - a := by
  rw [tot_num ha hb h]
  refine ⟨(num_bound _ _).1, ?_⟩
  have e : num (fun i => decide (a ≤ i) && decide (i < b)) 16384 = b - a := by rw [num_between]; omega
  have e2 : num (fun i => decide (a ≤ i) && decide (i < b)) 16384 = num (fun i => (decide (a ≤ i) && decide (i < b)) && has l i) 16384 + num (fun i => (decide (a ≤ i) && decide (i < b)) && !has l i) 16384 := by
    rw [← num_or]
    · refine num_congr _ fun i _ _ => ?_
      cases has l i <;> simp
    · intro i hi
      simp only [Bool.and_eq_true] at hi
      rw [hi.2]; simp
  have := (num_bound (fun i => (decide (a ≤ i) && decide (i < b)) && !has l i) 16384).1
  omega
/-- those that are not there -/
theorem tot_not {a b : Int} (ha : 0 ≤ a) (hab : a ≤ b) (hb : b ≤ 16384) {l : Sts} (h : Good l) : num (fun i => (decide (a ≤ i) && decide (i < b)) && !has l i) 16384 = b - a - tot a b l := by
  rw [tot_num ha hb h]
  have e : num (fun i => decide (a ≤ i) && decide (i < b)) 16384 = b - a := by rw [num_between]; omega
  have e2 : num (fun i => decide (a ≤ i) && decide (i < b)) 16384 = num (fun i => (decide (a ≤ i) && decide (i < b)) && has l i) 16384 + num (fun i => (decide (a ≤ i) && decide (i < b)) && !has l i) 16384 := by
    rw [← num_or]
    · refine num_congr _ fun i _ _ => ?_
      cases has l i <;> simp
    · intro i hi
      simp only [Bool.and_eq_true] at hi
      rw [hi.2]; simp
  omega
/-- the stretches' lengths -/
def lens : Sts → Int
  | [] => 0
  | p :: l => (p.2 - p.1) + lens l
theorem lens_append (l m : Sts) : lens (l ++ m) = lens l + lens m := by
  induction l with
  | nil => simp [lens]
  | cons p l ih => simp only [List.cons_append, lens, ih]; omega
theorem tot_all : ∀ {l : Sts} {lo : Int}, Canon lo 16384 l → 0 ≤ lo → tot 0 16384 l = lens l
  | [], _, _, _ => rfl
  | p :: l, lo, h, h0 => by
    have hp := h.1 p List.mem_cons_self
    rw [tot, lens, tot_all h.tail (by omega)]
    unfold clip
    omega

/-- where stretches are parted -/
def Parted (l : Sts) (k : Nat) (P : Int × Int → Prop) : Prop := k ≤ l.length ∧ (∀ p ∈ l.take k, ¬ P p) ∧ ∀ p ∈ l.drop k, P p

theorem mem_take_at {l : Sts} {k i : Nat} (h : i < k) (hl : i < l.length) : l.getD i (0, 0) ∈ l.take k := by
  rw [List.getD_eq_getElem?_getD, List.getElem?_eq_getElem hl]
  refine List.mem_iff_getElem.2 ⟨i, by simp; omega, ?_⟩
  simp
theorem mem_drop_at {l : Sts} {k i : Nat} (h : k ≤ i) (hl : i < l.length) : l.getD i (0, 0) ∈ l.drop k := by
  rw [List.getD_eq_getElem?_getD, List.getElem?_eq_getElem hl]
  refine List.mem_iff_getElem.2 ⟨i - k, by simp; omega, ?_⟩
  simp [Nat.add_sub_cancel' h]
theorem parted_of {l : Sts} {k : Nat} {P : Int × Int → Prop} (hk : k ≤ l.length) (h1 : ∀ i, i < k → ¬ P (l.getD i (0, 0))) (h2 : ∀ i, k ≤ i → i < l.length → P (l.getD i (0, 0))) : Parted l k P := by
  refine ⟨hk, fun p hp => ?_, fun p hp => ?_⟩
  · obtain ⟨i, hi, rfl⟩ := List.mem_iff_getElem.1 hp
    have hi' : i < k ∧ i < l.length := by simp at hi; omega
    have := h1 i hi'.1
    rw [List.getD_eq_getElem?_getD, List.getElem?_eq_getElem hi'.2] at this
    simpa using this
  · obtain ⟨i, hi, rfl⟩ := List.mem_iff_getElem.1 hp
    have hi' : k + i < l.length := by simp at hi; omega
    have := h2 (k + i) (by omega) hi'
    rw [List.getD_eq_getElem?_getD, List.getElem?_eq_getElem hi'] at this
    simpa using this
theorem at_mono {lo hi : Int} {l : Sts} (h : Canon lo hi l) {i j : Nat} (hij : i < j) (hj : j < l.length) : (l.getD i (0, 0)).2 < (l.getD j (0, 0)).1 := by
  rw [List.getD_eq_getElem?_getD, List.getD_eq_getElem?_getD, List.getElem?_eq_getElem hj, List.getElem?_eq_getElem (by omega)]
  exact List.pairwise_iff_getElem.1 h.2 i j (by omega) hj hij
theorem at_mem {l : Sts} {i : Nat} (h : i < l.length) : l.getD i (0, 0) ∈ l := by
  rw [List.getD_eq_getElem?_getD, List.getElem?_eq_getElem h]
  exact List.getElem_mem h
end Go.Proofs.Ytbolhkafdgiggaa

/-
  Who gets which layers, as plain numbers: a receiver is (tick, level, asked), what is asked is (receiver, level, tick). (No program.)
-/
namespace Go.Proofs.Ytkhdfcjdbhhikaa.Grp
set_option linter.unusedVariables false

abbrev Tri := Int × Int × Int

/-- from when on a receiver has what it asked for -/
def cm (j lv : Int) (x : Tri) : Int := if x.2.1 < x.2.2 then x.1 + j else x.1 + lv
/-- its level at a tick -/
def lat (j lv : Int) (x : Tri) (now : Int) : Int := if now < cm j lv x then x.2.1 else x.2.2
/-- what one asking leaves -/
def ask1 (j lv : Int) (x : Tri) (a : Tri) : Tri := (a.2.2, lat j lv x a.2.2, a.2.1)
def st1 (j lv : Int) (r : Int) (s a : Tri) : Tri := if a.1 = r then ask1 j lv s a else s
/-- a receiver behind all that was asked -/
def st (j lv : Int) (l : List Tri) (r : Int) : Tri := l.foldl (st1 j lv r) (0, -1, -1)
theorem st_nil (j lv r : Int) : st j lv [] r = (0, -1, -1) := rfl
theorem st_snoc (j lv : Int) (l : List Tri) (a : Tri) (r : Int) : st j lv (l ++ [a]) r = st1 j lv r (st j lv l r) a := by simp [st]
theorem st_take (j lv : Int) (l : List Tri) (k : Nat) (x : Tri) (h : l[k]? = some x) (r : Int) : st j lv (l.take (k + 1)) r = st1 j lv r (st j lv (l.take k) r) x := by
  have e : l.take (k + 1) = l.take k ++ [x] := by rw [List.take_add_one, h]; rfl
  rw [e, st_snoc]

/-- what may be asked -/
def fit (n : Int) (a : Tri) : Prop := 0 ≤ a.1 ∧ a.1 < n ∧ -1 ≤ a.2.1 ∧ a.2.1 ≤ 7 ∧ 0 ≤ a.2.2 ∧ a.2.2 ≤ 1099511627776
def Fit (n : Int) (l : List Tri) : Prop := ∀ a ∈ l, fit n a
theorem Fit.nil (n : Int) : Fit n [] := fun a h => by cases h
theorem Fit.snoc {n : Int} {l : List Tri} {a : Tri} (h : Fit n l) (ha : fit n a) : Fit n (l ++ [a]) := fun x hx => by
  rcases List.mem_append.1 hx with h1 | h1
  · exact h x h1
  · simp only [List.mem_singleton] at h1
    subst h1
    exact ha
/-- a receiver's numbers -/
def rfit (x : Tri) : Prop := 0 ≤ x.1 ∧ x.1 ≤ 1099511627776 ∧ -1 ≤ x.2.1 ∧ x.2.1 ≤ 7 ∧ -1 ≤ x.2.2 ∧ x.2.2 ≤ 7
theorem lat_fit {j lv : Int} {x : Tri} (h : rfit x) (now : Int) : -1 ≤ lat j lv x now ∧ lat j lv x now ≤ 7 := by
  obtain ⟨_, _, h1, h2, h3, h4⟩ := h
  unfold lat
  split <;> omega
theorem ask1_fit {j lv n : Int} {x a : Tri} (h : rfit x) (ha : fit n a) : rfit (ask1 j lv x a) := by
  obtain ⟨b1, b2, b3, b4, b5, b6⟩ := ha
  obtain ⟨l1, l2⟩ := lat_fit (j := j) (lv := lv) h a.2.2
  exact ⟨b5, b6, l1, l2, b3, b4⟩
theorem st1_fit {j lv n r : Int} {x a : Tri} (h : rfit x) (ha : fit n a) : rfit (st1 j lv r x a) := by
  unfold st1
  split
  · exact ask1_fit h ha
  · exact h
theorem foldl_fit {j lv n r : Int} : ∀ (l : List Tri) (s : Tri), rfit s → Fit n l → rfit (l.foldl (st1 j lv r) s)
  | [], s, h, _ => h
  | a :: l, s, h, hl => foldl_fit l _ (st1_fit h (hl a (List.mem_cons_self ..))) (fun x hx => hl x (List.mem_cons_of_mem _ hx))
theorem st_fit {j lv n : Int} {l : List Tri} (h : Fit n l) (r : Int) : rfit (st j lv l r) := foldl_fit l _ ⟨by decide, by decide, by decide, by decide, by decide, by decide⟩ h
theorem Fit.take {n : Int} {l : List Tri} (h : Fit n l) (k : Nat) : Fit n (l.take k) := fun a ha => h a (List.mem_of_mem_take ha)
theorem lat_late {j lv : Int} {x : Tri} {t : Int} (hj : j ≤ 64) (hl : lv ≤ 64) (h : x.1 + 64 ≤ t) : lat j lv x t = x.2.2 := by
  unfold lat cm
  split <;> split <;> omega

/-- when and for what a receiver asked last does not depend on the delays -/
theorem st_last (j lv j' lv' : Int) (l : List Tri) (r : Int) : (st j lv l r).1 = (st j' lv' l r).1 ∧ (st j lv l r).2.2 = (st j' lv' l r).2.2 := by
  have key : ∀ (l : List Tri) (s s' : Tri), s.1 = s'.1 → s.2.2 = s'.2.2 → (l.foldl (st1 j lv r) s).1 = (l.foldl (st1 j' lv' r) s').1 ∧ (l.foldl (st1 j lv r) s).2.2 = (l.foldl (st1 j' lv' r) s').2.2 := by
    intro l
    induction l with
    | nil => exact fun s s' h1 h2 => ⟨h1, h2⟩
    | cons a l ih =>
      intro s s' h1 h2
      simp only [List.foldl_cons]
      refine ih _ _ ?_ ?_ <;> unfold st1 <;> split <;> first | rfl | assumption
  exact key l _ _ rfl rfl

/-- the document's three numbers (the level, the next one, from when on), of a receiver -/
def Doc (j lv : Int) (x : Tri) (level next due : Int) : Prop := level = x.2.1 ∧ next = x.2.2 ∧ (due = cm j lv x ∨ x.2.1 = x.2.2)
theorem Doc.at {j lv : Int} {x : Tri} {level next due : Int} (h : Doc j lv x level next due) (now : Int) : (if due ≤ now then next else level) = lat j lv x now := by
  obtain ⟨rfl, rfl, h⟩ := h
  unfold lat
  rcases h with rfl | h
  · by_cases c : cm j lv x ≤ now
    · rw [if_pos c, if_neg (by omega)]
    · rw [if_neg c, if_pos (by omega)]
  · rw [h]; simp
theorem Doc.start (j lv r : Int) : Doc j lv (0, -1, -1) (-1) (-1) 0 := ⟨rfl, rfl, .inr rfl⟩
theorem Doc.ask {j lv : Int} {x : Tri} {level next due : Int} (h : Doc j lv x level next due) (a : Tri) : Doc j lv (ask1 j lv x a) (if due ≤ a.2.2 then next else level) a.2.1 (if (if due ≤ a.2.2 then next else level) < a.2.1 then a.2.2 + j else a.2.2 + lv) := by
  rw [h.at]
  exact ⟨rfl, rfl, .inl rfl⟩

/-- the error that the document says -/
abbrev badAsk (n : Int) (a : Tri) : Prop := a.1 < 0 ∨ n ≤ a.1 ∨ a.2.1 < -1 ∨ 7 < a.2.1 ∨ a.2.2 < 0 ∨ 1099511627776 < a.2.2
theorem fit_of_not_bad {n : Int} {a : Tri} (h : ¬ badAsk n a) : fit n a := by
  unfold badAsk at h
  unfold fit
  omega
def wrg (j lv n : Int) (l : List Tri) (a : Tri) : Int := if badAsk n a then 11 else if a.2.2 < (st j lv l a.1).1 then 23 else 0
/-- what was asked, behind one more asking -/
def aft (j lv n : Int) (l : List Tri) (a : Tri) : List Tri := if wrg j lv n l a = 0 then l ++ [a] else l
theorem aft_fit {j lv n : Int} {l : List Tri} {a : Tri} (h : Fit n l) : Fit n (aft j lv n l a) := by
  unfold aft
  split
  · rename_i e
    refine h.snoc (fit_of_not_bad fun hb => ?_)
    unfold wrg at e
    rw [if_pos hb] at e
    cases e
  · exact h
theorem aft_length (j lv n : Int) (l : List Tri) (a : Tri) : (aft j lv n l a).length ≤ l.length + 1 := by
  unfold aft
  split <;> simp

/-- all receivers -/
def rcs (j lv : Int) (l : List Tri) (n : Nat) : List Tri := (List.range n).map fun i : Nat => st j lv l (i : Int)
theorem rcs_length (j lv : Int) (l : List Tri) (n : Nat) : (rcs j lv l n).length = n := by simp [rcs]
theorem rcs_at (j lv : Int) (l : List Tri) (n i : Nat) (h : i < n) : (rcs j lv l n)[i]? = some (st j lv l (i : Int)) := by simp [rcs, h]
theorem rcs_ask (j lv : Int) (l : List Tri) (n i : Nat) (a : Tri) (h : a.1 = (i : Int)) (hi : i < n) : (rcs j lv l n).set i (ask1 j lv (st j lv l (i : Int)) a) = rcs j lv (l ++ [a]) n := by
  apply List.ext_getElem?
  intro k
  rw [List.getElem?_set]
  by_cases hk : k < n
  · rw [rcs_at _ _ _ _ _ hk, rcs_at _ _ _ _ _ hk, st_snoc, rcs_length]
    unfold st1
    by_cases e : i = k
    · subst e
      rw [if_pos rfl, if_pos hi, if_pos h]
    · rw [if_neg e, if_neg (by rw [h]; omega)]
  · have h1 : (rcs j lv l n)[k]? = none := by rw [List.getElem?_eq_none]; rw [rcs_length]; omega
    have h2 : (rcs j lv (l ++ [a]) n)[k]? = none := by rw [List.getElem?_eq_none]; rw [rcs_length]; omega
    rw [h1, h2, rcs_length, if_neg (by omega)]
theorem rcs_start (j lv : Int) (n : Nat) : rcs j lv [] n = List.replicate n (0, -1, -1) := by
  unfold rcs
  simp only [st_nil]
  rw [List.map_const', List.length_range]

/-- who of the first k gets a layer -/
def mem (j lv : Int) (l : List Tri) (layer now : Int) (k : Nat) : List Int := ((List.range k).filter fun i : Nat => decide (layer ≤ lat j lv (st j lv l (i : Int)) now)).map fun i : Nat => (i : Int)
theorem mem_succ (j lv : Int) (l : List Tri) (layer now : Int) (k : Nat) : mem j lv l layer now (k + 1) = mem j lv l layer now k ++ if layer ≤ lat j lv (st j lv l (k : Int)) now then [(k : Int)] else [] := by
  unfold mem
  rw [List.range_succ, List.filter_append, List.map_append]
  congr 1
  by_cases h : layer ≤ lat j lv (st j lv l (k : Int)) now <;> simp [h]
theorem mem_length_le (j lv : Int) (l : List Tri) (layer now : Int) (k : Nat) : (mem j lv l layer now k).length ≤ k := by
  unfold mem
  rw [List.length_map]
  exact Nat.le_trans (List.length_filter_le ..) (by simp)
theorem mem_more (j lv : Int) (l : List Tri) (layer layer' now : Int) (h : layer' ≤ layer) : ∀ k, (mem j lv l layer now k).length ≤ (mem j lv l layer' now k).length
  | 0 => Nat.le_refl _
  | k + 1 => by
    have ih := mem_more j lv l layer layer' now h k
    rw [mem_succ, mem_succ, List.length_append, List.length_append]
    by_cases h1 : layer ≤ lat j lv (st j lv l (k : Int)) now
    · rw [if_pos h1, if_pos (by omega)]; simp; omega
    · rw [if_neg h1]; simp; omega
theorem mem_at {j lv : Int} {l : List Tri} {layer now : Int} {n : Nat} : ∀ (k : Nat), k < n → layer ≤ lat j lv (st j lv l (k : Int)) now → (mem j lv l layer now n)[(mem j lv l layer now k).length]? = some (k : Int) ∧ (mem j lv l layer now k).length < (mem j lv l layer now n).length := by
  intro k hk h
  obtain ⟨d, rfl⟩ : ∃ d, n = k + 1 + d := ⟨n - (k + 1), by omega⟩
  have key : ∀ d, ∃ r, mem j lv l layer now (k + 1 + d) = mem j lv l layer now k ++ (k : Int) :: r := by
    intro d
    induction d with
    | zero => exact ⟨[], by rw [Nat.add_zero, mem_succ, if_pos h]⟩
    | succ d ih =>
      obtain ⟨r, hr⟩ := ih
      rw [← Nat.add_assoc, mem_succ, hr]
      exact ⟨_, by rw [List.append_assoc, List.cons_append]⟩
  obtain ⟨r, hr⟩ := key d
  rw [hr]
  exact ⟨by simp, by simp⟩
theorem mem_start (j lv : Int) (layer now : Int) (h : 0 ≤ layer) (k : Nat) : mem j lv [] layer now k = [] := by
  unfold mem
  rw [List.filter_eq_nil_iff.2 (fun i _ => ?_)]
  · rfl
  · have e : lat j lv (st j lv [] (i : Int)) now = -1 := by rw [st_nil]; unfold lat; split <;> rfl
    rw [decide_eq_true_eq, e]
    omega

/-- the latest tick at which one of the first k asked last, and so much later, or later alone -/
def top (l : List Tri) (later : Int) : Nat → Int
  | 0 => later
  | k + 1 => max (top l later k) ((st 0 0 l (k : Int)).1 + later)
theorem top_room {n : Int} {l : List Tri} (h : Fit n l) {later : Int} (h0 : 0 ≤ later) (h1 : later ≤ 1000) : ∀ k, 0 ≤ top l later k ∧ top l later k ≤ 1099511628776
  | 0 => ⟨h0, by unfold top; omega⟩
  | k + 1 => by
    have ih := top_room h h0 h1 k
    obtain ⟨s1, s2, _⟩ := st_fit (j := 0) (lv := 0) h (k : Int)
    unfold top
    omega
end Go.Proofs.Ytkhdfcjdbhhikaa.Grp

/-
  Reports as plain lists: 64 places, each with a tick and a rate or nothing; the rows that are known; the least one; what each call does. (No program.)
-/
import Derived.Test.YteokeieddapjhaaProg
namespace Go.Proofs.Yteokeieddapjhaa.Clr
set_option linter.unusedVariables false

/-- what one receiver told last: a tick, a rate -/
abbrev Slot := Option (Int × Int)
/-- a report: who, tick, rate -/
abbrev Rep := Int × Int × Int
def rw_ (i : Nat) : Slot → List Rep
  | none => []
  | some q => [((i : Int), q.1, q.2)]
/-- what is known, the receivers rising -/
def rows : Nat → List Slot → List Rep
  | _, [] => []
  | i, x :: l => rw_ i x ++ rows (i + 1) l
theorem rows_append (a b : List Slot) : ∀ i, rows i (a ++ b) = rows i a ++ rows (i + a.length) b := by
  induction a with
  | nil => intro i; simp [rows]
  | cons x a ih =>
    intro i
    simp only [List.cons_append, rows, ih, List.append_assoc, List.length_cons]
    rw [show i + 1 + a.length = i + (a.length + 1) by omega]
theorem rw_mem {i : Nat} {x : Slot} {t : Rep} (h : t ∈ rw_ i x) : t.1 = i := by
  cases x with
  | none => simp [rw_] at h
  | some q =>
    simp only [rw_, List.mem_cons, List.not_mem_nil, or_false] at h
    rw [h]
theorem rows_mem (l : List Slot) : ∀ (i : Nat) (t : Rep), t ∈ rows i l → (i : Int) ≤ t.1 ∧ t.1 < (i : Int) + l.length := by
  induction l with
  | nil => intro i t h; simp [rows] at h
  | cons x l ih =>
    intro i t h
    simp only [rows, List.mem_append] at h
    rcases h with h | h
    · have := rw_mem h
      simp only [List.length_cons]
      omega
    · have := ih _ _ h
      simp only [List.length_cons]
      omega
theorem rw_len (i : Nat) (x : Slot) : (rw_ i x).length ≤ 1 := by cases x <;> simp [rw_]
theorem rows_len (l : List Slot) : ∀ i, (rows i l).length ≤ l.length := by
  induction l with
  | nil => intro i; simp [rows]
  | cons x l ih =>
    intro i
    have := ih (i + 1)
    have := rw_len i x
    simp only [rows, List.length_append, List.length_cons]
    omega
theorem rw_srt (i : Nat) (x : Slot) : (rw_ i x).Pairwise (fun a b => a.1 < b.1) := by cases x <;> simp [rw_]
theorem rows_srt (l : List Slot) : ∀ i, (rows i l).Pairwise (fun a b => a.1 < b.1) := by
  induction l with
  | nil => intro i; simp [rows]
  | cons x l ih =>
    intro i
    simp only [rows, List.pairwise_append]
    refine ⟨rw_srt i x, ih _, fun a ha b hb => ?_⟩
    have := rw_mem ha
    have := rows_mem l _ _ hb
    omega

/-- what lies at a place -/
def sat (D : List Slot) (q : Nat) : Slot := (D[q]?).getD none
/-- what a receiver told last, whatever number it has -/
def la (D : List Slot) (r : Int) : Slot := if 0 ≤ r then sat D r.toNat else none
theorem la_nat (D : List Slot) (q : Nat) : la D (q : Int) = sat D q := by
  unfold la
  rw [if_pos (by omega)]
  rfl
theorem la_out {D : List Slot} {r : Int} (h : r < 0 ∨ (D.length : Int) ≤ r) : la D r = none := by
  unfold la
  split
  · unfold sat
    rw [List.getElem?_eq_none (by omega)]
    rfl
  · rfl
def lo (D : List Slot) (q : Nat) : List Rep := rows 0 (D.take q)
def hi (D : List Slot) (q : Nat) : List Rep := rows (q + 1) (D.drop (q + 1))
theorem split {D : List Slot} {q : Nat} (hq : q < D.length) : rows 0 D = lo D q ++ (rw_ q (sat D q) ++ hi D q) := by
  have e : D = D.take q ++ (sat D q :: D.drop (q + 1)) := by
    unfold sat
    rw [List.getElem?_eq_getElem hq]
    simp only [Option.getD_some]
    rw [← List.drop_eq_getElem_cons hq, List.take_append_drop]
  have := rows_append (D.take q) (sat D q :: D.drop (q + 1)) 0
  rw [← e] at this
  rw [this, List.length_take, Nat.min_eq_left (Nat.le_of_lt hq), Nat.zero_add]
  rfl
theorem sat_set {D : List Slot} {q : Nat} (hq : q < D.length) (y : Slot) : sat (D.set q y) q = y := by
  unfold sat
  rw [List.getElem?_set_self hq]
  rfl
theorem sat_set_ne {D : List Slot} {q k : Nat} (h : q ≠ k) (y : Slot) : sat (D.set q y) k = sat D k := by
  unfold sat
  rw [List.getElem?_set_ne h]
theorem split_set {D : List Slot} {q : Nat} (hq : q < D.length) (y : Slot) : rows 0 (D.set q y) = lo D q ++ (rw_ q y ++ hi D q) := by
  have h := split (D := D.set q y) (q := q) (by rw [List.length_set]; exact hq)
  rw [sat_set hq] at h
  rw [h]
  unfold lo hi
  rw [List.take_set_of_le (Nat.le_refl q), List.drop_set_of_lt (Nat.lt_succ_self q)]
theorem lo_lt {D : List Slot} {q : Nat} {t : Rep} (h : t ∈ lo D q) : t.1 < q := by
  have := rows_mem _ _ _ h
  have := List.length_take_le q D
  omega
theorem hi_gt {D : List Slot} {q : Nat} {t : Rep} (h : t ∈ hi D q) : (q : Int) < t.1 := by
  have := rows_mem _ _ _ h
  omega

/-- where a receiver's report stands or would stand -/
theorem place_at {l A B : List Rep} {r : Int} {k : Nat} (e : l = A ++ B) (hA : ∀ t ∈ A, t.1 < r) (hB : ∀ t ∈ B, r ≤ t.1) (hk : k ≤ l.length) (h1 : ∀ i t, i < k → l[i]? = some t → t.1 < r) (h2 : ∀ i t, k ≤ i → l[i]? = some t → r ≤ t.1) : k = A.length := by
  subst e
  rw [List.length_append] at hk
  rcases Nat.lt_trichotomy k A.length with h | h | h
  · have g : (A ++ B)[k]? = some A[k] := by rw [List.getElem?_append_left h, List.getElem?_eq_getElem h]
    have a := h2 k _ (Nat.le_refl _) g
    have b := hA _ (List.getElem_mem h)
    omega
  · exact h
  · have hb : 0 < B.length := by omega
    have g : (A ++ B)[A.length]? = some B[0] := by rw [List.getElem?_append_right (Nat.le_refl _), Nat.sub_self, List.getElem?_eq_getElem hb]
    have a := h1 A.length _ h g
    have b := hB _ (List.getElem_mem hb)
    omega

/-- the lesser rate, of two the first -/
def mn (m t : Rep) : Rep := if t.2.2 < m.2.2 then t else m
def least : List Rep → Option Rep
  | [] => none
  | x :: l => some (l.foldl mn x)
theorem least_snoc (l : List Rep) (t : Rep) : least (l ++ [t]) = some (match least l with | none => t | some m => mn m t) := by
  cases l with
  | nil => rfl
  | cons x l => simp [least, List.foldl_append]
theorem least_none {l : List Rep} (h : least l = none) : l = [] := by
  cases l with
  | nil => rfl
  | cons x l => simp [least] at h
theorem foldl_mem (l : List Rep) : ∀ x, l.foldl mn x = x ∨ l.foldl mn x ∈ l := by
  induction l with
  | nil => intro x; exact .inl rfl
  | cons y l ih =>
    intro x
    rw [List.foldl_cons]
    rcases ih (mn x y) with h | h
    · rw [h]
      unfold mn
      split
      · exact .inr (List.mem_cons_self ..)
      · exact .inl rfl
    · exact .inr (List.mem_cons_of_mem _ h)
theorem least_mem {l : List Rep} {m : Rep} (h : least l = some m) : m ∈ l := by
  cases l with
  | nil => simp [least] at h
  | cons x l =>
    simp only [least, Option.some.injEq] at h
    rw [← h]
    rcases foldl_mem l x with e | e
    · rw [e]; exact List.mem_cons_self ..
    · exact List.mem_cons_of_mem _ e

/-- a book: its places, and who is laid as the CLR -/
abbrev BS := List Slot × Int
def isR (r : Int) : Prop := 0 ≤ r ∧ r < 64
instance (r : Int) : Decidable (isR r) := inferInstanceAs (Decidable (_ ∧ _))
def isT (t : Int) : Prop := 0 ≤ t ∧ t ≤ 1099511627776
instance (t : Int) : Decidable (isT t) := inferInstanceAs (Decidable (_ ∧ _))
/-- the CLR's last report -/
def cl (s : BS) : Slot := la s.1 s.2
/-- the CLR, -1: none -/
def clr (s : BS) : Int := if (cl s).isSome then s.2 else -1
def stale (s : BS) (lim r t now : Int) : Prop := t + lim < now ∨ now < t ∨ ∃ q, la s.1 r = some q ∧ t < q.1
instance (s : BS) (lim r t now : Int) : Decidable (stale s lim r t now) := by
  unfold stale
  cases h : la s.1 r with
  | none => exact decidable_of_iff (t + lim < now ∨ now < t) ⟨fun h => h.elim .inl (fun h => .inr (.inl h)), fun h => by rcases h with h | h | ⟨q, h, _⟩; exact .inl h; exact .inr h; simp at h⟩
  | some q => exact decidable_of_iff (t + lim < now ∨ now < t ∨ t < q.1) ⟨fun h => by rcases h with h | h | h; exact .inl h; exact .inr (.inl h); exact .inr (.inr ⟨q, rfl, h⟩), fun h => by rcases h with h | h | ⟨q', h, g⟩; exact .inl h; exact .inr (.inl h); simp at h; subst h; exact .inr (.inr g)⟩
/-- is who tells this rate the CLR by it? -/
def limits (s : BS) (x : Int) : Prop := ∀ q, cl s = some q → x < q.2
instance (s : BS) (x : Int) : Decidable (limits s x) := by
  unfold limits
  cases h : cl s with
  | none => exact isTrue (fun q e => by simp at e)
  | some q => exact decidable_of_iff (x < q.2) ⟨fun h q' e => by simp at e; subst e; exact h, fun h => h q rfl⟩
def put (s : BS) (r t x : Int) : BS := (s.1.set r.toNat (some (t, x)), if limits s x then r else s.2)
/-- a report comes -/
def btake (s : BS) (lim r t x now : Int) : BS × Int :=
  if isR r ∧ isT t ∧ isT now then if stale s lim r t now then (s, 23) else (put s r t x, 0) else (s, 11)
/-- a receiver is gone -/
def bleave (s : BS) (r : Int) : BS × Bool := if (la s.1 r).isSome then ((s.1.set r.toNat none, s.2), r == s.2) else (s, false)
/-- time goes by -/
def bpass (s : BS) (lim now : Int) : BS × Bool := match cl s with
  | none => (s, false)
  | some q => if q.1 + lim < now then bleave s s.2 else (s, false)

/-- what a book can be -/
def FitB (s : BS) : Prop := s.1.length = 64 ∧ ∀ k q, sat s.1 k = some q → 0 ≤ q.1 ∧ q.1 ≤ 1099511627776
def bnew : BS := (List.replicate 64 none, 0)
theorem fit_new : FitB bnew := by
  refine ⟨by simp [bnew], fun k q h => ?_⟩
  unfold sat bnew at h
  rw [List.getElem?_replicate] at h
  split at h <;> simp at h
theorem la_some {s : BS} (h : FitB s) {r : Int} {q : Int × Int} (e : la s.1 r = some q) : isR r ∧ isT q.1 := by
  by_cases g : 0 ≤ r ∧ r < 64
  · refine ⟨g, ?_⟩
    unfold la at e
    rw [if_pos g.1] at e
    exact h.2 _ _ e
  · rw [la_out (by rw [h.1]; omega)] at e
    simp at e
theorem fit_set {s : BS} (h : FitB s) (k : Nat) (y : Slot) (p : Int) (hy : ∀ q, y = some q → isT q.1) : FitB (s.1.set k y, p) := by
  refine ⟨by simp only [List.length_set]; exact h.1, fun j q e => ?_⟩
  simp only at e
  by_cases g : k = j
  · subst g
    by_cases hk : k < s.1.length
    · rw [sat_set hk] at e
      exact hy q e
    · unfold sat at e
      rw [List.getElem?_eq_none (by rw [List.length_set]; omega)] at e
      simp at e
  · rw [sat_set_ne g] at e
    exact h.2 _ _ e
theorem fit_take {s : BS} (h : FitB s) (lim r t x now : Int) : FitB (btake s lim r t x now).1 := by
  unfold btake
  split
  · split
    · exact h
    · rename_i g _
      exact fit_set h _ _ _ (fun q e => by simp at e; rw [← e]; exact g.2.1)
  · exact h
theorem fit_leave {s : BS} (h : FitB s) (r : Int) : FitB (bleave s r).1 := by
  unfold bleave
  split
  · exact fit_set h _ _ _ (fun q e => by simp at e)
  · exact h
theorem fit_pass {s : BS} (h : FitB s) (lim now : Int) : FitB (bpass s lim now).1 := by
  unfold bpass
  split
  · exact h
  · split
    · exact fit_leave h _
    · exact h

/-- the CLR behind each call -/
theorem la_set {D : List Slot} {r : Int} (h : isR r) (hD : D.length = 64) (y : Slot) (k : Int) : la (D.set r.toNat y) k = if k = r then y else la D k := by
  unfold la
  have h1 := h.1
  have h2 := h.2
  by_cases e : k = r
  · subst e
    rw [if_pos h1, if_pos rfl, sat_set (by omega)]
  · rw [if_neg e]
    split
    · rw [sat_set_ne (by omega)]
    · rfl
theorem clr_room {s : BS} (h : FitB s) : clr s = -1 ∨ isR (clr s) := by
  unfold clr
  cases e : cl s with
  | none => exact .inl rfl
  | some q => exact .inr (la_some h e).1
theorem clr_put {s : BS} (h : FitB s) {r : Int} (hr : isR r) (t x : Int) : clr (put s r t x) = if limits s x then r else clr s := by
  unfold put
  by_cases g : limits s x
  · rw [if_pos g, if_pos g]
    unfold clr cl
    simp only
    rw [la_set hr h.1, if_pos rfl]
    rfl
  · rw [if_neg g, if_neg g]
    have e : ∃ q, cl s = some q := by
      cases e : cl s with
      | none => exact absurd (fun q g => by rw [e] at g; simp at g) g
      | some q => exact ⟨q, rfl⟩
    obtain ⟨q, e⟩ := e
    unfold clr
    rw [e]
    unfold cl at e ⊢
    simp only
    rw [la_set hr h.1]
    rw [e]
    split <;> rfl
theorem clr_leave {s : BS} (h : FitB s) {r : Int} (hr : (la s.1 r).isSome) : clr (bleave s r).1 = (if clr s = r then -1 else clr s) ∧ (bleave s r).2 = (clr s == r) := by
  unfold bleave
  rw [if_pos hr]
  obtain ⟨q, e⟩ := Option.isSome_iff_exists.1 hr
  have hi := (la_some h e).1
  by_cases g : r = s.2
  · subst g
    have ec : clr s = s.2 := by unfold clr cl; rw [if_pos hr]
    rw [ec]
    refine ⟨?_, by simp⟩
    unfold clr cl
    simp only
    rw [la_set hi h.1, if_pos rfl, if_pos trivial]
    rfl
  · have ne : clr s ≠ r := by
      unfold clr
      split
      · exact fun e => g e.symm
      · have := hi.1; omega
    rw [if_neg ne]
    refine ⟨?_, ?_⟩
    · unfold clr cl
      simp only
      rw [la_set hi h.1, if_neg (show ¬ s.2 = r from fun e => g e.symm)]
    · simp only
      rw [beq_eq_false_iff_ne.2 g, beq_eq_false_iff_ne.2 ne]
theorem clr_at {s : BS} (h : FitB s) (g : 0 ≤ clr s) : clr s = s.2 ∧ ∃ q, cl s = some q ∧ sat s.1 s.2.toNat = some q ∧ isR s.2 := by
  unfold clr at g ⊢
  cases e : cl s with
  | none => rw [e] at g; simp at g
  | some q =>
    refine ⟨rfl, q, rfl, ?_, (la_some h e).1⟩
    have := (la_some h e).1.1
    unfold cl la at e
    rw [if_pos this] at e
    exact e
theorem clr_none {s : BS} (h : FitB s) (g : clr s < 0) : clr s = -1 ∧ cl s = none := by
  unfold clr at g ⊢
  cases e : cl s with
  | none => exact ⟨rfl, rfl⟩
  | some q =>
    rw [e] at g
    have := (la_some h e).1.1
    simp at g
    omega
end Go.Proofs.Yteokeieddapjhaa.Clr

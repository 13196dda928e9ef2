/-
  Histories as plain numbers and lists: intervals, their weights, means, rates. (Of package fix it uses what Ratio tells; nothing else of a program.)
-/
import Derived.Test.YtlglhggfhlpbjaaFix
namespace Go.Proofs.Ytlglhggfhlpbjaa.His
set_option linter.unusedVariables false

def wt (i : Nat) : Int := ([5, 5, 5, 5, 4, 3, 2, 1] : List Int).getD i 0
theorem wt_room (i : Nat) : 0 ≤ wt i ∧ wt i ≤ 5 := by
  unfold wt
  match i with
  | 0 | 1 | 2 | 3 | 4 | 5 | 6 | 7 => decide
  | n + 8 => simp
theorem wt_far (i : Nat) (h : 8 ≤ i) : wt i = 0 := by
  unfold wt
  match i, h with
  | n + 8, _ => simp
/-- intervals, the newest first, each times its weight, from the f-th weight on -/
def wsum (f : Nat) : List Int → Int
  | [] => 0
  | x :: r => x * wt f + wsum (f + 1) r
/-- .. these weights -/
def wall (f : Nat) : List Int → Int
  | [] => 0
  | _ :: r => wt f + wall (f + 1) r
theorem wsum_far : ∀ (l : List Int) (f : Nat), 8 ≤ f → wsum f l = 0
  | [], _, _ => rfl
  | x :: r, f, h => by simp only [wsum, wt_far f h, wsum_far r (f + 1) (by omega)]; omega
theorem wall_far : ∀ (l : List Int) (f : Nat), 8 ≤ f → wall f l = 0
  | [], _, _ => rfl
  | x :: r, f, h => by simp only [wall, wt_far f h, wall_far r (f + 1) (by omega)]; omega
theorem wsum_cut : ∀ (l : List Int) (f k : Nat), 8 ≤ f + k → wsum f (l.take k) = wsum f l
  | [], _, _, _ => by simp
  | x :: r, f, 0, h => by rw [List.take_zero, wsum_far (x :: r) f (by omega)]; rfl
  | x :: r, f, k + 1, h => by rw [List.take_succ_cons]; simp only [wsum]; rw [wsum_cut r (f + 1) k (by omega)]
theorem wall_cut : ∀ (l : List Int) (f k : Nat), 8 ≤ f + k → wall f (l.take k) = wall f l
  | [], _, _, _ => by simp
  | x :: r, f, 0, h => by rw [List.take_zero, wall_far (x :: r) f (by omega)]; rfl
  | x :: r, f, k + 1, h => by rw [List.take_succ_cons]; simp only [wall]; rw [wall_cut r (f + 1) k (by omega)]
theorem wsum_next : ∀ (l : List Int) (f k : Nat), k < l.length → wsum f (l.take (k + 1)) = wsum f (l.take k) + l.getD k 0 * wt (f + k)
  | [], _, _, h => by simp at h
  | x :: r, f, 0, h => by simp [wsum]
  | x :: r, f, k + 1, h => by
    rw [List.take_succ_cons, List.take_succ_cons]
    simp only [wsum]
    rw [wsum_next r (f + 1) k (by simpa using h), List.getD_cons_succ, show f + 1 + k = f + (k + 1) by omega]
    omega
theorem wall_next : ∀ (l : List Int) (f k : Nat), k < l.length → wall f (l.take (k + 1)) = wall f (l.take k) + wt (f + k)
  | [], _, _, h => by simp at h
  | x :: r, f, 0, h => by simp [wall]
  | x :: r, f, k + 1, h => by
    rw [List.take_succ_cons, List.take_succ_cons]
    simp only [wall]
    rw [wall_next r (f + 1) k (by simpa using h), show f + 1 + k = f + (k + 1) by omega]
    omega
def Small (l : List Int) : Prop := ∀ x ∈ l, 0 ≤ x ∧ x ≤ 1048576
theorem Small.take {l : List Int} (h : Small l) (k : Nat) : Small (l.take k) := fun x hx => h x (List.mem_of_mem_take hx)
theorem Small.getD {l : List Int} (h : Small l) (k : Nat) : 0 ≤ l.getD k 0 ∧ l.getD k 0 ≤ 1048576 := by
  rw [List.getD_eq_getElem?_getD]
  cases e : l[k]? with
  | none => simp
  | some x => exact h x (List.mem_of_getElem? e)
theorem wall_room : ∀ (l : List Int) (f : Nat), 0 ≤ wall f l ∧ wall f l ≤ 5 * (l.length : Int)
  | [], _ => by simp [wall]
  | x :: r, f => by
    have h1 := wt_room f
    have h2 := wall_room r (f + 1)
    simp only [wall, List.length_cons]
    push_cast
    omega
theorem wsum_room : ∀ (l : List Int) (f : Nat), Small l → 0 ≤ wsum f l ∧ wsum f l ≤ 1048576 * wall f l
  | [], _, _ => by simp [wsum, wall]
  | x :: r, f, h => by
    have h1 := wt_room f
    have h2 := wsum_room r (f + 1) (fun y hy => h y (List.mem_cons_of_mem _ hy))
    have hx := h x (List.mem_cons_self ..)
    have p0 : 0 ≤ x * wt f := Int.mul_nonneg hx.1 h1.1
    have p1 : x * wt f ≤ 1048576 * wt f := Int.mul_le_mul_of_nonneg_right hx.2 h1.1
    simp only [wsum, wall]
    omega
theorem wall_pos (l : List Int) (h : l ≠ []) : 5 ≤ wall 0 l := by
  cases l with
  | nil => exact absurd rfl h
  | cons x r =>
    have := wall_room r (0 + 1)
    have e : wt 0 = 5 := rfl
    simp only [wall, e]
    omega

def Fit (o : Int) (l : List Int) : Prop := (0 ≤ o ∧ o ≤ 1048576) ∧ l.length ≤ 8 ∧ Small l
/-- all that is ever added up is small -/
theorem Fit.room {o : Int} {l : List Int} (h : Fit o l) (f k : Nat) : (0 ≤ wsum f (l.take k) ∧ wsum f (l.take k) ≤ 41943040) ∧ 0 ≤ wall f (l.take k) ∧ wall f (l.take k) ≤ 40 := by
  have h1 := wall_room (l.take k) f
  have h2 := wsum_room (l.take k) f (h.2.2.take k)
  have h3 : (l.take k).length ≤ 8 := by rw [List.length_take]; have := h.2.1; omega
  have h4 : ((l.take k).length : Int) ≤ 8 := by omega
  omega
theorem Fit.all {o : Int} {l : List Int} (h : Fit o l) (f : Nat) : (0 ≤ wsum f l ∧ wsum f l ≤ 41943040) ∧ 0 ≤ wall f l ∧ wall f l ≤ 40 := by
  have := h.room f l.length
  rwa [List.take_length] at this

/-- one call -/
abbrev Hs := Int × List Int
def perr (o n : Int) : Int := if n < 0 ∨ 65536 < n ∨ 1048576 < o + n then 11 else 0
def hst (s : Hs) (q : Int × Int) : Hs :=
  if q.1 = 1 then (if q.2 < 0 ∨ 65536 < q.2 ∨ 1048576 < s.1 + q.2 then s else (s.1 + q.2, s.2))
  else if q.1 = 2 then (0, (s.1 :: s.2).take 8)
  else if q.1 = 3 then (if s.2.length = 1 ∧ 1 ≤ q.2 ∧ q.2 ≤ 1048576 then (s.1, [q.2]) else s)
  else s
theorem fit_loss {o : Int} {l : List Int} (h : Fit o l) : Fit 0 ((o :: l).take 8) := by
  refine ⟨by decide, by rw [List.length_take]; omega, fun x hx => ?_⟩
  rcases List.mem_cons.1 (List.mem_of_mem_take hx) with e | e
  · subst e; exact h.1
  · exact h.2.2 x e
theorem fit_start {o n : Int} {l : List Int} (h : Fit o l) (h1 : 1 ≤ n) (h2 : n ≤ 1048576) : Fit o [n] := by
  refine ⟨h.1, by simp, fun x hx => ?_⟩
  simp only [List.mem_singleton] at hx
  omega
theorem hst_fit (s : Hs) (q : Int × Int) (h : Fit s.1 s.2) : Fit (hst s q).1 (hst s q).2 := by
  unfold hst
  split
  · split
    · exact h
    · exact ⟨⟨by have := h.1; simp only; omega, by have := h.1; simp only; omega⟩, h.2⟩
  · split
    · exact fit_loss h
    · split
      · split
        · exact fit_start h (by omega) (by omega)
        · exact h
      · exact h
def hrun (l : List (Int × Int)) : Hs := l.foldl hst (0, [])
theorem hrun_nil : hrun [] = (0, []) := rfl
theorem hrun_snoc (l : List (Int × Int)) (q : Int × Int) : hrun (l ++ [q]) = hst (hrun l) q := by simp [hrun]
theorem hrun_append (l r : List (Int × Int)) : hrun (l ++ r) = r.foldl hst (hrun l) := by simp [hrun]
theorem foldl_fit : ∀ (l : List (Int × Int)) (s : Hs), Fit s.1 s.2 → Fit (l.foldl hst s).1 (l.foldl hst s).2
  | [], _, h => h
  | q :: l, s, h => foldl_fit l (hst s q) (hst_fit s q h)
theorem hrun_fit (l : List (Int × Int)) : Fit (hrun l).1 (hrun l).2 := foldl_fit l _ ⟨by decide, by simp, fun x hx => by simp at hx⟩
theorem take_next {α : Type} (l : List α) (k : Nat) (x : α) (h : l[k]? = some x) : l.take (k + 1) = l.take k ++ [x] := by
  rw [List.take_add_one, h]; rfl
theorem hrun_next (l : List (Int × Int)) (k : Nat) (q : Int × Int) (h : l[k]? = some q) : hrun (l.take (k + 1)) = hst (hrun (l.take k)) q := by rw [take_next l k q h, hrun_snoc]

/-- means -/
theorem fratio_small (a b : Int) (h0 : 0 ≤ a) (h1 : a < 4294967296) (hb : 0 < b) : fratio a b = a * 4294967296 / b := by
  unfold fratio
  rw [if_neg]
  omega
def hfirst (l : List Int) : Int := fratio (wsum 0 l) (wall 0 l)
def hsecond (t o : Int) (l : List Int) : Int := fratio (wsum 1 l + o * (t * 5)) (wall 1 l + t * 5)
def hmean (o : Int) (l : List Int) : Int := if l = [] then 18446744073709551615 else max (hfirst l) (hsecond 1 o l)
abbrev hlong (o : Int) (l : List Int) : Prop := 2 * wsum 0 l < o * wall 0 l
def hdisc (o : Int) (l : List Int) : Int := if l = [] then 18446744073709551615 else if hlong o l then max (hfirst l) (hsecond 2 o l) else max (hfirst l) (hsecond 1 o l)
def hrate (o : Int) (l : List Int) : Int := if l = [] then 0 else min (fratio 4294967296 (hmean o l)) 4294967296

theorem first_div {o : Int} {l : List Int} (h : Fit o l) (hl : l ≠ []) : hfirst l = wsum 0 l * 4294967296 / wall 0 l := by
  have r := h.all 0
  have p := wall_pos l hl
  exact fratio_small _ _ r.1.1 (by omega) (by omega)
theorem second_div {o : Int} {l : List Int} (t : Int) (h : Fit o l) (h1 : 1 ≤ t) (h2 : t ≤ 2) : hsecond t o l = (wsum 1 l + o * (t * 5)) * 4294967296 / (wall 1 l + t * 5) := by
  have r := h.all 1
  have ho := h.1
  have p0 : 0 ≤ o * (t * 5) := Int.mul_nonneg ho.1 (by omega)
  have p1 : o * (t * 5) ≤ 1048576 * (t * 5) := Int.mul_le_mul_of_nonneg_right ho.2 (by omega)
  exact fratio_small _ _ (by omega) (by omega) (by omega)
/-- a mean of intervals up to 2^20 is none greater -/
theorem div_top (a b : Int) (h0 : 0 ≤ a) (hb : 0 < b) (h : a ≤ 1048576 * b) : 0 ≤ a * 4294967296 / b ∧ a * 4294967296 / b ≤ 4503599627370496 := by
  constructor
  · exact Int.ediv_nonneg (by omega) (by omega)
  · have : a * 4294967296 ≤ 4503599627370496 * b := by omega
    exact Int.ediv_le_of_le_mul hb this
theorem first_room {o : Int} {l : List Int} (h : Fit o l) (hl : l ≠ []) : 0 ≤ hfirst l ∧ hfirst l ≤ 4503599627370496 := by
  rw [first_div h hl]
  have p := wall_pos l hl
  have s := wsum_room l 0 h.2.2
  exact div_top _ _ s.1 (by omega) s.2
theorem second_room {o : Int} {l : List Int} (t : Int) (h : Fit o l) (h1 : 1 ≤ t) (h2 : t ≤ 2) : 0 ≤ hsecond t o l ∧ hsecond t o l ≤ 4503599627370496 := by
  rw [second_div t h h1 h2]
  have s := wsum_room l 1 h.2.2
  have r := h.all 1
  have ho := h.1
  have p0 : 0 ≤ o * (t * 5) := Int.mul_nonneg ho.1 (by omega)
  have p1 : o * (t * 5) ≤ 1048576 * (t * 5) := Int.mul_le_mul_of_nonneg_right ho.2 (by omega)
  exact div_top _ _ (by omega) (by omega) (by omega)
theorem mean_room {o : Int} {l : List Int} (h : Fit o l) : 0 ≤ hmean o l ∧ hmean o l < 18446744073709551616 := by
  unfold hmean
  split
  · decide
  · rename_i hl
    have h1 := first_room h hl
    have h2 := second_room 1 h (by omega) (by omega)
    omega
theorem mean_top {o : Int} {l : List Int} (h : Fit o l) (hl : l ≠ []) : hmean o l ≤ 4503599627370496 := by
  unfold hmean
  rw [if_neg hl]
  have h1 := first_room h hl
  have h2 := second_room 1 h (by omega) (by omega)
  omega
/-- long, as the document's numbers tell it -/
theorem long_iff {o : Int} {l : List Int} (h : Fit o l) (hl : l ≠ []) : 2 * hfirst l < o * 4294967296 ↔ hlong o l := by
  rw [first_div h hl]
  have p := wall_pos l hl
  have ho := h.1
  unfold hlong
  have e : o * 4294967296 = 2 * (o * 2147483648) := by omega
  rw [e]
  constructor
  · intro q
    have q1 : wsum 0 l * 4294967296 / wall 0 l < o * 2147483648 := by omega
    have q2 : wsum 0 l * 4294967296 < o * 2147483648 * wall 0 l := (Int.ediv_lt_iff_lt_mul (by omega)).1 q1
    have e2 : o * 2147483648 * wall 0 l = o * wall 0 l * 2147483648 := by rw [Int.mul_right_comm]
    omega
  · intro q
    have e2 : o * 2147483648 * wall 0 l = o * wall 0 l * 2147483648 := by rw [Int.mul_right_comm]
    have q1 : wsum 0 l * 4294967296 / wall 0 l < o * 2147483648 := (Int.ediv_lt_iff_lt_mul (by omega)).2 (by omega)
    omega
/-- rates -/
theorem rate_room {o : Int} {l : List Int} (h : Fit o l) (hl : l ≠ []) : 0 < hrate o l ∧ hrate o l ≤ 4294967296 := by
  unfold hrate
  rw [if_neg hl]
  have m0 := mean_room h
  have m1 := mean_top h hl
  have : 1 ≤ fratio 4294967296 (hmean o l) := by
    unfold fratio
    split
    · omega
    · exact (Int.le_ediv_iff_mul_le (by omega)).2 (by omega)
  omega
theorem mean_up {o o' : Int} {l : List Int} (h : Fit o l) (h' : Fit o' l) (hl : l ≠ []) (ho : o ≤ o') : hmean o l ≤ hmean o' l := by
  unfold hmean
  rw [if_neg hl, if_neg hl]
  have : hsecond 1 o l ≤ hsecond 1 o' l := by
    rw [second_div 1 h (by omega) (by omega), second_div 1 h' (by omega) (by omega)]
    have r := h.all 1
    exact Int.ediv_le_ediv (by omega) (by omega)
  omega
theorem ratio_down (a b b' : Int) (h0 : 0 ≤ b) (h : b ≤ b') (ha : 0 ≤ a) (ha' : a < 18446744073709551616) : fratio a b' ≤ fratio a b := by
  unfold fratio
  split
  · rw [if_pos (by omega)]; omega
  · rename_i h1
    split
    · have hb : 0 < b' := by have : 0 ≤ a / 4294967296 := by omega
                             omega
      have : a * 4294967296 < 18446744073709551616 * b' := by omega
      have := (Int.ediv_lt_iff_lt_mul hb).2 this
      omega
    · rename_i h2
      have hb : 0 < b := by omega
      have q0 : 0 ≤ a * 4294967296 / b' := Int.ediv_nonneg (by omega) (by omega)
      refine (Int.le_ediv_iff_mul_le hb).2 ?_
      have q1 : a * 4294967296 / b' * b ≤ a * 4294967296 / b' * b' := Int.mul_le_mul_of_nonneg_left h q0
      have q2 := Int.ediv_mul_le (a * 4294967296) (show b' ≠ 0 by omega)
      omega
theorem rate_down {o o' : Int} {l : List Int} (h : Fit o l) (h' : Fit o' l) (ho : o ≤ o') : hrate o' l ≤ hrate o l := by
  unfold hrate
  by_cases hl : l = []
  · rw [if_pos hl, if_pos hl]; omega
  · rw [if_neg hl, if_neg hl]
    have := ratio_down 4294967296 _ _ (mean_room h).1 (mean_up h h' hl ho) (by omega) (by omega)
    omega
end Go.Proofs.Ytlglhggfhlpbjaa.His

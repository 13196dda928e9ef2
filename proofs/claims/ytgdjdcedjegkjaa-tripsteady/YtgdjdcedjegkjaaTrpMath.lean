/-
  A round trip's guess as plain numbers: what a sample lasts, what the guess is behind it, between which numbers it lies. (Nothing of a program.)
-/
import Derived.Test.YtgdjdcedjegkjaaLeaf
namespace Go.Proofs.Ytgdjdcedjegkjaa.Trp
set_option linter.unusedVariables false

/-- a sample as it comes: now, echo, hold -/
abbrev Tri := Int × Int × Int
/-- what it lasted; -1: it is none -/
def lasted (a e h : Int) : Int :=
  if a < 0 ∨ 1099511627776 < a ∨ e < 0 ∨ 1099511627776 < e ∨ h < 0 ∨ 1099511627776 < h then -1
  else if a - e - h < 0 ∨ 1048576 < a - e - h then -1
  else if a - e - h = 0 then 1 else a - e - h
def lst (o : Tri) : Int := lasted o.1 o.2.1 o.2.2
theorem lasted_room (a e h : Int) : lasted a e h = -1 ∨ (1 ≤ lasted a e h ∧ lasted a e h ≤ 1048576) := by
  unfold lasted
  split
  · exact .inl rfl
  · split
    · exact .inl rfl
    · split
      · exact .inr (by decide)
      · exact .inr (by omega)
theorem lst_room (o : Tri) : lst o = -1 ∨ (1 ≤ lst o ∧ lst o ≤ 1048576) := lasted_room _ _ _
theorem lasted_bad (a e h : Int) (q : a < 0 ∨ 1099511627776 < a ∨ e < 0 ∨ 1099511627776 < e ∨ h < 0 ∨ 1099511627776 < h ∨ a - e - h < 0 ∨ 1048576 < a - e - h) : lasted a e h = -1 := by
  unfold lasted
  split
  · rfl
  · rw [if_pos (by omega)]
theorem lasted_good (a e h : Int) (q : ¬ (a < 0 ∨ 1099511627776 < a ∨ e < 0 ∨ 1099511627776 < e ∨ h < 0 ∨ 1099511627776 < h ∨ a - e - h < 0 ∨ 1048576 < a - e - h)) : lasted a e h = max (a - e - h) 1 := by
  unfold lasted
  rw [if_neg (by omega), if_neg (by omega)]
  split <;> omega

/-- a guess and how many samples there were -/
abbrev TS := Int × Int
/-- the guess behind one more that lasted x -/
def nxt (g n x : Int) : Int := if n = 0 then x * 4294967296 else g - g / 8 + x * 4294967296 / 8
def tst (s : TS) (x : Int) : TS := if x < 0 then s else (nxt s.1 s.2 x, s.2 + 1)
def Fit (s : TS) : Prop := 4294967296 ≤ s.1 ∧ s.1 < 18446744073709551616 ∧ 0 ≤ s.2 ∧ (0 < s.2 → s.1 ≤ 4503599627370496)
def tnew (f : Int) : TS := (max f 4294967296, 0)
theorem fit_new (f : Int) (h : f < 18446744073709551616) : Fit (tnew f) := ⟨by simp only [tnew]; omega, by simp only [tnew]; omega, by simp [tnew], by simp [tnew]⟩
theorem fit_step {s : TS} {x : Int} (h : Fit s) (hx : x = -1 ∨ (1 ≤ x ∧ x ≤ 1048576)) : Fit (tst s x) := by
  obtain ⟨h1, h2, h3, h4⟩ := h
  unfold tst
  split
  · exact ⟨h1, h2, h3, h4⟩
  · rcases hx with hx | hx
    · omega
    · unfold Fit nxt
      simp only
      split
      · omega
      · have := h4 (by omega)
        omega
def tstep (s : TS) (o : Tri) : TS := tst s (lst o)
def trun (f : Int) (l : List Tri) : TS := l.foldl tstep (tnew f)
theorem fold_fit (l : List Tri) : ∀ s, Fit s → Fit (l.foldl tstep s) := by
  induction l with
  | nil => exact fun s h => h
  | cons o l ih => exact fun s h => ih _ (fit_step h (lst_room o))
theorem trun_fit (f : Int) (h : f < 18446744073709551616) (l : List Tri) : Fit (trun f l) := fold_fit l _ (fit_new f h)
theorem fold_le (l : List Tri) : ∀ s : TS, (l.foldl tstep s).2 ≤ s.2 + (l.length : Int) := by
  induction l with
  | nil => intro s; simp
  | cons o l ih =>
    intro s
    have h1 := ih (tstep s o)
    have h2 : (tstep s o).2 ≤ s.2 + 1 := by
      unfold tstep tst
      split
      · omega
      · simp
    simp only [List.foldl_cons, List.length_cons]
    omega
theorem trun_le (f : Int) (l : List Tri) : (trun f l).2 ≤ (l.length : Int) := by
  have := fold_le l (tnew f)
  simp only [tnew] at this
  unfold trun tnew
  omega
theorem take_next {α : Type} (l : List α) (k : Nat) (q : α) (h : l[k]? = some q) : l.take (k + 1) = l.take k ++ [q] := by
  rw [List.take_add_one, h]; rfl
theorem fold_next (s : TS) (l : List Tri) (k : Nat) (q : Tri) (h : l[k]? = some q) : (l.take (k + 1)).foldl tstep s = tstep ((l.take k).foldl tstep s) q := by
  rw [take_next l k q h, List.foldl_append]; rfl
theorem trun_append (f : Int) (l m : List Tri) : trun f (l ++ m) = m.foldl tstep (trun f l) := by unfold trun; rw [List.foldl_append]

/-- the guess as whole ticks, rounded up -/
def tk (g : Int) : Int := if g % 4294967296 = 0 then g / 4294967296 else g / 4294967296 + 1
theorem tk_room {g : Int} (h1 : 4294967296 ≤ g) (h2 : g < 18446744073709551616) : 1 ≤ tk g ∧ tk g ≤ 4294967296 ∧ g ≤ tk g * 4294967296 ∧ (tk g - 1) * 4294967296 < g := by
  unfold tk
  split <;> omega
theorem tk_whole (x : Int) : tk (x * 4294967296) = x := by
  unfold tk
  rw [if_pos (by omega)]
  omega

/-- the guess lies between the least and the greatest sample -/
def Bet (s : TS) (lo hi : Int) : Prop := (s.2 = 0 ∧ lo = 1073741824 ∧ hi = 0) ∨ (0 < s.2 ∧ 1 ≤ lo ∧ lo ≤ hi ∧ hi ≤ 1048576 ∧ lo * 4294967296 ≤ s.1 ∧ s.1 ≤ hi * 4294967296)
theorem bet_new (f : Int) : Bet (tnew f) 1073741824 0 := .inl ⟨rfl, rfl, rfl⟩
theorem bet_step {s : TS} {lo hi x : Int} (f : Fit s) (h : Bet s lo hi) (h1 : 1 ≤ x) (h2 : x ≤ 1048576) :
    0 < (tst s x).2 ∧ 1 ≤ min lo x ∧ min lo x ≤ max hi x ∧ max hi x ≤ 1048576 ∧ min lo x * 4294967296 ≤ (tst s x).1 ∧ (tst s x).1 ≤ max hi x * 4294967296 := by
  obtain ⟨f1, f2, f3, f4⟩ := f
  have e : tst s x = (nxt s.1 s.2 x, s.2 + 1) := by unfold tst; rw [if_neg (by omega)]
  rw [e]
  simp only
  rcases h with ⟨n0, rfl, rfl⟩ | ⟨n0, l1, l2, l3, g1, g2⟩
  · have e2 : nxt s.1 s.2 x = x * 4294967296 := by unfold nxt; rw [if_pos n0]
    rw [e2]
    omega
  · have e2 : nxt s.1 s.2 x = s.1 - s.1 / 8 + x * 4294967296 / 8 := by unfold nxt; rw [if_neg (by omega)]
    rw [e2]
    obtain ⟨m, em⟩ : ∃ m, m = min lo x := ⟨_, rfl⟩
    obtain ⟨M, eM⟩ : ∃ M, M = max hi x := ⟨_, rfl⟩
    rw [← em, ← eM]
    have m1 : m ≤ lo := by omega
    have m2 : m ≤ x := by omega
    have m3 : 1 ≤ m := by omega
    have M1 : hi ≤ M := by omega
    have M2 : x ≤ M := by omega
    have M3 : M ≤ 1048576 := by omega
    clear em eM e e2
    omega

/-- samples that all last as long -/
def Sted (s : TS) (x : Int) (k : Nat) : Prop := s.2 = (k : Int) ∧ (0 < k → s.1 = x * 4294967296)
theorem sted_step {s : TS} {x : Int} {k : Nat} (h : Sted s x k) (h1 : 1 ≤ x) : Sted (tst s x) x (k + 1) := by
  obtain ⟨h2, h3⟩ := h
  have e : tst s x = (nxt s.1 s.2 x, s.2 + 1) := by unfold tst; rw [if_neg (by omega)]
  rw [e]
  refine ⟨by simp only; omega, fun _ => ?_⟩
  simp only
  unfold nxt
  split
  · rfl
  · rw [h3 (by omega)]
    omega
end Go.Proofs.Ytgdjdcedjegkjaa.Trp

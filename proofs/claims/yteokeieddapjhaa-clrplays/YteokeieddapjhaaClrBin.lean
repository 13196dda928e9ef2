/-
  cmp.Compare, and slices.BinarySearchFunc over reports by who told them.
-/
import Derived.Test.YteokeieddapjhaaClrRow
import Derived.Test.YteokeieddapjhaaEverMore
namespace Go.Proofs.Yteokeieddapjhaa.Clr
set_option linter.unusedVariables false
set_option maxRecDepth 100000
open Go.RowKit Go.Lib

def cmp3 (a b : Int) : Int := if a < b then -1 else if b < a then 1 else 0
theorem cmp3_lt (a b : Int) : cmp3 a b < 0 ↔ a < b := by
  unfold cmp3
  repeat' split
  all_goals omega
theorem cmp3_eq (a b : Int) : cmp3 a b = 0 ↔ a = b := by
  unfold cmp3
  repeat' split
  all_goals omega

theorem isNaN_any (a : Int) (w : World) : Calls Try.prog 42 #[.int .i64 a] w fun e w' => e = .returned (.bool false) ∧ w' = w := by
  go_enter Try.func42, Try.ntmps42
  go_wp2
  go_ret
  exact ⟨rfl, rfl⟩
theorem compare_any (a b : Int) (w : World) : Calls Try.prog 38 #[.int .i64 a, .int .i64 b] w fun e w' => e = .returned (.int .i64 (cmp3 a b)) ∧ w' = w := by
  have C := fun x W => isNaN_any x W
  by_cases h : a < b
  · have e : cmp3 a b = -1 := by unfold cmp3; rw [if_pos h]
    rw [e]
    clear e
    go_enter Try.func38, Try.ntmps38
    go_wp2_with (go_at_call 42; refine (C _ _).mono ?_; rintro e w' ⟨rfl, rfl⟩)
    go_ret
    exact ⟨rfl, rfl⟩
  · by_cases k : b < a
    · have e : cmp3 a b = 1 := by unfold cmp3; rw [if_neg h, if_pos k]
      rw [e]
      clear e
      go_enter Try.func38, Try.ntmps38
      go_wp2_with (go_at_call 42; refine (C _ _).mono ?_; rintro e w' ⟨rfl, rfl⟩)
      go_ret
      exact ⟨rfl, rfl⟩
    · have e : cmp3 a b = 0 := by unfold cmp3; rw [if_neg h, if_neg k]
      rw [e]
      clear e
      go_enter Try.func38, Try.ntmps38
      go_wp2_with (go_at_call 42; refine (C _ _).mono ?_; rintro e w' ⟨rfl, rfl⟩)
      go_ret
      exact ⟨rfl, rfl⟩
theorem isNaNF_any (a : Int) (w : World) : Calls Try.prog 39 #[.int .u64 a] w fun e w' => e = .returned (.bool false) ∧ w' = w := by
  go_enter Try.func39, Try.ntmps39
  go_wp2
  go_ret
  exact ⟨rfl, rfl⟩
theorem compareF_any (a b : Int) (w : World) : Calls Try.prog 34 #[.int .u64 a, .int .u64 b] w fun e w' => e = .returned (.int .i64 (cmp3 a b)) ∧ w' = w := by
  have C := fun x W => isNaNF_any x W
  by_cases h : a < b
  · have e : cmp3 a b = -1 := by unfold cmp3; rw [if_pos h]
    rw [e]
    clear e
    go_enter Try.func34, Try.ntmps34
    go_wp2_with (go_at_call 39; refine (C _ _).mono ?_; rintro e w' ⟨rfl, rfl⟩)
    go_ret
    exact ⟨rfl, rfl⟩
  · by_cases k : b < a
    · have e : cmp3 a b = 1 := by unfold cmp3; rw [if_neg h, if_pos k]
      rw [e]
      clear e
      go_enter Try.func34, Try.ntmps34
      go_wp2_with (go_at_call 39; refine (C _ _).mono ?_; rintro e w' ⟨rfl, rfl⟩)
      go_ret
      exact ⟨rfl, rfl⟩
    · have e : cmp3 a b = 0 := by unfold cmp3; rw [if_neg h, if_neg k]
      rw [e]
      clear e
      go_enter Try.func34, Try.ntmps34
      go_wp2_with (go_at_call 39; refine (C _ _).mono ?_; rintro e w' ⟨rfl, rfl⟩)
      go_ret
      exact ⟨rfl, rfl⟩

/-- a report's box -/
def tb (w : World) (f t x : Int) : World := w.alloc (.cells #[.int .i64 f, .int .i64 t, .int .u64 x] 43)
theorem tb_ext (w : World) (f t x : Int) : Ext w (tb w f t x) := (Ext.refl w).alloc _
theorem tb_row (w : World) (f t x : Int) : (tb w f t x).heap[w.heap.size]? = some (.cells #[.int .i64 f, .int .i64 t, .int .u64 x] 43 (0, 0)) := heap_alloc_new w _
theorem tb_size (w : World) (f t x : Int) : (tb w f t x).heap.size = w.heap.size + 1 := World.size_alloc _ _
theorem row3 {V : World} {g : Nat} {f t x : Int} (r : V.heap[g]? = some (.cells #[.int .i64 f, .int .i64 t, .int .u64 x] 43 (0, 0))) : V.cell? ⟨g, 0, none⟩ = some (.int .i64 f) ∧ V.cell? ⟨g, 1, none⟩ = some (.int .i64 t) ∧ V.cell? ⟨g, 2, none⟩ = some (.int .u64 x) := by
  refine ⟨?_, ?_, ?_⟩
  · rw [cell_of_row _ _ 0 _ _ _ r]; rfl
  · rw [cell_of_row _ _ 1 _ _ _ r]; rfl
  · rw [cell_of_row _ _ 2 _ _ _ r]; rfl

theorem by_any (f t x r : Int) (w : World) : Calls Try.prog 37 #[.agg #[.int .i64 f, .int .i64 t, .int .u64 x], .int .i64 r] w fun e w' => e = .returned (.int .i64 (cmp3 f r)) ∧ Ext w w' := by
  have X := hid (tb_ext w f t x)
  have C := fun W => compare_any f r W
  go_enter Try.func37, Try.ntmps37
  go_wp2_with fail
  refine (C _).mono ?_
  rintro e w' ⟨rfl, rfl⟩
  go_wp2_with fail
  go_ret
  exact ⟨rfl, X.out⟩

/-! ### the search -/
theorem srt_at {l : List Rep} (h : l.Pairwise (fun a b => a.1 < b.1)) {i j : Nat} {a b : Rep} (hij : i < j) (ha : l[i]? = some a) (hb : l[j]? = some b) : a.1 < b.1 := by
  obtain ⟨h1, e1⟩ := List.getElem?_eq_some_iff.1 ha
  obtain ⟨h2, e2⟩ := List.getElem?_eq_some_iff.1 hb
  rw [← e1, ← e2]
  exact List.pairwise_iff_getElem.1 h i j h1 h2 hij
/-- does the one that stands there come from r? -/
def hit (l : List Rep) (k : Nat) (r : Int) : Bool := match l[k]? with
  | none => false
  | some t => t.1 == r

set_option maxHeartbeats 2000000 in
theorem bsearch_any (s : Value) (l : List Rep) (r : Int) (w : World) (hs : OwnR w s l) (hS : l.Pairwise (fun a b => a.1 < b.1)) (hl : l.length ≤ 1024) :
    Calls Try.prog 36 #[s, .int .i64 r, .func (.func 37) #[] #[]] w fun e w' =>
      ∃ k : Nat, e = .returned (.tuple #[.int .i64 (k : Int), .bool (hit l k r)]) ∧ k ≤ l.length ∧ (∀ i t, i < k → l[i]? = some t → t.1 < r) ∧ (∀ i t, k ≤ i → l[i]? = some t → r ≤ t.1) ∧ Ext w w' := by
  obtain ⟨ao, cp, rfl, k1, k2, vw⟩ := hs.view encR
  have VW := hid vw
  have HA : Hid (∀ (q : Nat) (t : Rep), l[q]? = some t → t.1 < r → ∀ (i : Nat) (u : Rep), i < q + 1 → l[i]? = some u → u.1 < r) := fun q t hq hb i u hi hu => by
    rcases Nat.lt_or_eq_of_le (show i ≤ q by omega) with e | e
    · have := srt_at hS e hu hq
      omega
    · subst e
      rw [hq, Option.some.injEq] at hu
      rw [← hu]; exact hb
  have HB : Hid (∀ (q : Nat) (t : Rep), l[q]? = some t → ¬ t.1 < r → ∀ (i : Nat) (u : Rep), q ≤ i → l[i]? = some u → r ≤ u.1) := fun q t hq hb i u hi hu => by
    rcases Nat.lt_or_eq_of_le hi with e | e
    · have := srt_at hS e hq hu
      omega
    · subst e
      rw [hq, Option.some.injEq] at hu
      rw [← hu]; omega
  unfold maxLen at k2
  clear hs hS vw
  obtain ⟨n, en⟩ : ∃ n, n = l.length := ⟨_, rfl⟩
  have AT : Hid (∀ k, k < n → ∃ t, l[k]? = some t) := fun k hk => ⟨_, List.getElem?_eq_getElem (by omega)⟩
  have OUT : Hid (∀ k, n ≤ k → hit l k r = false) := fun k hk => by unfold hit; rw [List.getElem?_eq_none (by omega)]
  have NON : Hid (∀ k, n ≤ k → l[k]? = none) := fun k hk => List.getElem?_eq_none (by omega)
  rw [← en] at k1 hl
  rw [← en]
  clear en
  go_enter Try.func36, Try.ntmps36
  go_wp2
  go_loopw [9, 10, 11] (fun i j _ wr => ∃ a b : Nat, a ≤ b ∧ b ≤ n ∧ i = .int .i64 (a : Int) ∧ j = .int .i64 (b : Int) ∧ Hid (Ext w wr) ∧ Hid (∀ q t, q < a → l[q]? = some t → t.1 < r) ∧ Hid (∀ q t, b ≤ q → l[q]? = some t → r ≤ t.1)) (fun i j _ _ => (intOf j - intOf i).toNat)
  case atStart => exact ⟨0, n, by omega, by omega, rfl, rfl, Ext.refl w, fun q t hq => by omega, fun q t h1 h2 => by rw [NON.out q h1] at h2; simp at h2⟩
  case round =>
    obtain ⟨a, b, hab, hb, rfl, rfl, X, L1, L2⟩ := hrel
    by_cases t : a < b
    · obtain ⟨h, eh, h1, h2⟩ : ∃ h : Nat, ((a : Int) + (b : Int)) / 2 = (h : Int) ∧ a ≤ h ∧ h < b := ⟨(a + b) / 2, by omega, by omega, by omega⟩
      obtain ⟨y, ey⟩ := AT.out h (by omega)
      obtain ⟨g, rfl, vv⟩ := VW.out h y ey
      have P1 := hid (HA.out h y ey)
      have P2 := hid (HB.out h y ey)
      obtain ⟨f, tk, rt⟩ := y
      have x0 := X.out.cell (vv 0 _ rfl)
      have x1 := X.out.cell (vv 1 _ rfl)
      have x2 := X.out.cell (vv 2 _ rfl)
      rw [Nat.add_zero] at x0
      simp only at x0 x1 x2 P1 P2
      have O := hid (fun W => by_any f tk rt r W)
      have OL := hid (cmp3_lt f r)
      generalize cmp3 f r = z at *
      have i1 : (h : Int) < (n : Int) := by omega
      have i2 : (0 : Int) ≤ (h : Int) := by omega
      have t1 : (a : Int) < (b : Int) := by omega
      clear vv ey
      go_wp2_with fail
      refine (O.out _).mono ?_
      rintro e w3 ⟨rfl, x3⟩
      have X3 := hid (X.out.trans x3)
      clear x3 x0 x1 x2 O eh
      by_cases hz : z < 0
      · have Q1 := hid (P1.out (OL.out.1 hz))
        go_wp2_with fail
        go_roundw
        case rel => exact ⟨h + 1, b, by omega, hb, by go_num, rfl, X3, fun q t h3 h4 => Q1.out q t h3 h4, L2⟩
        case measure => simp [intOf]; omega
      · have Q1 := hid (P2.out (by have := OL.out; omega))
        go_wp2_with fail
        go_roundw
        case rel => exact ⟨a, h, by omega, by omega, rfl, rfl, X3, L1, fun q t h3 h4 => Q1.out q t h3 h4⟩
        case measure => simp [intOf]; omega
    · obtain rfl : a = b := by omega
      by_cases ta : a < n
      · obtain ⟨y, ey⟩ := AT.out a ta
        obtain ⟨g, rfl, vv⟩ := VW.out a y ey
        have HI : hit l a r = (y.1 == r) := by unfold hit; rw [ey]
        obtain ⟨f, tk, rt⟩ := y
        have x0 := X.out.cell (vv 0 _ rfl)
        have x1 := X.out.cell (vv 1 _ rfl)
        have x2 := X.out.cell (vv 2 _ rfl)
        rw [Nat.add_zero] at x0
        simp only at x0 x1 x2 HI
        have O := hid (fun W => by_any f tk rt r W)
        have OL := hid (cmp3_eq f r)
        generalize cmp3 f r = z at *
        have i1 : decide ((a : Int) < (n : Int)) = true := by simp; omega
        have i3 : (a : Int) < (n : Int) := by omega
        have i2 : (0 : Int) ≤ (a : Int) := by omega
        have FIN : Hid ((Value.bool (z == 0)) = .bool (hit l a r)) := by
          show _ = _
          rw [HI]
          by_cases q : f = r
          · have e1 : (z == 0) = true := by simpa using OL.out.2 q
            have e2 : (f == r) = true := by simpa using q
            rw [e1, e2]
          · have e1 : (z == 0) = false := by simpa using fun e => q (OL.out.1 e)
            have e2 : (f == r) = false := by simpa using q
            rw [e1, e2]
        clear vv ey HI OL
        go_wp2_with fail
        refine (O.out _).mono ?_
        rintro e w3 ⟨rfl, x3⟩
        have X3 := hid (X.out.trans x3)
        clear x3 x0 x1 x2 O
        go_wp2_with fail
        go_ret2
        refine ⟨a, ?_, hb, L1.out, L2.out, X3.out⟩
        rw [← FIN.out]
        try rfl
      · obtain rfl : a = n := by omega
        have HI := hid (OUT.out a (Nat.le_refl _))
        go_wp2_with fail
        go_ret2
        refine ⟨a, ?_, hb, L1.out, L2.out, X.out⟩
        rw [HI.out]
        rfl
end Go.Proofs.Yteokeieddapjhaa.Clr

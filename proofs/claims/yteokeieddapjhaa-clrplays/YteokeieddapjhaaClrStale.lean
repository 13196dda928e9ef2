/-
  Walks of isStale, isLimiting. (Printed by wip/gen/clrput.py.)
-/
import Derived.Test.YteokeieddapjhaaClrMem
namespace Go.Proofs.Yteokeieddapjhaa.Clr
set_option linter.unusedVariables false
set_option linter.unusedSimpArgs false
set_option maxRecDepth 100000
open Go.RowKit Go.Lib

set_option maxHeartbeats 1000000 in
theorem stale_any {K : Nat → Prop} {w : World} {b : Nat} {lim : Int} {s : BS} (h : Bk K w b lim s) (f t x now : Int) (ht : isT t) :
    Calls Try.prog 25 #[.pointer (some ⟨b, 0, none⟩), .agg #[.int .i64 f, .int .i64 t, .int .u64 x], .int .i64 now] w fun e w' => e = .returned (.bool (decide (stale s lim f t now))) ∧ Ext w w' := by
  obtain ⟨V0, e0⟩ : ∃ V0, V0 = w.alloc (.cells #[.int .i64 f, .int .i64 t, .int .u64 x] 43) := ⟨_, rfl⟩
  have X0 := hid (tb_ext w f t x)
  have R0 := hid (tb_row w f t x)
  have S0 := tb_size w f t x
  rw [show tb w f t x = V0 from e0.symm] at X0 R0 S0
  have E0 := hid e0
  obtain ⟨bx, ebx⟩ : ∃ bx, bx = w.heap.size := ⟨_, rfl⟩
  rw [← ebx] at R0 S0
  have EB := hid ebx
  have LA := hid (last_any (h.ext X0.out) f)
  have OV := hid (fun W (X : Ext w W) => over_any (h.ext X) f t x now ht)
  have ST : Hid (stale s lim f t now ↔ (t + lim < now ∨ now < t ∨ ∃ q, la s.1 f = some q ∧ t < q.1)) := Iff.rfl
  clear h ebx ht e0
  by_cases q1 : t + lim < now
  · have d1 : decide (t + lim < now) = true := decide_eq_true q1
    rw [d1] at OV
    cases el : la s.1 f with
    | none =>
      rw [el] at LA
      have RES : decide (stale s lim f t now) = true := by
        exact decide_eq_true (.inl q1)
      rw [RES]
      clear RES ST
      go_enter Try.func25, Try.ntmps25
      go_wp2_with fail
      rw [← E0.out, ← EB.out]
      refine LA.out.mono ?_
      rintro e w1 ⟨rfl, x1⟩
      simp only [tv, Option.isSome_none, Option.isSome_some]
      have Z := hid ((X0.out.trans x1).trans (tb_ext w1 0 0 0))
      have Y1 := hid (((tb_ext w1 0 0 0).row (x1.row R0.out)))
      have EZ : Hid (w1.alloc (.cells #[.int .i64 0, .int .i64 0, .int .u64 0] 43) = tb w1 0 0 0) := rfl
      have Y2 := hid (tb_row w1 0 0 0)
      obtain ⟨z0, z1, z2⟩ := row3 Y1.out
      rw [← EZ.out] at z0 z1 z2
      clear x1 LA
      go_wp2_with fail
      refine (OV.out _ Z.out).mono ?_
      rintro e w2 ⟨rfl, x2⟩
      have X2 := hid (Z.out.trans x2)
      obtain ⟨_, u1, _⟩ := row3 (x2.row Y1.out)
      obtain ⟨_, v1, _⟩ := row3 (x2.row Y2.out)
      clear x2 z0 z1 z2
      go_wp2_with fail
      go_ret
      exact ⟨by first | rfl | (show Ending.returned (.bool (decide (now < t))) = _; rw [decide_eq_false (Int.not_lt.2 q2)]) | (show Ending.returned (.bool (decide (now < t) || decide (t < q.1))) = _; rw [decide_eq_false (Int.not_lt.2 q2), decide_eq_false (Int.not_lt.2 q3)]; rfl), X2.out⟩
    | some q =>
      rw [el] at LA
      have RES : decide (stale s lim f t now) = true := by
        exact decide_eq_true (.inl q1)
      rw [RES]
      clear RES ST
      go_enter Try.func25, Try.ntmps25
      go_wp2_with fail
      rw [← E0.out, ← EB.out]
      refine LA.out.mono ?_
      rintro e w1 ⟨rfl, x1⟩
      simp only [tv, Option.isSome_none, Option.isSome_some]
      have Z := hid ((X0.out.trans x1).trans (tb_ext w1 f q.1 q.2))
      have Y1 := hid (((tb_ext w1 f q.1 q.2).row (x1.row R0.out)))
      have EZ : Hid (w1.alloc (.cells #[.int .i64 f, .int .i64 q.1, .int .u64 q.2] 43) = tb w1 f q.1 q.2) := rfl
      have Y2 := hid (tb_row w1 f q.1 q.2)
      obtain ⟨z0, z1, z2⟩ := row3 Y1.out
      rw [← EZ.out] at z0 z1 z2
      clear x1 LA
      go_wp2_with fail
      refine (OV.out _ Z.out).mono ?_
      rintro e w2 ⟨rfl, x2⟩
      have X2 := hid (Z.out.trans x2)
      obtain ⟨_, u1, _⟩ := row3 (x2.row Y1.out)
      obtain ⟨_, v1, _⟩ := row3 (x2.row Y2.out)
      clear x2 z0 z1 z2
      go_wp2_with fail
      go_ret
      exact ⟨by first | rfl | (show Ending.returned (.bool (decide (now < t))) = _; rw [decide_eq_false (Int.not_lt.2 q2)]) | (show Ending.returned (.bool (decide (now < t) || decide (t < q.1))) = _; rw [decide_eq_false (Int.not_lt.2 q2), decide_eq_false (Int.not_lt.2 q3)]; rfl), X2.out⟩
  have d1 : decide (t + lim < now) = false := decide_eq_false q1
  rw [d1] at OV
  by_cases q2 : now < t
  · cases el : la s.1 f with
    | none =>
      rw [el] at LA
      have RES : decide (stale s lim f t now) = true := by
        exact decide_eq_true (.inr (.inl q2))
      rw [RES]
      clear RES ST
      go_enter Try.func25, Try.ntmps25
      go_wp2_with fail
      rw [← E0.out, ← EB.out]
      refine LA.out.mono ?_
      rintro e w1 ⟨rfl, x1⟩
      simp only [tv, Option.isSome_none, Option.isSome_some]
      have Z := hid ((X0.out.trans x1).trans (tb_ext w1 0 0 0))
      have Y1 := hid (((tb_ext w1 0 0 0).row (x1.row R0.out)))
      have EZ : Hid (w1.alloc (.cells #[.int .i64 0, .int .i64 0, .int .u64 0] 43) = tb w1 0 0 0) := rfl
      have Y2 := hid (tb_row w1 0 0 0)
      obtain ⟨z0, z1, z2⟩ := row3 Y1.out
      rw [← EZ.out] at z0 z1 z2
      clear x1 LA
      go_wp2_with fail
      refine (OV.out _ Z.out).mono ?_
      rintro e w2 ⟨rfl, x2⟩
      have X2 := hid (Z.out.trans x2)
      obtain ⟨_, u1, _⟩ := row3 (x2.row Y1.out)
      obtain ⟨_, v1, _⟩ := row3 (x2.row Y2.out)
      clear x2 z0 z1 z2
      go_wp2_with fail
      go_ret
      exact ⟨by first | rfl | (show Ending.returned (.bool (decide (now < t))) = _; rw [decide_eq_false (Int.not_lt.2 q2)]) | (show Ending.returned (.bool (decide (now < t) || decide (t < q.1))) = _; rw [decide_eq_false (Int.not_lt.2 q2), decide_eq_false (Int.not_lt.2 q3)]; rfl), X2.out⟩
    | some q =>
      rw [el] at LA
      have RES : decide (stale s lim f t now) = true := by
        exact decide_eq_true (.inr (.inl q2))
      rw [RES]
      clear RES ST
      go_enter Try.func25, Try.ntmps25
      go_wp2_with fail
      rw [← E0.out, ← EB.out]
      refine LA.out.mono ?_
      rintro e w1 ⟨rfl, x1⟩
      simp only [tv, Option.isSome_none, Option.isSome_some]
      have Z := hid ((X0.out.trans x1).trans (tb_ext w1 f q.1 q.2))
      have Y1 := hid (((tb_ext w1 f q.1 q.2).row (x1.row R0.out)))
      have EZ : Hid (w1.alloc (.cells #[.int .i64 f, .int .i64 q.1, .int .u64 q.2] 43) = tb w1 f q.1 q.2) := rfl
      have Y2 := hid (tb_row w1 f q.1 q.2)
      obtain ⟨z0, z1, z2⟩ := row3 Y1.out
      rw [← EZ.out] at z0 z1 z2
      clear x1 LA
      go_wp2_with fail
      refine (OV.out _ Z.out).mono ?_
      rintro e w2 ⟨rfl, x2⟩
      have X2 := hid (Z.out.trans x2)
      obtain ⟨_, u1, _⟩ := row3 (x2.row Y1.out)
      obtain ⟨_, v1, _⟩ := row3 (x2.row Y2.out)
      clear x2 z0 z1 z2
      go_wp2_with fail
      go_ret
      exact ⟨by first | rfl | (show Ending.returned (.bool (decide (now < t))) = _; rw [decide_eq_false (Int.not_lt.2 q2)]) | (show Ending.returned (.bool (decide (now < t) || decide (t < q.1))) = _; rw [decide_eq_false (Int.not_lt.2 q2), decide_eq_false (Int.not_lt.2 q3)]; rfl), X2.out⟩
  cases el : la s.1 f with
  | none =>
    rw [el] at LA
    have RES : decide (stale s lim f t now) = false := by
      exact decide_eq_false (fun h => by rcases h with h | h | ⟨q, h, _⟩; exact q1 h; exact q2 h; rw [el] at h; simp at h)
    rw [RES]
    clear RES ST
    go_enter Try.func25, Try.ntmps25
    go_wp2_with fail
    rw [← E0.out, ← EB.out]
    refine LA.out.mono ?_
    rintro e w1 ⟨rfl, x1⟩
    simp only [tv, Option.isSome_none, Option.isSome_some]
    have Z := hid ((X0.out.trans x1).trans (tb_ext w1 0 0 0))
    have Y1 := hid (((tb_ext w1 0 0 0).row (x1.row R0.out)))
    have EZ : Hid (w1.alloc (.cells #[.int .i64 0, .int .i64 0, .int .u64 0] 43) = tb w1 0 0 0) := rfl
    have Y2 := hid (tb_row w1 0 0 0)
    obtain ⟨z0, z1, z2⟩ := row3 Y1.out
    rw [← EZ.out] at z0 z1 z2
    clear x1 LA
    go_wp2_with fail
    refine (OV.out _ Z.out).mono ?_
    rintro e w2 ⟨rfl, x2⟩
    have X2 := hid (Z.out.trans x2)
    obtain ⟨_, u1, _⟩ := row3 (x2.row Y1.out)
    obtain ⟨_, v1, _⟩ := row3 (x2.row Y2.out)
    clear x2 z0 z1 z2
    go_wp2_with fail
    go_ret
    exact ⟨by first | rfl | (show Ending.returned (.bool (decide (now < t))) = _; rw [decide_eq_false (Int.not_lt.2 q2)]) | (show Ending.returned (.bool (decide (now < t) || decide (t < q.1))) = _; rw [decide_eq_false (Int.not_lt.2 q2), decide_eq_false (Int.not_lt.2 q3)]; rfl), X2.out⟩
  | some q =>
    rw [el] at LA
    by_cases q3 : t < q.1
    · have RES : decide (stale s lim f t now) = true := by
        exact decide_eq_true (.inr (.inr ⟨q, el, q3⟩))
      rw [RES]
      clear RES ST
      go_enter Try.func25, Try.ntmps25
      go_wp2_with fail
      rw [← E0.out, ← EB.out]
      refine LA.out.mono ?_
      rintro e w1 ⟨rfl, x1⟩
      simp only [tv, Option.isSome_none, Option.isSome_some]
      have Z := hid ((X0.out.trans x1).trans (tb_ext w1 f q.1 q.2))
      have Y1 := hid (((tb_ext w1 f q.1 q.2).row (x1.row R0.out)))
      have EZ : Hid (w1.alloc (.cells #[.int .i64 f, .int .i64 q.1, .int .u64 q.2] 43) = tb w1 f q.1 q.2) := rfl
      have Y2 := hid (tb_row w1 f q.1 q.2)
      obtain ⟨z0, z1, z2⟩ := row3 Y1.out
      rw [← EZ.out] at z0 z1 z2
      clear x1 LA
      go_wp2_with fail
      refine (OV.out _ Z.out).mono ?_
      rintro e w2 ⟨rfl, x2⟩
      have X2 := hid (Z.out.trans x2)
      obtain ⟨_, u1, _⟩ := row3 (x2.row Y1.out)
      obtain ⟨_, v1, _⟩ := row3 (x2.row Y2.out)
      clear x2 z0 z1 z2
      go_wp2_with fail
      go_ret
      exact ⟨by first | rfl | (show Ending.returned (.bool (decide (now < t))) = _; rw [decide_eq_false (Int.not_lt.2 q2)]) | (show Ending.returned (.bool (decide (now < t) || decide (t < q.1))) = _; rw [decide_eq_false (Int.not_lt.2 q2), decide_eq_false (Int.not_lt.2 q3)]; rfl), X2.out⟩
    · have RES : decide (stale s lim f t now) = false := by
        exact decide_eq_false (fun h => by rcases h with h | h | ⟨q', h, h3⟩; exact q1 h; exact q2 h; rw [el] at h; simp at h; subst h; exact q3 h3)
      rw [RES]
      clear RES ST
      go_enter Try.func25, Try.ntmps25
      go_wp2_with fail
      rw [← E0.out, ← EB.out]
      refine LA.out.mono ?_
      rintro e w1 ⟨rfl, x1⟩
      simp only [tv, Option.isSome_none, Option.isSome_some]
      have Z := hid ((X0.out.trans x1).trans (tb_ext w1 f q.1 q.2))
      have Y1 := hid (((tb_ext w1 f q.1 q.2).row (x1.row R0.out)))
      have EZ : Hid (w1.alloc (.cells #[.int .i64 f, .int .i64 q.1, .int .u64 q.2] 43) = tb w1 f q.1 q.2) := rfl
      have Y2 := hid (tb_row w1 f q.1 q.2)
      obtain ⟨z0, z1, z2⟩ := row3 Y1.out
      rw [← EZ.out] at z0 z1 z2
      clear x1 LA
      go_wp2_with fail
      refine (OV.out _ Z.out).mono ?_
      rintro e w2 ⟨rfl, x2⟩
      have X2 := hid (Z.out.trans x2)
      obtain ⟨_, u1, _⟩ := row3 (x2.row Y1.out)
      obtain ⟨_, v1, _⟩ := row3 (x2.row Y2.out)
      clear x2 z0 z1 z2
      go_wp2_with fail
      go_ret
      exact ⟨by first | rfl | (show Ending.returned (.bool (decide (now < t))) = _; rw [decide_eq_false (Int.not_lt.2 q2)]) | (show Ending.returned (.bool (decide (now < t) || decide (t < q.1))) = _; rw [decide_eq_false (Int.not_lt.2 q2), decide_eq_false (Int.not_lt.2 q3)]; rfl), X2.out⟩

set_option maxHeartbeats 1000000 in
theorem limiting_any {K : Nat → Prop} {w : World} {b : Nat} {lim : Int} {s : BS} (h : Bk K w b lim s) (f t x : Int) :
    Calls Try.prog 26 #[.pointer (some ⟨b, 0, none⟩), .agg #[.int .i64 f, .int .i64 t, .int .u64 x]] w fun e w' => e = .returned (.bool (decide (limits s x))) ∧ Ext w w' := by
  obtain ⟨V0, e0⟩ : ∃ V0, V0 = w.alloc (.cells #[.int .i64 f, .int .i64 t, .int .u64 x] 43) := ⟨_, rfl⟩
  have X0 := hid (tb_ext w f t x)
  have R0 := hid (tb_row w f t x)
  rw [show tb w f t x = V0 from e0.symm] at X0 R0
  have E0 := hid e0
  obtain ⟨bx, ebx⟩ : ∃ bx, bx = w.heap.size := ⟨_, rfl⟩
  rw [← ebx] at R0
  have EB := hid ebx
  have LA := hid (clr_any (h.ext X0.out))
  clear h ebx e0
  cases el : cl s with
  | none =>
    rw [el] at LA
    have RES : decide (limits s x) = true := by
      exact decide_eq_true (fun q h => by rw [el] at h; simp at h)
    rw [RES]
    clear RES
    go_enter Try.func26, Try.ntmps26
    go_wp2_with fail
    rw [← E0.out, ← EB.out]
    refine LA.out.mono ?_
    rintro e w1 ⟨rfl, x1⟩
    simp only [tv, Option.isSome_none, Option.isSome_some]
    have Z := hid ((X0.out.trans x1).trans (tb_ext w1 0 0 0))
    have EZ : Hid (w1.alloc (.cells #[.int .i64 0, .int .i64 0, .int .u64 0] 43) = tb w1 0 0 0) := rfl
    obtain ⟨z0, z1, z2⟩ := row3 ((tb_ext w1 0 0 0).row (x1.row R0.out))
    obtain ⟨v0, v1, v2⟩ := row3 (tb_row w1 0 0 0)
    rw [← EZ.out] at z0 z1 z2 v0 v1 v2
    clear x1 LA
    go_wp2_with fail
    go_ret
    exact ⟨by first | rfl | (show Ending.returned (.bool (decide (x < q.2))) = _; rw [decide_eq_false (Int.not_lt.2 q3)]), Z.out⟩
  | some q =>
    rw [el] at LA
    by_cases q3 : x < q.2
    · have RES : decide (limits s x) = true := by
        exact decide_eq_true (fun q' h => by rw [el] at h; simp at h; subst h; exact q3)
      rw [RES]
      clear RES
      go_enter Try.func26, Try.ntmps26
      go_wp2_with fail
      rw [← E0.out, ← EB.out]
      refine LA.out.mono ?_
      rintro e w1 ⟨rfl, x1⟩
      simp only [tv, Option.isSome_none, Option.isSome_some]
      have Z := hid ((X0.out.trans x1).trans (tb_ext w1 s.2 q.1 q.2))
      have EZ : Hid (w1.alloc (.cells #[.int .i64 s.2, .int .i64 q.1, .int .u64 q.2] 43) = tb w1 s.2 q.1 q.2) := rfl
      obtain ⟨z0, z1, z2⟩ := row3 ((tb_ext w1 s.2 q.1 q.2).row (x1.row R0.out))
      obtain ⟨v0, v1, v2⟩ := row3 (tb_row w1 s.2 q.1 q.2)
      rw [← EZ.out] at z0 z1 z2 v0 v1 v2
      clear x1 LA
      go_wp2_with fail
      go_ret
      exact ⟨by first | rfl | (show Ending.returned (.bool (decide (x < q.2))) = _; rw [decide_eq_false (Int.not_lt.2 q3)]), Z.out⟩
    · have RES : decide (limits s x) = false := by
        exact decide_eq_false (fun h => q3 (h q el))
      rw [RES]
      clear RES
      go_enter Try.func26, Try.ntmps26
      go_wp2_with fail
      rw [← E0.out, ← EB.out]
      refine LA.out.mono ?_
      rintro e w1 ⟨rfl, x1⟩
      simp only [tv, Option.isSome_none, Option.isSome_some]
      have Z := hid ((X0.out.trans x1).trans (tb_ext w1 s.2 q.1 q.2))
      have EZ : Hid (w1.alloc (.cells #[.int .i64 s.2, .int .i64 q.1, .int .u64 q.2] 43) = tb w1 s.2 q.1 q.2) := rfl
      obtain ⟨z0, z1, z2⟩ := row3 ((tb_ext w1 s.2 q.1 q.2).row (x1.row R0.out))
      obtain ⟨v0, v1, v2⟩ := row3 (tb_row w1 s.2 q.1 q.2)
      rw [← EZ.out] at z0 z1 z2 v0 v1 v2
      clear x1 LA
      go_wp2_with fail
      go_ret
      exact ⟨by first | rfl | (show Ending.returned (.bool (decide (x < q.2))) = _; rw [decide_eq_false (Int.not_lt.2 q3)]), Z.out⟩
end Go.Proofs.Yteokeieddapjhaa.Clr

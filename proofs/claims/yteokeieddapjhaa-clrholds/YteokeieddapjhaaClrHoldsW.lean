/-
  ClrHolds' walk. (Printed by wip/gen/clrholds.py.)
-/
import Derived.Test.YteokeieddapjhaaClrPlay
namespace Go.Proofs.Yteokeieddapjhaa.clrHolds
set_option linter.unusedVariables false
set_option linter.unusedSimpArgs false
set_option maxRecDepth 100000
open Go.RowKit Go.Lib Go.Proofs.Yteokeieddapjhaa.Clr

/-- what a report does -/
theorem take_way {s : BS} (h : FitB s) (lim f n x : Int) : (∃ e, e ≠ 0 ∧ btake s lim f n x n = (s, e)) ∨ ∃ s', btake s lim f n x n = (s', 0) ∧
    ((cl s = none ∧ s'.2 = f ∧ cl s' = some (n, x)) ∨ (∃ y, cl s = some y ∧ x < y.2 ∧ s'.2 = f ∧ cl s' = some (n, x)) ∨ (∃ y, cl s = some y ∧ ¬ x < y.2 ∧ f = s.2 ∧ s'.2 = s.2 ∧ cl s' = some (n, x)) ∨ (∃ y, cl s = some y ∧ ¬ x < y.2 ∧ f ≠ s.2 ∧ s'.2 = s.2 ∧ cl s' = some y)) := by
  unfold btake
  split
  case isFalse => exact .inl ⟨11, by decide, rfl⟩
  case isTrue g =>
    split
    · exact .inl ⟨23, by decide, rfl⟩
    · refine .inr ⟨_, rfl, ?_⟩
      have hr := g.1
      have own : ∀ p, cl (s.1.set f.toNat (some (n, x)), p) = if p = f then some (n, x) else la s.1 p := fun p => by
        unfold cl
        simp only
        rw [la_set hr h.1]
      cases e : cl s with
      | none =>
        have L : limits s x := fun q h => by rw [e] at h; simp at h
        refine .inl ⟨rfl, ?_, ?_⟩
        · unfold put; rw [if_pos L]
        · unfold put; rw [if_pos L, own, if_pos rfl]
      | some y =>
        by_cases q : x < y.2
        · have L : limits s x := fun q' h => by rw [e, Option.some.injEq] at h; rw [← h]; exact q
          refine .inr (.inl ⟨y, rfl, q, ?_, ?_⟩)
          · unfold put; rw [if_pos L]
          · unfold put; rw [if_pos L, own, if_pos rfl]
        · have L : ¬ limits s x := fun h => q (h y e)
          by_cases r : f = s.2
          · refine .inr (.inr (.inl ⟨y, rfl, q, r, ?_, ?_⟩))
            · unfold put; rw [if_neg L]
            · unfold put; rw [if_neg L, own, if_pos r.symm]
          · refine .inr (.inr (.inr ⟨y, rfl, q, r, ?_, ?_⟩))
            · unfold put; rw [if_neg L]
            · unfold put; rw [if_neg L, own, if_neg (fun h => r h.symm)]; exact e

set_option maxHeartbeats 8000000 in
theorem walk (lim : Int) (v0 : Value) (l : List OpS) (w : World) (hz : OpsIn w v0 l) : Calls Try.prog 4 #[.int .i64 lim, v0] w fun e w' => e = .returned (.bool true) ∧ Ext w w' := by
  have AW := hid (fun V => awake_any V)
  obtain ⟨ao, cp, rfl, k1, k2⟩ := hz.slice
  have OPS := hid hz.seen
  have GET : Hid (∀ k, k < l.length → ∃ q : OpS, l[k]? = some q) := fun k hk => ⟨_, List.getElem?_eq_getElem hk⟩
  obtain ⟨N, eN⟩ : ∃ N, N = l.length := ⟨_, rfl⟩
  rw [← eN] at GET k1 ⊢
  unfold maxLen at k2
  clear hz eN
  by_cases b0 : (80 : Int) < (N : Int)
  · clear OPS GET
    go_enter Try.func4, Try.ntmps4
    go_wp2_with fail
    refine (AW.out _).mono ?_
    rintro e wz ⟨rfl, xz⟩
    have XZ := hid xz
    clear xz
    go_wp2_with fail
    go_ret
    exact ⟨rfl, XZ.out⟩
  by_cases b1 : lim < 1
  · clear OPS GET
    go_enter Try.func4, Try.ntmps4
    go_wp2_with fail
    refine (AW.out _).mono ?_
    rintro e wz ⟨rfl, xz⟩
    have XZ := hid xz
    clear xz
    go_wp2_with fail
    go_ret
    exact ⟨rfl, XZ.out⟩
  by_cases b2 : 1048576 < lim
  · clear OPS GET
    go_enter Try.func4, Try.ntmps4
    go_wp2_with fail
    refine (AW.out _).mono ?_
    rintro e wz ⟨rfl, xz⟩
    have XZ := hid xz
    clear xz
    go_wp2_with fail
    go_ret
    exact ⟨rfl, XZ.out⟩
  have NW := hid (fun W => new_ok lim W ⟨by omega, by omega⟩)
  go_enter Try.func4, Try.ntmps4
  go_wp2_with fail
  refine (NW.out _).mono ?_
  rintro e w1 ⟨b, rfl, h1⟩
  have S0 : Hid (PlS w b lim w1 bnew) := PlS.new (Ext.refl w) h1.out
  clear h1 NW
  go_wp2_with fail
  go_loopw [7, 9, 10, 11, 12, 13, 39] (fun nv _ _ _ _ _ iv wr => ∃ (k : Nat) (n : Int) (s : BS), k ≤ N ∧ iv = .int .i64 (k : Int) ∧ nv = .int .i64 n ∧ 0 ≤ n ∧ n ≤ 1000 * (k : Int) ∧ Hid (PlS w b lim wr s)) (fun _ _ _ _ _ _ iv _ => (N - RowKit.intOf iv).toNat)
  case atStart => exact ⟨0, 0, bnew, by omega, rfl, rfl, by omega, by omega, S0⟩
  case round =>
    clear S0
    obtain ⟨k, n, s, hk, rfl, rfl, n0, n1, S⟩ := hrel
    by_cases q : k < N
    · clear AW
      have i1 : (k : Int) < (N : Int) := by omega
      have i2 : (0 : Int) ≤ (k : Int) := by omega
      obtain ⟨o, eo⟩ := GET.out k q
      obtain ⟨_, g0, q0, rfl, CC⟩ := OPS.out k _ eo
      obtain ⟨y0, y1, y2, y3, y4⟩ := CC _ S.out.2
      obtain ⟨o1, f, o3, lt, x⟩ := o
      simp only at y0 y1 y2 y3 y4
      have lr := lat_room lt
      have LA := hid (fun W => later_any n lt W n0 (by omega))
      obtain ⟨m, em⟩ : ∃ m, m = n + lat lt := ⟨_, rfl⟩
      rw [← em] at LA
      have m0 : 0 ≤ m := by omega
      have m1 : m ≤ 1000 * ((k : Int) + 1) := by omega
      obtain ⟨W1, eW⟩ : ∃ W1, W1 = bx wr o1 f o3 lt x := ⟨_, rfl⟩
      have X1 := hid (bx_ext wr o1 f o3 lt x)
      have r1 := hid (bx_row wr o1 f o3 lt x)
      have E1 : Hid (wr.alloc (.cells #[.int .i64 o1, .int .i64 f, .int .i64 o3, .int .i64 lt, .int .u64 x] 36) = bx wr o1 f o3 lt x) := rfl
      rw [← eW] at X1 r1 E1
      obtain ⟨p, ep⟩ : ∃ p, p = wr.heap.size := ⟨_, rfl⟩
      have EP := hid ep
      rw [← ep] at r1
      have pl : wr.heap.size ≤ p := by omega
      obtain ⟨u0, u1, u2, u3, u4⟩ := row_cells r1.out
      have CL := hid (clr_any (S.out.1.ext X1.out))
      have TW := hid (take_way S.out.1.1 lim f m x)
      clear OPS GET eo CC eW ep em lr
      cases ec : cl s with
      | none =>
        rw [ec] at CL TW
        rcases TW.out with ⟨e', ne, te⟩ | ⟨s', te, (⟨_, e2, e3⟩ | ⟨y, h, _⟩ | ⟨y, h, _⟩ | ⟨y, h, _⟩)⟩
        · have TE := hid te
          clear te ec
          go_wp2_with (rw [← EP.out, E1.out])
          refine (LA.out _).mono ?_
          rintro e w2 ⟨rfl, ew⟩
          obtain rfl : W1 = w2 := ew.symm
          go_wp2_with fail
          refine CL.out.mono ?_
          rintro e w3 ⟨rfl, x3⟩
          simp only [tv, Option.isSome_none, Option.isSome_some]
          have X3 := hid ((X1.out.trans x3).trans (tb_ext w3 0 0 0))
          have EZ : Hid (w3.alloc (.cells #[.int .i64 0, .int .i64 0, .int .u64 0] 43) = tb w3 0 0 0) := rfl
          have r3 := hid ((tb_ext w3 0 0 0).row (x3.row r1.out))
          have q3 := hid (tb_row w3 0 0 0)
          have gl : wr.heap.size ≤ w3.heap.size := (X1.out.trans x3).size
          obtain ⟨v0, v1, v2, v3, v4⟩ := row_cells r3.out
          rw [← EZ.out] at v0 v1 v2 v3 v4
          clear x3 CL LA u0 u1 u2 u3 u4 y0 y1 y2 y3 y4 TW
          go_wp2_with fail
          refine (S.out.takeX X3.out f m x m).mono ?_
          rintro e w4 ⟨rfl, s4, k4⟩
          rw [TE.out] at s4 ⊢
          have S4 := hid s4
          have r4 := hid (k4.row (g := p) pl r3.out)
          have q4 := hid (k4.row (g := w3.heap.size) gl q3.out)
          clear s4 k4 v0 v1 v2 v3 v4
          go_wp2_with fail
          go_roundw
          case rel => exact ⟨k + 1, m, s, by omega, by go_num, rfl, m0, by omega, S4⟩
          case measure => simp [RowKit.intOf]; omega
        · have TE := hid te
          have E2 := hid e2
          have EC := hid e3
          clear te e2 e3 ec
          go_wp2_with (rw [← EP.out, E1.out])
          refine (LA.out _).mono ?_
          rintro e w2 ⟨rfl, ew⟩
          obtain rfl : W1 = w2 := ew.symm
          go_wp2_with fail
          refine CL.out.mono ?_
          rintro e w3 ⟨rfl, x3⟩
          simp only [tv, Option.isSome_none, Option.isSome_some]
          have X3 := hid ((X1.out.trans x3).trans (tb_ext w3 0 0 0))
          have EZ : Hid (w3.alloc (.cells #[.int .i64 0, .int .i64 0, .int .u64 0] 43) = tb w3 0 0 0) := rfl
          have r3 := hid ((tb_ext w3 0 0 0).row (x3.row r1.out))
          have q3 := hid (tb_row w3 0 0 0)
          have gl : wr.heap.size ≤ w3.heap.size := (X1.out.trans x3).size
          obtain ⟨v0, v1, v2, v3, v4⟩ := row_cells r3.out
          rw [← EZ.out] at v0 v1 v2 v3 v4
          clear x3 CL LA u0 u1 u2 u3 u4 y0 y1 y2 y3 y4 TW
          go_wp2_with fail
          refine (S.out.takeX X3.out f m x m).mono ?_
          rintro e w4 ⟨rfl, s4, k4⟩
          rw [TE.out] at s4 ⊢
          have S4 := hid s4
          have r4 := hid (k4.row (g := p) pl r3.out)
          have q4 := hid (k4.row (g := w3.heap.size) gl q3.out)
          clear s4 k4 v0 v1 v2 v3 v4
          go_wp2_with fail
          refine (clr_any S4.out.1).mono ?_
          rintro e w5 ⟨rfl, x5⟩
          rw [EC.out, E2.out]
          simp only [tv, Option.isSome_none, Option.isSome_some]
          have S5 := hid ((S4.out.ext x5).ext (tb_ext w5 f m x))
          have EY : Hid (w5.alloc (.cells #[.int .i64 f, .int .i64 m, .int .u64 x] 43) = tb w5 f m x) := rfl
          obtain ⟨a0, a1, a2⟩ := row3 (tb_row w5 f m x)
          obtain ⟨b0, b1, b2⟩ := row3 ((x5.trans (tb_ext w5 f m x)).row q4.out)
          obtain ⟨c0, c1, c2, c3, c4⟩ := row_cells ((x5.trans (tb_ext w5 f m x)).row r4.out)
          rw [← EY.out] at a0 a1 a2 b0 b1 b2 c0 c1 c2 c3 c4
          have PE := fun W => told_eq W f m x
          have GT := guardT
          clear x5 S4 EC E2 TE
          go_wp2_with fail
          go_roundw
          case rel => exact ⟨k + 1, m, s', by omega, by go_num, rfl, m0, by omega, S5⟩
          case measure => simp [RowKit.intOf]; omega
        · simp at h
        · simp at h
        · simp at h
      | some y =>
        rw [ec] at CL TW
        rcases TW.out with ⟨e', ne, te⟩ | ⟨s', te, (⟨h, _⟩ | ⟨y', h, d, e2, e3⟩ | ⟨y', h, d, r, e2, e3⟩ | ⟨y', h, d, r, e2, e3⟩)⟩
        · have TE := hid te
          clear te ec
          go_wp2_with (rw [← EP.out, E1.out])
          refine (LA.out _).mono ?_
          rintro e w2 ⟨rfl, ew⟩
          obtain rfl : W1 = w2 := ew.symm
          go_wp2_with fail
          refine CL.out.mono ?_
          rintro e w3 ⟨rfl, x3⟩
          simp only [tv, Option.isSome_none, Option.isSome_some]
          have X3 := hid ((X1.out.trans x3).trans (tb_ext w3 s.2 y.1 y.2))
          have EZ : Hid (w3.alloc (.cells #[.int .i64 s.2, .int .i64 y.1, .int .u64 y.2] 43) = tb w3 s.2 y.1 y.2) := rfl
          have r3 := hid ((tb_ext w3 s.2 y.1 y.2).row (x3.row r1.out))
          have q3 := hid (tb_row w3 s.2 y.1 y.2)
          have gl : wr.heap.size ≤ w3.heap.size := (X1.out.trans x3).size
          obtain ⟨v0, v1, v2, v3, v4⟩ := row_cells r3.out
          rw [← EZ.out] at v0 v1 v2 v3 v4
          clear x3 CL LA u0 u1 u2 u3 u4 y0 y1 y2 y3 y4 TW
          go_wp2_with fail
          refine (S.out.takeX X3.out f m x m).mono ?_
          rintro e w4 ⟨rfl, s4, k4⟩
          rw [TE.out] at s4 ⊢
          have S4 := hid s4
          have r4 := hid (k4.row (g := p) pl r3.out)
          have q4 := hid (k4.row (g := w3.heap.size) gl q3.out)
          clear s4 k4 v0 v1 v2 v3 v4
          go_wp2_with fail
          go_roundw
          case rel => exact ⟨k + 1, m, s, by omega, by go_num, rfl, m0, by omega, S4⟩
          case measure => simp [RowKit.intOf]; omega
        · simp at h
        · rw [Option.some.injEq] at h
          subst h
          have TE := hid te
          have E2 := hid e2
          have EC := hid e3
          clear te e2 e3 ec
          by_cases r : f = s.2
          · subst r
            go_wp2_with (rw [← EP.out, E1.out])
            refine (LA.out _).mono ?_
            rintro e w2 ⟨rfl, ew⟩
            obtain rfl : W1 = w2 := ew.symm
            go_wp2_with fail
            refine CL.out.mono ?_
            rintro e w3 ⟨rfl, x3⟩
            simp only [tv, Option.isSome_none, Option.isSome_some]
            have X3 := hid ((X1.out.trans x3).trans (tb_ext w3 s.2 y.1 y.2))
            have EZ : Hid (w3.alloc (.cells #[.int .i64 s.2, .int .i64 y.1, .int .u64 y.2] 43) = tb w3 s.2 y.1 y.2) := rfl
            have r3 := hid ((tb_ext w3 s.2 y.1 y.2).row (x3.row r1.out))
            have q3 := hid (tb_row w3 s.2 y.1 y.2)
            have gl : wr.heap.size ≤ w3.heap.size := (X1.out.trans x3).size
            obtain ⟨v0, v1, v2, v3, v4⟩ := row_cells r3.out
            rw [← EZ.out] at v0 v1 v2 v3 v4
            clear x3 CL LA u0 u1 u2 u3 u4 y0 y1 y2 y3 y4 TW
            go_wp2_with fail
            refine (S.out.takeX X3.out s.2 m x m).mono ?_
            rintro e w4 ⟨rfl, s4, k4⟩
            rw [TE.out] at s4 ⊢
            have S4 := hid s4
            have r4 := hid (k4.row (g := p) pl r3.out)
            have q4 := hid (k4.row (g := w3.heap.size) gl q3.out)
            clear s4 k4 v0 v1 v2 v3 v4
            go_wp2_with fail
            refine (clr_any S4.out.1).mono ?_
            rintro e w5 ⟨rfl, x5⟩
            rw [EC.out, E2.out]
            simp only [tv, Option.isSome_none, Option.isSome_some]
            have S5 := hid ((S4.out.ext x5).ext (tb_ext w5 s.2 m x))
            have EY : Hid (w5.alloc (.cells #[.int .i64 s.2, .int .i64 m, .int .u64 x] 43) = tb w5 s.2 m x) := rfl
            obtain ⟨a0, a1, a2⟩ := row3 (tb_row w5 s.2 m x)
            obtain ⟨b0, b1, b2⟩ := row3 ((x5.trans (tb_ext w5 s.2 m x)).row q4.out)
            obtain ⟨c0, c1, c2, c3, c4⟩ := row_cells ((x5.trans (tb_ext w5 s.2 m x)).row r4.out)
            rw [← EY.out] at a0 a1 a2 b0 b1 b2 c0 c1 c2 c3 c4
            have PE := fun W => told_eq W s.2 m x
            have GT := guardT
            clear x5 S4 EC E2 TE
            go_wp2_with fail
            go_roundw
            case rel => exact ⟨k + 1, m, s', by omega, by go_num, rfl, m0, by omega, S5⟩
            case measure => simp [RowKit.intOf]; omega
          · have r' : (f == s.2) = false := beq_eq_false_iff_ne.2 r
            go_wp2_with (rw [← EP.out, E1.out])
            refine (LA.out _).mono ?_
            rintro e w2 ⟨rfl, ew⟩
            obtain rfl : W1 = w2 := ew.symm
            go_wp2_with fail
            refine CL.out.mono ?_
            rintro e w3 ⟨rfl, x3⟩
            simp only [tv, Option.isSome_none, Option.isSome_some]
            have X3 := hid ((X1.out.trans x3).trans (tb_ext w3 s.2 y.1 y.2))
            have EZ : Hid (w3.alloc (.cells #[.int .i64 s.2, .int .i64 y.1, .int .u64 y.2] 43) = tb w3 s.2 y.1 y.2) := rfl
            have r3 := hid ((tb_ext w3 s.2 y.1 y.2).row (x3.row r1.out))
            have q3 := hid (tb_row w3 s.2 y.1 y.2)
            have gl : wr.heap.size ≤ w3.heap.size := (X1.out.trans x3).size
            obtain ⟨v0, v1, v2, v3, v4⟩ := row_cells r3.out
            rw [← EZ.out] at v0 v1 v2 v3 v4
            clear x3 CL LA u0 u1 u2 u3 u4 y0 y1 y2 y3 y4 TW
            go_wp2_with fail
            refine (S.out.takeX X3.out f m x m).mono ?_
            rintro e w4 ⟨rfl, s4, k4⟩
            rw [TE.out] at s4 ⊢
            have S4 := hid s4
            have r4 := hid (k4.row (g := p) pl r3.out)
            have q4 := hid (k4.row (g := w3.heap.size) gl q3.out)
            clear s4 k4 v0 v1 v2 v3 v4
            go_wp2_with fail
            refine (clr_any S4.out.1).mono ?_
            rintro e w5 ⟨rfl, x5⟩
            rw [EC.out, E2.out]
            simp only [tv, Option.isSome_none, Option.isSome_some]
            have S5 := hid ((S4.out.ext x5).ext (tb_ext w5 f m x))
            have EY : Hid (w5.alloc (.cells #[.int .i64 f, .int .i64 m, .int .u64 x] 43) = tb w5 f m x) := rfl
            obtain ⟨a0, a1, a2⟩ := row3 (tb_row w5 f m x)
            obtain ⟨b0, b1, b2⟩ := row3 ((x5.trans (tb_ext w5 f m x)).row q4.out)
            obtain ⟨c0, c1, c2, c3, c4⟩ := row_cells ((x5.trans (tb_ext w5 f m x)).row r4.out)
            rw [← EY.out] at a0 a1 a2 b0 b1 b2 c0 c1 c2 c3 c4
            have PE := fun W => told_eq W f m x
            have GT := guardT
            clear x5 S4 EC E2 TE
            go_wp2_with fail
            go_roundw
            case rel => exact ⟨k + 1, m, s', by omega, by go_num, rfl, m0, by omega, S5⟩
            case measure => simp [RowKit.intOf]; omega
        · rw [Option.some.injEq] at h
          subst h
          have TE := hid te
          have E2 := hid e2
          have EC := hid e3
          clear te e2 e3 ec
          subst r
          go_wp2_with (rw [← EP.out, E1.out])
          refine (LA.out _).mono ?_
          rintro e w2 ⟨rfl, ew⟩
          obtain rfl : W1 = w2 := ew.symm
          go_wp2_with fail
          refine CL.out.mono ?_
          rintro e w3 ⟨rfl, x3⟩
          simp only [tv, Option.isSome_none, Option.isSome_some]
          have X3 := hid ((X1.out.trans x3).trans (tb_ext w3 s.2 y.1 y.2))
          have EZ : Hid (w3.alloc (.cells #[.int .i64 s.2, .int .i64 y.1, .int .u64 y.2] 43) = tb w3 s.2 y.1 y.2) := rfl
          have r3 := hid ((tb_ext w3 s.2 y.1 y.2).row (x3.row r1.out))
          have q3 := hid (tb_row w3 s.2 y.1 y.2)
          have gl : wr.heap.size ≤ w3.heap.size := (X1.out.trans x3).size
          obtain ⟨v0, v1, v2, v3, v4⟩ := row_cells r3.out
          rw [← EZ.out] at v0 v1 v2 v3 v4
          clear x3 CL LA u0 u1 u2 u3 u4 y0 y1 y2 y3 y4 TW
          go_wp2_with fail
          refine (S.out.takeX X3.out s.2 m x m).mono ?_
          rintro e w4 ⟨rfl, s4, k4⟩
          rw [TE.out] at s4 ⊢
          have S4 := hid s4
          have r4 := hid (k4.row (g := p) pl r3.out)
          have q4 := hid (k4.row (g := w3.heap.size) gl q3.out)
          clear s4 k4 v0 v1 v2 v3 v4
          go_wp2_with fail
          refine (clr_any S4.out.1).mono ?_
          rintro e w5 ⟨rfl, x5⟩
          rw [EC.out, E2.out]
          simp only [tv, Option.isSome_none, Option.isSome_some]
          have S5 := hid ((S4.out.ext x5).ext (tb_ext w5 s.2 m x))
          have EY : Hid (w5.alloc (.cells #[.int .i64 s.2, .int .i64 m, .int .u64 x] 43) = tb w5 s.2 m x) := rfl
          obtain ⟨a0, a1, a2⟩ := row3 (tb_row w5 s.2 m x)
          obtain ⟨b0, b1, b2⟩ := row3 ((x5.trans (tb_ext w5 s.2 m x)).row q4.out)
          obtain ⟨c0, c1, c2, c3, c4⟩ := row_cells ((x5.trans (tb_ext w5 s.2 m x)).row r4.out)
          rw [← EY.out] at a0 a1 a2 b0 b1 b2 c0 c1 c2 c3 c4
          have PE := fun W => told_eq W s.2 m x
          have GT := guardT
          clear x5 S4 EC E2 TE
          go_wp2_with fail
          go_roundw
          case rel => exact ⟨k + 1, m, s', by omega, by go_num, rfl, m0, by omega, S5⟩
          case measure => simp [RowKit.intOf]; omega
        · rw [Option.some.injEq] at h
          subst h
          have TE := hid te
          have E2 := hid e2
          have EC := hid e3
          clear te e2 e3 ec
          have r' : (f == s.2) = false := beq_eq_false_iff_ne.2 r
          go_wp2_with (rw [← EP.out, E1.out])
          refine (LA.out _).mono ?_
          rintro e w2 ⟨rfl, ew⟩
          obtain rfl : W1 = w2 := ew.symm
          go_wp2_with fail
          refine CL.out.mono ?_
          rintro e w3 ⟨rfl, x3⟩
          simp only [tv, Option.isSome_none, Option.isSome_some]
          have X3 := hid ((X1.out.trans x3).trans (tb_ext w3 s.2 y.1 y.2))
          have EZ : Hid (w3.alloc (.cells #[.int .i64 s.2, .int .i64 y.1, .int .u64 y.2] 43) = tb w3 s.2 y.1 y.2) := rfl
          have r3 := hid ((tb_ext w3 s.2 y.1 y.2).row (x3.row r1.out))
          have q3 := hid (tb_row w3 s.2 y.1 y.2)
          have gl : wr.heap.size ≤ w3.heap.size := (X1.out.trans x3).size
          obtain ⟨v0, v1, v2, v3, v4⟩ := row_cells r3.out
          rw [← EZ.out] at v0 v1 v2 v3 v4
          clear x3 CL LA u0 u1 u2 u3 u4 y0 y1 y2 y3 y4 TW
          go_wp2_with fail
          refine (S.out.takeX X3.out f m x m).mono ?_
          rintro e w4 ⟨rfl, s4, k4⟩
          rw [TE.out] at s4 ⊢
          have S4 := hid s4
          have r4 := hid (k4.row (g := p) pl r3.out)
          have q4 := hid (k4.row (g := w3.heap.size) gl q3.out)
          clear s4 k4 v0 v1 v2 v3 v4
          go_wp2_with fail
          refine (clr_any S4.out.1).mono ?_
          rintro e w5 ⟨rfl, x5⟩
          rw [EC.out, E2.out]
          simp only [tv, Option.isSome_none, Option.isSome_some]
          have S5 := hid ((S4.out.ext x5).ext (tb_ext w5 s.2 y.1 y.2))
          have EY : Hid (w5.alloc (.cells #[.int .i64 s.2, .int .i64 y.1, .int .u64 y.2] 43) = tb w5 s.2 y.1 y.2) := rfl
          obtain ⟨a0, a1, a2⟩ := row3 (tb_row w5 s.2 y.1 y.2)
          obtain ⟨b0, b1, b2⟩ := row3 ((x5.trans (tb_ext w5 s.2 y.1 y.2)).row q4.out)
          obtain ⟨c0, c1, c2, c3, c4⟩ := row_cells ((x5.trans (tb_ext w5 s.2 y.1 y.2)).row r4.out)
          rw [← EY.out] at a0 a1 a2 b0 b1 b2 c0 c1 c2 c3 c4
          have PE := fun W => told_eq W s.2 y.1 y.2
          have GT := guardT
          clear x5 S4 EC E2 TE
          go_wp2_with fail
          go_roundw
          case rel => exact ⟨k + 1, m, s', by omega, by go_num, rfl, m0, by omega, S5⟩
          case measure => simp [RowKit.intOf]; omega
    · obtain rfl : N = k := by omega
      have ST := hid S.out.2
      clear OPS GET
      go_wp2_with fail
      refine (AW.out _).mono ?_
      rintro e w5 ⟨rfl, x5⟩
      have XF := hid (ST.out.trans x5)
      clear AW S x5 ST
      go_wp2_with fail
      go_ret
      exact ⟨rfl, XF.out⟩
end Go.Proofs.Yteokeieddapjhaa.clrHolds

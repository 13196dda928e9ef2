/-
  SpeedPlays' walk.
-/
import Derived.Test.YtolcnliebjiejaaSpdStep
namespace Go.Proofs.Ytolcnliebjiejaa.speedPlays
set_option linter.unusedVariables false
set_option maxRecDepth 100000
open Go.RowKit Go.Lib Go.Proofs.Ytolcnliebjiejaa.Spd

set_option maxHeartbeats 8000000 in
theorem walk (f r : Int) (v0 : Value) (l : List OpS) (w : World) (wf0 : (Lit.int .u64 f).wf = true) (wf1 : (Lit.int .u64 r).wf = true) (hz : OpsIn w v0 l) : Calls Try.prog 3 #[.int .u64 f, .int .u64 r, v0] w fun e w' => e = .returned (.bool true) ∧ Ext w w' := by
  have hf : Wd f := by have := Go.bounds_u64 wf0; unfold Wd; omega
  have hr : Wd r := by have := Go.bounds_u64 wf1; unfold Wd; omega
  clear wf0 wf1
  have AW := hid (fun V => awake_any V)
  obtain ⟨ao, cp, rfl, k1, k2⟩ := hz.slice
  have OPS := hid hz.seen
  have GET : Hid (∀ k, k < l.length → ∃ q : OpS, l[k]? = some q) := fun k hk => ⟨_, List.getElem?_eq_getElem hk⟩
  obtain ⟨N, eN⟩ : ∃ N, N = l.length := ⟨_, rfl⟩
  rw [← eN] at GET k1 ⊢
  unfold maxLen at k2
  clear hz eN
  by_cases b0 : (100 : Int) < (N : Int)
  · clear OPS GET hf hr
    go_enter Try.func3, Try.ntmps3
    go_wp2_with fail
    refine (AW.out _).mono ?_
    rintro e wz ⟨rfl, xz⟩
    have XZ := hid xz
    clear xz
    go_wp2_with fail
    go_ret
    exact ⟨rfl, XZ.out⟩
  by_cases no : f = 0 ∨ r < f
  · have NW := hid (new_no f r w no)
    clear OPS GET hf hr
    by_cases q : f = 0
    case' pos =>
      subst q
      clear no
    case' neg =>
      have n1 : r < f := by omega
      have ne : (f == 0) = false := by simp; omega
      clear no q
    all_goals
      go_enter Try.func3, Try.ntmps3
      go_wp2_with fail
      refine NW.out.mono ?_
      rintro e w1 ⟨rfl, ew⟩
      obtain rfl := ew.symm
      go_wp2_with fail
      refine (AW.out _).mono ?_
      rintro e wz ⟨rfl, xz⟩
      have XZ := hid xz
      clear xz
      go_wp2_with fail
      go_ret
      exact ⟨rfl, XZ.out⟩
  have f1 : f ≠ 0 := by omega
  have f2 : f ≤ r := by omega
  have f3 : ¬ r < f := by omega
  have ne : (f == 0) = false := by simp; omega
  have NW := hid (new_yes f r w hf hr f1 f2)
  clear no f1
  go_enter Try.func3, Try.ntmps3
  go_wp2_with fail
  refine NW.out.mono ?_
  rintro e w1 ⟨b, rfl, t, hb, x1⟩
  have S0 : Hid (PlS w b w1 (f, r)) := ⟨t, x1, hb⟩
  clear t hb x1 NW
  go_wp2_with fail
  go_loopw [9, 11, 12, 48] (fun rv _ _ iv wr => ∃ (k : Nat) (n : Int), k ≤ N ∧ iv = .int .i64 (k : Int) ∧ rv = .int .u64 n ∧ Hid (PlS w b wr (f, n))) (fun _ _ _ iv _ => (N - RowKit.intOf iv).toNat)
  case atStart => exact ⟨0, r, by omega, rfl, rfl, S0⟩
  case round =>
    clear S0
    obtain ⟨k, n, hk, rfl, rfl, S⟩ := hrel
    by_cases q : k < N
    · clear AW
      have i1 : (k : Int) < (N : Int) := by omega
      have i2 : (0 : Int) ≤ (k : Int) := by omega
      obtain ⟨o, eo⟩ := GET.out k q
      obtain ⟨fo, g0, q0, rfl, CC⟩ := OPS.out k _ eo
      obtain ⟨y0, y1, y2, y3⟩ := CC _ S.out.2.1
      have S1 := hid (S.out.ext (bx_ext wr o.1 o.2.1 o.2.2.1 o.2.2.2))
      have r1 := hid (bx_row wr o.1 o.2.1 o.2.2.1 o.2.2.2)
      have E1 : Hid (wr.alloc (.cells #[.int .i64 o.1, .int .i64 o.2.1, .int .i64 o.2.2.1, .int .u64 o.2.2.2] 31) = bx wr o.1 o.2.1 o.2.2.1 o.2.2.2) := rfl
      obtain ⟨W1, eW⟩ : ∃ W1, W1 = bx wr o.1 o.2.1 o.2.2.1 o.2.2.2 := ⟨_, rfl⟩
      rw [← eW] at S1 r1 E1
      obtain ⟨p, ep⟩ : ∃ p, p = wr.heap.size := ⟨_, rfl⟩
      have EP := hid ep
      rw [← ep] at r1
      have ST := hid (step_any w W1 b (f, n) o S1.out fo)
      have FT := hid (nxt_fit S1.out.1.1 fo)
      generalize nxt (f, n) o = m at *
      simp only at ST FT
      obtain ⟨⟨f4, f5⟩, ⟨m0, m1⟩, m2⟩ := FT.out
      simp only at m0 m1 m2
      have m3 : ¬ m < f := by omega
      clear OPS GET S eo CC eW ep fo FT
      go_wp2_with (first
        | rw [← EP.out, E1.out]
        | refine wpList_load_row rfl 31 _ rfl p rfl 31 _ (0, 0) _ r1.out Try.underlying31 rfl size_o ?_)
      refine ST.out.mono ?_
      rintro e w2 ⟨rfl, t2, -⟩
      have S2 := hid t2
      clear t2 ST S1 E1 r1 y0 y1 y2 y3
      go_wp2_with fail
      refine (rate_any b _ _ S2.out.1).mono ?_
      rintro e w' ⟨rfl, ew⟩
      obtain rfl := ew.symm
      simp only
      go_wp2_with fail
      refine (rate_any b _ _ S2.out.1).mono ?_
      rintro e w' ⟨rfl, ew⟩
      obtain rfl := ew.symm
      simp only
      go_wp2_with fail
      refine (floor_any b _ _ S2.out.1).mono ?_
      rintro e w' ⟨rfl, ew⟩
      obtain rfl := ew.symm
      simp only
      go_wp2_with fail
      go_roundw
      case rel => exact ⟨k + 1, m, by omega, by go_num, rfl, S2⟩
      case measure => simp [RowKit.intOf]; omega
    · obtain rfl : N = k := by omega
      have ST := hid S.out.2.1
      clear OPS GET S
      go_wp2_with fail
      refine (AW.out _).mono ?_
      rintro e wz ⟨rfl, xz⟩
      have XZ := hid (ST.out.trans xz)
      clear xz
      go_wp2_with fail
      go_ret
      exact ⟨rfl, XZ.out⟩
end Go.Proofs.Ytolcnliebjiejaa.speedPlays

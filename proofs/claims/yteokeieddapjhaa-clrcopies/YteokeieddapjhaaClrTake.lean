/-
  Walk of Take. (Printed by wip/gen/clrtake.py.)
-/
import Derived.Test.YteokeieddapjhaaClrStale
import Derived.Test.YteokeieddapjhaaClrPut
namespace Go.Proofs.Yteokeieddapjhaa.Clr
set_option linter.unusedVariables false
set_option linter.unusedSimpArgs false
set_option maxRecDepth 100000
open Go.RowKit Go.Lib

/-- who is laid as the CLR, written anew -/
theorem Bk.who {K : Nat → Prop} {w : World} {b : Nat} {lim : Int} {s : BS} (h : Bk K w b lim s) (p : Int) :
    Bk K (w.setCell ⟨b, 2, none⟩ (.int .i64 p)) b lim (s.1, p) ∧ Kept K w (w.setCell ⟨b, 2, none⟩ (.int .i64 p)) ∧ w.frozen? ⟨b, 2, none⟩ = false := by
  obtain ⟨f, l, hk, nb, v, r, o, nv⟩ := h
  have ne := o.apart r (by decide)
  have es : w.setCell ⟨b, 2, none⟩ (.int .i64 p) = w.setRow b #[.int .i64 lim, v, .int .i64 p] := by rw [setCell_eq_setRow _ _ _ _ _ _ _ r]; rfl
  have kb : Kept (fun i => i ≠ b) w (w.setCell ⟨b, 2, none⟩ (.int .i64 p)) := by rw [es]; exact (Kept.refl _ w).setRow (fun hne => hne rfl) _
  exact ⟨⟨f, l, fun i hi => Nat.lt_of_lt_of_le (hk i hi) kb.size, nb, v, by rw [es]; exact setRow_heap _ _ _ _ _ _ r, o.kept kb (fun g hg e => ne (by rw [hg, e])), nv⟩, kb.mono (fun i hi e => nb (e ▸ hi)), frozen_of_row _ _ _ _ _ r⟩

set_option maxHeartbeats 2000000 in
theorem take_any {K : Nat → Prop} {w : World} {b : Nat} {lim : Int} {s : BS} (h : Bk K w b lim s) (f t x now : Int) :
    Calls Try.prog 13 #[.pointer (some ⟨b, 0, none⟩), .agg #[.int .i64 f, .int .i64 t, .int .u64 x], .int .i64 now] w fun e w' => e = .returned (.int .i64 (btake s lim f t x now).2) ∧ Bk K w' b lim (btake s lim f t x now).1 ∧ Kept K w w' := by
  obtain ⟨V0, e0⟩ : ∃ V0, V0 = w.alloc (.cells #[.int .i64 f, .int .i64 t, .int .u64 x] 43) := ⟨_, rfl⟩
  have X0 := hid (tb_ext w f t x)
  have R0 := hid (tb_row w f t x)
  rw [show tb w f t x = V0 from e0.symm] at X0 R0
  have E0 := hid e0
  obtain ⟨bx, ebx⟩ : ∃ bx, bx = w.heap.size := ⟨_, rfl⟩
  rw [← ebx] at R0
  have EB := hid ebx
  obtain ⟨y0, y1, y2⟩ := row3 R0.out
  have IR := hid (isr_any f V0)
  have IT := hid (ist_any t V0)
  have IN := hid (ist_any now V0)
  have H := hid h
  have FB : Hid (Bk K V0 b lim s ∧ Kept K w V0) := ⟨h.ext X0.out, Kept.of_ext X0.out⟩
  clear h ebx e0
  by_cases q1 : isR f
  case neg =>
    have es : btake s lim f t x now = (s, 11) := by unfold btake; rw [if_neg (fun g => q1 g.1)]
    rw [es]
    rw [decide_eq_false q1] at IR
    go_enter Try.func13, Try.ntmps13
    go_wp2_with fail
    rw [← E0.out, ← EB.out]
    refine IR.out.mono ?_
    rintro e w1 ⟨rfl, ew⟩
    obtain rfl : V0 = w1 := ew.symm
    go_wp2_with fail
    go_ret
    exact ⟨rfl, FB.out⟩
  rw [decide_eq_true q1] at IR
  by_cases q2 : isT t
  case neg =>
    have es : btake s lim f t x now = (s, 11) := by unfold btake; rw [if_neg (fun g => q2 g.2.1)]
    rw [es]
    rw [decide_eq_false q2] at IT
    go_enter Try.func13, Try.ntmps13
    go_wp2_with fail
    rw [← E0.out, ← EB.out]
    refine IR.out.mono ?_
    rintro e w1 ⟨rfl, ew⟩
    obtain rfl : V0 = w1 := ew.symm
    go_wp2_with fail
    refine IT.out.mono ?_
    rintro e w1 ⟨rfl, ew⟩
    obtain rfl : V0 = w1 := ew.symm
    go_wp2_with fail
    go_ret
    exact ⟨rfl, FB.out⟩
  rw [decide_eq_true q2] at IT
  by_cases q3 : isT now
  case neg =>
    have es : btake s lim f t x now = (s, 11) := by unfold btake; rw [if_neg (fun g => q3 g.2.2)]
    rw [es]
    rw [decide_eq_false q3] at IN
    go_enter Try.func13, Try.ntmps13
    go_wp2_with fail
    rw [← E0.out, ← EB.out]
    refine IR.out.mono ?_
    rintro e w1 ⟨rfl, ew⟩
    obtain rfl : V0 = w1 := ew.symm
    go_wp2_with fail
    refine IT.out.mono ?_
    rintro e w1 ⟨rfl, ew⟩
    obtain rfl : V0 = w1 := ew.symm
    go_wp2_with fail
    refine IN.out.mono ?_
    rintro e w1 ⟨rfl, ew⟩
    obtain rfl : V0 = w1 := ew.symm
    go_wp2_with fail
    go_ret
    exact ⟨rfl, FB.out⟩
  rw [decide_eq_true q3] at IN
  have ST := hid (stale_any FB.out.1 f t x now q2)
  by_cases q4 : stale s lim f t now
  case pos =>
    have es : btake s lim f t x now = (s, 23) := by unfold btake; rw [if_pos ⟨q1, q2, q3⟩, if_pos q4]
    rw [es]
    rw [decide_eq_true q4] at ST
    clear es q4
    go_enter Try.func13, Try.ntmps13
    go_wp2_with fail
    rw [← E0.out, ← EB.out]
    refine IR.out.mono ?_
    rintro e w1 ⟨rfl, ew⟩
    obtain rfl : V0 = w1 := ew.symm
    go_wp2_with fail
    refine IT.out.mono ?_
    rintro e w1 ⟨rfl, ew⟩
    obtain rfl : V0 = w1 := ew.symm
    go_wp2_with fail
    refine IN.out.mono ?_
    rintro e w1 ⟨rfl, ew⟩
    obtain rfl : V0 = w1 := ew.symm
    go_wp2_with fail
    refine ST.out.mono ?_
    rintro e w1 ⟨rfl, x1⟩
    have B1 : Hid (Bk K w1 b lim s ∧ Kept K w w1) := ⟨FB.out.1.ext x1, FB.out.2.trans (Kept.of_ext x1)⟩
    clear x1
    go_wp2_with fail
    go_ret
    exact ⟨rfl, B1.out⟩
  have es : btake s lim f t x now = (put s f t x, 0) := by unfold btake; rw [if_pos ⟨q1, q2, q3⟩, if_neg q4]
  rw [es]
  rw [decide_eq_false q4] at ST
  clear es q4
  by_cases q5 : limits s x
  · have ep : put s f t x = (s.1.set f.toNat (some (t, x)), f) := by unfold put; rw [if_pos q5]
    rw [ep]
    have LI := hid (fun W (X : Ext V0 W) => limiting_any (FB.out.1.ext X) f t x)
    rw [decide_eq_true q5] at LI
    have NX : Hid (∀ W, Ext V0 W → W.frozen? ⟨b, 2, none⟩ = false ∧ W.cell? ⟨b, 2, none⟩ = some (.int .i64 s.2) ∧ bx ≠ b ∧ W.heap[bx]? = some (.cells #[.int .i64 f, .int .i64 t, .int .u64 x] 43 (0, 0)) ∧ Bk K (W.setCell ⟨b, 2, none⟩ (.int .i64 f)) b lim (s.1, f) ∧ Kept K w (W.setCell ⟨b, 2, none⟩ (.int .i64 f))) := fun W X => by
      have h2 := FB.out.1.ext X
      obtain ⟨_, _, _, _, _, _, _, _, _, c2, _⟩ := h2.view
      obtain ⟨u1, u2, u3⟩ := h2.who f
      exact ⟨u3, c2, by have := H.out.lt; have := EB.out; omega, X.row R0.out, u1, (FB.out.2.trans (Kept.of_ext X)).trans u2⟩
    clear ep q5
    go_enter Try.func13, Try.ntmps13
    go_wp2_with fail
    rw [← E0.out, ← EB.out]
    refine IR.out.mono ?_
    rintro e w1 ⟨rfl, ew⟩
    obtain rfl : V0 = w1 := ew.symm
    go_wp2_with fail
    refine IT.out.mono ?_
    rintro e w1 ⟨rfl, ew⟩
    obtain rfl : V0 = w1 := ew.symm
    go_wp2_with fail
    refine IN.out.mono ?_
    rintro e w1 ⟨rfl, ew⟩
    obtain rfl : V0 = w1 := ew.symm
    go_wp2_with fail
    refine ST.out.mono ?_
    rintro e w1 ⟨rfl, x1⟩
    have X1 := hid x1
    obtain ⟨z0, z1, z2⟩ := row3 (x1.row R0.out)
    clear x1 ST
    go_wp2_with fail
    refine (LI.out _ X1.out).mono ?_
    rintro e w2 ⟨rfl, x2⟩
    have X2 := hid (X1.out.trans x2)
    obtain ⟨n1, n2, n3, n4, n5, n6⟩ := NX.out w2 X2.out
    obtain ⟨v0, v1, v2⟩ := row3 n4
    have n7 : (w2.setCell ⟨b, 2, none⟩ (.int .i64 f)).heap[bx]? = some (.cells #[.int .i64 f, .int .i64 t, .int .u64 x] 43 (0, 0)) := by rw [heap_setCell_other _ _ _ _ n3]; exact n4
    have PU := hid (put_any n5 f t x q1 q2)
    have N6 := hid n6
    obtain ⟨W3, e3⟩ : ∃ W3, W3 = w2.setCell ⟨b, 2, none⟩ (.int .i64 f) := ⟨_, rfl⟩
    rw [← e3] at n7 PU N6
    have E3 := hid e3
    obtain ⟨u0, u1, u2⟩ := row3 n7
    clear x2 n5 n6 n4 n7 e3 LI NX
    go_wp2_with (rw [← E3.out])
    refine PU.out.mono ?_
    rintro e w4 ⟨rfl, p1, p2⟩
    have P1 : Hid (Bk K w4 b lim (s.1.set f.toNat (some (t, x)), f) ∧ Kept K w w4) := ⟨p1, N6.out.trans p2⟩
    clear p1 p2
    go_wp2_with fail
    go_ret
    exact ⟨rfl, P1.out⟩
  · have ep : put s f t x = (s.1.set f.toNat (some (t, x)), s.2) := by unfold put; rw [if_neg q5]
    rw [ep]
    have LI := hid (fun W (X : Ext V0 W) => limiting_any (FB.out.1.ext X) f t x)
    rw [decide_eq_false q5] at LI
    clear ep q5
    go_enter Try.func13, Try.ntmps13
    go_wp2_with fail
    rw [← E0.out, ← EB.out]
    refine IR.out.mono ?_
    rintro e w1 ⟨rfl, ew⟩
    obtain rfl : V0 = w1 := ew.symm
    go_wp2_with fail
    refine IT.out.mono ?_
    rintro e w1 ⟨rfl, ew⟩
    obtain rfl : V0 = w1 := ew.symm
    go_wp2_with fail
    refine IN.out.mono ?_
    rintro e w1 ⟨rfl, ew⟩
    obtain rfl : V0 = w1 := ew.symm
    go_wp2_with fail
    refine ST.out.mono ?_
    rintro e w1 ⟨rfl, x1⟩
    have X1 := hid x1
    obtain ⟨z0, z1, z2⟩ := row3 (x1.row R0.out)
    clear x1 ST
    go_wp2_with fail
    refine (LI.out _ X1.out).mono ?_
    rintro e w2 ⟨rfl, x2⟩
    have X2 := hid (X1.out.trans x2)
    obtain ⟨v0, v1, v2⟩ := row3 (X2.out.row R0.out)
    have PU := hid (put_any (FB.out.1.ext X2.out) f t x q1 q2)
    clear x2 LI
    go_wp2_with fail
    refine PU.out.mono ?_
    rintro e w4 ⟨rfl, p1, p2⟩
    have P1 : Hid (Bk K w4 b lim (s.1.set f.toNat (some (t, x)), s.2) ∧ Kept K w w4) := ⟨p1, (FB.out.2.trans (Kept.of_ext X2.out)).trans p2⟩
    clear p1 p2
    go_wp2_with fail
    go_ret
    exact ⟨rfl, P1.out⟩
end Go.Proofs.Yteokeieddapjhaa.Clr

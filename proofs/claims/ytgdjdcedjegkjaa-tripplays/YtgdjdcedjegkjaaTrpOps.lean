/-
  Walks of Sample, Get, Known, Ticks, Copy, and of the reference's Lasted and Next.
-/
import Derived.Test.YtgdjdcedjegkjaaTrpMem
namespace Go.Proofs.Ytgdjdcedjegkjaa.Trp
set_option linter.unusedVariables false
set_option maxRecDepth 100000
open Go.RowKit Go.Lib

/-- what Sample tells -/
def err (x : Int) : Int := if x < 0 then 11 else 0

set_option maxHeartbeats 2000000 in
theorem sample_any (b : Nat) (s : TS) (a e h : Int) (w : World) (hv : TrpV w b s) (hn : s.2 ≤ 1000) :
    Calls Try.prog 13 #[.pointer (some ⟨b, 0, none⟩), .int .i64 a, .int .i64 e, .int .i64 h] w fun r w' => r = .returned (.int .i64 (err (lasted a e h))) ∧ TrpV w' b (tst s (lasted a e h)) ∧ Kept (fun q => q ≠ b) w w' := by
  have IA := hid (istick_any a w)
  have IE := hid (istick_any e w)
  have IH := hid (istick_any h w)
  by_cases bad : a < 0 ∨ 1099511627776 < a ∨ e < 0 ∨ 1099511627776 < e ∨ h < 0 ∨ 1099511627776 < h ∨ a - e - h < 0 ∨ 1048576 < a - e - h
  · have el := lasted_bad a e h bad
    have FIN : Hid (TrpV w b (tst s (lasted a e h)) ∧ Kept (fun q => q ≠ b) w w) := ⟨by rw [el]; exact hv, Kept.refl _ _⟩
    have ee : err (lasted a e h) = 11 := by rw [el]; rfl
    rw [ee]
    clear ee el hv
    by_cases qa : 0 ≤ a ∧ a ≤ 1099511627776
    · rw [decide_eq_true qa] at IA
      by_cases qe : 0 ≤ e ∧ e ≤ 1099511627776
      · rw [decide_eq_true qe] at IE
        by_cases qh : 0 ≤ h ∧ h ≤ 1099511627776
        · rw [decide_eq_true qh] at IH
          have w1 : IntKind.i64.wrap (a - e) = a - e := IntWalk.i64_in _ (by omega)
          have w2 : IntKind.i64.wrap (a - e - h) = a - e - h := IntWalk.i64_in _ (by omega)
          by_cases q0 : a - e - h < 0
          · clear bad
            go_enter Try.func13, Try.ntmps13
            go_wp2_with fail
            refine IA.out.mono ?_
            rintro e w1 ⟨rfl, ew⟩
            obtain rfl : w = w1 := ew.symm
            go_wp2_with fail
            refine IE.out.mono ?_
            rintro e w1 ⟨rfl, ew⟩
            obtain rfl : w = w1 := ew.symm
            go_wp2_with fail
            refine IH.out.mono ?_
            rintro e w1 ⟨rfl, ew⟩
            obtain rfl : w = w1 := ew.symm
            go_wp2_with fail
            go_ret
            exact ⟨rfl, FIN.out⟩
          · have q1 : 1048576 < a - e - h := by omega
            clear bad
            go_enter Try.func13, Try.ntmps13
            go_wp2_with fail
            refine IA.out.mono ?_
            rintro e w1 ⟨rfl, ew⟩
            obtain rfl : w = w1 := ew.symm
            go_wp2_with fail
            refine IE.out.mono ?_
            rintro e w1 ⟨rfl, ew⟩
            obtain rfl : w = w1 := ew.symm
            go_wp2_with fail
            refine IH.out.mono ?_
            rintro e w1 ⟨rfl, ew⟩
            obtain rfl : w = w1 := ew.symm
            go_wp2_with fail
            go_ret
            exact ⟨rfl, FIN.out⟩
        · rw [decide_eq_false qh] at IH
          clear bad
          go_enter Try.func13, Try.ntmps13
          go_wp2_with fail
          refine IA.out.mono ?_
          rintro e w1 ⟨rfl, ew⟩
          obtain rfl : w = w1 := ew.symm
          go_wp2_with fail
          refine IE.out.mono ?_
          rintro e w1 ⟨rfl, ew⟩
          obtain rfl : w = w1 := ew.symm
          go_wp2_with fail
          refine IH.out.mono ?_
          rintro e w1 ⟨rfl, ew⟩
          obtain rfl : w = w1 := ew.symm
          go_wp2_with fail
          go_ret
          exact ⟨rfl, FIN.out⟩
      · rw [decide_eq_false qe] at IE
        clear bad
        go_enter Try.func13, Try.ntmps13
        go_wp2_with fail
        refine IA.out.mono ?_
        rintro e w1 ⟨rfl, ew⟩
        obtain rfl : w = w1 := ew.symm
        go_wp2_with fail
        refine IE.out.mono ?_
        rintro e w1 ⟨rfl, ew⟩
        obtain rfl : w = w1 := ew.symm
        go_wp2_with fail
        go_ret
        exact ⟨rfl, FIN.out⟩
    · rw [decide_eq_false qa] at IA
      clear bad
      go_enter Try.func13, Try.ntmps13
      go_wp2_with fail
      refine IA.out.mono ?_
      rintro e w1 ⟨rfl, ew⟩
      obtain rfl : w = w1 := ew.symm
      go_wp2_with fail
      go_ret
      exact ⟨rfl, FIN.out⟩
  · have el := lasted_good a e h bad
    have ee : err (lasted a e h) = 0 := by rw [el]; unfold err; rw [if_neg (by omega)]
    rw [ee, el]
    obtain ⟨m, em⟩ : ∃ m, max (a - e - h) 1 = m := ⟨_, rfl⟩
    rw [em]
    have m1 : 1 ≤ m := by omega
    have m2 : m ≤ 1048576 := by omega
    have TK := hid (take_any b s m w hv hn m1 m2)
    have OF := hid (of_any m (by omega) (by omega) w)
    have wm : IntKind.u32.wrap m = m := IntWalk.u32_in _ (by omega)
    have w1 : IntKind.i64.wrap (a - e) = a - e := IntWalk.i64_in _ (by omega)
    have w2 : IntKind.i64.wrap (a - e - h) = a - e - h := IntWalk.i64_in _ (by omega)
    rw [decide_eq_true (by omega)] at IA
    rw [decide_eq_true (by omega)] at IE
    rw [decide_eq_true (by omega)] at IH
    have q0 : ¬ a - e - h < 0 := by omega
    have q1 : ¬ 1048576 < a - e - h := by omega
    clear bad ee el hv
    by_cases q2 : a - e - h < 1
    · obtain rfl : m = 1 := by omega
      go_enter Try.func13, Try.ntmps13
      go_wp2_with fail
      refine IA.out.mono ?_
      rintro e w1 ⟨rfl, ew⟩
      obtain rfl : w = w1 := ew.symm
      go_wp2_with fail
      refine IE.out.mono ?_
      rintro e w1 ⟨rfl, ew⟩
      obtain rfl : w = w1 := ew.symm
      go_wp2_with fail
      refine IH.out.mono ?_
      rintro e w1 ⟨rfl, ew⟩
      obtain rfl : w = w1 := ew.symm
      go_wp2_with fail
      refine OF.out.mono ?_
      rintro e w1 ⟨rfl, ew⟩
      obtain rfl : w = w1 := ew.symm
      go_wp2_with fail
      refine TK.out.mono ?_
      rintro e w1 ⟨rfl, t, k⟩
      have FIN := hid (show TrpV _ _ _ ∧ Kept _ _ _ from ⟨t, k⟩)
      clear t k
      go_wp2_with fail
      go_ret
      exact ⟨rfl, FIN.out⟩
    · have q3 : 1 ≤ a - e - h := by omega
      obtain rfl : m = a - e - h := by omega
      go_enter Try.func13, Try.ntmps13
      go_wp2_with fail
      refine IA.out.mono ?_
      rintro e w1 ⟨rfl, ew⟩
      obtain rfl : w = w1 := ew.symm
      go_wp2_with fail
      refine IE.out.mono ?_
      rintro e w1 ⟨rfl, ew⟩
      obtain rfl : w = w1 := ew.symm
      go_wp2_with fail
      refine IH.out.mono ?_
      rintro e w1 ⟨rfl, ew⟩
      obtain rfl : w = w1 := ew.symm
      go_wp2_with fail
      refine OF.out.mono ?_
      rintro e w1 ⟨rfl, ew⟩
      obtain rfl : w = w1 := ew.symm
      go_wp2_with fail
      refine TK.out.mono ?_
      rintro e w1 ⟨rfl, t, k⟩
      have FIN := hid (show TrpV _ _ _ ∧ Kept _ _ _ from ⟨t, k⟩)
      clear t k
      go_wp2_with fail
      go_ret
      exact ⟨rfl, FIN.out⟩

theorem get_any (b : Nat) (s : TS) (w : World) (h : TrpV w b s) : Calls Try.prog 9 #[.pointer (some ⟨b, 0, none⟩)] w fun e w' => e = .returned (.int .u64 s.1) ∧ w' = w := by
  have c0 := h.c0
  clear h
  go_enter Try.func9, Try.ntmps9
  go_wp2_with fail
  go_ret
  exact ⟨rfl, rfl⟩

theorem known_any (b : Nat) (s : TS) (w : World) (h : TrpV w b s) : Calls Try.prog 10 #[.pointer (some ⟨b, 0, none⟩)] w fun e w' => e = .returned (.int .i64 s.2) ∧ w' = w := by
  have c1 := h.c1
  clear h
  go_enter Try.func10, Try.ntmps10
  go_wp2_with fail
  go_ret
  exact ⟨rfl, rfl⟩

set_option maxHeartbeats 1000000 in
theorem ticks_any (b : Nat) (s : TS) (w : World) (h : TrpV w b s) : Calls Try.prog 11 #[.pointer (some ⟨b, 0, none⟩)] w fun e w' => e = .returned (.int .i64 (tk s.1)) ∧ Ext w w' := by
  have c0 := h.c0
  obtain ⟨f1, f2, _⟩ := h.1
  clear h
  obtain ⟨g, n⟩ := s
  simp only at c0 f1 f2 ⊢
  have WH := hid (fun V => whole_any g (by omega) f2 V)
  have OF := hid (fun V => of_any (g / 4294967296) (by omega) (by omega) V)
  by_cases q : g % 4294967296 = 0
  · have e0 : tk g = g / 4294967296 := by unfold tk; rw [if_pos q]
    have q1 : ¬ g / 4294967296 * 4294967296 < g := by omega
    rw [e0]
    have r0 : 0 ≤ g / 4294967296 := by omega
    have r1 : g / 4294967296 < 4294967296 := by omega
    obtain ⟨y, ey⟩ : ∃ y, y = g / 4294967296 := ⟨_, rfl⟩
    rw [← ey] at WH OF q1 r0 r1 ⊢
    clear ey e0 q
    go_enter Try.func11, Try.ntmps11
    go_wp2_with fail
    refine (WH.out _).mono ?_
    rintro e w1 ⟨rfl, ew⟩
    obtain rfl : w = w1 := ew.symm
    go_wp2_with fail
    go_quiet (first
      | (go_at_call 19; refine Calls.quiet_of_same (WH.out _))
      | (go_at_call 16; refine Calls.quiet_of_same (OF.out _)))
    go_wp2_with fail
    go_ret
    exact ⟨rfl, (Ext.refl w).drewN _⟩
  · have e0 : tk g = g / 4294967296 + 1 := by unfold tk; rw [if_neg q]
    have q1 : g / 4294967296 * 4294967296 < g := by omega
    rw [e0]
    have r0 : 0 ≤ g / 4294967296 := by omega
    have r1 : g / 4294967296 < 4294967296 := by omega
    obtain ⟨y, ey⟩ : ∃ y, y = g / 4294967296 := ⟨_, rfl⟩
    rw [← ey] at WH OF q1 r0 r1 ⊢
    clear ey e0 q
    go_enter Try.func11, Try.ntmps11
    go_wp2_with fail
    refine (WH.out _).mono ?_
    rintro e w1 ⟨rfl, ew⟩
    obtain rfl : w = w1 := ew.symm
    go_wp2_with fail
    go_quiet (first
      | (go_at_call 19; refine Calls.quiet_of_same (WH.out _))
      | (go_at_call 16; refine Calls.quiet_of_same (OF.out _)))
    go_wp2_with fail
    go_ret
    exact ⟨rfl, (Ext.refl w).drewN _⟩

theorem size_t : (Try.prog.info? 47).map (·.size) = some 2 := by kernel_rfl
theorem copy_any (b : Nat) (s : TS) (w : World) (h : TrpV w b s) :
    Calls Try.prog 17 #[.pointer (some ⟨b, 0, none⟩)] w fun e w' => ∃ c, e = .returned (.pointer (some ⟨c, 0, none⟩)) ∧ TrpV w' c s ∧ w.heap.size ≤ c ∧ Ext w w' := by
  have c0 := h.c0
  have c1 := h.c1
  have F := hid h.1
  clear h
  obtain ⟨g, n⟩ := s
  simp only at c0 c1
  go_enter Try.func17, Try.ntmps17
  go_wp2_with fail
  go_ret
  exact ⟨_, rfl, ⟨F.out, heap_alloc_new w _⟩, Nat.le_refl _, (Ext.refl w).alloc _⟩

set_option maxHeartbeats 1000000 in
theorem next_any (s : TS) (x : Int) (w : World) (h : Fit s) (hx : 1 ≤ x) (hx' : x ≤ 1048576) :
    Calls Try.prog 18 #[.int .u64 s.1, .int .i64 s.2, .int .i64 x] w fun e w' => e = .returned (.int .u64 (tst s x).1) ∧ w' = w := by
  have FT := fit_step (x := x) h (.inr ⟨hx, hx'⟩)
  have e : tst s x = (nxt s.1 s.2 x, s.2 + 1) := by unfold tst; rw [if_neg (by omega)]
  rw [e] at FT ⊢
  obtain ⟨t1, t2, _⟩ := FT
  obtain ⟨f1, f2, f3, f4⟩ := h
  obtain ⟨g, n⟩ := s
  simp only at t1 t2 f1 f2 f3 f4 ⊢
  clear e
  have w0 : IntKind.u64.wrap x = x := IntWalk.u64_in _ (by omega)
  by_cases n0 : n = 0
  · subst n0
    have en : nxt g 0 x = x * 4294967296 := by unfold nxt; rw [if_pos rfl]
    rw [en]
    clear en t1 t2 f4
    go_enter Try.func18, Try.ntmps18
    go_wp2_with fail
    go_ret
    exact ⟨rfl, rfl⟩
  · have f5 := f4 (by omega)
    have en : nxt g n x = g - g / 8 + x * 4294967296 / 8 := by unfold nxt; rw [if_neg n0]
    rw [en] at t1 t2 ⊢
    clear en f4
    go_enter Try.func18, Try.ntmps18
    go_wp2_with fail
    go_ret
    exact ⟨rfl, rfl⟩
end Go.Proofs.Ytgdjdcedjegkjaa.Trp

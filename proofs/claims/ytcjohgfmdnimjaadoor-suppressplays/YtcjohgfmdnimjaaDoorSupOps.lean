/-
  Walks of Start, Echo, Fire, Urge.
-/
import Derived.Test.YtcjohgfmdnimjaaDoorSupMem
namespace Go.Proofs.YtcjohgfmdnimjaaDoor.Sup
set_option linter.unusedVariables false
set_option maxRecDepth 100000
open Go.RowKit Go.Lib

set_option maxHeartbeats 2000000 in
theorem start_any (b : Nat) (s : SS) (a n c x : Int) (w : World) (h : RndV w b s) (h0 : 0 ≤ x) (h1 : x < 18446744073709551616) :
    Calls Tryd.prog 14 #[.pointer (some ⟨b, 0, none⟩), .int .i64 a, .int .i64 n, .int .i64 c, .int .u64 x] w fun e w' => e = .returned (.int .i64 (sstart s a n c x).2) ∧ RndV w' b (sstart s a n c x).1 ∧ Kept (fun q => q ≠ b) w w' := by
  have IA := hid (istick_any a w)
  have IN := hid (istick_any n w)
  have IC := hid (istick_any c w)
  have c0 := h.c0
  have FT := fit_start (s := s) (a := a) (b := n) (c := c) (x := x) h.1 h0 h1
  have H := hid h
  clear h
  by_cases qa : isT a
  · rw [decide_eq_true qa] at IA
    by_cases qn : isT n
    · rw [decide_eq_true qn] at IN
      by_cases qc : isT c
      · rw [decide_eq_true qc] at IC
        by_cases q : a ≤ s.1
        · have es : sstart s a n c x = (s, 24) := by unfold sstart; rw [if_pos ⟨qa, qn, qc⟩, if_pos q]
          rw [es]
          have FIN : Hid (RndV w b s ∧ Kept (fun q => q ≠ b) w w) := ⟨H.out, Kept.refl _ _⟩
          obtain ⟨N, eN⟩ : ∃ N, N = s.1 := ⟨_, rfl⟩
          rw [← eN] at c0 q
          clear es H eN FT qa qn qc
          go_enter Tryd.func14, Tryd.ntmps14
          go_wp2_with fail
          refine IA.out.mono ?_
          rintro e w1 ⟨rfl, ew⟩
          obtain rfl : w = w1 := ew.symm
          go_wp2_with fail
          refine IN.out.mono ?_
          rintro e w1 ⟨rfl, ew⟩
          obtain rfl : w = w1 := ew.symm
          go_wp2_with fail
          refine IC.out.mono ?_
          rintro e w1 ⟨rfl, ew⟩
          obtain rfl : w = w1 := ew.symm
          go_wp2_with fail
          go_ret
          exact ⟨rfl, FIN.out⟩
        · have es : sstart s a n c x = ((a, x, true, n + c), 0) := by unfold sstart; rw [if_pos ⟨qa, qn, qc⟩, if_neg q]
          rw [es] at FT ⊢
          have FIN := hid (H.out.put FT)
          have ST := hid (H.out.store (a, x, true, n + c))
          have wn : IntKind.i64.wrap (n + c) = n + c := IntWalk.i64_in _ (by have := qn.1; have := qn.2; have := qc.1; have := qc.2; omega)
          obtain ⟨N, eN⟩ : ∃ N, N = s.1 := ⟨_, rfl⟩
          rw [← eN] at c0 q
          clear es H eN FT qa qn qc
          go_enter Tryd.func14, Tryd.ntmps14
          go_wp2_with fail
          refine IA.out.mono ?_
          rintro e w1 ⟨rfl, ew⟩
          obtain rfl : w = w1 := ew.symm
          go_wp2_with fail
          refine IN.out.mono ?_
          rintro e w1 ⟨rfl, ew⟩
          obtain rfl : w = w1 := ew.symm
          go_wp2_with fail
          refine IC.out.mono ?_
          rintro e w1 ⟨rfl, ew⟩
          obtain rfl : w = w1 := ew.symm
          go_wp2_with (refine wpList_store_known rfl 61 (.tmp 37) (.tmp 36) rfl (.pointer (some ⟨b, 0, none⟩)) (.agg (rr (a, x, true, n + c))) rfl rfl ST.out ?_)
          go_ret
          exact ⟨rfl, FIN.out⟩
      · rw [decide_eq_false qc] at IC
        have es : sstart s a n c x = (s, 11) := by unfold sstart; rw [if_neg (fun g => qc g.2.2)]
        rw [es]
        have FIN : Hid (RndV w b s ∧ Kept (fun q => q ≠ b) w w) := ⟨H.out, Kept.refl _ _⟩
        clear es H FT qa qn qc c0
        go_enter Tryd.func14, Tryd.ntmps14
        go_wp2_with fail
        refine IA.out.mono ?_
        rintro e w1 ⟨rfl, ew⟩
        obtain rfl : w = w1 := ew.symm
        go_wp2_with fail
        refine IN.out.mono ?_
        rintro e w1 ⟨rfl, ew⟩
        obtain rfl : w = w1 := ew.symm
        go_wp2_with fail
        refine IC.out.mono ?_
        rintro e w1 ⟨rfl, ew⟩
        obtain rfl : w = w1 := ew.symm
        go_wp2_with fail
        go_ret
        exact ⟨rfl, FIN.out⟩
    · rw [decide_eq_false qn] at IN
      have es : sstart s a n c x = (s, 11) := by unfold sstart; rw [if_neg (fun g => qn g.2.1)]
      rw [es]
      have FIN : Hid (RndV w b s ∧ Kept (fun q => q ≠ b) w w) := ⟨H.out, Kept.refl _ _⟩
      clear es H FT qa qn c0
      go_enter Tryd.func14, Tryd.ntmps14
      go_wp2_with fail
      refine IA.out.mono ?_
      rintro e w1 ⟨rfl, ew⟩
      obtain rfl : w = w1 := ew.symm
      go_wp2_with fail
      refine IN.out.mono ?_
      rintro e w1 ⟨rfl, ew⟩
      obtain rfl : w = w1 := ew.symm
      go_wp2_with fail
      go_ret
      exact ⟨rfl, FIN.out⟩
  · rw [decide_eq_false qa] at IA
    have es : sstart s a n c x = (s, 11) := by unfold sstart; rw [if_neg (fun g => qa g.1)]
    rw [es]
    have FIN : Hid (RndV w b s ∧ Kept (fun q => q ≠ b) w w) := ⟨H.out, Kept.refl _ _⟩
    clear es H FT qa c0
    go_enter Tryd.func14, Tryd.ntmps14
    go_wp2_with fail
    refine IA.out.mono ?_
    rintro e w1 ⟨rfl, ew⟩
    obtain rfl : w = w1 := ew.symm
    go_wp2_with fail
    go_ret
    exact ⟨rfl, FIN.out⟩

set_option maxHeartbeats 2000000 in
theorem echo_any (b : Nat) (s : SS) (a x : Int) (w : World) (h : RndV w b s) (h0 : 0 ≤ x) (h1 : x < 18446744073709551616) :
    Calls Tryd.prog 16 #[.pointer (some ⟨b, 0, none⟩), .int .i64 a, .int .u64 x] w fun e w' => e = .returned (.bool (secho s a x).2) ∧ RndV w' b (secho s a x).1 ∧ Kept (fun q => q ≠ b) w w' := by
  have LO := hid (islow_any b s x w h h0 h1)
  have EN := hid (fun k => end_any b s (w.drewN k) (h.drewN k))
  have c0 := h.c0
  have c2 := h.c2
  have H := hid h
  clear h
  obtain ⟨n, o, r, d⟩ := s
  simp only at c0 c2 LO
  have ED : Hid (secho (n, o, r, d) a x = if r = true ∧ a = n ∧ isLow x o then ((n, o, false, d), true) else ((n, o, r, d), false)) := rfl
  have FIN : Hid (∀ k, RndV (w.drewN k) b (n, o, r, d) ∧ Kept (fun q => q ≠ b) w (w.drewN k)) := fun k => ⟨H.out.drewN k, (Kept.refl _ w).drewN k⟩
  cases r with
  | false =>
    have es := ED.out
    rw [if_neg (fun g => by cases g.1)] at es
    rw [es]
    clear es H ED LO EN
    go_enter Tryd.func16, Tryd.ntmps16
    go_wp2_with fail
    go_ret
    exact ⟨rfl, FIN.out 0⟩
  | true =>
    by_cases q : a = n
    · subst q
      by_cases l : isLow x o
      · have es := ED.out
        rw [if_pos ⟨rfl, rfl, l⟩] at es
        rw [es]
        rw [decide_eq_true l] at LO
        clear es H ED l
        go_enter Tryd.func16, Tryd.ntmps16
        go_wp2_with fail
        refine LO.out.mono ?_
        rintro e w1 ⟨rfl, k, rfl⟩
        go_wp2_with fail
        refine (EN.out _).mono ?_
        rintro e w2 ⟨rfl, r2, k2⟩
        have G2 : Hid (RndV w2 b (a, o, false, d) ∧ Kept (fun q => q ≠ b) w w2) := ⟨r2, (show Kept (fun q => q ≠ b) w (w.drewN k) from (Kept.refl _ w).drewN k).trans k2⟩
        clear r2 k2
        go_wp2_with fail
        go_ret
        exact ⟨rfl, G2.out⟩
      · have es := ED.out
        rw [if_neg (fun g => l g.2.2)] at es
        rw [es]
        rw [decide_eq_false l] at LO
        clear es H ED l
        go_enter Tryd.func16, Tryd.ntmps16
        go_wp2_with fail
        refine LO.out.mono ?_
        rintro e w1 ⟨rfl, k, rfl⟩
        go_wp2_with fail
        go_ret
        exact ⟨rfl, FIN.out _⟩
    · have es := ED.out
      rw [if_neg (fun g => q g.2.1)] at es
      rw [es]
      have ne : (a == n) = false := by simp; omega
      have ne2 : (a != n) = true := by simp; omega
      clear es H ED LO EN
      go_enter Tryd.func16, Tryd.ntmps16
      go_wp2_with fail
      go_ret
      exact ⟨rfl, FIN.out 0⟩

set_option maxHeartbeats 2000000 in
theorem fire_any (b : Nat) (s : SS) (a : Int) (w : World) (h : RndV w b s) :
    Calls Tryd.prog 17 #[.pointer (some ⟨b, 0, none⟩), .int .i64 a] w fun e w' => e = .returned (.bool (sfire s a).2) ∧ RndV w' b (sfire s a).1 ∧ Kept (fun q => q ≠ b) w w' := by
  have EN := hid (end_any b s w h)
  have c2 := h.c2
  have c3 := h.c3
  have H := hid h
  clear h
  obtain ⟨n, o, r, d⟩ := s
  simp only at c2
  have ED : Hid (sfire (n, o, r, d) a = if r = true ∧ d ≤ a then ((n, o, false, d), true) else ((n, o, r, d), false)) := rfl
  have FIN : Hid (RndV w b (n, o, r, d) ∧ Kept (fun q => q ≠ b) w w) := ⟨H.out, Kept.refl _ w⟩
  cases r with
  | false =>
    have es := ED.out
    rw [if_neg (fun g => by cases g.1)] at es
    rw [es]
    clear es H ED EN c3
    go_enter Tryd.func17, Tryd.ntmps17
    go_wp2_with fail
    go_ret
    exact ⟨rfl, FIN.out⟩
  | true =>
    rw [show pd (n, o, true, d) = d from rfl] at c3
    by_cases q : d ≤ a
    · have es := ED.out
      rw [if_pos ⟨rfl, q⟩] at es
      rw [es]
      clear es H ED
      go_enter Tryd.func17, Tryd.ntmps17
      go_wp2_with fail
      refine EN.out.mono ?_
      rintro e w2 ⟨rfl, r2, k2⟩
      have G2 : Hid (RndV w2 b (n, o, false, d) ∧ Kept (fun q => q ≠ b) w w2) := ⟨r2, k2⟩
      clear r2 k2
      go_wp2_with fail
      go_ret
      exact ⟨rfl, G2.out⟩
    · have es := ED.out
      rw [if_neg (fun g => q g.2)] at es
      rw [es]
      clear es H ED EN
      go_enter Tryd.func17, Tryd.ntmps17
      go_wp2_with fail
      go_ret
      exact ⟨rfl, FIN.out⟩

set_option maxHeartbeats 2000000 in
theorem urge_any (b : Nat) (s : SS) (a : Int) (w : World) (h : RndV w b s) :
    Calls Tryd.prog 27 #[.pointer (some ⟨b, 0, none⟩), .int .i64 a] w fun e w' => e = .returned (.int .i64 (surge s a).2) ∧ RndV w' b (surge s a).1 ∧ Kept (fun q => q ≠ b) w w' := by
  have IA := hid (istick_any a w)
  have c2 := h.c2
  have c3 := h.c3
  have fr3 := h.free 3
  have FT := fit_urge (a := a) h.1
  have H := hid h
  clear h
  obtain ⟨n, o, r, d⟩ := s
  simp only at c2
  have ED : Hid (surge (n, o, r, d) a = if isT a then if r = true then ((n, o, true, if a < d then a else d), 0) else ((n, o, r, d), 24) else ((n, o, r, d), 11)) := rfl
  have FIN : Hid (RndV w b (n, o, r, d) ∧ Kept (fun q => q ≠ b) w w) := ⟨H.out, Kept.refl _ w⟩
  by_cases qa : isT a
  · rw [decide_eq_true qa] at IA
    have es := ED.out
    rw [if_pos qa] at es
    cases r with
    | false =>
      rw [if_neg (fun g => by cases g)] at es
      rw [es]
      clear es H ED qa FT c3
      go_enter Tryd.func27, Tryd.ntmps27
      go_wp2_with fail
      refine IA.out.mono ?_
      rintro e w1 ⟨rfl, ew⟩
      obtain rfl : w = w1 := ew.symm
      go_wp2_with fail
      go_ret
      exact ⟨rfl, FIN.out⟩
    | true =>
      rw [if_pos rfl] at es
      rw [show pd (n, o, true, d) = d from rfl] at c3
      by_cases q : a < d
      · rw [if_pos q] at es
        rw [es] at FT ⊢
        have G := hid (H.out.due FT)
        have mn : Hid (min d a = a) := by show _ = _; omega
        clear es H ED qa FIN FT
        go_enter Tryd.func27, Tryd.ntmps27
        go_wp2_with fail
        refine IA.out.mono ?_
        rintro e w1 ⟨rfl, ew⟩
        obtain rfl : w = w1 := ew.symm
        go_wp2_with fail
        go_ret
        exact ⟨rfl, by rw [mn.out]; exact G.out⟩
      · rw [if_neg q] at es
        rw [es] at FT ⊢
        have G := hid (H.out.due FT)
        have q2 : d ≤ a := by omega
        have mn : Hid (min d a = d) := by show _ = _; omega
        clear es H ED qa FIN FT q
        go_enter Tryd.func27, Tryd.ntmps27
        go_wp2_with fail
        refine IA.out.mono ?_
        rintro e w1 ⟨rfl, ew⟩
        obtain rfl : w = w1 := ew.symm
        go_wp2_with fail
        go_ret
        exact ⟨rfl, by rw [mn.out]; exact G.out⟩
  · rw [decide_eq_false qa] at IA
    have es := ED.out
    rw [if_neg qa] at es
    rw [es]
    clear es H ED qa FT c3 c2
    go_enter Tryd.func27, Tryd.ntmps27
    go_wp2_with fail
    refine IA.out.mono ?_
    rintro e w1 ⟨rfl, ew⟩
    obtain rfl : w = w1 := ew.symm
    go_wp2_with fail
    go_ret
    exact ⟨rfl, FIN.out⟩
end Go.Proofs.YtcjohgfmdnimjaaDoor.Sup

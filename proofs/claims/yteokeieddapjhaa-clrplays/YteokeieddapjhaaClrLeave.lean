/-
  Walks of Leave, Pass. (Printed by wip/gen/clrtake.py.)
-/
import Derived.Test.YteokeieddapjhaaClrTurn
import Derived.Test.YteokeieddapjhaaClrStale
namespace Go.Proofs.Yteokeieddapjhaa.Clr
set_option linter.unusedVariables false
set_option linter.unusedSimpArgs false
set_option maxRecDepth 100000
open Go.RowKit Go.Lib

set_option maxHeartbeats 1000000 in
theorem leave_any {K : Nat → Prop} {w : World} {b : Nat} {lim : Int} {s : BS} (h : Bk K w b lim s) (f : Int) :
    Calls Try.prog 19 #[.pointer (some ⟨b, 0, none⟩), .int .i64 f] w fun e w' => e = .returned (.bool (bleave s f).2) ∧ Bk K w' b lim (bleave s f).1 ∧ Kept K w w' := by
  have FD := hid (find_any h f)
  cases e : la s.1 f with
  | none =>
    have es : bleave s f = (s, false) := by unfold bleave; rw [e]; rfl
    rw [es]
    rw [e] at FD
    have H := hid h
    clear h es
    go_enter Try.func19, Try.ntmps19
    go_wp2_with fail
    refine FD.out.mono ?_
    rintro e w1 ⟨k', rfl, _, _, x1⟩
    have B1 : Hid (Bk K w1 b lim s ∧ Kept K w w1) := ⟨H.out.ext x1, Kept.of_ext x1⟩
    clear x1
    simp only [Option.isSome_none]
    go_wp2_with fail
    go_ret
    exact ⟨rfl, B1.out⟩
  | some q =>
    have es : bleave s f = ((s.1.set f.toNat none, s.2), f == s.2) := by unfold bleave; rw [e]; rfl
    rw [es]
    rw [e] at FD
    have hr := (la_some h.1 e).1
    have LT := (lo_len h.1 hr).2 (by rw [e]; rfl)
    obtain ⟨ao, n, c, en, n64, nc, cm, c0, c1, c2, o⟩ := h.view
    rcases o.at with ⟨_, e1⟩ | ⟨g, cap, L, e1, g1, g2, g3, g4, g5⟩
    · rw [e1] at LT; simp at LT
    rw [← en] at e1
    simp only [Value.slice.injEq, true_and] at e1
    obtain ⟨rfl, rfl⟩ := e1
    rw [← en] at LT
    have DEL : Hid (∀ W, Ext w W → Calls Try.prog 31 #[.slice (some ⟨g, 0, none⟩) n c, .int .i64 ((lo s.1 f.toNat).length : Int), .int .i64 (((lo s.1 f.toNat).length : Int) + 1)] W fun e W4 => e = .returned (.slice (some ⟨g, 0, none⟩) (n - 1) c) ∧ W4.frozen? ⟨b, 1, none⟩ = false ∧ W4.cell? ⟨b, 1, none⟩ = some (.slice (some ⟨g, 0, none⟩) n c) ∧ (W4.setCell ⟨b, 1, none⟩ (.slice (some ⟨g, 0, none⟩) (n - 1) c)).cell? ⟨b, 2, none⟩ = some (.int .i64 s.2) ∧ Hid (Bk K (W4.setCell ⟨b, 1, none⟩ (.slice (some ⟨g, 0, none⟩) (n - 1) c)) b lim (s.1.set f.toNat none, s.2) ∧ Kept K w (W4.setCell ⟨b, 1, none⟩ (.slice (some ⟨g, 0, none⟩) (n - 1) c)))) := fun W X => by
      refine (delete_row g n c (lo s.1 f.toNat).length (rows 0 s.1) L W (X.row g1) g4 en.symm (by rw [en]; exact g5) LT nc g3).mono ?_
      rintro e' W4 ⟨rfl, o4, gb⟩
      rw [← rows_less h.1 e] at o4
      obtain ⟨t1, t2, t3⟩ := (h.ext X).turn (X.cell c1) o4 gb (.inl rfl) (fit_set h.1 _ _ _ (fun q hq => by simp at hq))
      obtain ⟨_, _, _, _, _, _, _, _, _, d2, _⟩ := t1.view
      have hb : W4.heap[b]? = W.heap[b]? := gb.block b (h.ext X).lt (fun q => by
        obtain ⟨v, hv, _, _, ne, _⟩ := h.ne
        rw [c1, Option.some.injEq] at hv
        exact ne (by rw [← hv]; exact q.symm))
      exact ⟨rfl, t3, by rw [World.cell?_of_block hb]; exact X.cell c1, d2, t1, (Kept.of_ext X).trans t2⟩
    have C1 := hid c1
    generalize (lo s.1 f.toNat).length = k at *
    unfold maxLen at cm
    clear h e en c0 c2 c1 o g1 g2 g3 g4 g5 es
    have wk : IntKind.i64.wrap ((k : Int) + 1) = (k : Int) + 1 := IntWalk.i64_in _ (by omega)
    go_enter Try.func19, Try.ntmps19
    go_wp2_with fail
    refine FD.out.mono ?_
    rintro e w1 ⟨k', rfl, _, hk, x1⟩
    obtain rfl := hk hr
    have d1 := x1.cell C1.out
    have X1 := hid x1
    clear x1 hk FD
    simp only [Option.isSome_some]
    go_wp2_with fail
    refine (DEL.out _ X1.out).mono ?_
    rintro e w4 ⟨rfl, h1, h0, h2, h3⟩
    clear DEL d1
    obtain ⟨W5, e5⟩ : ∃ W5, W5 = w4.setCell ⟨b, 1, none⟩ (.slice (some ⟨g, 0, none⟩) (n - 1) c) := ⟨_, rfl⟩
    rw [← e5] at h2 h3
    have E5 := hid e5
    clear e5
    go_wp2_with (rw [← E5.out])
    go_ret
    exact ⟨rfl, h3.out⟩

set_option maxHeartbeats 1000000 in
theorem pass_any {K : Nat → Prop} {w : World} {b : Nat} {lim : Int} {s : BS} (h : Bk K w b lim s) (now : Int) :
    Calls Try.prog 15 #[.pointer (some ⟨b, 0, none⟩), .int .i64 now] w fun e w' => e = .returned (.bool (bpass s lim now).2) ∧ Bk K w' b lim (bpass s lim now).1 ∧ Kept K w w' := by
  have CL := hid (clr_any h)
  cases e : cl s with
  | none =>
    have es : bpass s lim now = (s, false) := by unfold bpass; rw [e]
    rw [es]
    rw [e] at CL
    have H := hid h
    clear h es
    go_enter Try.func15, Try.ntmps15
    go_wp2_with fail
    refine CL.out.mono ?_
    rintro e w1 ⟨rfl, x1⟩
    simp only [tv, Option.isSome_none]
    have B1 : Hid (Bk K (tb w1 0 0 0) b lim s ∧ Kept K w (tb w1 0 0 0)) := ⟨H.out.ext (x1.trans (tb_ext w1 0 0 0)), Kept.of_ext (x1.trans (tb_ext w1 0 0 0))⟩
    clear x1
    go_wp2_with fail
    go_ret
    exact ⟨rfl, B1.out⟩
  | some q =>
    rw [e] at CL
    have ht := (la_some h.1 e).2
    have OV := hid (fun W (X : Ext w W) => over_any (h.ext X) s.2 q.1 q.2 now ht)
    by_cases q1 : q.1 + lim < now
    · have es : bpass s lim now = bleave s s.2 := by unfold bpass; rw [e]; simp only; rw [if_pos q1]
      rw [es]
      rw [decide_eq_true q1] at OV
      have LE := hid (fun W (X : Ext w W) => leave_any (h.ext X) s.2)
      clear h es
      go_enter Try.func15, Try.ntmps15
      go_wp2_with fail
      refine CL.out.mono ?_
      rintro e w1 ⟨rfl, x1⟩
      simp only [tv, Option.isSome_some]
      have X2 := hid (x1.trans (tb_ext w1 s.2 q.1 q.2))
      have R2 := hid (tb_row w1 s.2 q.1 q.2)
      obtain ⟨z0, z1, z2⟩ := row3 R2.out
      have EZ : Hid (w1.alloc (.cells #[.int .i64 s.2, .int .i64 q.1, .int .u64 q.2] 43) = tb w1 s.2 q.1 q.2) := rfl
      rw [← EZ.out] at z0 z1 z2
      clear x1
      go_wp2_with fail
      refine (OV.out _ X2.out).mono ?_
      rintro e w2 ⟨rfl, x2⟩
      have X3 := hid (X2.out.trans x2)
      obtain ⟨u0, u1, u2⟩ := row3 (x2.row R2.out)
      clear x2
      go_wp2_with fail
      refine (LE.out _ X3.out).mono ?_
      rintro e w3 ⟨rfl, p1, p2⟩
      have FIN : Hid (Bk K w3 b lim (bleave s s.2).1 ∧ Kept K w w3) := ⟨p1, (Kept.of_ext X3.out).trans p2⟩
      clear p1 p2
      go_wp2_with fail
      go_ret
      exact ⟨rfl, FIN.out⟩
    · have es : bpass s lim now = (s, false) := by unfold bpass; rw [e]; simp only; rw [if_neg q1]
      rw [es]
      rw [decide_eq_false q1] at OV
      have H := hid h
      clear h es
      go_enter Try.func15, Try.ntmps15
      go_wp2_with fail
      refine CL.out.mono ?_
      rintro e w1 ⟨rfl, x1⟩
      simp only [tv, Option.isSome_some]
      have X2 := hid (x1.trans (tb_ext w1 s.2 q.1 q.2))
      obtain ⟨z0, z1, z2⟩ := row3 (tb_row w1 s.2 q.1 q.2)
      have EZ : Hid (w1.alloc (.cells #[.int .i64 s.2, .int .i64 q.1, .int .u64 q.2] 43) = tb w1 s.2 q.1 q.2) := rfl
      rw [← EZ.out] at z0 z1 z2
      clear x1
      go_wp2_with fail
      refine (OV.out _ X2.out).mono ?_
      rintro e w2 ⟨rfl, x2⟩
      have B1 : Hid (Bk K w2 b lim s ∧ Kept K w w2) := ⟨H.out.ext (X2.out.trans x2), Kept.of_ext (X2.out.trans x2)⟩
      clear x2
      go_wp2_with fail
      go_ret
      exact ⟨rfl, B1.out⟩
end Go.Proofs.Yteokeieddapjhaa.Clr

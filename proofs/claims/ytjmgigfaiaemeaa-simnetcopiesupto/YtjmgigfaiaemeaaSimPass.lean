/-
  The walk of pass: a message to one pipe, by its fate.
-/
import Derived.Test.YtjmgigfaiaemeaaSimPut
import Derived.Test.YtjmgigfaiaemeaaMCrc
namespace Go.Proofs.Ytjmgigfaiaemeaa.Sim
set_option linter.unusedVariables false
set_option maxRecDepth 100000
open Go.RowKit Go.Lib Go.Proofs.Ytjmgigfaiaemeaa.Crc Go.Proofs.Ytjmgigfaiaemeaa.Grp
open Go.Proofs.Ytjmgigfaiaemeaa.Pip hiding NewR

/-- a number of the net's is written -/
theorem NetK.stat {K : Nat → Prop} {w : World} {b : Nat} {bs : Nat → Nat} {c : Cfg} {l : List Tri} {fs : List (Int × Int)} {x : St} (h : NetK K w b bs c l fs x) (i : Nat) (old v : Int) (s : Cts)
    (e0 : ∀ gb dv ub fv, (nrow gb c.2.1 dv ub fv (x.2.1 : Int) x.2.2)[i]? = some (.int .i64 old)) (e : ∀ gb dv ub fv, (nrow gb c.2.1 dv ub fv (x.2.1 : Int) x.2.2).setIfInBounds i (.int .i64 v) = nrow gb c.2.1 dv ub fv (x.2.1 : Int) s) :
    w.cell? ⟨b, i, none⟩ = some (.int .i64 old) ∧ w.frozen? ⟨b, i, none⟩ = false ∧ NetK K (w.setCell ⟨b, i, none⟩ (.int .i64 v)) b bs c l fs (x.1, x.2.1, s) ∧ Kept K w (w.setCell ⟨b, i, none⟩ (.int .i64 v)) := by
  obtain ⟨K2, gb, gg, gc, n, dv, fv, h⟩ := h
  have q := h.stat i (.int .i64 v) (e _ _ _ _)
  exact ⟨h.cells i _ (e0 _ _ _ _), h.free i, q.1.k, q.2⟩
theorem NetK.delay {K : Nat → Prop} {w : World} {b : Nat} {bs : Nat → Nat} {c : Cfg} {l : List Tri} {fs : List (Int × Int)} {x : St} (h : NetK K w b bs c l fs x) : w.cell? ⟨b, 1, none⟩ = some (.int .i64 c.2.1) ∧ 0 ≤ c.2.1 ∧ c.2.1 ≤ 64 := by
  obtain ⟨K2, gb, gg, gc, n, dv, fv, h⟩ := h
  exact ⟨h.cells 1 _ rfl, h.1.2.2⟩
theorem NetK.lt {K : Nat → Prop} {w : World} {b : Nat} {bs : Nat → Nat} {c : Cfg} {l : List Tri} {fs : List (Int × Int)} {x : St} (h : NetK K w b bs c l fs x) : b < w.heap.size := by
  obtain ⟨K2, gb, gg, gc, n, dv, fv, h⟩ := h
  exact h.lt.1
theorem row_rowK {K : Nat → Prop} {w : World} {g : Nat} {l : List UInt8} (h : Go.Proofs.Ytjmgigfaiaemeaa.Row w g l) (hg : K g) (hl : l.length ≤ 100000) : RowK K w (.slice (some ⟨g, 0, none⟩) l.length l.length) 1 (bcells l) :=
  ⟨_, _, _, rfl, by rw [bcells_length, Nat.mul_one], Nat.le_refl _, by unfold maxLen; omega, fun _ => ⟨g, 0, rfl, hg, fun j u hu => by
    have hj : j < l.length := by rw [← bcells_length]; exact (List.getElem?_eq_some_iff.1 hu).1
    rw [Nat.zero_add, h.cell j hj, ← bcells_at l j hj, hu]⟩⟩
theorem fate_room {fs : List (Int × Int)} (h : ∀ f ∈ fs, -9223372036854775808 ≤ f.2 ∧ f.2 ≤ 9223372036854775807) (u : Nat) : -9223372036854775808 ≤ (fate fs u).2 ∧ (fate fs u).2 ≤ 9223372036854775807 := by
  unfold fate
  rw [List.getD_eq_getElem?_getD]
  cases e : fs[u]? with
  | none => simp
  | some f => exact h f (List.mem_of_getElem? e)

set_option maxHeartbeats 4000000 in
theorem npass (K : Nat → Prop) (w : World) (b : Nat) (bs : Nat → Nat) (c : Cfg) (l : List Tri) (fs : List (Int × Int)) (x : St) (h : NetK K w b bs c l fs x) (i : Nat) (hi : i < x.1.length) (uv : Value) (t : List UInt8) (now : Int) (hu : RowK K w uv 1 (bcells t)) (hp : Plain uv) (d0 : 0 ≤ now) (d1 : now ≤ 1099511627776) (ht : t.length ≤ 320) (hs : SB 800000000 x.2.2) (hfs : fs.length ≤ 1000) (hfb : ∀ f ∈ fs, -9223372036854775808 ≤ f.2 ∧ f.2 ≤ 9223372036854775807) :
    Calls Try.prog 34 #[.pointer (some ⟨b, 0, none⟩), .pointer (some ⟨bs i, 0, none⟩), uv, .int .i64 now] w fun e w' => e = .returned (.tuple #[]) ∧ NetK K w' b bs c l fs (gv c fs now t x i) ∧ Kept K w w' := by
  obtain ⟨ls, u, s⟩ := x
  have FB := fate_room hfb u
  obtain ⟨s0, s1, s2, s3, s4, s5⟩ := s
  simp only at hi
  obtain ⟨hd, hd0, hd1⟩ := h.delay
  obtain ⟨q0, q1, q2, q3⟩ := h.stat 6 s0 (s0 + 1) (s0 + 1, s1, s2, s3, s4, s5) (fun _ _ _ _ => rfl) (fun _ _ _ _ => rfl)
  have K1 := hid q3
  have cb : (w.setCell ⟨b, 6, none⟩ (.int .i64 (s0 + 1))).cell? ⟨b, 1, none⟩ = some (.int .i64 c.2.1) := q2.delay.1
  have N := hid (nnext K _ b bs c l fs _ q2 hfs)
  have HU := hid hu
  have HP := hid hp
  have HS := hid hs
  have HI := hid hi
  obtain ⟨b0, b1, b2, b3, b4, b5⟩ := hs
  simp only at b0 b1 b2 b3 b4 b5
  obtain ⟨ua, un, uc, eu, _⟩ := hu
  subst eu
  obtain ⟨f1, ef1⟩ : ∃ f1, f1 = (fate fs u).1 := ⟨_, rfl⟩
  obtain ⟨f2, ef2⟩ : ∃ f2, f2 = (fate fs u).2 := ⟨_, rfl⟩
  have FE : Hid (fate fs u = (f1, f2)) := by rw [ef1, ef2]; rfl
  rw [← ef2] at FB
  simp only at N
  rw [← ef1, ← ef2] at N
  have GV : Hid (gv c fs now t (ls, u, s0, s1, s2, s3, s4, s5) i = (ls.set i (give1 (ls.getD i []) c.2.2.1 (now + c.2.1) t (f1, f2) (s0, s1, s2, s3, s4, s5)).1, usd fs u, (give1 (ls.getD i []) c.2.2.1 (now + c.2.1) t (f1, f2) (s0, s1, s2, s3, s4, s5)).2)) := by
    have := FE.out
    show _ = _
    unfold gv
    simp only
    rw [this]
  obtain ⟨dl, edl⟩ : ∃ dl, dl = c.2.1 := ⟨_, rfl⟩
  rw [← edl] at hd hd0 hd1 cb GV
  obtain ⟨b00, b01⟩ := b0
  obtain ⟨b10, b11⟩ := b1
  obtain ⟨b20, b21⟩ := b2
  obtain ⟨b30, b31⟩ := b3
  obtain ⟨b40, b41⟩ := b4
  obtain ⟨b50, b51⟩ := b5
  obtain ⟨FB0, FB1⟩ := FB
  have wd : IntKind.i64.wrap (now + dl) = now + dl := IntWalk.i64_in _ (by omega)
  have hln : ls.length = ls.length := rfl
  clear h q2 q3 hd edl ef1 ef2 FE hp hi hfb hln
  by_cases hf1 : f1 = 1
  · subst hf1
    have GE : Hid (give1 (ls.getD i []) c.2.2.1 (now + dl) t (1, f2) (s0, s1, s2, s3, s4, s5) = (ls.getD i [], (s0 + 1, s1 + 1, s2, s3, s4, s5))) := rfl
    go_enter Try.func34, Try.ntmps34
    go_wp2_with fail
    refine N.out.mono ?_
    rintro e w2 ⟨rfl, h2, k2⟩
    have X : Ext w2 (w2.alloc (.cells #[.int .i64 1, .int .i64 f2] 69)) := (Ext.refl w2).alloc _
    have h3 := h2.ext X
    have k3 : Kept K w (w2.alloc (.cells #[.int .i64 1, .int .i64 f2] 69)) := (K1.out.trans k2).trans (Kept.of_ext X)
    obtain ⟨y0, y1, y2, y3⟩ := h3.stat 7 s1 (s1 + 1) (s0 + 1, s1 + 1, s2, s3, s4, s5) (fun _ _ _ _ => rfl) (fun _ _ _ _ => rfl)
    have R := hid y2
    have KR := hid (k3.trans y3)
    clear X h2 k2 h3 k3 y2 y3 N
    go_wp2_with fail
    refine bodyPost_end (results_none rfl _ _ _) rfl ?_
    refine ⟨rfl, ?_, KR.out⟩
    rw [GV.out, GE.out]
    simp only
    rw [set_same _ _ HI.out]
    exact R.out
  have n1 : (f1 == 1) = false := by simpa using hf1
  by_cases hf2 : f1 = 2
  · subst hf2
    have GE : Hid (give1 (ls.getD i []) c.2.2.1 (now + dl) t (2, f2) (s0, s1, s2, s3, s4, s5) = lay1 (lay1 (ls.getD i []) c.2.2.1 (now + dl, t) (s0 + 1, s1, s2, s3 + 1, s4, s5)).1 c.2.2.1 (now + dl, t) (lay1 (ls.getD i []) c.2.2.1 (now + dl, t) (s0 + 1, s1, s2, s3 + 1, s4, s5)).2) := rfl
    go_enter Try.func34, Try.ntmps34
    go_wp2_with fail
    refine N.out.mono ?_
    rintro e w2 ⟨rfl, h2, k2⟩
    have X : Ext w2 (w2.alloc (.cells #[.int .i64 2, .int .i64 f2] 69)) := (Ext.refl w2).alloc _
    have h3 := h2.ext X
    have k3 : Kept K w (w2.alloc (.cells #[.int .i64 2, .int .i64 f2] 69)) := (K1.out.trans k2).trans (Kept.of_ext X)
    obtain ⟨y0, y1, y2, y3⟩ := h3.stat 9 s3 (s3 + 1) (s0 + 1, s1, s2, s3 + 1, s4, s5) (fun _ _ _ _ => rfl) (fun _ _ _ _ => rfl)
    have s1b : SB 800000001 (s0 + 1, s1, s2, s3 + 1, s4, s5) := by unfold SB; simp only; omega
    have kk := k3.trans y3
    have P1 := hid (nput K _ b bs c l fs _ y2 i HI.out _ t (now + dl) (HU.out.kept kk) HP.out (by omega) (by omega) ht (s1b.mono (by omega)))
    have KR := hid kk
    clear X h2 k2 h3 k3 y2 y3 N kk
    go_wp2_with fail
    refine P1.out.mono ?_
    rintro e w5 ⟨rfl, h5, k5⟩
    have k6 := KR.out.trans k5
    have P2 := nput K _ b bs c l fs _ h5 i (by simp only; rw [List.length_set]; exact HI.out) _ t (now + dl) (HU.out.kept k6) HP.out (by omega) (by omega) ht ((lay1_bound s1b).mono (by omega))
    simp only at P2
    rw [set_getD _ _ _ _ _ HI.out, if_pos rfl, List.set_set] at P2
    have PP := hid P2
    have KK := hid k6
    clear P1 P2 k5 k6 h5
    go_wp2_with fail
    refine PP.out.mono ?_
    rintro e w7 ⟨rfl, h7, k7⟩
    have R := hid h7
    have K7 := hid (KK.out.trans k7)
    clear h7 k7 PP
    go_wp2_with fail
    refine bodyPost_end (results_none rfl _ _ _) rfl ?_
    refine ⟨rfl, ?_, K7.out⟩
    rw [GV.out, GE.out]
    exact R.out
  have n2 : (f1 == 2) = false := by simpa using hf2
  by_cases hf3 : f1 = 3
  · subst hf3
    by_cases c1 : 64 < f2
    · have m1 : ¬ f2 < 0 := by omega
      have GE : Hid (give1 (ls.getD i []) c.2.2.1 (now + dl) t (3, f2) (s0, s1, s2, s3, s4, s5) = lay1 (ls.getD i []) c.2.2.1 (now + dl + 64, t) (s0 + 1, s1, s2, s3, s4 + 1, s5)) := by
        show _ = lay1 _ _ _ _
        have e : cl f2 = 64 := by unfold cl; rw [if_pos c1]
        rw [← e]
        rfl
      have wd2 : IntKind.i64.wrap (now + dl + 64) = now + dl + 64 := IntWalk.i64_in _ (by omega)
      go_enter Try.func34, Try.ntmps34
      go_wp2_with fail
      refine N.out.mono ?_
      rintro e w2 ⟨rfl, h2, k2⟩
      have X : Ext w2 (w2.alloc (.cells #[.int .i64 3, .int .i64 f2] 69)) := (Ext.refl w2).alloc _
      have h3 := h2.ext X
      have k3 : Kept K w (w2.alloc (.cells #[.int .i64 3, .int .i64 f2] 69)) := (K1.out.trans k2).trans (Kept.of_ext X)
      obtain ⟨y0, y1, y2, y3⟩ := h3.stat 10 s4 (s4 + 1) (s0 + 1, s1, s2, s3, s4 + 1, s5) (fun _ _ _ _ => rfl) (fun _ _ _ _ => rfl)
      have s1b : SB 800000001 (s0 + 1, s1, s2, s3, s4 + 1, s5) := by unfold SB; simp only; omega
      have kk := k3.trans y3
      have bne := h2.lt
      have yf : ((w2.alloc (.cells #[.int .i64 3, .int .i64 f2] 69)).setCell ⟨b, 10, none⟩ (.int .i64 (s4 + 1))).cell? ⟨w2.heap.size, 1, none⟩ = some (.int .i64 f2) := by
        have k : Kept (fun q => q ≠ b) (w2.alloc (.cells #[.int .i64 3, .int .i64 f2] 69)) ((w2.alloc (.cells #[.int .i64 3, .int .i64 f2] 69)).setCell ⟨b, 10, none⟩ (.int .i64 (s4 + 1))) := (Kept.refl _ _).setCell (fun hne => hne rfl) _
        refine k.cell (by simp only; omega) ?_
        rw [cell_of_row _ _ 1 _ _ _ (heap_alloc_new w2 _)]
        rfl
      have P1 := hid (nput K _ b bs c l fs _ y2 i HI.out _ t (now + dl + 64) (HU.out.kept kk) HP.out (by omega) (by omega) ht (s1b.mono (by omega)))
      have KR := hid kk
      clear X h2 k2 h3 k3 y2 y3 N kk bne
      go_wp2_with fail
      refine P1.out.mono ?_
      rintro e w5 ⟨rfl, h5, k5⟩
      have R := hid h5
      have K7 := hid (KR.out.trans k5)
      clear h5 k5 P1
      go_wp2_with fail
      refine bodyPost_end (results_none rfl _ _ _) rfl ?_
      refine ⟨rfl, ?_, K7.out⟩
      rw [GV.out, GE.out]
      exact R.out
    by_cases c2 : 0 ≤ f2
    · have m1 : ¬ f2 < 0 := by omega
      have m2 : f2 ≤ 64 := by omega
      have GE : Hid (give1 (ls.getD i []) c.2.2.1 (now + dl) t (3, f2) (s0, s1, s2, s3, s4, s5) = lay1 (ls.getD i []) c.2.2.1 (now + dl + f2, t) (s0 + 1, s1, s2, s3, s4 + 1, s5)) := by
        show _ = lay1 _ _ _ _
        have e : cl f2 = f2 := by unfold cl; rw [if_neg c1]; split <;> omega
        have G0 : give1 (ls.getD i []) c.2.2.1 (now + dl) t (3, f2) (s0, s1, s2, s3, s4, s5) = lay1 (ls.getD i []) c.2.2.1 (now + dl + cl f2, t) (s0 + 1, s1, s2, s3, s4 + 1, s5) := rfl
        rw [e] at G0
        exact G0
      have wd2 : IntKind.i64.wrap (now + dl + f2) = now + dl + f2 := IntWalk.i64_in _ (by omega)
      go_enter Try.func34, Try.ntmps34
      go_wp2_with fail
      refine N.out.mono ?_
      rintro e w2 ⟨rfl, h2, k2⟩
      have X : Ext w2 (w2.alloc (.cells #[.int .i64 3, .int .i64 f2] 69)) := (Ext.refl w2).alloc _
      have h3 := h2.ext X
      have k3 : Kept K w (w2.alloc (.cells #[.int .i64 3, .int .i64 f2] 69)) := (K1.out.trans k2).trans (Kept.of_ext X)
      obtain ⟨y0, y1, y2, y3⟩ := h3.stat 10 s4 (s4 + 1) (s0 + 1, s1, s2, s3, s4 + 1, s5) (fun _ _ _ _ => rfl) (fun _ _ _ _ => rfl)
      have s1b : SB 800000001 (s0 + 1, s1, s2, s3, s4 + 1, s5) := by unfold SB; simp only; omega
      have kk := k3.trans y3
      have bne := h2.lt
      have yf : ((w2.alloc (.cells #[.int .i64 3, .int .i64 f2] 69)).setCell ⟨b, 10, none⟩ (.int .i64 (s4 + 1))).cell? ⟨w2.heap.size, 1, none⟩ = some (.int .i64 f2) := by
        have k : Kept (fun q => q ≠ b) (w2.alloc (.cells #[.int .i64 3, .int .i64 f2] 69)) ((w2.alloc (.cells #[.int .i64 3, .int .i64 f2] 69)).setCell ⟨b, 10, none⟩ (.int .i64 (s4 + 1))) := (Kept.refl _ _).setCell (fun hne => hne rfl) _
        refine k.cell (by simp only; omega) ?_
        rw [cell_of_row _ _ 1 _ _ _ (heap_alloc_new w2 _)]
        rfl
      have P1 := hid (nput K _ b bs c l fs _ y2 i HI.out _ t (now + dl + f2) (HU.out.kept kk) HP.out (by omega) (by omega) ht (s1b.mono (by omega)))
      have KR := hid kk
      clear X h2 k2 h3 k3 y2 y3 N kk bne
      go_wp2_with fail
      refine P1.out.mono ?_
      rintro e w5 ⟨rfl, h5, k5⟩
      have R := hid h5
      have K7 := hid (KR.out.trans k5)
      clear h5 k5 P1
      go_wp2_with fail
      refine bodyPost_end (results_none rfl _ _ _) rfl ?_
      refine ⟨rfl, ?_, K7.out⟩
      rw [GV.out, GE.out]
      exact R.out
    · have m1 : f2 < 0 := by omega
      have GE : Hid (give1 (ls.getD i []) c.2.2.1 (now + dl) t (3, f2) (s0, s1, s2, s3, s4, s5) = lay1 (ls.getD i []) c.2.2.1 (now + dl, t) (s0 + 1, s1, s2, s3, s4 + 1, s5)) := by
        show _ = lay1 _ _ _ _
        have e : cl f2 = 0 := by unfold cl; rw [if_neg c1]; split <;> omega
        have G0 : give1 (ls.getD i []) c.2.2.1 (now + dl) t (3, f2) (s0, s1, s2, s3, s4, s5) = lay1 (ls.getD i []) c.2.2.1 (now + dl + cl f2, t) (s0 + 1, s1, s2, s3, s4 + 1, s5) := rfl
        rw [e, Int.add_zero] at G0
        exact G0
      go_enter Try.func34, Try.ntmps34
      go_wp2_with fail
      refine N.out.mono ?_
      rintro e w2 ⟨rfl, h2, k2⟩
      have X : Ext w2 (w2.alloc (.cells #[.int .i64 3, .int .i64 f2] 69)) := (Ext.refl w2).alloc _
      have h3 := h2.ext X
      have k3 : Kept K w (w2.alloc (.cells #[.int .i64 3, .int .i64 f2] 69)) := (K1.out.trans k2).trans (Kept.of_ext X)
      obtain ⟨y0, y1, y2, y3⟩ := h3.stat 10 s4 (s4 + 1) (s0 + 1, s1, s2, s3, s4 + 1, s5) (fun _ _ _ _ => rfl) (fun _ _ _ _ => rfl)
      have s1b : SB 800000001 (s0 + 1, s1, s2, s3, s4 + 1, s5) := by unfold SB; simp only; omega
      have kk := k3.trans y3
      have bne := h2.lt
      have yf : ((w2.alloc (.cells #[.int .i64 3, .int .i64 f2] 69)).setCell ⟨b, 10, none⟩ (.int .i64 (s4 + 1))).cell? ⟨w2.heap.size, 1, none⟩ = some (.int .i64 f2) := by
        have k : Kept (fun q => q ≠ b) (w2.alloc (.cells #[.int .i64 3, .int .i64 f2] 69)) ((w2.alloc (.cells #[.int .i64 3, .int .i64 f2] 69)).setCell ⟨b, 10, none⟩ (.int .i64 (s4 + 1))) := (Kept.refl _ _).setCell (fun hne => hne rfl) _
        refine k.cell (by simp only; omega) ?_
        rw [cell_of_row _ _ 1 _ _ _ (heap_alloc_new w2 _)]
        rfl
      have P1 := hid (nput K _ b bs c l fs _ y2 i HI.out _ t (now + dl) (HU.out.kept kk) HP.out (by omega) (by omega) ht (s1b.mono (by omega)))
      have KR := hid kk
      clear X h2 k2 h3 k3 y2 y3 N kk bne
      go_wp2_with fail
      refine P1.out.mono ?_
      rintro e w5 ⟨rfl, h5, k5⟩
      have R := hid h5
      have K7 := hid (KR.out.trans k5)
      clear h5 k5 P1
      go_wp2_with fail
      refine bodyPost_end (results_none rfl _ _ _) rfl ?_
      refine ⟨rfl, ?_, K7.out⟩
      rw [GV.out, GE.out]
      exact R.out
  have n3 : (f1 == 3) = false := by simpa using hf3
  by_cases hf4 : f1 = 4
  · subst hf4
    have TURN : Hid (∀ V : World, Bytes V (.slice ua un uc) t → Calls Try.prog 50 #[.slice ua un uc, .int .i64 f2] V fun e V' => e = .returned (.slice (some ⟨V.heap.size, 0, none⟩) (cturn t f2).length (cturn t f2).length) ∧ Go.Proofs.Ytjmgigfaiaemeaa.Row V' V.heap.size (cturn t f2) ∧ Ext V V') := fun V hV => by
      by_cases h0 : 0 < t.length
      · have q := turn_any _ t f2 V hV (by omega) h0 FB0 FB1
        rw [← cturn_length t f2] at q
        exact q
      · have h1 : t = [] := List.eq_nil_of_length_eq_zero (by omega)
        have q := turn_empty _ t f2 V hV (by omega)
        subst h1
        exact q
    have GE : Hid (give1 (ls.getD i []) c.2.2.1 (now + dl) t (4, f2) (s0, s1, s2, s3, s4, s5) = lay1 (ls.getD i []) c.2.2.1 (now + dl, cturn t f2) (s0 + 1, s1, s2, s3, s4, s5 + 1)) := rfl
    go_enter Try.func34, Try.ntmps34
    go_wp2_with fail
    refine N.out.mono ?_
    rintro e w2 ⟨rfl, h2, k2⟩
    have X : Ext w2 (w2.alloc (.cells #[.int .i64 4, .int .i64 f2] 69)) := (Ext.refl w2).alloc _
    have h3 := h2.ext X
    have k3 : Kept K w (w2.alloc (.cells #[.int .i64 4, .int .i64 f2] 69)) := (K1.out.trans k2).trans (Kept.of_ext X)
    obtain ⟨y0, y1, y2, y3⟩ := h3.stat 11 s5 (s5 + 1) (s0 + 1, s1, s2, s3, s4, s5 + 1) (fun _ _ _ _ => rfl) (fun _ _ _ _ => rfl)
    have s1b : SB 800000001 (s0 + 1, s1, s2, s3, s4, s5 + 1) := by unfold SB; simp only; omega
    have kk := k3.trans y3
    have bne := h2.lt
    have yf : ((w2.alloc (.cells #[.int .i64 4, .int .i64 f2] 69)).setCell ⟨b, 11, none⟩ (.int .i64 (s5 + 1))).cell? ⟨w2.heap.size, 1, none⟩ = some (.int .i64 f2) := by
      have k : Kept (fun q => q ≠ b) (w2.alloc (.cells #[.int .i64 4, .int .i64 f2] 69)) ((w2.alloc (.cells #[.int .i64 4, .int .i64 f2] 69)).setCell ⟨b, 11, none⟩ (.int .i64 (s5 + 1))) := (Kept.refl _ _).setCell (fun hne => hne rfl) _
      refine k.cell (by simp only; omega) ?_
      rw [cell_of_row _ _ 1 _ _ _ (heap_alloc_new w2 _)]
      rfl
    have TU := hid (TURN.out _ (HU.out.kept kk).bytes)
    have ez : ((w2.alloc (.cells #[.int .i64 4, .int .i64 f2] 69)).setCell ⟨b, 11, none⟩ (.int .i64 (s5 + 1))).heap.size = w2.heap.size + 1 := by simp
    rw [ez] at TU
    have EZ := hid ez
    clear ez
    have KR := hid kk
    have Y2 := hid y2
    clear X h2 k2 h3 k3 y2 y3 N kk bne TURN
    go_wp2_with fail
    refine TU.out.mono ?_
    rintro e w5 ⟨rfl, r5, x5⟩
    have lt5 : (cturn t f2).length ≤ 320 := by rw [cturn_length]; exact ht
    have nw := r5.lt
    have P1 := hid (nput _ _ b bs c l fs _ (Y2.out.more x5) i HI.out _ (cturn t f2) (now + dl) (row_rowK r5 (.inr ⟨Nat.le_of_eq EZ.out, nw⟩) (by omega)) (.inr ⟨_, _, _, rfl⟩) (by omega) (by omega) lt5 (s1b.mono (by omega)))
    have KX := hid (KR.out.trans (Kept.of_ext x5))
    clear TU r5 x5 KR
    go_wp2_with fail
    refine P1.out.mono ?_
    rintro e w6 ⟨rfl, h6, k6⟩
    have R := hid (h6.less (L := K) (fun q hq => .inl hq))
    have K7 := hid (KX.out.trans (k6.mono (fun q hq => .inl hq)))
    clear h6 k6 P1
    go_wp2_with fail
    refine bodyPost_end (results_none rfl _ _ _) rfl ?_
    refine ⟨rfl, ?_, K7.out⟩
    rw [GV.out, GE.out]
    exact R.out
  have n4 : (f1 == 4) = false := by simpa using hf4
  have GE : Hid (give1 (ls.getD i []) c.2.2.1 (now + dl) t (f1, f2) (s0, s1, s2, s3, s4, s5) = lay1 (ls.getD i []) c.2.2.1 (now + dl, t) (s0 + 1, s1, s2, s3, s4, s5)) := by
    show _ = _
    unfold give1
    rw [if_neg hf1, if_neg hf2, if_neg hf3, if_neg hf4]
    rfl
  go_enter Try.func34, Try.ntmps34
  go_wp2_with fail
  refine N.out.mono ?_
  rintro e w2 ⟨rfl, h2, k2⟩
  have X : Ext w2 (w2.alloc (.cells #[.int .i64 f1, .int .i64 f2] 69)) := (Ext.refl w2).alloc _
  have h3 := h2.ext X
  have k3 : Kept K w (w2.alloc (.cells #[.int .i64 f1, .int .i64 f2] 69)) := (K1.out.trans k2).trans (Kept.of_ext X)
  have s1b : SB 800000001 (s0 + 1, s1, s2, s3, s4, s5) := by unfold SB; simp only; omega
  have P1 := hid (nput K _ b bs c l fs _ h3 i HI.out _ t (now + dl) (HU.out.kept k3) HP.out (by omega) (by omega) ht (s1b.mono (by omega)))
  have KR := hid k3
  clear X h2 k2 h3 k3 N
  go_wp2_with fail
  refine P1.out.mono ?_
  rintro e w5 ⟨rfl, h5, k5⟩
  have R := hid h5
  have K7 := hid (KR.out.trans k5)
  clear h5 k5 P1
  go_wp2_with fail
  refine bodyPost_end (results_none rfl _ _ _) rfl ?_
  refine ⟨rfl, ?_, K7.out⟩
  rw [GV.out, GE.out]
  exact R.out
end Go.Proofs.Ytjmgigfaiaemeaa.Sim

/-
  The walk of the closure that Turn tells: timers that are due are taken out one by one, for every loop body that keeps the wheel.
-/
import Derived.RangeFuncNested
import Derived.RangeFuncBound
import Derived.RangeFuncCalls
import Derived.RangeFuncLeaves
import Derived.Shelf.Abstract
import Derived.Shelf.RegionOpen
import Derived.WalkKit
import Derived.OwnWalkIn
import Derived.TacticsInMore
import Derived.LoopNIn
import Derived.LoopIn
import Derived.Test.YthokjkkhkcdceaaWhlOps
namespace Go.Proofs.Ythokjkkhkcdceaa
set_option linter.unusedVariables false
set_option maxRecDepth 100000
open Go.RowKit Go.Lib Go.Shelf
attribute [local go_sem] Oper.semAt_some

/-- how many timers a wheel has, as its memory tells -/
def lenOf (w : World) (b : Nat) : Nat := ((List.range 64).map fun k => match w.cell? ⟨b, 1 + k, none⟩ with | some (.slice _ n _) => n | _ => 0).sum
theorem lenOf_eq {w : World} {b : Nat} {t : Int} {v : Nat → Value} {l : Sts} (h : WhV w b t v l) : lenOf w b = l.length := by
  have e : ∀ m, m ≤ 64 → ((List.range m).map fun k => match w.cell? ⟨b, 1 + k, none⟩ with | some (.slice _ n _) => n | _ => 0).sum = cnt l m := by
    intro m
    induction m with
    | zero => intro _; rw [cnt_zero]; rfl
    | succ m ih =>
      intro hm
      rw [List.range_succ, List.map_append, List.sum_append, ih (by omega), cnt_succ]
      obtain ⟨ao, cp, ev, _⟩ := (h.own (show m < 64 by omega)).view
      simp only [List.map_cons, List.map_nil, h.cell (show m < 64 by omega), ev, List.sum_cons, List.sum_nil]
      omega
  unfold lenOf
  rw [e 64 (Nat.le_refl _), cnt_all]

/-- a loop's body keeps the wheel at b -/
def Holds9 (K : Nat → Prop) (b : Nat) (W W' : World) : Prop := ∀ K' t v l, (∀ i, K i → K' i) → WhU K' W b t v l → WhU K' W' b t v l
theorem Holds9.refl (K : Nat → Prop) (b : Nat) (W : World) : Holds9 K b W W := fun _ _ _ _ _ h => h
theorem Holds9.trans {K : Nat → Prop} {b : Nat} {A B C : World} (h : Holds9 K b A B) (k : Holds9 K b B C) : Holds9 K b A C := fun K' t v l hK u => k K' t v l hK (h K' t v l hK u)
theorem Holds9.more {K K2 : Nat → Prop} {b : Nat} {A B : World} (h : Holds9 K b A B) (hK : ∀ i, K i → K2 i) : Holds9 K2 b A B := fun K' t v l hK' u => h K' t v l (fun i hi => hK' i (hK i hi)) u
theorem Holds9.set {K : Nat → Prop} {b : Nat} (W : World) {g : Nat} (hg : K g) (i : Nat) (x : Value) : Holds9 K b W (W.setCell ⟨g, i, none⟩ x) := fun K' t v l hK u => by
  obtain ⟨h1, h2, h3, h4, h5⟩ := u
  have KX : Kept (fun j => j ≠ g) W (W.setCell ⟨g, i, none⟩ x) := (Kept.refl _ W).setCell (fun hne => hne rfl) _
  exact ⟨h1.kept KX (fun e => h2 (e ▸ hK g hg)) (fun k hk g' e e2 => (h3 k hk g' e).1 (e2 ▸ hK g hg)), h2, h3, h4, fun j hj => by simpa using h5 j hj⟩
theorem Holds9.row {K : Nat → Prop} {b : Nat} (W : World) {g : Nat} (hg : K g) (cs : Array Value) : Holds9 K b W (W.setRow g cs) := fun K' t v l hK u => u.row (hK g hg) cs
theorem Holds9.ext {K : Nat → Prop} {b : Nat} {W W' : World} (e : Ext W W') : Holds9 K b W W' := fun K' t v l hK u => u.ext e
theorem Holds9.put {K : Nat → Prop} {b : Nat} (W : World) (L : Nat) (o o' : Obj) (h : W.heap[L]? = some o) (ho : o.isCells = false) : Holds9 K b W (W.putObj L o') := fun K' t v l hK u => by
  obtain ⟨⟨cs, q1, q2, q3, q4⟩, h2, h3, h4, h5⟩ := u
  have hne : ∀ (i : Nat) (c : Array Value) (ty : TypeId) (fr : Nat × Nat), W.heap[i]? = some (.cells c ty fr) → (W.putObj L o').heap[i]? = some (.cells c ty fr) := by
    intro i c ty fr hi
    rw [World.putObj_heap_other (fun e => ?_), hi]
    subst e
    rw [h] at hi
    cases hi
    simp [Obj.isCells] at ho
  refine ⟨⟨cs, hne _ _ _ _ q1, q2, q3, fun k hk => ⟨(q4 k hk).1, (q4 k hk).2.1, ?_⟩⟩, h2, h3, h4, fun i hi => by simpa using h5 i hi⟩
  rcases (q4 k hk).2.2 with hn | ⟨g, cap, cur, e, hb0, hgg, rest⟩
  · exact .inl hn
  · exact .inr ⟨g, cap, cur, e, hb0, hne _ _ _ _ hgg, rest⟩

theorem due_rest {x y : Int × Int} {pre r l : Sts} (h : l = pre ++ x :: r) : pre ++ [x] <+: l := ⟨r, by rw [h]; simp⟩

set_option maxHeartbeats 1000000 in
/-- the closure -/
theorem turn1_in (n L Bs b : Nat) (K : Nat → Prop) (t : Int) (l : Sts) (J Jx : Sts → World → Prop) (hn : 1 ≤ n)
    (hJ : ∀ pre W W', J pre W → Kept K W W' → J pre W')
    (hY : ∀ pre x W, J pre W → pre ++ [x] <+: l → x.2 ≤ t → YieldAt Fence.wide (n - 1) Try.prog L #[.int .i64 x.1, .int .i64 x.2] W fun e W' =>
      (e = .returned (.bool true) ∧ J (pre ++ [x]) W' ∧ Holds9 K b W W' ∧ W'.cell? ⟨Bs, 0, none⟩ = some (.pointer (some ⟨b, 0, none⟩))) ∨ (e = .returned (.bool false) ∧ Jx (pre ++ [x]) W' ∧ Holds9 K b W W'))
    (W : World) (hBs : W.cell? ⟨Bs, 0, none⟩ = some (.pointer (some ⟨b, 0, none⟩))) (hK : K Bs) (hw : WhK K W b t l) (h0 : J [] W) :
    CallsIn Fence.wide n Try.prog 25 #[.func (.yield L) #[] #[], .pointer (some ⟨Bs, 0, none⟩)] W fun e W' => (∃ v, e = .returned v) ∧
      ((∃ pre rest, l = pre ++ rest ∧ (∀ p r, rest = p :: r → t < p.2) ∧ J pre W' ∧ WhK K W' b t rest) ∨ (∃ pre rest, l = pre ++ rest ∧ Jx pre W' ∧ WhK K W' b t rest)) := by
  have HJ := hid hJ
  have HY := hid hY
  have S0 : Hid (J [] W ∧ WhK K W b t l ∧ W.cell? ⟨Bs, 0, none⟩ = some (.pointer (some ⟨b, 0, none⟩))) := ⟨h0, hw, hBs⟩
  clear hJ hY h0 hw
  refine callsIn_of_wp Try.func25 rfl trivial ?_ rfl
  simp only [Try.ntmps25, List.size_toArray, List.length_cons, List.length_nil, Nat.reduceAdd, Nat.reduceSub, Array.replicate_succ, Array.replicate_zero, List.push_toArray, List.append_toArray, List.nil_append, List.cons_append]
  gi_wp2
  gi_loopw [3, 4] (fun _ _ wr => ∃ pre rest, l = pre ++ rest ∧ J pre wr ∧ WhK K wr b t rest ∧ wr.cell? ⟨Bs, 0, none⟩ = some (.pointer (some ⟨b, 0, none⟩))) (fun _ _ wr => lenOf wr b)
  case atStart => exact ⟨[], l, rfl, S0.out.1, S0.out.2.1, S0.out.2.2⟩
  case round =>
    obtain ⟨pre, rest, el, hj, hwk, hbs⟩ := hrel
    obtain ⟨v, hu⟩ := hwk.un
    have F1 := hid (first_any b t v rest wr hu.1 hwk.1.1)
    have EL := hid el
    have HJ1 := hid hj
    have HW1 := hid hwk
    have HU1 := hid hu
    clear el hj hwk hu S0
    gi_wp2_with fail
    refine ⟨trivial, (callsIn_wide.2 F1.out).mono ?_⟩
    rintro e w1 ⟨x1, hr⟩
    have c0 := x1.cell hbs
    have J1 : Hid (J pre w1) := HJ.out _ _ _ HJ1.out (Kept.of_ext x1)
    have W1 := hid (HW1.out.ext x1)
    have U1 := hid (HU1.out.ext x1)
    have LN := hid (lenOf_eq HU1.out.1)
    clear F1 HJ1 HW1 HU1 hbs x1
    rcases hr with ⟨rfl, rfl⟩ | ⟨f, p, r, rfl, hf, e2, ⟨r', er⟩, rfl⟩
    · gi_wp2_with fail
      refine wpIn_wide.2 ?_
      go_quiet (fail)
      have R : Hid (J pre (w1.drewN nq) ∧ WhK K (w1.drewN nq) b t []) := ⟨HJ.out _ _ _ J1.out ((Kept.refl _ w1).drewN nq), W1.out.ext ((Ext.refl w1).drewN nq)⟩
      gi_wp2_with fail
      refine bodyPost_ret (results_none rfl _ _ _) rfl ?_
      exact ⟨⟨_, rfl⟩, .inl ⟨pre, [], EL.out, fun p r h => (by cases h), R.out.1, R.out.2⟩⟩
    · obtain ⟨g, m, cp, d1, d2, d3, d4, d5⟩ := U1.out.1.head hf er
      have d0 := U1.out.1.time
      unfold maxLen at d3
      have i3 : (f : Int) < 64 := by omega
      have i4 : (0 : Int) ≤ (f : Int) := by omega
      clear d4
      obtain ⟨pi, tk⟩ := p
      simp only at d5 e2
      by_cases ht : t < tk
      · have ht' : decide (t < tk) = true := by simp [ht]
        gi_wp2_with fail
        refine wpIn_wide.2 ?_
        go_quiet (fail)
        have R : Hid (J pre (w1.drewN nq) ∧ WhK K (w1.drewN nq) b t ((pi, tk) :: r)) := ⟨HJ.out _ _ _ J1.out ((Kept.refl _ w1).drewN nq), W1.out.ext ((Ext.refl w1).drewN nq)⟩
        gi_wp2_with fail
        refine bodyPost_ret (results_none rfl _ _ _) rfl ?_
        exact ⟨⟨_, rfl⟩, .inl ⟨pre, _, EL.out, fun p r h => (by cases h; exact ht), R.out.1, R.out.2⟩⟩
      · have ht' : decide (t < tk) = false := by simp; omega
        have T := fun W' (X : Ext w1 W') => take_any K b t ((pi, tk) :: r) f 0 W' (W1.out.ext X) hf (by rw [er]; simp)
        rw [er] at T
        simp only [List.getD_cons_zero] at T
        rw [wo_head W1.out.1.2.1] at T
        have TT := hid T
        clear T
        gi_wp2_with fail
        refine wpIn_wide.2 ?_
        go_quiet (fail)
        have X2 : Ext w1 (w1.drewN nq) := (Ext.refl w1).drewN nq
        have T2 := hid (TT.out _ X2)
        have J2 : Hid (J pre (w1.drewN nq)) := HJ.out _ _ _ J1.out (Kept.of_ext X2)
        have c2 := X2.cell c0
        clear d0 d1 d5 TT X2
        gi_wp2_with fail
        refine ⟨trivial, (callsIn_wide.2 T2.out).mono ?_⟩
        rintro e w2 ⟨rfl, u2, k2⟩
        have J3 : Hid (J pre (w2.alloc (.cells #[.int .i64 pi, .int .i64 tk] 60))) := HJ.out _ _ _ J2.out (k2.trans (Kept.of_ext ((Ext.refl w2).alloc _)))
        have U3 := hid (u2.ext ((Ext.refl w2).alloc (.cells #[.int .i64 pi, .int .i64 tk] 60)))
        have c3 := ((Ext.refl w2).alloc (.cells #[.int .i64 pi, .int .i64 tk] 60)).cell (k2.cell hK c2)
        have PX : Hid (pre ++ [(pi, tk)] <+: l) := ⟨r, by rw [EL.out]; simp⟩
        obtain ⟨fn, tmps, assign, body, hy, hR⟩ := HY.out pre (pi, tk) _ J3.out PX.out (by simp only; omega)
        clear T2 J2 J3 u2 k2 c2 c0
        simp only at hy
        have HR := hid hR
        clear hR
        gi_wp2_with fail
        refine HR.out.mono ?_
        rintro e W3 (⟨rfl, hJ3, hk3, c4⟩ | ⟨rfl, hJx3, hk3⟩)
        · have R3 : Hid (J (pre ++ [(pi, tk)]) W3 ∧ WhK K W3 b t r ∧ W3.cell? ⟨Bs, 0, none⟩ = some (.pointer (some ⟨b, 0, none⟩))) := by
            obtain ⟨v3, u3⟩ := U3.out.un
            exact ⟨hJ3, ⟨U3.out.1, U3.out.2.1, v3, hk3 K t v3 r (fun _ h => h) u3⟩, c4⟩
          have ME : Hid (lenOf W3 b < lenOf wr b) := by
            obtain ⟨v3, u3⟩ := R3.out.2.1.un
            rw [LN.out, lenOf_eq u3.1]
            show r.length < r.length + 1
            omega
          clear hJ3 hk3 c4 hy
          gi_wp2_with fail
          go_roundw
          case rel => exact ⟨pre ++ [(pi, tk)], r, by rw [EL.out]; simp, R3.out.1, R3.out.2.1, R3.out.2.2⟩
          case measure => exact ME.out
        · have R3 : Hid (Jx (pre ++ [(pi, tk)]) W3 ∧ WhK K W3 b t r) := by
            obtain ⟨v3, u3⟩ := U3.out.un
            exact ⟨hJx3, ⟨U3.out.1, U3.out.2.1, v3, hk3 K t v3 r (fun _ h => h) u3⟩⟩
          clear hJx3 hk3 hy
          gi_wp2_with fail
          refine bodyPost_ret (results_none rfl _ _ _) rfl ?_
          exact ⟨⟨_, rfl⟩, .inr ⟨pre ++ [(pi, tk)], r, by rw [EL.out]; simp, R3.out.1, R3.out.2⟩⟩
end Go.Proofs.Ythokjkkhkcdceaa

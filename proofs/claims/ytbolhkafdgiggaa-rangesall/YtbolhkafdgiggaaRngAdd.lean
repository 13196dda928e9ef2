/-
  The walks of Add and Cut.
-/
import Derived.Test.YtbolhkafdgiggaaRngLay
import Derived.Deep.RegionWith
namespace Go.Proofs.Ytbolhkafdgiggaa
set_option linter.unusedVariables false
set_option maxRecDepth 100000
open Go.RowKit Go.Lib

/-- what Add leads to -/
def Added (K : Nat → Prop) (w w' : World) (b : Nat) (l : Sts) (x y : Int) : Prop := ∃ l', Good l' ∧ (∀ i, has l' i = (has l i || (decide (x ≤ i) && decide (i < y)))) ∧ SetK K w' b l' ∧ Kept K w w'
/-- what Cut leads to -/
def Cutted (K : Nat → Prop) (w w' : World) (b : Nat) (l : Sts) (x y : Int) : Prop := ∃ l', Good l' ∧ (∀ i, has l' i = (has l i && !(decide (x ≤ i) && decide (i < y)))) ∧ SetK K w' b l' ∧ Kept K w w'

theorem add_no (b : Nat) (x y : Int) (w : World) (h : ¬ (0 ≤ x ∧ x ≤ y ∧ y ≤ 16384)) :
    Calls Try.prog 22 #[.pointer (some ⟨b, 0, none⟩), .int .i64 x, .int .i64 y] w fun e w' => e = .returned (.tuple #[.int .i64 0, .int .i64 11]) ∧ w' = w := by
  have C := hid (within_any x y w)
  rw [decide_eq_false h] at C
  clear h
  go_enter Try.func22, Try.ntmps22
  go_wp2_with fail
  refine C.out.mono ?_
  rintro e w1 ⟨rfl, rfl⟩
  go_wp2_with fail
  go_ret2
  exact ⟨rfl, rfl⟩
theorem cut_no (b : Nat) (x y : Int) (w : World) (h : ¬ (0 ≤ x ∧ x ≤ y ∧ y ≤ 16384)) :
    Calls Try.prog 23 #[.pointer (some ⟨b, 0, none⟩), .int .i64 x, .int .i64 y] w fun e w' => e = .returned (.tuple #[.int .i64 0, .int .i64 11]) ∧ w' = w := by
  have C := hid (within_any x y w)
  rw [decide_eq_false h] at C
  clear h
  go_enter Try.func23, Try.ntmps23
  go_wp2_with fail
  refine C.out.mono ?_
  rintro e w1 ⟨rfl, rfl⟩
  go_wp2_with fail
  go_ret2
  exact ⟨rfl, rfl⟩

/-- lay, with pieces that were just made -/
theorem lay_new (K : Nat → Prop) (b f t : Nat) (l ps : Sts) (cs : Array Value) (n : Nat) (w : World) (hs : SetK K w b l) (hcs : cs = (gcells ps).toArray) (hn : ps.length = n) (hft : f ≤ t) (ht : t ≤ l.length) (hl : l.length ≤ 20000) (hps : ps.length ≤ 1000) :
    Calls Try.prog 30 #[.pointer (some ⟨b, 0, none⟩), .int .i64 f, .int .i64 t, .slice (some ⟨w.heap.size, 0, none⟩) n n] (w.alloc (.cells cs 33)) fun e w' => e = .returned (.tuple #[]) ∧ SetK K w' b (laid l f t ps) ∧ Kept K w w' := by
  subst hcs
  subst hn
  have X := (Ext.refl w).alloc (.cells (gcells ps).toArray 33)
  have g1 := heap_alloc_new w (.cells (gcells ps).toArray 33)
  have M := hs.more X
  have R : RowK (fun i => K i ∨ (w.heap.size ≤ i ∧ i < (w.alloc (.cells (gcells ps).toArray 33)).heap.size)) (w.alloc (.cells (gcells ps).toArray 33)) (.slice (some ⟨w.heap.size, 0, none⟩) ps.length ps.length) 2 (gcells ps) := by
    refine ⟨_, _, _, rfl, gcells_length ps, Nat.le_refl _, by unfold maxLen; omega, fun _ => ⟨w.heap.size, 0, rfl, .inr ⟨Nat.le_refl _, by simp⟩, fun j u hu => ?_⟩⟩
    have := row_src g1 (o := 0) (cs := gcells ps) (by rw [List.drop_zero]; exact List.prefix_refl _) j u hu
    rwa [Addr.add_mid] at this
  refine (lay_any _ b f t l ps _ _ M R hft ht hl hps).mono ?_
  rintro e w' ⟨rfl, h1, h2⟩
  exact ⟨rfl, h1.less (fun i hi => .inl hi), (Kept.of_ext X).trans (h2.mono (fun i hi => .inl hi))⟩

set_option maxHeartbeats 4000000 in
theorem add_yes (K : Nat → Prop) (b : Nat) (x y : Int) (l : Sts) (w : World) (hs : SetK K w b l) (hg : Good l) (hx : 0 ≤ x) (hxy : x ≤ y) (hy : y ≤ 16384) :
    Calls Try.prog 22 #[.pointer (some ⟨b, 0, none⟩), .int .i64 x, .int .i64 y] w fun e w' => e = .returned (.tuple #[.int .i64 (y - x - tot x y l), .int .i64 0]) ∧ Added K w w' b l x y := by
  have C1 := hid (within_any x y w)
  rw [decide_eq_true (And.intro hx (And.intro hxy hy))] at C1
  obtain ⟨v, sv, _⟩ := id hs
  have C2 := hid (count_any b x y v l w sv hg hx hxy hy)
  obtain ⟨f, pf⟩ := hg.ends (x - 1)
  obtain ⟨t, pt⟩ := hg.begins y
  have PF := hid pf
  have PT := hid pt
  have HS := hid hs
  have SV := hid sv
  have HG := hid hg
  have LN := hg.len
  have TB := tot_bound hx hxy hy hg
  have fl := pf.1
  have tl := pt.1
  clear hs sv pf pt hg
  generalize tot x y l = T at *
  go_enter Try.func22, Try.ntmps22
  go_wp2_with fail
  refine C1.out.mono ?_
  rintro e w ⟨rfl, rfl⟩
  clear C1
  go_wp2_with fail
  refine C2.out.mono ?_
  rintro e w1 ⟨rfl, x1⟩
  clear C2
  have C3 := hid (endsBehind_at b (x - 1) v l f w1 (SV.out.ext x1) HG.out PF.out)
  have X1 := hid x1
  clear x1
  go_wp2_with fail
  refine C3.out.mono ?_
  rintro e w2 ⟨rfl, x2⟩
  have C4 := hid (beginsBehind_at b y v l t w2 ((SV.out.ext X1.out).ext x2) HG.out PT.out)
  have X2 := hid (X1.out.trans x2)
  clear x2 C3 X1
  go_wp2_with fail
  refine C4.out.mono ?_
  rintro e w3 ⟨rfl, x3⟩
  have X3 := hid (X2.out.trans x3)
  clear x3 C4 X2
  by_cases c : f < t
  · obtain ⟨t', rfl⟩ : ∃ t', t = t' + 1 := ⟨t - 1, by omega⟩
    have sv3 := SV.out.ext X3.out
    have c1 := sv3.cell
    obtain ⟨ao, cp, rfl, q1, q2, vw⟩ := sv3.2.view
    obtain ⟨g, rfl, y1, _⟩ := vw f (by omega)
    obtain ⟨g', eg, _, y2⟩ := vw t' (by omega)
    have eg : g' = g := by simp at eg; exact eg.symm
    subst eg
    obtain ⟨A, eA⟩ : ∃ A, (if (l.getD f (0, 0)).1 < x then (l.getD f (0, 0)).1 else x) = A := ⟨_, rfl⟩
    obtain ⟨B, eB⟩ : ∃ B, (if y < (l.getD t' (0, 0)).2 then (l.getD t' (0, 0)).2 else y) = B := ⟨_, rfl⟩
    have AL := hid (add_laws HG.out hx hxy hy PF.out PT.out A B (fun _ => ⟨by rw [← eA]; split <;> omega, by rw [← eB, Nat.add_sub_cancel]; split <;> omega⟩) (fun h => absurd c h))
    have CL := fun nq : Nat => hid (lay_new K b f (t' + 1) l [(A, B)] #[.int .i64 A, .int .i64 B] 1 (w3.drewN nq) (HS.out.ext (X3.out.drewN nq)) rfl rfl (by omega) tl (by omega) (by simp))
    unfold maxLen at q2
    generalize (l.getD f (0, 0)).1 = lf at *
    generalize (l.getD t' (0, 0)).2 = lt at *
    have i1 : (f : Int) < (t' : Int) + 1 := by omega
    have i2 : (0 : Int) ≤ (f : Int) := by omega
    have i3 : (f : Int) < (l.length : Int) := by omega
    have i4 : (0 : Int) ≤ (t' : Int) := by omega
    have i5 : (t' : Int) < (l.length : Int) := by omega
    have i6 : IntKind.i64.wrap ((t' : Int) + 1 - 1) = (t' : Int) := by rw [IntWalk.i64_in _ (by omega)]; omega
    clear vw sv3 SV
    go_wp2_with fail
    go_quiet (fail)
    have C5 := CL nq
    clear CL
    go_wp2_with fail
    refine C5.out.mono ?_
    rintro e w5 ⟨rfl, k1, k2⟩
    have R : Hid (Added K w w5 b l x y) := ⟨_, AL.out.2.1, AL.out.2.2, k1, (Kept.of_ext (X3.out.drewN nq)).trans k2⟩
    clear k1 k2 C5
    go_wp2_with fail
    go_ret2
    exact ⟨rfl, R.out⟩
  · have AL := hid (add_laws HG.out hx hxy hy PF.out PT.out x y (fun h => absurd h c) (fun _ => ⟨rfl, rfl⟩))
    have C5 := hid (lay_new K b f t l [(x, y)] #[.int .i64 x, .int .i64 y] 1 w3 (HS.out.ext X3.out) rfl rfl AL.out.1 tl (by omega) (by simp))
    have i1 : ¬ ((f : Int) < (t : Int)) := by omega
    clear SV
    go_wp2_with fail
    refine C5.out.mono ?_
    rintro e w5 ⟨rfl, k1, k2⟩
    have R : Hid (Added K w w5 b l x y) := ⟨_, AL.out.2.1, AL.out.2.2, k1, (Kept.of_ext X3.out).trans k2⟩
    clear k1 k2 C5
    go_wp2_with fail
    go_ret2
    exact ⟨rfl, R.out⟩

theorem num_pos {f : Int → Bool} : ∀ (k : Nat) (i : Int), 0 ≤ i → i < k → f i = true → 0 < num f k
  | 0, i, h1, h2, _ => by omega
  | k + 1, i, h1, h2, h3 => by
    rw [num]
    by_cases e : i = k
    · rw [← e, h3]
      have := (num_bound f k).1
      simp only [if_true]
      omega
    · have := num_pos k i h1 (by omega) h3
      split <;> omega

set_option maxHeartbeats 4000000 in
theorem cut_yes (K : Nat → Prop) (b : Nat) (x y : Int) (l : Sts) (w : World) (hs : SetK K w b l) (hg : Good l) (hx : 0 ≤ x) (hxy : x ≤ y) (hy : y ≤ 16384) :
    Calls Try.prog 23 #[.pointer (some ⟨b, 0, none⟩), .int .i64 x, .int .i64 y] w fun e w' => e = .returned (.tuple #[.int .i64 (tot x y l), .int .i64 0]) ∧ Cutted K w w' b l x y := by
  have C1 := hid (within_any x y w)
  rw [decide_eq_true (And.intro hx (And.intro hxy hy))] at C1
  obtain ⟨v, sv, _⟩ := id hs
  have C2 := hid (count_any b x y v l w sv hg hx hxy hy)
  obtain ⟨f, pf⟩ := hg.ends x
  obtain ⟨t, pt⟩ := hg.begins (y - 1)
  have PF := hid pf
  have PT := hid pt
  have HS := hid hs
  have SV := hid sv
  have HG := hid hg
  have LN := hg.len
  have TB := tot_bound hx hxy hy hg
  have fl := pf.1
  have tl := pt.1
  have N0 : Hid (tot x y l = 0 → ∀ i, has l i = (has l i && !(decide (x ≤ i) && decide (i < y)))) := by
    intro h0 i
    cases e : has l i with
    | false => rfl
    | true =>
      rw [tot_num hx hy hg] at h0
      have : ¬ (x ≤ i ∧ i < y) := by
        intro hi
        have h16 := hg.1
        obtain ⟨p, hp, p1, p2⟩ := (has_iff l i).1 e
        have h3 := hg.1 p hp
        have := num_pos (f := fun i => (decide (x ≤ i) && decide (i < y)) && has l i) 16384 i (by omega) (by omega) (by simp [hi, e])
        omega
      simp only [Bool.true_and]
      symm
      simp only [Bool.not_eq_true', Bool.and_eq_false_iff, decide_eq_false_iff_not]
      omega
  clear hs sv pf pt hg
  have T0 := fun h => hid (cut_laws HG.out hx hxy hy PF.out PT.out h)
  generalize tot x y l = T at *
  go_enter Try.func23, Try.ntmps23
  go_wp2_with fail
  refine C1.out.mono ?_
  rintro e w ⟨rfl, rfl⟩
  clear C1
  go_wp2_with fail
  refine C2.out.mono ?_
  rintro e w1 ⟨rfl, x1⟩
  clear C2
  by_cases z : T = 0
  · have R : Hid (Cutted K w w1 b l x y) := ⟨l, HG.out, N0.out z, HS.out.ext x1, Kept.of_ext x1⟩
    subst z
    clear T0 N0
    go_wp2_with fail
    go_ret2
    exact ⟨rfl, R.out⟩
  · have CL := T0 z
    have C3 := hid (endsBehind_at b x v l f w1 (SV.out.ext x1) HG.out PF.out)
    have X1 := hid x1
    clear x1 T0 N0
    go_wp2_with fail
    refine C3.out.mono ?_
    rintro e w2 ⟨rfl, x2⟩
    have C4 := hid (beginsBehind_at b (y - 1) v l t w2 ((SV.out.ext X1.out).ext x2) HG.out PT.out)
    have X2 := hid (X1.out.trans x2)
    clear x2 C3 X1
    go_wp2_with fail
    refine C4.out.mono ?_
    rintro e w3 ⟨rfl, x3⟩
    have X3 := hid (X2.out.trans x3)
    clear x3 C4 X2
    have ft := CL.out.1
    obtain ⟨t', rfl⟩ : ∃ t', t = t' + 1 := ⟨t - 1, by omega⟩
    have sv3 := SV.out.ext X3.out
    have c1 := sv3.cell
    obtain ⟨ao, cp, rfl, q1, q2, vw⟩ := sv3.2.view
    obtain ⟨g, rfl, y1, _⟩ := vw f (by omega)
    obtain ⟨g', eg, _, y2⟩ := vw t' (by omega)
    have eg : g' = g := by simp at eg; exact eg.symm
    subst eg
    rw [Nat.add_sub_cancel] at CL
    have C5 := hid (lay_new K b f (t' + 1) l [((l.getD f (0, 0)).1, x), (y, (l.getD t' (0, 0)).2)] #[.int .i64 (l.getD f (0, 0)).1, .int .i64 x, .int .i64 y, .int .i64 (l.getD t' (0, 0)).2] 2 w3.drew (HS.out.ext (X3.out.drewN 1)) rfl rfl (by omega) tl (by omega) (by simp))
    unfold maxLen at q2
    generalize (l.getD f (0, 0)).1 = lf at *
    generalize (l.getD t' (0, 0)).2 = lt at *
    have i2 : (0 : Int) ≤ (f : Int) := by omega
    have i3 : (f : Int) < (l.length : Int) := by omega
    have i4 : (0 : Int) ≤ (t' : Int) := by omega
    have i5 : (t' : Int) < (l.length : Int) := by omega
    have i6 : IntKind.i64.wrap ((t' : Int) + 1 - 1) = (t' : Int) := by rw [IntWalk.i64_in _ (by omega)]; omega
    have i7 : IntKind.i64.wrap (t' : Int) = (t' : Int) := IntWalk.i64_in _ (by omega)
    clear vw sv3 SV ft
    go_wp2_with fail
    go_region_with (first | (go_at_call 30; refine C5.out.mono ?_; rintro e w5 ⟨rfl, k1, k2⟩))
    all_goals (have R : Hid (Cutted K w w5 b l x y) := ⟨_, CL.out.2.2.1, CL.out.2.2.2, k1, (Kept.of_ext (X3.out.drewN 1)).trans k2⟩)
    all_goals (clear k1 k2 C5 CL)
    all_goals (go_wp2_with fail; go_ret2; exact ⟨rfl, R.out⟩)
end Go.Proofs.Ytbolhkafdgiggaa

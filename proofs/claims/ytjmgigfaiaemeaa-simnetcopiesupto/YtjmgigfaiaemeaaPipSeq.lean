/-
  The walk of the closure that Take tells: messages that are due are taken out one by one, for every loop body that keeps the pipe.
-/
import Derived.RangeFuncNested
import Derived.RangeFuncBound
import Derived.RangeFuncCalls
import Derived.RangeFuncLeaves
import Derived.Shelf.Abstract
import Derived.Shelf.RegionOpen
import Derived.WalkKit
import Derived.OwnWalkIn
import Derived.TacticsInMore
import Derived.LoopNIn
import Derived.LoopIn
import Derived.Test.YtjmgigfaiaemeaaPipOps
namespace Go.Proofs.Ytjmgigfaiaemeaa.Pip
set_option linter.unusedVariables false
set_option maxRecDepth 100000
open Go.RowKit Go.Lib Go.Shelf
attribute [local go_sem] Oper.semAt_some

/-- how many messages a pipe has, as its memory tells -/
def lenOf (w : World) (b : Nat) : Nat := match w.cell? ⟨b, 1, none⟩ with | some (.slice _ n _) => n | _ => 0
theorem lenOf_eq {w : World} {b : Nat} {room : Int} {v : Value} {ml : List Msg} (h : PipV w b room v ml) : lenOf w b = ml.length := by
  obtain ⟨ao, c, rfl, _⟩ := h.slice
  unfold lenOf
  rw [h.cells.2]

/-- a loop's body keeps the pipe at b -/
def Holds (K : Nat → Prop) (b : Nat) (W W' : World) : Prop := ∀ K' room v ml, (∀ i, K i → K' i) → PipU K' W b room v ml → PipU K' W' b room v ml
theorem Holds.refl (K : Nat → Prop) (b : Nat) (W : World) : Holds K b W W := fun _ _ _ _ _ h => h
theorem Holds.trans {K : Nat → Prop} {b : Nat} {A B C : World} (h : Holds K b A B) (k : Holds K b B C) : Holds K b A C := fun K' t v l hK u => k K' t v l hK (h K' t v l hK u)
theorem Holds.more {K K2 : Nat → Prop} {b : Nat} {A B : World} (h : Holds K b A B) (hK : ∀ i, K i → K2 i) : Holds K2 b A B := fun K' t v l hK' u => h K' t v l (fun i hi => hK' i (hK i hi)) u
theorem Holds.set {K : Nat → Prop} {b : Nat} (W : World) {g : Nat} (hg : K g) (i : Nat) (x : Value) : Holds K b W (W.setCell ⟨g, i, none⟩ x) := fun K' t v l hK u => u.cell (hK g hg) i x
theorem Holds.row {K : Nat → Prop} {b : Nat} (W : World) {g : Nat} (hg : K g) (cs : Array Value) : Holds K b W (W.setRow g cs) := fun K' t v l hK u => u.row (hK g hg) cs
theorem Holds.ext {K : Nat → Prop} {b : Nat} {W W' : World} (e : Ext W W') : Holds K b W W' := fun K' t v l hK u => u.ext e
theorem put_same {W : World} {L : Nat} {o o' : Obj} (h : W.heap[L]? = some o) (ho : o.isCells = false) : ∀ (i : Nat) (c : Array Value) (ty : TypeId) (fr : Nat × Nat), W.heap[i]? = some (.cells c ty fr) → (W.putObj L o').heap[i]? = some (.cells c ty fr) := by
  intro i c ty fr hi
  rw [World.putObj_heap_other (fun e => ?_), hi]
  subst e
  rw [h] at hi
  cases hi
  simp [Obj.isCells] at ho
theorem _root_.Go.Proofs.Ytjmgigfaiaemeaa.OwnB.put {W : World} {L : Nat} {o o' : Obj} (h : W.heap[L]? = some o) (ho : o.isCells = false) {v : Value} {l : List UInt8} (hb : OwnB W v l) : OwnB (W.putObj L o') v l := by
  refine ⟨hb.1, ?_⟩
  rcases hb.2 with hn | ⟨g, cap, cur, e, hb0, hgg, rest⟩
  · exact .inl hn
  · exact .inr ⟨g, cap, cur, e, hb0, put_same h ho _ _ _ _ hgg, rest⟩
theorem Holds.put {K : Nat → Prop} {b : Nat} (W : World) (L : Nat) (o o' : Obj) (h : W.heap[L]? = some o) (ho : o.isCells = false) : Holds K b W (W.putObj L o') := fun K' t v l hK u => by
  obtain ⟨⟨q1, q2, q3⟩, h2, h3, h4, h5, h6⟩ := u
  refine ⟨⟨put_same h ho _ _ _ _ q1, ⟨q2.1, ?_⟩, fun p hp => ⟨(q3 p hp).1, OwnB.put h ho (q3 p hp).2⟩⟩, h2, h3, h4, h5, fun i hi => by simpa using h6 i hi⟩
  rcases q2.2 with hn | ⟨g, cap, cur, e, hb0, hgg, rest⟩
  · exact .inl hn
  · exact .inr ⟨g, cap, cur, e, hb0, put_same h ho _ _ _ _ hgg, rest⟩

theorem du_head {l : Ms} {t : Int} (hs : Srt l) (h : 0 < du l t) : ∃ x r, l = x :: r ∧ x.1 ≤ t := by
  cases l with
  | nil => simp [du_nil] at h
  | cons x r => exact ⟨x, r, rfl, (srt_due hs t 0 (by simp)).1 h⟩

/-- the blocks of K, and the bytes' own -/
def Ks (K : Nat → Prop) (s : Sl) : Nat → Prop := fun i => K i ∨ (sval s).ownBlock = some i

set_option maxHeartbeats 1000000 in
/-- the closure -/
theorem take1_in (n L B1 B2 b : Nat) (K : Nat → Prop) (room now : Int) (l : Ms) (J Jx : (Nat → Prop) → Ms → World → Prop) (hn : 1 ≤ n)
    (hJ : ∀ K' pre W W', J K' pre W → Kept K' W W' → J K' pre W')
    (hY : ∀ K' pre x s W, (∀ i, K i → K' i) → J K' pre W → pre ++ [x] <+: l → x.1 ≤ now → OwnB W (sval s) x.2 → x.2.length ≤ 320 → (∀ g, (sval s).ownBlock = some g → ¬ K' g) → YieldAt Fence.wide (n - 1) Try.prog L #[sval s] W fun e W' =>
      ∃ K2, (∀ i, K' i → K2 i) ∧ (∀ v ml, PipU (Ks K' s) W b room v ml → PipU K2 W' b room v ml) ∧
        ((e = .returned (.bool true) ∧ J K2 (pre ++ [x]) W' ∧ W'.cell? ⟨B1, 0, none⟩ = some (.pointer (some ⟨b, 0, none⟩)) ∧ W'.cell? ⟨B2, 0, none⟩ = some (.int .i64 now)) ∨ (e = .returned (.bool false) ∧ Jx K2 (pre ++ [x]) W')))
    (W : World) (hB1 : W.cell? ⟨B1, 0, none⟩ = some (.pointer (some ⟨b, 0, none⟩))) (hB2 : W.cell? ⟨B2, 0, none⟩ = some (.int .i64 now)) (hK1 : K B1) (hK2 : K B2) (hw : PipK K W b room l) (h0 : J K [] W) :
    CallsIn Fence.wide n Try.prog 51 #[.func (.yield L) #[] #[], .pointer (some ⟨B1, 0, none⟩), .pointer (some ⟨B2, 0, none⟩)] W fun e W' => (∃ v, e = .returned v) ∧ ∃ K' pre rest, (∀ i, K i → K' i) ∧ l = pre ++ rest ∧ PipK K' W' b room rest ∧ ((du rest now = 0 ∧ J K' pre W') ∨ Jx K' pre W') := by
  have HJ := hid hJ
  have HY := hid hY
  have S0 : Hid (J K [] W ∧ PipK K W b room l ∧ W.cell? ⟨B1, 0, none⟩ = some (.pointer (some ⟨b, 0, none⟩)) ∧ W.cell? ⟨B2, 0, none⟩ = some (.int .i64 now)) := ⟨h0, hw, hB1, hB2⟩
  clear hJ hY h0 hw
  refine callsIn_of_wp Try.func51 rfl trivial ?_ rfl
  simp only [Try.ntmps51, List.size_toArray, List.length_cons, List.length_nil, Nat.reduceAdd, Nat.reduceSub, Array.replicate_succ, Array.replicate_zero, List.push_toArray, List.append_toArray, List.nil_append, List.cons_append]
  gi_wp2
  gi_loopw [] (fun wr => ∃ K' pre rest, (∀ i, K i → K' i) ∧ l = pre ++ rest ∧ J K' pre wr ∧ PipK K' wr b room rest ∧ wr.cell? ⟨B1, 0, none⟩ = some (.pointer (some ⟨b, 0, none⟩)) ∧ wr.cell? ⟨B2, 0, none⟩ = some (.int .i64 now)) (fun wr => lenOf wr b)
  case atStart => exact ⟨K, [], l, fun _ h => h, rfl, S0.out.1, S0.out.2.1, S0.out.2.2⟩
  case round =>
    obtain ⟨K', pre, rest, hKK, el, hj, hwk, hb1, hb2⟩ := hrel
    have KK := hid hKK
    have hK1' := hKK _ hK1
    have hK2' := hKK _ hK2
    clear hKK
    obtain ⟨⟨r1, r2, r3, r4⟩, v, ml, hu, em⟩ := hwk
    have F1 := hid (due_any b room now v ml rest wr hu.1 em r3 (by omega))
    have LN := hid (lenOf_eq hu.1)
    have EL := hid el
    have HJ1 := hid hj
    have HU1 := hid hu
    have EM := hid em
    have RR : Hid (1 ≤ room ∧ room ≤ 256 ∧ Srt rest ∧ (rest.length : Int) ≤ room) := ⟨r1, r2, r3, r4⟩
    clear el hj hu S0 em r1 r2 r3 r4
    obtain ⟨D, eD⟩ : ∃ D : Nat, D = du rest now := ⟨_, rfl⟩
    rw [← eD] at F1
    have ED := hid eD
    clear eD
    gi_wp2_with fail
    refine ⟨trivial, (callsIn_wide.2 F1.out).mono ?_⟩
    rintro e w1 ⟨rfl, x1⟩
    have c1 := x1.cell hb1
    have c2 := x1.cell hb2
    have J1 : Hid (J K' pre w1) := HJ.out _ _ _ _ HJ1.out (Kept.of_ext x1)
    have U1 := hid (HU1.out.ext x1)
    clear F1 HJ1 HU1 hb1 hb2 x1
    by_cases hD : D = 0
    · have hD' : ¬ (0 : Int) < (D : Int) := by omega
      have ED0 : Hid (du rest now = 0) := by rw [← ED.out]; exact hD
      clear hD
      have R : Hid (J K' pre w1 ∧ PipK K' w1 b room rest) := ⟨J1.out, RR.out, v, ml, U1.out, EM.out⟩
      gi_wp2_with fail
      refine bodyPost_end (results_none rfl _ _ _) rfl ?_
      exact ⟨⟨_, rfl⟩, K', pre, rest, KK.out, EL.out, R.out.2, .inl ⟨ED0.out, R.out.1⟩⟩
    · have hD' : (0 : Int) < (D : Int) := by omega
      obtain ⟨x, r, er, hx⟩ := du_head RR.out.2.2.1 (show 0 < du rest now by have := ED.out; omega)
      obtain ⟨p, mr, em, ep, emr⟩ : ∃ p mr, ml = p :: mr ∧ told p = x ∧ mr.map told = r := by
        have := EM.out
        rw [er] at this
        cases ml with
        | nil => simp at this
        | cons p mr =>
          simp only [List.map_cons, List.cons.injEq] at this
          exact ⟨p, mr, rfl, this.1, this.2⟩
      subst em
      have lr : mr.length ≤ 256 := by
        have := RR.out
        rw [er, ← emr] at this
        simp only [List.length_cons, List.length_map] at this
        omega
      have T := hid (takeFirst_any K' b room v p mr w1 U1.out lr)
      have NK : Hid (∀ g, (sval p.2.1).ownBlock = some g → ¬ K' g) := U1.out.2.2.2.1 p (List.mem_cons_self ..)
      have LB : Hid (x.2.length ≤ 320) := by
        have := (U1.out.1.2.2 p (List.mem_cons_self ..)).1
        rw [← ep]; exact this
      have RR2 : Hid (1 ≤ room ∧ room ≤ 256 ∧ Srt r ∧ (r.length : Int) ≤ room) := by
        have := RR.out
        rw [er] at this
        refine ⟨this.1, this.2.1, (List.pairwise_cons.1 this.2.2.1).2, ?_⟩
        have := this.2.2.2
        simp only [List.length_cons] at this
        omega
      have EL2 : Hid (l = pre ++ x :: r) := by rw [← er]; exact EL.out
      have EP := hid ep
      have EMR := hid emr
      have HX := hid hx
      clear U1 EL RR EM ED er ep emr hx
      gi_wp2_with fail
      refine ⟨trivial, (callsIn_wide.2 T.out).mono ?_⟩
      rintro e w2 ⟨rfl, v2, u2, ob2, k2⟩
      have J3 : Hid (J K' pre w2) := HJ.out _ _ _ _ J1.out k2
      have U3 := hid u2
      have c3 := k2.cell hK1' c1
      have c4 := k2.cell hK2' c2
      have PX : Hid (pre ++ [x] <+: l) := ⟨r, by rw [EL2.out]; simp⟩
      have OB : OwnB w2 (sval p.2.1) x.2 := by rw [← EP.out]; exact ob2
      obtain ⟨fn, tmps, assign, body, hy, hR⟩ := HY.out K' pre x p.2.1 _ KK.out J3.out PX.out HX.out OB LB.out NK.out
      clear T J1 J3 u2 k2 c1 c2 ob2 OB
      have HR := hid hR
      clear hR
      obtain ⟨pd, ⟨ss, sn, sc⟩, pb⟩ := p
      simp only [sval] at hy
      simp only [sval]
      gi_wp2_with fail
      refine HR.out.mono ?_
      rintro e W3 ⟨K2, hk2, hk3, (⟨rfl, hJ3, c5, c6⟩ | ⟨rfl, hJx3⟩)⟩
      · have U4 := hk3 _ _ U3.out
        have R3 : Hid ((∀ i, K i → K2 i) ∧ J K2 (pre ++ [x]) W3 ∧ PipK K2 W3 b room r ∧ W3.cell? ⟨B1, 0, none⟩ = some (.pointer (some ⟨b, 0, none⟩)) ∧ W3.cell? ⟨B2, 0, none⟩ = some (.int .i64 now)) := ⟨fun i h => hk2 i (KK.out i h), hJ3, ⟨RR2.out, v2, mr, U4, EMR.out⟩, c5, c6⟩
        have ME : Hid (lenOf W3 b < lenOf wr b) := by
          have e1 := LN.out
          rw [e1, lenOf_eq U4.1]
          show mr.length < mr.length + 1
          omega
        clear hJ3 hk3 c5 c6 hy U4 hk2
        gi_wp2_with fail
        go_roundw
        case rel => exact ⟨K2, pre ++ [x], r, R3.out.1, by rw [EL2.out]; simp, R3.out.2.1, R3.out.2.2.1, R3.out.2.2.2⟩
        case measure => exact ME.out
      · have U4 := hk3 _ _ U3.out
        have R3 : Hid ((∀ i, K i → K2 i) ∧ Jx K2 (pre ++ [x]) W3 ∧ PipK K2 W3 b room r) := ⟨fun i h => hk2 i (KK.out i h), hJx3, ⟨RR2.out, v2, mr, U4, EMR.out⟩⟩
        clear hJx3 hk3 hy U4 hk2
        gi_wp2_with fail
        refine bodyPost_ret (results_none rfl _ _ _) rfl ?_
        exact ⟨⟨_, rfl⟩, K2, pre ++ [x], r, R3.out.1, by rw [EL2.out]; simp, R3.out.2.2, .inr R3.out.2.1⟩
end Go.Proofs.Ytjmgigfaiaemeaa.Pip

/-
  The walk of the statements' step: one call of wheel and list.
-/
import Derived.Test.YthokjkkhkcdceaaWhlTurn
import Derived.Test.YthokjkkhkcdceaaWhlOps
namespace Go.Proofs.Ythokjkkhkcdceaa
set_option linter.unusedVariables false
set_option maxRecDepth 100000
open Go.RowKit Go.Lib

/-- wheel and list side by side, none of it in the blocks of K but the list -/
def Both9 (K : Nat → Prop) (w : World) (b : Nat) (mv : Value) (t : Int) (l : Sts) : Prop := WhK K w b t l ∧ RowK K w mv 2 (gcells l)

/-- a list's row is no box of turn's kind -/
theorem RowK.off {K : Nat → Prop} {w : World} {v : Value} {l : Sts} (h : RowK K w v 2 (gcells l)) {j : Nat} {ty : TypeId} (hr : w.heap[j]? = some (.cells #[.slice none 0 0, .int .i64 0] ty (0, 0))) : RowK (fun i => K i ∧ i ≠ j) w v 2 (gcells l) := by
  obtain ⟨ao, n, c, e, q1, q2, q3, q4⟩ := h
  refine ⟨ao, n, c, e, q1, q2, q3, fun h0 => ?_⟩
  obtain ⟨g, o, ea, hk, hc⟩ := q4 h0
  refine ⟨g, o, ea, ⟨hk, fun e => ?_⟩, hc⟩
  rw [gcells_length] at q1
  have h1 := gcells_at l 0 (by omega)
  have c0 := hc _ _ h1.1
  have c1 := hc _ _ h1.2
  rw [e, cell_of_row w _ _ _ _ _ hr] at c0 c1
  match o, c0, c1 with
  | 0, c0, _ => simp at c0
  | 1, _, c1 => simp at c1
  | o + 2, c0, _ => simp at c0

/-- the boxes of step -/
def boxes3 (mv : Value) (t kind id tick N : Int) (z0 z1 : Value) : List (Array Value × TypeId) :=
  [(#[mv, .int .i64 t], 28), (#[.int .i64 kind, .int .i64 id, .int .i64 tick, .int .i64 N], 30), (#[z0, z1], 28)]
theorem b3_m {h0 : Nat} {W : World} {mv : Value} {t kind id tick N : Int} {z0 z1 : Value} (h : Rows9 h0 W (boxes3 mv t kind id tick N z0 z1)) (nv : Value) : Rows9 h0 (W.setCell ⟨h0, 0, none⟩ nv) (boxes3 nv t kind id tick N z0 z1) := h.set 0 0 _ rfl nv
theorem b3_z0 {h0 : Nat} {W : World} {mv : Value} {t kind id tick N : Int} {z0 z1 : Value} (h : Rows9 h0 W (boxes3 mv t kind id tick N z0 z1)) (v : Value) : Rows9 h0 (W.setCell ⟨h0 + 1 + 1, 0, none⟩ v) (boxes3 mv t kind id tick N v z1) := h.set 2 0 _ rfl _
theorem b3_z1 {h0 : Nat} {W : World} {mv : Value} {t kind id tick N : Int} {z0 z1 : Value} (h : Rows9 h0 W (boxes3 mv t kind id tick N z0 z1)) (v : Value) : Rows9 h0 (W.setCell ⟨h0 + 1 + 1, 1, none⟩ v) (boxes3 mv t kind id tick N z0 v) := h.set 2 1 _ rfl _
theorem b3_cells {h0 : Nat} {W : World} {mv : Value} {t kind id tick N : Int} {z0 z1 : Value} (h : Rows9 h0 W (boxes3 mv t kind id tick N z0 z1)) : W.cell? ⟨h0, 0, none⟩ = some mv ∧ W.cell? ⟨h0, 1, none⟩ = some (.int .i64 t) ∧ W.cell? ⟨h0 + 1, 0, none⟩ = some (.int .i64 kind) ∧ W.cell? ⟨h0 + 1, 1, none⟩ = some (.int .i64 id) ∧ W.cell? ⟨h0 + 1, 2, none⟩ = some (.int .i64 tick) ∧ W.cell? ⟨h0 + 1, 3, none⟩ = some (.int .i64 N) ∧ W.cell? ⟨h0 + 1 + 1, 0, none⟩ = some z0 ∧ W.cell? ⟨h0 + 1 + 1, 1, none⟩ = some z1 :=
  ⟨h.cell 0 0 _ rfl _ rfl, h.cell 0 1 _ rfl _ rfl, h.cell 1 0 _ rfl _ rfl, h.cell 1 1 _ rfl _ rfl, h.cell 1 2 _ rfl _ rfl, h.cell 1 3 _ rfl _ rfl, h.cell 2 0 _ rfl _ rfl, h.cell 2 1 _ rfl _ rfl⟩
theorem b3_free {h0 : Nat} {W : World} {mv : Value} {t kind id tick N : Int} {z0 z1 : Value} (h : Rows9 h0 W (boxes3 mv t kind id tick N z0 z1)) : W.frozen? ⟨h0, 0, none⟩ = false ∧ W.frozen? ⟨h0 + 1 + 1, 0, none⟩ = false ∧ W.frozen? ⟨h0 + 1 + 1, 1, none⟩ = false :=
  ⟨h.free 0 0 _ rfl, h.free 2 0 _ rfl, h.free 2 1 _ rfl⟩
theorem alloc3 (w : World) (o0 o1 o2 : Obj) : ∀ j o, [o0, o1, o2][j]? = some o → (((w.alloc o0).alloc o1).alloc o2).heap[w.heap.size + j]? = some o := by
  intro j o h
  have y2 := fun (W : World) => (Ext.refl W).alloc o2
  match j, h with
  | 0, h => cases h; exact (y2 _).row (heap_alloc2_old w _ _)
  | 1, h => cases h; exact (y2 _).row (heap_alloc2_new w _ _)
  | 2, h => cases h; have := heap_alloc_new ((w.alloc o0).alloc o1) o2; rw [World.size_alloc, World.size_alloc] at this; exact this
  | j + 3, h => simp at h

set_option maxHeartbeats 2000000 in
theorem lawStep_any (K : Nat → Prop) (b : Nat) (t kind id tick N : Int) (l : Sts) (mv : Value) (w : World) (hw : Both9 K w b mv t l) :
    Calls Try.prog 9 #[.pointer (some ⟨b, 0, none⟩), .agg #[mv, .int .i64 t], .agg #[.int .i64 kind, .int .i64 id, .int .i64 tick, .int .i64 N]] w fun e w' =>
      ∃ mv' t' l' K', e = .returned (.tuple #[.agg #[mv', .int .i64 t'], .bool true]) ∧ (∀ i, K i → K' i) ∧ Both9 K' w' b mv' t' l' ∧ Kept K w w' := by
  obtain ⟨hwk, hm⟩ := hw
  obtain ⟨ao, cm, em, m1, m2, _⟩ := hm.view
  subst em
  unfold maxLen at m2
  obtain ⟨W, eW⟩ : ∃ W, W = ((w.alloc (.cells #[.slice ao l.length cm, .int .i64 t] 28)).alloc (.cells #[.int .i64 kind, .int .i64 id, .int .i64 tick, .int .i64 N] 30)).alloc (.cells #[.slice none 0 0, .int .i64 0] 28) := ⟨_, rfl⟩
  have XW : Ext w W := by rw [eW]; exact (((Ext.refl w).alloc _).alloc _).alloc _
  have zW : W.heap.size = w.heap.size + 3 := by rw [eW]; simp
  have B0 : Rows9 w.heap.size W (boxes3 (.slice ao l.length cm) t kind id tick N (.slice none 0 0) (.int .i64 0)) := by
    intro j r hj
    rw [eW]
    refine alloc3 w _ _ _ j _ ?_
    match j, hj with
    | 0, hj => cases hj; rfl
    | 1, hj => cases hj; rfl
    | 2, hj => cases hj; rfl
    | j + 3, hj => simp [boxes3] at hj
  have KL : Hid (∀ i, K i → i < w.heap.size) := hwk.2.2.choose_spec.2.2.2.2
  have HW := hid hwk
  have HM := hid hm
  have HW3 := hid (hwk.more XW)
  have HM3 := hid (hm.kept (Kept.of_ext XW))
  have XX := hid XW
  obtain ⟨K3, e3⟩ : ∃ K3 : Nat → Prop, K3 = fun i => K i ∨ (w.heap.size ≤ i ∧ i < W.heap.size) := ⟨_, rfl⟩
  rw [← e3] at HW3
  have hK3 : ∀ i, K i → K3 i := fun i hi => by rw [e3]; exact .inl hi
  have h3 : ∀ j, j < 3 → K3 (w.heap.size + j) := fun j hj => by rw [e3]; exact .inr ⟨by omega, by omega⟩
  have K3L : Hid (∀ i, K3 i → i < W.heap.size) := fun i hi => by
    rw [e3] at hi
    have := XX.out.size
    rcases hi with h | h
    · have := KL.out i h; omega
    · exact h.2
  have nK : ∀ j, ¬ K (w.heap.size + j) := fun j h => by have := KL.out _ h; omega
  have BB := hid B0
  have EW := hid eW
  have ZW := hid zW
  clear hm hwk eW XW B0 e3 zW
  have CK : ∀ f, (f = 1 ∨ f = 2 ∨ f = 3) → True := fun _ _ => trivial
  by_cases KN : kind = 1
  · -- set
    subst KN
    have S := hid (set_any K3 b t l id tick W HW3.out)
    have WL2 := hid (HW3.out.1)
    obtain ⟨R, eR⟩ : ∃ R, R = callv l 1 id tick := ⟨_, rfl⟩
    rw [← eR] at S
    have ER := hid eR
    clear eR
    go_enter Try.func9, Try.ntmps9
    go_wp2_with fail
    rw [← EW.out]
    refine S.out.mono ?_
    rintro e w4 ⟨rfl, u4, k4⟩
    have B4 := BB.out.kept k4 (fun j hj => h3 j (by simpa [boxes3] using hj))
    have C := refCall_any K _ l 1 id tick w4 (HM3.out.kept (k4.mono hK3)) WL2.out (by omega)
    rw [← ER.out] at C
    have CC := hid C
    have U4 := hid u4
    have K4 := hid k4
    have BB4 := hid B4
    obtain ⟨p1, p2, p3, p4, p5, p6, p7, p8⟩ := b3_cells B4
    clear S C u4 k4 B4
    go_wp2_with fail
    refine CC.out.mono ?_
    rintro e w5 ⟨v, rfl, r5, x5⟩
    have z4 : W.heap.size ≤ w4.heap.size := K4.out.size
    have B5 := BB4.out.kept (Kept.of_ext (K := K3) x5) (fun j hj => h3 j (by simpa [boxes3] using hj))
    obtain ⟨va, vc, ev, _⟩ := r5.view
    subst ev
    have RA := b3_m B5 (.slice va R.1.length vc)
    have RB := b3_z0 RA (.slice va R.1.length vc)
    have RC := b3_z1 RB (.int .i64 t)
    have FIN : Hid (∃ K', (∀ i, K i → K' i) ∧ Both9 K' (((w5.setCell ⟨w.heap.size, 0, none⟩ (.slice va R.1.length vc)).setCell ⟨w.heap.size + 1 + 1, 0, none⟩ (.slice va R.1.length vc)).setCell ⟨w.heap.size + 1 + 1, 1, none⟩ (.int .i64 t)) b (.slice va R.1.length vc) t R.1 ∧ Kept K w (((w5.setCell ⟨w.heap.size, 0, none⟩ (.slice va R.1.length vc)).setCell ⟨w.heap.size + 1 + 1, 0, none⟩ (.slice va R.1.length vc)).setCell ⟨w.heap.size + 1 + 1, 1, none⟩ (.int .i64 t))) := by
      refine ⟨Grew K w4 w5, fun i hi => .inl hi, ⟨?_, ?_⟩, ?_⟩
      · obtain ⟨v4, u5⟩ := (U4.out.more x5).un
        have hh : Holds9 K3 b w5 (((w5.setCell ⟨w.heap.size, 0, none⟩ (.slice va R.1.length vc)).setCell ⟨w.heap.size + 1 + 1, 0, none⟩ (.slice va R.1.length vc)).setCell ⟨w.heap.size + 1 + 1, 1, none⟩ (.int .i64 t)) := ((Holds9.set _ (h3 0 (by decide)) 0 _).trans (Holds9.set _ (h3 2 (by decide)) 0 _)).trans (Holds9.set _ (h3 2 (by decide)) 1 _)
        exact ⟨U4.out.1, U4.out.2.1, v4, (hh _ t v4 R.1 (fun i hi => .inl hi) u5).less (fun i hi => hi.imp (hK3 i) (fun h => h))⟩
      · have nG : ∀ j, j < 3 → ¬ Grew K w4 w5 (w.heap.size + j) := fun j hj h => by
          rcases h with h | h
          · exact nK j h
          · have := ZW.out; omega
        exact r5.kept ((((Kept.refl _ w5).setCell (p := ⟨w.heap.size, 0, none⟩) (nG 0 (by decide)) _).setCell (p := ⟨w.heap.size + 1 + 1, 0, none⟩) (nG 2 (by decide)) _).setCell (p := ⟨w.heap.size + 1 + 1, 1, none⟩) (nG 2 (by decide)) _)
      · have kk : Kept K w w5 := ((Kept.of_ext XX.out).trans (K4.out.mono hK3)).trans (Kept.of_ext x5)
        exact ((kk.setCell (p := ⟨w.heap.size, 0, none⟩) (nK 0) _).setCell (p := ⟨w.heap.size + 1 + 1, 0, none⟩) (nK 2) _).setCell (p := ⟨w.heap.size + 1 + 1, 1, none⟩) (nK 2) _
    obtain ⟨q1, q2, q3, q4, q5, q6, q7, q8⟩ := b3_cells B5
    obtain ⟨f1, f2, f3⟩ := b3_free B5
    obtain ⟨qa1, qa2, qa3, qa4, qa5, qa6, qa7, qa8⟩ := b3_cells RA
    obtain ⟨fa1, fa2, fa3⟩ := b3_free RA
    obtain ⟨qb1, qb2, qb3, qb4, qb5, qb6, qb7, qb8⟩ := b3_cells RB
    obtain ⟨fb1, fb2, fb3⟩ := b3_free RB
    obtain ⟨qc1, qc2, qc3, qc4, qc5, qc6, qc7, qc8⟩ := b3_cells RC
    have GC7 := hid qc7
    have GC8 := hid qc8
    clear RA RB RC B5 r5 x5 CC p1 p2 p3 p4 p5 p6 p7 p8 qc1 qc2 qc3 qc4 qc5 qc6 qc7 qc8
    generalize R.1.length = vn at *
    go_wp2_with fail
    have c7 := GC7.out
    have c8 := GC8.out
    refine bodyPost_ret (v := .tuple #[.agg #[.slice va vn vc, .int .i64 t], .bool true]) (by simp [results, Try.f9, go_sem, c7, c8]) rfl ?_
    obtain ⟨K', a1, a2, a3⟩ := FIN.out
    exact ⟨_, _, _, K', rfl, a1, a2, a3⟩
  · by_cases KN : kind = 2
    · -- move
      subst KN
      have S := hid (move_any K3 b t l id tick W HW3.out)
      have WL2 := hid (HW3.out.1)
      obtain ⟨R, eR⟩ : ∃ R, R = callv l 2 id tick := ⟨_, rfl⟩
      rw [← eR] at S
      have ER := hid eR
      clear eR
      go_enter Try.func9, Try.ntmps9
      go_wp2_with fail
      rw [← EW.out]
      refine S.out.mono ?_
      rintro e w4 ⟨rfl, u4, k4⟩
      have B4 := BB.out.kept k4 (fun j hj => h3 j (by simpa [boxes3] using hj))
      have C := refCall_any K _ l 2 id tick w4 (HM3.out.kept (k4.mono hK3)) WL2.out (by omega)
      rw [← ER.out] at C
      have CC := hid C
      have U4 := hid u4
      have K4 := hid k4
      have BB4 := hid B4
      obtain ⟨p1, p2, p3, p4, p5, p6, p7, p8⟩ := b3_cells B4
      clear S C u4 k4 B4
      go_wp2_with fail
      refine CC.out.mono ?_
      rintro e w5 ⟨v, rfl, r5, x5⟩
      have z4 : W.heap.size ≤ w4.heap.size := K4.out.size
      have B5 := BB4.out.kept (Kept.of_ext (K := K3) x5) (fun j hj => h3 j (by simpa [boxes3] using hj))
      obtain ⟨va, vc, ev, _⟩ := r5.view
      subst ev
      have RA := b3_m B5 (.slice va R.1.length vc)
      have RB := b3_z0 RA (.slice va R.1.length vc)
      have RC := b3_z1 RB (.int .i64 t)
      have FIN : Hid (∃ K', (∀ i, K i → K' i) ∧ Both9 K' (((w5.setCell ⟨w.heap.size, 0, none⟩ (.slice va R.1.length vc)).setCell ⟨w.heap.size + 1 + 1, 0, none⟩ (.slice va R.1.length vc)).setCell ⟨w.heap.size + 1 + 1, 1, none⟩ (.int .i64 t)) b (.slice va R.1.length vc) t R.1 ∧ Kept K w (((w5.setCell ⟨w.heap.size, 0, none⟩ (.slice va R.1.length vc)).setCell ⟨w.heap.size + 1 + 1, 0, none⟩ (.slice va R.1.length vc)).setCell ⟨w.heap.size + 1 + 1, 1, none⟩ (.int .i64 t))) := by
        refine ⟨Grew K w4 w5, fun i hi => .inl hi, ⟨?_, ?_⟩, ?_⟩
        · obtain ⟨v4, u5⟩ := (U4.out.more x5).un
          have hh : Holds9 K3 b w5 (((w5.setCell ⟨w.heap.size, 0, none⟩ (.slice va R.1.length vc)).setCell ⟨w.heap.size + 1 + 1, 0, none⟩ (.slice va R.1.length vc)).setCell ⟨w.heap.size + 1 + 1, 1, none⟩ (.int .i64 t)) := ((Holds9.set _ (h3 0 (by decide)) 0 _).trans (Holds9.set _ (h3 2 (by decide)) 0 _)).trans (Holds9.set _ (h3 2 (by decide)) 1 _)
          exact ⟨U4.out.1, U4.out.2.1, v4, (hh _ t v4 R.1 (fun i hi => .inl hi) u5).less (fun i hi => hi.imp (hK3 i) (fun h => h))⟩
        · have nG : ∀ j, j < 3 → ¬ Grew K w4 w5 (w.heap.size + j) := fun j hj h => by
            rcases h with h | h
            · exact nK j h
            · have := ZW.out; omega
          exact r5.kept ((((Kept.refl _ w5).setCell (p := ⟨w.heap.size, 0, none⟩) (nG 0 (by decide)) _).setCell (p := ⟨w.heap.size + 1 + 1, 0, none⟩) (nG 2 (by decide)) _).setCell (p := ⟨w.heap.size + 1 + 1, 1, none⟩) (nG 2 (by decide)) _)
        · have kk : Kept K w w5 := ((Kept.of_ext XX.out).trans (K4.out.mono hK3)).trans (Kept.of_ext x5)
          exact ((kk.setCell (p := ⟨w.heap.size, 0, none⟩) (nK 0) _).setCell (p := ⟨w.heap.size + 1 + 1, 0, none⟩) (nK 2) _).setCell (p := ⟨w.heap.size + 1 + 1, 1, none⟩) (nK 2) _
      obtain ⟨q1, q2, q3, q4, q5, q6, q7, q8⟩ := b3_cells B5
      obtain ⟨f1, f2, f3⟩ := b3_free B5
      obtain ⟨qa1, qa2, qa3, qa4, qa5, qa6, qa7, qa8⟩ := b3_cells RA
      obtain ⟨fa1, fa2, fa3⟩ := b3_free RA
      obtain ⟨qb1, qb2, qb3, qb4, qb5, qb6, qb7, qb8⟩ := b3_cells RB
      obtain ⟨fb1, fb2, fb3⟩ := b3_free RB
      obtain ⟨qc1, qc2, qc3, qc4, qc5, qc6, qc7, qc8⟩ := b3_cells RC
      have GC7 := hid qc7
      have GC8 := hid qc8
      clear RA RB RC B5 r5 x5 CC p1 p2 p3 p4 p5 p6 p7 p8 qc1 qc2 qc3 qc4 qc5 qc6 qc7 qc8
      generalize R.1.length = vn at *
      go_wp2_with fail
      have c7 := GC7.out
      have c8 := GC8.out
      refine bodyPost_ret (v := .tuple #[.agg #[.slice va vn vc, .int .i64 t], .bool true]) (by simp [results, Try.f9, go_sem, c7, c8]) rfl ?_
      obtain ⟨K', a1, a2, a3⟩ := FIN.out
      exact ⟨_, _, _, K', rfl, a1, a2, a3⟩
    · by_cases KN : kind = 3
      · -- stop
        subst KN
        have S := hid (stop_any K3 b t l id tick W HW3.out)
        have WL2 := hid (HW3.out.1)
        obtain ⟨R, eR⟩ : ∃ R, R = callv l 3 id tick := ⟨_, rfl⟩
        rw [← eR] at S
        have ER := hid eR
        clear eR
        go_enter Try.func9, Try.ntmps9
        go_wp2_with fail
        rw [← EW.out]
        refine S.out.mono ?_
        rintro e w4 ⟨rfl, u4, k4⟩
        have B4 := BB.out.kept k4 (fun j hj => h3 j (by simpa [boxes3] using hj))
        have C := refCall_any K _ l 3 id tick w4 (HM3.out.kept (k4.mono hK3)) WL2.out (by omega)
        rw [← ER.out] at C
        have CC := hid C
        have U4 := hid u4
        have K4 := hid k4
        have BB4 := hid B4
        obtain ⟨p1, p2, p3, p4, p5, p6, p7, p8⟩ := b3_cells B4
        clear S C u4 k4 B4
        go_wp2_with fail
        refine CC.out.mono ?_
        rintro e w5 ⟨v, rfl, r5, x5⟩
        have z4 : W.heap.size ≤ w4.heap.size := K4.out.size
        have B5 := BB4.out.kept (Kept.of_ext (K := K3) x5) (fun j hj => h3 j (by simpa [boxes3] using hj))
        obtain ⟨va, vc, ev, _⟩ := r5.view
        subst ev
        have RA := b3_m B5 (.slice va R.1.length vc)
        have RB := b3_z0 RA (.slice va R.1.length vc)
        have RC := b3_z1 RB (.int .i64 t)
        have FIN : Hid (∃ K', (∀ i, K i → K' i) ∧ Both9 K' (((w5.setCell ⟨w.heap.size, 0, none⟩ (.slice va R.1.length vc)).setCell ⟨w.heap.size + 1 + 1, 0, none⟩ (.slice va R.1.length vc)).setCell ⟨w.heap.size + 1 + 1, 1, none⟩ (.int .i64 t)) b (.slice va R.1.length vc) t R.1 ∧ Kept K w (((w5.setCell ⟨w.heap.size, 0, none⟩ (.slice va R.1.length vc)).setCell ⟨w.heap.size + 1 + 1, 0, none⟩ (.slice va R.1.length vc)).setCell ⟨w.heap.size + 1 + 1, 1, none⟩ (.int .i64 t))) := by
          refine ⟨Grew K w4 w5, fun i hi => .inl hi, ⟨?_, ?_⟩, ?_⟩
          · obtain ⟨v4, u5⟩ := (U4.out.more x5).un
            have hh : Holds9 K3 b w5 (((w5.setCell ⟨w.heap.size, 0, none⟩ (.slice va R.1.length vc)).setCell ⟨w.heap.size + 1 + 1, 0, none⟩ (.slice va R.1.length vc)).setCell ⟨w.heap.size + 1 + 1, 1, none⟩ (.int .i64 t)) := ((Holds9.set _ (h3 0 (by decide)) 0 _).trans (Holds9.set _ (h3 2 (by decide)) 0 _)).trans (Holds9.set _ (h3 2 (by decide)) 1 _)
            exact ⟨U4.out.1, U4.out.2.1, v4, (hh _ t v4 R.1 (fun i hi => .inl hi) u5).less (fun i hi => hi.imp (hK3 i) (fun h => h))⟩
          · have nG : ∀ j, j < 3 → ¬ Grew K w4 w5 (w.heap.size + j) := fun j hj h => by
              rcases h with h | h
              · exact nK j h
              · have := ZW.out; omega
            exact r5.kept ((((Kept.refl _ w5).setCell (p := ⟨w.heap.size, 0, none⟩) (nG 0 (by decide)) _).setCell (p := ⟨w.heap.size + 1 + 1, 0, none⟩) (nG 2 (by decide)) _).setCell (p := ⟨w.heap.size + 1 + 1, 1, none⟩) (nG 2 (by decide)) _)
          · have kk : Kept K w w5 := ((Kept.of_ext XX.out).trans (K4.out.mono hK3)).trans (Kept.of_ext x5)
            exact ((kk.setCell (p := ⟨w.heap.size, 0, none⟩) (nK 0) _).setCell (p := ⟨w.heap.size + 1 + 1, 0, none⟩) (nK 2) _).setCell (p := ⟨w.heap.size + 1 + 1, 1, none⟩) (nK 2) _
        obtain ⟨q1, q2, q3, q4, q5, q6, q7, q8⟩ := b3_cells B5
        obtain ⟨f1, f2, f3⟩ := b3_free B5
        obtain ⟨qa1, qa2, qa3, qa4, qa5, qa6, qa7, qa8⟩ := b3_cells RA
        obtain ⟨fa1, fa2, fa3⟩ := b3_free RA
        obtain ⟨qb1, qb2, qb3, qb4, qb5, qb6, qb7, qb8⟩ := b3_cells RB
        obtain ⟨fb1, fb2, fb3⟩ := b3_free RB
        obtain ⟨qc1, qc2, qc3, qc4, qc5, qc6, qc7, qc8⟩ := b3_cells RC
        have GC7 := hid qc7
        have GC8 := hid qc8
        clear RA RB RC B5 r5 x5 CC p1 p2 p3 p4 p5 p6 p7 p8 qc1 qc2 qc3 qc4 qc5 qc6 qc7 qc8
        generalize R.1.length = vn at *
        go_wp2_with fail
        have c7 := GC7.out
        have c8 := GC8.out
        refine bodyPost_ret (v := .tuple #[.agg #[.slice va vn vc, .int .i64 t], .bool true]) (by simp [results, Try.f9, go_sem, c7, c8]) rfl ?_
        obtain ⟨K', a1, a2, a3⟩ := FIN.out
        exact ⟨_, _, _, K', rfl, a1, a2, a3⟩
      · by_cases KN : kind = 4
        · -- turn
          subst KN
          have T := hid (lawTurn_any K3 b t 4 id tick N l _ W HW3.out (HM3.out.mono (by decide) (fun i _ hi => hK3 i hi)))
          obtain ⟨p1, p2, p3, p4, p5, p6, p7, p8⟩ := b3_cells BB.out
          go_enter Try.func9, Try.ntmps9
          go_wp2_with fail
          rw [← EW.out]
          refine T.out.mono ?_
          rintro e w4 ⟨mv, rest, rfl, u4, r4, k4, _⟩
          have B4 := BB.out.kept k4 (fun j hj => h3 j (by simpa [boxes3] using hj))
          have r5 := r4.off (B4 2 _ rfl)
          obtain ⟨va, vc, ev, _⟩ := r4.view
          subst ev
          obtain ⟨T2, eT2⟩ : ∃ T2, T2 = later t tick := ⟨_, rfl⟩
          rw [← eT2] at u4 ⊢
          clear eT2
          have RB := b3_z0 B4 (.slice va rest.length vc)
          have RC := b3_z1 RB (.int .i64 T2)
          have FIN : Hid (∃ K', (∀ i, K i → K' i) ∧ Both9 K' ((w4.setCell ⟨w.heap.size + 1 + 1, 0, none⟩ (.slice va rest.length vc)).setCell ⟨w.heap.size + 1 + 1, 1, none⟩ (.int .i64 T2)) b (.slice va rest.length vc) T2 rest ∧ Kept K w ((w4.setCell ⟨w.heap.size + 1 + 1, 0, none⟩ (.slice va rest.length vc)).setCell ⟨w.heap.size + 1 + 1, 1, none⟩ (.int .i64 T2))) := by
            refine ⟨fun i => K3 i ∧ i ≠ w.heap.size + 2, fun i hi => ⟨hK3 i hi, fun e => nK 2 (e ▸ hi)⟩, ⟨?_, ?_⟩, ?_⟩
            · obtain ⟨v4, u5⟩ := u4.un
              have hh : Holds9 K3 b w4 ((w4.setCell ⟨w.heap.size + 1 + 1, 0, none⟩ (.slice va rest.length vc)).setCell ⟨w.heap.size + 1 + 1, 1, none⟩ (.int .i64 T2)) := (Holds9.set _ (h3 2 (by decide)) 0 _).trans (Holds9.set _ (h3 2 (by decide)) 1 _)
              exact ⟨u4.1, u4.2.1, v4, (hh _ T2 v4 rest (fun i hi => hi) u5).less (L := fun i => K3 i ∧ i ≠ w.heap.size + 2) (fun i hi => hi.1)⟩
            · exact r5.kept (((Kept.refl _ w4).setCell (p := ⟨w.heap.size + 1 + 1, 0, none⟩) (fun h => h.2 rfl) _).setCell (p := ⟨w.heap.size + 1 + 1, 1, none⟩) (fun h => h.2 rfl) _)
            · have kk : Kept K w w4 := (Kept.of_ext XX.out).trans (k4.mono hK3)
              exact (kk.setCell (p := ⟨w.heap.size + 1 + 1, 0, none⟩) (nK 2) _).setCell (p := ⟨w.heap.size + 1 + 1, 1, none⟩) (nK 2) _
          obtain ⟨q1, q2, q3, q4, q5, q6, q7, q8⟩ := b3_cells B4
          obtain ⟨f1, f2, f3⟩ := b3_free B4
          obtain ⟨qb1, qb2, qb3, qb4, qb5, qb6, qb7, qb8⟩ := b3_cells RB
          obtain ⟨fb1, fb2, fb3⟩ := b3_free RB
          obtain ⟨qc1, qc2, qc3, qc4, qc5, qc6, qc7, qc8⟩ := b3_cells RC
          have GC7 := hid qc7
          have GC8 := hid qc8
          clear RB RC B4 r5 r4 u4 k4 T p1 p2 p3 p4 p5 p6 p7 p8 qc1 qc2 qc3 qc4 qc5 qc6 qc7 qc8
          generalize rest.length = vn at *
          go_wp2_with fail
          have c7 := GC7.out
          have c8 := GC8.out
          refine bodyPost_ret (v := .tuple #[.agg #[.slice va vn vc, .int .i64 T2], .bool true]) (by simp [results, Try.f9, go_sem, c7, c8]) rfl ?_
          obtain ⟨K', a1, a2, a3⟩ := FIN.out
          exact ⟨_, _, _, K', rfl, a1, a2, a3⟩
        · -- nothing
          obtain ⟨V, eV⟩ : ∃ V, V = ((w.alloc (.cells #[.slice ao l.length cm, .int .i64 t] 28)).alloc (.cells #[.int .i64 kind, .int .i64 id, .int .i64 tick, .int .i64 N] 30)).alloc (.cells #[.slice ao l.length cm, .int .i64 t] 28) := ⟨_, rfl⟩
          have XV : Ext w V := by rw [eV]; exact (((Ext.refl w).alloc _).alloc _).alloc _
          have FIN : Hid (Both9 K V b (.slice ao l.length cm) t l ∧ Kept K w V) := ⟨⟨HW.out.ext XV, HM.out.kept (Kept.of_ext XV)⟩, Kept.of_ext XV⟩
          have r2 : V.heap[w.heap.size + 1 + 1]? = some (.cells #[.slice ao l.length cm, .int .i64 t] 28 (0, 0)) := by rw [eV]; exact alloc3 w _ _ _ 2 _ rfl
          have c7 : V.cell? ⟨w.heap.size + 1 + 1, 0, none⟩ = some (.slice ao l.length cm) := by rw [cell_of_row _ _ 0 _ _ _ r2]; rfl
          have c8 : V.cell? ⟨w.heap.size + 1 + 1, 1, none⟩ = some (.int .i64 t) := by rw [cell_of_row _ _ 1 _ _ _ r2]; rfl
          have GC7 := hid c7
          have GC8 := hid c8
          have EV := hid eV
          clear eV XV r2 c7 c8
          generalize l.length = vn at *
          go_enter Try.func9, Try.ntmps9
          go_wp2_with fail
          rw [← EV.out]
          have c7 := GC7.out
          have c8 := GC8.out
          refine bodyPost_ret (v := .tuple #[.agg #[.slice ao vn cm, .int .i64 t], .bool true]) (by simp [results, Try.f9, go_sem, c7, c8]) rfl ?_
          exact ⟨_, _, _, K, rfl, fun i hi => hi, FIN.out.1, FIN.out.2⟩
end Go.Proofs.Ythokjkkhkcdceaa

/-
  The walk of WheelTurns: a turn tells just those that are due, each once.
-/
import Derived.Test.YthokjkkhkcdceaaWhlState
namespace Go.Proofs.Ythokjkkhkcdceaa.wheelTurns
set_option linter.unusedVariables false
set_option maxRecDepth 100000
open Go.RowKit Go.Lib Go.Shelf
attribute [local go_sem] Oper.semAt_some

theorem later_twice (t now : Int) : later (later t now) now = later t now := by unfold later; omega

set_option maxHeartbeats 4000000 in
theorem walk (v0 : Value) (os : Ops9) (now : Int) (w : World) (hv0 : RowK (fun _ => True) w v0 4 (ocells os)) :
    Calls Try.prog 4 #[v0, .int .i64 now] w fun e w' => e = .returned (.bool true) ∧ Ext w w' := by
  obtain ⟨ao, c, rfl, h1, h2, hc⟩ := ops_at hv0
  obtain ⟨w0, e0⟩ : ∃ w0, w0 = w.alloc (.cells #[.bool false] 4) := ⟨_, rfl⟩
  have X0 : Ext w w0 := by rw [e0]; exact (Ext.refl w).alloc _
  have z0 : w0.heap.size = w.heap.size + 1 := by rw [e0]; simp
  have R0 : Hid (w0.heap[w.heap.size]? = some (.cells #[.bool false] 4 (0, 0))) := by rw [e0]; exact heap_alloc_new w _
  have HC := hid hc
  unfold maxLen at h2
  have N := hid (new_any w0)
  have X1 : Hid (Ext w0 (w0.alloc (.cells newCells 50 (0, 0)))) := (Ext.refl w0).alloc _
  have SN := hid (St9.new w0 _ rfl)
  have AW := hid (fun W => awake9_any W)
  have X00 := hid X0
  have E0 := hid e0
  have Z0 := hid z0
  clear hc hv0 X0 e0 z0
  obtain ⟨m, em⟩ : ∃ m, m = os.length := ⟨_, rfl⟩
  rw [← em] at h1 HC
  rw [← em]
  clear em
  refine (callsIn_wide (n := 4)).1 (callsIn_of_wp_marks Try.func4 rfl trivial ?_ rfl)
  refine wpIn_wide.2 ?_
  simp only [Try.ntmps4, List.size_toArray, List.length_cons, List.length_nil, Nat.reduceAdd, Nat.reduceSub, Array.replicate_succ, Array.replicate_zero, List.push_toArray, List.append_toArray, List.nil_append, List.cons_append]
  by_cases q : 80 < m
  · have q' : (80 : Int) < (m : Int) := by omega
    go_wp2_with fail
    rw [← E0.out]
    refine N.out.mono ?_
    rintro e w1 ⟨rfl, rfl⟩
    generalize w0.alloc (.cells newCells 50 (0, 0)) = w1 at *
    clear SN
    go_wp2_with fail
    refine (AW.out _).mono ?_
    rintro e w2 ⟨rfl, x2⟩
    have r2 := (X1.out.trans x2).row R0.out
    have c2 : w2.cell? ⟨w.heap.size, 0, none⟩ = some (.bool false) := by rw [cell_of_row w2 _ 0 _ _ _ r2]; rfl
    have f2 : w2.frozen? ⟨w.heap.size, 0, none⟩ = false := frozen_of_row _ _ _ _ _ r2
    have g2 : Hid ((w2.setCell ⟨w.heap.size, 0, none⟩ (.bool true)).cell? ⟨w.heap.size, 0, none⟩ = some (.bool true)) := World.cell?_setCell_same' _ _ _ (by rw [c2]; rfl)
    have X2 := hid ((X00.out.trans (X1.out.trans x2)).setCell (p := ⟨w.heap.size, 0, none⟩) (by simp) (.bool true))
    clear x2 r2
    go_wp2_with fail
    refine ⟨.bool true, ?_, rfl, X2.out⟩
    have g6 := g2.out
    simp [results, Try.f4, go_sem, g6]
  · have q' : ¬ (80 : Int) < (m : Int) := by omega
    go_wp2_with fail
    rw [← E0.out]
    refine N.out.mono ?_
    rintro e w1 ⟨rfl, rfl⟩
    generalize w0.alloc (.cells newCells 50 (0, 0)) = w1 at *
    have XA : Hid (Ext w0 (w1.alloc (.cells #[.slice none 0 0, .int .i64 0] 28 (0, 0)))) := X1.out.alloc _
    obtain ⟨b, eb⟩ : ∃ b, b = w0.heap.size := ⟨_, rfl⟩
    have EB := hid eb
    rw [← eb] at SN
    rw [← eb]
    clear N eb
    go_wp2_with fail
    generalize w1.alloc (.cells #[.slice none 0 0, .int .i64 0] 28 (0, 0)) = wa at *
    go_loopw [8, 25] (fun _ i wr => ∃ (k : Nat) (K : Nat → Prop) (mv : Value) (t : Int) (l : Sts), k ≤ m ∧ i = .int .i64 (k : Int) ∧ Hid (St9 K wr b w1.heap.size mv t l ∧ (∀ i, i < b → K i) ∧ Ext w0 wr)) (fun _ i _ => (m - intOf i).toNat)
    case atStart => exact ⟨0, _, _, _, _, by omega, rfl, SN.out, fun i hi => .inl hi, XA.out⟩
    case round =>
      obtain ⟨k, K, mv, t, l, hk, rfl, S⟩ := hrel
      by_cases h : k < m
      · obtain ⟨g, o, rfl, _, x1, x2, x3, x4⟩ := HC.out k h
        obtain ⟨s1, s2, s3⟩ := S.out
        have y1 := s3.cell (X00.out.cell x1)
        have y2 := s3.cell (X00.out.cell x2)
        have y3 := s3.cell (X00.out.cell x3)
        have y4 := s3.cell (X00.out.cell x4)
        have gl := block_lt_of_cell y1
        simp only at gl
        have gn : g ≠ wr.heap.size := by omega
        have z1 := lt_of_row s1.2.2
        have hn : w1.heap.size ≠ wr.heap.size := by omega
        generalize (os.getD k (0, 0, 0, 0)).1 = o1 at *
        generalize (os.getD k (0, 0, 0, 0)).2.1 = o2 at *
        generalize (os.getD k (0, 0, 0, 0)).2.2.1 = o3 at *
        generalize (os.getD k (0, 0, 0, 0)).2.2.2 = o4 at *
        obtain ⟨W, eW⟩ : ∃ W, W = wr.alloc (.cells #[.int .i64 o1, .int .i64 o2, .int .i64 o3, .int .i64 o4] 30) := ⟨_, rfl⟩
        have XW : Ext wr W := by rw [eW]; exact (Ext.refl wr).alloc _
        have sW := s1.ext XW
        obtain ⟨p0, p1⟩ := s1.cells
        have ST := hid (lawStep_any K b t o1 o2 o3 o4 l mv W sW.1)
        have SM := hid sW
        have EW := hid eW
        have X3 := hid (s3.trans XW)
        have KB := hid s2
        obtain ⟨ma, mn, mc, em2, _⟩ := s1.1.2
        subst em2
        have i1 : (k : Int) < (m : Int) := by omega
        have i2 : (0 : Int) ≤ (k : Int) := by omega
        clear S s1 s2 s3 x1 x2 x3 x4 sW XW eW HC
        go_wp2_with fail
        rw [← EW.out]
        refine ST.out.mono ?_
        rintro e w2 ⟨mv2, t2, l2, K2, rfl, hK2, b2, k2⟩
        obtain ⟨T1, T2, a1, a2, a3, a4, a5⟩ := SM.out.store k2 hK2 b2
        obtain ⟨na, nn, nc, en2, _⟩ := b2.2
        subst en2
        have ENDS : Hid (∃ (K : Nat → Prop) (mv : Value) (t : Int) (l : Sts), St9 K ((w2.setCell ⟨w1.heap.size, 0, none⟩ (.slice na nn nc)).setCell ⟨w1.heap.size, 1, none⟩ (.int .i64 t2)) b w1.heap.size mv t l ∧ (∀ i, i < b → K i) ∧ Ext w0 ((w2.setCell ⟨w1.heap.size, 0, none⟩ (.slice na nn nc)).setCell ⟨w1.heap.size, 1, none⟩ (.int .i64 t2))) := by
          have hb := EB.out
          have hx := X1.out.size
          exact ⟨K2, _, t2, l2, T1, fun i hi => hK2 i (KB.out i hi), Below.trans X3.out (T2.below X3.out.size (fun i hi => ⟨KB.out i (by omega), by omega⟩))⟩
        clear T1 T2 ST SM b2 k2
        go_wp2_with fail
        go_roundw
        case rel =>
          obtain ⟨K', mv', t', l', hh⟩ := ENDS.out
          exact ⟨k + 1, K', mv', t', l', by omega, by go_num, hh⟩
        case measure => simp [intOf]; omega
      · obtain rfl : k = m := by omega
        obtain ⟨w5, e5⟩ : ∃ w5, w5 = wr := ⟨_, rfl⟩
        subst e5
        obtain ⟨s1, s2, s3⟩ := S.out
        have T := hid (lawTurn_any K b t 0 0 now 0 l mv w5 s1.1.1 s1.1.2)
        have S1 := hid s1
        have KB := hid s2
        have X5 := hid s3
        obtain ⟨p0, p1⟩ := s1.cells
        obtain ⟨ma, mn, mc, em2, _⟩ := s1.1.2
        subst em2
        clear S s1 s2 s3 HC
        go_wp2_with fail
        refine T.out.mono ?_
        rintro e w6 ⟨mv2, l2, rfl, wk6, rk6, k6, due⟩
        have DUE := hid (due (Int.le_refl 0))
        obtain ⟨T1, T2, a1, a2, a3, a4, a5⟩ := S1.out.store k6 (fun i hi => hi) ⟨wk6, rk6⟩
        obtain ⟨na, nn, nc, en2, _⟩ := rk6
        subst en2
        obtain ⟨V, eV⟩ : ∃ V, V = (w6.setCell ⟨w1.heap.size, 0, none⟩ (.slice na nn nc)).setCell ⟨w1.heap.size, 1, none⟩ (.int .i64 (later t now)) := ⟨_, rfl⟩
        rw [← eV] at T1 T2
        have XV : Hid (Ext w0 V) := by
          have hb := EB.out
          have hx := X1.out.size
          exact Below.trans X5.out (T2.below X5.out.size (fun i hi => ⟨KB.out i (by omega), by omega⟩))
        obtain ⟨v2, u2⟩ := T1.1.1.un
        have SA := hid (same_any K b (later t now) v2 l2 (.slice na nn nc) V u2.1 T1.1.1.1 T1.1.2)
        obtain ⟨c0, c1⟩ := T1.cells
        have TA := hid (fun V2 (X : Ext V V2) => turn_any K b (later t now) now l2 V2 (T1.1.1.ext X))
        have EV := hid eV
        clear T T1 T2 due wk6 k6 u2 eV S1
        go_wp2_with fail
        rw [← EV.out]
        refine SA.out.mono ?_
        rintro e w7 ⟨rfl, x7⟩
        have T7 := TA.out w7 x7
        rw [later_twice] at T7
        have TT := hid T7
        have X7 := hid (XV.out.trans x7)
        clear SA TA T7 x7 c0 c1 a1 a2 a3 a4 a5
        obtain ⟨t2, et⟩ : ∃ t2, t2 = later t now := ⟨_, rfl⟩
        rw [← et] at TT DUE
        go_wp2_with fail
        refine TT.out.mono ?_
        rintro e w8 ⟨rfl, cb, z8, wk8, k8⟩
        have CB := hid cb
        have WK8 := hid wk8
        have X8 : Hid (Ext w0 w8) := by
          have hb := EB.out
          have hx := X1.out.size
          exact Below.trans X7.out (k8.below X7.out.size (fun i hi => KB.out i (by omega)))
        have hb := EB.out
        have hz := Z0.out
        have hx7 := X7.out.size
        clear TT cb wk8 k8
        go_wp2_with fail
        refine range9s 56 57 (Bs := w7.heap.size) (b := b) (t := t2) (l := l2) rfl CB.out (.inr ⟨Nat.le_refl _, by omega⟩) WK8.out (fun pre W => pre = [] ∧ Kept (fun i => i < b) w8 W) (fun _ _ _ => False) ?hI (fun _ _ _ _ h _ => h) ⟨rfl, Kept.refl _ _⟩
          (fun tm x => (tm.setIfInBounds 56 (.int .i64 x.1)).setIfInBounds 57 (.int .i64 x.2)) ?assign ?body ?done ?stop
        case hI =>
          rintro pre A B ⟨e1, h2⟩ k9
          exact ⟨e1, h2.trans (k9.mono (fun i hi => .inl (KB.out i hi)))⟩
        case assign =>
          intro L x y A Kc hK
          simp only [List.setIfInBounds_toArray, List.set_cons_zero, List.set_cons_succ] at hK ⊢
          gi_wp2
          exact hK
        case body =>
          rintro L pre x y A ⟨rfl, h2⟩ hbs hp hy
          obtain ⟨r, er⟩ := hp
          have := DUE.out (x, y) r (by rw [← er]; rfl)
          simp only at this
          omega
        case stop => rintro D c pre rest A hD el hf; exact hf.elim
        case done =>
          rintro D pre rest A hD el hdue ⟨rfl, h2⟩ hwk hdf
          have XA9 : Ext w0 A := Below.trans X8.out (h2.below X8.out.size (fun i hi => by omega))
          have HDF := hid hdf
          have XA99 := hid XA9
          clear h2 hwk hdf XA9 hdue el
          go_wp2_with fail
          refine (AW.out _).mono ?_
          rintro e w9 ⟨rfl, x9⟩
          have r9 := (XA99.out.trans x9).row R0.out
          have c9 : w9.cell? ⟨w.heap.size, 0, none⟩ = some (.bool false) := by rw [cell_of_row w9 _ 0 _ _ _ r9]; rfl
          have f9 : w9.frozen? ⟨w.heap.size, 0, none⟩ = false := frozen_of_row _ _ _ _ _ r9
          have GC : Hid ((w9.setCell ⟨w.heap.size, 0, none⟩ (.bool true)).cell? ⟨w.heap.size, 0, none⟩ = some (.bool true)) := World.cell?_setCell_same' _ _ _ (by rw [c9]; rfl)
          have dlt := lt_of_row HDF.out
          have hDw : w.heap.size ≠ D := by omega
          have HD9 : Hid ((w9.setCell ⟨w.heap.size, 0, none⟩ (.bool true)).heap[D]? = some (.deferred (some []))) := by
            rw [heap_setCell_other _ _ _ _ (fun e => hDw e.symm)]
            exact x9.row HDF.out
          have X9 : Hid (Ext w (w9.setCell ⟨w.heap.size, 0, none⟩ (.bool true))) := ((X00.out.trans XA99.out).trans x9).setCell (p := ⟨w.heap.size, 0, none⟩) (by simp) (.bool true)
          clear x9 r9
          go_wp2_with fail
          generalize w9.setCell ⟨w.heap.size, 0, none⟩ (.bool true) = V9 at *
          have hKV := HD9.out
          have hc5 := cell_kept GC.out (grownBy_putObj' V9 D (.deferred none)) (fun r e => by cases e; exact ⟨_, hKV, rfl⟩)
          refine ⟨by simp, .inl ⟨_, _, rfl, run_takeDeferred hKV, ?_⟩⟩
          refine ⟨.bool true, ?_, rfl, ?_⟩
          · simp [results, Try.f4, go_sem, hc5]
          · exact ((Kept.of_ext (K := fun i => i < w.heap.size) X9.out).trans (kept_put V9 (by show ¬ D < w.heap.size; omega) _)).below (Nat.le_refl _) (fun i hi => hi)
end Go.Proofs.Ythokjkkhkcdceaa.wheelTurns

/-
  The walk of awake.
-/
import Derived.Test.YthokjkkhkcdceaaWhlTurn
namespace Go.Proofs.Ythokjkkhkcdceaa
set_option linter.unusedVariables false
set_option maxRecDepth 100000
open Go.RowKit Go.Lib Go.Shelf
attribute [local go_sem] Oper.semAt_some

/-- what awake's loop has seen -/
def Seen9 (w : World) (hb : Nat) (pre : Sts) (W : World) : Prop := W.heap[hb]? = some (.cells #[.int .i64 (pre.getLastD (0, 0)).1] 3 (0, 0)) ∧ Kept (fun i => i < w.heap.size) w W ∧ ∀ p ∈ pre, p.2 ≤ 4

set_option maxHeartbeats 2000000 in
theorem awake9_any (w : World) : Calls Try.prog 8 #[] w fun e w' => e = .returned (.bool true) ∧ Ext w w' := by
  have X1 : Hid (Ext w (w.alloc (.cells newCells 50 (0, 0)))) := (Ext.refl w).alloc _
  have N := hid (new_any w)
  have NW := hid (new_wheel w)
  refine (callsIn_wide (n := 4)).1 (callsIn_of_wp_marks Try.func8 rfl trivial ?_ rfl)
  refine wpIn_wide.2 ?_
  simp only [Try.ntmps8, List.size_toArray, List.length_nil, Nat.reduceSub, Array.replicate_succ, Array.replicate_zero, List.push_toArray, List.append_toArray, List.nil_append, List.cons_append]
  go_wp2_with fail
  refine N.out.mono ?_
  rintro e w1 ⟨rfl, rfl⟩
  generalize w.alloc (.cells newCells 50 (0, 0)) = w1 at *
  obtain ⟨b, eb⟩ : ∃ b, b = w.heap.size := ⟨_, rfl⟩
  rw [← eb]
  rw [← eb] at NW
  have EB := hid eb
  have S1 := set_any _ b 0 [] 1 5 w1 NW.out
  rw [show callv [] 1 1 5 = ([(1, 5)], 0) from rfl] at S1
  have SS1 := hid S1
  have BE := hid (show b ≤ w.heap.size by omega)
  clear S1 N eb NW
  go_wp2_with fail
  refine SS1.out.mono ?_
  rintro e w2 ⟨rfl, u2, k2⟩
  have S2 := set_any _ b 0 [(1, 5)] 2 3 w2 u2
  rw [show callv [(1, 5)] 1 2 3 = ([(2, 3), (1, 5)], 0) from rfl] at S2
  have SS2 := hid S2
  have K2 := hid k2
  clear S2 u2 k2 SS1
  go_wp2_with fail
  refine SS2.out.mono ?_
  rintro e w3 ⟨rfl, u3, k3⟩
  have S3 := set_any _ b 0 [(2, 3), (1, 5)] 2 9 w3 u3
  rw [show callv [(2, 3), (1, 5)] 1 2 9 = ([(2, 3), (1, 5)], 13) from rfl] at S3
  have SS3 := hid S3
  have K3 := hid (K2.out.trans k3)
  clear S3 u3 k3 SS2 K2
  go_wp2_with fail
  refine SS3.out.mono ?_
  rintro e w4 ⟨rfl, u4, k4⟩
  have S4 := stop_any _ b 0 [(2, 3), (1, 5)] 7 0 w4 u4
  rw [show callv [(2, 3), (1, 5)] 3 7 0 = ([(2, 3), (1, 5)], 14) from rfl] at S4
  have SS4 := hid S4
  have K4 := hid (K3.out.trans k4)
  clear S4 u4 k4 SS3 K3
  go_wp2_with fail
  refine SS4.out.mono ?_
  rintro e w5 ⟨rfl, u5, k5⟩
  have K5 := hid (K4.out.trans k5)
  obtain ⟨W, eW⟩ : ∃ W, W = w5.alloc (.cells #[.int .i64 0] 3) := ⟨_, rfl⟩
  have XW : Ext w5 W := by rw [eW]; exact (Ext.refl w5).alloc _
  have zW : W.heap.size = w5.heap.size + 1 := by rw [eW]; simp
  have R0 : W.heap[w5.heap.size]? = some (.cells #[.int .i64 0] 3 (0, 0)) := by rw [eW]; exact heap_alloc_new w5 _
  have T := turn_any _ b 0 4 [(2, 3), (1, 5)] W (u5.more XW)
  rw [show later 0 4 = 4 from rfl, zW] at T
  have TT := hid T
  have K6 := hid (K5.out.trans (Kept.of_ext XW))
  have RR := hid R0
  have EW := hid eW
  have ZB := hid (show w.heap.size ≤ w5.heap.size from Nat.le_trans X1.out.size K5.out.size)
  clear u5 k5 SS4 K4 T XW R0 eW
  have ZW := hid zW
  clear zW
  go_wp2_with fail
  rw [← EW.out]
  refine TT.out.mono ?_
  rintro e w6 ⟨rfl, cb, z6, wk6, k6⟩
  have CB := hid cb
  have WK6 := hid wk6
  have G0 : Hid (Seen9 w w5.heap.size [] w6) := by
    refine ⟨k6.row (.inr ⟨Nat.le_refl _, by omega⟩) RR.out, ?_, fun p hp => by cases hp⟩
    have h1 : Kept (fun i => i < b) w1 w6 := K6.out.trans (k6.mono (fun i hi => .inl hi))
    exact (Kept.of_ext X1.out).trans (h1.mono (fun i hi => by have := EB.out; omega))
  clear TT cb wk6 k6 K6 RR EW
  go_wp2_with fail
  refine range9s 29 30 (Bs := w5.heap.size + 1) (b := b) (t := 4) (l := [(2, 3), (1, 5)]) rfl CB.out (.inr ⟨Nat.le_refl _, by omega⟩) WK6.out (Seen9 w w5.heap.size) (fun _ _ _ => False) ?hI (fun _ _ _ _ h _ => h) G0.out
    (fun tm x => ((tm.setIfInBounds 29 (.int .i64 x.1)).setIfInBounds 30 (.int .i64 x.2)).setIfInBounds 3 (.int .i64 x.1)) ?assign ?body ?done ?stop
  case hI =>
    rintro pre A B ⟨h1, h2, h3⟩ k
    refine ⟨k.row (.inl (.inr ⟨Nat.le_refl _, by omega⟩)) h1, h2.trans (k.mono (fun i hi => ?_)), h3⟩
    have := EB.out
    exact .inl (.inl (by omega))
  case assign =>
    intro L x y A Kc hK
    simp only [List.setIfInBounds_toArray, List.set_cons_zero, List.set_cons_succ] at hK ⊢
    gi_wp2
    exact hK
  case body =>
    rintro L pre x y A ⟨h1, h2, h3⟩ hbs hp hy
    simp only [List.setIfInBounds_toArray, List.set_cons_zero, List.set_cons_succ]
    have c0 : A.cell? ⟨w5.heap.size, 0, none⟩ = some (.int .i64 (pre.getLastD (0, 0)).1) := by rw [cell_of_row _ _ 0 _ _ _ h1]; rfl
    have f0 : A.frozen? ⟨w5.heap.size, 0, none⟩ = false := frozen_of_row _ _ _ _ _ h1
    have zb := ZB.out
    have P4 : Hid (KeepsOthers A (A.setCell ⟨w5.heap.size, 0, none⟩ (.int .i64 x)) ∧ Holds9 (fun i => (i < b ∨ w5.heap.size ≤ i ∧ i < w5.heap.size + 1) ∨ w5.heap.size + 1 ≤ i ∧ i < w5.heap.size + 1 + 1) b A (A.setCell ⟨w5.heap.size, 0, none⟩ (.int .i64 x)) ∧ Seen9 w w5.heap.size (pre ++ [(x, y)]) (A.setCell ⟨w5.heap.size, 0, none⟩ (.int .i64 x)) ∧ (A.setCell ⟨w5.heap.size, 0, none⟩ (.int .i64 x)).cell? ⟨w5.heap.size + 1, 0, none⟩ = some (.pointer (some ⟨b, 0, none⟩))) := by
      refine ⟨KeepsOthers.setCell _ _ _, Holds9.set _ (.inl (.inr ⟨Nat.le_refl _, by omega⟩)) 0 _, ⟨?_, ?_, fun p hp2 => ?_⟩, ?_⟩
      · rw [setCell_eq_setRow _ _ _ _ _ _ _ h1]
        have : ((pre ++ [(x, y)]).getLastD (0, 0)).1 = x := by simp
        rw [this]
        exact setRow_heap _ _ _ _ _ _ h1
      · exact h2.setCell (p := ⟨w5.heap.size, 0, none⟩) (by show ¬ w5.heap.size < w.heap.size; omega) _
      · rcases List.mem_append.1 hp2 with q | q
        · exact h3 p q
        · simp at q; rw [q]; exact hy
      · rw [World.cell?_setCell_far _ _ _ _ (by show w5.heap.size ≠ w5.heap.size + 1; omega)]; exact hbs
    clear h1 h2 h3 hbs hp
    gi_wp2
    exact P4.out
  case stop => rintro D c pre rest A hD el hf; exact hf.elim
  case done =>
    rintro D pre rest A hD el hdue ⟨h1, h2, h3⟩ hwk hdf
    have hpr : pre = [(2, 3)] ∧ rest = [(1, 5)] := by
      match pre, el with
      | [], el =>
        have := hdue (2, 3) [(1, 5)] el.symm
        simp at this
      | [p], el => simp at el; exact ⟨by rw [el.1], el.2.symm⟩
      | [p, q], el =>
        simp at el
        have := h3 q (by simp)
        rw [← el.2.1] at this
        simp at this
      | p :: q :: r :: s, el => simp at el
    obtain ⟨rfl, rfl⟩ := hpr
    have c0 : A.cell? ⟨w5.heap.size, 0, none⟩ = some (.int .i64 2) := by rw [cell_of_row _ _ 0 _ _ _ h1]; rfl
    obtain ⟨v, hv⟩ := hwk.un
    have LN := hid (len_any b 4 v [(1, 5)] A hv.1 (by simp))
    have NW := hid (now_any b 4 v [(1, 5)] A hv.1)
    have e1 : (([(1, 5)] : Sts).length : Int) = 1 := rfl
    rw [e1] at LN
    have HD := hid hdf
    have HK := hid h2
    have dw : w.heap.size ≤ D := by have := ZB.out; omega
    clear h1 h2 h3 hwk hdf hv el hdue e1
    go_wp2_with fail
    refine LN.out.mono ?_
    rintro e A2 ⟨rfl, rfl⟩
    clear LN
    go_wp2_with fail
    refine NW.out.mono ?_
    rintro e A2 ⟨rfl, rfl⟩
    clear NW
    go_wp2_with fail
    refine ⟨by simp, .inl ⟨_, _, rfl, run_takeDeferred HD.out, ?_⟩⟩
    refine ⟨.bool true, by simp [results, Try.f8, go_sem], rfl, ?_⟩
    exact (HK.out.trans (kept_put A2 (by show ¬ D < w.heap.size; omega) _)).below (Nat.le_refl _) (fun i hi => hi)
end Go.Proofs.Ythokjkkhkcdceaa

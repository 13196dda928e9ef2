/-
  The walk of SuppressRises: a greater share never waits less.
-/
import Derived.Test.YtcjohgfmdnimjaaDoorSupPlay
namespace Go.Proofs.YtcjohgfmdnimjaaDoor.suppressRises
set_option linter.unusedVariables false
set_option maxRecDepth 100000
open Go.RowKit Go.Lib Go.Proofs.YtcjohgfmdnimjaaDoor.Sup

set_option maxHeartbeats 4000000 in
theorem walk0 (a b m n : Int) (w : World) (H : Steps w) (a0 : 0 ≤ a) (a1 : a < 18446744073709551616) (b0 : 0 ≤ b) (b1 : b < 18446744073709551616) : Calls Tryd.prog 4 #[.agg #[.int .u64 a, .int .u64 b, .int .i64 m, .int .i64 n]] w fun e w' => e = .returned (.bool true) ∧ Ext w w' := by
  have AW : Hid (∀ V, Ext w V → Calls Tryd.prog 9 #[] V fun e w' => e = .returned (.bool true) ∧ Ext V w') := fun V x => awake_any V (H.ext x)
  obtain ⟨lo, elo⟩ : ∃ lo, min a b = lo := ⟨_, rfl⟩
  obtain ⟨hi, ehi⟩ : ∃ hi, max a b = hi := ⟨_, rfl⟩
  have l0 : 0 ≤ lo := by omega
  have l1 : lo ≤ hi := by omega
  have l2 : hi < 18446744073709551616 := by omega
  obtain ⟨W1, e1⟩ : ∃ W1, W1 = w.alloc (.cells #[.int .u64 a, .int .u64 b, .int .i64 m, .int .i64 n] 31) := ⟨_, rfl⟩
  have r1 : W1.heap[w.heap.size]? = some (.cells #[.int .u64 a, .int .u64 b, .int .i64 m, .int .i64 n] 31 (0, 0)) := by rw [e1]; exact heap_alloc_new w _
  have X1 : Hid (Ext w W1) := by show Ext w W1; rw [e1]; exact (Ext.refl w).alloc _
  have y0 : W1.cell? ⟨w.heap.size, 0, none⟩ = some (.int .u64 a) := by rw [cell_of_row _ _ 0 _ _ _ r1]; rfl
  have y1 : W1.cell? ⟨w.heap.size, 1, none⟩ = some (.int .u64 b) := by rw [cell_of_row _ _ 1 _ _ _ r1]; rfl
  have y2 : W1.cell? ⟨w.heap.size, 2, none⟩ = some (.int .i64 m) := by rw [cell_of_row _ _ 2 _ _ _ r1]; rfl
  have y3 : W1.cell? ⟨w.heap.size, 3, none⟩ = some (.int .i64 n) := by rw [cell_of_row _ _ 3 _ _ _ r1]; rfl
  obtain ⟨p, ep⟩ : ∃ p, p = w.heap.size := ⟨_, rfl⟩
  rw [← ep] at y0 y1 y2 y3
  have E1 := hid e1
  have EP := hid ep
  have HW : Hid (∀ k, Steps (W1.drewN k)) := fun k => (H.ext X1.out).drewN k
  clear e1 ep r1
  by_cases okl : Wok lo m n
  · by_cases okh : Wok hi m n
    · have WL := hid (fun V (K : Steps V) => wait_ok lo m n V K okl)
      have WH := hid (fun V (K : Steps V) => wait_ok hi m n V K okh)
      have RS := wt_rises okl okh l1
      obtain ⟨x, hx⟩ : ∃ x, x = wt lo m n := ⟨_, rfl⟩
      obtain ⟨y, hy⟩ : ∃ y, y = wt hi m n := ⟨_, rfl⟩
      rw [← hx] at WL RS
      rw [← hy] at WH RS
      clear hx hy okl okh l0 l1 l2
      go_enter Tryd.func4, Tryd.ntmps4
      go_wp2_with (rw [← EP.out, ← E1.out])
      go_quiet (fail)
      go_wp2_with fail
      refine (WL.out _ (HW.out _)).mono ?_
      rintro e w1 ⟨rfl, k1, rfl⟩
      go_wp2_with fail
      refine (WH.out _ (HW.out _)).mono ?_
      rintro e w2 ⟨rfl, k2, rfl⟩
      go_wp2_with fail
      refine (AW.out _ (X1.out.drewN _)).mono ?_
      rintro e w3 ⟨rfl, x3⟩
      have XF := hid ((X1.out.drewN _).trans x3)
      clear x3
      go_wp2_with fail
      go_ret
      exact ⟨rfl, XF.out⟩
    · have WL := hid (fun V (K : Steps V) => wait_ok lo m n V K okl)
      have WH := hid (fun V => wait_bad hi m n V (by omega) l2 okh)
      obtain ⟨x, hx⟩ : ∃ x, x = wt lo m n := ⟨_, rfl⟩
      rw [← hx] at WL
      clear hx okl okh l0 l1 l2
      go_enter Tryd.func4, Tryd.ntmps4
      go_wp2_with (rw [← EP.out, ← E1.out])
      go_quiet (fail)
      go_wp2_with fail
      refine (WL.out _ (HW.out _)).mono ?_
      rintro e w1 ⟨rfl, k1, rfl⟩
      go_wp2_with fail
      refine (WH.out _).mono ?_
      rintro e w2 ⟨rfl, ew⟩
      obtain rfl := ew
      go_wp2_with fail
      refine (AW.out _ (X1.out.drewN _)).mono ?_
      rintro e w3 ⟨rfl, x3⟩
      have XF := hid ((X1.out.drewN _).trans x3)
      clear x3
      go_wp2_with fail
      go_ret
      exact ⟨rfl, XF.out⟩
  · have WL := hid (fun V => wait_bad lo m n V l0 (by omega) okl)
    by_cases okh : Wok hi m n
    · have WH := hid (fun V (K : Steps V) => wait_ok hi m n V K okh)
      obtain ⟨y, hy⟩ : ∃ y, y = wt hi m n := ⟨_, rfl⟩
      rw [← hy] at WH
      clear hy okl okh l0 l1 l2
      go_enter Tryd.func4, Tryd.ntmps4
      go_wp2_with (rw [← EP.out, ← E1.out])
      go_quiet (fail)
      go_wp2_with fail
      refine (WL.out _).mono ?_
      rintro e w2 ⟨rfl, ew⟩
      obtain rfl := ew
      go_wp2_with fail
      refine (WH.out _ (HW.out _)).mono ?_
      rintro e w2 ⟨rfl, k2, rfl⟩
      go_wp2_with fail
      refine (AW.out _ (X1.out.drewN _)).mono ?_
      rintro e w3 ⟨rfl, x3⟩
      have XF := hid ((X1.out.drewN _).trans x3)
      clear x3
      go_wp2_with fail
      go_ret
      exact ⟨rfl, XF.out⟩
    · have WH := hid (fun V => wait_bad hi m n V (by omega) l2 okh)
      clear okl okh l0 l1 l2
      go_enter Tryd.func4, Tryd.ntmps4
      go_wp2_with (rw [← EP.out, ← E1.out])
      go_quiet (fail)
      go_wp2_with fail
      refine (WL.out _).mono ?_
      rintro e w2 ⟨rfl, ew⟩
      obtain rfl := ew
      go_wp2_with fail
      refine (WH.out _).mono ?_
      rintro e w2 ⟨rfl, ew⟩
      obtain rfl := ew
      go_wp2_with fail
      refine (AW.out _ (X1.out.drewN _)).mono ?_
      rintro e w3 ⟨rfl, x3⟩
      have XF := hid ((X1.out.drewN _).trans x3)
      clear x3
      go_wp2_with fail
      go_ret
      exact ⟨rfl, XF.out⟩

theorem walk (v0 : Value) (z : Int × Int × Int × Int) (w : World) (H : Steps w) (hz : SharesIn v0 z) : Calls Tryd.prog 4 #[v0] w fun e w' => e = .returned (.bool true) ∧ Ext w w' := by
  obtain ⟨rfl, ⟨a0, a1⟩, b0, b1⟩ := hz
  exact walk0 z.1 z.2.1 z.2.2.1 z.2.2.2 w H a0 a1 b0 b1
end Go.Proofs.YtcjohgfmdnimjaaDoor.suppressRises

/-
  The fixed answer of layer 4's statements is given.
-/
import Derived.Test.YtjdcccienbahjaaMeterRef
namespace Go.Proofs.Ytjdcccienbahjaa
set_option linter.unusedVariables false
open Go.RowKit

theorem p1 : played [] 1 10 = [(1, 10)] := by decide
theorem p2 : played [(1, 10)] 3 20 = [(1, 10), (3, 20)] := by decide
theorem p3 : played [(1, 10), (3, 20)] 2 1 = [(1, 10), (3, 20)] := by decide
theorem q1 : toldErr [] 1 10 = 0 := by decide
theorem q2 : toldErr [(1, 10)] 3 20 = 0 := by decide
theorem q3 : toldErr [(1, 10), (3, 20)] 2 1 = 23 := by decide

/-- what that meter tells -/
theorem sumAt (H : Nat) (t r : Int) (W : World) (M : MeterAt H W H 4 [(1, 10), (3, 20)]) (h3 : -61 ≤ t) (h4 : t ≤ 100) (hr : tally [(1, 10), (3, 20)] (t - 4) t = r) :
    Calls Try.prog 11 #[.pointer (some ⟨H, 0, none⟩), .int .i64 t] W fun e w' => e = .returned (.int .i64 r) ∧ Ext W w' := by
  rw [← hr]
  exact sum_any H H 4 t _ W M (by decide) (by have : lastOf [(1, 10), (3, 20)] = 3 := by decide
                                              omega) (by omega)

set_option maxHeartbeats 4000000 in
theorem awake4_any (w : World) : Calls Try.prog 7 #[] w fun e w' => e = .returned (.bool true) ∧ Ext w w' := by
  obtain ⟨R, eR⟩ : ∃ R, R = fratio 30 4 := ⟨_, rfl⟩
  have M0 := hid (MeterAt.made w 4 (by omega) (by omega))
  have X0 : Hid (Ext w (w.alloc (.cells #[.int .i64 4, .int .i64 0, .slice none 0 0] 49 (0, 0)))) := (Ext.refl w).alloc _
  obtain ⟨H, eH⟩ : ∃ H, H = w.heap.size := ⟨_, rfl⟩
  rw [← eH] at M0
  have EH := hid eH
  go_enter Try.func7, Try.ntmps7
  go_wp2_with fail
  refine (new_any 4 w (by omega) (by omega)).mono ?_
  rintro e w1 ⟨rfl, rfl⟩
  rw [← eH]
  clear eH
  obtain ⟨w1, e1⟩ : ∃ w1, w1 = w.alloc (.cells #[.int .i64 4, .int .i64 0, .slice none 0 0] 49 (0, 0)) := ⟨_, rfl⟩
  rw [← e1] at M0 X0
  rw [← e1]
  clear e1
  go_wp2_with fail
  refine (add_any' H H 4 1 10 [] w1 M0.out (by decide)).mono ?_
  rw [p1, q1]
  rintro e w2 ⟨rfl, m2, l2, _⟩
  have M2 := hid m2
  have L2 := hid l2
  clear m2 l2
  go_wp2_with fail
  refine (add_any' H H 4 3 20 _ w2 M2.out (by decide)).mono ?_
  rw [p2, q2]
  rintro e w3 ⟨rfl, m2, l2, _⟩
  have M3 := hid m2
  have L3 := hid l2
  clear m2 l2
  go_wp2_with fail
  refine (add_any' H H 4 2 1 _ w3 M3.out (by decide)).mono ?_
  rw [p3, q3]
  rintro e w4 ⟨rfl, m2, l2, _⟩
  have M4 := hid m2
  have L4 := hid l2
  clear m2 l2
  go_wp2_with fail
  refine (new_none 0 w4 (.inl (by omega))).mono ?_
  rintro e w5 ⟨rfl, rfl⟩
  go_wp2_with fail
  refine (sumAt H 3 30 _ M4.out (by omega) (by omega) (by decide)).mono ?_
  rintro e w6 ⟨rfl, x⟩
  have X6 := hid x
  clear x
  go_wp2_with fail
  refine (sumAt H 5 20 _ (M4.out.ext X6.out) (by omega) (by omega) (by decide)).mono ?_
  rintro e w7 ⟨rfl, x⟩
  have X7 := hid (X6.out.trans x)
  clear x
  go_wp2_with fail
  refine (sumAt H 7 0 _ (M4.out.ext X7.out) (by omega) (by omega) (by decide)).mono ?_
  rintro e w8 ⟨rfl, x⟩
  have X8 := hid (X7.out.trans x)
  clear x
  have rt := rate_any H H 4 3 [(1, 10), (3, 20)] w8 (M4.out.ext X8.out) (by decide) (by decide) (by omega)
  rw [show tally [(1, 10), (3, 20)] (3 - 4) 3 = 30 by decide, ← eR] at rt
  have RT := hid rt
  clear rt
  have rr := fun W => ratio_any 30 4 (by omega) (by omega) (by omega) (by omega) W
  rw [← eR] at rr
  have RR := hid rr
  clear rr eR
  go_wp2_with fail
  refine RT.out.mono ?_
  rintro e w9 ⟨rfl, x⟩
  have X9 := hid (X8.out.trans x)
  clear x
  go_wp2_with fail
  refine (RR.out w9).mono ?_
  rintro e w10 ⟨rfl, n, rfl⟩
  have FIN : Hid (Ext w (w9.drewN n)) := by
    have h1 := L2.out.trans (L3.out.trans L4.out)
    have h2 := X9.out.drewN n
    have h0 := X0.out
    have h3 : Below H w5 (w9.drewN n) := Below.mono h2 M4.out.size
    rw [EH.out] at h1 h3
    exact Below.trans h0 (Below.trans h1 h3)
  clear L2 L3 L4 X6 X7 X8 X9 X0 M0 M2 M3 M4 RT RR EH
  go_wp2
  go_ret
  exact ⟨rfl, FIN⟩
end Go.Proofs.Ytjdcccienbahjaa

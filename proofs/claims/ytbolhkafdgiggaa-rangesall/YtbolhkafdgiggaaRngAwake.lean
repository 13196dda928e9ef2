/-
  The walk of awake; numbers put in, as far as the fixed answer asks.
-/
import Derived.Test.YtbolhkafdgiggaaRngStep
import Derived.Test.YtbolhkafdgiggaaPairEq
namespace Go.Proofs.Ytbolhkafdgiggaa
set_option linter.unusedVariables false
set_option maxRecDepth 100000
open Go.RowKit Go.Lib

theorem good1 : Good [(0, 3)] := ⟨by simp, by simp⟩
theorem good2 : Good [(0, 3), (5, 8)] := ⟨by simp, by simp⟩
theorem good3 : Good [(0, 8)] := ⟨by simp, by simp⟩
theorem has1 (i : Int) : has [(0, 3)] i = (has [] i || (decide (0 ≤ i) && decide (i < 3))) := by simp [has, inP]
theorem has2 (i : Int) : has [(0, 3), (5, 8)] i = (has [(0, 3)] i || (decide (5 ≤ i) && decide (i < 8))) := by simp [has, inP]
theorem has3 (i : Int) : has [(0, 8)] i = (has [(0, 3), (5, 8)] i || (decide (3 ≤ i) && decide (i < 5))) := by
  rw [Bool.eq_iff_iff]
  simp [has, inP]
  omega

theorem SetK.kept_below {B : Nat} {w w' : World} (hB : B ≤ w.heap.size) (h : Kept (fun i => i < B) w w') : Below B w w' := h.below hB (fun i hi => hi)

set_option maxHeartbeats 4000000 in
theorem awake8_any (w : World) : Calls Try.prog 8 #[] w fun e w' => e = .returned (.bool true) ∧ Ext w w' := by
  have X1 := (Ext.refl w).alloc (.cells #[.slice none 0 0] 57 (0, 0))
  obtain ⟨w1, e1⟩ : ∃ w1, w1 = w.alloc (.cells #[.slice none 0 0] 57 (0, 0)) := ⟨_, rfl⟩
  have S1 := new_set w
  rw [← e1] at S1 X1
  have C0 := hid (new_any w)
  rw [← e1] at C0
  have C1 := hid (add_yes _ w.heap.size 0 3 [] w1 S1 Good.nil (by decide) (by decide) (by decide))
  rw [show (3 : Int) - 0 - tot 0 3 [] = 3 by decide] at C1
  have XX := hid X1
  clear S1 X1 e1
  generalize hb : w.heap.size = b at *
  have HB := hid hb
  clear hb
  go_enter Try.func8, Try.ntmps8
  go_wp2_with fail
  refine C0.out.mono ?_
  rintro e w1 ⟨rfl, rfl⟩
  clear C0
  go_wp2_with fail
  refine C1.out.mono ?_
  rintro e w2 ⟨rfl, l1, g1, h1, s1, k1⟩
  obtain rfl : l1 = [(0, 3)] := canon_same g1 good1 fun i => by rw [h1, has1]
  have C2 := hid (add_yes _ b 5 8 _ w2 s1 g1 (by decide) (by decide) (by decide))
  rw [show (8 : Int) - 5 - tot 5 8 [(0, 3)] = 3 by decide] at C2
  have K1 := hid k1
  clear C1 h1 s1 k1 g1
  go_wp2_with fail
  refine C2.out.mono ?_
  rintro e w3 ⟨rfl, l2, g2, h2, s2, k2⟩
  obtain rfl : l2 = [(0, 3), (5, 8)] := canon_same g2 good2 fun i => by rw [h2, has2]
  have C3 := hid (add_yes _ b 3 5 _ w3 s2 g2 (by decide) (by decide) (by decide))
  rw [show (5 : Int) - 3 - tot 3 5 [(0, 3), (5, 8)] = 2 by decide] at C3
  have K2 := hid (K1.out.trans k2)
  clear C2 h2 s2 k2 g2 K1
  go_wp2_with fail
  refine C3.out.mono ?_
  rintro e w4 ⟨rfl, l3, g3, h3, s3, k3⟩
  obtain rfl : l3 = [(0, 8)] := canon_same g3 good3 fun i => by rw [h3, has3]
  have C4 := hid (add_no b 5 4 w4 (by decide))
  have K3 := hid (K2.out.trans k3)
  obtain ⟨v, sv, _⟩ := s3
  have SV := hid sv
  have G3 := hid g3
  clear C3 h3 k3 K2 sv g3
  go_wp2_with fail
  refine C4.out.mono ?_
  rintro e w4 ⟨rfl, rfl⟩
  clear C4
  have C5 := hid (stretches_any b v [(0, 8)] w4 SV.out (by decide))
  go_wp2_with fail
  refine C5.out.mono ?_
  rintro e w5 ⟨v', rfl, o, x5, _⟩
  obtain ⟨ao, cp, ev, q1, q2, vw⟩ := o.view
  obtain ⟨g, rfl, y1, y2⟩ := vw 0 (by decide)
  simp only [List.length_cons, List.length_nil, Nat.zero_add, Nat.zero_mul, List.getD_cons_zero] at ev y1 y2
  subst ev
  have PE := fun w => pair_eq w 0 8 0 8
  have GT := guard_two
  have C6 := hid (has_any b 7 v [(0, 8)] w5 (SV.out.ext x5) G3.out)
  rw [show has [(0, 8)] 7 = true by decide] at C6
  have K5 := hid (K3.out.trans (Kept.of_ext x5))
  have SV5 := hid (SV.out.ext x5)
  clear C5 vw o K3 SV q1 q2
  go_wp2_with fail
  refine C6.out.mono ?_
  rintro e w6 ⟨rfl, x6⟩
  have C7 := hid (has_any b 8 v [(0, 8)] w6 (SV5.out.ext x6) G3.out)
  rw [show has [(0, 8)] 8 = false by decide] at C7
  have K6 := hid (K5.out.trans (Kept.of_ext x6))
  clear C6 K5 SV5 x6 x5
  go_wp2_with fail
  refine C7.out.mono ?_
  rintro e w7 ⟨rfl, x7⟩
  have R : Hid (Ext w w7) := by
    have k7 := K6.out.trans (Kept.of_ext x7)
    have := SetK.kept_below (by rw [← HB.out]; exact XX.out.size) k7
    rw [← HB.out] at this
    exact Below.trans XX.out this
  clear C7 K6 x7
  go_wp2_with fail
  go_ret
  exact ⟨rfl, R.out⟩
end Go.Proofs.Ytbolhkafdgiggaa

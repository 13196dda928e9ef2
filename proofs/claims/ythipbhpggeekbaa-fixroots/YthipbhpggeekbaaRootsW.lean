/-
  The walk of FixRoots: the square of any number's root isn't above it, that of the next one is.
-/
import Derived.Test.YthipbhpggeekbaaRefUp
import Derived.OpenShut
namespace Go.Proofs.Ythipbhpggeekbaa.fixRoots
set_option linter.unusedVariables false
open Go.RowKit

set_option maxHeartbeats 1000000 in
theorem walk (a0 : Int) (w0 : (Lit.int .u64 a0).wf = true) (w : World) :
    Calls Try.prog 6 #[.int .u64 a0] w fun e w' => e = .returned (.bool true) ∧ Below w.heap.size w w' := by
  obtain ⟨b0, b0'⟩ := bounds_u64 w0
  clear w0
  have E := Ext.refl w
  have L := hid (fun w' : World => num_lit w' [1] 1 canon_1 (by decide) (by decide))
  go_enter Try.func6, Try.ntmps6
  go_wp2_with fail
  refine (root_any a0 b0 (by omega) _).mono ?_
  rintro e w' ⟨r, r0, r1, r2, r3, rfl, rfl⟩
  have S1 := hid (sgn_le r2)
  have S2 := hid (sgn_pos r3)
  clear r2 r3
  go_wp2_with fail
  refine (lawOf_any a0 _ b0 (by omega)).mono ?_
  rintro e w1 ⟨v1, rfl, b1, n1⟩
  have X1 : Ext _ w1 := b1
  clear b1
  replace E := E.trans X1
  clear X1
  go_wp2_with fail
  refine (refUp_any _ _ _ _ n1 (by decide)).mono ?_
  rintro e w2 ⟨v2, rfl, b2, n2⟩
  have X2 : Ext _ w2 := b2
  clear b2
  replace E := E.trans X2
  replace n1 := n1.ext X2
  clear X2
  go_wp2_with fail
  clear n1
  refine (lawOf_any r _ r0 (by omega)).mono ?_
  rintro e w3 ⟨v3, rfl, b3, n3⟩
  have X3 : Ext _ w3 := b3
  clear b3
  replace E := E.trans X3
  replace n2 := n2.ext X3
  clear X3
  go_wp2_with fail
  replace E := E.alloc (.cells (ints [1]).toArray 3)
  have XL : Ext w3 (w3.alloc (.cells (ints [1]).toArray 3)) := (Ext.refl _).alloc _
  replace n2 := n2.ext XL
  replace n3 := n3.ext XL
  clear XL
  refine (refAdd_any _ _ _ _ _ _ _ n3 (L.out _) (by decide) (by decide)).mono ?_
  rintro e w4 ⟨v4, rfl, b4, n4⟩
  have X4 : Ext _ w4 := b4
  clear b4
  replace E := E.trans X4
  replace n2 := n2.ext X4
  replace n3 := n3.ext X4
  clear X4
  go_wp2_with fail
  clear n3
  refine (lawOf_any r _ r0 (by omega)).mono ?_
  rintro e w5 ⟨v5, rfl, b5, n5⟩
  have X5 : Ext _ w5 := b5
  clear b5
  replace E := E.trans X5
  replace n2 := n2.ext X5
  replace n4 := n4.ext X5
  clear X5
  go_wp2_with fail
  refine (lawOf_any r _ r0 (by omega)).mono ?_
  rintro e w6 ⟨v6, rfl, b6, n6⟩
  have X6 : Ext _ w6 := b6
  clear b6
  replace E := E.trans X6
  replace n2 := n2.ext X6
  replace n4 := n4.ext X6
  replace n5 := n5.ext X6
  clear X6
  go_wp2_with fail
  refine (refMul_any _ _ _ _ _ _ _ n5 n6 (by decide) (by decide)).mono ?_
  rintro e w7 ⟨v7, rfl, b7, n7⟩
  have X7 : Ext _ w7 := b7
  clear b7
  replace E := E.trans X7
  replace n2 := n2.ext X7
  replace n4 := n4.ext X7
  replace n5 := n5.ext X7
  replace n6 := n6.ext X7
  clear X7
  go_wp2_with fail
  clear n5
  clear n6
  refine (cmp_any _ _ _ _ _ _ _ n7 n2 (by decide) (by decide)).mono ?_
  rintro e w' ⟨rfl, k, rfl⟩
  replace E := E.drewN k
  replace n2 := n2.drewN k
  replace n4 := n4.drewN k
  clear n7
  have t := S1.out
  generalize sgn (r * r) (a0 * 4294967296) = Z at *
  go_wp2_with fail
  refine (refMul_any _ _ _ _ _ _ _ n4 n4 (by decide) (by decide)).mono ?_
  rintro e w8 ⟨v8, rfl, b8, n8⟩
  have X8 : Ext _ w8 := b8
  clear b8
  replace E := E.trans X8
  replace n2 := n2.ext X8
  replace n4 := n4.ext X8
  clear X8
  go_wp2_with fail
  clear n4
  refine (cmp_any _ _ _ _ _ _ _ n8 n2 (by decide) (by decide)).mono ?_
  rintro e w' ⟨rfl, k, rfl⟩
  replace E := E.drewN k
  clear n8 n2
  rw [S2.out]
  go_wp2_with fail
  refine (awake_any _).mono ?_
  rintro e w' ⟨rfl, k, rfl⟩
  replace E := E.drewN k
  go_wp2_with fail
  go_ret
  rw [World.drewN_drewN] at E
  exact ⟨rfl, E⟩
end Go.Proofs.Ythipbhpggeekbaa.fixRoots

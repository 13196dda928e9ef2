/-
  The walk of EqnFalls: more loss, or a longer round trip, never makes a rate greater; greater packets never make it less.
-/
import Derived.Test.YtbphjfdmcopmpaaEqn
import Derived.Test.YtbphjfdmcopmpaaExt
import Derived.Deep.QuietTactic
import Derived.BigQuiet
import Derived.BigRegion
import Derived.Laws.BitsAllLaws
import Derived.OpenShut
namespace Go.Proofs.Ytbphjfdmcopmpaa.eqnFalls
set_option linter.unusedVariables false
open Go.RowKit

theorem or_size (a b : Int) (h1 : 0 ≤ a) (h2 : a < 4294967296) (h3 : 0 ≤ b) (h4 : b < 4294967296) : a ≤ bits .or .u32 a b ∧ bits .or .u32 a b < 4294967296 := by
  rw [u32_or a b h1 h2 h3 h4]
  have l := Nat.left_le_or (n := a.toNat) (m := b.toNat)
  have u : a.toNat ||| b.toNat < 2 ^ 32 := Nat.or_lt_two_pow (by omega) (by omega)
  omega

set_option maxHeartbeats 2000000 in
theorem walk (a b c d e f : Int) (w0 : (Lit.int .u32 a).wf = true) (w1 : (Lit.int .u64 b).wf = true) (w2 : (Lit.int .u64 c).wf = true) (w3 : (Lit.int .u64 d).wf = true) (w4 : (Lit.int .u64 e).wf = true) (w5 : (Lit.int .u32 f).wf = true) (w : World) :
    Calls Try.prog 4 #[.agg #[.int .u32 a, .int .u64 b, .int .u64 c, .int .u64 d, .int .u64 e, .int .u32 f]] w fun e w' => e = .returned (.bool true) ∧ Below w.heap.size w w' := by
  obtain ⟨b0, b0'⟩ := bounds_u32 w0
  obtain ⟨b1, b1'⟩ := bounds_u64 w1
  obtain ⟨b2, b2'⟩ := bounds_u64 w2
  obtain ⟨b3, b3'⟩ := bounds_u64 w3
  obtain ⟨b4, b4'⟩ := bounds_u64 w4
  obtain ⟨b5, b5'⟩ := bounds_u32 w5
  clear w0 w1 w2 w3 w4 w5
  have o := or_size a f b0 (by omega) b5 (by omega)
  obtain ⟨s, es⟩ : ∃ s, s = bits .or .u32 a f := ⟨_, rfl⟩
  rw [← es] at o
  have ES := hid es.symm
  clear es
  have p1 := fadd_room c d b2 b3
  have p2 := fadd_ge c d (by omega) b3
  have r1 := fadd_room b e b1 b4
  have r2 := fadd_ge b e (by omega) b4
  have c0 := rate_any a b c b0 (by omega) b1 (by omega) b2 (by omega)
  have cp := add_any c d b2 b3 (by omega) (by omega)
  have c1 := rate_any a b (fadd c d) b0 (by omega) b1 (by omega) p1.1 p1.2
  have cr := add_any b e b1 b4 (by omega) (by omega)
  have c2 := rate_any a (fadd b e) c b0 (by omega) r1.1 r1.2 b2 (by omega)
  have c3 := rate_any s b c (by omega) (by omega) b1 (by omega) b2 (by omega)
  have m1 := frate_p a b c (fadd c d) b0 b1 b2 p2 p1.2
  have m2 := frate_rtt a b (fadd b e) c b0 b1 r2 b2 (by omega)
  have m3 := frate_size a s b c b0 o.1 b1 b2 (by omega)
  generalize frate a b c = X at *
  generalize frate a b (fadd c d) = X1 at *
  generalize frate a (fadd b e) c = X2 at *
  generalize frate s b c = X3 at *
  generalize fadd c d = P at *
  generalize fadd b e = R at *
  have E := ((Ext.refl w).alloc (.cells #[.int .u32 a, .int .u64 b, .int .u64 c, .int .u64 d, .int .u64 e, .int .u32 f] 32)).alloc (.cells #[.int .u64 d, .int .u64 e, .int .u32 f] 30)
  replace E := E.drewN 1
  go_enter Try.func4, Try.ntmps4
  go_wp2_with fail
  go_region
  go_wp2_with fail
  rw [show ((w.alloc (.cells #[.int .u32 a, .int .u64 b, .int .u64 c, .int .u64 d, .int .u64 e, .int .u32 f] 32)).alloc (.cells #[.int .u64 d, .int .u64 e, .int .u32 f] 30)).drew = ((w.alloc (.cells #[.int .u32 a, .int .u64 b, .int .u64 c, .int .u64 d, .int .u64 e, .int .u32 f] 32)).alloc (.cells #[.int .u64 d, .int .u64 e, .int .u32 f] 30)).drewN 1 from rfl]
  refine (c0 _).mono ?_
  rintro e w' ⟨rfl, k1, rfl⟩
  replace E := E.drewN k1
  rw [World.drewN_drewN] at E
  go_wp2_with fail
  refine (cp _).mono ?_
  rintro e w' ⟨rfl, rfl⟩
  go_wp2_with fail
  refine (c1 _).mono ?_
  rintro e w' ⟨rfl, k2, rfl⟩
  replace E := E.drewN k2
  rw [World.drewN_drewN] at E
  go_wp2_with fail
  refine (cr _).mono ?_
  rintro e w' ⟨rfl, rfl⟩
  go_wp2_with fail
  refine (c2 _).mono ?_
  rintro e w' ⟨rfl, k3, rfl⟩
  replace E := E.drewN k3
  rw [World.drewN_drewN] at E
  go_wp2_with fail
  rw [ES.out]
  refine (c3 _).mono ?_
  rintro e w' ⟨rfl, k4, rfl⟩
  replace E := E.drewN k4
  rw [World.drewN_drewN] at E
  go_wp2_with fail
  refine (awake3_any _).mono ?_
  rintro e w' ⟨rfl, k5, rfl⟩
  replace E := E.drewN k5
  rw [World.drewN_drewN] at E
  go_wp2_with fail
  go_ret
  exact ⟨rfl, E⟩
end Go.Proofs.Ytbphjfdmcopmpaa.eqnFalls

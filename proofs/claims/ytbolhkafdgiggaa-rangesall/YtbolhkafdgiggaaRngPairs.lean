/-
  The walk of pairs: are two lists of stretches one?
-/
import Derived.Test.YtbolhkafdgiggaaKeptCore
import Derived.Test.YtbolhkafdgiggaaPairEq
import Derived.WalkSpells
import Derived.WalkLawsBesides
import Derived.Handy
import Derived.Deep.QuietTactic
import Derived.BigQuiet
namespace Go.Proofs.Ytbolhkafdgiggaa
set_option linter.unusedVariables false
set_option maxRecDepth 100000
open Go.RowKit Go.Lib

set_option maxHeartbeats 2000000 in
theorem pairs_any (K L : Nat → Prop) (w : World) (u v : Value) (a b : List (Int × Int)) (hu : RowK K w u 2 (gcells a)) (hv : RowK L w v 2 (gcells b)) (hl : a.length ≤ 100000) :
    Calls Try.prog 12 #[u, v] w fun e w' => e = .returned (.bool (a == b)) ∧ ∃ n, w' = w.drewN n := by
  obtain ⟨ao, n, c, rfl, h1, h2, h3, h4⟩ := hu
  obtain ⟨bo, m, d, rfl, k1, k2, k3, k4⟩ := hv
  have e1 : n = a.length := by rw [gcells_length] at h1; omega
  have e2 : m = b.length := by rw [gcells_length] at k1; omega
  subst e1 e2
  unfold maxLen at h3 k3
  have H4 := hid h4
  have K4 := hid k4
  clear h1 h4 k1 k4
  by_cases hne : a.length = b.length
  · have i1 : ((a.length : Int) == (b.length : Int)) = true := by rw [beq_iff_eq]; omega
    have NL := hid hne
    go_enter Try.func12, Try.ntmps12
    go_wp2_with fail
    go_loopw [13] (fun i wr => ∃ k n : Nat, k ≤ a.length ∧ i = .int .i64 k ∧ a.take k = b.take k ∧ wr = w.drewN n) (fun i _ => (a.length - intOf i).toNat)
    case atStart => exact ⟨0, 0, by omega, rfl, rfl, rfl⟩
    case round =>
     obtain ⟨k, n, hk, rfl, ht, rfl⟩ := hrel
     by_cases t : k < a.length
     · obtain ⟨g, o, rfl, _, ca⟩ := H4.out (by omega)
       obtain ⟨g', o', rfl, _, cb⟩ := K4.out (by omega)
       have x1 := ca _ _ (gcells_at a k t).1
       have x2 := ca _ _ (gcells_at a k t).2
       have y1 := cb _ _ (gcells_at b k (by omega)).1
       have y2 := cb _ _ (gcells_at b k (by omega)).2
       rw [← Nat.add_assoc] at x2 y2
       have PE := fun w => pair_eq w (a.getD k (0, 0)).1 (a.getD k (0, 0)).2 (b.getD k (0, 0)).1 (b.getD k (0, 0)).2
       have NX := hid (take_eq_next a b (0, 0) k t (by omega) ht)
       have NE := hid (ne_of_at a b (0, 0) k)
       have GT := guard_two
       clear ca cb ht
       generalize a.getD k (0, 0) = x at *
       generalize b.getD k (0, 0) = y at *
       obtain ⟨x1', x2'⟩ := x
       obtain ⟨y1', y2'⟩ := y
       simp only at x1 x2 y1 y2 PE
       have t1 : (k : Int) < (a.length : Int) := by omega
       have t2 : (0 : Int) ≤ (k : Int) := by omega
       have t3 : (k : Int) < (b.length : Int) := by omega
       by_cases d : ((x1', x2') : Int × Int) = (y1', y2')
       · have EQ : (((x1', x2') : Int × Int) == (y1', y2')) = true := by rw [beq_iff_eq]; exact d
         have NX2 := hid (NX.out d)
         rw [EQ] at PE
         clear NX NE d EQ
         go_wp2_with fail
         go_quiet (fail)
         go_wp2_with fail
         go_roundw
         case rel => exact ⟨k + 1, _, by omega, by go_num, NX2.out, rfl⟩
         case measure => simp [intOf]; omega
       · have EQ : (((x1', x2') : Int × Int) == (y1', y2')) = false := by rw [beq_eq_false_iff_ne]; exact d
         have NE2 := hid (NE.out d)
         rw [EQ] at PE
         clear NX NE d EQ
         go_wp2_with fail
         go_quiet (fail)
         go_wp2_with fail
         go_ret
         exact ⟨by rw [NE2.out]; rfl, _, by rw [World.drewN_drewN]⟩
     · obtain rfl : k = a.length := by omega
       have EE : Hid ((a == b) = true) := by show _ = _; rw [beq_iff_eq]; exact take_eq_all a b NL.out ht
       clear ht
       go_wp2_with fail
       go_ret
       exact ⟨by rw [EE.out]; rfl, _, rfl⟩
  · have i1 : ((a.length : Int) == (b.length : Int)) = false := by rw [beq_eq_false_iff_ne]; omega
    have NE := hid (ne_of_length a b hne)
    clear hne
    go_enter Try.func12, Try.ntmps12
    go_wp2_with fail
    go_ret
    exact ⟨by rw [NE.out]; rfl, 0, rfl⟩
end Go.Proofs.Ytbolhkafdgiggaa

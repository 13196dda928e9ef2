/-
  Walks of the reference's Up and Floor, and of the law's own 'of', out of the contracts of what they call.
-/
import Derived.Test.YthipbhpggeekbaaRefMul
import Derived.Test.YthipbhpggeekbaaAwake
namespace Go.Proofs.Ythipbhpggeekbaa
set_option linter.unusedVariables false
open Go.RowKit

/-- w' is w, but for new memory -/
def Ext (w w' : World) : Prop := Below w.heap.size w w'
theorem Ext.refl (w : World) : Ext w w := Below.refl _ _
theorem Ext.trans {a b c : World} (h : Ext a b) (k : Ext b c) : Ext a c := Below.trans h (Below.mono k h.size)
theorem Ext.drewN {a b : World} (h : Ext a b) (n : Nat) : Ext a (b.drewN n) := below_drewN h n
theorem Ext.alloc {a b : World} (h : Ext a b) (o : Obj) : Ext a (b.alloc o) := Below.alloc h h.size o
theorem Num.ext {w w' : World} {v : Value} {x : Int} {n : Nat} (h : Num w v x n) (e : Ext w w') : Num w' v x n := h.below e
theorem Num.more {w : World} {v : Value} {x : Int} {n m : Nat} (h : Num w v x n) (e : n ≤ m) : Num w v x m := by
  obtain ⟨l, a, b, c, d⟩ := h
  exact ⟨l, a, b, c, by omega⟩

/-- a literal of digits -/
theorem num_lit (w : World) (l : List Int) (x : Int) (hc : Dig.Canon l) (hx : Dig.val l = x) (hl : l.length ≤ 1000) :
    Num (w.alloc (.cells (ints l).toArray 3)) (.slice (some ⟨w.heap.size, 0, none⟩) l.length l.length) x l.length := by
  refine ⟨l, ?_, hc, hx, Nat.le_refl _⟩
  have h := World.ownsRow_lit (base := w.heap.size) (e := 3) (size := 1) w (ints l).toArray l.length (Nat.le_refl _) (by unfold maxLen; omega) (by simp [ints])
  exact isRow_of_owns (by simpa using h)

theorem canon_32 : Dig.Canon [0, 0, 1] := by
  refine ⟨fun k hk => ?_, fun _ => by decide⟩
  match k, hk with
  | 0, _ => decide
  | 1, _ => decide
  | 2, _ => decide
theorem canon_1 : Dig.Canon [1] := by
  refine ⟨fun k hk => ?_, fun _ => by decide⟩
  match k, hk with
  | 0, _ => decide

set_option maxHeartbeats 400000 in
theorem lawOf_any (N : Int) (w : World) (h0 : 0 ≤ N) (h1 : N < 18446744073709551616) :
    Calls Try.prog 12 #[.int .u64 N] w fun e w' => ∃ v, e = .returned v ∧ Ext w w' ∧ Num w' v N 4 := by
  go_enter Try.func12, Try.ntmps12
  go_wp2_with fail
  refine (refOf_any N _ h0 h1).mono ?_
  rintro e w' ⟨v, rfl, hb, hn⟩
  have HB : Ext w w' := hb
  clear hb
  go_wp2_with fail
  go_ret
  exact ⟨_, rfl, HB, hn⟩

set_option maxHeartbeats 400000 in
theorem refUp_any (va : Value) (x : Int) (n : Nat) (w : World) (ha : Num w va x n) (hn : n ≤ 1000) :
    Calls Try.prog 15 #[va] w fun e w' => ∃ v, e = .returned v ∧ Ext w w' ∧ Num w' v (x * 4294967296) (n + 4) := by
  have L := num_lit w [0, 0, 1] 4294967296 canon_32 (by decide) (by decide)
  have E : Ext w (w.alloc (.cells (ints [0, 0, 1]).toArray 3)) := (Ext.refl w).alloc _
  have c := refMul_any va _ x _ n _ _ (ha.ext E) L (by omega) (by decide)
  have C := hid c
  clear c L
  go_enter Try.func15, Try.ntmps15
  go_wp2_with fail
  refine C.out.mono ?_
  rintro e w' ⟨v, rfl, hb, hn⟩
  have HB : Ext w w' := E.trans hb
  clear hb
  go_wp2_with fail
  go_ret
  exact ⟨_, rfl, HB, hn⟩

theorem sgn_pos {x y : Int} (h : y < x) : sgn x y = 1 := by unfold sgn; rw [if_neg (by omega), if_pos h]
theorem sgn_le {x y : Int} (h : x ≤ y) : ¬ 0 < sgn x y := by unfold sgn; split <;> (try split) <;> omega
theorem sgn_zero {x y : Int} (h : x = y) : sgn x y = 0 := by unfold sgn; rw [if_neg (by omega), if_neg (by omega)]

theorem canon_zero {l : List Int} (h : Dig.Canon l) (h0 : Dig.val l = 0) : l.length = 0 := by
  rcases Nat.eq_zero_or_pos l.length with e | e
  · exact e
  · have := Dig.canon_ge h e
    have := Dig.pow_pos' (l.length - 1)
    omega

set_option maxHeartbeats 1000000 in
theorem floor_true (q : Int) (va vb : Value) (x y : Int) (n m : Nat) (w : World) (hq0 : 0 ≤ q) (hq1 : q < 18446744073709551616) (ha : Num w va x n) (hb : Num w vb y m) (hn : n ≤ 1000) (hm : m ≤ 1000)
    (f0 : y = 0 → q = 18446744073709551615) (f1 : y ≠ 0 → q * y ≤ x ∧ (q = 18446744073709551615 ∨ x < (q + 1) * y)) :
    Calls Try.prog 16 #[.int .u64 q, va, vb] w fun e w' => e = .returned (.bool true) ∧ Ext w w' := by
  have HB := hid hb
  obtain ⟨lb, rb, cb, ey, nb⟩ := hb
  obtain ⟨ab, cpb, rfl, vb⟩ := rb.view
  clear rb vb
  by_cases y0 : y = 0
  · have e0 := canon_zero cb (by omega)
    have eq := f0 y0
    subst eq
    rw [e0]
    clear HB f0 f1 y0 ey nb cb e0
    go_enter Try.func16, Try.ntmps16
    go_wp2_with fail
    go_ret
    exact ⟨rfl, Ext.refl _⟩
  · have hl : ((lb.length : Int) == 0) = false := by
      simp
      intro e
      exact y0 (by rw [← ey, e]; rfl)
    obtain ⟨g1, g2⟩ := f1 y0
    have G1 := hid (sgn_le g1)
    clear f0 f1 y0 ey cb nb g1
    by_cases q9 : q = 18446744073709551615
    · subst q9
      clear g2
      go_enter Try.func16, Try.ntmps16
      go_wp2_with fail
      refine (refOf_any _ _ hq0 hq1).mono ?_
      rintro e w1 ⟨v1, rfl, b1, n1⟩
      have E1 : Ext w w1 := b1
      clear b1
      go_wp2_with fail
      refine (refMul_any _ _ _ _ _ _ _ n1 (HB.out.ext E1) (by omega) (by omega)).mono ?_
      rintro e w2 ⟨v2, rfl, b2, n2⟩
      have E2 : Ext w1 w2 := b2
      clear b2
      go_wp2_with fail
      refine (cmp_any _ _ _ _ _ _ _ n2 (ha.ext (E1.trans E2)) (by omega) (by omega)).mono ?_
      rintro e w3 ⟨rfl, k, rfl⟩
      have t := G1.out
      generalize sgn (18446744073709551615 * y) x = Z at *
      go_wp2_with fail
      go_ret
      exact ⟨rfl, (E1.trans E2).drewN _⟩
    · have t9 : (q == 18446744073709551615) = false := by simp [q9]
      have G2 := hid (sgn_pos (by omega : x < (q + 1) * y))
      clear g2 q9
      have L : ∀ w' : World, Num (w'.alloc (.cells (ints [1]).toArray 3)) (.slice (some ⟨w'.heap.size, 0, none⟩) 1 1) 1 1 := fun w' => num_lit w' [1] 1 canon_1 (by decide) (by decide)
      have L := hid L
      go_enter Try.func16, Try.ntmps16
      go_wp2_with fail
      refine (refOf_any _ _ hq0 hq1).mono ?_
      rintro e w1 ⟨v1, rfl, b1, n1⟩
      have E1 : Ext w w1 := b1
      clear b1
      go_wp2_with fail
      refine (refMul_any _ _ _ _ _ _ _ n1 (HB.out.ext E1) (by omega) (by omega)).mono ?_
      rintro e w2 ⟨v2, rfl, b2, n2⟩
      have E2 : Ext w w2 := E1.trans b2
      clear b2 n1 E1
      go_wp2_with fail
      refine (cmp_any _ _ _ _ _ _ _ n2 (ha.ext E2) (by omega) (by omega)).mono ?_
      rintro e w3 ⟨rfl, k, rfl⟩
      have t := G1.out
      generalize sgn (q * y) x = Z at *
      go_wp2_with fail
      refine (refOf_any _ _ hq0 hq1).mono ?_
      rintro e w4 ⟨v4, rfl, b4, n4⟩
      have E4 : Ext w w4 := (E2.drewN k).trans b4
      clear b4 E2
      go_wp2_with fail
      have E5 := E4.alloc (.cells (ints [1]).toArray 3)
      refine (refAdd_any _ _ _ _ _ _ _ (n4.ext ((Ext.refl _).alloc _)) (L.out w4) (by omega) (by omega)).mono ?_
      rintro e w6 ⟨v6, rfl, b6, n6⟩
      have E6 : Ext w w6 := E5.trans b6
      clear b6 E5 E4 n4
      go_wp2_with fail
      refine (refMul_any _ _ _ _ _ _ _ n6 (HB.out.ext E6) (by omega) (by omega)).mono ?_
      rintro e w7 ⟨v7, rfl, b7, n7⟩
      have E7 : Ext w w7 := E6.trans b7
      clear b7 n6 E6
      go_wp2_with fail
      refine (cmp_any _ _ _ _ _ _ _ n7 (ha.ext E7) (by omega) (by omega)).mono ?_
      rintro e w8 ⟨rfl, k2, rfl⟩
      rw [G2.out]
      go_wp2_with fail
      go_ret
      exact ⟨rfl, E7.drewN _⟩
end Go.Proofs.Ythipbhpggeekbaa

/-
  The walk of the reference's Mul: it makes the digits of a product.
-/
import Derived.Test.YtcjohgfmdnimjaaDoorRefs
namespace Go.Proofs.YtcjohgfmdnimjaaDoor
set_option linter.unusedVariables false
open Go.RowKit

theorem ints_set (l : List Int) (j : Nat) (d : Int) : (ints l).set j (.int .i64 d) = ints (l.set j d) := by simp [ints, List.map_set]
theorem ints_zeros (n : Nat) : (madeCells #[Value.int .i64 0] n).toList = ints (List.replicate n 0) :=
  (toList_madeCells_one _ n).trans (by simp [ints])

theorem owns_set {w : World} {base g n cap : Nat} {out : List Int} (h : w.ownsRow base 3 1 (.slice (some ⟨g, 0, none⟩) n cap) n (ints out)) (j : Nat) (d : Int) :
    (w.setCell ⟨g, j, none⟩ (.int .i64 d)).ownsRow base 3 1 (.slice (some ⟨g, 0, none⟩) n cap) n (ints (out.set j d)) := by
  have := (h.stored j (.int .i64 d)).1
  rw [ints_set] at this
  exact this

theorem owns_cell {w : World} {base g n cap : Nat} {out : List Int} (h : w.ownsRow base 3 1 (.slice (some ⟨g, 0, none⟩) n cap) n (ints out)) (j : Nat) (hj : j < n) :
    w.cell? ⟨g, j, none⟩ = some (.int .i64 (out.getD j 0)) := by
  have e := h.1
  rw [ints_length] at e
  rw [h.cellAt j (by omega)]
  simp [ints, List.getD_eq_getElem?_getD, show j < out.length by omega]

set_option maxHeartbeats 2000000 in
theorem refMul_any (va vb : Value) (x y : Int) (n m : Nat) (w : World) (ha : Num w va x n) (hb : Num w vb y m) (hn : n ≤ 1000000) (hm : m ≤ 1000000) :
    Calls Tryd.prog 41 #[va, vb] w fun e w' => ∃ v, e = .returned v ∧ Below w.heap.size w w' ∧ Num w' v (x * y) (n + m + 1) := by
  obtain ⟨la, ra, ca, rfl, na⟩ := ha
  obtain ⟨lb, rb, cb, rfl, nb⟩ := hb
  obtain ⟨aa, cpa, rfl, va⟩ := ra.view
  obtain ⟨ab, cpb, rfl, vb⟩ := rb.view
  clear ra rb
  obtain ⟨i0, hi, hz0, hz1, hz2⟩ := info_parts info_int
  have C1 := hid ca.1
  have C2 := hid cb.1
  clear ca cb
  go_enter Tryd.func41, Tryd.ntmps41
  go_wp2_with (at_make; refine wpList_make_full _ rfl _ _ 74 rfl w.heap.size 3 i0 (.int .i64 0) 1 Tryd.underlying74 hi hz0 hz1 .i64 .i64 _ _ (la.length + lb.length + 1) rfl rfl ?m1 ?m2 ?m3 ?m4 ?m5 ?_)
  case m1 => omega
  case m2 => omega
  case m3 => rw [hz2]; omega
  case m4 => unfold maxLen; omega
  case m5 => omega
  intro w1 hown hgrow
  rw [ints_zeros] at hown
  have hB : Below w.heap.size w w1 := (Below.refl _ _).grown hgrow (by omega) (fun k hk => by simp at hk)
  have H0 := hid hown
  have HB := hid hB
  clear hown hgrow hB
  obtain ⟨N, eN⟩ : ∃ N, N = la.length + lb.length + 1 := ⟨_, rfl⟩
  rw [← eN] at H0 ⊢
  have hN1 : N ≤ la.length + lb.length + 1 := by omega
  have hN2 : la.length + lb.length + 1 ≤ N := by omega
  have EN := hid eN
  clear eN
  go_wp2
  go_loopw [6] (fun i wr => ∃ (k : Nat) (out : List Int), i = .int .i64 k ∧ k ≤ la.length ∧ wr.ownsRow w.heap.size 3 1 (.slice (some ⟨w.heap.size, 0, none⟩) N N) N (ints out) ∧ Below w.heap.size w wr ∧ Hid (Dig.Outer la lb k out)) (fun i _ => la.length - (intOf i).toNat)
  case atStart => exact ⟨0, _, rfl, by omega, H0, HB, by show Dig.Outer la lb 0 _; rw [EN.out]; exact Dig.outer_start la lb⟩
  case round =>
    clear H0 HB
    obtain ⟨p, out, rfl, hp, hown, hbel, O⟩ := hrel
    by_cases tp : p < la.length
    · have I0 := hid (Dig.inner_start la lb p out O)
      have P0 := hid hown
      have B0 := hid hbel
      clear hown hbel O
      go_wp2
      obtain ⟨wo, rfl⟩ : ∃ wo : World, wo = wr := ⟨_, rfl⟩
      go_loopw [7, 8] (fun c i wr => ∃ (k : Nat) (carry : Int) (out : List Int), i = .int .i64 k ∧ c = .int .i64 carry ∧ 0 ≤ carry ∧ carry < 65536 ∧ k ≤ lb.length + 1 ∧ wr.ownsRow w.heap.size 3 1 (.slice (some ⟨w.heap.size, 0, none⟩) N N) N (ints out) ∧ Below w.heap.size w wr ∧ Hid (Dig.Inner la lb p k carry out)) (fun _ i _ => lb.length + 1 - (intOf i).toNat)
      case atStart => exact ⟨0, 0, out, rfl, rfl, by omega, by omega, by omega, P0, B0, I0⟩
      case round =>
        clear P0 B0 I0
        obtain ⟨k, carry, out, rfl, rfl, hc0, hc1, hk, hown, hbel, I⟩ := hrel
        have ho := owns_cell hown (p + k)
        have hf := hown.frozenAt (p + k)
        by_cases tk : k < lb.length
        · replace ho := ho (by omega)
          obtain ⟨b1, o1, rfl, hb1, hx1⟩ := va p tp
          obtain ⟨b2, o2, rfl, hb2, hx2⟩ := vb k tk
          replace hx1 := (hbel.cell (p := ⟨b1, o1 + p, none⟩) hb1).trans hx1
          replace hx2 := (hbel.cell (p := ⟨b2, o2 + k, none⟩) hb2).trans hx2
          have q1 := Dig.getD_ok C1 p
          have q2 := Dig.getD_ok C2 k
          have q3 := Dig.getD_ok I.out.1 (p + k)
          have q4 := Dig.digit_mul _ _ q1.1 q1.2 q2.1 q2.2
          obtain ⟨d, ed⟩ : ∃ d, d = la.getD p 0 := ⟨_, rfl⟩
          obtain ⟨e, ee⟩ : ∃ e, e = lb.getD k 0 := ⟨_, rfl⟩
          obtain ⟨f, ef⟩ : ∃ f, f = out.getD (p + k) 0 := ⟨_, rfl⟩
          have I2 := hid (Dig.inner_step la lb p k carry (f + carry + d * e) out C1 C2 I tp tk (by rw [ed, ee, ef]))
          rw [← ed] at hx1 q1 q4
          rw [← ee] at hx2 q2 q4
          rw [← ef] at ho q3
          have P0 := hid hown
          have B0 := hid hbel
          clear ed ee ef va vb I hown hbel
          have i1 : (p : Int) < (la.length : Int) := by omega
          have i2 : (k : Int) < (lb.length : Int) := by omega
          go_wp2
          go_quiet (fail)
          go_wp2
          go_roundw
          case rel => exact ⟨k + 1, (f + carry + d * e) / 65536, _, by go_num, rfl, by omega, by omega, by omega, owns_set P0 (p + k) _, below_drewN (B0.out.setCell (Nat.le_refl _) _) _, I2⟩
          case measure => simp [intOf]; omega
        · by_cases tc : 0 < carry
          · have tk' : k ≤ lb.length := I.out.2.2.2.2.2.2.1 tc
            replace ho := ho (by omega)
            have q3 := Dig.getD_ok I.out.1 (p + k)
            obtain ⟨f, ef⟩ : ∃ f, f = out.getD (p + k) 0 := ⟨_, rfl⟩
            obtain ⟨x1, x2, I2⟩ := Dig.inner_carry la lb p k carry (f + carry) out I tp tk tc (by rw [ef])
            have I2 := hid I2
            rw [← ef] at ho q3
            have P0 := hid hown
            have B0 := hid hbel
            have X2 := hid x2
            clear ef va vb I hown hbel x1 x2
            go_wp2
            go_roundw
            case rel => exact ⟨k + 1, (f + carry) / 65536, _, by go_num, rfl, by omega, by omega, by omega, owns_set P0 (p + k) _, B0.out.setCell (Nat.le_refl _) _, I2⟩
            case measure => simp [intOf]; omega
          · have O2 := hid (Dig.inner_end la lb p k carry out I tp tk tc)
            have P0 := hid hown
            have B0 := hid hbel
            clear hown hbel va vb I ho hf
            go_wp2
            go_roundw
            case rel => exact ⟨p + 1, out, by go_num, by omega, P0, B0, O2⟩
            case measure => simp [intOf]; omega
    · have ep : p = la.length := by omega
      subst ep
      have E := Dig.outer_end la lb out O
      have e1 : out.length = N := by rw [E.2.2, EN.out]
      have R : IsRow wr (.slice (some ⟨w.heap.size, 0, none⟩) N N) out := isRow_of_owns (by rw [e1]; exact hown)
      have hB := hid hbel
      clear hown hbel va vb O e1
      go_wp2_with fail
      refine (trim_any _ out _ R E.1 (by rw [E.2.2]; omega)).mono ?_
      rintro e w' ⟨v', rfl, rfl, hN⟩
      rw [E.2.1] at hN
      go_wp2_with fail
      go_ret
      obtain ⟨l, n1, n2, n3, n4⟩ := hN
      exact ⟨_, rfl, hB, l, n1, n2, n3, by rw [E.2.2] at n4; omega⟩
end Go.Proofs.YtcjohgfmdnimjaaDoor

/-
  Walks of the reference's Of and Add: they make the digits of a number, of a sum.
-/
import Derived.Test.YtbphjfdmcopmpaaRowy
namespace Go.Proofs.Ytbphjfdmcopmpaa
set_option linter.unusedVariables false
open Go.RowKit

theorem info_int : (Try.prog.info? 3).map (fun i => (i.zero, i.size, i.bytes)) = some (some (.int .i64 0), 1, 8) := by kernel_rfl

/-- the ints as they lie in cells -/
def ints (l : List Int) : List Value := l.map (Value.int .i64)

theorem ints_snoc (l : List Int) (d : Int) : ints l ++ [.int .i64 d] = ints (l ++ [d]) := by simp [ints]
theorem ints_length (l : List Int) : (ints l).length = l.length := by simp [ints]

theorem owns_snoc {w : World} {base : Nat} {v : Value} {out : List Int} {d : Int} (h : w.ownsRow base 3 1 v (out.length + 1) (ints out ++ [.int .i64 d])) : w.ownsRow base 3 1 v (out ++ [d]).length (ints (out ++ [d])) := by
  rw [ints_snoc] at h
  simpa using h

/-- what is owned is a row -/
theorem isRow_of_owns {w : World} {base : Nat} {v : Value} {l : List Int} (h : w.ownsRow base 3 1 v l.length (ints l)) : IsRow w v l := by
  have hlt := h.lt
  obtain ⟨h1, h2⟩ := h
  rcases h2 with ⟨h2, h3⟩ | ⟨g, cap, cur, rfl, h3, h4, h5, h6, h7, h8⟩
  · exact .inl ⟨h2, List.length_eq_zero_iff.1 h3⟩
  · refine .inr ⟨g, 0, cap, rfl, h5, h6, (hlt g rfl).2, ?_⟩
    intro k hk
    have := World.ownsRow.cellAt (w := w) (base := base) (e := 3) (size := 1) (g := g) (n := l.length) (cap := cap) (xs := ints l) ⟨h1, .inr ⟨g, cap, cur, rfl, h3, h4, h5, h6, h7, h8⟩⟩ k (by omega)
    rw [Nat.zero_add, this]
    simp [ints, List.getD_eq_getElem?_getD, hk]

set_option maxHeartbeats 1000000 in
theorem refOf_any (N : Int) (w : World) (h0 : 0 ≤ N) (h1 : N < 18446744073709551616) :
    Calls Try.prog 31 #[.int .u64 N] w fun e w' => ∃ v, e = .returned v ∧ Below w.heap.size w w' ∧ Num w' v N 4 := by
  obtain ⟨i0, hi, hz0, hz1, hz2⟩ := info_parts info_int
  go_enter Try.func31, Try.ntmps31
  go_wp2
  go_loopw [0, 3] (fun n v wr => ∃ (m : Int) (out : List Int), n = .int .u64 m ∧ 0 ≤ m ∧ m < 18446744073709551616 ∧ wr.ownsRow w.heap.size 3 1 v out.length (ints out) ∧ Below w.heap.size w wr ∧ Hid (Dig.Telling N m out)) (fun n _ _ => (intOf n).toNat)
  case atStart => exact ⟨N, [], rfl, h0, h1, World.ownsRow_nil _ _ _ _, Below.refl _ _, Dig.telling_start N h0 h1⟩
  case round =>
    obtain ⟨m, out, rfl, hm0, hm1, hown, hbel, T⟩ := hrel
    by_cases t : 0 < m
    · obtain ⟨hl, T2⟩ := Dig.telling_step N m out T t
      have T2 := hid T2
      have hsz := hbel.size
      go_wp2_with (at_builtin; refine wpList_append_own _ rfl _ _ 52 rfl w.heap.size 3 i0 (.int .i64 0) 1 8 Try.underlying52 hi hz0 hz1 hz2 rfl (by decide) _ _ _ rfl (hown.alloc _) ⟨wr.heap.size, 0, none⟩ 1 1 [.int .i64 (m % 65536)] rfl rfl ?c1 ?c2 ?c3 ?c4 ?c5 ?_)
      case c1 => exact cell_one_new _ _ _
      case c2 => intro u hu; simp at hu; subst hu; rfl
      case c3 => unfold maxLen; omega
      case c4 => omega
      case c5 => simp; omega
      intro v' w1 hown' hgrow _
      have R1 := hid (owns_snoc hown')
      have R2 : Hid (Below w.heap.size w w1) := (hbel.alloc hsz _).grown hgrow (by simp; omega) (fun k hk => (hown.lt k hk).1)
      clear hown' hgrow hown hbel hsz
      go_wp2
      go_roundw
      case rel => exact ⟨m / 65536, _, rfl, by omega, by omega, R1, R2, T2⟩
      case measure => simp [intOf]; omega
    · have E := Dig.telling_end N m out T t
      have R := isRow_of_owns hown
      have hB := hid hbel
      clear hown hbel
      go_wp2
      go_ret
      exact ⟨_, rfl, hB, out, R, E⟩

set_option maxHeartbeats 2000000 in
theorem refAdd_any (va vb : Value) (x y : Int) (n m : Nat) (w : World) (ha : Num w va x n) (hb : Num w vb y m) (hn : n ≤ 1000000) (hm : m ≤ 1000000) :
    Calls Try.prog 35 #[va, vb] w fun e w' => ∃ v, e = .returned v ∧ Below w.heap.size w w' ∧ Num w' v (x + y) (max n m + 1) := by
  obtain ⟨la, ra, ca, rfl, na⟩ := ha
  obtain ⟨lb, rb, cb, rfl, nb⟩ := hb
  obtain ⟨aa, cpa, rfl, va⟩ := ra.view
  obtain ⟨ab, cpb, rfl, vb⟩ := rb.view
  clear ra rb
  obtain ⟨i0, hi, hz0, hz1, hz2⟩ := info_parts info_int
  have C1 := hid ca.1
  have C2 := hid cb.1
  clear ca cb
  go_enter Try.func35, Try.ntmps35
  go_wp2
  go_loopw [5, 6, 7] (fun v c i wr => ∃ (k : Nat) (carry : Int) (out : List Int), i = .int .i64 k ∧ c = .int .i64 carry ∧ 0 ≤ carry ∧ carry ≤ 1 ∧ out.length = k ∧ k ≤ max la.length lb.length + 1 ∧ wr.ownsRow w.heap.size 3 1 v out.length (ints out) ∧ Below w.heap.size w wr ∧ Hid (Dig.Adding la lb k carry out)) (fun _ _ i _ => (max la.length lb.length + 1 - intOf i).toNat)
  case atStart => exact ⟨0, 0, [], rfl, rfl, by omega, by omega, rfl, by omega, World.ownsRow_nil _ _ _ _, Below.refl _ _, Dig.adding_start la lb⟩
  case round =>
    obtain ⟨k, carry, out, rfl, rfl, hc0, hc1, hlen, hkm, hown, hbel, A⟩ := hrel
    have hsz := hbel.size
    have hol : out.length ≤ 2000000 := by omega
    have hk2 : k ≤ 2000000 := by omega
    have LEN := hid hlen
    clear hlen
    by_cases ta : k < la.length
    · by_cases tb : k < lb.length
      · obtain ⟨b1, o1, rfl, hb1, hx1⟩ := va k ta
        replace hx1 := (hbel.cell (p := ⟨b1, o1 + k, none⟩) hb1).trans hx1
        have hd := Dig.getD_ok C1 k
        obtain ⟨d, ed⟩ : ∃ d, d = la.getD k 0 := ⟨_, rfl⟩
        obtain ⟨b2, o2, rfl, hb2, hx2⟩ := vb k tb
        replace hx2 := (hbel.cell (p := ⟨b2, o2 + k, none⟩) hb2).trans hx2
        have he := Dig.getD_ok C2 k
        obtain ⟨e, ee⟩ : ∃ e, e = lb.getD k 0 := ⟨_, rfl⟩
        have A2 := Dig.adding_step la lb k carry out C1 C2 A (by omega)
        rw [← ed, ← ee] at A2
        rw [← ed] at hd
        rw [← ee] at he
        rw [← ed] at hx1
        rw [← ee] at hx2
        rw [show carry + d + e = carry + d + e by omega] at A2
        have A2 := hid A2
        clear ed ee va vb A
        go_wp2_with (at_builtin; refine wpList_append_own _ rfl _ _ 52 rfl w.heap.size 3 i0 (.int .i64 0) 1 8 Try.underlying52 hi hz0 hz1 hz2 rfl (by decide) _ _ _ rfl (hown.alloc _) ⟨wr.heap.size, 0, none⟩ 1 1 [.int .i64 ((carry + d + e) % 65536)] rfl rfl (cell_one_new _ _ _) ?c2 ?c3 ?c4 ?c5 ?_)
        case c2 => intro u hu; simp at hu; subst hu; rfl
        case c3 => unfold maxLen; omega
        case c4 => omega
        case c5 => simp; omega
        intro v' w1 hown' hgrow _
        have R1 := hid (owns_snoc hown')
        have R2 : Hid (Below w.heap.size w w1) := (hbel.alloc hsz _).grown hgrow (by simp; omega) (fun k hk => (hown.lt k hk).1)
        clear hown' hgrow hown hbel hsz
        go_wp2
        go_roundw
        case rel => exact ⟨k + 1, (carry + d + e) / 65536, _, by go_num, rfl, by omega, by omega, by simp [LEN.out], A2.out.2.2.2.2.2.1, R1, R2, A2⟩
        case measure => have := A2.out.2.2.2.2.2.1; simp [intOf]; omega
      · obtain ⟨b1, o1, rfl, hb1, hx1⟩ := va k ta
        replace hx1 := (hbel.cell (p := ⟨b1, o1 + k, none⟩) hb1).trans hx1
        have hd := Dig.getD_ok C1 k
        obtain ⟨d, ed⟩ : ∃ d, d = la.getD k 0 := ⟨_, rfl⟩
        obtain ⟨e, ee⟩ : ∃ e : Int, e = lb.getD k 0 := ⟨_, rfl⟩
        have he := Dig.getD_ok C2 k
        have z2 := Dig.getD_out tb
        have A2 := Dig.adding_step la lb k carry out C1 C2 A (by omega)
        rw [← ed, ← ee] at A2
        rw [← ed] at hd
        rw [← ee] at he
        rw [← ed] at hx1
        rw [← ee] at z2
        subst z2
        rw [show carry + d + 0 = carry + d by omega] at A2
        have A2 := hid A2
        clear ed ee va vb A
        go_wp2_with (at_builtin; refine wpList_append_own _ rfl _ _ 52 rfl w.heap.size 3 i0 (.int .i64 0) 1 8 Try.underlying52 hi hz0 hz1 hz2 rfl (by decide) _ _ _ rfl (hown.alloc _) ⟨wr.heap.size, 0, none⟩ 1 1 [.int .i64 ((carry + d) % 65536)] rfl rfl (cell_one_new _ _ _) ?c2 ?c3 ?c4 ?c5 ?_)
        case c2 => intro u hu; simp at hu; subst hu; rfl
        case c3 => unfold maxLen; omega
        case c4 => omega
        case c5 => simp; omega
        intro v' w1 hown' hgrow _
        have R1 := hid (owns_snoc hown')
        have R2 : Hid (Below w.heap.size w w1) := (hbel.alloc hsz _).grown hgrow (by simp; omega) (fun k hk => (hown.lt k hk).1)
        clear hown' hgrow hown hbel hsz
        go_wp2
        go_roundw
        case rel => exact ⟨k + 1, (carry + d) / 65536, _, by go_num, rfl, by omega, by omega, by simp [LEN.out], A2.out.2.2.2.2.2.1, R1, R2, A2⟩
        case measure => have := A2.out.2.2.2.2.2.1; simp [intOf]; omega
    · by_cases tb : k < lb.length
      · obtain ⟨d, ed⟩ : ∃ d : Int, d = la.getD k 0 := ⟨_, rfl⟩
        have hd := Dig.getD_ok C1 k
        have z1 := Dig.getD_out ta
        obtain ⟨b2, o2, rfl, hb2, hx2⟩ := vb k tb
        replace hx2 := (hbel.cell (p := ⟨b2, o2 + k, none⟩) hb2).trans hx2
        have he := Dig.getD_ok C2 k
        obtain ⟨e, ee⟩ : ∃ e, e = lb.getD k 0 := ⟨_, rfl⟩
        have A2 := Dig.adding_step la lb k carry out C1 C2 A (by omega)
        rw [← ed, ← ee] at A2
        rw [← ed] at hd
        rw [← ee] at he
        rw [← ed] at z1
        subst z1
        rw [← ee] at hx2
        rw [show carry + 0 + e = carry + e by omega] at A2
        have A2 := hid A2
        clear ed ee va vb A
        go_wp2_with (at_builtin; refine wpList_append_own _ rfl _ _ 52 rfl w.heap.size 3 i0 (.int .i64 0) 1 8 Try.underlying52 hi hz0 hz1 hz2 rfl (by decide) _ _ _ rfl (hown.alloc _) ⟨wr.heap.size, 0, none⟩ 1 1 [.int .i64 ((carry + e) % 65536)] rfl rfl (cell_one_new _ _ _) ?c2 ?c3 ?c4 ?c5 ?_)
        case c2 => intro u hu; simp at hu; subst hu; rfl
        case c3 => unfold maxLen; omega
        case c4 => omega
        case c5 => simp; omega
        intro v' w1 hown' hgrow _
        have R1 := hid (owns_snoc hown')
        have R2 : Hid (Below w.heap.size w w1) := (hbel.alloc hsz _).grown hgrow (by simp; omega) (fun k hk => (hown.lt k hk).1)
        clear hown' hgrow hown hbel hsz
        go_wp2
        go_roundw
        case rel => exact ⟨k + 1, (carry + e) / 65536, _, by go_num, rfl, by omega, by omega, by simp [LEN.out], A2.out.2.2.2.2.2.1, R1, R2, A2⟩
        case measure => have := A2.out.2.2.2.2.2.1; simp [intOf]; omega
      · by_cases tc : 0 < carry
        · obtain ⟨d, ed⟩ : ∃ d : Int, d = la.getD k 0 := ⟨_, rfl⟩
          have hd := Dig.getD_ok C1 k
          have z1 := Dig.getD_out ta
          obtain ⟨e, ee⟩ : ∃ e : Int, e = lb.getD k 0 := ⟨_, rfl⟩
          have he := Dig.getD_ok C2 k
          have z2 := Dig.getD_out tb
          have A2 := Dig.adding_step la lb k carry out C1 C2 A (by omega)
          rw [← ed, ← ee] at A2
          rw [← ed] at hd
          rw [← ee] at he
          rw [← ed] at z1
          subst z1
          rw [← ee] at z2
          subst z2
          rw [show carry + 0 + 0 = carry by omega] at A2
          have A2 := hid A2
          clear ed ee va vb A
          go_wp2_with (at_builtin; refine wpList_append_own _ rfl _ _ 52 rfl w.heap.size 3 i0 (.int .i64 0) 1 8 Try.underlying52 hi hz0 hz1 hz2 rfl (by decide) _ _ _ rfl (hown.alloc _) ⟨wr.heap.size, 0, none⟩ 1 1 [.int .i64 ((carry) % 65536)] rfl rfl (cell_one_new _ _ _) ?c2 ?c3 ?c4 ?c5 ?_)
          case c2 => intro u hu; simp at hu; subst hu; rfl
          case c3 => unfold maxLen; omega
          case c4 => omega
          case c5 => simp; omega
          intro v' w1 hown' hgrow _
          have R1 := hid (owns_snoc hown')
          have R2 : Hid (Below w.heap.size w w1) := (hbel.alloc hsz _).grown hgrow (by simp; omega) (fun k hk => (hown.lt k hk).1)
          clear hown' hgrow hown hbel hsz
          go_wp2
          go_roundw
          case rel => exact ⟨k + 1, (carry) / 65536, _, by go_num, rfl, by omega, by omega, by simp [LEN.out], A2.out.2.2.2.2.2.1, R1, R2, A2⟩
          case measure => have := A2.out.2.2.2.2.2.1; simp [intOf]; omega
        · have E := Dig.adding_end la lb k carry out A (by omega)
          have R := isRow_of_owns hown
          have hB := hid hbel
          have hol' := E.2.2
          clear hown hbel va vb A
          go_wp2_with fail
          refine (trim_any _ out _ R E.1 (by omega)).mono ?_
          rintro e w' ⟨v', rfl, rfl, hN⟩
          rw [E.2.1] at hN
          go_wp2_with fail
          go_ret
          obtain ⟨l, n1, n2, n3, n4⟩ := hN
          exact ⟨_, rfl, hB, l, n1, n2, n3, by omega⟩
end Go.Proofs.Ytbphjfdmcopmpaa

/-
  The walk of DrawsAt: any draw is told by its number, and none is told by that.
-/
import Derived.Test.YtpdgicnapidkeaaDrwRef
namespace Go.Proofs.Ytpdgicnapidkeaa.drawsAt
set_option linter.unusedVariables false
set_option maxRecDepth 100000
open Go.RowKit Go.Lib

set_option maxHeartbeats 4000000 in
theorem walk (v0 : Value) (l : List Int) (i : Int) (w : World) (hl : IsU32s w v0 l) :
    Calls Try.prog 4 #[v0, .int .i64 i] w fun e w' => e = .returned (.bool true) ∧ Ext w w' := by
  have HL := hid hl
  obtain ⟨⟨ao, m, c, rfl, e1, e2, e3, _⟩, _, _⟩ := hl
  have em : m = l.length := by rw [ucells_length] at e1; omega
  subst em
  unfold maxLen at e3
  clear e1
  by_cases t1 : 100 < l.length
  · have t1' : (100 : Int) < (l.length : Int) := by omega
    go_enter Try.func4, Try.ntmps4
    go_wp2_with fail
    refine (awake_any _).mono ?_
    rintro e w' ⟨rfl, X⟩
    go_wp2_with fail
    go_ret
    exact ⟨rfl, X⟩
  have t1' : decide ((100 : Int) < (l.length : Int)) = false := by simp; omega
  have C := hid (new_any _ w _ l HL.out.1 HL.out.2.1 (by omega) HL.out.2.2)
  have LB := hid (Nat.le_of_not_lt t1)
  clear t1
  by_cases t2 : i < 0 ∨ 65536 < i
  · go_enter Try.func4, Try.ntmps4
    go_wp2_with fail
    refine C.out.mono ?_
    rintro e w1 ⟨b, rfl, D, X⟩
    have X1 := hid X
    have CA := hid (at_none b i w1 t2)
    clear D X C
    go_wp2_with fail
    refine CA.out.mono ?_
    rintro e w2 ⟨rfl, rfl⟩
    clear CA
    rcases t2 with h | h
    · go_wp2_with fail
      refine (awake_any _).mono ?_
      rintro e w3 ⟨rfl, X3⟩
      have X4 := hid (X1.out.trans X3)
      clear X3
      go_wp2_with fail
      go_ret
      exact ⟨rfl, X4.out⟩
    · have h0 : ¬ i < 0 := by omega
      go_wp2_with fail
      refine (awake_any _).mono ?_
      rintro e w3 ⟨rfl, X3⟩
      have X4 := hid (X1.out.trans X3)
      clear X3
      go_wp2_with fail
      go_ret
      exact ⟨rfl, X4.out⟩
  obtain ⟨I, rfl⟩ : ∃ I : Nat, i = (I : Int) := ⟨i.toNat, by omega⟩
  have i1 : (0 : Int) ≤ (I : Int) := by omega
  have i2 : (I : Int) ≤ 65536 := by omega
  clear t2
  by_cases t3 : 3000 < I
  · have t3' : (3000 : Int) < (I : Int) := by omega
    go_enter Try.func4, Try.ntmps4
    go_wp2_with fail
    refine C.out.mono ?_
    rintro e w1 ⟨b, rfl, D, X⟩
    have X1 := hid X
    have CA := hid (at_any _ b l 0 I w1 D (by omega))
    have CB := hid (at_any _ b l 0 (I - 1) w1 D (by omega))
    rw [show ((I - 1 : Nat) : Int) = (I : Int) - 1 by omega] at CB
    have E : Hid (dr l I = (1664525 * dr l (I - 1) + 1013904223) % 4294967296) := by
      obtain ⟨J, rfl⟩ : ∃ J, I = J + 1 := ⟨I - 1, by omega⟩
      have := dr_behind l (J + 1) (by have := LB.out; omega)
      exact this
    obtain ⟨r1, r2⟩ := dr_room D.room (I - 1)
    clear D X C
    generalize dr l (I - 1) = y at *
    generalize dr l I = z at *
    obtain ⟨j, ej⟩ : ∃ j : Int, j = (I : Int) := ⟨_, rfl⟩
    rw [← ej] at CA CB i1 i2 t3'
    rw [← ej]
    clear ej t3
    obtain rfl := E.out
    have mw : (1664525 * y % 4294967296 + 1013904223) % 4294967296 = (1664525 * y + 1013904223) % 4294967296 := by omega
    go_wp2_with fail
    refine CA.out.mono ?_
    rintro e w2 ⟨rfl, rfl⟩
    go_wp2_with fail
    refine CB.out.mono ?_
    rintro e w3 ⟨rfl, rfl⟩
    go_wp2_with fail
    refine (awake_any _).mono ?_
    rintro e w4 ⟨rfl, X3⟩
    have X4 := hid (X1.out.trans X3)
    clear X3
    go_wp2_with fail
    go_ret
    exact ⟨rfl, X4.out⟩
  · have t3' : (I : Int) ≤ 3000 := by omega
    go_enter Try.func4, Try.ntmps4
    go_wp2_with fail
    refine C.out.mono ?_
    rintro e w1 ⟨b, rfl, D, X⟩
    have X1 := hid X
    have D1 := hid (D.mono (L := fun _ => True) (fun _ _ _ => True.intro))
    have CA := hid (at_any _ b l 0 I w1 D (by omega))
    have CB := hid (refAll_any _ w1 _ l (I + 1) (HL.out.1.kept (.of_ext X)) HL.out.2.2 (by have := LB.out; omega) (by omega))
    rw [show ((I + 1 : Nat) : Int) = (I : Int) + 1 by omega] at CB
    clear D X C
    go_wp2_with fail
    refine CA.out.mono ?_
    rintro e w2 ⟨rfl, rfl⟩
    go_wp2_with fail
    refine CB.out.mono ?_
    rintro e w3 ⟨v', rfl, NU⟩
    have CT := hid (told_any _ b l 0 w3 (D1.out.ext NU.2))
    have X2 := hid (X1.out.trans NU.2)
    obtain ⟨a', n', c', e', h1, h2, h3, h4⟩ := NU.row
    have en : n' = I + 1 := by rw [ucells_length, drs_length] at h1; omega
    subst en
    subst e'
    obtain ⟨g, o, rfl, _, hc⟩ := h4 (by omega)
    have x1 := hc I _ (by rw [ucells_at _ I (by rw [drs_length]; omega), List.getD_eq_getElem?_getD, drs_at _ _ _ (by omega)])
    simp only [Option.getD_some] at x1
    have i3 : (I : Int) < ((I + 1 : Nat) : Int) := by omega
    have i4 : (I : Int) < (I : Int) + 1 := by omega
    unfold maxLen at h3
    clear NU h1 hc h4 CA CB D1
    generalize dr l I = z at *
    go_wp2_with fail
    refine CT.out.mono ?_
    rintro e w4 ⟨rfl, rfl⟩
    go_wp2_with fail
    refine (awake_any _).mono ?_
    rintro e w5 ⟨rfl, X3⟩
    have X4 := hid (X2.out.trans X3)
    clear X3
    go_wp2_with fail
    go_ret
    exact ⟨rfl, X4.out⟩
end Go.Proofs.Ytpdgicnapidkeaa.drawsAt

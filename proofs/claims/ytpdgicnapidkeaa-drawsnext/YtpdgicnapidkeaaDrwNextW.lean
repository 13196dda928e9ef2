/-
  The walk of DrawsNext: draws are told one by one, and counted.
-/
import Derived.Test.YtpdgicnapidkeaaDrwRef
namespace Go.Proofs.Ytpdgicnapidkeaa.drawsNext
set_option linter.unusedVariables false
set_option maxRecDepth 100000
open Go.RowKit Go.Lib

set_option maxHeartbeats 4000000 in
theorem walk (v0 : Value) (l : List Int) (n : Int) (w : World) (hl : IsU32s w v0 l) :
    Calls Try.prog 3 #[v0, .int .i64 n] w fun e w' => e = .returned (.bool true) ∧ Ext w w' := by
  have HL := hid hl
  obtain ⟨⟨ao, m, c, rfl, e1, e2, e3, _⟩, _, _⟩ := hl
  have em : m = l.length := by rw [ucells_length] at e1; omega
  subst em
  unfold maxLen at e3
  clear e1
  by_cases t1 : 100 < l.length
  · have t1' : (100 : Int) < (l.length : Int) := by omega
    go_enter Try.func3, Try.ntmps3
    go_wp2_with fail
    refine (awake_any _).mono ?_
    rintro e w' ⟨rfl, X⟩
    go_wp2_with fail
    go_ret
    exact ⟨rfl, X⟩
  have t1' : decide ((100 : Int) < (l.length : Int)) = false := by simp; omega
  by_cases t2 : n < 0
  · clear t1
    go_enter Try.func3, Try.ntmps3
    go_wp2_with fail
    refine (awake_any _).mono ?_
    rintro e w' ⟨rfl, X⟩
    go_wp2_with fail
    go_ret
    exact ⟨rfl, X⟩
  by_cases t3 : 300 < n
  · clear t1
    go_enter Try.func3, Try.ntmps3
    go_wp2_with fail
    refine (awake_any _).mono ?_
    rintro e w' ⟨rfl, X⟩
    go_wp2_with fail
    go_ret
    exact ⟨rfl, X⟩
  obtain ⟨N, rfl⟩ : ∃ N : Nat, n = (N : Int) := ⟨n.toNat, by omega⟩
  have C := hid (new_any _ w _ l HL.out.1 HL.out.2.1 (by omega) HL.out.2.2)
  have t3' : (N : Int) ≤ 300 := by omega
  have LB := hid (Nat.le_of_not_lt t1)
  have t2' : (0 : Int) ≤ (N : Int) := by omega
  clear t1 t2 t3
  go_enter Try.func3, Try.ntmps3
  go_wp2_with fail
  refine C.out.mono ?_
  rintro e w1 ⟨b, rfl, D, X⟩
  have DB := D.lt
  have D1 := hid (D.mono (L := fun _ => True) (fun _ _ _ => True.intro))
  have B1 : Hid (w.heap.size ≤ b) := D.its
  have X1 := hid X
  have R1 := HL.out.1.kept (.of_ext X)
  have C1 := hid (refAll_any _ w1 _ l N R1 HL.out.2.2 (by have := LB.out; omega) (by omega))
  clear D X C R1
  go_wp2_with fail
  refine C1.out.mono ?_
  rintro e w2 ⟨v', rfl, NU⟩
  have R2 := hid (NU.row.mono (L := fun i => i ≠ b) (by decide) (fun i hi hs => by omega))
  have D2 := hid (D1.out.ext NU.2)
  have X2 := hid (X1.out.trans NU.2)
  obtain ⟨a', n', c', e', h1, h2, h3, _⟩ := NU.row
  have en : n' = N := by rw [ucells_length, drs_length] at h1; omega
  subst en
  subst e'
  unfold maxLen at h3
  clear NU C1 D1 X1 h1 DB
  go_wp2_with fail
  go_loopw [28] (fun i wr => ∃ k : Nat, k ≤ n' ∧ i = .int .i64 (k : Int) ∧ Drw (fun _ => True) wr b l k ∧ RowK (fun i => i ≠ b) wr (.slice a' n' c') 1 (ucells (drs l n')) ∧ Ext w wr) (fun i _ => (n' - intOf i).toNat)
  case atStart => exact ⟨0, by omega, rfl, D2.out, R2.out, X2.out⟩
  case round =>
    obtain ⟨k, hk, rfl, D, R, X⟩ := hrel
    obtain ⟨w3, rfl⟩ : ∃ w3, w3 = wr := ⟨_, rfl⟩
    clear R2 D2 X2
    by_cases q : k < n'
    · have R3 := hid R
      have D3 := hid D
      have X3 := hid X
      obtain ⟨ao1, n1, c1, e1, _, _, _, h4⟩ := R
      simp only [Value.slice.injEq] at e1
      obtain ⟨rfl, rfl, rfl⟩ := e1
      obtain ⟨g, o, rfl, _, hc⟩ := h4 (by omega)
      have x1 := hc k _ (by rw [ucells_at _ k (by rw [drs_length]; exact q), List.getD_eq_getElem?_getD, drs_at _ _ _ q])
      simp only [Option.getD_some] at x1
      have CA := hid (at_any _ b l k k w3 D (by omega))
      have CT := hid (told_any _ b l k w3 D)
      have CN := hid (next_any _ b l k w3 D (by omega))
      have D4 := hid (D.tells (k + 1))
      have R4 := hid (R3.out.kept (tells_kept w3 b (k + 1) (fun h => h rfl)))
      have X4 := hid (tells_ext X B1.out (k + 1))
      have i1 : (k : Int) < (n' : Int) := by omega
      have i2 : (0 : Int) ≤ (k : Int) := by omega
      clear hc h4 D X
      generalize dr l k = z at *
      go_wp2_with fail
      refine CA.out.mono ?_
      rintro e w4 ⟨rfl, rfl⟩
      go_wp2_with fail
      refine CT.out.mono ?_
      rintro e w5 ⟨rfl, rfl⟩
      go_wp2_with fail
      refine CN.out.mono ?_
      rintro e w6 ⟨rfl, rfl⟩
      go_wp2_with fail
      go_roundw
      case rel => exact ⟨k + 1, by omega, by go_num, D4.out, R4.out, X4.out⟩
      case measure => simp [intOf]; omega
    · obtain rfl : k = n' := by omega
      have CT := hid (told_any _ b l k w3 D)
      have X3 := hid X
      clear D R X q
      go_wp2_with fail
      refine CT.out.mono ?_
      rintro e w5 ⟨rfl, rfl⟩
      go_wp2_with fail
      refine (awake_any _).mono ?_
      rintro e w6 ⟨rfl, X6⟩
      have X7 := hid (X3.out.trans X6)
      clear X6
      go_wp2_with fail
      go_ret
      exact ⟨rfl, X7.out⟩
end Go.Proofs.Ytpdgicnapidkeaa.drawsNext

/-
  The walk of the reference's Lasted.
-/
import Derived.Test.YtgdjdcedjegkjaaTrpOps
namespace Go.Proofs.Ytgdjdcedjegkjaa.Trp
set_option linter.unusedVariables false
set_option maxRecDepth 100000
open Go.RowKit Go.Lib

/-- one of three -/
def val (a e h : Int) (k : Nat) : Int := if k = 0 then a else if k = 1 then e else h
def Good (x : Int) : Prop := 0 ≤ x ∧ x ≤ 1099511627776
theorem lasted_one (a e h : Int) (k : Nat) (hk : k < 3) (q : ¬ Good (val a e h k)) : lasted a e h = -1 := by
  apply lasted_bad
  unfold Good val at q
  match k, hk with
  | 0, _ => simp at q; omega
  | 1, _ => simp at q; omega
  | 2, _ => simp at q; omega

set_option maxHeartbeats 2000000 in
theorem ref_lasted (a e h : Int) (w : World) : Calls Try.prog 14 #[.int .i64 a, .int .i64 e, .int .i64 h] w fun r w' => r = .returned (.int .i64 (lasted a e h)) ∧ Ext w w' := by
  obtain ⟨W1, e1⟩ : ∃ W1, W1 = w.alloc (.cells #[.int .i64 a, .int .i64 e, .int .i64 h] 51) := ⟨_, rfl⟩
  have r1 : W1.heap[w.heap.size]? = some (.cells #[.int .i64 a, .int .i64 e, .int .i64 h] 51 (0, 0)) := by rw [e1]; exact heap_alloc_new w _
  have CS : Hid (∀ k : Nat, k < 3 → W1.cell? ⟨w.heap.size, k, none⟩ = some (.int .i64 (val a e h k))) := fun k hk => by
    rw [cell_of_row _ _ k _ _ _ r1]
    match k, hk with
    | 0, _ => rfl
    | 1, _ => rfl
    | 2, _ => rfl
  have X1 : Hid (Ext w W1) := by show Ext w W1; rw [e1]; exact (Ext.refl w).alloc _
  have E1 := hid e1
  have BAD := hid (lasted_one a e h)
  obtain ⟨Z, eZ⟩ : ∃ Z, Z = lasted a e h := ⟨_, rfl⟩
  rw [← eZ]
  have EZ := hid eZ
  clear e1 r1 eZ
  go_enter Try.func14, Try.ntmps14
  go_wp2_with fail
  rw [← E1.out]
  go_loopw [8] (fun iv wr => ∃ k : Nat, k ≤ 3 ∧ iv = .int .i64 (k : Int) ∧ wr = W1 ∧ Hid (∀ j, j < k → Good (val a e h j))) (fun iv _ => (3 - RowKit.intOf iv).toNat)
  case atStart => exact ⟨0, by omega, rfl, rfl, fun j hj => absurd hj (Nat.not_lt_zero _)⟩
  case round =>
    obtain ⟨k, hk, rfl, rfl, GG⟩ := hrel
    by_cases q : k < 3
    · have y := CS.out k q
      have B := hid (BAD.out k q)
      have NX : Hid (Good (val a e h k) → ∀ j, j < k + 1 → Good (val a e h j)) := fun g j hj => by
        by_cases ej : j = k
        · subst ej; exact g
        · exact GG.out j (by omega)
      obtain ⟨x, ex⟩ : ∃ x, x = val a e h k := ⟨_, rfl⟩
      rw [← ex] at y B NX
      clear CS BAD GG ex E1
      have k3 : k = 0 ∨ k = 1 ∨ k = 2 := by omega
      by_cases x0 : x < 0
      · have el := B.out (fun g => by have := g.1; omega)
        have FZ : Hid (-1 = Z) := (EZ.out.trans el).symm
        clear el B NX EZ
        rcases k3 with rfl | rfl | rfl
        all_goals
          go_wp2_with fail
          go_ret
          exact ⟨ret_int FZ.out, X1.out⟩
      by_cases x1 : 1099511627776 < x
      · have el := B.out (fun g => by have := g.2; omega)
        have FZ : Hid (-1 = Z) := (EZ.out.trans el).symm
        clear el B NX EZ
        rcases k3 with rfl | rfl | rfl
        all_goals
          go_wp2_with fail
          go_ret
          exact ⟨ret_int FZ.out, X1.out⟩
      · have G2 := hid (NX.out ⟨by omega, by omega⟩)
        clear B NX
        rcases k3 with rfl | rfl | rfl
        · go_wp2_with fail
          go_roundw
          case rel => exact ⟨1, by omega, rfl, trivial, G2⟩
          case measure => simp [RowKit.intOf]
        · go_wp2_with fail
          go_roundw
          case rel => exact ⟨2, by omega, rfl, trivial, G2⟩
          case measure => simp [RowKit.intOf]
        · go_wp2_with fail
          go_roundw
          case rel => exact ⟨3, by omega, rfl, trivial, G2⟩
          case measure => simp [RowKit.intOf]
    · obtain rfl : k = 3 := by omega
      obtain ⟨a0, a1⟩ : Good a := GG.out 0 (by decide)
      obtain ⟨e0, e1⟩ : Good e := GG.out 1 (by decide)
      obtain ⟨h0, h1⟩ : Good h := GG.out 2 (by decide)
      have w1 : IntKind.i64.wrap (a - e) = a - e := IntWalk.i64_in _ (by omega)
      have w2 : IntKind.i64.wrap (a - e - h) = a - e - h := IntWalk.i64_in _ (by omega)
      clear GG CS BAD E1 q hk
      by_cases q0 : a - e - h < 0
      · have FZ : Hid (-1 = Z) := (EZ.out.trans (lasted_bad a e h (by omega))).symm
        go_wp2_with fail
        go_ret
        exact ⟨ret_int FZ.out, X1.out⟩
      by_cases q1 : 1048576 < a - e - h
      · have FZ : Hid (-1 = Z) := (EZ.out.trans (lasted_bad a e h (by omega))).symm
        go_wp2_with fail
        go_ret
        exact ⟨ret_int FZ.out, X1.out⟩
      have el := EZ.out.trans (lasted_good a e h (by omega))
      by_cases q2 : a - e - h = 0
      · have FZ : Hid (1 = Z) := by show _ = _; omega
        clear el
        go_wp2_with fail
        go_ret
        exact ⟨ret_int FZ.out, X1.out⟩
      · have FZ : Hid (a - e - h = Z) := by show _ = _; omega
        clear el
        go_wp2_with fail
        go_ret
        exact ⟨ret_int FZ.out, X1.out⟩
end Go.Proofs.Ytgdjdcedjegkjaa.Trp

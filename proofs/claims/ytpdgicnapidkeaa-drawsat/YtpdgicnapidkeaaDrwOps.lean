/-
  Walks of package draws' calls: what each returns, and what it leaves in memory.
-/
import Derived.Test.YtpdgicnapidkeaaDrwRow
import Derived.Laws.LoneSync
import Derived.Laws.Pointers
import Derived.Laws.NewBlocks
import Derived.WalkKit
import Derived.WalkSpells
import Derived.WalkLawsBesides
import Derived.Laws.BitsLemmas
import Derived.Handy
namespace Go.Proofs.Ytpdgicnapidkeaa
set_option linter.unusedVariables false
set_option maxRecDepth 100000
open Go.RowKit Go.Lib

/-- in block b lie draws of the list l, of which n were told; they lie in blocks of S -/
def Drw (S : Nat → Prop) (w : World) (b : Nat) (l : List Int) (n : Nat) : Prop :=
  ∃ v, w.heap[b]? = some (.cells #[v, .int .i64 (n : Int)] 47 (0, 0)) ∧ RowK (fun i => S i ∧ i ≠ b) w v 1 (ucells l) ∧ Plain v ∧ S b ∧ Room l ∧ l.length ≤ 1000
theorem Drw.kept {S : Nat → Prop} {w w' : World} {b : Nat} {l : List Int} {n : Nat} (h : Drw S w b l n) (k : Kept S w w') : Drw S w' b l n := by
  obtain ⟨v, h1, h2, h3, h4, h5⟩ := h
  exact ⟨v, k.row h4 h1, h2.kept (k.mono fun i hi => hi.1), h3, h4, h5⟩
theorem Drw.ext {S : Nat → Prop} {w w' : World} {b : Nat} {l : List Int} {n : Nat} (h : Drw S w b l n) (k : Ext w w') : Drw S w' b l n := h.kept (.of_ext k)
theorem Drw.mono {S L : Nat → Prop} {w : World} {b : Nat} {l : List Int} {n : Nat} (h : Drw S w b l n) (hL : ∀ i, i < w.heap.size → S i → L i) : Drw L w b l n := by
  obtain ⟨v, h1, h2, h3, h4, h5⟩ := h
  exact ⟨v, h1, h2.mono (by decide) (fun i hi hs => ⟨hL i hi hs.1, hs.2⟩), h3, hL b (lt_of_row h1) h4, h5⟩
theorem Drw.lt {S : Nat → Prop} {w : World} {b : Nat} {l : List Int} {n : Nat} (h : Drw S w b l n) : b < w.heap.size := by
  obtain ⟨v, h1, _⟩ := h
  exact lt_of_row h1
theorem Drw.its {S : Nat → Prop} {w : World} {b : Nat} {l : List Int} {n : Nat} (h : Drw S w b l n) : S b := by
  obtain ⟨v, _, _, _, h4, _⟩ := h
  exact h4
theorem Drw.room {S : Nat → Prop} {w : World} {b : Nat} {l : List Int} {n : Nat} (h : Drw S w b l n) : Room l := by
  obtain ⟨v, _, _, _, _, h5, _⟩ := h
  exact h5
theorem Drw.cell {S : Nat → Prop} {w : World} {b : Nat} {l : List Int} {n : Nat} (h : Drw S w b l n) : w.cell? ⟨b, 1, none⟩ = some (.int .i64 (n : Int)) := by
  obtain ⟨v, h1, _⟩ := h
  rw [cell_of_row w b 1 _ _ _ h1]
  rfl
theorem Drw.cool {S : Nat → Prop} {w : World} {b : Nat} {l : List Int} {n : Nat} (h : Drw S w b l n) : w.frozen? ⟨b, 1, none⟩ = false := by
  obtain ⟨v, h1, _⟩ := h
  exact frozen_of_row w b 1 _ _ h1
/-- the world behind: m were told -/
def tells (w : World) (b : Nat) (m : Nat) : World := w.setCell ⟨b, 1, none⟩ (.int .i64 (m : Int))
theorem tells_kept (w : World) (b m : Nat) {K : Nat → Prop} (h : ¬ K b) : Kept K w (tells w b m) := (Kept.refl K w).setCell h _
theorem Drw.tells {S : Nat → Prop} {w : World} {b : Nat} {l : List Int} {n : Nat} (h : Drw S w b l n) (m : Nat) : Drw S (tells w b m) b l m := by
  obtain ⟨v, h1, h2, h3, h4, h5⟩ := h
  refine ⟨v, ?_, h2.kept (tells_kept w b m (fun hk => hk.2 rfl)), h3, h4, h5⟩
  have := heap_setCell_same w b 1 _ 47 (.int .i64 (m : Int)) h1
  exact this

theorem and_first (x : Int) : bits .and .i64 x 1 = x % 2 := by
  show IntKind.i64.wrap ((BitVec.ofInt 64 x &&& BitVec.ofInt 64 1).toNat : Int) = _
  have h1 : (BitVec.ofInt 64 1).toNat = 2 ^ 1 - 1 := by decide
  rw [BitVec.toNat_and, h1, Nat.and_two_pow_sub_one_eq_mod, BitVec.toNat_ofInt, IntKind.wrap_i64]
  omega

set_option maxHeartbeats 1000000 in
theorem behind_any (x : Int) (n : Nat) (hx : 0 ≤ x) (hx' : x < 4294967296) (hn : (n : Int) < 4611686018427387904) (w : World) :
    Calls Try.prog 21 #[.int .u32 x, .int .i64 (n : Int)] w fun e w' => e = .returned (.int .u32 (affs 1664525 1013904223 n x)) ∧ w' = w := by
  obtain ⟨A, eA⟩ : ∃ A, affs 1664525 1013904223 n x = A := ⟨_, rfl⟩
  rw [eA]
  have EA := hid eA
  have HN := hid hn
  clear eA hn
  go_enter Try.func21, Try.ntmps21
  go_wp2_with fail
  go_loop [0, 1, 5, 6] (fun y s t p => ∃ (Y T P : Int) (k : Nat), y = .int .u32 Y ∧ s = .int .i64 (k : Int) ∧ t = .int .u32 T ∧ p = .int .u32 P ∧ (0 ≤ Y ∧ Y < 4294967296) ∧ (0 ≤ T ∧ T < 4294967296) ∧ (0 ≤ P ∧ P < 4294967296) ∧ Hid ((k : Int) < 4611686018427387904) ∧ Hid (affs T P k Y = A)) (fun _ s _ _ => (intOf s).toNat)
  case atStart => exact ⟨x, 1664525, 1013904223, n, rfl, rfl, rfl, rfl, ⟨hx, hx'⟩, by omega, by omega, HN, EA⟩
  case round =>
    obtain ⟨Y, T, P, k, rfl, rfl, rfl, rfl, y1, t1, p1, hk, E⟩ := hrel
    have Y1 := hid y1
    clear y1 t1 p1
    by_cases q : k = 0
    · subst q
      go_wp2_with fail
      go_ret
      exact ⟨ret_int E.out, rfl⟩
    · have q1 : (0 : Int) < (k : Int) := by omega
      obtain ⟨m, hm⟩ : ∃ m : Nat, k = 2 * m + 1 ∨ k = 2 * m := ⟨k / 2, by omega⟩
      obtain ⟨j, ej⟩ : ∃ j : Int, j = (k : Int) := ⟨_, rfl⟩
      rw [← ej] at q1
      rw [← ej]
      rcases hm with rfl | rfl
      · have z1 : bits .and .i64 j 1 = 1 := by rw [and_first]; omega
        have jm : Hid (j / 2 = (m : Int)) := by show _ = _; omega
        have jk : Hid ((m : Int) < 4611686018427387904) := by have := hk.out; show _ < _; omega
        have E2 : Hid (affs (T * T % 4294967296) ((P + P * T % 4294967296) % 4294967296) m ((Y * T % 4294967296 + P) % 4294967296) = A) := by
          show _ = _
          rw [← E.out, affs, affs_two]
          unfold aff
          rw [Int.emod_add_emod, Int.mul_comm Y T]
        clear q ej hk E EA
        go_wp2_with fail
        go_round
        case rel => exact ⟨_, _, _, m, rfl, by rw [jm.out], rfl, rfl, by omega, by omega, by omega, jk, E2⟩
        case measure => simp [intOf]; omega
      · have z1 : bits .and .i64 j 1 = 0 := by rw [and_first]; omega
        have jm : Hid (j / 2 = (m : Int)) := by show _ = _; omega
        have jk : Hid ((m : Int) < 4611686018427387904) := by have := hk.out; show _ < _; omega
        have E2 : Hid (affs (T * T % 4294967296) ((P + P * T % 4294967296) % 4294967296) m Y = A) := by
          show _ = _
          rw [← E.out, affs_two]
        clear q ej hk E EA
        go_wp2_with fail
        go_round
        case rel => exact ⟨_, _, _, m, rfl, by rw [jm.out], rfl, rfl, Y1.out, by omega, by omega, jk, E2⟩
        case measure => simp [intOf]; omega

set_option maxHeartbeats 1000000 in
theorem draw_any (S : Nat → Prop) (b : Nat) (l : List Int) (n i : Nat) (w : World) (h : Drw S w b l n) (hi : (i : Int) < 1000000) :
    Calls Try.prog 17 #[.pointer (some ⟨b, 0, none⟩), .int .i64 (i : Int)] w fun e w' => e = .returned (.int .u32 (dr l i)) ∧ w' = w := by
  obtain ⟨v, h1, ⟨ao, m, c, rfl, e1, e2, e3, e4⟩, h3, h4, h5, h6⟩ := h
  have em : m = l.length := by rw [ucells_length] at e1; omega
  subst em
  have c0 : w.cell? ⟨b, 0, none⟩ = some (.slice ao l.length c) := by rw [cell_of_row w b 0 _ _ _ h1]; rfl
  have LR := hid (lastOf_room h5)
  unfold maxLen at e3
  clear h1 h3 h4 e1
  by_cases q : i < l.length
  · obtain ⟨g, o, rfl, hg, hc⟩ := e4 (by omega)
    have x1 := hc i _ (ucells_at l i q)
    have ED := hid (dr_in l i q)
    have i1 : (i : Int) < (l.length : Int) := by omega
    have i2 : (0 : Int) ≤ (i : Int) := by omega
    clear hc e4 hg h5
    generalize l.getD i 0 = x at *
    generalize dr l i = y at *
    go_enter Try.func17, Try.ntmps17
    go_wp2_with fail
    go_ret
    exact ⟨ret_int ED.out.symm, rfl⟩
  · have ED : Hid (dr l i = affs 1664525 1013904223 (i - l.length + 1) (lastOf l)) := by show _ = _; unfold dr; rw [if_neg q]
    have B := hid (behind_any (lastOf l) (i - l.length + 1) LR.out.1 LR.out.2 (by omega) w)
    rw [show ((i - l.length + 1 : Nat) : Int) = (i : Int) - (l.length : Int) + 1 by omega] at B
    have i1 : ¬ (i : Int) < (l.length : Int) := by omega
    clear h5 LR
    generalize dr l i = y at *
    generalize affs 1664525 1013904223 (i - l.length + 1) (lastOf l) = z at *
    by_cases p : 0 < l.length
    · obtain ⟨g, o, rfl, hg, hc⟩ := e4 p
      have x1 := hc (l.length - 1) _ (ucells_at l (l.length - 1) (by omega))
      have EL : Hid (l.getD (l.length - 1) 0 = lastOf l) := rfl
      obtain ⟨L, eL⟩ : ∃ L : Int, L = (l.length : Int) := ⟨_, rfl⟩
      have j1 : ((L - 1).toNat) = l.length - 1 := by omega
      have j2 : (0 : Int) ≤ L - 1 := by omega
      have j3 : L - 1 < (l.length : Int) := by omega
      clear hc e4 hg
      generalize l.getD (l.length - 1) 0 = x at *
      generalize lastOf l = y at *
      go_enter Try.func17, Try.ntmps17
      obtain rfl := EL.out
      go_wp2_with fail
      refine B.out.mono ?_
      rintro e w' ⟨rfl, rfl⟩
      go_wp2_with fail
      go_ret
      exact ⟨ret_int ED.out.symm, rfl⟩
    · have e0 : l = [] := List.eq_nil_of_length_eq_zero (by omega)
      subst e0
      rw [show lastOf [] = 0 by rfl] at B
      clear e4 h6 q p
      obtain ⟨j, ej⟩ : ∃ j : Int, j = (i : Int) := ⟨_, rfl⟩
      have j1 : 0 ≤ j := by omega
      have j2 : j < 1000000 := by omega
      rw [← ej] at B
      rw [← ej]
      have B2 : Hid (Calls Try.prog 21 #[.int .u32 0, .int .i64 (j + 1)] w fun e w' => e = .returned (.int .u32 z) ∧ w' = w) := by
        have := B.out
        rw [show (([] : List Int).length : Int) = 0 by rfl, Int.sub_zero] at this
        exact this
      have c1 : w.cell? ⟨b, 0, none⟩ = some (.slice ao 0 c) := c0
      clear B i1 ej hi e2 c0
      go_enter Try.func17, Try.ntmps17
      go_wp2_with fail
      refine B2.out.mono ?_
      rintro e w' ⟨rfl, rfl⟩
      go_wp2_with fail
      go_ret
      exact ⟨ret_int ED.out.symm, rfl⟩

set_option maxHeartbeats 1000000 in
theorem word_load (a : Addr) (x : Int) (w : World) (h : w.cell? a = some (.int .i64 x)) :
    Calls Try.prog 18 #[.pointer (some a)] w fun e w' => e = .returned (.int .i64 x) ∧ w' = w := by
  have l0 := run_call_load (P := Try.prog) Try.func22 (by kernel_rfl) (by kernel_rfl) (by kernel_rfl) .i64 (by kernel_rfl) h
  go_enter Try.func18, Try.ntmps18
  go_wp2
  go_ret
  exact ⟨rfl, rfl⟩

set_option maxHeartbeats 1000000 in
theorem word_add (a : Addr) (x : Int) (w : World) (h : w.cell? a = some (.int .i64 x)) (hz : w.frozen? a = false) (hx : -1000000 ≤ x) (hx' : x ≤ 1000000) :
    Calls Try.prog 19 #[.pointer (some a), .int .i64 1] w fun e w' => e = .returned (.int .i64 (x + 1)) ∧ w' = w.setCell a (.int .i64 (x + 1)) := by
  have l0 := run_call_add (P := Try.prog) Try.func23 (by kernel_rfl) (by kernel_rfl) (by kernel_rfl) .i64 (by kernel_rfl) (y := 1) (s := x + 1) h hz (by simp [go_sem]; rw [IntKind.wrap_i64]; omega)
  go_enter Try.func19, Try.ntmps19
  go_wp2
  go_ret
  exact ⟨rfl, rfl⟩

set_option maxHeartbeats 1000000 in
theorem word_store (a : Addr) (x : Value) (y : Int) (w : World) (h : w.cell? a = some x) (hz : w.frozen? a = false) :
    Calls Try.prog 20 #[.pointer (some a), .int .i64 y] w fun e w' => e = .returned (.tuple #[]) ∧ w' = w.setCell a (.int .i64 y) := by
  have put := run_call_store (P := Try.prog) Try.func24 (by kernel_rfl) (by kernel_rfl) (by kernel_rfl) (by kernel_rfl) (k := .i64) (y := y) h hz
  go_enter Try.func20, Try.ntmps20
  go_wp2
  go_returns
  exact ⟨rfl, rfl⟩
end Go.Proofs.Ytpdgicnapidkeaa

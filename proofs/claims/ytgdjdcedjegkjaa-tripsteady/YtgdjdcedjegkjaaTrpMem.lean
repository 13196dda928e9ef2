/-
  A trip in memory; walks of Smooth, New, isTick, take, Sample, Get, Known, Ticks, Copy, and of the reference's Lasted and Next.
-/
import Derived.Test.YtgdjdcedjegkjaaTrpMath
import Derived.Test.YtgdjdcedjegkjaaRowAny
import Derived.Test.YtgdjdcedjegkjaaEverMore
import Derived.BigRegion
namespace Go.Proofs.Ytgdjdcedjegkjaa.Trp
set_option linter.unusedVariables false
set_option maxRecDepth 100000
open Go.RowKit Go.Lib

/-- a trip's cells -/
def trow (s : TS) : Array Value := #[.int .u64 s.1, .int .i64 s.2]
def TrpV (w : World) (b : Nat) (s : TS) : Prop := Fit s ∧ w.heap[b]? = some (.cells (trow s) 47 (0, 0))
theorem TrpV.c0 {w : World} {b : Nat} {s : TS} (h : TrpV w b s) : w.cell? ⟨b, 0, none⟩ = some (.int .u64 s.1) := by
  rw [cell_of_row _ _ 0 _ _ _ h.2]; rfl
theorem TrpV.c1 {w : World} {b : Nat} {s : TS} (h : TrpV w b s) : w.cell? ⟨b, 1, none⟩ = some (.int .i64 s.2) := by
  rw [cell_of_row _ _ 1 _ _ _ h.2]; rfl
theorem TrpV.free {w : World} {b : Nat} {s : TS} (h : TrpV w b s) (i : Nat) : w.frozen? ⟨b, i, none⟩ = false := frozen_of_row _ _ _ _ _ h.2
theorem TrpV.lt {w : World} {b : Nat} {s : TS} (h : TrpV w b s) : b < w.heap.size := lt_of_row h.2
theorem TrpV.kept {K : Nat → Prop} {w w' : World} {b : Nat} {s : TS} (h : TrpV w b s) (k : Kept K w w') (hb : K b) : TrpV w' b s := ⟨h.1, k.row hb h.2⟩
theorem TrpV.ext {w w' : World} {b : Nat} {s : TS} (h : TrpV w b s) (e : Ext w w') : TrpV w' b s := ⟨h.1, e.row h.2⟩
/-- one cell written, the other one as it was: a row of two numbers -/
def Row2 (w : World) (b : Nat) (g n : Int) : Prop := w.heap[b]? = some (.cells #[.int .u64 g, .int .i64 n] 47 (0, 0))
theorem Row2.put0 {w : World} {b : Nat} {g n : Int} (h : Row2 w b g n) (x : Int) : Row2 (w.setCell ⟨b, 0, none⟩ (.int .u64 x)) b x n ∧ Kept (fun q => q ≠ b) w (w.setCell ⟨b, 0, none⟩ (.int .u64 x)) := by
  refine ⟨?_, (Kept.refl _ w).setCell (fun hne => hne rfl) _⟩
  unfold Row2
  rw [setCell_eq_setRow _ _ _ _ _ _ _ h]
  exact setRow_heap _ _ _ _ _ _ h
theorem Row2.put1 {w : World} {b : Nat} {g n : Int} (h : Row2 w b g n) (x : Int) : Row2 (w.setCell ⟨b, 1, none⟩ (.int .i64 x)) b g x ∧ Kept (fun q => q ≠ b) w (w.setCell ⟨b, 1, none⟩ (.int .i64 x)) := by
  refine ⟨?_, (Kept.refl _ w).setCell (fun hne => hne rfl) _⟩
  unfold Row2
  rw [setCell_eq_setRow _ _ _ _ _ _ _ h]
  exact setRow_heap _ _ _ _ _ _ h
theorem Row2.c1 {w : World} {b : Nat} {g n : Int} (h : Row2 w b g n) : w.cell? ⟨b, 1, none⟩ = some (.int .i64 n) := by
  rw [cell_of_row _ _ 1 _ _ _ h]; rfl
theorem Row2.free {w : World} {b : Nat} {g n : Int} (h : Row2 w b g n) (i : Nat) : w.frozen? ⟨b, i, none⟩ = false := frozen_of_row _ _ _ _ _ h

set_option maxHeartbeats 1000000 in
theorem smooth_any (a b : Int) (ha : 0 ≤ a) (ha' : a ≤ 4503599627370496) (hb : 0 ≤ b) (hb' : b ≤ 4503599627370496) (w : World) :
    Calls Try.prog 22 #[.int .u64 a, .int .u64 b, .int .i64 3] w fun e w' => e = .returned (.int .u64 (a - a / 8 + b / 8)) ∧ w' = w := by
  have e1 : fhalf a 3 = a / 8 := by unfold fhalf; rw [if_neg (by decide), if_neg (by decide)]; rfl
  have e2 : fhalf b 3 = b / 8 := by unfold fhalf; rw [if_neg (by decide), if_neg (by decide)]; rfl
  have e3 : fsub a (a / 8) = a - a / 8 := by unfold fsub; rw [if_neg (by omega)]
  have e4 : fadd (a - a / 8) (b / 8) = a - a / 8 + b / 8 := by unfold fadd; rw [if_neg (by omega)]
  have q1 := half_any a 3 ha (by omega) w
  have q2 := half_any b 3 hb (by omega) w
  rw [e1] at q1
  rw [e2] at q2
  have q3 := sub_any a (a / 8) ha (by omega) (by omega) (by omega) w
  rw [e3] at q3
  have q4 := add_any (a - a / 8) (b / 8) (by omega) (by omega) (by omega) (by omega) w
  rw [e4] at q4
  obtain ⟨A, eA⟩ : ∃ A, A = a / 8 := ⟨_, rfl⟩
  obtain ⟨B, eB⟩ : ∃ B, B = b / 8 := ⟨_, rfl⟩
  rw [← eA] at q1 q3 q4
  rw [← eB] at q2 q4
  rw [← eA, ← eB]
  obtain ⟨C, eC⟩ : ∃ C, C = a - A := ⟨_, rfl⟩
  rw [← eC] at q3 q4
  rw [← eC]
  obtain ⟨D, eD⟩ : ∃ D, D = C + B := ⟨_, rfl⟩
  rw [← eD] at q4
  rw [← eD]
  have Q1 := hid q1
  have Q2 := hid q2
  have Q3 := hid q3
  have Q4 := hid q4
  clear q1 q2 q3 q4 eA eB eC eD e1 e2 e3 e4
  go_enter Try.func22, Try.ntmps22
  go_wp2_with fail
  refine Q1.out.mono ?_
  rintro e w' ⟨rfl, rfl⟩
  go_wp2_with fail
  refine Q3.out.mono ?_
  rintro e w' ⟨rfl, rfl⟩
  go_wp2_with fail
  refine Q2.out.mono ?_
  rintro e w' ⟨rfl, rfl⟩
  go_wp2_with fail
  refine Q4.out.mono ?_
  rintro e w' ⟨rfl, rfl⟩
  go_wp2
  go_ret
  exact ⟨rfl, rfl⟩

theorem new_any (f : Int) (h0 : 0 ≤ f) (h1 : f < 18446744073709551616) (w : World) : Calls Try.prog 12 #[.int .u64 f] w fun e w' => ∃ b, e = .returned (.pointer (some ⟨b, 0, none⟩)) ∧ TrpV w' b (tnew f) ∧ w.heap.size ≤ b ∧ Ext w w' := by
  have F := hid (fit_new f h1)
  by_cases q : f < 4294967296
  · have et : Hid (tnew f = (4294967296, 0)) := by show _ = _; unfold tnew; rw [Int.max_eq_right (by omega)]
    go_enter Try.func12, Try.ntmps12
    go_wp2_with fail
    go_ret
    refine ⟨_, rfl, ⟨F.out, ?_⟩, Nat.le_refl _, (Ext.refl w).alloc _⟩
    rw [et.out]
    exact heap_alloc_new w _
  · have et : Hid (tnew f = (f, 0)) := by show _ = _; unfold tnew; rw [Int.max_eq_left (by omega)]
    go_enter Try.func12, Try.ntmps12
    go_wp2_with fail
    go_ret
    refine ⟨_, rfl, ⟨F.out, ?_⟩, Nat.le_refl _, (Ext.refl w).alloc _⟩
    rw [et.out]
    exact heap_alloc_new w _

theorem istick_any (a : Int) (w : World) : Calls Try.prog 20 #[.int .i64 a] w fun e w' => e = .returned (.bool (decide (0 ≤ a ∧ a ≤ 1099511627776))) ∧ w' = w := by
  by_cases h0 : 0 ≤ a
  · by_cases h1 : a ≤ 1099511627776
    · rw [decide_eq_true ⟨h0, h1⟩]
      go_enter Try.func20, Try.ntmps20
      go_wp2_with fail
      go_ret
      exact ⟨rfl, rfl⟩
    · rw [decide_eq_false (fun h => h1 h.2)]
      go_enter Try.func20, Try.ntmps20
      go_wp2_with fail
      go_ret
      exact ⟨rfl, rfl⟩
  · rw [decide_eq_false (fun h => h0 h.1)]
    go_enter Try.func20, Try.ntmps20
    go_wp2_with fail
    go_ret
    exact ⟨rfl, rfl⟩

theorem take_any (b : Nat) (s : TS) (x : Int) (w : World) (h : TrpV w b s) (hn : s.2 ≤ 1000) (hx : 1 ≤ x) (hx' : x ≤ 1048576) :
    Calls Try.prog 21 #[.pointer (some ⟨b, 0, none⟩), .int .u64 (x * 4294967296)] w fun e w' => e = .returned (.tuple #[]) ∧ TrpV w' b (tst s x) ∧ Kept (fun q => q ≠ b) w w' := by
  have c0 := h.c0
  have c1 := h.c1
  have fr0 := h.free 0
  have fr1w := h.free 1
  have f1 := h.1.2.2.1
  have f0 := h.1.1
  have f4 := h.1.2.2.2
  have FT := hid (fit_step (x := x) h.1 (.inr ⟨hx, hx'⟩))
  have e : tst s x = (nxt s.1 s.2 x, s.2 + 1) := by unfold tst; rw [if_neg (by omega)]
  have P0 : Row2 (w.setCell ⟨b, 0, none⟩ (.int .u64 (nxt s.1 s.2 x))) b (nxt s.1 s.2 x) s.2 ∧ Kept (fun q => q ≠ b) w (w.setCell ⟨b, 0, none⟩ (.int .u64 (nxt s.1 s.2 x))) := Row2.put0 (g := s.1) (n := s.2) h.2 _
  have P1 := P0.1.put1 (s.2 + 1)
  have c1' := P0.1.c1
  have fr1 := P0.1.free 1
  have FIN : Hid (TrpV ((w.setCell ⟨b, 0, none⟩ (.int .u64 (nxt s.1 s.2 x))).setCell ⟨b, 1, none⟩ (.int .i64 (s.2 + 1))) b (tst s x) ∧ Kept (fun q => q ≠ b) w ((w.setCell ⟨b, 0, none⟩ (.int .u64 (nxt s.1 s.2 x))).setCell ⟨b, 1, none⟩ (.int .i64 (s.2 + 1)))) :=
    ⟨⟨FT.out, by rw [e]; exact P1.1⟩, P0.2.trans P1.2⟩
  obtain ⟨g, n⟩ := s
  simp only at c0 c1 f0 f1 f4 c1' fr1 hn
  clear P0 P1 e FT h
  by_cases n0 : n = 0
  · subst n0
    have en : nxt g 0 x = x * 4294967296 := by unfold nxt; rw [if_pos rfl]
    simp only at FIN
    rw [en] at FIN c1' fr1
    clear en f4
    obtain ⟨y, ey⟩ : ∃ y, y = x * 4294967296 := ⟨_, rfl⟩
    rw [← ey] at FIN c1' fr1 ⊢
    clear ey
    obtain ⟨W1, e1⟩ : ∃ W1, W1 = w.setCell ⟨b, 0, none⟩ (.int .u64 y) := ⟨_, rfl⟩
    rw [← e1] at FIN c1' fr1
    have E1 := hid e1
    clear e1
    go_enter Try.func21, Try.ntmps21
    go_wp2_with fail
    rw [← E1.out]
    refine bodyPost_end (results_none Try.results21 _ _ _) rfl ?_
    exact ⟨rfl, FIN.out⟩
  · have f5 := f4 (by omega)
    have en : nxt g n x = g - g / 8 + x * 4294967296 / 8 := by unfold nxt; rw [if_neg n0]
    have SM := hid (smooth_any g (x * 4294967296) (by omega) f5 (by omega) (by omega) w)
    rw [← en] at SM
    obtain ⟨y, ey⟩ : ∃ y, y = nxt g n x := ⟨_, rfl⟩
    simp only at FIN
    rw [← ey] at FIN c1' fr1 SM
    obtain ⟨W1, e1⟩ : ∃ W1, W1 = w.setCell ⟨b, 0, none⟩ (.int .u64 y) := ⟨_, rfl⟩
    rw [← e1] at FIN c1' fr1
    have E1 := hid e1
    clear e1 ey en f4
    go_enter Try.func21, Try.ntmps21
    go_wp2_with fail
    refine SM.out.mono ?_
    rintro e w' ⟨rfl, ew⟩
    obtain rfl : w = w' := ew.symm
    go_wp2_with fail
    rw [← E1.out]
    refine bodyPost_end (results_none Try.results21 _ _ _) rfl ?_
    exact ⟨rfl, FIN.out⟩
end Go.Proofs.Ytgdjdcedjegkjaa.Trp

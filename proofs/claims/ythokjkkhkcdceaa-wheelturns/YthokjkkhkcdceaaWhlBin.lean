/-
  The walk of slices.BinarySearchFunc with order.
-/
import Derived.Test.YthokjkkhkcdceaaWhlMem
namespace Go.Proofs.Ythokjkkhkcdceaa
set_option linter.unusedVariables false
set_option maxRecDepth 100000
open Go.RowKit Go.Lib

theorem srt_at {l : Sts} (h : Srt l) {i j : Nat} (hij : i < j) (hj : j < l.length) : blt (l.getD i (0, 0)) (l.getD j (0, 0)) := by
  have := List.pairwise_iff_getElem.1 h i j (by omega) hj hij
  rw [List.getD_eq_getElem?_getD, List.getD_eq_getElem?_getD, List.getElem?_eq_getElem hj, List.getElem?_eq_getElem (show i < l.length by omega)]
  exact this
theorem getD_in {l : Sts} {k : Nat} (h : k < l.length) : l.getD k (0, 0) ∈ l := by
  rw [List.getD_eq_getElem?_getD, List.getElem?_eq_getElem h]
  exact List.getElem_mem h

set_option maxHeartbeats 2000000 in
theorem bsearch_any (s : Value) (l : Sts) (p : Int × Int) (w : World) (hs : OwnT w s l) (hS : Srt l) (hp : ∀ q ∈ l, q.1 ≠ p.1) (hl : l.length ≤ 1024) :
    Calls Try.prog 39 #[s, .agg #[.int .i64 p.1, .int .i64 p.2], .func (.func 35) #[] #[]] w fun e w' =>
      ∃ (k : Nat) (y : Bool), e = .returned (.tuple #[.int .i64 (k : Int), .bool y]) ∧ k ≤ l.length ∧ (∀ i, i < k → ¬ blt p (l.getD i (0, 0))) ∧ (∀ i, k ≤ i → i < l.length → blt p (l.getD i (0, 0))) ∧ Ext w w' := by
  have X1 := (Ext.refl w).alloc (.cells #[.int .i64 p.1, .int .i64 p.2] 60)
  have b1 : (w.alloc (.cells #[.int .i64 p.1, .int .i64 p.2] 60)).cell? ⟨w.heap.size, 0, none⟩ = some (.int .i64 p.1) := by rw [cell_of_row _ _ 0 _ _ _ (heap_alloc_new w _)]; rfl
  have b2 : (w.alloc (.cells #[.int .i64 p.1, .int .i64 p.2] 60)).cell? ⟨w.heap.size, 1, none⟩ = some (.int .i64 p.2) := by rw [cell_of_row _ _ 1 _ _ _ (heap_alloc_new w _)]; rfl
  obtain ⟨ao, cp, rfl, k1, k2, vw⟩ := (hs.ext X1).view
  have VW := hid vw
  have XX := hid X1
  have B1 := hid b1
  have B2 := hid b2
  have HA : Hid (∀ q, q < l.length → blt (l.getD q (0, 0)) p → ∀ i, i < q + 1 → ¬ blt p (l.getD i (0, 0))) := fun q hq hb i hi => by
    rcases Nat.lt_or_eq_of_le (show i ≤ q by omega) with e | e
    · exact ((srt_at hS e hq).trans hb).asym
    · rw [e]; exact hb.asym
  have HB : Hid (∀ q, q < l.length → ¬ blt (l.getD q (0, 0)) p → ∀ i, q ≤ i → i < l.length → blt p (l.getD i (0, 0))) := fun q hq hb i hi hil => by
    have h1 : blt p (l.getD q (0, 0)) := by
      rcases blt.tot (hp _ (getD_in hq)) with e | e
      · exact absurd e hb
      · exact e
    rcases Nat.lt_or_eq_of_le hi with e | e
    · exact h1.trans (srt_at hS e hil)
    · rw [← e]; exact h1
  unfold maxLen at k2
  clear hs hS hp vw X1 b1 b2
  obtain ⟨n, en⟩ : ∃ n, n = l.length := ⟨_, rfl⟩
  rw [← en] at k1 VW HA HB hl
  rw [← en]
  clear en
  go_enter Try.func39, Try.ntmps39
  go_wp2
  generalize w.alloc (.cells #[.int .i64 p.1, .int .i64 p.2] 60) = w1 at *
  go_loopw [9, 10, 11] (fun i j _ wr => ∃ a b : Nat, a ≤ b ∧ b ≤ n ∧ i = .int .i64 (a : Int) ∧ j = .int .i64 (b : Int) ∧ Hid (Ext w1 wr) ∧ Hid (∀ q, q < a → ¬ blt p (l.getD q (0, 0))) ∧ Hid (∀ q, b ≤ q → q < n → blt p (l.getD q (0, 0)))) (fun i j _ _ => (intOf j - intOf i).toNat)
  case atStart => exact ⟨0, n, by omega, by omega, rfl, rfl, Ext.refl w1, fun q hq => by omega, fun q h1 h2 => by omega⟩
  case round =>
    obtain ⟨a, b, hab, hb, rfl, rfl, X, L1, L2⟩ := hrel
    by_cases t : a < b
    · obtain ⟨h, eh, h1, h2⟩ : ∃ h : Nat, ((a : Int) + (b : Int)) / 2 = (h : Int) ∧ a ≤ h ∧ h < b := ⟨(a + b) / 2, by omega, by omega, by omega⟩
      obtain ⟨g, rfl, x1, x2⟩ := VW.out h (by omega)
      have O := hid (fun W => order_ext (l.getD h (0, 0)) p W)
      have OL := hid (ord_lt (l.getD h (0, 0)) p)
      have P1 := hid (HA.out h (by omega))
      have P2 := hid (HB.out h (by omega))
      generalize ord (l.getD h (0, 0)) p = z at *
      generalize (l.getD h (0, 0)) = y at *
      have m1 : ∀ n : Ever wr, n.W.cell? ⟨g, h * 2, none⟩ = _ := fun n => n.ok.cell (X.out.cell x1)
      have m2 : ∀ n : Ever wr, n.W.cell? ⟨g, h * 2 + 1, none⟩ = _ := fun n => n.ok.cell (X.out.cell x2)
      have m3 : ∀ n : Ever wr, n.W.cell? ⟨w.heap.size, 0, none⟩ = _ := fun n => n.ok.cell (X.out.cell B1.out)
      have m4 : ∀ n : Ever wr, n.W.cell? ⟨w.heap.size, 1, none⟩ = _ := fun n => n.ok.cell (X.out.cell B2.out)
      have i1 : (h : Int) < (n : Int) := by omega
      have i2 : (0 : Int) ≤ (h : Int) := by omega
      have t1 : (a : Int) < (b : Int) := by omega
      clear x1 x2
      go_wp2_with fail
      refine wp_region_ext (by kernel_rfl) (by kernel_rfl) ?_
      have some := Ever.some wr
      repeat (go_big_quiet_step ((go_at_call 35; refine (O.out _).mono ?_; rintro e w' ⟨rfl, Y⟩; exact ⟨rfl, ⟨_, (Ever.ok _).trans Y⟩, rfl⟩)))
      refine wpQuiet_nil ?_
      rintro w3 ⟨⟨_, x3⟩, rfl⟩
      have X3 := hid (X.out.trans x3)
      clear x3 m1 m2 m3 m4 O some eh
      by_cases hz : z < 0
      · have Q1 := hid (P1.out (OL.out.1 hz))
        go_wp2_with fail
        go_roundw
        case rel => exact ⟨h + 1, b, by omega, hb, by go_num, rfl, X3, Q1, L2⟩
        case measure => simp [intOf]; omega
      · have Q1 := hid (P2.out (fun e => hz (OL.out.2 e)))
        go_wp2_with fail
        go_roundw
        case rel => exact ⟨a, h, by omega, by omega, rfl, rfl, X3, L1, Q1⟩
        case measure => simp [intOf]; omega
    · obtain rfl : a = b := by omega
      by_cases ta : a < n
      · obtain ⟨g, rfl, x1, x2⟩ := VW.out a ta
        have O := hid (fun W => order_ext (l.getD a (0, 0)) p W)
        generalize ord (l.getD a (0, 0)) p = z at *
        have m1 : ∀ n : Ever wr, n.W.cell? ⟨g, a * 2, none⟩ = _ := fun n => n.ok.cell (X.out.cell x1)
        have m2 : ∀ n : Ever wr, n.W.cell? ⟨g, a * 2 + 1, none⟩ = _ := fun n => n.ok.cell (X.out.cell x2)
        have m3 : ∀ n : Ever wr, n.W.cell? ⟨w.heap.size, 0, none⟩ = _ := fun n => n.ok.cell (X.out.cell B1.out)
        have m4 : ∀ n : Ever wr, n.W.cell? ⟨w.heap.size, 1, none⟩ = _ := fun n => n.ok.cell (X.out.cell B2.out)
        have i1 : decide ((a : Int) < (n : Int)) = true := by simp; omega
        have i3 : (a : Int) < (n : Int) := by omega
        have i2 : (0 : Int) ≤ (a : Int) := by omega
        clear x1 x2
        go_wp2_with fail
        refine wp_region_ext (by kernel_rfl) (by kernel_rfl) ?_
        have some := Ever.some wr
        repeat (go_big_quiet_step ((go_at_call 35; refine (O.out _).mono ?_; rintro e w' ⟨rfl, Y⟩; exact ⟨rfl, ⟨_, (Ever.ok _).trans Y⟩, rfl⟩)))
        refine wpQuiet_nil ?_
        rintro w3 ⟨⟨_, x3⟩, rfl⟩
        have X3 := hid (XX.out.trans (X.out.trans x3))
        clear x3 m1 m2 m3 m4 O some
        go_wp2_with fail
        go_ret2
        exact ⟨a, _, rfl, hb, L1.out, L2.out, X3.out⟩
      · have i1 : decide ((a : Int) < (n : Int)) = false := by simp; omega
        go_wp2_with fail
        refine wp_region_ext (by kernel_rfl) (by kernel_rfl) ?_
        have some := Ever.some wr
        repeat (go_big_quiet_step (fail))
        refine wpQuiet_nil ?_
        rintro w3 ⟨⟨_, x3⟩, rfl⟩
        have X3 := hid (XX.out.trans (X.out.trans x3))
        clear x3 some
        go_wp2_with fail
        go_ret2
        exact ⟨a, _, rfl, hb, L1.out, L2.out, X3.out⟩
end Go.Proofs.Ythokjkkhkcdceaa

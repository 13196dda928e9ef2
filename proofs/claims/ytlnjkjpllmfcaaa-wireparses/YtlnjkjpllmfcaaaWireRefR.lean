/-
  A walk of the reference's Right.
-/
import Derived.Test.YtlnjkjpllmfcaaaWireRef2
import Derived.Test.YtlnjkjpllmfcaaaWireApart
namespace Go.Proofs.Ytlnjkjpllmfcaaa
set_option linter.unusedVariables false
set_option maxRecDepth 100000
open Go.RowKit Go.Lib

/-- what the reference asks of a packet that has a Kind -/
def RC (k : Nat) (p : Pk) : Prop :=
  withinB k 70 (p.1 1) 63 = true ∧ withinB k 76 (p.1 2) 7 = true ∧ withinB k 66 (p.1 4) 16383 = true ∧ withinB k 84 (p.1 5) 1099511627776 = true ∧ withinB k 69 (p.1 6) 1099511627776 = true ∧ withinB k 86 (p.1 7) 7 = true ∧ withinB k 78 (p.1 8) 16384 = true ∧ (usesB k 83 = true ∨ p.1 3 = 0) ∧ (usesB k 82 = true ∨ p.1 9 = 0) ∧ (usesB k 65 != decide (0 < p.2.1.length)) = false ∧ p.2.1.length ≤ 8 ∧ (usesB k 68 != decide (0 < p.2.2.2.length)) = false ∧ p.2.2.2.length ≤ 64 ∧ (usesB k 71 != decide (0 < p.2.2.1.length)) = false ∧ p.2.2.1.length ≤ 16 ∧ apart (-1) p.2.2.1 = true
theorem right_ref (p : Pk) (k : Nat) (hk : p.1 0 = (k : Int)) (h : 1 ≤ k ∧ k ≤ 7) : right p = true ↔ RC k p := by
  have c : k = 1 ∨ k = 2 ∨ k = 3 ∨ k = 4 ∨ k = 5 ∨ k = 6 ∨ k = 7 := by omega
  have lp : ∀ {α : Type} (l : List α), 0 < l.length ↔ l ≠ [] := fun l => List.length_pos_iff
  have apn : ∀ l : List (Int × Int), l = [] → apart (-1) l = true := by intro l h; rw [h]; rfl
  rcases c with rfl | rfl | rfl | rfl | rfl | rfl | rfl <;>
    simp [right, okc, codes, kfields, fits, blank, upto, oneto, RC, withinB, usesB, kstr, hk] <;> grind

/-- a whole block read behind a guard that lets it by -/
theorem wpList_load_row_g {P : Program} {ops : Array Oper} {rest : List Oper} {o : Oper} {a : Act} {w : World} {Q : Exit → Act → World → Prop} (hw : Region.wanted o (yielded ops a.tmps) = true) (ty : TypeId) (x : Operand) (ho : o.op = .load ty x)
    (g : Nat) (hx : a.eval x = .pointer (some ⟨g, 0, none⟩)) (t : TypeId) (cs : Array Value) (fr : Nat × Nat) (d : TypeDesc) (hg : w.heap[g]? = some (.cells cs t fr))
    (hu : P.underlying ty = some d) (hd : (match d with | .struct _ | .array _ _ => true | _ => false) = true) (hi : (P.info? ty).map (·.size) = some cs.size)
    (h : wpList P ops Q rest (a.put o.dst (.agg cs)) w) : wpList P ops Q (o :: rest) a w :=
  wpList_step fun K hK => by rw [if_pos hw]; exact wp_load_row ty x ho g hx t cs fr d hg hu hd hi (hK _ _ h)

set_option maxHeartbeats 400000 in
theorem refRight_none (w : World) (v : Value) (p : Pk) (hv : PVal w v p) (hk : ¬ (1 ≤ p.1 0 ∧ p.1 0 ≤ 7)) :
    Calls Try.prog 10 #[v] w fun e w' => e = .returned (.bool (right p)) ∧ Ext w w' := by
  obtain ⟨ra, rg, da, rfl, _⟩ := hv
  have R : Hid (right p = false) := by show _ = _; unfold right; rw [decide_eq_false hk]; rfl
  obtain ⟨w1, e1⟩ : ∃ w1, w1 = w.alloc (.cells (prow p ra rg da) 35) := ⟨_, rfl⟩
  have X1 : Hid (Ext w w1) := by rw [e1]; exact (Ext.refl w).alloc _
  have b1 : w1.heap[w.heap.size]? = some (.cells (prow p ra rg da) 35 (0, 0)) := by rw [e1]; exact heap_alloc_new w _
  have c0 : w1.cell? ⟨w.heap.size, 0, none⟩ = some (.int .i64 (p.1 0)) := by rw [cell_of_row _ _ _ _ _ _ b1]; rfl
  have E1 := hid e1
  clear e1 b1
  generalize prow p ra rg da = A at *
  generalize p.1 0 = k at *
  by_cases t : k < 1
  · have d1 : decide (k < 1) = true := by simp [t]
    clear hk
    go_enter Try.func10, Try.ntmps10
    go_wp2_with (rw [← E1.out])
    go_ret
    exact ⟨by rw [R.out]; rfl, X1.out⟩
  · have d1 : decide (k < 1) = false := by simp; omega
    have t7 : 7 < k := by omega
    clear t hk
    go_enter Try.func10, Try.ntmps10
    go_wp2_with (rw [← E1.out])
    go_ret
    exact ⟨by rw [R.out]; rfl, X1.out⟩

set_option maxHeartbeats 160000000 in
theorem refRight_kind (w : World) (v : Value) (p : Pk) (hv : PVal w v p) (hl : slim p) (k : Nat) (hk : p.1 0 = (k : Int)) (h17 : 1 ≤ k ∧ k ≤ 7) :
    Calls Try.prog 10 #[v] w fun e w' => e = .returned (.bool (right p)) ∧ Ext w w' := by
  obtain ⟨ra, rg, da, rfl, pl⟩ := hv
  have HPL := hid pl
  obtain ⟨⟨ao, n1, a1, rfl, la, ma, na, _⟩, ⟨go, n2, a2, rfl, lg, mg, ng, hgr⟩, ⟨d0, n3, a3, rfl, ld, md, nd, _⟩⟩ := pl
  rw [acells_length] at la
  rw [gcells_length] at lg
  rw [bcells_length] at ld
  have en1 : n1 = p.2.1.length := by omega
  have en2 : n2 = p.2.2.1.length := by omega
  have en3 : n3 = p.2.2.2.length := by omega
  subst en1 en2 en3
  clear la lg ld
  obtain ⟨w1, e1⟩ : ∃ w1, w1 = w.alloc (.cells (prow p (.slice ao p.2.1.length a1) (.slice go p.2.2.1.length a2) (.slice d0 p.2.2.2.length a3)) 35) := ⟨_, rfl⟩
  have X1 : Hid (Ext w w1) := by rw [e1]; exact (Ext.refl w).alloc _
  have g1 : w1.heap[w.heap.size]? = some (.cells (prow p (.slice ao p.2.1.length a1) (.slice go p.2.2.1.length a2) (.slice d0 p.2.2.2.length a3)) 35 (0, 0)) := by rw [e1]; exact heap_alloc_new w _
  have RR := right_ref p k hk h17
  have RN : Hid (¬ RC k p → right p = false) := fun h => by rw [Bool.eq_false_iff]; exact fun hh => h (RR.1 hh)
  have RY : Hid (RC k p → right p = true) := RR.2
  have E1 := hid e1
  have G1 := hid g1
  have HGR := hid hgr
  have NNa := hid na
  unfold maxLen at na ng nd
  obtain ⟨hl1, hl2, hl3⟩ := hl
  obtain ⟨A, eA⟩ : ∃ A, A = prow p (.slice ao p.2.1.length a1) (.slice go p.2.2.1.length a2) (.slice d0 p.2.2.2.length a3) := ⟨_, rfl⟩
  have ZA : Hid ((Try.prog.info? 35).map (·.size) = some A.size) := by rw [eA]; exact cells_ref
  have CA : Hid (∀ wk : World, wk.heap[w.heap.size]? = some (.cells A 35 (0, 0)) → wk.cell? ⟨w.heap.size, 0, none⟩ = some (.int .i64 (k : Int)) ∧ wk.cell? ⟨w.heap.size, 1, none⟩ = some (.int .i64 (p.1 1)) ∧ wk.cell? ⟨w.heap.size, 2, none⟩ = some (.int .i64 (p.1 2)) ∧ wk.cell? ⟨w.heap.size, 4, none⟩ = some (.int .i64 (p.1 4)) ∧ wk.cell? ⟨w.heap.size, 5, none⟩ = some (.int .i64 (p.1 5)) ∧ wk.cell? ⟨w.heap.size, 6, none⟩ = some (.int .i64 (p.1 6)) ∧ wk.cell? ⟨w.heap.size, 7, none⟩ = some (.int .i64 (p.1 7)) ∧ wk.cell? ⟨w.heap.size, 8, none⟩ = some (.int .i64 (p.1 8)) ∧ wk.cell? ⟨w.heap.size, 3, none⟩ = some (.int .u32 (p.1 3)) ∧ wk.cell? ⟨w.heap.size, 9, none⟩ = some (.int .u64 (p.1 9)) ∧ wk.cell? ⟨w.heap.size, 10, none⟩ = some (.slice ao p.2.1.length a1) ∧ wk.cell? ⟨w.heap.size, 11, none⟩ = some (.slice go p.2.2.1.length a2) ∧ wk.cell? ⟨w.heap.size, 12, none⟩ = some (.slice d0 p.2.2.2.length a3)) := by
    intro wk hw
    rw [eA] at hw
    have c := fun j => cell_of_row wk w.heap.size j _ _ _ hw
    refine ⟨by rw [c, ← hk]; rfl, by rw [c]; rfl, by rw [c]; rfl, by rw [c]; rfl, by rw [c]; rfl, by rw [c]; rfl, by rw [c]; rfl, by rw [c]; rfl, by rw [c]; rfl, by rw [c]; rfl, by rw [c]; rfl, by rw [c]; rfl, by rw [c]; rfl⟩
  have WI : Hid (∀ (wk : World) (c : UInt8) (n most : Int), Calls Try.prog 22 #[.agg A, .int .u8 (c.toNat : Int), .int .i64 n, .int .i64 most] wk fun e w' => e = .returned (.bool (withinB k c n most)) ∧ Ext wk w') := by
    intro wk c n most
    rw [eA]
    exact within_any wk p _ _ _ k hk h17.2 c n most
  rw [← eA] at E1 G1 ⊢
  have C1 := CA.out w1 G1.out
  obtain ⟨c0, c1, c2, c4, c5, c6, c7, c8, _⟩ := C1
  have k1 : decide ((k : Int) < 1) = false := by simp; omega
  have k7 : decide ((7 : Int) < (k : Int)) = false := by simp; omega
  clear e1 g1 hgr RR eA hk
  go_enter Try.func10, Try.ntmps10
  go_wp2_with (first | rw [← E1.out] | refine wpList_load_row rfl 35 _ rfl w.heap.size rfl 35 A (0, 0) _ G1.out Try.underlying35 rfl ZA.out ?_)
  refine (WI.out w1 70 (p.1 1) 63).mono ?_
  rintro e w2 ⟨rfl, x⟩
  have X2 := hid (X1.out.trans x)
  have G2 := hid (x.row G1.out)
  obtain ⟨c0, c1, c2, c4, c5, c6, c7, c8, c3, c9, c10, c11, c12⟩ := CA.out w2 G2.out
  clear x
  cases hb0 : withinB k 70 (p.1 1) 63 with
  | false =>
    have RF : Hid (right p = false) := RN.out (fun h => by have := h.1; rw [hb0] at this; cases this)
    go_wp2_with fail
    go_ret
    exact ⟨by rw [RF.out]; rfl, X2.out⟩
  | true =>
    have B0 := hid hb0
    clear hb0
    go_wp2_with (refine wpList_load_row_g rfl 35 _ rfl w.heap.size rfl 35 A (0, 0) _ G2.out Try.underlying35 rfl ZA.out ?_)
    refine (WI.out w2 76 (p.1 2) 7).mono ?_
    rintro e w3 ⟨rfl, x⟩
    have X3 := hid (X2.out.trans x)
    have G3 := hid (x.row G2.out)
    obtain ⟨c0, c1, c2, c4, c5, c6, c7, c8, c3, c9, c10, c11, c12⟩ := CA.out w3 G3.out
    clear x
    cases hb1 : withinB k 76 (p.1 2) 7 with
    | false =>
      have RF : Hid (right p = false) := RN.out (fun h => by have := h.2.1; rw [hb1] at this; cases this)
      go_wp2_with fail
      go_ret
      exact ⟨by rw [RF.out]; rfl, X3.out⟩
    | true =>
      have B1 := hid hb1
      clear hb1
      go_wp2_with (refine wpList_load_row_g rfl 35 _ rfl w.heap.size rfl 35 A (0, 0) _ G3.out Try.underlying35 rfl ZA.out ?_)
      refine (WI.out w3 66 (p.1 4) 16383).mono ?_
      rintro e w4 ⟨rfl, x⟩
      have X4 := hid (X3.out.trans x)
      have G4 := hid (x.row G3.out)
      obtain ⟨c0, c1, c2, c4, c5, c6, c7, c8, c3, c9, c10, c11, c12⟩ := CA.out w4 G4.out
      clear x
      cases hb2 : withinB k 66 (p.1 4) 16383 with
      | false =>
        have RF : Hid (right p = false) := RN.out (fun h => by have := h.2.2.1; rw [hb2] at this; cases this)
        go_wp2_with fail
        go_ret
        exact ⟨by rw [RF.out]; rfl, X4.out⟩
      | true =>
        have B2 := hid hb2
        clear hb2
        go_wp2_with (refine wpList_load_row_g rfl 35 _ rfl w.heap.size rfl 35 A (0, 0) _ G4.out Try.underlying35 rfl ZA.out ?_)
        refine (WI.out w4 84 (p.1 5) 1099511627776).mono ?_
        rintro e w5 ⟨rfl, x⟩
        have X5 := hid (X4.out.trans x)
        have G5 := hid (x.row G4.out)
        obtain ⟨c0, c1, c2, c4, c5, c6, c7, c8, c3, c9, c10, c11, c12⟩ := CA.out w5 G5.out
        clear x
        cases hb3 : withinB k 84 (p.1 5) 1099511627776 with
        | false =>
          have RF : Hid (right p = false) := RN.out (fun h => by have := h.2.2.2.1; rw [hb3] at this; cases this)
          go_wp2_with fail
          go_ret
          exact ⟨by rw [RF.out]; rfl, X5.out⟩
        | true =>
          have B3 := hid hb3
          clear hb3
          go_wp2_with (refine wpList_load_row_g rfl 35 _ rfl w.heap.size rfl 35 A (0, 0) _ G5.out Try.underlying35 rfl ZA.out ?_)
          refine (WI.out w5 69 (p.1 6) 1099511627776).mono ?_
          rintro e w6 ⟨rfl, x⟩
          have X6 := hid (X5.out.trans x)
          have G6 := hid (x.row G5.out)
          obtain ⟨c0, c1, c2, c4, c5, c6, c7, c8, c3, c9, c10, c11, c12⟩ := CA.out w6 G6.out
          clear x
          cases hb4 : withinB k 69 (p.1 6) 1099511627776 with
          | false =>
            have RF : Hid (right p = false) := RN.out (fun h => by have := h.2.2.2.2.1; rw [hb4] at this; cases this)
            go_wp2_with fail
            go_ret
            exact ⟨by rw [RF.out]; rfl, X6.out⟩
          | true =>
            have B4 := hid hb4
            clear hb4
            go_wp2_with (refine wpList_load_row_g rfl 35 _ rfl w.heap.size rfl 35 A (0, 0) _ G6.out Try.underlying35 rfl ZA.out ?_)
            refine (WI.out w6 86 (p.1 7) 7).mono ?_
            rintro e w7 ⟨rfl, x⟩
            have X7 := hid (X6.out.trans x)
            have G7 := hid (x.row G6.out)
            obtain ⟨c0, c1, c2, c4, c5, c6, c7, c8, c3, c9, c10, c11, c12⟩ := CA.out w7 G7.out
            clear x
            cases hb5 : withinB k 86 (p.1 7) 7 with
            | false =>
              have RF : Hid (right p = false) := RN.out (fun h => by have := h.2.2.2.2.2.1; rw [hb5] at this; cases this)
              go_wp2_with fail
              go_ret
              exact ⟨by rw [RF.out]; rfl, X7.out⟩
            | true =>
              have B5 := hid hb5
              clear hb5
              go_wp2_with (refine wpList_load_row_g rfl 35 _ rfl w.heap.size rfl 35 A (0, 0) _ G7.out Try.underlying35 rfl ZA.out ?_)
              refine (WI.out w7 78 (p.1 8) 16384).mono ?_
              rintro e w8 ⟨rfl, x⟩
              have X8 := hid (X7.out.trans x)
              have G8 := hid (x.row G7.out)
              obtain ⟨c0, c1, c2, c4, c5, c6, c7, c8, c3, c9, c10, c11, c12⟩ := CA.out w8 G8.out
              clear x
              cases hb6 : withinB k 78 (p.1 8) 16384 with
              | false =>
                have RF : Hid (right p = false) := RN.out (fun h => by have := h.2.2.2.2.2.2.1; rw [hb6] at this; cases this)
                go_wp2_with fail
                go_ret
                exact ⟨by rw [RF.out]; rfl, X8.out⟩
              | true =>
                have B6 := hid hb6
                clear hb6
                go_wp2_with fail
                refine (uses_any w8 k 83 h17.2).mono ?_
                rintro e w9 ⟨rfl, x⟩
                have X9 := hid (X8.out.trans x)
                have G9 := hid (x.row G8.out)
                obtain ⟨c0, c1, c2, c4, c5, c6, c7, c8, c3, c9, c10, c11, c12⟩ := CA.out w9 G9.out
                clear x
                have key : usesB k 83 = true ∨ (usesB k 83 = false ∧ p.1 3 = 0) ∨ (usesB k 83 = false ∧ p.1 3 ≠ 0) := by
                  cases usesB k 83
                  · by_cases h : p.1 3 = 0
                    · exact .inr (.inl ⟨rfl, h⟩)
                    · exact .inr (.inr ⟨rfl, h⟩)
                  · exact .inl rfl
                rcases key with hS | ⟨hS, hs⟩ | ⟨hS, hs⟩
                case' inr.inr =>
                  have RF : Hid (right p = false) := RN.out (fun h => by have := h.2.2.2.2.2.2.2.1; rw [hS] at this; exact this.elim (fun h1 => absurd h1 (by decide)) hs)
                  have ES : ¬ p.1 3 = 0 := hs
                  rw [hS]
                  clear hs hS
                  go_wp2_with fail
                  go_ret
                  exact ⟨by rw [RF.out]; rfl, X9.out⟩
                case' inl =>
                  have QS : Hid (usesB k 83 = true ∨ p.1 3 = 0) := .inl hS
                  rw [hS]
                  clear hS
                  go_wp2_with fail
                case' inr.inl =>
                  have QS : Hid (usesB k 83 = true ∨ p.1 3 = 0) := .inr hs
                  have ES : p.1 3 = 0 := hs
                  rw [hS]
                  clear hs hS
                  go_wp2_with fail
                  clear ES
                all_goals (
                  refine (uses_any w9 k 82 h17.2).mono ?_
                  rintro e w10 ⟨rfl, x⟩
                  have X10 := hid (X9.out.trans x)
                  have G10 := hid (x.row G9.out)
                  obtain ⟨c0, c1, c2, c4, c5, c6, c7, c8, c3, c9, c10, c11, c12⟩ := CA.out w10 G10.out
                  clear x
                  have key : usesB k 82 = true ∨ (usesB k 82 = false ∧ p.1 9 = 0) ∨ (usesB k 82 = false ∧ p.1 9 ≠ 0) := by
                    cases usesB k 82
                    · by_cases h : p.1 9 = 0
                      · exact .inr (.inl ⟨rfl, h⟩)
                      · exact .inr (.inr ⟨rfl, h⟩)
                    · exact .inl rfl
                  rcases key with hS | ⟨hS, hs⟩ | ⟨hS, hs⟩
                  case' inr.inr =>
                    have RF : Hid (right p = false) := RN.out (fun h => by have := h.2.2.2.2.2.2.2.2.1; rw [hS] at this; exact this.elim (fun h1 => absurd h1 (by decide)) hs)
                    have ES : ¬ p.1 9 = 0 := hs
                    rw [hS]
                    clear hs hS
                    go_wp2_with fail
                    go_ret
                    exact ⟨by rw [RF.out]; rfl, X10.out⟩
                  case' inl =>
                    have QR : Hid (usesB k 82 = true ∨ p.1 9 = 0) := .inl hS
                    rw [hS]
                    clear hS
                    go_wp2_with fail
                  case' inr.inl =>
                    have QR : Hid (usesB k 82 = true ∨ p.1 9 = 0) := .inr hs
                    have ES : p.1 9 = 0 := hs
                    rw [hS]
                    clear hs hS
                    go_wp2_with fail
                    clear ES)
                all_goals (
                  clear c0 c1 c2 c4 c5 c6 c7 c8 c3 c9 c10 c11 c12
                  have e0 : ∀ n : Ever w10, n.W.cell? ⟨w.heap.size, 0, none⟩ = some (.int .i64 (k : Int)) := fun n => (CA.out n.W (n.ok.row G10.out)).1
                  have e10 : ∀ n : Ever w10, n.W.cell? ⟨w.heap.size, 10, none⟩ = some (.slice ao p.2.1.length a1) := fun n => (CA.out n.W (n.ok.row G10.out)).2.2.2.2.2.2.2.2.2.2.1
                  have e12 : ∀ n : Ever w10, n.W.cell? ⟨w.heap.size, 12, none⟩ = some (.slice d0 p.2.2.2.length a3) := fun n => (CA.out n.W (n.ok.row G10.out)).2.2.2.2.2.2.2.2.2.2.2.2
                  have UA : Hid (∀ n : Ever w10, Calls Try.prog 23 #[.int .i64 k, .int .u8 65] n.W fun e w' => e = .returned (.bool (usesB k 65)) ∧ Ext n.W w') := fun n => uses_any n.W k 65 h17.2
                  have UD : Hid (∀ n : Ever w10, Calls Try.prog 23 #[.int .i64 k, .int .u8 68] n.W fun e w' => e = .returned (.bool (usesB k 68)) ∧ Ext n.W w') := fun n => uses_any n.W k 68 h17.2
                  obtain ⟨uA, euA⟩ : ∃ u, usesB k 65 = u := ⟨_, rfl⟩
                  obtain ⟨uD, euD⟩ : ∃ u, usesB k 68 = u := ⟨_, rfl⟩
                  rw [euA] at UA
                  rw [euD] at UD
                  have EUA := hid euA
                  have EUD := hid euD
                  clear euA euD
                  cases m1 : (uA == decide (0 < p.2.1.length)) with
                  | false =>
                    have RF : Hid (right p = false) := RN.out (fun h => by have := h.2.2.2.2.2.2.2.2.2.1; rw [EUA.out] at this; simp [bne, m1] at this)
                    refine wp_region_ext (by kernel_rfl) (by kernel_rfl) ?_
                    have some := Ever.some w10
                    go_big_quiet_step (fail)
                    go_big_quiet_step (fail)
                    go_big_quiet_step ((go_at_call 23; refine (UA.out _).mono ?_; rintro e w' ⟨rfl, Y⟩; exact ⟨rfl, ⟨_, (Ever.ok _).trans Y⟩, rfl⟩))
                    repeat (go_big_quiet_step ((go_at_call 23; refine (UD.out _).mono ?_; rintro e w' ⟨rfl, Y⟩; exact ⟨rfl, ⟨_, (Ever.ok _).trans Y⟩, rfl⟩)))
                    refine wpQuiet_nil ?_
                    rintro w11 ⟨⟨_, y⟩, rfl⟩
                    have X11 := hid (X10.out.trans y)
                    have G11 := hid (y.row G10.out)
                    clear y some
                    go_wp2_with fail
                    go_ret
                    exact ⟨by rw [RF.out]; rfl, X11.out⟩
                  | true =>
                    have M1 : Hid ((usesB k 65 != decide (0 < p.2.1.length)) = false) := by show _ = _; rw [EUA.out]; simp [bne, m1]
                    by_cases t8 : 8 < p.2.1.length
                    · have RF : Hid (right p = false) := RN.out (fun h => by have := h.2.2.2.2.2.2.2.2.2.2.1; omega)
                      have t8' : (8 : Int) < (p.2.1.length : Int) := by omega
                      refine wp_region_ext (by kernel_rfl) (by kernel_rfl) ?_
                      have some := Ever.some w10
                      go_big_quiet_step (fail)
                      go_big_quiet_step (fail)
                      go_big_quiet_step ((go_at_call 23; refine (UA.out _).mono ?_; rintro e w' ⟨rfl, Y⟩; exact ⟨rfl, ⟨_, (Ever.ok _).trans Y⟩, rfl⟩))
                      repeat (go_big_quiet_step ((go_at_call 23; refine (UD.out _).mono ?_; rintro e w' ⟨rfl, Y⟩; exact ⟨rfl, ⟨_, (Ever.ok _).trans Y⟩, rfl⟩)))
                      refine wpQuiet_nil ?_
                      rintro w11 ⟨⟨_, y⟩, rfl⟩
                      have X11 := hid (X10.out.trans y)
                      have G11 := hid (y.row G10.out)
                      clear y some
                      go_wp2_with fail
                      go_ret
                      exact ⟨by rw [RF.out]; rfl, X11.out⟩
                    · have t8' : decide ((8 : Int) < (p.2.1.length : Int)) = false := by simp; omega
                      have t8'' : decide (8 < p.2.1.length) = false := by simp; omega
                      have M2 : Hid (p.2.1.length ≤ 8) := by show _ ≤ _; omega
                      clear t8
                      cases m3 : (uD == decide (0 < p.2.2.2.length)) with
                      | false =>
                        have RF : Hid (right p = false) := RN.out (fun h => by have := h.2.2.2.2.2.2.2.2.2.2.2.1; rw [EUD.out] at this; simp [bne, m3] at this)
                        refine wp_region_ext (by kernel_rfl) (by kernel_rfl) ?_
                        have some := Ever.some w10
                        go_big_quiet_step (fail)
                        go_big_quiet_step (fail)
                        go_big_quiet_step ((go_at_call 23; refine (UA.out _).mono ?_; rintro e w' ⟨rfl, Y⟩; exact ⟨rfl, ⟨_, (Ever.ok _).trans Y⟩, rfl⟩))
                        repeat (go_big_quiet_step ((go_at_call 23; refine (UD.out _).mono ?_; rintro e w' ⟨rfl, Y⟩; exact ⟨rfl, ⟨_, (Ever.ok _).trans Y⟩, rfl⟩)))
                        refine wpQuiet_nil ?_
                        rintro w11 ⟨⟨_, y⟩, rfl⟩
                        have X11 := hid (X10.out.trans y)
                        have G11 := hid (y.row G10.out)
                        clear y some
                        go_wp2_with fail
                        go_ret
                        exact ⟨by rw [RF.out]; rfl, X11.out⟩
                      | true =>
                        have M3 : Hid ((usesB k 68 != decide (0 < p.2.2.2.length)) = false) := by show _ = _; rw [EUD.out]; simp [bne, m3]
                        by_cases t64 : 64 < p.2.2.2.length
                        · have RF : Hid (right p = false) := RN.out (fun h => by have := h.2.2.2.2.2.2.2.2.2.2.2.2.1; omega)
                          have t64' : (64 : Int) < (p.2.2.2.length : Int) := by omega
                          refine wp_region_ext (by kernel_rfl) (by kernel_rfl) ?_
                          have some := Ever.some w10
                          go_big_quiet_step (fail)
                          go_big_quiet_step (fail)
                          go_big_quiet_step ((go_at_call 23; refine (UA.out _).mono ?_; rintro e w' ⟨rfl, Y⟩; exact ⟨rfl, ⟨_, (Ever.ok _).trans Y⟩, rfl⟩))
                          repeat (go_big_quiet_step ((go_at_call 23; refine (UD.out _).mono ?_; rintro e w' ⟨rfl, Y⟩; exact ⟨rfl, ⟨_, (Ever.ok _).trans Y⟩, rfl⟩)))
                          refine wpQuiet_nil ?_
                          rintro w11 ⟨⟨_, y⟩, rfl⟩
                          have X11 := hid (X10.out.trans y)
                          have G11 := hid (y.row G10.out)
                          clear y some
                          go_wp2_with fail
                          go_ret
                          exact ⟨by rw [RF.out]; rfl, X11.out⟩
                        · have t64' : decide ((64 : Int) < (p.2.2.2.length : Int)) = false := by simp; omega
                          have t64'' : decide (64 < p.2.2.2.length) = false := by simp; omega
                          have M4 : Hid (p.2.2.2.length ≤ 64) := by show _ ≤ _; omega
                          clear t64
                          refine wp_region_ext (by kernel_rfl) (by kernel_rfl) ?_
                          have some := Ever.some w10
                          go_big_quiet_step (fail)
                          go_big_quiet_step (fail)
                          go_big_quiet_step ((go_at_call 23; refine (UA.out _).mono ?_; rintro e w' ⟨rfl, Y⟩; exact ⟨rfl, ⟨_, (Ever.ok _).trans Y⟩, rfl⟩))
                          repeat (go_big_quiet_step ((go_at_call 23; refine (UD.out _).mono ?_; rintro e w' ⟨rfl, Y⟩; exact ⟨rfl, ⟨_, (Ever.ok _).trans Y⟩, rfl⟩)))
                          refine wpQuiet_nil ?_
                          rintro w11 ⟨⟨_, y⟩, rfl⟩
                          have X11 := hid (X10.out.trans y)
                          have G11 := hid (y.row G10.out)
                          clear y some
                          go_wp2_with fail
                          clear e0 e10 e12 UA UD m1 m3 t8' t8'' t64' t64''
                          have e0 : ∀ n : Ever w11, n.W.cell? ⟨w.heap.size, 0, none⟩ = some (.int .i64 (k : Int)) := fun n => (CA.out n.W (n.ok.row G11.out)).1
                          have e11 : ∀ n : Ever w11, n.W.cell? ⟨w.heap.size, 11, none⟩ = some (.slice go p.2.2.1.length a2) := fun n => (CA.out n.W (n.ok.row G11.out)).2.2.2.2.2.2.2.2.2.2.2.1
                          have UG : Hid (∀ n : Ever w11, Calls Try.prog 23 #[.int .i64 k, .int .u8 71] n.W fun e w' => e = .returned (.bool (usesB k 71)) ∧ Ext n.W w') := fun n => uses_any n.W k 71 h17.2
                          obtain ⟨uG, euG⟩ : ∃ u, usesB k 71 = u := ⟨_, rfl⟩
                          rw [euG] at UG
                          have EUG := hid euG
                          clear euG
                          cases m5 : (uG == decide (0 < p.2.2.1.length)) with
                          | false =>
                            have RF : Hid (right p = false) := RN.out (fun h => by have := h.2.2.2.2.2.2.2.2.2.2.2.2.2.1; rw [EUG.out] at this; simp [bne, m5] at this)
                            refine wp_region_ext (by kernel_rfl) (by kernel_rfl) ?_
                            have some := Ever.some w11
                            repeat (go_big_quiet_step (first | (go_at_call 23; refine (UG.out _).mono ?_; rintro e w' ⟨rfl, Y⟩; exact ⟨rfl, ⟨_, (Ever.ok _).trans Y⟩, rfl⟩)))
                            refine wpQuiet_nil ?_
                            rintro w12 ⟨⟨_, y⟩, rfl⟩
                            have X12 := hid (X11.out.trans y)
                            have G12 := hid (y.row G11.out)
                            clear y some
                            go_wp2_with fail
                            go_ret
                            exact ⟨by rw [RF.out]; rfl, X12.out⟩
                          | true =>
                            have M5 : Hid ((usesB k 71 != decide (0 < p.2.2.1.length)) = false) := by show _ = _; rw [EUG.out]; simp [bne, m5]
                            by_cases t16 : 16 < p.2.2.1.length
                            · have RF : Hid (right p = false) := RN.out (fun h => by have := h.2.2.2.2.2.2.2.2.2.2.2.2.2.2.1; omega)
                              have t16' : (16 : Int) < (p.2.2.1.length : Int) := by omega
                              refine wp_region_ext (by kernel_rfl) (by kernel_rfl) ?_
                              have some := Ever.some w11
                              repeat (go_big_quiet_step (first | (go_at_call 23; refine (UG.out _).mono ?_; rintro e w' ⟨rfl, Y⟩; exact ⟨rfl, ⟨_, (Ever.ok _).trans Y⟩, rfl⟩)))
                              refine wpQuiet_nil ?_
                              rintro w12 ⟨⟨_, y⟩, rfl⟩
                              have X12 := hid (X11.out.trans y)
                              have G12 := hid (y.row G11.out)
                              clear y some
                              go_wp2_with fail
                              go_ret
                              exact ⟨by rw [RF.out]; rfl, X12.out⟩
                            · have t16' : decide ((16 : Int) < (p.2.2.1.length : Int)) = false := by simp; omega
                              have t16'' : decide (16 < p.2.2.1.length) = false := by simp; omega
                              have M6 : Hid (p.2.2.1.length ≤ 16) := by show _ ≤ _; omega
                              clear t16
                              have RAP : Hid (right p = apart (-1) p.2.2.1) := by
                                show _ = _
                                cases ha : apart (-1) p.2.2.1 with
                                | true => exact RY.out ⟨B0.out, B1.out, B2.out, B3.out, B4.out, B5.out, B6.out, QS.out, QR.out, M1.out, M2.out, M3.out, M4.out, M5.out, M6.out, ha⟩
                                | false => exact RN.out (fun h => by have := h.2.2.2.2.2.2.2.2.2.2.2.2.2.2.2; rw [ha] at this; cases this)
                              refine wp_region_ext (by kernel_rfl) (by kernel_rfl) ?_
                              have some := Ever.some w11
                              repeat (go_big_quiet_step (first | (go_at_call 23; refine (UG.out _).mono ?_; rintro e w' ⟨rfl, Y⟩; exact ⟨rfl, ⟨_, (Ever.ok _).trans Y⟩, rfl⟩)))
                              refine wpQuiet_nil ?_
                              rintro w12 ⟨⟨_, y⟩, rfl⟩
                              have X12 := hid (X11.out.trans y)
                              have G12 := hid (y.row G11.out)
                              clear y some
                              go_wp2_with fail
                              clear e0 e11 UG m5 t16' t16''
                              generalize p.2.2.1 = gs at *
                              go_loopw [3, 4] (fun x i wr => ∃ (j : Nat) (a : Int), j ≤ gs.length ∧ i = .int .i64 j ∧ x = .int .i64 a ∧ apart (-1) gs = apart a (gs.drop j) ∧ Ext w wr ∧ wr.heap[w.heap.size]? = some (.cells A 35 (0, 0))) (fun _ i _ => (gs.length - intOf i).toNat)
                              case atStart => exact ⟨0, -1, by omega, rfl, rfl, rfl, X12.out, G12.out⟩
                              case round =>
                                obtain ⟨j, a, hj, rfl, rfl, hap, hx, hg⟩ := hrel
                                have cg : wr.cell? ⟨w.heap.size, 11, none⟩ = some (.slice go gs.length a2) := (CA.out wr hg).2.2.2.2.2.2.2.2.2.2.2.1
                                by_cases t : j < gs.length
                                · obtain ⟨b, o, rfl, _, hc⟩ := HGR.out (by omega)
                                  have x1 := hx.cell (hc _ _ (gcells_at gs j t).1)
                                  have x2 := hx.cell (hc _ _ (gcells_at gs j t).2)
                                  rw [← Nat.add_assoc] at x2
                                  rw [drop_getD gs j t] at hap
                                  have XA : Ext wr (wr.alloc (.cells #[.int .i64 (gs.getD j (0, 0)).1, .int .i64 (gs.getD j (0, 0)).2] 53)) := (Ext.refl wr).alloc _
                                  have X2 := hid (hx.trans XA)
                                  have GG := hid (XA.row hg)
                                  have HA : Hid (apart (-1) gs = (decide (a < (gs.getD j (0, 0)).1) && (decide ((gs.getD j (0, 0)).1 < (gs.getD j (0, 0)).2) && (decide ((gs.getD j (0, 0)).2 ≤ 16384) && apart (gs.getD j (0, 0)).2 (gs.drop (j + 1)))))) := hap
                                  clear hx hc hap hg XA
                                  generalize (gs.getD j (0, 0)).1 = x at *
                                  generalize (gs.getD j (0, 0)).2 = y at *
                                  have t1 : (j : Int) < (gs.length : Int) := by omega
                                  have t2 : (0 : Int) ≤ (j : Int) := by omega
                                  by_cases d1 : x ≤ a
                                  · have e1 : decide (x ≤ a) = true := by simp [d1]
                                    have HF : Hid (right p = false) := by show _ = _; rw [RAP.out, HA.out]; simp; omega
                                    clear HA
                                    go_wp2_with fail
                                    go_ret
                                    exact ⟨by rw [HF.out]; rfl, X2.out⟩
                                  · have e1 : decide (x ≤ a) = false := by simp; omega
                                    by_cases d2 : y ≤ x
                                    · have e2 : decide (y ≤ x) = true := by simp [d2]
                                      have HF : Hid (right p = false) := by show _ = _; rw [RAP.out, HA.out]; simp; omega
                                      clear HA d1
                                      go_wp2_with fail
                                      go_ret
                                      exact ⟨by rw [HF.out]; rfl, X2.out⟩
                                    · have e2 : decide (y ≤ x) = false := by simp; omega
                                      by_cases d3 : 16384 < y
                                      · have e3 : decide (16384 < y) = true := by simp [d3]
                                        have HF : Hid (right p = false) := by show _ = _; rw [RAP.out, HA.out]; simp; omega
                                        clear HA d1 d2
                                        go_wp2_with fail
                                        go_ret
                                        exact ⟨by rw [HF.out]; rfl, X2.out⟩
                                      · have e3 : decide (16384 < y) = false := by simp; omega
                                        have HF : Hid (apart (-1) gs = apart y (gs.drop (j + 1))) := by
                                          show _ = _
                                          rw [HA.out, decide_eq_true (show a < x by omega), decide_eq_true (show x < y by omega), decide_eq_true (show y ≤ 16384 by omega)]
                                          rfl
                                        clear HA d1 d2 d3
                                        go_wp2_with fail
                                        go_roundw
                                        case rel => exact ⟨j + 1, y, by omega, by go_num, rfl, HF.out, X2.out, GG.out⟩
                                        case measure => simp [intOf]; omega
                                · obtain rfl : j = gs.length := by omega
                                  rw [List.drop_length] at hap
                                  have HF : Hid (right p = true) := by show _ = _; rw [RAP.out, hap]; rfl
                                  have X2 := hid hx
                                  clear hx hap hg
                                  go_wp2_with fail
                                  go_ret
                                  exact ⟨by rw [HF.out]; rfl, X2.out⟩)


theorem refRight_any (w : World) (v : Value) (p : Pk) (hv : PVal w v p) (hl : slim p) :
    Calls Try.prog 10 #[v] w fun e w' => e = .returned (.bool (right p)) ∧ Ext w w' := by
  by_cases hk : 1 ≤ p.1 0 ∧ p.1 0 ≤ 7
  · exact refRight_kind w v p hv hl (p.1 0).toNat (by omega) (by omega)
  · exact refRight_none w v p hv hk
end Go.Proofs.Ytlnjkjpllmfcaaa

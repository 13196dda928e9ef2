/-
  Walks of apart and of what the ranges' field asks of its bounds.
-/
import Derived.Test.YtlnjkjpllmfcaaaWireOth
namespace Go.Proofs.Ytlnjkjpllmfcaaa
set_option linter.unusedVariables false
set_option maxRecDepth 100000
open Go.RowKit Go.Lib

theorem drop_getD (l : List (Int × Int)) (k : Nat) (h : k < l.length) : l.drop k = l.getD k (0, 0) :: l.drop (k + 1) := by
  rw [List.getD_eq_getElem?_getD, List.getElem?_eq_getElem h, List.drop_eq_getElem_cons h]
  rfl

set_option maxHeartbeats 2000000 in
theorem apart_any (K : Nat → Prop) (w : World) (v : Value) (gs : List (Int × Int)) (hv : RowK K w v 2 (gcells gs)) (hd : gs.length ≤ 100000) :
    Calls Try.prog 91 #[v] w fun e w' => e = .returned (.bool (apart (-1) gs)) ∧ Ext w w' := by
  obtain ⟨ao, n, c, rfl, h1, h2, h3, h4⟩ := hv
  have e : n = gs.length := by rw [gcells_length] at h1; omega
  subst e
  unfold maxLen at h3
  have H4 := hid h4
  have XR := hid (Ext.refl w)
  clear h1 h4
  go_enter Try.func91, Try.ntmps91
  go_wp2_with fail
  go_loopw [3, 8] (fun x i wr => ∃ (k : Nat) (a : Int), k ≤ gs.length ∧ i = .int .i64 k ∧ x = .int .i64 a ∧ apart (-1) gs = apart a (gs.drop k) ∧ Ext w wr) (fun _ i _ => (gs.length - intOf i).toNat)
  case atStart => exact ⟨0, -1, by omega, rfl, rfl, rfl, XR.out⟩
  case round =>
    obtain ⟨k, a, hk, rfl, rfl, hap, hx⟩ := hrel
    by_cases t : k < gs.length
    · obtain ⟨b, o, rfl, hb, hc⟩ := H4.out (by omega)
      have x1 := hx.cell (hc _ _ (gcells_at gs k t).1)
      have x2 := hx.cell (hc _ _ (gcells_at gs k t).2)
      rw [← Nat.add_assoc] at x2
      rw [drop_getD gs k t] at hap
      have X2 : Hid (Ext w (wr.alloc (.cells #[.int .i64 (gs.getD k (0, 0)).1, .int .i64 (gs.getD k (0, 0)).2] 53))) := hx.alloc _
      have HA : Hid (apart (-1) gs = (decide (a < (gs.getD k (0, 0)).1) && (decide ((gs.getD k (0, 0)).1 < (gs.getD k (0, 0)).2) && (decide ((gs.getD k (0, 0)).2 ≤ 16384) && apart (gs.getD k (0, 0)).2 (gs.drop (k + 1)))))) := hap
      clear hx hc hap
      generalize (gs.getD k (0, 0)).1 = x at *
      generalize (gs.getD k (0, 0)).2 = y at *
      have t1 : (k : Int) < (gs.length : Int) := by omega
      have t2 : (0 : Int) ≤ (k : Int) := by omega
      by_cases d1 : x ≤ a
      · have e1 : decide (x ≤ a) = true := by simp [d1]
        have HF : Hid (apart (-1) gs = false) := by show _ = _; rw [HA.out]; simp; omega
        clear HA
        go_wp2_with fail
        go_ret
        exact ⟨by rw [HF.out]; rfl, X2.out⟩
      · have e1 : decide (x ≤ a) = false := by simp; omega
        by_cases d2 : y ≤ x
        · have e2 : decide (y ≤ x) = true := by simp [d2]
          have HF : Hid (apart (-1) gs = false) := by show _ = _; rw [HA.out]; simp; omega
          clear HA d1
          go_wp2_with fail
          go_ret
          exact ⟨by rw [HF.out]; rfl, X2.out⟩
        · have e2 : decide (y ≤ x) = false := by simp; omega
          by_cases d3 : 16384 < y
          · have e3 : decide (16384 < y) = true := by simp [d3]
            have HF : Hid (apart (-1) gs = false) := by show _ = _; rw [HA.out]; simp; omega
            clear HA d1 d2
            go_wp2_with fail
            go_ret
            exact ⟨by rw [HF.out]; rfl, X2.out⟩
          · have e3 : decide (16384 < y) = false := by simp; omega
            have HF : Hid (apart (-1) gs = apart y (gs.drop (k + 1))) := by
              show _ = _
              rw [HA.out, decide_eq_true (show a < x by omega), decide_eq_true (show x < y by omega), decide_eq_true (show y ≤ 16384 by omega)]
              rfl
            clear HA d1 d2 d3
            go_wp2_with fail
            go_roundw
            case rel => exact ⟨k + 1, y, by omega, by go_num, rfl, HF.out, X2.out⟩
            case measure => simp [intOf]; omega
    · obtain rfl : k = gs.length := by omega
      rw [List.drop_length] at hap
      have HF : Hid (apart (-1) gs = true) := hap
      have X2 := hid hx
      clear hx hap
      go_wp2_with fail
      go_ret
      exact ⟨by rw [HF.out]; rfl, X2.out⟩

set_option maxHeartbeats 1000000 in
theorem fits_ranges (K : Nat → Prop) (w : World) (gp : Nat) (p : Pk) (hp : PAt K w gp p) (hd : p.2.2.1.length ≤ 100000) :
    Calls Try.prog 90 #[.pointer (some ⟨gp, 0, none⟩)] w fun e w' => e = .returned (.bool (fits 71 p)) ∧ Ext w w' := by
  obtain ⟨ra, rg, da, h1, hpl⟩ := hp
  have C2 := hid (apart_any K w rg p.2.2.1 hpl.2.1 hd)
  obtain ⟨ao, n, cc, rfl, l1, l2, l3, _⟩ := hpl.2.1
  rw [gcells_length] at l1
  have l4 : n = p.2.2.1.length := by omega
  subst l4
  have c1 : w.cell? ⟨gp, 11, none⟩ = some (.slice ao p.2.2.1.length cc) := by rw [cell_of_row _ _ _ _ _ _ h1]; rfl
  have C := hid (oneTo_any p.2.2.1.length 16 w)
  have X := hid (Ext.refl w)
  have FT : Hid (fits 71 p = (oneto p.2.2.1.length 16 && apart (-1) p.2.2.1)) := rfl
  unfold maxLen at l3
  clear h1 hpl l1
  generalize oneto p.2.2.1.length 16 = B at *
  generalize apart (-1) p.2.2.1 = A at *
  cases B
  · go_enter Try.func90, Try.ntmps90
    go_wp2_with fail
    refine C.out.mono ?_
    rintro e w2 ⟨rfl, rfl⟩
    clear C C2
    go_wp2_with fail
    go_ret
    exact ⟨by rw [FT.out]; rfl, X.out⟩
  · go_enter Try.func90, Try.ntmps90
    go_wp2_with fail
    refine C.out.mono ?_
    rintro e w2 ⟨rfl, rfl⟩
    clear C
    go_wp2_with fail
    refine C2.out.mono ?_
    rintro e w3 ⟨rfl, X3⟩
    clear C2
    have XX := hid X3
    clear X3
    go_wp2_with fail
    go_ret
    exact ⟨by rw [FT.out]; rfl, XX.out⟩
end Go.Proofs.Ytlnjkjpllmfcaaa

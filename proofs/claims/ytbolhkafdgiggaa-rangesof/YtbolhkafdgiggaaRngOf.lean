/-
  Walks of right and Of: which stretches make a set.
-/
import Derived.Test.YtbolhkafdgiggaaRngLay
namespace Go.Proofs.Ytbolhkafdgiggaa
set_option linter.unusedVariables false
set_option maxRecDepth 100000
open Go.RowKit Go.Lib

/-- are these a set's stretches, behind one that ended at a? -/
def rightB (a : Int) : Sts → Bool
  | [] => true
  | p :: l => ((decide (a < p.1) && decide (p.1 < p.2)) && decide (p.2 ≤ 16384)) && rightB p.2 l
theorem rightB_iff : ∀ (l : Sts) (a : Int), rightB a l = true ↔ Canon (a + 1) 16384 l
  | [], a => by simp [rightB, Canon]
  | p :: l, a => by
    rw [rightB]
    simp only [Bool.and_eq_true, decide_eq_true_eq, rightB_iff l p.2]
    constructor
    · rintro ⟨⟨⟨h1, h2⟩, h3⟩, h4⟩
      refine ⟨fun q hq => ?_, List.pairwise_cons.2 ⟨fun q hq => ?_, h4.2⟩⟩
      · rcases List.mem_cons.1 hq with rfl | hq
        · omega
        · have := h4.1 q hq; omega
      · have := h4.1 q hq; omega
    · intro h
      have h1 := h.1 p List.mem_cons_self
      exact ⟨⟨⟨by omega, h1.2.1⟩, h1.2.2⟩, h.tail⟩
theorem right_good (l : Sts) : rightB (-1) l = true ↔ Good l := rightB_iff l (-1)
theorem drop_step (l : Sts) (k : Nat) (h : k < l.length) : l.drop k = l.getD k (0, 0) :: l.drop (k + 1) := by
  rw [List.drop_eq_getElem_cons h, List.getD_eq_getElem?_getD, List.getElem?_eq_getElem h]
  rfl
theorem fill_good {l : Sts} (h : Good l) : fill l = l := by
  unfold fill
  rw [List.filter_eq_self]
  intro p hp
  have := h.1 p hp
  simp
  omega

set_option maxHeartbeats 2000000 in
theorem right_any (K : Nat → Prop) (w : World) (v : Value) (l : Sts) (hv : RowK K w v 2 (gcells l)) (hl : l.length ≤ 100000) :
    Calls Try.prog 29 #[v] w fun e w' => e = .returned (.bool (rightB (-1) l)) ∧ Ext w w' := by
  obtain ⟨ao, n, c, rfl, h1, h2, h3, h4⟩ := hv
  have e : n = l.length := by rw [gcells_length] at h1; omega
  subst e
  have H4 := hid h4
  unfold maxLen at h3
  clear h1 h4
  obtain ⟨B, eB⟩ : ∃ B, rightB (-1) l = B := ⟨_, rfl⟩
  rw [eB]
  have EB := hid eB
  clear eB
  go_enter Try.func29, Try.ntmps29
  go_wp2_with fail
  go_loopw [3, 8] (fun a i wr => ∃ (k : Nat) (ah : Int), k ≤ l.length ∧ i = .int .i64 (k : Int) ∧ a = .int .i64 ah ∧ rightB ah (l.drop k) = B ∧ Ext w wr) (fun _ i _ => (l.length - intOf i).toNat)
  case atStart => exact ⟨0, -1, by omega, rfl, rfl, EB.out, Ext.refl w⟩
  case round =>
    obtain ⟨k, ah, hk, rfl, rfl, hr, xr⟩ := hrel
    have XR := hid xr
    by_cases t : k < l.length
    · obtain ⟨g, o, rfl, _, hc⟩ := H4.out (by omega)
      have x1 := xr.cell (hc _ _ (gcells_at l k t).1)
      have x2 := xr.cell (hc _ _ (gcells_at l k t).2)
      rw [← Nat.add_assoc] at x2
      rw [drop_step l k t, rightB] at hr
      have HR := hid hr
      have i1 : (k : Int) < (l.length : Int) := by omega
      have i2 : (0 : Int) ≤ (k : Int) := by omega
      clear hc hr xr
      generalize (l.getD k (0, 0)).1 = p at *
      generalize (l.getD k (0, 0)).2 = q at *
      have X2 := hid (XR.out.alloc (.cells #[.int .i64 p, .int .i64 q] 33))
      by_cases t1 : p ≤ ah
      · obtain rfl : B = false := by rw [← HR.out]; simp; omega
        go_wp2_with fail
        go_ret
        exact ⟨rfl, X2.out⟩
      · by_cases t2 : q ≤ p
        · obtain rfl : B = false := by rw [← HR.out]; simp; omega
          go_wp2_with fail
          go_ret
          exact ⟨rfl, X2.out⟩
        · by_cases t3 : 16384 < q
          · obtain rfl : B = false := by rw [← HR.out]; simp; omega
            go_wp2_with fail
            go_ret
            exact ⟨rfl, X2.out⟩
          · have HR2 : Hid (rightB q (l.drop (k + 1)) = B) := by
              show _ = _
              rw [← HR.out]
              have e1 : decide (ah < p) = true := by simp; omega
              have e2 : decide (p < q) = true := by simp; omega
              have e3 : decide (q ≤ 16384) = true := by simp; omega
              rw [e1, e2, e3]
              rfl
            go_wp2_with fail
            go_roundw
            case rel => exact ⟨k + 1, q, by omega, by go_num, rfl, HR2.out, X2.out⟩
            case measure => simp [intOf]; omega
    · obtain rfl : k = l.length := by omega
      rw [List.drop_length] at hr
      obtain rfl : B = true := hr.symm
      clear xr hr
      go_wp2_with fail
      go_ret
      exact ⟨rfl, XR.out⟩

set_option maxHeartbeats 2000000 in
theorem of_yes (w : World) (v : Value) (l : Sts) (hv : RowK (fun _ => True) w v 2 (gcells l)) (hl : l.length ≤ 1000) (hg : Good l) :
    Calls Try.prog 19 #[v] w fun e w' => ∃ b, e = .returned (.tuple #[.pointer (some ⟨b, 0, none⟩), .bool true]) ∧ SetK (fun i => i < w.heap.size) w' b l ∧ Ext w w' := by
  have C1 := hid (right_any _ w v l hv (by omega))
  rw [(right_good l).2 hg] at C1
  have HV := hid hv
  have HG := hid hg
  obtain ⟨ao, n, c, rfl, _⟩ := hv
  clear hg
  go_enter Try.func19, Try.ntmps19
  go_wp2_with fail
  refine C1.out.mono ?_
  rintro e w1 ⟨rfl, x1⟩
  have C2 := hid (new_any w1)
  have X1 := hid x1
  clear C1 x1
  go_wp2_with fail
  refine C2.out.mono ?_
  rintro e w2 ⟨rfl, e2⟩
  have x2 : Ext w1 w2 := by rw [e2]; exact (Ext.refl w1).alloc _
  have s2 : SetK (fun i => i < w1.heap.size) w2 w1.heap.size [] := by rw [e2]; exact new_set w1
  have r2 : RowK (fun i => i < w1.heap.size) w2 (.slice ao n c) 2 (gcells l) :=
    ((HV.out.kept (Kept.of_ext X1.out)).mono (L := fun i => i < w1.heap.size) (by decide) (fun i hi _ => hi)).kept (Kept.of_ext x2)
  have C3 := hid (lay_any _ w1.heap.size 0 0 [] l _ w2 s2 r2 (Nat.le_refl _) (Nat.le_refl _) (by simp) hl)
  have X2 := hid x2
  clear C2 x2 s2 r2 e2
  generalize hb : w1.heap.size = b at *
  go_wp2_with fail
  refine C3.out.mono ?_
  rintro e w3 ⟨rfl, s3, k3⟩
  have el : laid [] 0 0 l = l := by
    unfold laid
    rw [fill_good HG.out]
    simp
  rw [el] at s3
  have R : Hid (SetK (fun i => i < w.heap.size) w3 b l ∧ Ext w w3) := by
    have := X1.out.size
    have k4 : Kept (fun i => i < b) w w3 := (Kept.of_ext (X1.out.trans X2.out)).trans k3
    exact ⟨s3.less (fun i hi => by omega), k4.below (Nat.le_refl _) (fun i hi => by omega)⟩
  clear C3 s3 k3 el
  go_wp2_with fail
  go_ret2
  exact ⟨b, rfl, R.1, R.2⟩

theorem of_no (w : World) (v : Value) (l : Sts) (hv : RowK (fun _ => True) w v 2 (gcells l)) (hl : l.length ≤ 1000) (hg : rightB (-1) l = false) :
    Calls Try.prog 19 #[v] w fun e w' => e = .returned (.tuple #[.pointer none, .bool false]) ∧ Ext w w' := by
  have C1 := hid (right_any _ w v l hv (by omega))
  rw [hg] at C1
  obtain ⟨ao, n, c, rfl, _⟩ := hv
  clear hg
  go_enter Try.func19, Try.ntmps19
  go_wp2_with fail
  refine C1.out.mono ?_
  rintro e w1 ⟨rfl, x1⟩
  have X1 := hid x1
  clear C1 x1
  go_wp2_with fail
  go_ret2
  exact ⟨rfl, X1.out⟩
end Go.Proofs.Ytbolhkafdgiggaa

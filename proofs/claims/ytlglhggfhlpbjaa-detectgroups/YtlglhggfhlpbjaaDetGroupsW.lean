/-
  The walk of DetectGroups: losses that are no more than a round trip behind the begin of a loss event are of that event.
-/
import Derived.Test.YtlglhggfhlpbjaaDetRowM
namespace Go.Proofs.Ytlglhggfhlpbjaa.detectGroups
set_option linter.unusedVariables false
set_option maxRecDepth 100000
open Go.RowKit Go.Lib Go.Proofs.Ytlglhggfhlpbjaa.His Go.Proofs.Ytlglhggfhlpbjaa.Det

/-- a detector that the walk made -/
def Dk (w V : World) (b h : Nat) (s : DS) : Prop := DetV V b h s ∧ Ext w V ∧ w.heap.size ≤ b ∧ w.heap.size ≤ h
theorem Dk.on {w V V' : World} {b h : Nat} {s s' : DS} (d : Dk w V b h s) (d' : DetV V' b h s') (k : Kept (fun q => q ≠ b ∧ q ≠ h) V V') : Dk w V' b h s' := ⟨d', Below.trans d.2.1 (k.below d.2.1.size (fun i hi => by have := d.2.2; omega)), d.2.2⟩
theorem Dk.ext {w V V' : World} {b h : Nat} {s : DS} (d : Dk w V b h s) (x : Ext V V') : Dk w V' b h s := ⟨d.1.ext x, d.2.1.trans x, d.2.2⟩

set_option maxHeartbeats 4000000 in
theorem walk (v0 : Value) (l : List OpD) (rtt : Int) (w : World) (hz : OpsIn w v0 l) : Calls Try.prog 4 #[v0, .int .i64 rtt] w fun e w' => e = .returned (.bool true) ∧ Ext w w' := by
  have NW := hid (newDet_any w)
  have AW := hid (fun V => awake_any V)
  obtain ⟨ao, c, rfl, k1, k2⟩ := hz.slice
  have AT : Hid (∀ k o, l[k]? = some o → ∃ g q, ao = some ⟨g, q, none⟩ ∧ g < w.heap.size ∧ FitO o ∧ w.rangeAt g (q + k * 5) (five o)) := fun k o ho => hz.at ho
  obtain ⟨N, eN⟩ : ∃ N, N = l.length := ⟨_, rfl⟩
  rw [← eN] at k1 ⊢
  unfold maxLen at k2
  have HN := hid eN
  clear eN
  clear hz
  have WI := fun V => within_any rtt V
  by_cases big : 100 < N
  · have b1 : (100 : Int) < (N : Int) := by omega
    clear AT HN big WI
    go_enter Try.func4, Try.ntmps4
    go_wp2_with fail
    refine NW.out.mono ?_
    rintro e w1 ⟨b, h, rfl, d1, lb, lh, x1⟩
    have X1 := hid x1
    clear NW d1 lb lh x1
    go_wp2_with fail
    refine (AW.out _).mono ?_
    rintro e w2 ⟨rfl, x2⟩
    have XF := hid (X1.out.trans x2)
    clear AW X1 x2
    go_wp2_with fail
    go_ret
    exact ⟨rfl, XF.out⟩
  have b1 : ¬ (100 : Int) < (N : Int) := by omega
  by_cases bad : rtt < 0 ∨ 1099511627776 < rtt
  · rw [range_no bad] at WI
    have WW := hid WI
    clear AT HN big WI bad
    go_enter Try.func4, Try.ntmps4
    go_wp2_with fail
    refine NW.out.mono ?_
    rintro e w1 ⟨b, h, rfl, d1, lb, lh, x1⟩
    go_wp2_with fail
    refine (WW.out _).mono ?_
    rintro e wW ⟨rfl, eW⟩
    obtain rfl : w1 = wW := eW.symm
    clear WW
    have X1 := hid x1
    clear NW d1 lb lh x1
    go_wp2_with fail
    refine (AW.out _).mono ?_
    rintro e w2 ⟨rfl, x2⟩
    have XF := hid (X1.out.trans x2)
    clear AW X1 x2
    go_wp2_with fail
    go_ret
    exact ⟨rfl, XF.out⟩
  rw [range_yes (by omega) (by omega)] at WI
  have WW := hid WI
  obtain ⟨r0, r1⟩ : 0 ≤ rtt ∧ rtt ≤ 1099511627776 := by omega
  clear WI bad
  go_enter Try.func4, Try.ntmps4
  go_wp2_with fail
  refine NW.out.mono ?_
  rintro e w1 ⟨b, h, rfl, d1, lb, lh, x1⟩
  have S0 : Hid (Dk w w1 b h dnew) := ⟨d1, x1, lb, lh⟩
  clear NW d1 x1 lb lh
  go_wp2_with fail
  refine (WW.out _).mono ?_
  rintro e wW ⟨rfl, eW⟩
  obtain rfl : w1 = wW := eW.symm
  clear WW
  go_wp2_with fail
  go_loopw [6, 7, 8, 10, 11, 12, 33] (fun ti la so _ _ _ iv wr => ∃ (k : Nat) (s : DS), k ≤ N ∧ iv = .int .i64 (k : Int) ∧ ti = .int .i64 s.2.2.2.2 ∧ la = .int .i64 s.2.2.1 ∧ so = .bool s.2.2.2.1 ∧ Hid (s.2.2.2.2 ≤ 1000 * (k : Int)) ∧ Hid (Evs s) ∧ Hid (Dk w wr b h s)) (fun _ _ _ _ _ _ iv _ => (N - RowKit.intOf iv).toNat)
  case atStart => exact ⟨0, dnew, by omega, rfl, rfl, rfl, rfl, by show (0 : Int) ≤ _; decide, by show Evs _; unfold Evs dnew; simp, S0⟩
  case round =>
    clear S0
    obtain ⟨k, s, hk, rfl, rfl, rfl, rfl, LS, EV, D⟩ := hrel
    by_cases q : k < N
    · clear AW
      obtain ⟨o, eo⟩ : ∃ o, l[k]? = some o := ⟨_, List.getElem?_eq_getElem (by have := HN.out; omega)⟩
      obtain ⟨g, q0, rfl, gl, fo, rg⟩ := AT.out k o eo
      have RG : Hid (wr.rangeAt g (q0 + k * 5) (five o)) := fun j u hu => D.out.2.1.cell (rg j u hu)
      obtain ⟨W0, e0⟩ : ∃ W0, W0 = wr.alloc (.cells (opc 0 0 0 0 0) 33) := ⟨_, rfl⟩
      obtain ⟨p, ep⟩ : ∃ p, p = wr.heap.size := ⟨_, rfl⟩
      have r0 : W0.heap[p]? = some (.cells (opc 0 0 0 0 0) 33 (0, 0)) := by rw [e0, ep]; exact heap_alloc_new wr _
      obtain ⟨W1, e1⟩ : ∃ W1, W1 = W0.setRow p (ocs o) := ⟨_, rfl⟩
      have X1 : Ext wr W1 := by rw [e1, e0]; exact ((Ext.refl wr).alloc _).setRow (by omega) _
      have D1 := hid (D.out.ext X1)
      have r1 : Hid (W1.heap[p]? = some (.cells (ocs o) 33 (0, 0))) := by show _ = _; rw [e1]; exact setRow_heap _ _ _ _ _ _ r0
      have RR0 := hid r0
      have ON5 : Hid ((ocs o).all (·.oneCell') = true) := by show _ = _; simp [ocs, opc, Value.oneCell']
      have FO := hid fo
      unfold opc at e0
      have E0 := hid e0
      have E1 := hid e1
      have EP := hid ep
      have i1 : (k : Int) < (N : Int) := by omega
      have i2 : (0 : Int) ≤ (k : Int) := by omega
      clear e0 e1 ep r0 X1 D AT fo eo gl rg
      obtain ⟨ls0, ls1⟩ := D1.out.1.1.2.2.2.2
      obtain ⟨bg0, bg1⟩ := D1.out.1.1.2.2.2.1
      obtain ⟨⟨sq0, sq1⟩, la0, la1⟩ := FO.out
      have NXL := D1.out.1.1.2.1
      obtain ⟨kind, layer, seq, later, ort⟩ := o
      simp only at sq0 sq1 la0 la1
      obtain ⟨ly, ely, hly⟩ := and7 layer
      obtain ⟨m1, em1⟩ : ∃ m1, max later 0 = m1 := ⟨_, rfl⟩
      obtain ⟨m, em⟩ : ∃ m, min m1 1000 = m := ⟨_, rfl⟩
      have hm0 : 0 ≤ m := by omega
      have hm1 : m ≤ 1000 := by omega
      have lk := LS.out
      have ON := on_good b h s ly seq (s.2.2.2.2 + m) rtt W1 D1.out.1 (by unfold badOn; omega) (by omega) sq0 sq1
      obtain ⟨f1, f2, f3, f4, f5, f6, f7, f8⟩ := don_group s ly seq (s.2.2.2.2 + m) rtt EV.out (NXL ly (by omega)).1
      have y0 : W1.cell? ⟨p, 0, none⟩ = some (.int .i64 kind) := by rw [cell_of_row _ _ 0 _ _ _ r1.out]; rfl
      have y1 : W1.cell? ⟨p, 1, none⟩ = some (.int .i64 layer) := by rw [cell_of_row _ _ 1 _ _ _ r1.out]; rfl
      have y2 : W1.cell? ⟨p, 2, none⟩ = some (.int .u32 seq) := by rw [cell_of_row _ _ 2 _ _ _ r1.out]; rfl
      have y3 : W1.cell? ⟨p, 3, none⟩ = some (.int .i64 later) := by rw [cell_of_row _ _ 3 _ _ _ r1.out]; rfl
      obtain ⟨nx, ⟨op, lst⟩, bg, sm, ls⟩ := s
      simp only at lk ls0 ls1 bg0 bg1 f1 f2 f3 f4 f5 f6 f8 ON LS ⊢
      generalize don (nx, (op, lst), bg, sm, ls) ly seq (ls + m) rtt = R at *
      obtain ⟨⟨nx', ⟨op', lst'⟩, bg', sm', ls'⟩, L, ev, fi⟩ := R
      unfold fnd at ON
      simp only at f1 f2 f3 f4 f5 f6 f8 ON
      have OO := hid ON
      have DD := hid D1.out
      have FIN : Hid (Evs (nx', (op', lst'), bg', sm', ls') ∧ ls' ≤ 1000 * ((k + 1 : Nat) : Int)) := ⟨f7, by omega⟩
      have H3 := hid f3
      have H4 := hid f4
      have H5 := hid f5
      have H6 := hid f6
      have H8 := hid f8
      clear ON NXL D1 r1 FO EV LS f3 f4 f5 f6 f7 f8
      go_wp2_with (first
        | refine wpList_load_mid rfl 33 _ rfl g (q0 + k * 5) rfl _ _ RG.out Try.underlying33 rfl size_op ?_
        | rw [← EP.out, ← E0.out]
        | (refine wpList_store_row rfl 33 _ _ rfl p (ocs (kind, layer, seq, later, ort)) rfl rfl 33 _ RR0.out size_op rfl ON5.out ?_; rw [← E1.out]))
      refine OO.out.mono ?_
      rintro e w2 ⟨rfl, d2, kk2⟩
      have D2 := DD.out.on d2 kk2
      obtain ⟨F5, e5⟩ : ∃ F5, F5 = w2.alloc (.cells (fcs 0 false false) 40) := ⟨_, rfl⟩
      obtain ⟨f5, ef5⟩ : ∃ f5, f5 = w2.heap.size := ⟨_, rfl⟩
      have rf5 : F5.heap[f5]? = some (.cells (fcs 0 false false) 40 (0, 0)) := by rw [e5, ef5]; exact heap_alloc_new w2 _
      obtain ⟨G5, g5⟩ : ∃ G5, G5 = F5.setRow f5 (fcs L ev fi) := ⟨_, rfl⟩
      have XG5 : Ext w2 G5 := by rw [g5, e5]; exact ((Ext.refl w2).alloc _).setRow (by omega) _
      have rg5 : G5.heap[f5]? = some (.cells (fcs L ev fi) 40 (0, 0)) := by rw [g5]; exact setRow_heap _ _ _ _ _ _ rf5
      have z50 : G5.cell? ⟨f5, 0, none⟩ = some (.int .i64 L) := by rw [cell_of_row _ _ 0 _ _ _ rg5]; rfl
      have z51 : G5.cell? ⟨f5, 1, none⟩ = some (.bool ev) := by rw [cell_of_row _ _ 1 _ _ _ rg5]; rfl
      have z52 : G5.cell? ⟨f5, 2, none⟩ = some (.bool fi) := by rw [cell_of_row _ _ 2 _ _ _ rg5]; rfl
      have D5 := hid (D2.ext XG5)
      clear XG5 D2 d2 kk2 OO DD
      have RF5 := hid rf5
      unfold fcs at e5
      have EF5 := hid e5
      have EG5 := hid g5
      have EH5 := hid ef5
      clear e5 g5 ef5 rf5 rg5
      have hLS : ls' = ls + m := H8.out
      by_cases c1 : 0 < L
      · cases sm with
        | false =>
          have ev1 : ev = true := by rw [H3.out, decide_eq_true ⟨c1, .inl rfl⟩]
          have fi1 : fi = true := by rw [H4.out, ev1]; rfl
          have bg1 : bg' = ls + m := by rw [H5.out, ev1]; rfl
          have sm1 : sm' = true := by rw [H6.out, ev1]; rfl
          subst ev1 fi1 bg1 sm1 hLS
          clear H3 H4 H5 H6 H8
          go_wp2_with (first
            | rw [← EH5.out, ← EF5.out]
            | (refine wpList_store_row rfl 40 _ _ rfl f5 (fcs L true true) rfl rfl 40 _ RF5.out size_fd rfl (fcs_one _ _ _) ?_; rw [← EG5.out]))
          go_roundw
          case rel => exact ⟨k + 1, (nx', (op', lst'), _, _, _), by omega, by go_num, rfl, rfl, rfl, FIN.out.2, FIN.out.1, D5⟩
          case measure => simp [RowKit.intOf]; omega
        | true =>
          by_cases c2 : rtt < ls + m - bg
          · have ev1 : ev = true := by rw [H3.out, decide_eq_true ⟨c1, .inr c2⟩]
            have fi1 : fi = false := by rw [H4.out, ev1]; rfl
            have bg1 : bg' = ls + m := by rw [H5.out, ev1]; rfl
            have sm1 : sm' = true := by rw [H6.out, ev1]; rfl
            subst ev1 fi1 bg1 sm1 hLS
            clear H3 H4 H5 H6 H8
            go_wp2_with (first
              | rw [← EH5.out, ← EF5.out]
              | (refine wpList_store_row rfl 40 _ _ rfl f5 (fcs L true false) rfl rfl 40 _ RF5.out size_fd rfl (fcs_one _ _ _) ?_; rw [← EG5.out]))
            go_roundw
            case rel => exact ⟨k + 1, (nx', (op', lst'), _, _, _), by omega, by go_num, rfl, rfl, rfl, FIN.out.2, FIN.out.1, D5⟩
            case measure => simp [RowKit.intOf]; omega
          · have ev1 : ev = false := by rw [H3.out, decide_eq_false (by simp; omega)]
            have fi1 : fi = false := by rw [H4.out, ev1]; rfl
            have bg1 : bg' = bg := by rw [H5.out, ev1]; rfl
            have sm1 : sm' = true := by rw [H6.out, ev1]; rfl
            subst ev1 fi1 bg1 sm1 hLS
            clear H3 H4 H5 H6 H8
            go_wp2_with (first
              | rw [← EH5.out, ← EF5.out]
              | (refine wpList_store_row rfl 40 _ _ rfl f5 (fcs L false false) rfl rfl 40 _ RF5.out size_fd rfl (fcs_one _ _ _) ?_; rw [← EG5.out]))
            go_roundw
            case rel => exact ⟨k + 1, (nx', (op', lst'), _, _, _), by omega, by go_num, rfl, rfl, rfl, FIN.out.2, FIN.out.1, D5⟩
            case measure => simp [RowKit.intOf]; omega
      · have ev1 : ev = false := by rw [H3.out, decide_eq_false (fun x => c1 x.1)]
        have fi1 : fi = false := by rw [H4.out, ev1]; rfl
        have bg1 : bg' = bg := by rw [H5.out, ev1]; rfl
        have sm1 : sm' = sm := by rw [H6.out, ev1]; rfl
        have L0 : L = 0 := by omega
        subst ev1 fi1 bg1 sm1 hLS L0
        clear H3 H4 H5 H6 H8
        go_wp2_with (first
          | rw [← EH5.out, ← EF5.out]
          | (refine wpList_store_row rfl 40 _ _ rfl f5 (fcs 0 false false) rfl rfl 40 _ RF5.out size_fd rfl (fcs_one _ _ _) ?_; rw [← EG5.out]))
        go_roundw
        case rel => exact ⟨k + 1, (nx', (op', lst'), _, _, _), by omega, by go_num, rfl, rfl, rfl, FIN.out.2, FIN.out.1, D5⟩
        case measure => simp [RowKit.intOf]; omega
    · obtain rfl : N = k := by omega
      clear AT
      have XX := hid D.out.2.1
      clear D EV LS
      go_wp2_with fail
      refine (AW.out _).mono ?_
      rintro e w5 ⟨rfl, x5⟩
      have XF := hid (XX.out.trans x5)
      clear AW x5
      go_wp2_with fail
      go_ret
      exact ⟨rfl, XF.out⟩
end Go.Proofs.Ytlglhggfhlpbjaa.detectGroups

/-
  The walk of DetectCopies: a copy tells the same, and goes on by itself, its history too.
-/
import Derived.Test.YtlglhggfhlpbjaaDetLaw
namespace Go.Proofs.Ytlglhggfhlpbjaa.detectCopies
set_option linter.unusedVariables false
set_option maxRecDepth 100000
open Go.RowKit Go.Lib Go.Proofs.Ytlglhggfhlpbjaa.His Go.Proofs.Ytlglhggfhlpbjaa.Det

set_option maxHeartbeats 4000000 in
theorem walk (v0 : Value) (l : List OpD) (v1 : Value) (l2 : List OpD) (w : World) (hz : OpsIn w v0 l) (hy : OpsIn w v1 l2) : Calls Try.prog 6 #[v0, v1] w fun e w' => e = .returned (.bool true) ∧ Ext w w' := by
  have NW := hid (newDet_any w)
  have RN := hid (fun V => Det.new_any V)
  have AW := hid (fun V => awake_any V)
  obtain ⟨ao, c, rfl, k1, k2⟩ := hz.slice
  have AT : Hid (∀ k o, l[k]? = some o → ∃ g q, ao = some ⟨g, q, none⟩ ∧ g < w.heap.size ∧ FitO o ∧ w.rangeAt g (q + k * 5) (five o)) := fun k o ho => hz.at ho
  obtain ⟨N, eN⟩ : ∃ N, N = l.length := ⟨_, rfl⟩
  rw [← eN] at k1 ⊢
  unfold maxLen at k2
  have HN := hid eN
  clear eN
  obtain ⟨ao2, c2, rfl, k3, k4⟩ := hy.slice
  have AT2 : Hid (∀ k o, l2[k]? = some o → ∃ g q, ao2 = some ⟨g, q, none⟩ ∧ g < w.heap.size ∧ FitO o ∧ w.rangeAt g (q + k * 5) (five o)) := fun k o ho => hy.at ho
  obtain ⟨M, eM⟩ : ∃ M, M = l2.length := ⟨_, rfl⟩
  rw [← eM] at k3 ⊢
  unfold maxLen at k4
  have HM := hid eM
  clear eM
  have RX : Hid (∀ V {b h bx s lv g i cs}, One w V b h bx s lv → w.rangeAt g i cs → V.rangeAt g i cs) := fun V _ _ _ _ _ _ _ _ c r j u hu => c.2.2.1.cell (r j u hu)
  clear hz hy
  by_cases big : 60 < N
  · have b1 : (60 : Int) < (N : Int) := by omega
    clear RN AT AT2 RX HN HM big
    go_enter Try.func6, Try.ntmps6
    go_wp2_with fail
    refine NW.out.mono ?_
    rintro e w1 ⟨b, h, rfl, d1, lb, lh, x1⟩
    have X1 := hid x1
    clear NW d1 lb lh x1
    go_wp2_with fail
    refine (AW.out _).mono ?_
    rintro e w2 ⟨rfl, x2⟩
    have XF := hid (X1.out.trans x2)
    clear AW X1 x2
    go_wp2_with fail
    go_ret
    exact ⟨rfl, XF.out⟩
  have b1 : ¬ (60 : Int) < (N : Int) := by omega
  by_cases big2 : 60 < M
  · have b2 : (60 : Int) < (M : Int) := by omega
    clear RN AT AT2 RX HN HM big big2
    go_enter Try.func6, Try.ntmps6
    go_wp2_with fail
    refine NW.out.mono ?_
    rintro e w1 ⟨b, h, rfl, d1, lb, lh, x1⟩
    have X1 := hid x1
    clear NW d1 lb lh x1
    go_wp2_with fail
    refine (AW.out _).mono ?_
    rintro e w2 ⟨rfl, x2⟩
    have XF := hid (X1.out.trans x2)
    clear AW X1 x2
    go_wp2_with fail
    go_ret
    exact ⟨rfl, XF.out⟩
  have b2 : ¬ (60 : Int) < (M : Int) := by omega
  go_enter Try.func6, Try.ntmps6
  go_wp2_with fail
  refine NW.out.mono ?_
  rintro e w1 ⟨b, h, rfl, d1, lb, lh, x1⟩
  clear NW
  go_wp2_with fail
  refine (RN.out _).mono ?_
  rintro e w2 ⟨rfl, x2⟩
  obtain ⟨W2, e2⟩ : ∃ W2, W2 = w2.alloc (.cells zst 29) := ⟨_, rfl⟩
  obtain ⟨bx, ebx⟩ : ∃ bx, bx = w2.heap.size := ⟨_, rfl⟩
  have r2 : W2.heap[bx]? = some (.cells zst 29 (0, 0)) := by rw [e2, ebx]; exact heap_alloc_new w2 _
  have X2 : Ext w2 W2 := by rw [e2]; exact (Ext.refl w2).alloc _
  obtain ⟨W3, e3⟩ : ∃ W3, W3 = W2.setRow bx (sc dnew (.slice none 0 0)) := ⟨_, rfl⟩
  have X3 : Ext w2 W3 := by rw [e3]; exact X2.setRow (by omega) _
  have r3 : W3.heap[bx]? = some (.cells (sc dnew (.slice none 0 0)) 29 (0, 0)) := by rw [e3]; exact setRow_heap _ _ _ _ _ _ r2
  have S0 := hid (One.new (d1.ext (x2.trans X3)) (x1.trans (x2.trans X3)) lb lh bx r3 (by have := x1.size; have := x2.size; omega) (by have := d1.lt; have := x2.size; omega) (by have := d1.lt; have := x2.size; omega))
  unfold zst at e2
  have E2 := hid e2
  have E3 := hid e3
  have EB := hid ebx
  have RR2 := hid r2
  have ONE := hid (dcs_one dnew.1 0 (.slice none 0 0) 0 false 0 rfl)
  clear e2 e3 ebx r2 r3 X2 X3 d1 x1 x2 lb lh RN
  go_wp2_with (first
    | rw [← EB.out, ← E2.out]
    | (refine wpList_store_row rfl 29 _ _ rfl bx (sc dnew (.slice none 0 0)) rfl rfl 29 _ RR2.out (size_stv _ _) rfl ONE.out ?_; rw [← E3.out]))
  clear RR2 ONE E2 E3
  go_loopw [8, 35] (fun _ iv wr => ∃ (k : Nat) (s : DS) (lv : Value), k ≤ N ∧ iv = .int .i64 (k : Int) ∧ Hid (One w wr b h bx s lv)) (fun _ iv _ => (N - RowKit.intOf iv).toNat)
  case atStart => exact ⟨0, _, _, by omega, rfl, S0⟩
  case round =>
    clear S0
    obtain ⟨k, s, lv, hk, rfl, S⟩ := hrel
    by_cases q : k < N
    · clear AW AT2
      obtain ⟨o, eo⟩ : ∃ o, l[k]? = some o := ⟨_, List.getElem?_eq_getElem (by have := HN.out; omega)⟩
      obtain ⟨g, q0, rfl, gl, fo, rg⟩ := AT.out k o eo
      have RG := hid (RX.out _ S.out rg)
      obtain ⟨W0, e0⟩ : ∃ W0, W0 = wr.alloc (.cells (opc 0 0 0 0 0) 33) := ⟨_, rfl⟩
      obtain ⟨p, ep⟩ : ∃ p, p = wr.heap.size := ⟨_, rfl⟩
      have r0 : W0.heap[p]? = some (.cells (opc 0 0 0 0 0) 33 (0, 0)) := by rw [e0, ep]; exact heap_alloc_new wr _
      obtain ⟨W1, e1⟩ : ∃ W1, W1 = W0.setRow p (ocs o) := ⟨_, rfl⟩
      have X1 : Ext wr W1 := by rw [e1, e0]; exact ((Ext.refl wr).alloc _).setRow (by omega) _
      have S1 := hid (S.out.ext X1)
      have r1 : Hid (W1.heap[p]? = some (.cells (ocs o) 33 (0, 0))) := by show _ = _; rw [e1]; exact setRow_heap _ _ _ _ _ _ r0
      have RR0 := hid r0
      have ON5 : Hid ((ocs o).all (·.oneCell') = true) := by show _ = _; simp [ocs, opc, Value.oneCell']
      have RB := hid S1.out.2.1.1
      have FO := hid fo
      unfold opc at e0
      have E0 := hid e0
      have E1 := hid e1
      have EP := hid ep
      have i1 : (k : Int) < (N : Int) := by omega
      have i2 : (0 : Int) ≤ (k : Int) := by omega
      clear e0 e1 ep r0 X1 S AT RX fo eo gl rg
      go_wp2_with (first
        | refine wpList_load_mid rfl 33 _ rfl g (q0 + k * 5) rfl _ _ RG.out Try.underlying33 rfl size_op ?_
        | rw [← EP.out, ← E0.out]
        | (refine wpList_store_row rfl 33 _ _ rfl p (ocs o) rfl rfl 33 _ RR0.out size_op rfl ON5.out ?_; rw [← E1.out])
        | refine wpList_load_row rfl 29 _ rfl bx rfl 29 _ (0, 0) _ RB.out Try.underlying29 rfl (size_stv _ _) ?_
        | refine wpList_load_row rfl 33 _ rfl p rfl 33 _ (0, 0) _ r1.out Try.underlying33 rfl size_op ?_)
      refine (S1.out.step o FO.out).mono ?_
      rintro e w5 ⟨lv2, rfl, r5, on5, S2⟩
      obtain ⟨W5, e5⟩ : ∃ W5, W5 = w5.setRow bx (sc (dst s o) lv2) := ⟨_, rfl⟩
      rw [← e5] at S2
      have S5 := hid S2
      have R5 := hid r5
      have O5 := hid on5
      have E5 := hid e5
      clear S2 r5 on5 e5 S1 RB r1 RR0 RG E0 E1 EP FO ON5
      go_wp2_with (refine wpList_store_row rfl 29 _ _ rfl bx (sc (dst s o) lv2) rfl rfl 29 _ R5.out (size_stv _ _) rfl O5.out ?_; rw [← E5.out])
      go_roundw
      case rel => exact ⟨k + 1, _, _, by omega, by go_num, S5⟩
      case measure => simp [RowKit.intOf]; omega
    · obtain rfl : N = k := by omega
      have CP := hid (copyDet_any b h s wr S.out.1)
      clear AT k1 k2
      go_wp2_with fail
      refine CP.out.mono ?_
      rintro e w6 ⟨c, g, rfl, dc, lc, lg, x6⟩
      have RB := hid (x6.row S.out.2.1.1)
      obtain ⟨W7, e7⟩ : ∃ W7, W7 = w6.alloc (.cells zst 29) := ⟨_, rfl⟩
      obtain ⟨cx, ecx⟩ : ∃ cx, cx = w6.heap.size := ⟨_, rfl⟩
      have r7 : W7.heap[cx]? = some (.cells zst 29 (0, 0)) := by rw [e7, ecx]; exact heap_alloc_new w6 _
      have X7 : Ext w6 W7 := by rw [e7]; exact (Ext.refl w6).alloc _
      obtain ⟨W8, e8⟩ : ∃ W8, W8 = W7.setRow cx (sc s lv) := ⟨_, rfl⟩
      have X8 : Ext w6 W8 := by rw [e8]; exact X7.setRow (by omega) _
      have r8 : W8.heap[cx]? = some (.cells (sc s lv) 29 (0, 0)) := by rw [e8]; exact setRow_heap _ _ _ _ _ _ r7
      have TT := hid (Two.new S.out (x6.trans X8) (dc.ext X8) lc lg r8 (by have := x6.size; omega) (by have := dc.lt; omega) (by have := dc.lt; omega))
      have ON8 := hid (sc_one s lv S.out.2.1.2)
      unfold zst at e7
      have E7 := hid e7
      have E8 := hid e8
      have EC := hid ecx
      have RR7 := hid r7
      clear CP e7 e8 ecx r7 r8 X7 X8 x6 dc lc lg S EB
      go_wp2_with (first
        | refine wpList_load_row rfl 29 _ rfl bx rfl 29 _ (0, 0) _ RB.out Try.underlying29 rfl (size_stv _ _) ?_
        | rw [← EC.out, ← E7.out]
        | (refine wpList_store_row rfl 29 _ _ rfl cx (sc s lv) rfl rfl 29 _ RR7.out (size_stv _ _) rfl ON8.out ?_; rw [← E8.out]))
      clear RB RR7 ON8 E7 E8 EC
      go_loopw [12, 13, 54] (fun _ _ iv wr => ∃ (k : Nat) (x : DS) (lx : Value), k ≤ M ∧ iv = .int .i64 (k : Int) ∧ Hid (Two w wr b h bx s lv c g cx x lx)) (fun _ _ iv _ => (M - RowKit.intOf iv).toNat)
      case atStart => exact ⟨0, _, _, by omega, rfl, TT⟩
      case round =>
        clear TT
        obtain ⟨k, x, lx, hk, rfl, T⟩ := hrel
        have S := hid T.out.1
        by_cases q : k < M
        · clear AW
          obtain ⟨o, eo⟩ : ∃ o, l2[k]? = some o := ⟨_, List.getElem?_eq_getElem (by have := HM.out; omega)⟩
          obtain ⟨g2, q0, rfl, gl, fo, rg⟩ := AT2.out k o eo
          have RG := hid (RX.out _ S.out rg)
          obtain ⟨W0, e0⟩ : ∃ W0, W0 = wr.alloc (.cells (opc 0 0 0 0 0) 33) := ⟨_, rfl⟩
          obtain ⟨p, ep⟩ : ∃ p, p = wr.heap.size := ⟨_, rfl⟩
          have r0 : W0.heap[p]? = some (.cells (opc 0 0 0 0 0) 33 (0, 0)) := by rw [e0, ep]; exact heap_alloc_new wr _
          obtain ⟨W1, e1⟩ : ∃ W1, W1 = W0.setRow p (ocs o) := ⟨_, rfl⟩
          have X1 : Ext wr W1 := by rw [e1, e0]; exact ((Ext.refl wr).alloc _).setRow (by omega) _
          have S1 := hid (S.out.ext X1)
          have r1 : Hid (W1.heap[p]? = some (.cells (ocs o) 33 (0, 0))) := by show _ = _; rw [e1]; exact setRow_heap _ _ _ _ _ _ r0
          have RR0 := hid r0
          have ON5 : Hid ((ocs o).all (·.oneCell') = true) := by show _ = _; simp [ocs, opc, Value.oneCell']
          have RB := hid S1.out.2.1.1
          have FO := hid fo
          unfold opc at e0
          have E0 := hid e0
          have E1 := hid e1
          have EP := hid ep
          have i1 : (k : Int) < (M : Int) := by omega
          have i2 : (0 : Int) ≤ (k : Int) := by omega
          have T1 := hid (T.out.ext X1)
          clear e0 e1 ep r0 X1 S AT2 RX T fo eo gl rg
          go_wp2_with (first
            | refine wpList_load_mid rfl 33 _ rfl g2 (q0 + k * 5) rfl _ _ RG.out Try.underlying33 rfl size_op ?_
            | rw [← EP.out, ← E0.out]
            | (refine wpList_store_row rfl 33 _ _ rfl p (ocs o) rfl rfl 33 _ RR0.out size_op rfl ON5.out ?_; rw [← E1.out])
            | refine wpList_load_row rfl 29 _ rfl cx rfl 29 _ (0, 0) _ RB.out Try.underlying29 rfl (size_stv _ _) ?_
            | refine wpList_load_row rfl 33 _ rfl p rfl 33 _ (0, 0) _ r1.out Try.underlying33 rfl size_op ?_)
          refine (T1.out.step o FO.out).mono ?_
          rintro e w5 ⟨lv2, rfl, r5, on5, S2⟩
          obtain ⟨W5, e5⟩ : ∃ W5, W5 = w5.setRow cx (sc (dst x o) lv2) := ⟨_, rfl⟩
          rw [← e5] at S2
          have S5 := hid S2
          have R5 := hid r5
          have O5 := hid on5
          have E5 := hid e5
          clear S2 r5 on5 e5 S1 T1 RB r1 RR0 RG E0 E1 EP FO ON5
          go_wp2_with (refine wpList_store_row rfl 29 _ _ rfl cx (sc (dst x o) lv2) rfl rfl 29 _ R5.out (size_stv _ _) rfl O5.out ?_; rw [← E5.out])
          go_roundw
          case rel => exact ⟨k + 1, _, _, by omega, by go_num, S5⟩
          case measure => simp [RowKit.intOf]; omega
        · obtain rfl : M = k := by omega
          have RB1 := hid T.out.2.2.1.1
          clear AT2 RX S
          go_wp2_with (refine wpList_load_row rfl 29 _ rfl bx rfl 29 _ (0, 0) _ RB1.out Try.underlying29 rfl (size_stv _ _) ?_)
          refine (One.same T.out.first).mono ?_
          rintro e w6 ⟨rfl, x6⟩
          have T6 := hid (T.out.ext x6)
          have RB2 := hid T6.out.1.2.1.1
          clear x6 T RB1
          go_wp2_with (refine wpList_load_row_g (by rfl) 29 _ rfl cx rfl 29 _ (0, 0) _ RB2.out Try.underlying29 rfl (size_stv _ _) ?_)
          refine (One.same T6.out.1).mono ?_
          rintro e w7 ⟨rfl, x7⟩
          have X7 := hid (T6.out.1.2.2.1.trans x7)
          clear x7 T6 RB2
          go_wp2_with fail
          refine (AW.out _).mono ?_
          rintro e w8 ⟨rfl, x8⟩
          have XF := hid (X7.out.trans x8)
          clear AW X7 x8
          go_wp2_with fail
          go_ret
          exact ⟨rfl, XF.out⟩
end Go.Proofs.Ytlglhggfhlpbjaa.detectCopies

/-
  The walk of DetectPlays: a detector answers every row of packets as the document says.
-/
import Derived.Test.YtlglhggfhlpbjaaDetLaw
namespace Go.Proofs.Ytlglhggfhlpbjaa.detectPlays
set_option linter.unusedVariables false
set_option maxRecDepth 100000
open Go.RowKit Go.Lib Go.Proofs.Ytlglhggfhlpbjaa.His Go.Proofs.Ytlglhggfhlpbjaa.Det

set_option maxHeartbeats 4000000 in
theorem walk (v0 : Value) (l : List OpD) (w : World) (hz : OpsIn w v0 l) : Calls Try.prog 3 #[v0] w fun e w' => e = .returned (.bool true) ∧ Ext w w' := by
  have NW := hid (newDet_any w)
  have RN := hid (fun V => Det.new_any V)
  have AW := hid (fun V => awake_any V)
  obtain ⟨ao, c, rfl, k1, k2⟩ := hz.slice
  have AT : Hid (∀ k o, l[k]? = some o → ∃ g q, ao = some ⟨g, q, none⟩ ∧ g < w.heap.size ∧ FitO o ∧ w.rangeAt g (q + k * 5) (five o)) := fun k o ho => hz.at ho
  obtain ⟨N, eN⟩ : ∃ N, N = l.length := ⟨_, rfl⟩
  rw [← eN] at k1 ⊢
  unfold maxLen at k2
  have HN := hid eN
  clear eN
  have RX : Hid (∀ V {b h bx s lv g i cs}, One w V b h bx s lv → w.rangeAt g i cs → V.rangeAt g i cs) := fun V _ _ _ _ _ _ _ _ c r j u hu => c.2.2.1.cell (r j u hu)
  clear hz
  by_cases big : 100 < N
  · have b1 : (100 : Int) < (N : Int) := by omega
    clear RN AT RX HN big
    go_enter Try.func3, Try.ntmps3
    go_wp2_with fail
    refine NW.out.mono ?_
    rintro e w1 ⟨b, h, rfl, d1, lb, lh, x1⟩
    have X1 := hid x1
    clear NW d1 lb lh x1
    go_wp2_with fail
    refine (AW.out _).mono ?_
    rintro e w2 ⟨rfl, x2⟩
    have XF := hid (X1.out.trans x2)
    clear AW X1 x2
    go_wp2_with fail
    go_ret
    exact ⟨rfl, XF.out⟩
  have b1 : ¬ (100 : Int) < (N : Int) := by omega
  go_enter Try.func3, Try.ntmps3
  go_wp2_with fail
  refine NW.out.mono ?_
  rintro e w1 ⟨b, h, rfl, d1, lb, lh, x1⟩
  clear NW
  go_wp2_with fail
  refine (RN.out _).mono ?_
  rintro e w2 ⟨rfl, x2⟩
  obtain ⟨W2, e2⟩ : ∃ W2, W2 = w2.alloc (.cells zst 29) := ⟨_, rfl⟩
  obtain ⟨bx, ebx⟩ : ∃ bx, bx = w2.heap.size := ⟨_, rfl⟩
  have r2 : W2.heap[bx]? = some (.cells zst 29 (0, 0)) := by rw [e2, ebx]; exact heap_alloc_new w2 _
  have X2 : Ext w2 W2 := by rw [e2]; exact (Ext.refl w2).alloc _
  obtain ⟨W3, e3⟩ : ∃ W3, W3 = W2.setRow bx (sc dnew (.slice none 0 0)) := ⟨_, rfl⟩
  have X3 : Ext w2 W3 := by rw [e3]; exact X2.setRow (by omega) _
  have r3 : W3.heap[bx]? = some (.cells (sc dnew (.slice none 0 0)) 29 (0, 0)) := by rw [e3]; exact setRow_heap _ _ _ _ _ _ r2
  have S0 := hid (One.new (d1.ext (x2.trans X3)) (x1.trans (x2.trans X3)) lb lh bx r3 (by have := x1.size; have := x2.size; omega) (by have := d1.lt; have := x2.size; omega) (by have := d1.lt; have := x2.size; omega))
  unfold zst at e2
  have E2 := hid e2
  have E3 := hid e3
  have EB := hid ebx
  have RR2 := hid r2
  have ONE := hid (dcs_one dnew.1 0 (.slice none 0 0) 0 false 0 rfl)
  clear e2 e3 ebx r2 r3 X2 X3 d1 x1 x2 lb lh RN
  go_wp2_with (first
    | rw [← EB.out, ← E2.out]
    | (refine wpList_store_row rfl 29 _ _ rfl bx (sc dnew (.slice none 0 0)) rfl rfl 29 _ RR2.out (size_stv _ _) rfl ONE.out ?_; rw [← E3.out]))
  clear RR2 ONE E2 E3
  go_loopw [6, 7, 24] (fun _ _ iv wr => ∃ (k : Nat) (s : DS) (lv : Value), k ≤ N ∧ iv = .int .i64 (k : Int) ∧ Hid (One w wr b h bx s lv)) (fun _ _ iv _ => (N - RowKit.intOf iv).toNat)
  case atStart => exact ⟨0, _, _, by omega, rfl, S0⟩
  case round =>
    clear S0
    obtain ⟨k, s, lv, hk, rfl, S⟩ := hrel
    by_cases q : k < N
    · clear AW
      obtain ⟨o, eo⟩ : ∃ o, l[k]? = some o := ⟨_, List.getElem?_eq_getElem (by have := HN.out; omega)⟩
      obtain ⟨g, q0, rfl, gl, fo, rg⟩ := AT.out k o eo
      have RG := hid (RX.out _ S.out rg)
      obtain ⟨W0, e0⟩ : ∃ W0, W0 = wr.alloc (.cells (opc 0 0 0 0 0) 33) := ⟨_, rfl⟩
      obtain ⟨p, ep⟩ : ∃ p, p = wr.heap.size := ⟨_, rfl⟩
      have r0 : W0.heap[p]? = some (.cells (opc 0 0 0 0 0) 33 (0, 0)) := by rw [e0, ep]; exact heap_alloc_new wr _
      obtain ⟨W1, e1⟩ : ∃ W1, W1 = W0.setRow p (ocs o) := ⟨_, rfl⟩
      have X1 : Ext wr W1 := by rw [e1, e0]; exact ((Ext.refl wr).alloc _).setRow (by omega) _
      have S1 := hid (S.out.ext X1)
      have r1 : Hid (W1.heap[p]? = some (.cells (ocs o) 33 (0, 0))) := by show _ = _; rw [e1]; exact setRow_heap _ _ _ _ _ _ r0
      have RR0 := hid r0
      have ON5 : Hid ((ocs o).all (·.oneCell') = true) := by show _ = _; simp [ocs, opc, Value.oneCell']
      have RB := hid S1.out.2.1.1
      have FO := hid fo
      unfold opc at e0
      have E0 := hid e0
      have E1 := hid e1
      have EP := hid ep
      have i1 : (k : Int) < (N : Int) := by omega
      have i2 : (0 : Int) ≤ (k : Int) := by omega
      clear e0 e1 ep r0 X1 S AT RX fo eo gl rg
      go_wp2_with (first
        | refine wpList_load_mid rfl 33 _ rfl g (q0 + k * 5) rfl _ _ RG.out Try.underlying33 rfl size_op ?_
        | rw [← EP.out, ← E0.out]
        | (refine wpList_store_row rfl 33 _ _ rfl p (ocs o) rfl rfl 33 _ RR0.out size_op rfl ON5.out ?_; rw [← E1.out])
        | refine wpList_load_row rfl 29 _ rfl bx rfl 29 _ (0, 0) _ RB.out Try.underlying29 rfl (size_stv _ _) ?_
        | refine wpList_load_row rfl 33 _ rfl p rfl 33 _ (0, 0) _ r1.out Try.underlying33 rfl size_op ?_)
      refine (S1.out.step o FO.out).mono ?_
      rintro e w5 ⟨lv2, rfl, r5, on5, S2⟩
      obtain ⟨W5, e5⟩ : ∃ W5, W5 = w5.setRow bx (sc (dst s o) lv2) := ⟨_, rfl⟩
      rw [← e5] at S2
      have S5 := hid S2
      have R5 := hid r5
      have O5 := hid on5
      have E5 := hid e5
      have RB5 := hid S2.2.1.1
      clear S2 r5 on5 e5 S1 RB r1 RR0 RG E0 E1 EP FO ON5
      go_wp2_with (first
        | (refine wpList_store_row rfl 29 _ _ rfl bx (sc (dst s o) lv2) rfl rfl 29 _ R5.out (size_stv _ _) rfl O5.out ?_; rw [← E5.out])
        | refine wpList_load_row_g (by rfl) 29 _ rfl bx rfl 29 _ (0, 0) _ RB5.out Try.underlying29 rfl (size_stv _ _) ?_)
      refine (One.same S5.out).mono ?_
      rintro e w6 ⟨rfl, x6⟩
      have S6 := hid (S5.out.ext x6)
      clear x6 S5 RB5 R5 O5
      go_wp2_with fail
      go_roundw
      case rel => exact ⟨k + 1, _, _, by omega, by go_num, S6⟩
      case measure => simp [RowKit.intOf]; omega
    · obtain rfl : N = k := by omega
      clear AT RX
      go_wp2_with fail
      refine (AW.out _).mono ?_
      rintro e w5 ⟨rfl, x5⟩
      have XF := hid (S.out.2.2.1.trans x5)
      clear AW S x5
      go_wp2_with fail
      go_ret
      exact ⟨rfl, XF.out⟩
end Go.Proofs.Ytlglhggfhlpbjaa.detectPlays

/-
  The walk of DetectRow: of a row of numbers that all come, from any on, nothing is lost; of each that is left out just one.
-/
import Derived.Test.YtlglhggfhlpbjaaDetRowM
namespace Go.Proofs.Ytlglhggfhlpbjaa.detectRow
set_option linter.unusedVariables false
set_option maxRecDepth 100000
open Go.RowKit Go.Lib Go.Proofs.Ytlglhggfhlpbjaa.His Go.Proofs.Ytlglhggfhlpbjaa.Det

/-- a detector that the walk made -/
def Dk (w V : World) (b h : Nat) (s : DS) : Prop := DetV V b h s ∧ Ext w V ∧ w.heap.size ≤ b ∧ w.heap.size ≤ h
theorem Dk.on {w V V' : World} {b h : Nat} {s s' : DS} (d : Dk w V b h s) (d' : DetV V' b h s') (k : Kept (fun q => q ≠ b ∧ q ≠ h) V V') : Dk w V' b h s' := ⟨d', Below.trans d.2.1 (k.below d.2.1.size (fun i hi => by have := d.2.2; omega)), d.2.2⟩
theorem Dk.ext {w V V' : World} {b h : Nat} {s : DS} (d : Dk w V b h s) (x : Ext V V') : Dk w V' b h s := ⟨d.1.ext x, d.2.1.trans x, d.2.2⟩

set_option maxHeartbeats 4000000 in
theorem walk (fr : Int) (v0 : Value) (l : List UInt8) (w : World) (wf : (Lit.int .u32 fr).wf = true) (hz : Bytes w v0 l) : Calls Try.prog 5 #[.int .u32 fr, v0] w fun e w' => e = .returned (.bool true) ∧ Ext w w' := by
  obtain ⟨fr0, fr1⟩ := Go.bounds_u32 wf
  clear wf
  have NW := hid (newDet_any w)
  have AW := hid (fun V => awake_any V)
  obtain ⟨ao, c, rfl, k1, k2, hc⟩ := hz
  have AT : Hid (∀ k, k < l.length → ∃ g o, ao = some ⟨g, o, none⟩ ∧ w.cell? ⟨g, o + k, none⟩ = some (.int .u8 ((l.getD k 0).toNat : Int))) := fun k hk => by
    obtain ⟨g, o, e, _, y⟩ := hc k hk
    exact ⟨g, o, e, y⟩
  obtain ⟨N, eN⟩ : ∃ N, N = l.length := ⟨_, rfl⟩
  rw [← eN] at k1 AT ⊢
  unfold maxLen at k2
  clear hc eN
  by_cases big : 200 < N
  · have b1 : (200 : Int) < (N : Int) := by omega
    clear AT big
    go_enter Try.func5, Try.ntmps5
    go_wp2_with fail
    refine NW.out.mono ?_
    rintro e w1 ⟨b, h, rfl, d1, lb, lh, x1⟩
    have X1 := hid x1
    clear NW d1 lb lh x1
    go_wp2_with fail
    refine (AW.out _).mono ?_
    rintro e w2 ⟨rfl, x2⟩
    have XF := hid (X1.out.trans x2)
    clear AW X1 x2
    go_wp2_with fail
    go_ret
    exact ⟨rfl, XF.out⟩
  have b1 : ¬ (200 : Int) < (N : Int) := by omega
  go_enter Try.func5, Try.ntmps5
  go_wp2_with fail
  refine NW.out.mono ?_
  rintro e w1 ⟨b, h, rfl, d1, lb, lh, x1⟩
  have ON := on_good b h dnew 3 fr 0 1 w1 d1 (by unfold badOn; decide) (by decide) fr0 (by omega)
  obtain ⟨f1, f2, f3⟩ := don_first dnew 3 fr 0 1 rfl (by decide) (by decide)
  have K1 : Dk w w1 b h dnew := ⟨d1, x1, lb, lh⟩
  generalize don dnew 3 fr 0 1 = R at *
  obtain ⟨s1, L, ev, fi⟩ := R
  unfold fnd at ON
  simp only at f1 f2 f3 ON
  subst f1
  have OO := hid ON
  have KK := hid K1
  have F2 := hid f2
  have F3 := hid f3
  clear NW ON d1 x1 lb lh K1 f2 f3
  go_wp2_with fail
  refine OO.out.mono ?_
  rintro e w2 ⟨rfl, d2, kk2⟩
  have D2 := KK.out.on d2 kk2
  obtain ⟨F5, e5⟩ : ∃ F5, F5 = w2.alloc (.cells (fcs 0 false false) 40) := ⟨_, rfl⟩
  obtain ⟨f5, ef5⟩ : ∃ f5, f5 = w2.heap.size := ⟨_, rfl⟩
  have rf5 : F5.heap[f5]? = some (.cells (fcs 0 false false) 40 (0, 0)) := by rw [e5, ef5]; exact heap_alloc_new w2 _
  obtain ⟨G5, g5⟩ : ∃ G5, G5 = F5.setRow f5 (fcs 0 ev fi) := ⟨_, rfl⟩
  have XG5 : Ext w2 G5 := by rw [g5, e5]; exact ((Ext.refl w2).alloc _).setRow (by omega) _
  have rg5 : G5.heap[f5]? = some (.cells (fcs 0 ev fi) 40 (0, 0)) := by rw [g5]; exact setRow_heap _ _ _ _ _ _ rf5
  have z50 : G5.cell? ⟨f5, 0, none⟩ = some (.int .i64 0) := by rw [cell_of_row _ _ 0 _ _ _ rg5]; rfl
  have z51 : G5.cell? ⟨f5, 1, none⟩ = some (.bool ev) := by rw [cell_of_row _ _ 1 _ _ _ rg5]; rfl
  have z52 : G5.cell? ⟨f5, 2, none⟩ = some (.bool fi) := by rw [cell_of_row _ _ 2 _ _ _ rg5]; rfl
  have D5 := hid (D2.ext XG5)
  clear XG5 D2 d2 kk2 KK OO z50 z51 z52
  have RF5 := hid rf5
  unfold fcs at e5
  have EF5 := hid e5
  have EG5 := hid g5
  have EH5 := hid ef5
  clear e5 g5 ef5 rf5 rg5
  go_wp2_with (first
    | rw [← EH5.out, ← EF5.out]
    | (refine wpList_store_row rfl 40 _ _ rfl f5 (fcs 0 ev fi) rfl rfl 40 _ RF5.out size_fd rfl (fcs_one _ _ _) ?_; rw [← EG5.out]))
  clear RF5 EF5 EG5 EH5
  go_loopw [8, 9, 10, 11, 12, 13, 14, 38] (fun lo wa op _ _ _ _ iv wr => ∃ (k : Nat) (n t : Int) (s : DS), k ≤ N ∧ iv = .int .i64 (k : Int) ∧ lo = .int .i64 t ∧ wa = .int .i64 t ∧ op = .int .i64 n ∧ (0 ≤ n ∧ n ≤ (k : Int)) ∧ (0 ≤ t ∧ t ≤ 200 * (k : Int)) ∧ Hid (Dk w wr b h s) ∧ Hid (s.1.getD 3 (-1) = (fr + 1 + (k : Int) - n) % 4294967296) ∧ Hid (s.2.2.2.2 ≤ (k : Int))) (fun _ _ _ _ _ _ _ iv _ => (N - RowKit.intOf iv).toNat)
  case atStart => exact ⟨0, 0, 0, s1, by omega, rfl, rfl, rfl, rfl, ⟨by decide, by decide⟩, ⟨by decide, by decide⟩, D5, by show _ = _; rw [F2.out]; unfold aft; simp, by show _ ≤ _; rw [F3.out]; decide⟩
  case round =>
    clear D5 F2 F3
    obtain ⟨k, n, t, s, hk, rfl, rfl, rfl, rfl, ⟨n0, n1⟩, ⟨t0, t1⟩, D, EX, LS⟩ := hrel
    by_cases q : k < N
    · obtain ⟨g, o, rfl, y⟩ := AT.out k q
      have y := D.out.2.1.cell y
      have i1 : (k : Int) < (N : Int) := by omega
      have i2 : (0 : Int) ≤ (k : Int) := by omega
      generalize ((l.getD k 0).toNat : Int) = x at *
      clear AT AW
      by_cases qx : x.tmod 4 = 0
      · go_wp2_with fail
        go_roundw
        case rel => exact ⟨k + 1, n + 1, t, s, by omega, by go_num, rfl, rfl, by go_num, ⟨by omega, by omega⟩, ⟨by omega, by omega⟩, D, by show _ = _; rw [EX.out]; congr 1; omega, by show _ ≤ _; have := LS.out; omega⟩
        case measure => simp [RowKit.intOf]; omega
      · have qx2 : (x.tmod 4 == 0) = false := beq_eq_false_iff_ne.2 qx
        obtain ⟨sq, esq⟩ : ∃ sq, sq = (fr + (k : Int) + 1) % 4294967296 := ⟨_, rfl⟩
        have wsq : ((fr + (k : Int)) % 4294967296 + 1) % 4294967296 = sq := by rw [esq]; omega
        have wk : (k : Int) % 4294967296 = (k : Int) := by omega
        have ON := on_good b h s 3 sq (k : Int) 1 wr D.out.1 (by unfold badOn; omega) (by have := LS.out; omega) (by omega) (by omega)
        obtain ⟨f1, f2, f3⟩ := don_row s 3 ((fr + 1 + (k : Int) - n) % 4294967296) sq n (k : Int) 1 D.out.1.1.1 (by decide) EX.out (by omega) (by omega) n0 (by omega) (by omega)
        generalize don s 3 sq (k : Int) 1 = R at *
        obtain ⟨s2, L, ev, fi⟩ := R
        unfold fnd at ON
        simp only at f1 f2 f3 ON
        subst f1
        have OO := hid ON
        have F2 : Hid (s2.1.getD 3 (-1) = (fr + 1 + ((k + 1 : Nat) : Int) - 0) % 4294967296) := by show _ = _; rw [f2, esq]; unfold aft; omega
        have F3 : Hid (s2.2.2.2.2 ≤ ((k + 1 : Nat) : Int)) := by show _ ≤ _; omega
        clear ON f2 f3 esq
        go_wp2_with fail
        refine OO.out.mono ?_
        rintro e w2 ⟨rfl, d2, kk2⟩
        have D2 := D.out.on d2 kk2
        obtain ⟨F5, e5⟩ : ∃ F5, F5 = w2.alloc (.cells (fcs 0 false false) 40) := ⟨_, rfl⟩
        obtain ⟨f5, ef5⟩ : ∃ f5, f5 = w2.heap.size := ⟨_, rfl⟩
        have rf5 : F5.heap[f5]? = some (.cells (fcs 0 false false) 40 (0, 0)) := by rw [e5, ef5]; exact heap_alloc_new w2 _
        obtain ⟨G5, g5⟩ : ∃ G5, G5 = F5.setRow f5 (fcs L ev fi) := ⟨_, rfl⟩
        have XG5 : Ext w2 G5 := by rw [g5, e5]; exact ((Ext.refl w2).alloc _).setRow (by omega) _
        have rg5 : G5.heap[f5]? = some (.cells (fcs L ev fi) 40 (0, 0)) := by rw [g5]; exact setRow_heap _ _ _ _ _ _ rf5
        have z50 : G5.cell? ⟨f5, 0, none⟩ = some (.int .i64 L) := by rw [cell_of_row _ _ 0 _ _ _ rg5]; rfl
        have z51 : G5.cell? ⟨f5, 1, none⟩ = some (.bool ev) := by rw [cell_of_row _ _ 1 _ _ _ rg5]; rfl
        have z52 : G5.cell? ⟨f5, 2, none⟩ = some (.bool fi) := by rw [cell_of_row _ _ 2 _ _ _ rg5]; rfl
        have D5 := hid (D2.ext XG5)
        clear XG5 D2 d2 kk2 OO D EX LS
        have RF5 := hid rf5
        unfold fcs at e5
        have EF5 := hid e5
        have EG5 := hid g5
        have EH5 := hid ef5
        clear e5 g5 ef5 rf5 rg5
        go_wp2_with (first
          | rw [← EH5.out, ← EF5.out]
          | (refine wpList_store_row rfl 40 _ _ rfl f5 (fcs L ev fi) rfl rfl 40 _ RF5.out size_fd rfl (fcs_one _ _ _) ?_; rw [← EG5.out]))
        go_roundw
        case rel => exact ⟨k + 1, 0, t + L, s2, by omega, by go_num, by go_num, by go_num, rfl, ⟨by decide, by omega⟩, ⟨by omega, by omega⟩, D5, F2, F3⟩
        case measure => simp [RowKit.intOf]; omega
    · obtain rfl : N = k := by omega
      clear AT
      have XX := hid D.out.2.1
      clear D EX LS
      go_wp2_with fail
      refine (AW.out _).mono ?_
      rintro e w5 ⟨rfl, x5⟩
      have XF := hid (XX.out.trans x5)
      clear AW x5
      go_wp2_with fail
      go_ret
      exact ⟨rfl, XF.out⟩
end Go.Proofs.Ytlglhggfhlpbjaa.detectRow

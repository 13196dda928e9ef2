/-
  The fixed answer.
-/
import Derived.Test.YtlglhggfhlpbjaaDetEq
namespace Go.Proofs.Ytlglhggfhlpbjaa.Det
set_option linter.unusedVariables false
set_option maxRecDepth 100000
open Go.RowKit Go.Lib Go.Proofs.Ytlglhggfhlpbjaa.His

def aw1 : DS := ([6, -1, -1, -1, -1, -1, -1, -1], (1, []), 0, false, 1)
def aw2 : DS := ([7, -1, -1, -1, -1, -1, -1, -1], (2, []), 0, false, 2)
def aw3 : DS := ([10, -1, -1, -1, -1, -1, -1, -1], (3, [2]), 3, true, 3)
theorem aw_1 : don dnew 0 5 1 10 = (aw1, 0, false, false) := by decide +kernel
theorem aw_2 : don aw1 0 6 2 10 = (aw2, 0, false, false) := by decide +kernel
theorem aw_3 : don aw2 0 9 3 10 = (aw3, 2, true, true) := by decide +kernel

set_option maxHeartbeats 2000000 in
theorem awake_any (w : World) : Calls Try.prog 8 #[] w fun e w' => e = .returned (.bool true) ∧ Ext w w' := by
  have NW := hid (newDet_any w)
  go_enter Try.func8, Try.ntmps8
  go_wp2_with fail
  refine NW.out.mono ?_
  rintro e w1 ⟨b, h, rfl, d1, lb, lh, x1⟩
  have K1 : Kept (fun q => q < w.heap.size) w w1 := Kept.of_ext x1
  have NE : Hid (∀ q, q < w.heap.size → q ≠ b ∧ q ≠ h) := fun q hq => ⟨by omega, by omega⟩
  have O1 := on_good b h dnew 0 5 1 10 w1 d1 (by unfold badOn; decide) (by decide) (by decide) (by decide)
  rw [aw_1] at O1
  have OO := hid O1
  have KK1 := hid K1
  clear NW d1 x1 lb lh O1 K1
  go_wp2_with fail
  refine OO.out.mono ?_
  rintro e w2 ⟨rfl, d2, k2⟩
  have KK2 := hid (KK1.out.trans (k2.mono NE.out))
  have O2 := on_good b h aw1 0 6 2 10 w2 d2 (by unfold badOn; decide) (by decide) (by decide) (by decide)
  rw [aw_2] at O2
  have OP := hid O2
  clear OO d2 k2 KK1 O2
  go_wp2_with fail
  refine OP.out.mono ?_
  rintro e w3 ⟨rfl, d3, k3⟩
  have KK3 := hid (KK2.out.trans (k3.mono NE.out))
  have O3 := on_good b h aw2 0 9 3 10 w3 d3 (by unfold badOn; decide) (by decide) (by decide) (by decide)
  rw [aw_3] at O3
  have OQ := hid O3
  clear OP d3 k3 KK2 O3
  go_wp2_with fail
  refine OQ.out.mono ?_
  rintro e w4 ⟨rfl, d4, k4⟩
  have KK4 := hid (KK3.out.trans (k4.mono NE.out))
  have D4 := hid d4
  clear OQ d4 k4 KK3
  unfold fnd fcs
  simp only
  obtain ⟨W4, e4⟩ : ∃ W4, W4 = w4.alloc (.cells #[.int .i64 2, .bool true, .bool true] 40) := ⟨_, rfl⟩
  have X4 : Ext w4 W4 := by rw [e4]; exact (Ext.refl w4).alloc _
  have R4 : W4.heap[w4.heap.size]? = some (.cells #[.int .i64 2, .bool true, .bool true] 40 (0, 0)) := by rw [e4]; exact heap_alloc_new w4 _
  have E4 := hid e4
  have OB := hid (on_bad b h aw3 8 1 3 10 W4 (D4.out.ext X4) (.inl (.inr (by decide))))
  have XX4 := hid X4
  have RR4 := hid R4
  clear e4 X4 R4
  go_wp2_with (first | rw [← E4.out])
  refine OB.out.mono ?_
  rintro e w5 ⟨rfl, x5⟩
  unfold fcs
  obtain ⟨V5, e5⟩ : ∃ V5, V5 = w5.alloc (.cells #[.int .i64 0, .bool false, .bool false] 40) := ⟨_, rfl⟩
  have R5 : V5.heap[w5.heap.size]? = some (.cells #[.int .i64 0, .bool false, .bool false] 40 (0, 0)) := by rw [e5]; exact heap_alloc_new w5 _
  obtain ⟨W5, e6⟩ : ∃ W5, W5 = V5.setRow w5.heap.size #[.int .i64 0, .bool false, .bool false] := ⟨_, rfl⟩
  have X5 : Ext W4 W5 := by rw [e6, e5]; exact (x5.alloc _).setRow x5.size _
  have E5 := hid e5
  have E6 := hid e6
  have RR5 := hid R5
  have EX := expects_any b h aw3 0 W5 ((D4.out.ext XX4.out).ext X5) (by decide)
  rw [show exs (aw3.1.getD 0 (-1)) = 10 by decide, show exi (aw3.1.getD 0 (-1)) = true by decide] at EX
  have EE := hid EX
  have XX5 := hid X5
  have ONE := hid (fcs_one 0 false false)
  unfold fcs at ONE
  clear OB e5 e6 X5 x5 EX R5
  go_wp2_with (first | rw [← E5.out] | (refine wpList_store_row rfl 40 _ _ rfl w5.heap.size #[.int .i64 0, .bool false, .bool false] rfl rfl 40 _ RR5.out size_fd rfl ONE.out ?_; rw [← E6.out]))
  refine EE.out.mono ?_
  rintro e w6 ⟨rfl, x6⟩
  have X6 := XX5.out.trans x6
  have R6 := X6.row RR4.out
  have b0 : w6.cell? ⟨w4.heap.size, 0, none⟩ = some (.int .i64 2) := by rw [cell_of_row _ _ 0 _ _ _ R6]; rfl
  have b1 : w6.cell? ⟨w4.heap.size, 1, none⟩ = some (.bool true) := by rw [cell_of_row _ _ 1 _ _ _ R6]; rfl
  have b2 : w6.cell? ⟨w4.heap.size, 2, none⟩ = some (.bool true) := by rw [cell_of_row _ _ 2 _ _ _ R6]; rfl
  have D6 := (D4.out.ext XX4.out).ext X6
  have HI := hid (history_any b h aw3 w6 D6)
  have HO := hid (open_any h aw3.2.1.1 aw3.2.1.2 w6 D6.2.2.1)
  have eo : aw3.2.1.1 = 3 := rfl
  rw [eo] at HO
  have FIN : Hid (Ext w w6) := by
    have k := KK4.out.trans (Kept.of_ext (XX4.out.trans X6))
    exact k.below (Nat.le_refl _) (fun i hi => hi)
  have SF := stoodF
  clear EE x6 X6 R6 D6 eo XX5 RR4 XX4 KK4 D4
  go_wp2_with fail
  refine HI.out.mono ?_
  rintro e w7 ⟨rfl, rfl⟩
  go_wp2_with fail
  refine HI.out.mono ?_
  rintro e w7 ⟨rfl, rfl⟩
  go_wp2_with fail
  refine HO.out.mono ?_
  rintro e w8 ⟨rfl, rfl⟩
  go_wp2_with fail
  go_ret
  exact ⟨rfl, FIN.out⟩
end Go.Proofs.Ytlglhggfhlpbjaa.Det

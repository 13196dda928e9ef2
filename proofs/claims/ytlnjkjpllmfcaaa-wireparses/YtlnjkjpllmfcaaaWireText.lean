/-
  Walks of the reference's field: a number's.
-/
import Derived.Test.YtlnjkjpllmfcaaaWireRef2
namespace Go.Proofs.Ytlnjkjpllmfcaaa
set_option linter.unusedVariables false
set_option maxRecDepth 100000
open Go.RowKit Go.Lib

/-- the letters of numbers, and their values -/
def nletters : List UInt8 := [70, 76, 66, 84, 69, 86, 78]
def nvals (p : Pk) : List Int := [p.1 1, p.1 2, p.1 4, p.1 5, p.1 6, p.1 7, p.1 8]
abbrev nvrow (p : Pk) : Array Value := #[.int .i64 (p.1 1), .int .i64 (p.1 2), .int .i64 (p.1 4), .int .i64 (p.1 5), .int .i64 (p.1 6), .int .i64 (p.1 7), .int .i64 (p.1 8)]
theorem nvrow_at (p : Pk) (j : Nat) (h : j < 7) : (nvrow p)[j]? = some (.int .i64 ((nvals p).getD j 0)) := by
  have : j = 0 ∨ j = 1 ∨ j = 2 ∨ j = 3 ∨ j = 4 ∨ j = 5 ∨ j = 6 := by omega
  rcases this with rfl | rfl | rfl | rfl | rfl | rfl | rfl <;> rfl
theorem cells_seven : (Try.prog.info? 87).map (·.size) = some 7 := by kernel_rfl
theorem nlet_str : (⟨#[70, 76, 66, 84, 69, 86, 78]⟩ : ByteArray) = str nletters := rfl

/-- a packet's cells in a block -/
theorem ref_cells {w : World} {g : Nat} {p : Pk} {ra rg da : Value} {t : TypeId} (h : w.heap[g]? = some (.cells (prow p ra rg da) t (0, 0))) :
    w.cell? ⟨g, 1, none⟩ = some (.int .i64 (p.1 1)) ∧ w.cell? ⟨g, 2, none⟩ = some (.int .i64 (p.1 2)) ∧ w.cell? ⟨g, 4, none⟩ = some (.int .i64 (p.1 4)) ∧ w.cell? ⟨g, 5, none⟩ = some (.int .i64 (p.1 5)) ∧ w.cell? ⟨g, 6, none⟩ = some (.int .i64 (p.1 6)) ∧ w.cell? ⟨g, 7, none⟩ = some (.int .i64 (p.1 7)) ∧ w.cell? ⟨g, 8, none⟩ = some (.int .i64 (p.1 8)) ∧
      w.cell? ⟨g, 3, none⟩ = some (.int .u32 (p.1 3)) ∧ w.cell? ⟨g, 9, none⟩ = some (.int .u64 (p.1 9)) ∧ w.cell? ⟨g, 10, none⟩ = some ra ∧ w.cell? ⟨g, 11, none⟩ = some rg ∧ w.cell? ⟨g, 12, none⟩ = some da := by
  have c := fun j => cell_of_row w g j _ _ _ h
  refine ⟨by rw [c]; rfl, by rw [c]; rfl, by rw [c]; rfl, by rw [c]; rfl, by rw [c]; rfl, by rw [c]; rfl, by rw [c]; rfl, by rw [c]; rfl, by rw [c]; rfl, by rw [c]; rfl, by rw [c]; rfl, by rw [c]; rfl⟩

set_option maxHeartbeats 4000000 in
theorem field_num (w : World) (p : Pk) (ra rg da : Value) (j0 : Nat) (h0 : j0 < 7) :
    Calls Try.prog 34 #[.agg (prow p ra rg da), .int .u8 ((nletters.getD j0 0).toNat : Int)] w fun e w' => e = .returned (.string (str (le 8 (u64 ((nvals p).getD j0 0))))) ∧ Ext w w' := by
  obtain ⟨w1, e1⟩ : ∃ w1, w1 = w.alloc (.cells (prow p ra rg da) 35) := ⟨_, rfl⟩
  have X1 : Ext w w1 := by rw [e1]; exact (Ext.refl w).alloc _
  have g1 : w1.heap[w.heap.size]? = some (.cells (prow p ra rg da) 35 (0, 0)) := by rw [e1]; exact heap_alloc_new w _
  obtain ⟨c1, c2, c4, c5, c6, c7, c8, _⟩ := ref_cells g1
  obtain ⟨w2, e2⟩ : ∃ w2, w2 = w1.alloc (.cells (nvrow p) 87) := ⟨_, rfl⟩
  have SN : Hid ((w1.alloc (.cells #[.int .i64 0, .int .i64 0, .int .i64 0, .int .i64 0, .int .i64 0, .int .i64 0, .int .i64 0] 87)).setRow w1.heap.size (nvrow p) = w2) := by rw [e2]; exact setRow_new w1 _ _ _ _
  have GZ : Hid ((w1.alloc (.cells #[.int .i64 0, .int .i64 0, .int .i64 0, .int .i64 0, .int .i64 0, .int .i64 0, .int .i64 0] 87)).heap[w1.heap.size]? = some (.cells #[.int .i64 0, .int .i64 0, .int .i64 0, .int .i64 0, .int .i64 0, .int .i64 0, .int .i64 0] 87 (0, 0))) := heap_alloc_new w1 _
  have X2 : Ext w1 w2 := by rw [e2]; exact (Ext.refl w1).alloc _
  have g2 : w2.heap[w1.heap.size]? = some (.cells (nvrow p) 87 (0, 0)) := by rw [e2]; exact heap_alloc_new w1 _
  have v0 : w2.cell? ⟨w1.heap.size, j0, none⟩ = some (.int .i64 ((nvals p).getD j0 0)) := by rw [cell_of_row _ _ _ _ _ _ g2]; exact nvrow_at p j0 h0
  have ON : Hid ((nvrow p).all (·.oneCell') = true) := by simp [Value.oneCell', Hid]
  have XX := hid (X1.trans X2)
  have E1 := hid e1
  have U := u64_val ((nvals p).getD j0 0)
  have CB := hid (refBytes_any w2 (u64 ((nvals p).getD j0 0)) 8 (u64_lt _) (by omega))
  have NE : Hid (∀ j, j < j0 → nletters.getD j 0 ≠ nletters.getD j0 0) := by
    intro j hj
    have a : j0 = 1 ∨ j0 = 2 ∨ j0 = 3 ∨ j0 = 4 ∨ j0 = 5 ∨ j0 = 6 := by omega
    have b : j = 0 ∨ j = 1 ∨ j = 2 ∨ j = 3 ∨ j = 4 ∨ j = 5 := by omega
    rcases a with rfl | rfl | rfl | rfl | rfl | rfl <;> rcases b with rfl | rfl | rfl | rfl | rfl | rfl <;> first | decide | omega
  have LS := hid nlet_str
  have sz : (str nletters).size = 7 := rfl
  have ln : nletters.length = 7 := rfl
  obtain ⟨c, ec⟩ : ∃ c, c = nletters.getD j0 0 := ⟨_, rfl⟩
  rw [← ec] at NE ⊢
  have EC := hid ec
  generalize (nvals p).getD j0 0 = x at *
  obtain ⟨u, eu⟩ : ∃ u, u = u64 x := ⟨_, rfl⟩
  rw [← eu] at U CB ⊢
  clear e1 e2 X1 X2 g1 g2 ec eu
  go_enter Try.func34, Try.ntmps34
  go_wp2_with (first | rw [← E1.out] | (refine wpList_store_row rfl 87 _ _ rfl w1.heap.size (nvrow p) rfl rfl 87 #[.int .i64 0, .int .i64 0, .int .i64 0, .int .i64 0, .int .i64 0, .int .i64 0, .int .i64 0] GZ.out cells_seven rfl ON.out ?_; rw [SN.out]))
  rw [LS.out]
  generalize nletters = S at *
  go_loop [7] (fun i => ∃ j : Nat, j ≤ j0 ∧ i = .int .i64 j) (fun i => (j0 + 1 - intOf i).toNat)
  case atStart => exact ⟨0, by omega, rfl⟩
  case round =>
    obtain ⟨j, hj, rfl⟩ := hrel
    have t1 : (j : Int) < 7 := by omega
    have t2 : (0 : Int) ≤ (j : Int) := by omega
    have SA := hid (str_at S j (by omega))
    by_cases d : j = j0
    · subst d
      have EQ : ((((str S)[j]'(by rw [sz]; omega)).toNat : Int) == (c.toNat : Int)) = true := by rw [SA.out, EC.out]; simp
      go_wp2_with fail
      refine CB.out.mono ?_
      rintro e w3 ⟨rfl, X3⟩
      have Y := hid (XX.out.trans X3)
      clear X3 CB
      go_wp2_with fail
      go_ret
      exact ⟨rfl, Y.out⟩
    · have EQ : ((((str S)[j]'(by rw [sz]; omega)).toNat : Int) == (c.toNat : Int)) = false := by
        rw [SA.out, byte_eq, beq_eq_false_iff_ne]; exact NE.out j (by omega)
      go_wp2_with fail
      exact ⟨⟨j + 1, by omega, by go_num⟩, by simp [intOf]; omega⟩
end Go.Proofs.Ytlnjkjpllmfcaaa

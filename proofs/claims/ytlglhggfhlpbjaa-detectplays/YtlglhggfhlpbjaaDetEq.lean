/-
  Copy; what a packet shows, compared; the fixed answer.
-/
import Derived.Test.YtlglhggfhlpbjaaDetDo
import Derived.Deep.QuietTactic
namespace Go.Proofs.Ytlglhggfhlpbjaa.Det
set_option linter.unusedVariables false
set_option maxRecDepth 100000
open Go.RowKit Go.Lib Go.Proofs.Ytlglhggfhlpbjaa.His

theorem size_det : (Try.prog.info? 56).map (·.size) = some 20 := by kernel_rfl
theorem drow_size (h : Nat) (s : DS) : (drow h s).size = 20 := rfl
theorem drow_one (h : Nat) (s : DS) : (drow h s).all (·.oneCell') = true := by simp [drow, dlist, Value.oneCell']
def dzero : Array Value := #[.int .u32 0, .bool false, .int .u32 0, .bool false, .int .u32 0, .bool false, .int .u32 0, .bool false, .int .u32 0, .bool false, .int .u32 0, .bool false, .int .u32 0, .bool false, .int .u32 0, .bool false, .pointer none, .int .i64 0, .bool false, .int .i64 0]

set_option maxHeartbeats 1000000 in
theorem copyDet_any (b h : Nat) (s : DS) (w : World) (d : DetV w b h s) :
    Calls Try.prog 14 #[.pointer (some ⟨b, 0, none⟩)] w fun e w' => ∃ c g, e = .returned (.pointer (some ⟨c, 0, none⟩)) ∧ DetV w' c g s ∧ w.heap.size ≤ c ∧ w.heap.size ≤ g ∧ Ext w w' := by
  obtain ⟨V0, e0⟩ : ∃ V0, V0 = w.alloc (.cells dzero 56) := ⟨_, rfl⟩
  have X0 : Ext w V0 := by rw [e0]; exact (Ext.refl w).alloc _
  obtain ⟨c, ec⟩ : ∃ c, c = w.heap.size := ⟨_, rfl⟩
  have R0 : V0.heap[c]? = some (.cells dzero 56 (0, 0)) := by rw [e0, ec]; exact heap_alloc_new w _
  obtain ⟨V1, e1⟩ : ∃ V1, V1 = V0.setRow c (drow h s) := ⟨_, rfl⟩
  have X1 : Ext w V1 := by rw [e1]; exact X0.setRow (by omega) _
  have R1 : V1.heap[c]? = some (.cells (drow h s) 56 (0, 0)) := by rw [e1]; exact setRow_heap _ _ _ _ _ _ R0
  have D1 := d.ext X1
  have h16 := D1.cell 16 _ rfl
  have CP := hid (copy_any h s.2.1.1 s.2.1.2 V1 D1.2.2.1)
  have DR := hid d.2.1
  have FIN : Hid (∀ V2 g, HisV V2 g s.2.1.1 s.2.1.2 → V1.heap.size ≤ g → Ext V1 V2 → (V2.cell? ⟨c, 16, none⟩ = some (.pointer (some ⟨h, 0, none⟩)) ∧ V2.frozen? ⟨c, 16, none⟩ = false) ∧ DetV (V2.setCell ⟨c, 16, none⟩ (.pointer (some ⟨g, 0, none⟩))) c g s ∧ w.heap.size ≤ c ∧ w.heap.size ≤ g ∧ Ext w (V2.setCell ⟨c, 16, none⟩ (.pointer (some ⟨g, 0, none⟩)))) := fun V2 g hg gl x2 => by
    have r2 := x2.row R1
    have ne : c ≠ g := by have := lt_of_row R1; omega
    refine ⟨⟨by rw [cell_of_row _ _ 16 _ _ _ r2]; rfl, frozen_of_row _ _ _ _ _ r2⟩, ⟨d.1, ?_, hg.kept ((Kept.refl (fun q => q ≠ c) V2).setCell (fun hne => hne rfl) _) (fun q => ne q.symm), ne⟩, by omega, by have := X1.size; omega, (X1.trans x2).setCell (by show _ ≤ c; omega) _⟩
    rw [setCell_eq_setRow _ _ _ _ _ _ _ r2]
    exact setRow_heap _ _ _ _ _ _ r2
  have ONE := hid (drow_one h s)
  have R0' := hid R0
  obtain ⟨R, eR⟩ : ∃ R, R = drow h s := ⟨_, rfl⟩
  have SZ : Hid (R.size = 20) := by rw [eR]; exact rfl
  rw [← eR] at e1 DR ONE
  unfold dzero at e0
  have E0 := hid e0
  have E1 := hid e1
  have EC := hid ec
  clear e0 e1 ec X0 X1 R1 D1 d eR R0
  go_enter Try.func14, Try.ntmps14
  go_wp2_with (first
    | refine wpList_load_row rfl 56 _ rfl b rfl 56 _ (0, 0) _ DR.out Try.underlying56 rfl (by rw [SZ.out]; exact size_det) ?_
    | (rw [← EC.out, ← E0.out]; refine wpList_store_row rfl 56 _ _ rfl c R rfl rfl 56 _ R0'.out (by rw [SZ.out]; exact size_det) (by rw [SZ.out]; rfl) ONE.out ?_; rw [← E1.out]))
  refine CP.out.mono ?_
  rintro e V2 ⟨g, rfl, hg, gl, x2⟩
  obtain ⟨⟨c16, f16⟩, F⟩ := FIN.out V2 g hg gl x2
  have FF := hid F
  clear CP hg gl x2 FIN F
  go_wp2_with fail
  go_ret
  exact ⟨c, g, rfl, FF.out⟩

theorem stoodF : Try.prog.stoodInHeld 40 = false := by kernel_rfl
theorem part_f (w : World) (n : Int) (e f : Bool) : (part 3 (fcs n e f) 0).run Try.prog w = .ok (.int .i64 n) w ∧ (part 4 (fcs n e f) 1).run Try.prog w = .ok (.bool e) w ∧ (part 4 (fcs n e f) 2).run Try.prog w = .ok (.bool f) w := by
  refine ⟨?_, ?_, ?_⟩
  · simp only [part, Sem.run_bind, show (isAgg 3).run Try.prog w = .ok false w by simp [isAgg, run_underlying Try.underlying3], Result.andThen_ok, Bool.false_eq_true, if_false]; rfl
  · simp only [part, Sem.run_bind, show (isAgg 4).run Try.prog w = .ok false w by simp [isAgg, run_underlying Try.underlying4], Result.andThen_ok, Bool.false_eq_true, if_false]; rfl
  · simp only [part, Sem.run_bind, show (isAgg 4).run Try.prog w = .ok false w by simp [isAgg, run_underlying Try.underlying4], Result.andThen_ok, Bool.false_eq_true, if_false]; rfl
theorem eqF (w : World) (n : Int) (e f : Bool) : (Op.equalIn 10000 40 (.agg (fcs n e f)) (.agg (fcs n e f))).run Try.prog w = .ok true w := by
  have hu : Try.prog.underlying 40 = some (.struct (Try.prog.fieldsOf 40)) := by unfold Program.fieldsOf; rw [Try.underlying40]
  rw [run_equalIn_struct (P := Try.prog) w 9999 40 (fcs n e f) (fcs n e f) hu stoodF]
  unfold Program.fieldsOf
  rw [Try.underlying40]
  obtain ⟨p0, p1, p2⟩ := part_f w n e f
  simp [Op.eqFields, p0, p1, p2, run_equalIn_int (P := Try.prog) w _ _ _ _ _ _ Try.underlying3, run_equalIn_bool (P := Try.prog) w _ _ _ _ Try.underlying4]
theorem eqlF (w : World) (n : Int) (e f : Bool) : (binOp .eql 40 (.agg (fcs n e f)) (.agg (fcs n e f))).run Try.prog w = .ok (.bool true) w := by
  rw [run_eql_struct, eqF]
  rfl
theorem exec_eqlF {ev : Operand → Value} {o : Oper} (n : Int) (e f : Bool) (w : World) (x y : Operand) (t : TypeId) (ho : o.op = .binOp .eql 40 x y t) (hx : ev x = .agg (fcs n e f)) (hy : ev y = .agg (fcs n e f)) : (execOp ev o).run Try.prog w = .ok (.value (.bool true)) w := by
  unfold execOp
  have g : (eqGuard .eql 40 x y (.agg (fcs n e f)) (.agg (fcs n e f))).run Try.prog w = .ok () w := by
    simp [eqGuard, go_sem]
  simp only [ho, hx, hy, Sem.run_bind, g, eqlF, Result.andThen_ok, Sem.run_pure]
end Go.Proofs.Ytlglhggfhlpbjaa.Det

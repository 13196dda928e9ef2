/-
  Rows of six counts compared.
-/
import Derived.Test.YtkhdfcjdbhhikaaSimRef
import Derived.Laws.StructEq
namespace Go.Proofs.Ytkhdfcjdbhhikaa.Sim
set_option linter.unusedVariables false
set_option maxRecDepth 100000
open Go.RowKit

theorem part_six (w : World) (a0 a1 a2 a3 a4 a5 : Int) : ∀ i x, ([a0, a1, a2, a3, a4, a5] : List Int)[i]? = some x → (part 3 #[.int .i64 a0, .int .i64 a1, .int .i64 a2, .int .i64 a3, .int .i64 a4, .int .i64 a5] i).run Try.prog w = .ok (.int .i64 x) w := by
  intro i x h
  simp only [part, Sem.run_bind, show (isAgg 3).run Try.prog w = .ok false w by simp [isAgg, run_underlying Try.underlying3], Result.andThen_ok, Bool.false_eq_true, if_false]
  match i, h with
  | 0, h => cases h; rfl
  | 1, h => cases h; rfl
  | 2, h => cases h; rfl
  | 3, h => cases h; rfl
  | 4, h => cases h; rfl
  | 5, h => cases h; rfl
  | i + 6, h => simp at h
theorem stoodN : Try.prog.stoodInHeld 51 = false := by kernel_rfl
theorem guardN : Try.prog.eqGuardType Try.prog.depth 51 = false := by kernel_rfl
theorem eqN (w : World) (s : Cts) : (Op.equalIn 10000 51 (.agg (scs s)) (.agg (scs s))).run Try.prog w = .ok true w := by
  have hu : Try.prog.underlying 51 = some (.struct (Try.prog.fieldsOf 51)) := by unfold Program.fieldsOf; rw [Try.underlying51]
  rw [run_equalIn_struct (P := Try.prog) w 9999 51 (scs s) (scs s) hu stoodN]
  unfold Program.fieldsOf
  rw [Try.underlying51]
  obtain ⟨s0, s1, s2, s3, s4, s5⟩ := s
  have P := part_six w s0 s1 s2 s3 s4 s5
  have p0 := P 0 _ rfl
  have p1 := P 1 _ rfl
  have p2 := P 2 _ rfl
  have p3 := P 3 _ rfl
  have p4 := P 4 _ rfl
  have p5 := P 5 _ rfl
  unfold scs
  simp [Op.eqFields, p0, p1, p2, p3, p4, p5, run_equalIn_int (P := Try.prog) w _ _ _ _ _ _ Try.underlying3]
theorem neqN (w : World) (s : Cts) : (binOp .neq 51 (.agg (scs s)) (.agg (scs s))).run Try.prog w = .ok (.bool false) w := by
  rw [run_neq_struct, eqN]
  rfl
end Go.Proofs.Ytkhdfcjdbhhikaa.Sim

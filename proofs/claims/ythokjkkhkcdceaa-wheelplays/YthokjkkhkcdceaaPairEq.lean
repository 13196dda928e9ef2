/-
  Arrays of numbers compared; lists compared from place to place. (Needs no other text.)
-/
import Derived.Test.YthokjkkhkcdceaaProg
import Derived.WalkKit
import Derived.ChangeKeysEq
namespace Go.Proofs.Ythokjkkhkcdceaa
set_option linter.unusedVariables false
set_option maxRecDepth 100000
open Go.RowKit

/-- arrays of numbers, compared -/
theorem part_int (w : World) (e : TypeId) (k : IntKind) (a : List Int) (i : Nat) (he : Try.prog.underlying e = some (.int k)) (hi : i < a.length) :
    (part e (a.map (Value.int k)).toArray i).run Try.prog w = .ok (.int k (a.getD i 0)) w := by
  have hg : (a.map (Value.int k)).toArray[i]? = some (.int k (a.getD i 0)) := by
    rw [List.getElem?_toArray, List.getElem?_map, List.getD_eq_getElem?_getD, List.getElem?_eq_getElem hi]
    rfl
  simp only [part, Sem.run_bind, show (isAgg e).run Try.prog w = .ok false w by simp [isAgg, run_underlying he], Result.andThen_ok, Bool.false_eq_true, if_false, hg]
  rfl
theorem items_ints (w : World) (e : TypeId) (k : IntKind) (d : Nat) (a b : List Int) (he : Try.prog.underlying e = some (.int k)) (hl : a.length = b.length) : ∀ (m i : Nat), i + m = a.length →
    (Op.eqItems (d + 1) e 1 (a.map (Value.int k)).toArray (b.map (Value.int k)).toArray (List.range' i m)).run Try.prog w = .ok (a.drop i == b.drop i) w
  | 0, i, h => by
    rw [List.drop_eq_nil_of_le (by omega), List.drop_eq_nil_of_le (by omega)]
    simp [Op.eqItems]
  | m + 1, i, h => by
    have ha : i < a.length := by omega
    have hb : i < b.length := by omega
    rw [List.range'_succ]
    simp only [Op.eqItems, Sem.run_bind, Nat.mul_one, part_int w e k a i he ha, part_int w e k b i he hb, Result.andThen_ok, run_equalIn_int (P := Try.prog) w d e k k _ _ he]
    rw [List.drop_eq_getElem_cons ha, List.drop_eq_getElem_cons hb, List.cons_beq_cons, List.getD_eq_getElem?_getD, List.getD_eq_getElem?_getD, List.getElem?_eq_getElem ha, List.getElem?_eq_getElem hb]
    simp only [Option.getD_some]
    have ih := items_ints w e k d a b he hl m (i + 1) (by omega)
    by_cases hab : a[i] = b[i]
    · simp only [beq_iff_eq.2 hab, Bool.not_true, Bool.false_eq_true, if_false, Bool.true_and]
      exact ih
    · simp only [beq_eq_false_iff_ne.2 hab, Bool.not_false, if_true, Bool.false_and, Sem.run_pure]
theorem run_ints_eq (w : World) (t e : TypeId) (k : IntKind) (n : Nat) (a b : List Int) (ht : Try.prog.underlying t = some (.array n e)) (he : Try.prog.underlying e = some (.int k)) (hc : Try.prog.cellsOf e = 1) (hi : (Try.prog.info? e).isSome = true) (ha : a.length = n) (hb : b.length = n) :
    (Op.equalIn 10000 t (.agg (a.map (Value.int k)).toArray) (.agg (b.map (Value.int k)).toArray)).run Try.prog w = .ok (a == b) w := by
  obtain ⟨i, hi'⟩ := Option.isSome_iff_exists.1 hi
  have := run_equalIn_array (P := Try.prog) w 9999 (a.map (Value.int k)).toArray (b.map (Value.int k)).toArray ht hi'
  rw [this, hc, List.range_eq_range', items_ints w e k 9998 a b he (by omega) n 0 (by omega)]
  rfl

theorem cells_int1 : Try.prog.cellsOf 3 = 1 := by kernel_rfl

theorem cells_u64 : Try.prog.cellsOf 95 = 1 := by kernel_rfl

theorem info_int1 : (Try.prog.info? 3).isSome = true := by kernel_rfl

theorem info_u64 : (Try.prog.info? 95).isSome = true := by kernel_rfl

theorem pair_eq (w : World) (a b c d : Int) : (Op.equalIn 10000 55 (.agg #[.int .i64 a, .int .i64 b]) (.agg #[.int .i64 c, .int .i64 d])).run Try.prog w = .ok (((a, b) : Int × Int) == (c, d)) w := by
  have := run_ints_eq w 55 3 .i64 2 [a, b] [c, d] Try.underlying55 Try.underlying3 cells_int1 info_int1 rfl rfl
  have e : (([a, b] : List Int) == [c, d]) = (((a, b) : Int × Int) == (c, d)) := by
    rw [Bool.eq_iff_iff, beq_iff_eq, beq_iff_eq]; simp
  rw [e] at this
  exact this
theorem guard_two : Try.prog.eqGuardType Try.prog.depth 55 = false := by kernel_rfl

theorem take_eq_all {α : Type} (a b : List α) (hl : a.length = b.length) (h : a.take a.length = b.take a.length) : a = b := by
  rw [List.take_length, hl, List.take_length] at h
  exact h
theorem take_eq_next {α : Type} (a b : List α) (z : α) (k : Nat) (ha : k < a.length) (hb : k < b.length) (h : a.take k = b.take k) (e : a.getD k z = b.getD k z) : a.take (k + 1) = b.take (k + 1) := by
  rw [List.getD_eq_getElem?_getD, List.getD_eq_getElem?_getD, List.getElem?_eq_getElem ha, List.getElem?_eq_getElem hb] at e
  simp only [Option.getD_some] at e
  rw [List.take_succ_eq_append_getElem ha, List.take_succ_eq_append_getElem hb, h, e]
theorem ne_of_at {α : Type} [BEq α] [LawfulBEq α] (a b : List α) (z : α) (k : Nat) (e : a.getD k z ≠ b.getD k z) : (a == b) = false := by
  rw [beq_eq_false_iff_ne]
  intro h
  exact e (by rw [h])
theorem ne_of_length {α : Type} [BEq α] [LawfulBEq α] (a b : List α) (e : a.length ≠ b.length) : (a == b) = false := by
  rw [beq_eq_false_iff_ne]
  intro h
  exact e (by rw [h])

end Go.Proofs.Ythokjkkhkcdceaa

/-
  A walk of Seal.
-/
import Derived.Test.YtkhdfcjdbhhikaaCrcMem
namespace Go.Proofs.Ytkhdfcjdbhhikaa.Crc
set_option linter.unusedVariables false
open Go.RowKit Go.Lib

theorem make_bytes4 (n : Nat) (h : n ≤ 100000) (w : World) :
    (Instr.makeSlice 41 (.int .i64 ((n : Int) + 4)) (.int .i64 ((n : Int) + 4))).run Try.prog w = .ok (.slice (some ⟨w.heap.size, 0, none⟩) (n + 4) (n + 4)) (w.alloc (.cells (zeros (n + 4)).toArray 5)) :=
  make_bytes (n + 4) (by omega) w

theorem splice_two {α : Type} (Z X Y : List α) (k : Nat) (hk : X.length = k) (h : Z.length = k + Y.length) : splice (splice Z 0 X) k Y = X ++ Y := by
  subst hk
  unfold splice
  rw [List.take_zero, List.nil_append, Nat.zero_add, List.take_left, List.drop_eq_nil_of_le (by simp; omega), List.append_nil]

end Go.Proofs.Ytkhdfcjdbhhikaa.Crc

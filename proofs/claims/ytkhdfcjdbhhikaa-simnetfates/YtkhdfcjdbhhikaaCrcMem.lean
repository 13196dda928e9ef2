/-
  Rows of bytes that a call makes; walks of same, tailOf, Seal.
-/
import Derived.Test.YtkhdfcjdbhhikaaCrc
import Derived.Test.YtkhdfcjdbhhikaaExtCore
import Derived.Deep.OwnRows
import Derived.Deep.RegionLaw
import Derived.OwnWalk
namespace Go.Proofs.Ytkhdfcjdbhhikaa.Crc
set_option linter.unusedVariables false
open Go.RowKit Go.Lib

/-- noughts -/
def zeros (n : Nat) : List Value := (madeCells #[.int .u8 0] n).toList
theorem zeros_length (n : Nat) : (zeros n).length = n := by unfold zeros; rw [Array.length_toList, size_madeCells]
theorem make_bytes (n : Nat) (h : n ≤ 200000) (w : World) :
    (Instr.makeSlice 41 (.int .i64 (n : Int)) (.int .i64 (n : Int))).run Try.prog w = .ok (.slice (some ⟨w.heap.size, 0, none⟩) n n) (w.alloc (.cells (zeros n).toArray 5)) := by
  have := run_make_row' 41 5 (.int .u8 0) 1 Try.underlying41 info_byte rfl .i64 .i64 n (by omega) (by omega) w
  rw [this]
  unfold zeros
  rw [Array.toArray_toList]

set_option maxHeartbeats 1000000 in
theorem same_any (v : Value) (l : List UInt8) (w : World) (hv : Bytes w v l) (hl : l.length ≤ 100000) :
    Calls Try.prog 60 #[v] w fun e w' => e = .returned (.slice (some ⟨w.heap.size, 0, none⟩) l.length l.length) ∧ Row w' w.heap.size l ∧ Ext w w' := by
  have X := (Ext.refl w).alloc (.cells (zeros l.length).toArray 5)
  have hv1 := hv.ext X
  have hg : Hid ((w.alloc (.cells (zeros l.length).toArray 5)).heap[w.heap.size]? = some (.cells (zeros l.length).toArray 5 (0, 0))) := heap_alloc_new w _
  have zl := zeros_length l.length
  have mk := make_bytes l.length (by omega) w
  obtain ⟨ao, c, rfl, h1, h2, _⟩ := hv
  have SRC := hid hv1.src
  have XX := hid X
  clear X hv1
  unfold maxLen at h2
  obtain ⟨Z, eZ⟩ : ∃ Z, Z = zeros l.length := ⟨_, rfl⟩
  rw [← eZ] at zl mk hg XX SRC
  have CL := hid (bcells_length l)
  obtain ⟨B, eB⟩ : ∃ B, B = bcells l := ⟨_, rfl⟩
  have ON := hid (bcells_one l)
  rw [← eB] at CL ON SRC
  have EB := hid eB
  have ZL := hid zl
  clear eZ eB zl
  go_enter Try.func60, Try.ntmps60
  go_wp2_with (refine wpList_copy_splice rfl (.tmp 7) (.tmp 8) 41 41 rfl 5 Try.underlying41 size_byte _ _ _ _ _ _ rfl rfl w.heap.size 0 Z 5 hg.out B (by rw [CL.out]; exact (Nat.min_self _).symm) (fun h0 => ⟨rfl, SRC.out.2 h0⟩) (by rw [ZL.out, CL.out]; omega) ON.out w.heap.size w XX.out (Nat.le_refl _) ?_; intro w2 HG HB)
  go_ret
  refine ⟨rfl, ?_, HB⟩
  have e : splice Z 0 B = B := by
    unfold splice
    rw [List.take_zero, List.nil_append, List.drop_eq_nil_of_le (by rw [ZL.out, CL.out]; omega), List.append_nil]
  have := HG.out
  rw [e, EB.out] at this
  exact this

theorem shr_byte (s k : Nat) : (s : Int) / 2 ^ (8 * k) % 256 = ((s / 256 ^ k % 256 : Nat) : Int) := by
  rw [show (256 : Nat) ^ k = 2 ^ (8 * k) by rw [Nat.pow_mul]]
  simp

end Go.Proofs.Ytkhdfcjdbhhikaa.Crc

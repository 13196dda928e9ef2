/-
  A walk of the law's fixed answer.
-/
import Derived.Test.YtekkfoncbcibiaaCrcTurn
import Derived.Lib.SlBytesConst
namespace Go.Proofs.Ytekkfoncbcibiaa
set_option linter.unusedVariables false
open Go.RowKit Go.Lib

theorem block_bytes {w : World} {g : Nat} {l : List UInt8} {t : TypeId} {fr : Nat × Nat} (h : w.heap[g]? = some (.cells (bcells l).toArray t fr)) (hl : l.length ≤ 100000) : Bytes w (.slice (some ⟨g, 0, none⟩) l.length l.length) l :=
  ⟨_, _, rfl, Nat.le_refl _, by unfold maxLen; omega, fun k hk => ⟨g, 0, rfl, (Array.getElem?_eq_some_iff.1 h).1, by
    rw [Nat.zero_add, cell_of_row w g k _ _ _ h, List.getElem?_toArray, bcells_at l k hk]⟩⟩

set_option maxHeartbeats 2000000 in
theorem awake6_any (w : World) : Calls Try.prog 7 #[] w fun e w' => e = .returned (.bool true) ∧ Ext w w' := by
  have X1 : Hid (Ext w (w.alloc (.cells #[.int .u8 97, .int .u8 98, .int .u8 99] 5 (3, 4)))) := (Ext.refl w).alloc _
  have B1 : Hid (Bytes (w.alloc (.cells #[.int .u8 97, .int .u8 98, .int .u8 99] 5 (3, 4))) (.slice (some ⟨w.heap.size, 0, none⟩) 3 3) [97, 98, 99]) := block_bytes (l := [97, 98, 99]) (heap_alloc_new w _) (by simp)
  have C1 := hid (seal_any _ [97, 98, 99] _ B1.out (by simp))
  have kc := fun (w : World) (C : Array Value) (n c : Nat) => run_convert_bytes_const (P := Try.prog) w 22 5 C n c Try.underlying22 Try.underlying5
  go_enter Try.func7, Try.ntmps7
  go_wp2_with fail
  refine C1.out.mono ?_
  rintro e w1 ⟨g, rfl, hg, r2, x2⟩
  have X2 := hid (X1.out.trans x2)
  have C2 := open_yes _ _ w1 (r2.bytes (by rw [cseal_length]; simp)) (by rw [cseal_length]; simp) (copens_cseal _)
  rw [cseal_take, cseal_length] at C2
  clear r2 x2 C1 hg X1 B1
  go_wp2_with fail
  refine C2.mono ?_
  rintro e w2 ⟨r, rfl, hr, r3, x3⟩
  have X3 := hid (X2.out.trans x3)
  have R3 := hid r3
  have C3 : Hid (Calls Try.prog 12 #[.slice (some ⟨w2.heap.size, 0, none⟩) 3 3] (w2.alloc (.cells #[.int .u8 1, .int .u8 2, .int .u8 3] 5)) fun e w' => e = .returned (.tuple #[.slice none 0 0, .bool false]) ∧ w' = w2.alloc (.cells #[.int .u8 1, .int .u8 2, .int .u8 3] 5)) :=
    open_short _ [1, 2, 3] _ (block_bytes (l := [1, 2, 3]) (heap_alloc_new w2 _) (by simp)) (by simp)
  clear r3 x3 C2 hr X2
  go_wp2_with fail
  refine C3.out.mono ?_
  rintro e w3 ⟨rfl, e3⟩
  have X4 : Hid (Ext w w3) := by rw [e3]; exact X3.out.alloc _
  have R4 : Hid (Row w3 r [97, 98, 99]) := by rw [e3]; exact R3.out.ext ((Ext.refl w2).alloc _)
  clear C3 e3 X3 R3
  have SUM : Hid (Calls Try.prog 8 #[.slice (some ⟨w3.heap.size, 0, none⟩) 9 9] (w3.alloc (.cells #[.int .u8 49, .int .u8 50, .int .u8 51, .int .u8 52, .int .u8 53, .int .u8 54, .int .u8 55, .int .u8 56, .int .u8 57] 5 (9, 10))) fun e w' => e = .returned (.int .u32 3421780262) ∧ w' = w3.alloc (.cells #[.int .u8 49, .int .u8 50, .int .u8 51, .int .u8 52, .int .u8 53, .int .u8 54, .int .u8 55, .int .u8 56, .int .u8 57] 5 (9, 10))) := by
    have c := sum_any _ [49, 50, 51, 52, 53, 54, 55, 56, 57] _ (block_bytes (l := [49, 50, 51, 52, 53, 54, 55, 56, 57]) (heap_alloc_new w3 (.cells #[.int .u8 49, .int .u8 50, .int .u8 51, .int .u8 52, .int .u8 53, .int .u8 54, .int .u8 55, .int .u8 56, .int .u8 57] 5 (9, 10))) (by simp))
    rw [known_sum] at c
    exact c
  go_wp2_with fail
  refine SUM.out.mono ?_
  rintro e w4 ⟨rfl, e4⟩
  have X5 : Hid (Ext w w4) := by rw [e4]; exact X4.out.alloc _
  have ST : (convert 22 9 (.slice (some ⟨r, 0, none⟩) 3 3)).run Try.prog w4 = .ok (.string ⟨#[97, 98, 99]⟩) w4 := by
    have R5 : Row w4 r [97, 98, 99] := by rw [e4]; exact R4.out.ext ((Ext.refl w3).alloc _)
    exact (R5.bytes (by simp)).str
  clear SUM e4 X4 R4
  go_wp2_with fail
  go_ret
  exact ⟨rfl, X5.out⟩
end Go.Proofs.Ytekkfoncbcibiaa

/-
  The walk of LogsOnce: a shelf makes its table once, however many calls come; it is the document's.
-/
import Derived.Test.YtbbfblfgieobeaaDoorOnce
import Derived.Test.YtbbfblfgieobeaaDoorLogsRef
import Derived.OpenShut
namespace Go.Proofs.YtbbfblfgieobeaaDoor.logsOnce
set_option linter.unusedVariables false
open Go.RowKit

set_option maxHeartbeats 1000000 in
theorem walk (a0 : Int) (w0 : (Lit.int .i64 a0).wf = true) (w : World) (H : Steps w) :
    Calls Tryd.prog 6 #[.int .i64 a0] w fun e w' => e = .returned (.bool true) ∧ Ext w w' := by
  obtain ⟨b0, b0'⟩ := bounds_i64 w0
  have hz := H.size
  have eqt : ∀ w, (Op.equalIn 10000 35 (.agg tabs) (.agg tabs)).run Tryd.prog w = .ok true w := fun _ => by kernel_rfl
  go_enter Tryd.func6, Tryd.ntmps6
  go_wp2_with fail
  refine (shelfNew_any _).mono ?_
  rintro e w1 ⟨rfl, X1, S1⟩
  have H1 := H.ext X1
  go_wp2_with fail
  refine (made_any w.heap.size 0 _ (S1.cell 20) (by decide) (by decide)).mono ?_
  rintro e w' ⟨rfl, rfl⟩
  go_wp2_with fail
  obtain ⟨n, hn⟩ : ∃ n : Int, n = min (max a0 1) 30 := ⟨_, rfl⟩
  have n1 : 1 ≤ n := by omega
  have n2 : n ≤ 30 := by omega
  rw [← hn]
  clear hn
  go_loopw [15] (fun i wr => ∃ k : Nat, i = .int .i64 k ∧ (k : Int) ≤ n ∧ Ext w wr ∧ (k = 0 ∧ ShelfAt wr w.heap.size (shelf 0 0 noughts 0) ∨ 0 < k ∧ ShelfAt wr w.heap.size (shelf 1 0 tabs 1))) (fun i _ => (n - intOf i).toNat)
  case atStart => exact ⟨0, rfl, by omega, X1, Or.inl ⟨rfl, S1⟩⟩
  case round =>
    clear X1 S1 H1
    obtain ⟨k, rfl, hk, X, S⟩ := hrel
    by_cases t : (k : Int) < n
    · have HS := H.ext X
      have c : Calls Tryd.prog 15 #[.pointer (some ⟨w.heap.size, 0, none⟩)] wr fun e w' => e = .returned (.agg tabs) ∧ Ext w w' ∧ ShelfAt w' w.heap.size (shelf 1 0 tabs 1) := by
        rcases S with ⟨_, S⟩ | ⟨_, S⟩
        · refine (shelfTable_first w.heap.size w.heap.size wr HS hz (Nat.le_refl _) S).mono ?_
          rintro e w' ⟨rfl, HB, S'⟩
          exact ⟨rfl, Below.trans X HB, S'⟩
        · refine (shelfTable_again w.heap.size wr S).mono ?_
          rintro e w' ⟨rfl, HB⟩
          exact ⟨rfl, X.trans HB, HB.row S⟩
      clear S
      go_wp2_with fail
      refine c.mono ?_
      rintro e w1 ⟨rfl, X1, S1⟩
      go_wp2_with fail
      refine (refTable_ext _).mono ?_
      rintro e w2 ⟨rfl, X2⟩
      have S2 : ShelfAt w2 w.heap.size (shelf 1 0 tabs 1) := X2.row S1
      have X3 := X1.trans X2
      clear X1 X2 S1 c HS X
      go_wp2_with fail
      refine (made_any w.heap.size 1 _ (S2.cell 20) (by decide) (by decide)).mono ?_
      rintro e w' ⟨rfl, rfl⟩
      go_wp2_with fail
      go_round
      case rel => exact ⟨k + 1, by go_num, by omega, X3, Or.inr ⟨by omega, S2⟩⟩
      case measure => simp [intOf]; omega
    · have HS := H.ext X
      clear S
      go_wp2_with fail
      refine (table_any _ HS).mono ?_
      rintro e w1 ⟨rfl, rfl⟩
      have X1 : Ext w (wr.alloc (.cells tabs 35)) := X.alloc _
      go_wp2_with fail
      refine (refTable_ext _).mono ?_
      rintro e w2 ⟨rfl, X2⟩
      have X3 := X1.trans X2
      clear X1 X2
      go_wp2_with fail
      refine (awake2_any _ (H.ext X3)).mono ?_
      rintro e w3 ⟨rfl, X4⟩
      go_wp2_with fail
      go_ret
      exact ⟨rfl, X3.trans X4⟩
end Go.Proofs.YtbbfblfgieobeaaDoor.logsOnce

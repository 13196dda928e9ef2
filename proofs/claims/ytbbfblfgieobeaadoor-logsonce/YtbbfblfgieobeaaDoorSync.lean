/-
  Walks of package sync's lock and package sync/atomic's words, entered by one goroutine alone: Lock on a free lock, Unlock and Bool.Store as deferred calls.
-/
import Derived.Test.YtbbfblfgieobeaaDoorExt
import Derived.Defers
import Derived.Laws.LoneSync
import Derived.Laws.Pointers
import Derived.Laws.NewBlocks
import Derived.RegionCalls
import Derived.WalkKit
import Derived.Handy
namespace Go.Proofs.YtbbfblfgieobeaaDoor
set_option linter.unusedVariables false
open Go.RowKit

theorem mark_off (w : World) : (callFunc 41 #[]).run Tryd.prog w = .ok (.value (.tuple #[])) w := run_call_mark0 Tryd.func41 (by kernel_rfl) (by kernel_rfl) (by kernel_rfl) .disable (by kernel_rfl) w
theorem mark_on (w : World) : (callFunc 43 #[]).run Tryd.prog w = .ok (.value (.tuple #[])) w := run_call_mark0 Tryd.func43 (by kernel_rfl) (by kernel_rfl) (by kernel_rfl) .enable (by kernel_rfl) w
theorem mark_take (a : Addr) (w : World) : (callFunc 44 #[.pointer (some a)]).run Tryd.prog w = .ok (.value (.tuple #[])) w := run_call_marked Tryd.func44 (by kernel_rfl) (by kernel_rfl) (by kernel_rfl) .acquire (by kernel_rfl) a w
theorem mark_give (a : Addr) (w : World) : (callFunc 46 #[.pointer (some a)]).run Tryd.prog w = .ok (.value (.tuple #[])) w := run_call_marked Tryd.func46 (by kernel_rfl) (by kernel_rfl) (by kernel_rfl) .releaseMerge (by kernel_rfl) a w
theorem not_run (x : Bool) (w : World) : (Op.unary .not (.bool x)).run Tryd.prog w = .ok (.bool (!x)) w := rfl
theorem word_load (a : Addr) (x : Int) (w : World) (h : w.cell? a = some (.int .u32 x)) : (callFunc 33 #[.pointer (some a)]).run Tryd.prog w = .ok (.value (.int .u32 x)) w := run_call_load Tryd.func33 (by kernel_rfl) (by kernel_rfl) (by kernel_rfl) .u32 (by kernel_rfl) h
theorem int_load (a : Addr) (x : Int) (w : World) (h : w.cell? a = some (.int .i32 x)) : (callFunc 29 #[.pointer (some a)]).run Tryd.prog w = .ok (.value (.int .i32 x)) w := run_call_load Tryd.func29 (by kernel_rfl) (by kernel_rfl) (by kernel_rfl) .i32 (by kernel_rfl) h

set_option maxHeartbeats 1000000 in
theorem lock_any (a : Addr) (w : World) (h : w.cell? a = some (.int .i32 0)) (hz : w.frozen? a = false) :
    Calls Tryd.prog 34 #[.pointer (some a)] w fun e w' => e = .returned (.tuple #[]) ∧ w' = w.setCell a (.int .i32 1) := by
  have m1 := mark_off
  have m2 := mark_on
  have m3 := mark_take
  have swap := run_call_cas_hit (P := Tryd.prog) Tryd.func42 (by kernel_rfl) (by kernel_rfl) (by kernel_rfl) .i32 (by kernel_rfl) (y := 1) h hz
  have h1 : (w.setCell a (.int .i32 1)).cell? a = some (.int .i32 1) := World.cell?_setCell_same w a _ h
  have conv := run_convert_to_unsafe (P := Tryd.prog) (src := 77) (dst := 80) Tryd.underlying77 Tryd.underlying80 (by kernel_rfl) h1
  go_enter Tryd.func34, Tryd.ntmps34
  go_wp2
  go_returns
  exact ⟨rfl, rfl⟩

set_option maxHeartbeats 1000000 in
theorem unlock_later (a : Addr) (u : FrameMode) (w : World) (h : w.cell? a = some (.int .i32 1)) (hz : w.frozen? a = false) :
    CallsD Tryd.prog 35 #[.pointer (some a)] u w fun e u' w' => u' = u ∧ (e = .returned (.tuple #[]) ∧ w' = w.setCell a (.int .i32 0)) := by
  have m1 := mark_off
  have m2 := mark_on
  have m3 := mark_give
  have less := run_call_add (P := Tryd.prog) Tryd.func32 (by kernel_rfl) (by kernel_rfl) (by kernel_rfl) .i32 (by kernel_rfl) (y := -1) (s := 0) h hz (by simp [go_sem]; rfl)
  have conv := run_convert_to_unsafe (P := Tryd.prog) (src := 77) (dst := 80) Tryd.underlying77 Tryd.underlying80 (by kernel_rfl) h
  go_enter_d Tryd.func35, Tryd.ntmps35
  go_wp2
  go_returns
  exact ⟨rfl, rfl⟩

set_option maxHeartbeats 1000000 in
theorem flag_later (a : Addr) (x : Value) (u : FrameMode) (w : World) (h : w.cell? a = some x) (hz : w.frozen? a = false) :
    CallsD Tryd.prog 36 #[.pointer (some a), .bool true] u w fun e u' w' => u' = u ∧ (e = .returned (.tuple #[]) ∧ w' = w.drew.setCell a (.int .u32 1)) := by
  have h' : w.drew.cell? a = some x := by go_simp
  have hz' : w.drew.frozen? a = false := by go_simp
  have put := run_call_store (P := Tryd.prog) Tryd.func39 (by kernel_rfl) (by kernel_rfl) (by kernel_rfl) (by kernel_rfl) (k := .u32) (y := 1) h' hz'
  go_enter_d Tryd.func36, Tryd.ntmps36
  go_wp2
  go_region_calls
  all_goals (go_end0; exact ⟨rfl, rfl⟩)
end Go.Proofs.YtbbfblfgieobeaaDoor

/-
  Walks of slices.Clone at nil and of Copy at a meter that was just made.
-/
import Derived.Test.YtjdcccienbahjaaMeterSum
import Derived.Deep.RegionHeld3
import Derived.Lib.BufferMore
namespace Go.Proofs.Ytjdcccienbahjaa
set_option linter.unusedVariables false
open Go.RowKit

theorem clone_nil (w : World) : Calls Try.prog 24 #[.slice none 0 0] w fun e w' => e = .returned (.slice none 0 0) ∧ w' = w := by
  have hn := Lib.run_eql_slice_nil_nil (P := Try.prog) w 0 0 Try.underlying47
  go_enter Try.func24, Try.ntmps24
  go_wp2
  go_ret
  exact ⟨rfl, rfl⟩

set_option maxHeartbeats 2000000 in
theorem copy_fresh (b : Nat) (win : Int) (w : World) (hb : Block w b win 0 (.slice none 0 0)) :
    Calls Try.prog 16 #[.pointer (some ⟨b, 0, none⟩)] w fun e w' => e = .returned (.pointer (some ⟨w.heap.size, 0, none⟩)) ∧ Ext w w' ∧ Block w' w.heap.size win 0 (.slice none 0 0) := by
  have c0 := hb.c0
  have c1 := hb.c1
  have c2 := hb.c2
  clear hb
  go_enter Try.func16, Try.ntmps16
  go_wp2
  go_region_held3 (fun w' => w'.cell? ⟨b, 0, none⟩ = some (.int .i64 win) ∧ w'.cell? ⟨b, 1, none⟩ = some (.int .i64 0) ∧ w'.cell? ⟨b, 2, none⟩ = some (.slice none 0 0)) (go_keep) (first | (go_at_call 24; refine (clone_nil _).mono ?_; rintro e w' ⟨rfl, rfl⟩))
  go_wp2
  go_ret
  exact ⟨rfl, Below.drew (Ext.alloc (Ext.refl w) _), heap_alloc_new w _⟩
end Go.Proofs.Ytjdcccienbahjaa

/-
  A packet in memory; walks of what a field does with it: put, get, fits, drop.
-/
import Derived.Test.YtlnjkjpllmfcaaaWireGet
namespace Go.Proofs.Ytlnjkjpllmfcaaa
set_option linter.unusedVariables false
set_option maxRecDepth 100000
open Go.RowKit Go.Lib

/-- a packet's cells -/
def prow (p : Pk) (ra rg da : Value) : Array Value :=
  #[.int .i64 (p.1 0), .int .i64 (p.1 1), .int .i64 (p.1 2), .int .u32 (p.1 3), .int .i64 (p.1 4), .int .i64 (p.1 5), .int .i64 (p.1 6), .int .i64 (p.1 7), .int .i64 (p.1 8), .int .u64 (p.1 9), ra, rg, da]
/-- its lists, in blocks of K -/
def PL (K : Nat → Prop) (w : World) (p : Pk) (ra rg da : Value) : Prop := RowK K w ra 1 (acells p.2.1) ∧ RowK K w rg 2 (gcells p.2.2.1) ∧ RowK K w da 1 (bcells p.2.2.2)
/-- a packet lies at block g -/
def PAt (K : Nat → Prop) (w : World) (g : Nat) (p : Pk) : Prop := ∃ ra rg da, w.heap[g]? = some (.cells (prow p ra rg da) 29 (0, 0)) ∧ PL K w p ra rg da
theorem PL.kept {K : Nat → Prop} {w w' : World} {p : Pk} {ra rg da : Value} (h : PL K w p ra rg da) (k : Kept K w w') : PL K w' p ra rg da := ⟨h.1.kept k, h.2.1.kept k, h.2.2.kept k⟩
theorem PL.mono {K L : Nat → Prop} {w : World} {p : Pk} {ra rg da : Value} (h : PL K w p ra rg da) (hL : ∀ i, i < w.heap.size → K i → L i) : PL L w p ra rg da := ⟨h.1.mono (by decide) hL, h.2.1.mono (by decide) hL, h.2.2.mono (by decide) hL⟩
theorem PAt.kept {K : Nat → Prop} {w w' : World} {g : Nat} {p : Pk} (h : PAt K w g p) (k : Kept K w w') (hg : w'.heap[g]? = w.heap[g]?) : PAt K w' g p := by
  obtain ⟨ra, rg, da, h1, h2⟩ := h
  exact ⟨ra, rg, da, hg.trans h1, h2.kept k⟩
theorem PAt.mono {K L : Nat → Prop} {w : World} {g : Nat} {p : Pk} (h : PAt K w g p) (hL : ∀ i, i < w.heap.size → K i → L i) : PAt L w g p := by
  obtain ⟨ra, rg, da, h1, h2⟩ := h
  exact ⟨ra, rg, da, h1, h2.mono hL⟩
theorem PAt.lt {K : Nat → Prop} {w : World} {g : Nat} {p : Pk} (h : PAt K w g p) : g < w.heap.size := by
  obtain ⟨ra, rg, da, h1, h2⟩ := h
  exact lt_of_row h1

/-- a number's field: its letter, the function that tells its place, the place, its greatest number -/
def IsNum (c pf i : Nat) (top : Int) : Prop :=
  (c = 70 ∧ pf = 80 ∧ i = 1 ∧ top = 63) ∨ (c = 76 ∧ pf = 52 ∧ i = 2 ∧ top = 7) ∨ (c = 66 ∧ pf = 59 ∧ i = 4 ∧ top = 16383) ∨ (c = 84 ∧ pf = 60 ∧ i = 5 ∧ top = 1099511627776) ∨
  (c = 69 ∧ pf = 82 ∧ i = 6 ∧ top = 1099511627776) ∨ (c = 86 ∧ pf = 81 ∧ i = 7 ∧ top = 7) ∨ (c = 78 ∧ pf = 83 ∧ i = 8 ∧ top = 16384)

theorem prow_num {c pf i : Nat} {top : Int} (h : IsNum c pf i top) (p : Pk) (ra rg da : Value) : (prow p ra rg da)[i]? = some (.int .i64 (p.1 i)) := by
  rcases h with ⟨_, _, rfl, _⟩ | ⟨_, _, rfl, _⟩ | ⟨_, _, rfl, _⟩ | ⟨_, _, rfl, _⟩ | ⟨_, _, rfl, _⟩ | ⟨_, _, rfl, _⟩ | ⟨_, _, rfl, _⟩ <;> rfl
theorem prow_setn {c pf i : Nat} {top : Int} (h : IsNum c pf i top) (p : Pk) (ra rg da : Value) (x : Int) : (prow p ra rg da).setIfInBounds i (.int .i64 x) = prow (setn p i x) ra rg da := by
  rcases h with ⟨_, _, rfl, _⟩ | ⟨_, _, rfl, _⟩ | ⟨_, _, rfl, _⟩ | ⟨_, _, rfl, _⟩ | ⟨_, _, rfl, _⟩ | ⟨_, _, rfl, _⟩ | ⟨_, _, rfl, _⟩ <;> rfl
theorem num_enc {c pf i : Nat} {top : Int} (h : IsNum c pf i top) (p : Pk) : enc c p = le 8 (u64 (p.1 i)) := by
  rcases h with ⟨rfl, _, rfl, _⟩ | ⟨rfl, _, rfl, _⟩ | ⟨rfl, _, rfl, _⟩ | ⟨rfl, _, rfl, _⟩ | ⟨rfl, _, rfl, _⟩ | ⟨rfl, _, rfl, _⟩ | ⟨rfl, _, rfl, _⟩ <;> rfl
theorem num_fits {c pf i : Nat} {top : Int} (h : IsNum c pf i top) (p : Pk) : fits c p = upto (p.1 i) top := by
  rcases h with ⟨rfl, _, rfl, rfl⟩ | ⟨rfl, _, rfl, rfl⟩ | ⟨rfl, _, rfl, rfl⟩ | ⟨rfl, _, rfl, rfl⟩ | ⟨rfl, _, rfl, rfl⟩ | ⟨rfl, _, rfl, rfl⟩ | ⟨rfl, _, rfl, rfl⟩ <;> rfl
theorem num_drop {c pf i : Nat} {top : Int} (h : IsNum c pf i top) (p : Pk) : drop c p = setn p i 0 := by
  rcases h with ⟨rfl, _, rfl, _⟩ | ⟨rfl, _, rfl, _⟩ | ⟨rfl, _, rfl, _⟩ | ⟨rfl, _, rfl, _⟩ | ⟨rfl, _, rfl, _⟩ | ⟨rfl, _, rfl, _⟩ | ⟨rfl, _, rfl, _⟩ <;> rfl
theorem num_lt {c pf i : Nat} {top : Int} (h : IsNum c pf i top) : i < 9 ∧ -9223372036854775808 ≤ top ∧ top < 9223372036854775808 := by
  rcases h with ⟨_, _, rfl, rfl⟩ | ⟨_, _, rfl, rfl⟩ | ⟨_, _, rfl, rfl⟩ | ⟨_, _, rfl, rfl⟩ | ⟨_, _, rfl, rfl⟩ | ⟨_, _, rfl, rfl⟩ | ⟨_, _, rfl, rfl⟩ <;> decide

theorem place_from (g : Nat) (w : World) : Calls Try.prog 80 #[.pointer (some ⟨g, 0, none⟩)] w fun e w' => e = .returned (.pointer (some ⟨g, 1, none⟩)) ∧ w' = w := by
  go_enter Try.func80, Try.ntmps80
  go_wp2
  go_ret
  exact ⟨rfl, rfl⟩
theorem place_layer (g : Nat) (w : World) : Calls Try.prog 52 #[.pointer (some ⟨g, 0, none⟩)] w fun e w' => e = .returned (.pointer (some ⟨g, 2, none⟩)) ∧ w' = w := by
  go_enter Try.func52, Try.ntmps52
  go_wp2
  go_ret
  exact ⟨rfl, rfl⟩
theorem place_block (g : Nat) (w : World) : Calls Try.prog 59 #[.pointer (some ⟨g, 0, none⟩)] w fun e w' => e = .returned (.pointer (some ⟨g, 4, none⟩)) ∧ w' = w := by
  go_enter Try.func59, Try.ntmps59
  go_wp2
  go_ret
  exact ⟨rfl, rfl⟩
theorem place_tick (g : Nat) (w : World) : Calls Try.prog 60 #[.pointer (some ⟨g, 0, none⟩)] w fun e w' => e = .returned (.pointer (some ⟨g, 5, none⟩)) ∧ w' = w := by
  go_enter Try.func60, Try.ntmps60
  go_wp2
  go_ret
  exact ⟨rfl, rfl⟩
theorem place_echo (g : Nat) (w : World) : Calls Try.prog 82 #[.pointer (some ⟨g, 0, none⟩)] w fun e w' => e = .returned (.pointer (some ⟨g, 6, none⟩)) ∧ w' = w := by
  go_enter Try.func82, Try.ntmps82
  go_wp2
  go_ret
  exact ⟨rfl, rfl⟩
theorem place_level (g : Nat) (w : World) : Calls Try.prog 81 #[.pointer (some ⟨g, 0, none⟩)] w fun e w' => e = .returned (.pointer (some ⟨g, 7, none⟩)) ∧ w' = w := by
  go_enter Try.func81, Try.ntmps81
  go_wp2
  go_ret
  exact ⟨rfl, rfl⟩
theorem place_n (g : Nat) (w : World) : Calls Try.prog 83 #[.pointer (some ⟨g, 0, none⟩)] w fun e w' => e = .returned (.pointer (some ⟨g, 8, none⟩)) ∧ w' = w := by
  go_enter Try.func83, Try.ntmps83
  go_wp2
  go_ret
  exact ⟨rfl, rfl⟩
theorem place_any {c pf i : Nat} {top : Int} (h : IsNum c pf i top) (g : Nat) (w : World) : Calls Try.prog pf #[.pointer (some ⟨g, 0, none⟩)] w fun e w' => e = .returned (.pointer (some ⟨g, i, none⟩)) ∧ w' = w := by
  rcases h with ⟨_, rfl, rfl, _⟩ | ⟨_, rfl, rfl, _⟩ | ⟨_, rfl, rfl, _⟩ | ⟨_, rfl, rfl, _⟩ | ⟨_, rfl, rfl, _⟩ | ⟨_, rfl, rfl, _⟩ | ⟨_, rfl, rfl, _⟩
  · exact place_from g w
  · exact place_layer g w
  · exact place_block g w
  · exact place_tick g w
  · exact place_echo g w
  · exact place_level g w
  · exact place_n g w

/-- a function that has a body of its own is entered -/
def Entered (f : Nat) : Prop := ∀ args w, (callFunc f args).run Try.prog w = .ok (.enter f args) w
theorem entered_of {f : Nat} {fn : Func} (h : Try.prog.funcs[f]? = some fn) (h1 : (fn.name == "runtime.NumGoroutine") = false) (h2 : fn.body.isNone = false) : Entered f := by
  intro args w
  simp only [callFunc, Sem.run_bind, run_program, Result.andThen_ok, h, h1, h2, Bool.false_eq_true, if_false, Sem.run_pure]
theorem place_enters {c pf i : Nat} {top : Int} (h : IsNum c pf i top) : Entered pf := by
  rcases h with ⟨_, rfl, _, _⟩ | ⟨_, rfl, _, _⟩ | ⟨_, rfl, _, _⟩ | ⟨_, rfl, _, _⟩ | ⟨_, rfl, _, _⟩ | ⟨_, rfl, _, _⟩ | ⟨_, rfl, _, _⟩
  · exact entered_of Try.func80 (by kernel_rfl) (by kernel_rfl)
  · exact entered_of Try.func52 (by kernel_rfl) (by kernel_rfl)
  · exact entered_of Try.func59 (by kernel_rfl) (by kernel_rfl)
  · exact entered_of Try.func60 (by kernel_rfl) (by kernel_rfl)
  · exact entered_of Try.func82 (by kernel_rfl) (by kernel_rfl)
  · exact entered_of Try.func81 (by kernel_rfl) (by kernel_rfl)
  · exact entered_of Try.func83 (by kernel_rfl) (by kernel_rfl)
end Go.Proofs.Ytlnjkjpllmfcaaa

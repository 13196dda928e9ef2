/-
  Walks of package logs: within, Log, Neg, Ln, Table, where the package's table holds what its initialiser lays.
-/
import Derived.Test.YtcjohgfmdnimjaaDoorFix
import Derived.Test.YtcjohgfmdnimjaaDoorLogsMath
import Derived.Deep.QuietTactic
import Derived.BigQuiet
import Derived.Handy
import Derived.Laws.Rows
import Derived.Test.YtcjohgfmdnimjaaDoorExt
namespace Go.Proofs.YtcjohgfmdnimjaaDoor
set_option linter.unusedVariables false
open Go.RowKit

/-- the table as a value -/
def tabs : Array Value := #[.int .i64 0, .int .i64 5732, .int .i64 11136, .int .i64 16248, .int .i64 21098, .int .i64 25711, .int .i64 30109, .int .i64 34312, .int .i64 38336, .int .i64 42196, .int .i64 45904, .int .i64 49472, .int .i64 52911, .int .i64 56229, .int .i64 59434, .int .i64 62534, .int .i64 65536]
theorem tabs_at (i : Nat) (h : i < 17) : tabs[i]? = some (.int .i64 (tab i)) := by
  match i, h with
  | 0, _ | 1, _ | 2, _ | 3, _ | 4, _ | 5, _ | 6, _ | 7, _ | 8, _ | 9, _ | 10, _ | 11, _ | 12, _ | 13, _ | 14, _ | 15, _ | 16, _ => rfl
  | n + 17, h => exact absurd h (by omega)
theorem tabs_one : tabs.all (·.oneCell') = true := by kernel_rfl

/-- the package's table lies in memory as it is written -/
def Steps (w : World) : Prop := ∃ t fr, w.heap[2]? = some (.cells tabs t fr)

theorem ret_two {k : IntKind} {a b : Int} {v : Value} (h : a = b) : Ending.returned (.tuple #[.int k a, v]) = .returned (.tuple #[.int k b, v]) := by rw [h]

theorem Steps.cell {w : World} (h : Steps w) (i : Nat) (hi : i < 17) : w.cell? ⟨2, i, none⟩ = some (.int .i64 (tab i)) := by
  obtain ⟨t, fr, h⟩ := h
  rw [cell_of_row w _ i tabs t fr h, tabs_at i hi]
theorem Steps.drewN {w : World} (h : Steps w) (n : Nat) : Steps (w.drewN n) := h
theorem Steps.ext {w w' : World} (h : Steps w) (e : Ext w w') : Steps w' := by
  obtain ⟨t, fr, h⟩ := h
  exact ⟨t, fr, e.row h⟩
theorem Steps.size {w : World} (h : Steps w) : 2 < w.heap.size := World.block_lt_of_cell? w _ (h.cell 0 (by decide))

set_option maxHeartbeats 400000 in
theorem stepWithin_any (i : Nat) (r : Int) (w : World) (H : Steps w) (hi : i < 16) (h0 : 0 ≤ r) (h1 : r < 268435456) :
    Calls Tryd.prog 47 #[.int .u64 i, .int .u64 r] w fun e w' => e = .returned (.int .i64 ((tab (i + 1) - tab i) * r / 268435456)) ∧ ∃ n, w' = w.drewN n := by
  have c1 := H.cell i (by omega)
  have c2 := H.cell (i + 1) (by omega)
  obtain ⟨u1, u2⟩ := tab_up i hi
  have t1 := tab_room i (by omega)
  have t2 := tab_room (i + 1) (by omega)
  generalize tab i = x at *
  generalize tab (i + 1) = y at *
  have p0 : 0 ≤ (y - x) * r := Int.mul_nonneg (by omega) h0
  have p1 : (y - x) * r ≤ 5732 * 268435456 := Int.mul_le_mul u2 (by omega) h0 (by decide)
  go_enter Tryd.func47, Tryd.ntmps47
  go_wp2
  go_quiet (fail)
  go_wp2
  go_ret
  exact ⟨rfl, _, rfl⟩

set_option maxHeartbeats 400000 in
theorem log_zero (w : World) :
    Calls Tryd.prog 44 #[.int .u64 0] w fun e w' => e = .returned (.tuple #[.int .i64 0, .bool false]) ∧ w' = w := by
  go_enter Tryd.func44, Tryd.ntmps44
  go_wp2
  go_ret2
  exact ⟨rfl, rfl⟩

set_option maxHeartbeats 1000000 in
theorem log_any (a : Int) (w : World) (H : Steps w) (h0 : 0 < a) (h1 : a < 18446744073709551616) :
    Calls Tryd.prog 44 #[.int .u64 a] w fun e w' => e = .returned (.tuple #[.int .i64 (flog a), .bool true]) ∧ ∃ n, w' = w.drewN n := by
  go_enter Tryd.func44, Tryd.ntmps44
  go_wp2_with fail
  refine (lz64_up a _ h0 h1).mono ?_
  rintro e w' ⟨s, hs, hu, hu', rfl, rfl⟩
  have FL := hid (flog_at a s h0 h1 hu hu')
  go_wp2_with fail
  obtain ⟨i, hi⟩ : ∃ i : Nat, i = ((a * 2 ^ s - 9223372036854775808) / 576460752303423488).toNat := ⟨_, rfl⟩
  obtain ⟨r, hr⟩ : ∃ r : Int, r = (a * 2 ^ s - 9223372036854775808) % 576460752303423488 / 2147483648 := ⟨_, rfl⟩
  have e1 : IntKind.u64.wrap (a * 2 ^ s * 2) / 1152921504606846976 = (i : Int) := by rw [IntKind.wrap_u64]; omega
  have e2 : IntKind.u64.wrap (IntKind.u64.wrap (a * 2 ^ s * 2) * 16) / 68719476736 = r := by rw [IntKind.wrap_u64, IntKind.wrap_u64]; omega
  have i1 : i < 16 := by omega
  have r0 : 0 ≤ r := by omega
  have r1 : r < 268435456 := by omega
  have FM : Hid (flog a = (31 - (s : Int)) * 65536 + (tab i + (tab (i + 1) - tab i) * r / 268435456)) := by
    show flog a = _
    rw [FL.out, hi, hr]; rfl
  clear FL
  rw [e1, e2]
  generalize IntKind.u64.wrap (IntKind.u64.wrap (a * 2 ^ s * 2) * 16) = g1 at *
  generalize IntKind.u64.wrap (a * 2 ^ s * 2) = g2 at *
  generalize a * 2 ^ s = g3 at *
  clear e1 e2 hi hr hu hu'
  have c1 := H.cell i (by omega)
  have t1 := tab_room i (by omega)
  obtain ⟨u1, u2⟩ := tab_up i i1
  obtain ⟨p1, p2⟩ := part_step _ r u1 r0 r1
  have cw := fun n => stepWithin_any i r (w'.drewN n) (H.drewN n) i1 r0 r1
  generalize (tab (i + 1) - tab i) * r / 268435456 = q at *
  have q1 : q < 5732 := by omega
  clear u1 u2 p2
  generalize tab (i + 1) - tab i = d at *
  generalize tab i = x at *
  go_quiet ((go_at_call 47; refine Calls.quiet_of (cw _)))
  go_wp2
  go_ret2
  refine ⟨?_, _, rfl⟩
  show Ending.returned (.tuple #[.int .i64 ((63 - (s : Int) - 32) * 65536 + x + q), .bool true]) = _
  rw [FM.out]
  exact ret_two (by omega)

set_option maxHeartbeats 400000 in
theorem neg_zero (w : World) :
    Calls Tryd.prog 31 #[.int .u64 0] w fun e w' => e = .returned (.int .u64 18446744073709551615) ∧ w' = w := by
  go_enter Tryd.func31, Tryd.ntmps31
  go_wp2_with fail
  refine (log_zero _).mono ?_
  rintro e w' ⟨rfl, rfl⟩
  go_wp2_with fail
  go_ret
  exact ⟨rfl, rfl⟩

set_option maxHeartbeats 400000 in
theorem neg_any (a : Int) (w : World) (H : Steps w) (h0 : 0 < a) (h1 : a < 18446744073709551616) :
    Calls Tryd.prog 31 #[.int .u64 a] w fun e w' => e = .returned (.int .u64 (fneg a)) ∧ ∃ n, w' = w.drewN n := by
  have c := log_any a w H h0 h1
  have r := flog_room a h0 h1
  have E : Hid (fneg a = if 0 < flog a then 0 else -flog a * 65536) := rfl
  generalize flog a = l at *
  generalize fneg a = g at *
  by_cases hl : 0 < l
  · go_enter Tryd.func31, Tryd.ntmps31
    go_wp2_with fail
    refine c.mono ?_
    rintro e w' ⟨rfl, n, rfl⟩
    go_wp2_with fail
    go_ret
    exact ⟨ret_int (by rw [E.out, if_pos hl]), _, rfl⟩
  · go_enter Tryd.func31, Tryd.ntmps31
    go_wp2_with fail
    refine c.mono ?_
    rintro e w' ⟨rfl, n, rfl⟩
    go_wp2_with fail
    refine (ratio_any (-l) 65536 (by omega) (by decide) (by omega) (by decide) _).mono ?_
    rintro e w' ⟨rfl, m, rfl⟩
    go_wp2_with fail
    go_ret
    refine ⟨ret_int ?_, _, rfl⟩
    rw [E.out, if_neg (by omega)]
    unfold fratio
    rw [if_neg (by omega)]
    omega

theorem cells17 : (Tryd.prog.info? 72).map (·.size) = some 17 := by kernel_rfl

/-- seventeen noughts -/
def noughts : Array Value := #[.int .i64 0, .int .i64 0, .int .i64 0, .int .i64 0, .int .i64 0, .int .i64 0, .int .i64 0, .int .i64 0, .int .i64 0, .int .i64 0, .int .i64 0, .int .i64 0, .int .i64 0, .int .i64 0, .int .i64 0, .int .i64 0, .int .i64 0]

set_option maxHeartbeats 1000000 in
theorem refTable_any (w : World) :
    Calls Tryd.prog 37 #[] w fun e w' => e = .returned (.agg tabs) ∧ w' = w.alloc (.cells tabs 72) := by
  have h2 : (w.alloc (.cells noughts 72)).heap[w.heap.size]? = some (.cells noughts 72  (0, 0)) := heap_alloc_new w _
  go_enter Tryd.func37, Tryd.ntmps37
  go_wp2_with (refine wpList_store_row rfl 72 _ _ rfl w.heap.size tabs rfl rfl 72 noughts h2 cells17 rfl tabs_one ?_)
  rw [setRow_new]
  (try simp only [Exit.inBlock, Exit.then])
  refine bodyPost_ret (results_cell_row Tryd.results37 _ _ w.heap.size 72 tabs (0, 0) _ rfl (heap_alloc_new w _) Tryd.underlying72 rfl cells17) rfl ?_
  exact ⟨rfl, rfl⟩
end Go.Proofs.YtcjohgfmdnimjaaDoor

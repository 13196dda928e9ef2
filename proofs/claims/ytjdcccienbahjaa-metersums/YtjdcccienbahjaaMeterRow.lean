/-
  Rows of amounts in memory: cleared, moved down.
-/
import Derived.Test.YtjdcccienbahjaaExt
import Derived.Test.YtjdcccienbahjaaMeterMath
import Derived.Maps.AppendAt
import Derived.Deep.QuietTactic
import Derived.BigQuiet
import Derived.BigRegion
import Derived.Deep.MidRow
namespace Go.Proofs.Ytjdcccienbahjaa
set_option linter.unusedVariables false
open Go.RowKit

theorem info_amount : (Try.prog.info? 51).map (fun i => (i.zero, i.size, i.bytes)) = some (some (.agg #[.int .i64 0, .int .i64 0]), 2, 16) := by kernel_rfl

/-- amounts as they lie in cells -/
def cells2 : Ams → List Value
  | [] => []
  | p :: r => .int .i64 p.1 :: .int .i64 p.2 :: cells2 r

theorem cells2_length (l : Ams) : (cells2 l).length = l.length * 2 := by
  induction l with
  | nil => rfl
  | cons p r ih => simp only [cells2, List.length_cons, ih]; omega
theorem cells2_append (a b : Ams) : cells2 (a ++ b) = cells2 a ++ cells2 b := by
  induction a with
  | nil => rfl
  | cons p r ih => simp only [List.cons_append, cells2, ih]
theorem cells2_drop (l : Ams) : ∀ k, cells2 (l.drop k) = (cells2 l).drop (k * 2) := by
  induction l with
  | nil => intro k; simp [cells2]
  | cons p r ih =>
    intro k
    match k with
    | 0 => rfl
    | k + 1 => rw [show (k + 1) * 2 = k * 2 + 2 by omega]; simp only [List.drop_succ_cons, cells2, ih]
theorem cells2_one (l : Ams) : ∀ u ∈ cells2 l, u.oneCell' = true := by
  induction l with
  | nil => intro u hu; simp [cells2] at hu
  | cons p r ih =>
    intro u hu
    simp only [cells2, List.mem_cons] at hu
    rcases hu with rfl | rfl | hu
    · rfl
    · rfl
    · exact ih u hu
theorem cells2_tick (l : Ams) : ∀ k, k < l.length → (cells2 l)[k * 2]? = some (.int .i64 (l.getD k (0, 0)).1) := by
  induction l with
  | nil => intro k hk; simp at hk
  | cons p r ih =>
    intro k hk
    match k with
    | 0 => rfl
    | k + 1 =>
      have := ih k (by simpa using hk)
      rw [show (k + 1) * 2 = k * 2 + 2 by omega]
      simpa [cells2] using this
theorem cells2_n (l : Ams) : ∀ k, k < l.length → (cells2 l)[k * 2 + 1]? = some (.int .i64 (l.getD k (0, 0)).2) := by
  induction l with
  | nil => intro k hk; simp at hk
  | cons p r ih =>
    intro k hk
    match k with
    | 0 => rfl
    | k + 1 =>
      have := ih k (by simpa using hk)
      rw [show (k + 1) * 2 + 1 = k * 2 + 1 + 2 by omega]
      simpa [cells2] using this

/-- a slice's cells cleared, in a row that is the call's own -/
theorem run_clear_row (w : World) (g o m c : Nat) (cur : Array Value) (ty : TypeId) (hg : w.heap[g]? = some (.cells cur 51 (0, 0))) (hm : 0 < m) (hfit : o + m * 2 ≤ cur.size) :
    ∃ zs : List Value, zs.length = m * 2 ∧ (Builtin.clear_ #[47] ty #[.slice (some ⟨g, o, none⟩) m c]).run Try.prog w = .ok (.tuple #[]) (w.setRow g (cur.toList.take o ++ zs ++ cur.toList.drop (o + m * 2)).toArray) := by
  obtain ⟨i0, hi, hz0, hz1, hz2⟩ := info_parts info_amount
  have hlen : (Builtin.zeroCells #[.int .i64 0, .int .i64 0] m).toList.length = m * 2 := by rw [Array.length_toList, size_zeroCells]; rfl
  refine ⟨_, hlen, ?_⟩
  have hone : ∀ u ∈ (Builtin.zeroCells #[.int .i64 0, .int .i64 0] m).toList, u.oneCell' = true := by
    intro u hu
    simp only [Builtin.zeroCells, Array.toList_map, List.mem_map] at hu
    obtain ⟨j, _, rfl⟩ := hu
    have : j % (#[Value.int .i64 0, Value.int .i64 0] : Array Value).size < 2 := Nat.mod_lt _ (by decide)
    generalize j % (#[Value.int .i64 0, Value.int .i64 0] : Array Value).size = q at this
    match q, this with
    | 0, _ => rfl
    | 1, _ => rfl
  have hst := run_storeCells_at Try.prog g o 51 _ 0 cur w hg (by rw [hlen]; omega) hone
  simp only [Nat.add_zero, hlen] at hst
  obtain ⟨m', rfl⟩ : ∃ m', m = m' + 1 := ⟨m - 1, by omega⟩
  simp [Builtin.clear_, run_underlying Try.underlying47, zeroValue, typeInfo, hi, hz0, Value.cells, hst]

/-- the front of a row, moved down -/
theorem run_down (w : World) (g n cap old : Nat) (ad : Addr) (c : Nat) (cur : Array Value) (ty : TypeId) (xs : List Value) (hg : w.heap[g]? = some (.cells cur 51 (0, 0))) (hn : old ≤ n) (hc : n ≤ cap) (hs : cur.size = cap * 2)
    (hx : cur.toList.take (n * 2) = xs) (h1 : ∀ u ∈ xs, u.oneCell' = true) (had : old < n → ad = ⟨g, old * 2, none⟩) :
    (Builtin.append_ #[47, 47] ty #[.slice (some ⟨g, 0, none⟩) 0 cap, .slice (some ad) (n - old) c]).run Try.prog w =
      .ok (.slice (some ⟨g, 0, none⟩) (n - old) cap) (w.setRow g (xs.drop (old * 2) ++ cur.toList.drop ((n - old) * 2)).toArray) := by
  obtain ⟨i0, hi, hz0, hz1, hz2⟩ := info_parts info_amount
  have hxl : xs.length = n * 2 := by rw [← hx, List.length_take, Array.length_toList]; omega
  have := run_append_room (P := Try.prog) w 47 ty 51 i0 Try.underlying47 hi g 0 cap cur hg ad (n - old) c (xs.drop (old * 2)) (by rw [List.length_drop, hxl, hz1]; omega) ?_ (fun u hu => h1 u (List.mem_of_mem_drop hu)) (by omega) (by rw [List.length_drop, hxl]; omega)
  · rw [this]
    simp only [Nat.zero_add, Nat.zero_mul, List.take_zero, List.nil_append, List.length_drop, hxl]
    rw [show n * 2 - old * 2 = (n - old) * 2 by omega]
  · intro j u hu
    rw [List.getElem?_drop] at hu
    have hj : old * 2 + j < n * 2 := by have := (List.getElem?_eq_some_iff.1 hu).1; omega
    rw [had (by omega), Addr.add_mid, cell_of_row w g _ cur 51 (0, 0) hg]
    rw [← hx, List.getElem?_take, if_pos hj] at hu
    simpa using hu
end Go.Proofs.Ytjdcccienbahjaa

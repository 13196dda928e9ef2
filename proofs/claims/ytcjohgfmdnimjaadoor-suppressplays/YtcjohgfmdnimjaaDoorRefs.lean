/-
  Walks of the reference's Of and Add: they make the digits of a number, of a sum.
-/
import Derived.Test.YtcjohgfmdnimjaaDoorRowy
namespace Go.Proofs.YtcjohgfmdnimjaaDoor
set_option linter.unusedVariables false
open Go.RowKit

theorem info_int : (Tryd.prog.info? 3).map (fun i => (i.zero, i.size, i.bytes)) = some (some (.int .i64 0), 1, 8) := by kernel_rfl

/-- the ints as they lie in cells -/
def ints (l : List Int) : List Value := l.map (Value.int .i64)

theorem ints_snoc (l : List Int) (d : Int) : ints l ++ [.int .i64 d] = ints (l ++ [d]) := by simp [ints]
theorem ints_length (l : List Int) : (ints l).length = l.length := by simp [ints]

theorem owns_snoc {w : World} {base : Nat} {v : Value} {out : List Int} {d : Int} (h : w.ownsRow base 3 1 v (out.length + 1) (ints out ++ [.int .i64 d])) : w.ownsRow base 3 1 v (out ++ [d]).length (ints (out ++ [d])) := by
  rw [ints_snoc] at h
  simpa using h

/-- what is owned is a row -/
theorem isRow_of_owns {w : World} {base : Nat} {v : Value} {l : List Int} (h : w.ownsRow base 3 1 v l.length (ints l)) : IsRow w v l := by
  have hlt := h.lt
  obtain ⟨h1, h2⟩ := h
  rcases h2 with ⟨h2, h3⟩ | ⟨g, cap, cur, rfl, h3, h4, h5, h6, h7, h8⟩
  · exact .inl ⟨h2, List.length_eq_zero_iff.1 h3⟩
  · refine .inr ⟨g, 0, cap, rfl, h5, h6, (hlt g rfl).2, ?_⟩
    intro k hk
    have := World.ownsRow.cellAt (w := w) (base := base) (e := 3) (size := 1) (g := g) (n := l.length) (cap := cap) (xs := ints l) ⟨h1, .inr ⟨g, cap, cur, rfl, h3, h4, h5, h6, h7, h8⟩⟩ k (by omega)
    rw [Nat.zero_add, this]
    simp [ints, List.getD_eq_getElem?_getD, hk]

set_option maxHeartbeats 1000000 in
theorem refOf_any (N : Int) (w : World) (h0 : 0 ≤ N) (h1 : N < 18446744073709551616) :
    Calls Tryd.prog 39 #[.int .u64 N] w fun e w' => ∃ v, e = .returned v ∧ Below w.heap.size w w' ∧ Num w' v N 4 := by
  obtain ⟨i0, hi, hz0, hz1, hz2⟩ := info_parts info_int
  go_enter Tryd.func39, Tryd.ntmps39
  go_wp2
  go_loopw [0, 3] (fun n v wr => ∃ (m : Int) (out : List Int), n = .int .u64 m ∧ 0 ≤ m ∧ m < 18446744073709551616 ∧ wr.ownsRow w.heap.size 3 1 v out.length (ints out) ∧ Below w.heap.size w wr ∧ Hid (Dig.Telling N m out)) (fun n _ _ => (intOf n).toNat)
  case atStart => exact ⟨N, [], rfl, h0, h1, World.ownsRow_nil _ _ _ _, Below.refl _ _, Dig.telling_start N h0 h1⟩
  case round =>
    obtain ⟨m, out, rfl, hm0, hm1, hown, hbel, T⟩ := hrel
    by_cases t : 0 < m
    · obtain ⟨hl, T2⟩ := Dig.telling_step N m out T t
      have T2 := hid T2
      have hsz := hbel.size
      go_wp2_with (at_builtin; refine wpList_append_own _ rfl _ _ 74 rfl w.heap.size 3 i0 (.int .i64 0) 1 8 Tryd.underlying74 hi hz0 hz1 hz2 rfl (by decide) _ _ _ rfl (hown.alloc _) ⟨wr.heap.size, 0, none⟩ 1 1 [.int .i64 (m % 65536)] rfl rfl ?c1 ?c2 ?c3 ?c4 ?c5 ?_)
      case c1 => exact cell_one_new _ _ _
      case c2 => intro u hu; simp at hu; subst hu; rfl
      case c3 => unfold maxLen; omega
      case c4 => omega
      case c5 => simp; omega
      intro v' w1 hown' hgrow _
      have R1 := hid (owns_snoc hown')
      have R2 : Hid (Below w.heap.size w w1) := (hbel.alloc hsz _).grown hgrow (by simp; omega) (fun k hk => (hown.lt k hk).1)
      clear hown' hgrow hown hbel hsz
      go_wp2
      go_roundw
      case rel => exact ⟨m / 65536, _, rfl, by omega, by omega, R1, R2, T2⟩
      case measure => simp [intOf]; omega
    · have E := Dig.telling_end N m out T t
      have R := isRow_of_owns hown
      have hB := hid hbel
      clear hown hbel
      go_wp2
      go_ret
      exact ⟨_, rfl, hB, out, R, E⟩

end Go.Proofs.YtcjohgfmdnimjaaDoor

/-
  Walks of the reference's Up and Floor, and of the law's own 'of', out of the contracts of what they call.
-/
import Derived.Test.YtcjohgfmdnimjaaDoorRefMul
import Derived.Test.YtcjohgfmdnimjaaDoorAwake
import Derived.Test.YtcjohgfmdnimjaaDoorExt
namespace Go.Proofs.YtcjohgfmdnimjaaDoor
set_option linter.unusedVariables false
open Go.RowKit

theorem Num.ext {w w' : World} {v : Value} {x : Int} {n : Nat} (h : Num w v x n) (e : Ext w w') : Num w' v x n := h.below e
theorem Num.more {w : World} {v : Value} {x : Int} {n m : Nat} (h : Num w v x n) (e : n ≤ m) : Num w v x m := by
  obtain ⟨l, a, b, c, d⟩ := h
  exact ⟨l, a, b, c, by omega⟩

/-- a literal of digits -/
theorem num_lit (w : World) (l : List Int) (x : Int) (hc : Dig.Canon l) (hx : Dig.val l = x) (hl : l.length ≤ 1000) :
    Num (w.alloc (.cells (ints l).toArray 3)) (.slice (some ⟨w.heap.size, 0, none⟩) l.length l.length) x l.length := by
  refine ⟨l, ?_, hc, hx, Nat.le_refl _⟩
  have h := World.ownsRow_lit (base := w.heap.size) (e := 3) (size := 1) w (ints l).toArray l.length (Nat.le_refl _) (by unfold maxLen; omega) (by simp [ints])
  exact isRow_of_owns (by simpa using h)

theorem canon_32 : Dig.Canon [0, 0, 1] := by
  refine ⟨fun k hk => ?_, fun _ => by decide⟩
  match k, hk with
  | 0, _ => decide
  | 1, _ => decide
  | 2, _ => decide
theorem canon_1 : Dig.Canon [1] := by
  refine ⟨fun k hk => ?_, fun _ => by decide⟩
  match k, hk with
  | 0, _ => decide

set_option maxHeartbeats 400000 in
theorem refUp_any (va : Value) (x : Int) (n : Nat) (w : World) (ha : Num w va x n) (hn : n ≤ 1000) :
    Calls Tryd.prog 38 #[va] w fun e w' => ∃ v, e = .returned v ∧ Ext w w' ∧ Num w' v (x * 4294967296) (n + 4) := by
  have L := num_lit w [0, 0, 1] 4294967296 canon_32 (by decide) (by decide)
  have E : Ext w (w.alloc (.cells (ints [0, 0, 1]).toArray 3)) := (Ext.refl w).alloc _
  have c := refMul_any va _ x _ n _ _ (ha.ext E) L (by omega) (by decide)
  have C := hid c
  clear c L
  go_enter Tryd.func38, Tryd.ntmps38
  go_wp2_with fail
  refine C.out.mono ?_
  rintro e w' ⟨v, rfl, hb, hn⟩
  have HB : Ext w w' := E.trans hb
  clear hb
  go_wp2_with fail
  go_ret
  exact ⟨_, rfl, HB, hn⟩

theorem sgn_pos {x y : Int} (h : y < x) : sgn x y = 1 := by unfold sgn; rw [if_neg (by omega), if_pos h]
theorem sgn_le {x y : Int} (h : x ≤ y) : ¬ 0 < sgn x y := by unfold sgn; split <;> (try split) <;> omega
theorem sgn_zero {x y : Int} (h : x = y) : sgn x y = 0 := by unfold sgn; rw [if_neg (by omega), if_neg (by omega)]

theorem canon_zero {l : List Int} (h : Dig.Canon l) (h0 : Dig.val l = 0) : l.length = 0 := by
  rcases Nat.eq_zero_or_pos l.length with e | e
  · exact e
  · have := Dig.canon_ge h e
    have := Dig.pow_pos' (l.length - 1)
    omega

end Go.Proofs.YtcjohgfmdnimjaaDoor

/-
  The walk of CrcSums: any bytes have the sum that the document says, in however many parts they come.
-/
import Derived.Test.YtekkfoncbcibiaaAwake6
import Derived.Laws.AppendOwnNone
import Derived.OpenShut
namespace Go.Proofs.Ytekkfoncbcibiaa
set_option linter.unusedVariables false
open Go.RowKit Go.Lib

/-- a slice is nil, or has a place -/
def Plain (v : Value) : Prop := v = .slice none 0 0 ∨ ∃ a n c, v = .slice (some a) n c

theorem Ext.grown {w0 w w' : World} {row : Option Nat} (h : Ext w0 w) (hg : w.grownBy w' row) (hrow : ∀ k, row = some k → w0.heap.size ≤ k) : Ext w0 w' :=
  ⟨hg.os.trans h.os, hg.tape.trans h.tape, hg.output.trans h.output, Nat.le_trans h.size hg.size, fun i hi =>
    (hg.block i (Nat.lt_of_lt_of_le hi h.size) (fun e => by have := hrow i e.symm; omega)).trans (Below.block h i hi)⟩

theorem owns_bytes {w : World} {base n : Nat} {v : Value} {l : List UInt8} (h : w.ownsRow base 5 1 v n (bcells l)) : n = l.length ∧ Bytes w v l := by
  have hn : n = l.length := by have := h.1; rw [bcells_length] at this; omega
  subst hn
  refine ⟨rfl, ?_⟩
  rcases h.2 with ⟨rfl, h0⟩ | ⟨g, cap, cur, rfl, hb, hg, hnc, hcm, hcs, htake⟩
  · have e : l = [] := List.eq_nil_of_length_eq_zero h0
    subst e
    exact ⟨none, 0, rfl, Nat.le_refl _, Nat.zero_le _, fun k hk => by simp at hk⟩
  · refine ⟨_, cap, rfl, hnc, hcm, fun k hk => ⟨g, 0, rfl, (Array.getElem?_eq_some_iff.1 hg).1, ?_⟩⟩
    rw [Nat.zero_add, cell_of_row w g k _ _ _ hg]
    have := bcells_at l k hk
    rw [← htake, List.getElem?_take_of_lt (by omega)] at this
    simpa using this

theorem run_append_bytes (w : World) (base : Nat) (v : Value) (xs : List UInt8) (hown : w.ownsRow base 5 1 v xs.length (bcells xs)) (u : Value) (l : List UInt8) (hu : Bytes w u l) (hp : Plain u) (hl : xs.length + l.length ≤ 200000) (hb : base ≤ w.heap.size) :
    ∃ v' w', (Builtin.append_ #[22, 22] 22 #[v, u]).run Try.prog w = .ok v' w' ∧ w'.ownsRow base 5 1 v' (xs ++ l).length (bcells (xs ++ l)) ∧ w.grownBy w' v.ownBlock := by
  obtain ⟨i0, hi, hz0, hz1, hz2⟩ := info_parts info_byte
  rcases hp with rfl | ⟨a, n, c, rfl⟩
  · obtain ⟨e1, _⟩ := hu.src
    have e : l = [] := List.eq_nil_of_length_eq_zero e1.symm
    subst e
    rw [List.append_nil]
    exact ⟨v, w, run_append_owned_none (P := Try.prog) (w := w) base 22 22 5 i0 1 Try.underlying22 hi v xs.length (bcells xs) hown, hown, ⟨rfl, rfl, rfl, Nat.le_refl _, fun _ _ _ => rfl⟩⟩
  · obtain ⟨rfl, e2⟩ := hu.src
    obtain ⟨v', w', h1, h2, h3, _⟩ := run_append_own (P := Try.prog) w base 22 22 5 i0 (.int .u8 0) 1 1 Try.underlying22 hi hz0 hz1 hz2 rfl (by decide) v xs.length (bcells xs) hown a l.length c (bcells l) (by rw [bcells_length]; omega) (fun j x hx => by
      obtain ⟨ad, ha, h⟩ := e2 (Nat.lt_of_le_of_lt (Nat.zero_le j) (List.getElem?_eq_some_iff.1 hx).1)
      cases ha
      exact h j x hx) (bcells_one l) (by unfold maxLen; omega) (by omega) hb
    refine ⟨v', w', h1, ?_, h3⟩
    rw [List.length_append, bcells_append]
    exact h2

/-- an append whose run is known -/
theorem wpList_append_run {P : Program} {ops : Array Oper} {rest : List Oper} {o : Oper} {a : Act} {w : World} {Q : Exit → Act → World → Prop} (hg : o.guard = none) (s x : Operand) (t : TypeId)
    (hop : o.op = Op.call { callee := Callee.builtin Builtin.append, args := #[s, x], argTypes := #[t, t] }) (u v r : Value) (w' : World) (hs : a.eval s = u) (hx : a.eval x = v)
    (hrun : (Builtin.append_ #[t, t] o.type #[u, v]).run P w = .ok r w') (h : wpList P ops Q rest (a.put o.dst r) w') : wpList P ops Q (o :: rest) a w := by
  refine wpList_plain hg fun K hK => ?_
  unfold Oper.wp
  simp [execOp, hop, resolve, invoke, builtin, hs, hx, hrun, Result.andThen]
  exact hK _ _ h

namespace crcSums
set_option maxHeartbeats 4000000 in
theorem walk (v0 v1 : Value) (a b : List UInt8) (w : World) (ha : Bytes w v0 a) (hb : Bytes w v1 b) (pa : Plain v0) (pb : Plain v1) :
    Calls Try.prog 3 #[v0, v1] w fun e w' => e = .returned (.bool true) ∧ Ext w w' := by
  have HA := hid ha
  have HB := hid hb
  obtain ⟨ao, ca, rfl, qa1, qa2, _⟩ := ha
  obtain ⟨bo, cb, rfl, qb1, qb2, _⟩ := hb
  have PA := hid pa
  have PB := hid pb
  clear pa pb
  unfold maxLen at qa2 qb2
  by_cases t1 : 1000 < a.length
  · have t1' : (1000 : Int) < (a.length : Int) := by omega
    go_enter Try.func3, Try.ntmps3
    go_wp2_with fail
    refine (awake6_any _).mono ?_
    rintro e w' ⟨rfl, X⟩
    go_wp2_with fail
    go_ret
    exact ⟨rfl, X⟩
  · have t1' : decide ((1000 : Int) < (a.length : Int)) = false := by simp; omega
    by_cases t2 : 1000 < b.length
    · have t2' : (1000 : Int) < (b.length : Int) := by omega
      clear t1
      go_enter Try.func3, Try.ntmps3
      go_wp2_with fail
      refine (awake6_any _).mono ?_
      rintro e w' ⟨rfl, X⟩
      go_wp2_with fail
      go_ret
      exact ⟨rfl, X⟩
    · have t2' : decide ((1000 : Int) < (b.length : Int)) = false := by simp; omega
      have X1 : Hid (Ext w (w.alloc (.cells #[] 5))) := (Ext.refl w).alloc _
      have O1 : (w.alloc (.cells #[] 5)).ownsRow w.heap.size 5 1 (.slice (some ⟨w.heap.size, 0, none⟩) 0 0) 0 (bcells []) :=
        World.ownsRow_made w #[] 0 (Nat.le_refl _) (Nat.zero_le _) rfl
      obtain ⟨v2, w2, r2, o2, g2⟩ := run_append_bytes _ w.heap.size _ [] O1 (.slice ao a.length ca) a (HA.out.ext X1.out) PA.out (by simp; omega) (by simp)
      have X2 : Hid (Ext w w2) := X1.out.grown g2 (by intro k hk; cases hk; exact Nat.le_refl _)
      obtain ⟨v3, w3, r3, o3, g3⟩ := run_append_bytes w2 w.heap.size v2 _ o2 (.slice bo b.length cb) b (HB.out.ext X2.out) PB.out (by simp; omega) X2.out.size
      have X3 : Hid (Ext w w3) := X2.out.grown g3 (fun k hk => (o2.lt k hk).1)
      have B3 := hid (owns_bytes o3).2
      rw [List.nil_append] at B3
      have MC := hid (cmore_csum a b)
      have R2 := hid r2
      have R3 := hid r3
      clear o2 g2 o3 g3 t1 t2 O1 r2 r3
      go_enter Try.func3, Try.ntmps3
      go_wp2_with (at_builtin; first | refine wpList_append_run rfl _ _ 22 rfl _ _ _ _ rfl rfl R2.out ?_ | refine wpList_append_run rfl _ _ 22 rfl _ _ _ _ rfl rfl R3.out ?_)
      refine (sum_any v3 (a ++ b) w3 B3.out).mono ?_
      rintro e w4 ⟨rfl, rfl⟩
      go_wp2_with fail
      refine (refSum_any v3 (a ++ b) w4 B3.out).mono ?_
      rintro e w5 ⟨rfl, n, rfl⟩
      go_wp2_with fail
      refine (sum_any _ a _ ((HA.out.ext X3.out).drewN n)).mono ?_
      rintro e w6 ⟨rfl, rfl⟩
      go_wp2_with fail
      refine (more_any (csum a) _ b _ (csum_room a) ((HB.out.ext X3.out).drewN n)).mono ?_
      rintro e w7 ⟨rfl, rfl⟩
      rw [MC.out]
      go_wp2_with fail
      refine (sum_any v3 (a ++ b) _ (B3.out.drewN n)).mono ?_
      rintro e w8 ⟨rfl, rfl⟩
      go_wp2_with fail
      refine (awake6_any _).mono ?_
      rintro e w9 ⟨rfl, X9⟩
      have Y := hid ((X3.out.drewN n).trans X9)
      clear X9
      go_wp2_with fail
      go_ret
      exact ⟨rfl, Y.out⟩
end crcSums
end Go.Proofs.Ytekkfoncbcibiaa

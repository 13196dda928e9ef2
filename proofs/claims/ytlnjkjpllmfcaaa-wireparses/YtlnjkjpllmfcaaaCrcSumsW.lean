/-
  The walk of CrcSums: any bytes have the sum that the document says, in however many parts they come.
-/
import Derived.Test.YtlnjkjpllmfcaaaAwake6
import Derived.Laws.AppendOwnNone
import Derived.OpenShut
namespace Go.Proofs.Ytlnjkjpllmfcaaa
set_option linter.unusedVariables false
open Go.RowKit Go.Lib

/-- a slice is nil, or has a place -/
def Plain (v : Value) : Prop := v = .slice none 0 0 ∨ ∃ a n c, v = .slice (some a) n c

theorem Ext.grown {w0 w w' : World} {row : Option Nat} (h : Ext w0 w) (hg : w.grownBy w' row) (hrow : ∀ k, row = some k → w0.heap.size ≤ k) : Ext w0 w' :=
  ⟨hg.os.trans h.os, hg.tape.trans h.tape, hg.output.trans h.output, Nat.le_trans h.size hg.size, fun i hi =>
    (hg.block i (Nat.lt_of_lt_of_le hi h.size) (fun e => by have := hrow i e.symm; omega)).trans (Below.block h i hi)⟩

theorem owns_bytes {w : World} {base n : Nat} {v : Value} {l : List UInt8} (h : w.ownsRow base 5 1 v n (bcells l)) : n = l.length ∧ Bytes w v l := by
  have hn : n = l.length := by have := h.1; rw [bcells_length] at this; omega
  subst hn
  refine ⟨rfl, ?_⟩
  rcases h.2 with ⟨rfl, h0⟩ | ⟨g, cap, cur, rfl, hb, hg, hnc, hcm, hcs, htake⟩
  · have e : l = [] := List.eq_nil_of_length_eq_zero h0
    subst e
    exact ⟨none, 0, rfl, Nat.le_refl _, Nat.zero_le _, fun k hk => by simp at hk⟩
  · refine ⟨_, cap, rfl, hnc, hcm, fun k hk => ⟨g, 0, rfl, (Array.getElem?_eq_some_iff.1 hg).1, ?_⟩⟩
    rw [Nat.zero_add, cell_of_row w g k _ _ _ hg]
    have := bcells_at l k hk
    rw [← htake, List.getElem?_take_of_lt (by omega)] at this
    simpa using this

theorem run_append_bytes (w : World) (base : Nat) (v : Value) (xs : List UInt8) (hown : w.ownsRow base 5 1 v xs.length (bcells xs)) (u : Value) (l : List UInt8) (hu : Bytes w u l) (hp : Plain u) (hl : xs.length + l.length ≤ 200000) (hb : base ≤ w.heap.size) :
    ∃ v' w', (Builtin.append_ #[27, 27] 27 #[v, u]).run Try.prog w = .ok v' w' ∧ w'.ownsRow base 5 1 v' (xs ++ l).length (bcells (xs ++ l)) ∧ w.grownBy w' v.ownBlock := by
  obtain ⟨i0, hi, hz0, hz1, hz2⟩ := info_parts info_byte
  rcases hp with rfl | ⟨a, n, c, rfl⟩
  · obtain ⟨e1, _⟩ := hu.src
    have e : l = [] := List.eq_nil_of_length_eq_zero e1.symm
    subst e
    rw [List.append_nil]
    exact ⟨v, w, run_append_owned_none (P := Try.prog) (w := w) base 27 27 5 i0 1 Try.underlying27 hi v xs.length (bcells xs) hown, hown, ⟨rfl, rfl, rfl, Nat.le_refl _, fun _ _ _ => rfl⟩⟩
  · obtain ⟨rfl, e2⟩ := hu.src
    obtain ⟨v', w', h1, h2, h3, _⟩ := run_append_own (P := Try.prog) w base 27 27 5 i0 (.int .u8 0) 1 1 Try.underlying27 hi hz0 hz1 hz2 rfl (by decide) v xs.length (bcells xs) hown a l.length c (bcells l) (by rw [bcells_length]; omega) (fun j x hx => by
      obtain ⟨ad, ha, h⟩ := e2 (Nat.lt_of_le_of_lt (Nat.zero_le j) (List.getElem?_eq_some_iff.1 hx).1)
      cases ha
      exact h j x hx) (bcells_one l) (by unfold maxLen; omega) (by omega) hb
    refine ⟨v', w', h1, ?_, h3⟩
    rw [List.length_append, bcells_append]
    exact h2

/-- an append whose run is known -/
theorem wpList_append_run {P : Program} {ops : Array Oper} {rest : List Oper} {o : Oper} {a : Act} {w : World} {Q : Exit → Act → World → Prop} (hg : o.guard = none) (s x : Operand) (t : TypeId)
    (hop : o.op = Op.call { callee := Callee.builtin Builtin.append, args := #[s, x], argTypes := #[t, t] }) (u v r : Value) (w' : World) (hs : a.eval s = u) (hx : a.eval x = v)
    (hrun : (Builtin.append_ #[t, t] o.type #[u, v]).run P w = .ok r w') (h : wpList P ops Q rest (a.put o.dst r) w') : wpList P ops Q (o :: rest) a w := by
  refine wpList_plain hg fun K hK => ?_
  unfold Oper.wp
  simp [execOp, hop, resolve, invoke, builtin, hs, hx, hrun, Result.andThen]
  exact hK _ _ h

end Go.Proofs.Ytlnjkjpllmfcaaa

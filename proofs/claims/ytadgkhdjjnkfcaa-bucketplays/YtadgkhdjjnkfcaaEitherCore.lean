/-
  Two operations that make memory, either of which may come up; an append, a store as a region's operation. (Needs EverMore.)
-/
import Derived.Test.YtadgkhdjjnkfcaaEverMore
namespace Go.Proofs.Ytadgkhdjjnkfcaa
set_option linter.unusedVariables false
open Go.RowKit

/-- two operations that make memory, either of which may come up; both runs known -/
theorem eitherE {P : Program} {md : Region.Mode} {ops : Array Oper} {Q : Exit → Act → World → Prop} {S : World → Prop} (i d j d' : Nat) {oi oj : Oper} {v u : Value} {fuel : Nat} {listed : Array Bool} {a : Act} {w wi wj : World} (hi : ops[i]? = some oi) (hd : oi.dst = some d) (hj : ops[j]? = some oj) (hd' : oj.dst = some d')
    (hr : Region.ready md ops listed = [i, j]) (hw : Region.wanted oi (yielded ops a.tmps) = true) (hw' : Region.wanted oj (yielded ops a.tmps) = true)
    (he : (execOp a.eval oi).run P w = .ok (.value v) wi) (he' : (execOp a.eval oj).run P w = .ok (.value u) wj) (hS : S wi) (hS' : S wj)
    (h : wpAnyH P md ops Q S fuel (listed.setIfInBounds i true) (a.put (some d) v) wi)
    (h' : wpAnyH P md ops Q S fuel (listed.setIfInBounds j true) (a.put (some d') u) wj) : wpAnyH P md ops Q S (fuel + 1) listed a w := by
  refine wpAnyH_all hr (by simp) (fun q hq => ?_)
  rcases (show q = i ∨ q = j by simpa using hq) with rfl | rfl
  · unfold wpOp
    simp only [hi, hw, if_true, Oper.wp, he, Oper.upon]
    left
    rw [hd]
    exact ⟨hS, h⟩
  · unfold wpOp
    simp only [hj, hw', if_true, Oper.wp, he', Oper.upon]
    left
    rw [hd']
    exact ⟨hS', h'⟩

/-- an append whose run is known -/
theorem exec_append {P : Program} {o : Oper} {a : Act} {w : World} (s x : Operand) (t : TypeId)
    (hop : o.op = Op.call { callee := Callee.builtin Builtin.append, args := #[s, x], argTypes := #[t, t] }) (u v r : Value) (w' : World) (hs : a.eval s = u) (hx : a.eval x = v)
    (hrun : (Builtin.append_ #[t, t] o.type #[u, v]).run P w = .ok r w') : (execOp a.eval o).run P w = .ok (.value r) w' := by
  simp [execOp, hop, resolve, invoke, builtin, hs, hx, hrun, Result.andThen]

/-- a store whose run is known, as a region's operation -/
theorem exec_store {P : Program} {o : Oper} {ev : Operand → Value} {w w' : World} (ty : TypeId) (x y : Operand) (ho : o.op = .store ty x y) (h : (Instr.storeAt ty (ev x) (ev y)).run P w = .ok () w') : (execOp ev o).run P w = .ok .skip w' := by
  unfold execOp
  simp only [ho, Sem.run_bind, h, Result.andThen_ok, Sem.run_pure]

/-- a store that alone may come up, more behind it -/
theorem storeN {P : Program} {md : Region.Mode} {ops : Array Oper} {Q : Exit → Act → World → Prop} {S : World → Prop} (i : Nat) {oi : Oper} {fuel : Nat} {listed : Array Bool} {a : Act} {w w' : World} (hi : ops[i]? = some oi) (hd : oi.dst = none)
    (hr : Region.ready md ops listed = [i]) (hw : Region.wanted oi (yielded ops a.tmps) = true) (he : (execOp a.eval oi).run P w = .ok .skip w') (hS : S w')
    (h : wpAnyH P md ops Q S fuel (listed.setIfInBounds i true) a w') : wpAnyH P md ops Q S (fuel + 1) listed a w :=
  storeE i hi hr hw he hS (by rw [hd]; exact h)
end Go.Proofs.Ytadgkhdjjnkfcaa

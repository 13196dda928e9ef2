/-
  Regions taken by hand, more: two calls of which either may come first; an operation alone, its run known. (Needs EverCore.)
-/
import Derived.Test.YtadgkhdjjnkfcaaEverCore
namespace Go.Proofs.Ytadgkhdjjnkfcaa
set_option linter.unusedVariables false
open Go.RowKit

/-- two calls, either of which may come up -/
theorem callE2 {P : Program} {md : Region.Mode} {ops : Array Oper} {Q : Exit → Act → World → Prop} {S : World → Prop} (i d j d' : Nat) {oi oj : Oper} {f g : FuncId} {args args' : Array Value} {fuel : Nat} {listed : Array Bool} {a : Act} {w : World}
    (hi : ops[i]? = some oi) (hd : oi.dst = some d) (hj : ops[j]? = some oj) (hd' : oj.dst = some d')
    (hr : Region.ready md ops listed = [i, j]) (hw : Region.wanted oi (yielded ops a.tmps) = true) (hw' : Region.wanted oj (yielded ops a.tmps) = true) (he : (execOp a.eval oi).run P w = .ok (.enter f args) w) (he' : (execOp a.eval oj).run P w = .ok (.enter g args') w)
    (hc : Calls P f args w (fun e w' => ∃ v, e = .returned v ∧ S w' ∧ wpAnyH P md ops Q S fuel (listed.setIfInBounds i true) (a.put (some d) v) w'))
    (hc' : Calls P g args' w (fun e w' => ∃ v, e = .returned v ∧ S w' ∧ wpAnyH P md ops Q S fuel (listed.setIfInBounds j true) (a.put (some d') v) w')) : wpAnyH P md ops Q S (fuel + 1) listed a w := by
  refine wpAnyH_all hr (by simp) (fun q hq => ?_)
  rcases (show q = i ∨ q = j by simpa using hq) with rfl | rfl
  · unfold wpOp
    simp only [hi, hw, if_true, Oper.wp, he, Oper.upon]
    left
    refine hc.mono ?_
    rintro e w' ⟨v, rfl, h1, h2⟩
    simp only [hd]
    exact ⟨h1, h2⟩
  · unfold wpOp
    simp only [hj, hw', if_true, Oper.wp, he', Oper.upon]
    left
    refine hc'.mono ?_
    rintro e w' ⟨v, rfl, h1, h2⟩
    simp only [hd']
    exact ⟨h1, h2⟩

/-- an operation that alone may come up, its run known -/
theorem knownE {P : Program} {md : Region.Mode} {ops : Array Oper} {Q : Exit → Act → World → Prop} {S : World → Prop} (i d : Nat) {oi : Oper} {v : Value} {fuel : Nat} {listed : Array Bool} {a : Act} {w w' : World} (hi : ops[i]? = some oi) (hd : oi.dst = some d)
    (hr : Region.ready md ops listed = [i]) (hw : Region.wanted oi (yielded ops a.tmps) = true) (he : (execOp a.eval oi).run P w = .ok (.value v) w') (hS : S w')
    (h : wpAnyH P md ops Q S fuel (listed.setIfInBounds i true) (a.put (some d) v) w') : wpAnyH P md ops Q S (fuel + 1) listed a w := by
  refine wpAnyH_all hr (by simp) (fun q hq => ?_)
  obtain rfl : q = i := by simpa using hq
  unfold wpOp
  simp only [hi, hw, if_true, Oper.wp, he, Oper.upon]
  left
  rw [hd]
  exact ⟨hS, h⟩

/-- a read and another operation, either of which may come up; both runs known -/
theorem bothE {P : Program} {md : Region.Mode} {ops : Array Oper} {Q : Exit → Act → World → Prop} {S : World → Prop} (i d j d' : Nat) {oi oj : Oper} {v u : Value} {fuel : Nat} {listed : Array Bool} {a : Act} {w w' : World} (hi : ops[i]? = some oi) (hd : oi.dst = some d) (hj : ops[j]? = some oj) (hd' : oj.dst = some d')
    (hr : Region.ready md ops listed = [i, j]) (hri : Region.ready md ops (listed.setIfInBounds i true) = [j]) (hrj : Region.ready md ops (listed.setIfInBounds j true) = [i])
    (hw : Region.wanted oi (yielded ops a.tmps) = true) (hw' : Region.wanted oj (yielded ops a.tmps) = true) (hw2 : Region.wanted oj (yielded ops (a.put (some d) v).tmps) = true) (hw3 : Region.wanted oi (yielded ops (a.put (some d') u).tmps) = true)
    (he : (execOp a.eval oi).run P w = .ok (.value v) w) (he' : (execOp a.eval oj).run P w = .ok (.value u) w')
    (he2 : (execOp (a.put (some d) v).eval oj).run P w = .ok (.value u) w') (he3 : (execOp (a.put (some d') u).eval oi).run P w' = .ok (.value v) w')
    (hS : S w) (hS' : S w')
    (h : wpAnyH P md ops Q S fuel ((listed.setIfInBounds i true).setIfInBounds j true) ((a.put (some d) v).put (some d') u) w')
    (h' : wpAnyH P md ops Q S fuel ((listed.setIfInBounds j true).setIfInBounds i true) ((a.put (some d') u).put (some d) v) w') : wpAnyH P md ops Q S (fuel + 1 + 1) listed a w := by
  refine wpAnyH_all hr (by simp) (fun q hq => ?_)
  rcases (show q = i ∨ q = j by simpa using hq) with rfl | rfl
  · unfold wpOp
    simp only [hi, hw, if_true, Oper.wp, he, Oper.upon]
    left
    rw [hd]
    exact ⟨hS, knownE j d' hj hd' hri hw2 he2 hS' h⟩
  · unfold wpOp
    simp only [hj, hw', if_true, Oper.wp, he', Oper.upon]
    left
    rw [hd']
    exact ⟨hS', knownE i d hi hd hrj hw3 he3 hS' h'⟩

/-- a store that alone may come up -/
theorem storeE {P : Program} {md : Region.Mode} {ops : Array Oper} {Q : Exit → Act → World → Prop} {S : World → Prop} (i : Nat) {oi : Oper} {fuel : Nat} {listed : Array Bool} {a : Act} {w w' : World} (hi : ops[i]? = some oi)
    (hr : Region.ready md ops listed = [i]) (hw : Region.wanted oi (yielded ops a.tmps) = true) (he : (execOp a.eval oi).run P w = .ok .skip w') (hS : S w')
    (h : wpAnyH P md ops Q S fuel (listed.setIfInBounds i true) (a.put oi.dst undef) w') : wpAnyH P md ops Q S (fuel + 1) listed a w := by
  refine wpAnyH_all hr (by simp) (fun j hj => ?_)
  obtain rfl : j = i := by simpa using hj
  unfold wpOp
  simp only [hi, hw, if_true, Oper.wp, he, Oper.upon]
  left
  exact ⟨hS, h⟩
end Go.Proofs.Ytadgkhdjjnkfcaa

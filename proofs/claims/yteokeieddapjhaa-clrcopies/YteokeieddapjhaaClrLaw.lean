/-
  A book and the reference's state's box, side by side. (Printed by wip/gen/clrlaws.py.)
-/
import Derived.Test.YteokeieddapjhaaClrStep
import Derived.Test.YteokeieddapjhaaClrSame
namespace Go.Proofs.Yteokeieddapjhaa.Clr
set_option linter.unusedVariables false
set_option maxRecDepth 100000
open Go.RowKit Go.Lib

theorem built_new : Try.prog.built 33 [(1, .int .i64 (-1))] = some (dc (List.replicate 64 none) (-1)) := by kernel_rfl
/-- a value built of parts: what it is -/
theorem wpList_build_is {P : Program} {ops : Array Oper} {rest : List Oper} {o : Oper} {a : Act} {w : World} {Q : Exit → Act → World → Prop} (hg : o.guard = none) (t : TypeId) (parts : Array (Nat × Operand)) (ho : o.op = .build t parts) (cs : Array Value)
    (hf : P.built t (parts.map fun (i, x) => (i, a.eval x)).toList = some cs) (h : wpList P ops Q rest (a.put o.dst (.agg cs)) w) : wpList P ops Q (o :: rest) a w := by
  refine wpList_build hg t parts ho (by rw [hf]; rfl) ?_
  rw [hf]
  exact h
theorem dcs_size {s : BS} (h : FitB s) : (dcs s).size = 193 := dc_size _ _ h.1
theorem dcs_one (s : BS) : (dcs s).all (·.oneCell') = true := dc_one _ _
theorem dcs_new : dc (List.replicate 64 none) (-1) = dcs bnew := by
  unfold dcs
  rw [show clr bnew = -1 by decide +kernel]
  rfl

/-- a book at b; a state's box at bx -/
def One (w V : World) (b bx : Nat) (lim : Int) (s : BS) : Prop := Bk (fun i => i < w.heap.size ∨ i = bx) V b lim s ∧ V.heap[bx]? = some (.cells (dcs s) 33 (0, 0)) ∧ Ext w V ∧ w.heap.size ≤ bx
theorem One.ext {w V V' : World} {b bx : Nat} {lim : Int} {s : BS} (h : One w V b bx lim s) (e : Ext V V') : One w V' b bx lim s := ⟨h.1.ext e, e.row h.2.1, h.2.2.1.trans e, h.2.2.2⟩
theorem One.new {w V V1 V2 : World} {b bx : Nat} {lim : Int} {s : BS} (x : Ext w V) (h : Fresh V V1 b lim s) (y : Ext V1 V2) (hx : V1.heap.size ≤ bx) (r : V2.heap[bx]? = some (.cells (dcs s) 33 (0, 0))) : One w V2 b bx lim s := by
  have l1 := x.size
  have l2 := h.2.size
  exact ⟨(h.1 (fun i => i < w.heap.size) (fun i hi => Nat.lt_of_lt_of_le hi l1)).more y (fun i hi => hi.imp id (fun e => by subst e; exact ⟨hx, lt_of_row r⟩)), r, (x.trans h.2).trans y, by omega⟩
theorem One.step {w V : World} {b bx : Nat} {lim : Int} {s : BS} (h : One w V b bx lim s) (o : OpS) (now : Int) (n0 : 0 ≤ now) (n1 : now ≤ 1000000) :
    Calls Try.prog 10 #[.pointer (some ⟨b, 0, none⟩), .agg (dcs s), .int .i64 lim, .int .i64 now, .agg (ocs o)] V fun e w' => e = .returned (.tuple #[.agg (dcs (bst s lim now o)), .bool true]) ∧ w'.heap[bx]? = some (.cells (dcs s) 33 (0, 0)) ∧ One w (w'.setRow bx (dcs (bst s lim now o))) b bx lim (bst s lim now o) := by
  refine (step_any h.1 o now n0 n1).mono ?_
  rintro e w' ⟨rfl, t, k⟩
  have r := k.row (g := bx) (.inr rfl) h.2.1
  have k2 : Kept (fun i => i ≠ bx) w' (w'.setRow bx (dcs (bst s lim now o))) := (Kept.refl _ w').setRow (fun hne => hne rfl) _
  have hl := h.2.2.2
  refine ⟨rfl, r, t.kept (k2.mono (fun i hi e => hi (.inr e))), setRow_heap _ _ _ _ _ _ r, ?_, hl⟩
  exact Below.trans h.2.2.1 (((k.mono (fun i (hi : i < w.heap.size) => .inl hi)).trans (k2.mono (fun i (hi : i < w.heap.size) => by omega))).below h.2.2.1.size (fun i hi => hi))
end Go.Proofs.Yteokeieddapjhaa.Clr

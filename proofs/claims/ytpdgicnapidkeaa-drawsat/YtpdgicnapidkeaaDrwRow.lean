/-
  Rows of numbers of 32 bits in memory; what is appended to a row made new. (Needs KeptCore, DrwMath.)
-/
import Derived.Test.YtpdgicnapidkeaaKeptCore
import Derived.Test.YtpdgicnapidkeaaDrwMath
import Derived.OwnWalk
import Derived.Laws.AppendOwnNone
import Derived.OpenShut
namespace Go.Proofs.Ytpdgicnapidkeaa
set_option linter.unusedVariables false
open Go.RowKit Go.Lib

theorem hid {p : Prop} (h : p) : Hid p := h
theorem ret_int {k : IntKind} {a b : Int} (h : a = b) : Ending.returned (.int k a) = .returned (.int k b) := by rw [h]
theorem info_u32 : (Try.prog.info? 27).map (fun i => (i.zero, i.size, i.bytes)) = some (some (.int .u32 0), 1, 4) := by kernel_rfl

/-- numbers of 32 bits as they lie in cells -/
def ucells (l : List Int) : List Value := l.map (Value.int .u32)
theorem ucells_length (l : List Int) : (ucells l).length = l.length := by unfold ucells; simp
theorem ucells_append (l m : List Int) : ucells (l ++ m) = ucells l ++ ucells m := by unfold ucells; simp
theorem ucells_at (l : List Int) (k : Nat) (h : k < l.length) : (ucells l)[k]? = some (.int .u32 (l.getD k 0)) := by
  unfold ucells
  rw [List.getElem?_map, List.getD_eq_getElem?_getD, List.getElem?_eq_getElem h]
  rfl
theorem ucells_one (l : List Int) : ∀ u ∈ ucells l, u.oneCell' = true := by
  intro u h
  unfold ucells at h
  rw [List.mem_map] at h
  obtain ⟨x, _, rfl⟩ := h
  rfl

/-- a slice is nil, or has a place -/
def Plain (v : Value) : Prop := v = .slice none 0 0 ∨ ∃ a n c, v = .slice (some a) n c
/-- v is a slice of the numbers l, in memory made since w0 -/
def NewU (w0 w : World) (v : Value) (l : List Int) : Prop := w.ownsRow w0.heap.size 27 1 v l.length (ucells l) ∧ Ext w0 w
theorem NewU.plain {w0 w : World} {v : Value} {l : List Int} (h : NewU w0 w v l) : Plain v := by
  rcases h.1.2 with ⟨rfl, _⟩ | ⟨g, cap, cur, rfl, _⟩
  · exact .inl rfl
  · exact .inr ⟨_, _, _, rfl⟩
theorem NewU.row {w0 w : World} {v : Value} {l : List Int} (h : NewU w0 w v l) : RowK (fun i => w0.heap.size ≤ i ∧ i < w.heap.size) w v 1 (ucells l) := by
  rcases h.1.2 with ⟨rfl, h0⟩ | ⟨g, cap, cur, rfl, hb, hg, hnc, hcm, hcs, htake⟩
  · have e : l = [] := List.eq_nil_of_length_eq_zero h0
    subst e
    exact RowK.nil _ _ _
  · refine ⟨_, l.length, cap, rfl, by rw [ucells_length, Nat.mul_one], hnc, hcm, fun h0 => ⟨g, 0, rfl, ⟨hb, lt_of_row hg⟩, fun j u hu => ?_⟩⟩
    rw [Nat.zero_add, cell_of_row w g j _ _ _ hg]
    have hj := (List.getElem?_eq_some_iff.1 hu).1
    rw [ucells_length] at hj
    rw [← htake, List.getElem?_take_of_lt (by omega)] at hu
    simpa using hu
theorem NewU.nil (w : World) : NewU w w (.slice none 0 0) [] := ⟨World.ownsRow_nil _ _ _ _, Ext.refl w⟩
theorem NewU.made (w : World) : NewU w (w.alloc (.cells #[] 27)) (.slice (some ⟨w.heap.size, 0, none⟩) 0 0) [] :=
  ⟨World.ownsRow_made w #[] 0 (Nat.le_refl _) (Nat.zero_le _) rfl, (Ext.refl w).alloc _⟩
theorem NewU.from {a w0 w : World} {v : Value} {l : List Int} (h : NewU w0 w v l) (e : Ext a w0) : NewU a w v l := by
  refine ⟨⟨h.1.1, ?_⟩, e.trans h.2⟩
  rcases h.1.2 with h0 | ⟨g, cap, cur, h1, hb, r⟩
  · exact .inl h0
  · exact .inr ⟨g, cap, cur, h1, Nat.le_trans e.size hb, r⟩

theorem row_src {K : Nat → Prop} {w : World} {a : Addr} {n c : Nat} {l : List Int} (h : RowK K w (.slice (some a) n c) 1 (ucells l)) : n = l.length ∧ ∀ j u, (ucells l)[j]? = some u → w.cell? (a.add j) = some u := by
  obtain ⟨ao, n', c', e, h1, h2, h3, h4⟩ := h
  simp only [Value.slice.injEq] at e
  obtain ⟨rfl, rfl, rfl⟩ := e
  rw [ucells_length] at h1
  refine ⟨by omega, fun j u hu => ?_⟩
  have hj := (List.getElem?_eq_some_iff.1 hu).1
  rw [ucells_length] at hj
  obtain ⟨g, o, ea, _, hc⟩ := h4 (by omega)
  simp only [Option.some.injEq] at ea
  subst ea
  have := hc j u hu
  have e : (⟨g, o, none⟩ : Addr).add j = ⟨g, o + j, none⟩ := by
    unfold Addr.add
    by_cases h0 : j = 0
    · subst h0; rfl
    · simp [h0]
  rw [e]
  exact this

theorem ext_grown {w0 w w' : World} {row : Option Nat} (h : Ext w0 w) (hg : w.grownBy w' row) (hrow : ∀ k, row = some k → w0.heap.size ≤ k) : Ext w0 w' :=
  ⟨hg.os.trans h.os, hg.tape.trans h.tape, hg.output.trans h.output, Nat.le_trans h.size hg.size, fun i hi =>
    (hg.block i (Nat.lt_of_lt_of_le hi h.size) (fun e => by have := hrow i e.symm; omega)).trans (Below.block h i hi)⟩

/-- numbers appended to a row made new -/
theorem append_u32s {w0 w : World} {v : Value} {xs : List Int} (N : NewU w0 w v xs) {K : Nat → Prop} {u : Value} {l : List Int} (hu : RowK K w u 1 (ucells l)) (hp : Plain u) (hl : xs.length + l.length ≤ 100000) :
    ∃ v' w', (Builtin.append_ #[22, 22] 22 #[v, u]).run Try.prog w = .ok v' w' ∧ NewU w0 w' v' (xs ++ l) := by
  obtain ⟨i0, hi, hz0, hz1, hz2⟩ := info_parts info_u32
  rcases hp with rfl | ⟨a, n, c, rfl⟩
  · obtain ⟨ao, n', c', e, h1, _⟩ := hu
    simp only [Value.slice.injEq] at e
    rw [ucells_length] at h1
    have e : l = [] := List.eq_nil_of_length_eq_zero (by omega)
    subst e
    rw [List.append_nil]
    exact ⟨v, w, run_append_owned_none (P := Try.prog) (w := w) w0.heap.size 22 22 27 i0 1 Try.underlying22 hi v xs.length (ucells xs) N.1, N⟩
  · obtain ⟨rfl, hc⟩ := row_src hu
    obtain ⟨v', w', h1, h2, h3, _⟩ := run_append_own (P := Try.prog) w w0.heap.size 22 22 27 i0 (.int .u32 0) 1 4 Try.underlying22 hi hz0 hz1 hz2 rfl (by decide) v xs.length (ucells xs) N.1 a l.length c (ucells l) (by rw [ucells_length]; omega) hc (ucells_one l) (by unfold maxLen; omega) (by omega) N.2.size
    refine ⟨v', w', h1, ?_, ext_grown N.2 h3 (fun k hk => (N.1.lt k hk).1)⟩
    rw [List.length_append, ucells_append]
    exact h2
theorem lit_row (w : World) (l : List Int) (hl : l.length ≤ 1000) : RowK (fun i => w.heap.size ≤ i) (w.alloc (.cells (ucells l).toArray 27)) (.slice (some ⟨w.heap.size, 0, none⟩) l.length l.length) 1 (ucells l) := by
  refine ⟨_, _, _, rfl, by rw [ucells_length, Nat.mul_one], Nat.le_refl _, by unfold maxLen; omega, fun _ => ⟨w.heap.size, 0, rfl, Nat.le_refl _, fun j u hu => ?_⟩⟩
  rw [Nat.zero_add, cell_of_row _ _ j _ _ _ (heap_alloc_new w _), List.getElem?_toArray]
  exact hu

/-- an append whose run is known -/
theorem wpList_append_run {P : Program} {ops : Array Oper} {rest : List Oper} {o : Oper} {a : Act} {w : World} {Q : Exit → Act → World → Prop} (hg : o.guard = none) (s x : Operand) (t : TypeId)
    (hop : o.op = Op.call { callee := Callee.builtin Builtin.append, args := #[s, x], argTypes := #[t, t] }) (u v r : Value) (w' : World) (hs : a.eval s = u) (hx : a.eval x = v)
    (hrun : (Builtin.append_ #[t, t] o.type #[u, v]).run P w = .ok r w') (h : wpList P ops Q rest (a.put o.dst r) w') : wpList P ops Q (o :: rest) a w := by
  refine wpList_plain hg fun K hK => ?_
  unfold Oper.wp
  simp [execOp, hop, resolve, invoke, builtin, hs, hx, hrun, Result.andThen]
  exact hK _ _ h
end Go.Proofs.Ytpdgicnapidkeaa

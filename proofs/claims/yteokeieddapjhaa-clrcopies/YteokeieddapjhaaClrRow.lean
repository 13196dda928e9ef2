/-
  Reports as they lie in rows.
-/
import Derived.Test.YteokeieddapjhaaRowAny
import Derived.Test.YteokeieddapjhaaClrMath
import Derived.Test.YteokeieddapjhaaEitherCore
import Derived.Deep.QuietTactic
import Derived.BigQuiet
namespace Go.Proofs.Yteokeieddapjhaa.Clr
set_option linter.unusedVariables false
set_option maxRecDepth 100000
open Go.RowKit Go.Lib

/-- a report as it lies in cells -/
def rep (x : Rep) : List Value := [.int .i64 x.1, .int .i64 x.2.1, .int .u64 x.2.2]
theorem encR : Enc rep 3 := ⟨by decide, fun _ => rfl, fun x u h => by
  simp only [rep, List.mem_cons, List.not_mem_nil, or_false] at h
  rcases h with rfl | rfl | rfl <;> rfl⟩
def rcells (l : List Rep) : List Value := fcells rep l
theorem rcells_length (l : List Rep) : (rcells l).length = l.length * 3 := fcells_length encR l
theorem rcells_append (a b : List Rep) : rcells (a ++ b) = rcells a ++ rcells b := fcells_append rep a b
theorem rcells_one (l : List Rep) : ∀ u ∈ rcells l, u.oneCell' = true := fcells_one encR l
theorem rcells_take (l : List Rep) (k : Nat) : rcells (l.take k) = (rcells l).take (k * 3) := fcells_take encR l k
theorem rcells_drop (l : List Rep) (k : Nat) : rcells (l.drop k) = (rcells l).drop (k * 3) := fcells_drop encR l k

theorem elemsR : Elems 52 43 3 24 (.agg #[.int .i64 0, .int .i64 0, .int .u64 0]) := ⟨Try.underlying52, by kernel_rfl, rfl, by decide⟩
theorem info_rep : (Try.prog.info? 43).map (fun i => (i.zero, i.size, i.bytes)) = some (some (.agg #[.int .i64 0, .int .i64 0, .int .u64 0]), 3, 24) := by kernel_rfl
theorem size_rep : (Try.prog.info? 43).map (·.size) = some 3 := by kernel_rfl

theorem min_to {a b c : Nat} (h : (a ≤ b ∧ a = c) ∨ (b ≤ a ∧ b = c)) : Nat.min a b = c := by
  have : Nat.min a b = if a ≤ b then a else b := Nat.min_def
  rw [this]
  split <;> omega
theorem grown_set (w : World) (g : Nat) (cs : Array Value) : w.grownBy (w.setRow g cs) (some g) := ⟨rfl, rfl, rfl, by simp, fun k _ hk => setRow_other w g k cs (fun e => hk (by rw [e]))⟩
theorem grown_from {w w' : World} {row : Option Nat} {n : Nat} (h : (w.drewN n).grownBy w' row) : w.grownBy w' row := ⟨h.os, h.tape, h.output, h.size, h.block⟩

theorem grown_then {a b c : World} {row : Option Nat} (h : a.grownBy b row) (k : b.grownBy c row) : a.grownBy c row :=
  ⟨k.os.trans h.os, k.tape.trans h.tape, k.output.trans h.output, Nat.le_trans h.size k.size, fun i hi hr => (k.block i (Nat.lt_of_lt_of_le hi h.size) hr).trans (h.block i hi hr)⟩

/-- the reports l lie in a row of one's own -/
abbrev OwnR (w : World) (v : Value) (l : List Rep) : Prop := Own rep 43 3 w v l
/-- a row's cells, as elements and what is spare -/
theorem own_of_row {w : World} {g cap n : Nat} {l : List Rep} {Y : List Value} (hn : l.length = n) (hg : w.heap[g]? = some (.cells (rcells l ++ Y).toArray 43 (0, 0))) (hnc : n ≤ cap) (hcm : cap ≤ maxLen) (hl : (rcells l ++ Y).length = cap * 3) :
    OwnR w (.slice (some ⟨g, 0, none⟩) n cap) l := by
  subst hn
  refine ⟨rcells_length l, .inr ⟨g, cap, _, rfl, Nat.zero_le _, hg, hnc, hcm, by simpa using hl, ?_⟩⟩
  show (rcells l ++ Y).take (l.length * 3) = rcells l
  rw [← rcells_length l]
  exact List.take_left
/-- elements put behind a row of one's own -/
theorem append_reps (w : World) (v : Value) (xs : List Rep) (hown : OwnR w v xs) (g m c : Nat) (V : List Value) (ys : List Rep) (hg : w.heap[g]? = some (.cells V.toArray 43 (0, 0))) (hm : ys.length = m) (ht : V.take (m * 3) = rcells ys) (hl : xs.length + ys.length ≤ 20000) (hmc : m ≤ c) (hc : c ≤ maxLen) :
    ∃ v' w', (Builtin.append_ #[52, 52] 52 #[v, .slice (some ⟨g, 0, none⟩) m c]).run Try.prog w = .ok v' w' ∧ OwnR w' v' (xs ++ ys) ∧ w.grownBy w' v.ownBlock ∧ (v'.ownBlock = v.ownBlock ∨ v'.ownBlock = some w.heap.size) := by
  refine append_rows elemsR encR 52 w v xs hown (K := fun _ => True) (.slice (some ⟨g, 0, none⟩) m c) ys ⟨_, _, _, rfl, by show (rcells ys).length = _; rw [rcells_length, hm], hmc, hc, fun _ => ⟨g, 0, rfl, trivial, fun j u hu => ?_⟩⟩ (by omega)
  have := row_src (w := w) (o := 0) hg (by rw [List.drop_zero]; show rcells ys <+: V; rw [← ht]; exact List.take_prefix _ _) j u hu
  rwa [Addr.add_mid] at this
end Go.Proofs.Yteokeieddapjhaa.Clr

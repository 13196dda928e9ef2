/-
  Calls that came in as an argument: what lies in memory. What the row's condition on the package's table gives; the door's own heap meets it.
-/
import Derived.Test.YtmkcgkmaabcjoaaDoorRows
import Derived.Test.YtmkcgkmaabcjoaaDoorHisPlay
import Derived.Lib.LaidTab
import Derived.LaidMore
import Derived.ProofKit
import Derived.OpenShut
import Derived.Stop.Joined
import Derived.Lib.SmallJoins
import Derived.Deep.SlicePairs
import Derived.Carry
namespace Go.Proofs.YtmkcgkmaabcjoaaDoor.His
open Go.ChangeShapes Go.WideShapes Go.ChangeAt Go.RowKit Go.Joins Go.Deep
set_option linter.unusedVariables false
set_option maxRecDepth 100000

theorem ownH : ownKnob Tryd.prog.godebug = none := by kernel_rfl
theorem laidOutH : laidOutB Tryd.prog = true := by kernel_rfl
theorem cellsOp : Tryd.prog.cellsOf 46 = 2 := by kernel_rfl
theorem cellsInt : Tryd.prog.cellsOf 3 = 1 := by kernel_rfl

def OpsIn (w : World) (v : Value) (l : List (Int × Int)) : Prop := OpsK (fun _ => True) w v l
theorem openOps {H : Type} {enc : TypeId × Value → H} {W : World} {base : Nat} {held : Bool} {r : Reach} {b0 : Nat} {v : Value} {x : DataW H} {p : List MemPlace}
    (hv : Value.okWide Tryd.prog W r b0 22 v) (h : DataW.Trod enc Tryd.prog W base (fun _ => true) held 22 v x p) : ∃ l, OpsIn W v l := by
  obtain ⟨a0, len0, cap0, rfl⟩ := okWide_slice Tryd.underlying22 hv
  obtain ⟨fuel, hf⟩ := h
  rcases open_slice Tryd.underlying22 hf with ⟨hcs, _⟩ | ⟨a, len, cap, m, n, D, Pl, hcs, _, hl, hm, hmm, _, hx⟩
  · simp [Value.cells] at hcs
    obtain ⟨rfl, rfl, rfl⟩ := hcs
    exact ⟨[], RowK.nil _ _ _⟩
  · simp [Value.cells] at hcs
    obtain ⟨rfl, rfl, rfl⟩ := hcs
    simp only [if_true] at hmm
    have num : ∀ i, i < len0 → ∃ q : Int × Int, W.cell? (a.add (i * 2)) = some (.int .i64 q.1) ∧ W.cell? (a.add (i * 2 + 1)) = some (.int .i64 q.2) := by
      intro i hi
      obtain ⟨cs', h1, h2⟩ := hx i (by omega)
      rw [cellsOp] at h1
      obtain ⟨_, hlen, hcell⟩ := World.cells?_some h1
      obtain ⟨xs, k, _, _, _, hxl, hall⟩ := DataW.trod_struct Tryd.underlying46 h2
      match xs, hxl, cs', hlen with
      | [y0, y1], _, [v0, v1], _ =>
        have t0 := hall 0 _ rfl
        have t1 := hall 1 _ rfl
        simp [cellsInt] at t0 t1
        obtain ⟨n0, e0, _⟩ := DataW.trod_int Tryd.underlying3 t0
        obtain ⟨n1, e1, _⟩ := DataW.trod_int Tryd.underlying3 t1
        simp at e0 e1
        subst e0 e1
        have c0 := hcell 0 (by omega)
        have c1 := hcell 1 (by omega)
        rw [add_add] at c0 c1
        exact ⟨(n0, n1), by simpa using c0, by simpa using c1⟩
    obtain ⟨q, hq⟩ := choose_lt num
    have hlen : ((List.range len0).map q).length = len0 := by simp
    refine ⟨(List.range len0).map q, some a, len0, cap0, rfl, by rw [fcells_length encQ, hlen], hl, hm, fun h0 => ?_⟩
    obtain ⟨g, o, spot⟩ := a
    have hspot : spot = none := by simpa [Addr.add] using World.cell?_spot (hq 0 h0).1
    subst hspot
    refine ⟨g, o, rfl, trivial, fun j u hu => ?_⟩
    have hj : j < len0 * 2 := by rw [← hlen, ← fcells_length encQ]; exact (List.getElem?_eq_some_iff.1 hu).1
    have hi : j / 2 < len0 := by omega
    have e : ((List.range len0).map q)[j / 2]? = some (q (j / 2)) := by simp [hi]
    have h1 := hq (j / 2) hi
    rw [Addr.add_mid, Addr.add_mid] at h1
    have hm3 : j % 2 = 0 ∨ j % 2 = 1 := by omega
    rcases hm3 with hm2 | hm2
    · have ej : j = j / 2 * 2 := by omega
      have ga := fcells_at encQ e (j := 0) (by decide)
      rw [Nat.add_zero, ← ej, hu] at ga
      rw [ej, h1.1, ga]
      rfl
    · have ej : j = j / 2 * 2 + 1 := by omega
      have ga := fcells_at encQ e (j := 1) (by decide)
      rw [← ej, hu] at ga
      rw [ej, h1.2, ga]
      rfl

/-- what the row lists -/
abbrev listed : List (String × DataW Unit) := [("terrace/history.weights", Rows.laid_terrace_history_weights)]
def ints8 : List Int := [5, 5, 5, 5, 4, 3, 2, 1]
theorem listed_tab : listed = [("terrace/history.weights", Lib.tabData .i64 ints8)] := rfl
theorem gWts : Tryd.prog.globalNamed "terrace/history.weights" = some 0 := by kernel_rfl
theorem tWts : (Tryd.prog.globals[0]?).map (·.type) = some 51 := by kernel_rfl
theorem cellsTab : Tryd.prog.cellsOf 51 = 8 := by kernel_rfl

theorem wts_of_laid {W : World} (h : laidMetH Tryd.prog listed W) : Wts W := by
  rw [MakeChecks.laidMetH_plain _ _ _ (by kernel_rfl), listed_tab] at h
  have t := Lib.tabIs_of_head gWts tWts Tryd.underlying51 Tryd.underlying3 cellsInt cellsTab h
  unfold Lib.TabIs World.var? at t
  simp only [gWts, Option.bind_some] at t
  have e : (ints8.map fun z => Value.int .i64 z).toArray = wtabs := rfl
  rw [e] at t
  split at t
  · rename_i cs ty fr hh
    exact ⟨ty, fr, by rw [hh]; simp only [Option.some.injEq] at t; rw [t]⟩
  · cases t

theorem door_met (os : Os) (args : Array Value) : laidMetH Tryd.prog listed ((World.doorLaid Tryd.prog 400 os).forCall (fun _ _ => 0) ⟨#[], args, []⟩).memory :=
  laidMetH_of_parts3 (fuel := 8) (laidMet_of_run' 8 (by kernel_rfl) (by kernel_rfl)) (by kernel_rfl) (by kernel_rfl)
end Go.Proofs.YtmkcgkmaabcjoaaDoor.His

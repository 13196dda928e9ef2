/-
  EqnFalls: for every input (a struct of three numbers and a struct of three) the law answers true and the argument reads afterwards as it read before.
-/
import Derived.Test.YtbphjfdmcopmpaaRows
import Derived.WalkKit
import Derived.Test.YtbphjfdmcopmpaaFallsW
import Derived.ProofKit
import Derived.OpenShut
import Derived.Lib.SmallJoins
namespace Go.Proofs.Ytbphjfdmcopmpaa.eqnFalls
open Go.ChangeShapes Go.WideShapes Go.ChangeAt Go.RowKit Go.Joins Go.Deep
set_option linter.unusedVariables false

theorem own : ownKnob Try.prog.godebug = none := by kernel_rfl
theorem cellsTwo : Try.prog.cellsOf 32 = 6 := by kernel_rfl
theorem cellsMore : Try.prog.cellsOf 30 = 3 := by kernel_rfl
theorem cellsF : Try.prog.cellsOf 24 = 1 := by kernel_rfl
theorem cellsU : Try.prog.cellsOf 22 = 1 := by kernel_rfl

theorem array6 {α : Type} {cs : Array α} (h : cs.size = 6) : ∃ c0 c1 c2 c3 c4 c5, cs = #[c0, c1, c2, c3, c4, c5] := by
  obtain ⟨l⟩ := cs
  match l, h with
  | [c0, c1, c2, c3, c4, c5], _ => exact ⟨c0, c1, c2, c3, c4, c5, rfl⟩

/-- such a struct's datum -/
def two (H : Type) (a b c d e f : Int) : DataW H := .agg [.lit (.int .u32 a), .lit (.int .u64 b), .lit (.int .u64 c), .agg [.lit (.int .u64 d), .lit (.int .u64 e), .lit (.int .u32 f)]]

theorem opened {H : Type} {enc : TypeId × Value → H} {W : World} {base : Nat} {sp : Nat → Bool} {held : Bool} {r : Reach} {b0 : Nat} {v : Value} {x : DataW H} {p : List MemPlace}
    (hv : Value.okWide Try.prog W r b0 32 v) (h : DataW.Trod enc Try.prog W base sp held 32 v x p) :
    ∃ a b c d e f : Int, v = .agg #[.int .u32 a, .int .u64 b, .int .u64 c, .int .u64 d, .int .u64 e, .int .u32 f] ∧ x = two H a b c d e f ∧ p = [] ∧
      (Lit.int .u32 a).wf = true ∧ (Lit.int .u64 b).wf = true ∧ (Lit.int .u64 c).wf = true ∧ (Lit.int .u64 d).wf = true ∧ (Lit.int .u64 e).wf = true ∧ (Lit.int .u32 f).wf = true := by
  obtain ⟨cs, rfl, hsz⟩ := okWide_struct Try.underlying32 hv
  obtain ⟨c0, c1, c2, c3, c4, c5, rfl⟩ := array6 (hsz.trans cellsTwo)
  obtain ⟨fuel, hf⟩ := h
  obtain ⟨y0, y1, y2, y3, n, hx, _, t0, t1, t2, t3⟩ := trod_struct4 Try.underlying32 hf
  simp only [Value.cells, cellsF, cellsU, cellsMore, List.drop, List.take] at t0 t1 t2 t3
  obtain ⟨z0, z1, z2, m, hz, _, s0, s1, s2⟩ := trod_struct3 Try.underlying30 t3
  simp only [cellsF, cellsU, List.drop, List.take] at s0 s1 s2
  obtain ⟨a, e0, rfl, wa⟩ := DataW.trod_int Try.underlying22 t0
  obtain ⟨b, e1, rfl, wb⟩ := DataW.trod_int Try.underlying24 t1
  obtain ⟨c, e2, rfl, wc⟩ := DataW.trod_int Try.underlying24 t2
  obtain ⟨d, e3, rfl, wd⟩ := DataW.trod_int Try.underlying24 s0
  obtain ⟨e, e4, rfl, we⟩ := DataW.trod_int Try.underlying24 s1
  obtain ⟨f, e5, rfl, wf⟩ := DataW.trod_int Try.underlying22 s2
  simp at e0 e1 e2 e3 e4 e5
  subst e0 e1 e2 e3 e4 e5 hz
  simp at hx
  exact ⟨_, _, _, _, _, _, rfl, hx.1, hx.2, wa, wb, wc, wd, we, wf⟩

theorem shut {H : Type} {enc : TypeId × Value → H} {W : World} {base : Nat} {sp : Nat → Bool} {held : Bool} {a b c d e f : Int}
    (wa : (Lit.int .u32 a).wf = true) (wb : (Lit.int .u64 b).wf = true) (wc : (Lit.int .u64 c).wf = true) (wd : (Lit.int .u64 d).wf = true) (we : (Lit.int .u64 e).wf = true) (wf : (Lit.int .u32 f).wf = true) :
    DataW.Trod enc Try.prog W base sp held 32 (.agg #[.int .u32 a, .int .u64 b, .int .u64 c, .int .u64 d, .int .u64 e, .int .u32 f]) (two H a b c d e f) [] := by
  have s := trod_struct3_mk (enc := enc) (w := W) (base := base) (spare := sp) (held := held) (n := 1) (cs := [.int .u64 d, .int .u64 e, .int .u32 f]) (y0 := (.lit (.int .u64 d), [])) (y1 := (.lit (.int .u64 e), [])) (y2 := (.lit (.int .u32 f), [])) Try.underlying30 (by simp [cellsMore])
    (by simp [cellsF, DataW.trod, Try.underlying24, wd]) (by simp [cellsF, DataW.trod, Try.underlying24, we]) (by simp [cellsU, DataW.trod, Try.underlying22, wf])
  have t := trod_struct4_mk (enc := enc) (w := W) (base := base) (spare := sp) (held := held) (n := 2) (cs := [.int .u32 a, .int .u64 b, .int .u64 c, .int .u64 d, .int .u64 e, .int .u32 f]) (y0 := (.lit (.int .u32 a), [])) (y1 := (.lit (.int .u64 b), [])) (y2 := (.lit (.int .u64 c), []))
    (y3 := (.agg [.lit (.int .u64 d), .lit (.int .u64 e), .lit (.int .u32 f)], [])) Try.underlying32 (by simp [cellsTwo])
    (by simp [cellsU, DataW.trod, Try.underlying22, wa]) (by simp [cellsF, DataW.trod, Try.underlying24, wb]) (by simp [cellsF, DataW.trod, Try.underlying24, wc]) (by simpa [cellsMore] using s)
  exact ⟨_, by simpa [Value.cells, two] using t⟩

set_option maxRecDepth 100000 in
theorem lifted (os : Os) (started : os.Started) (H : Type) (enc : TypeId × Value → H) :
    ReturnsInHanded {} Try.checked os 4 .any (Rows.eqnFallsSpec.pre6 enc Try.prog Try.f4 Rows.eqnFallsRow.domain false) (Rows.eqnFallsSpec.post enc Try.prog Try.f4 false true false false) := by
  refine returnsInHanded_of_change (C := Try.checked) own started (by kernel_rfl) Try.func4
    (ChangeSpec.witness6 (enc := enc) (C := Try.checked) false ⟨#[], #[.agg #[.int .u32 0, .int .u64 0, .int .u64 0, .int .u64 0, .int .u64 0, .int .u32 0]], []⟩ 8 (by kernel_rfl) (by kernel_rfl) (by kernel_rfl) (by kernel_rfl)) ?_
  intro W base args ds gs before hval0 hW hcnd _
  have hval : ∀ (j : Nat) t v, Try.f4.params[j]? = some t → args[j]? = some v → Value.okWide Try.prog W .any base t v := hval0
  have hW' := hW
  obtain ⟨p, q, hA0, hV, rfl, hfz, hnd⟩ := hW
  have hA : DataW.TrodAll enc Try.prog W 0 (fun _ => true) true Try.f4.params.toList args.toList ds p := hA0
  rw [Try.params4] at hA hval
  obtain ⟨v0, d0, rfl, rfl, h0⟩ := trodAll_one hA
  obtain ⟨rfl, rfl⟩ := trodVars_none hV
  obtain ⟨a, b, c, d, e, f, rfl, rfl, rfl, wa, wb, wc, wd, we, wf⟩ := opened (hval 0 32 v0 rfl rfl) h0
  clear hA0 hval0
  simp only [List.append_nil] at hW'
  refine (walk a b c d e f wa wb wc wd we wf W).mono fun e W' ⟨he, hg⟩ => ?_
  subst he
  exact ⟨_, rfl, _, _, _, [], [], [], hW', trodAll_mk1 (shut_bool Try.underlying4 _), trodAll_mk1 (shut wa wb wc wd we wf), rfl, hg.frame _, fun h => by cases h⟩

theorem over : Rows.eqnFallsRow.holds Try.pinned (OpenSpec.ofChange Rows.eqnFallsSpec) :=
  OpenClaim.holds_of_wide 4 Try.f4 rfl rfl rfl rfl rfl rfl rfl ⟨rfl, rfl, rfl, rfl, rfl⟩ rfl rfl rfl rfl rfl (by kernel_rfl) Try.func4 (by kernel_rfl)
    (of_decide_eq_true (by kernel_rfl)) (by unfold Func.isWrapper; first | (rw [if_pos (by decide +kernel)]; kernel_rfl) | (rw [if_neg (by decide +kernel)]; exact ⟨rfl, rfl⟩))
    (fun os started H enc _ => lifted os started H enc)

theorem proved : Rows.EqnFallsSaid := over
end Go.Proofs.Ytbphjfdmcopmpaa.eqnFalls

/-
  EqnFair: for every input (a struct of four numbers) the law answers true and the argument reads afterwards as it read before.
-/
import Derived.Test.YtbphjfdmcopmpaaRows
import Derived.WalkKit
import Derived.Test.YtbphjfdmcopmpaaFairW
import Derived.ProofKit
import Derived.OpenShut
import Derived.Lib.SmallJoins
namespace Go.Proofs.Ytbphjfdmcopmpaa.eqnFair
open Go.ChangeShapes Go.WideShapes Go.ChangeAt Go.RowKit Go.Joins
set_option linter.unusedVariables false

theorem own : ownKnob Try.prog.godebug = none := by kernel_rfl
theorem cellsFair : Try.prog.cellsOf 36 = 4 := by kernel_rfl

set_option maxRecDepth 100000 in
theorem lifted (os : Os) (started : os.Started) (H : Type) (enc : TypeId × Value → H) :
    ReturnsInHanded {} Try.checked os 7 .any (Rows.eqnFairSpec.pre6 enc Try.prog Try.f7 Rows.eqnFairRow.domain false) (Rows.eqnFairSpec.post enc Try.prog Try.f7 false true false false) := by
  refine returnsInHanded_of_change (C := Try.checked) own started (by kernel_rfl) Try.func7
    (ChangeSpec.witness6 (enc := enc) (C := Try.checked) false ⟨#[], #[.agg #[.int .u32 0, .int .u64 0, .int .u64 0, .int .u64 0]], []⟩ 8 (by kernel_rfl) (by kernel_rfl) (by kernel_rfl) (by kernel_rfl)) ?_
  intro W base args ds gs before hval0 hW hcnd _
  have hval : ∀ (j : Nat) t v, Try.f7.params[j]? = some t → args[j]? = some v → Value.okWide Try.prog W .any base t v := hval0
  have hW' := hW
  obtain ⟨p, q, hA0, hV, rfl, hfz, hnd⟩ := hW
  have hA : DataW.TrodAll enc Try.prog W 0 (fun _ => true) true Try.f7.params.toList args.toList ds p := hA0
  rw [Try.params7] at hA hval
  obtain ⟨v0, d0, rfl, rfl, h0⟩ := trodAll_one hA
  obtain ⟨rfl, rfl⟩ := trodVars_none hV
  obtain ⟨c0, c1, c2, c3, y0, y1, y2, y3, k, rfl, rfl, rfl, t0, t1, t2, t3⟩ := open_agg4 Try.underlying36 (by kernel_rfl) cellsFair (hval 0 36 v0 rfl rfl) h0
  obtain ⟨a, e0, rfl, wa⟩ := DataW.trod_int Try.underlying22 t0
  obtain ⟨b, e1, rfl, wb⟩ := DataW.trod_int Try.underlying24 t1
  obtain ⟨n, e2, rfl, wn⟩ := DataW.trod_int Try.underlying24 t2
  obtain ⟨m, e3, rfl, wm⟩ := DataW.trod_int Try.underlying24 t3
  simp at e0 e1 e2 e3
  subst e0 e1 e2 e3
  clear hA0 hval0
  simp only [List.append_nil] at hW'
  have reads : ∀ (W' : World) (sp : Nat → Bool), DataW.Trod enc Try.prog W' 0 sp true 36 (.agg #[.int .u32 a, .int .u64 b, .int .u64 n, .int .u64 m]) (.agg [.lit (.int .u32 a), .lit (.int .u64 b), .lit (.int .u64 n), .lit (.int .u64 m)]) [] := fun W' sp =>
    shut_agg4 (y0 := (.lit (.int .u32 a), [])) (y1 := (.lit (.int .u64 b), [])) (y2 := (.lit (.int .u64 n), [])) (y3 := (.lit (.int .u64 m), [])) Try.underlying36 (by kernel_rfl) cellsFair ⟨1, by simp [DataW.trod, Try.underlying22, wa]⟩ ⟨1, by simp [DataW.trod, Try.underlying24, wb]⟩ ⟨1, by simp [DataW.trod, Try.underlying24, wn]⟩ ⟨1, by simp [DataW.trod, Try.underlying24, wm]⟩
  refine (walk a b n m wa wb wn wm W).mono fun e W' ⟨he, hg⟩ => ?_
  subst he
  exact ⟨_, rfl, _, _, _, [], [], [], hW', trodAll_mk1 (shut_bool Try.underlying4 _), trodAll_mk1 (reads _ _), rfl, hg.frame _, fun h => by cases h⟩

theorem over : Rows.eqnFairRow.holds Try.pinned (OpenSpec.ofChange Rows.eqnFairSpec) :=
  OpenClaim.holds_of_wide 7 Try.f7 rfl rfl rfl rfl rfl rfl rfl ⟨rfl, rfl, rfl, rfl, rfl⟩ rfl rfl rfl rfl rfl (by kernel_rfl) Try.func7 (by kernel_rfl)
    (of_decide_eq_true (by kernel_rfl)) (by unfold Func.isWrapper; first | (rw [if_pos (by decide +kernel)]; kernel_rfl) | (rw [if_neg (by decide +kernel)]; exact ⟨rfl, rfl⟩))
    (fun os started H enc _ => lifted os started H enc)

theorem proved : Rows.EqnFairSaid := over
end Go.Proofs.Ytbphjfdmcopmpaa.eqnFair

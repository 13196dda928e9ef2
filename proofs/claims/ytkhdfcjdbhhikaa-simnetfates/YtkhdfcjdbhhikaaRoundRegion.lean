/-
  A region that draws its order, inside a round of a loop over a function: its plain walk serves. (Needs no other text.)
-/
import Derived.Test.YtkhdfcjdbhhikaaProg
import Derived.OrdersIn
import Derived.ControlIn
import Derived.RangeFuncCalls
import Derived.Deep.QuietTactic
import Derived.BigQuiet
import Derived.Deep.RegionHeld3
namespace Go.Proofs.Ytkhdfcjdbhhikaa
set_option linter.unusedVariables false
open Go.RowKit

/-- no operation of these defers anything -/
def noDefer (ops : Array Oper) : Bool := ops.all fun o => match o.op with | .defer _ => false | _ => true
theorem noDefer_at {ops : Array Oper} (h : noDefer ops = true) {i : Nat} {o : Oper} (hi : ops[i]? = some o) : ∀ c, o.op ≠ .defer c := by
  intro c e
  unfold noDefer at h
  rw [Array.all_eq_true] at h
  obtain ⟨hl, rfl⟩ := Array.getElem?_eq_some_iff.1 hi
  have := h i hl
  rw [e] at this
  simp at this

theorem wpOpIn_round {P : Program} {ops : Array Oper} {C : World → Prop} {Q : Exit → Act → World → Prop} {L n i : Nat} (h : noDefer ops = true) {K : Act → Prop} {K' : Act → World → Prop} (hK : ∀ a w, C w → K a → K' a w) {a : Act} {w : World} (hw : C w) (hh : qOp P ops C i K a) : wpOpIn (Fence.wide.inRound L) n P ops Q i K' a w := by
  unfold qOp at hh
  unfold wpOpIn
  cases hi : ops[i]? with
  | none => simp only [hi] at hh ⊢; exact hK _ _ hw hh
  | some o =>
    simp only [hi] at hh ⊢
    split
    · next hq =>
      simp only [hq, if_true] at hh
      obtain ⟨v, h1, h2⟩ := hh
      have h3 := h1 w hw
      unfold Oper.quietAt at h3
      unfold Oper.wpIn
      refine ⟨fun _ _ => trivial, ?_⟩
      rw [Oper.semAt_eq _ _ _ (noDefer_at h hi)]
      generalize (execOp a.eval o).run P w = r at *
      unfold Oper.quietUpon at h3
      split at h3
      · obtain ⟨rfl, rfl⟩ := h3
        exact hK _ _ hw h2
      · obtain ⟨rfl, rfl⟩ := h3
        exact hK _ _ hw h2
      · obtain ⟨rfl, h3⟩ := h3
        refine ⟨fun q => by simp [Fence.wide] at q, CallsIn.inRound L (callsIn_wide.2 (Calls.mono h3 ?_))⟩
        rintro e w'' ⟨rfl, hc⟩
        exact hK _ _ hc h2
      · exact h3.elim
    · next hq =>
      simp only [hq] at hh
      exact ⟨fun _ _ => trivial, hK _ _ hw hh⟩

theorem wpAnyIn_round {P : Program} {md : Region.Mode} {ops : Array Oper} {C : World → Prop} {Q : Act → Prop} {Q' : Exit → Act → World → Prop} {L n : Nat} (h : noDefer ops = true) (hQ : ∀ a w, C w → Q a → Q' .normal a w) : ∀ (fuel : Nat) (listed : Array Bool) (a : Act) (w : World), C w → wpAnyQ P md ops C Q fuel listed a → wpAnyIn (Fence.wide.inRound L) n P md ops Q' fuel listed a w
  | 0, _, _, _, hw, hh => ⟨hh.1, hQ _ _ hw hh.2⟩
  | fuel + 1, _, _, _, hw, hh => ⟨fun h0 => hQ _ _ hw (hh.1 h0), fun i hi => wpOpIn_round h (fun a w hw h2 => wpAnyIn_round h hQ fuel _ a w hw h2) hw (hh.2 i hi)⟩

/-- A region that draws its order and only reads, in a round: one walk serves every order. -/
theorem wpIn_round_quiet {P : Program} {id : Nat} {Q : Exit → Act → World → Prop} {a : Act} {w : World} {l : List Oper} {L n : Nat} (hm : P.follows .mixedOrders = true) (hB : Region.lexB .any l.toArray = true) (hn : noDefer l.toArray = true)
    (h : wpQuiet P l.toArray (fun w' => ∃ n, w' = w.drewN n) (fun a' => ∀ w', (∃ n, w' = w.drewN n) → Q .normal a' w') l a) : (Code.region id l.toArray true).wpIn (Fence.wide.inRound L) n P Q a w := by
  simp only [Region.lexB, Bool.and_eq_true] at hB
  refine wpIn_region_any hm (wpAnyIn_round (C := fun w' => ∃ n, w' = w.drewN n) (Q := fun a' => ∀ w', (∃ n, w' = w.drewN n) → Q .normal a' w') hn (fun _ w' hw' h => h w' hw') _ _ _ _ ⟨1, rfl⟩ ?_)
  have := wpAnyQ_lex (C := fun w' => ∃ n, w' = w.drewN n) (md := .any) hB.1 l.toArray.toList 0 (Array.replicate l.toArray.size false) a (by simp) (by simpa using hB.2) (by simpa using h)
  simpa using this

/-- an operation of the plain calculus, in a round -/
theorem wpOpIn_plain {P : Program} {ops : Array Oper} {Q : Exit → Act → World → Prop} {L n i : Nat} (hlo : ¬ LetsOut Q) (h : noDefer ops = true) {K K' : Act → World → Prop} (hK : ∀ a w, K a w → K' a w) {a : Act} {w : World} (hh : wpOp P ops Q i K a w) : wpOpIn (Fence.wide.inRound L) n P ops Q i K' a w := by
  unfold wpOp at hh
  unfold wpOpIn
  cases hi : ops[i]? with
  | none => simp only [hi] at hh ⊢; exact hK _ _ hh
  | some o =>
    simp only [hi] at hh ⊢
    split
    · next hq =>
      simp only [hq, if_true] at hh
      replace hh := hh.resolve_right (fun q => hlo q.2)
      unfold Oper.wp at hh
      unfold Oper.wpIn
      refine ⟨fun _ _ => trivial, ?_⟩
      rw [Oper.semAt_eq _ _ _ (noDefer_at h hi)]
      generalize (execOp a.eval o).run P w = r at *
      cases r with
      | ok x w' =>
        cases x <;> simp only [Oper.upon, Oper.uponIn] at hh ⊢
        case value u => exact hK _ _ hh
        case skip => exact hK _ _ hh
        case defer d => exact hK _ _ hh
        case enter f args =>
          refine ⟨fun q => by simp [Fence.wide] at q, CallsIn.inRound L (callsIn_wide.2 (Calls.mono hh ?_))⟩
          intro e w'' he
          cases e with
          | returned v => exact hK _ _ he
          | panicked c => exact he
          | outgrown => exact he
        case row row args =>
          refine ⟨fun q => by simp [Fence.wide] at q, fun c cs _ => ?_⟩
          obtain ⟨v, w2, q, st⟩ := hh c cs
          exact ⟨v, w2, hK _ _ q, stepsIn_wide.2 st⟩
      | halt x w' => cases x <;> simp only [Oper.upon, Oper.uponIn] at hh ⊢ <;> exact hh
    · next hq =>
      simp only [hq] at hh
      exact ⟨fun _ _ => trivial, hK _ _ hh⟩
theorem wpAnyIn_plain {P : Program} {md : Region.Mode} {ops : Array Oper} {Q : Exit → Act → World → Prop} {L n : Nat} (hlo : ¬ LetsOut Q) (h : noDefer ops = true) : ∀ (fuel : Nat) (listed : Array Bool) (a : Act) (w : World), wpAny P md ops Q fuel listed a w → wpAnyIn (Fence.wide.inRound L) n P md ops Q fuel listed a w
  | 0, _, _, _, hh => hh
  | fuel + 1, _, _, _, hh => ⟨hh.1, fun i hi => wpOpIn_plain hlo h (fun a w h2 => wpAnyIn_plain hlo h fuel _ a w h2) (hh.2 i hi)⟩
/-- A region that draws its order, in a round: taken operation by operation as in the plain calculus. -/
theorem wpIn_round_held {P : Program} {id : Nat} {Q : Exit → Act → World → Prop} {S : World → Prop} {a : Act} {w : World} {ops : Array Oper} {L n : Nat} (hm : P.follows .mixedOrders = true) (hn : noDefer ops = true) (hlo : ¬ LetsOut Q) (hS : S w.drew)
    (h : S w.drew → wpAnyH P .any ops Q S ops.size (Array.replicate ops.size false) a w.drew) : (Code.region id ops true).wpIn (Fence.wide.inRound L) n P Q a w :=
  wpIn_region_any hm (wpAnyIn_plain hlo hn _ _ _ _ (wpAny_of_held _ _ _ _ (h hS)))
end Go.Proofs.Ytkhdfcjdbhhikaa

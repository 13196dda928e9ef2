/-
  A net's numbers, fates, bytes, calls, that came in as arguments of their own.
-/
import Derived.Test.YtkhdfcjdbhhikaaSimOpen
namespace Go.Proofs.Ytkhdfcjdbhhikaa.Sim
open Go.ChangeShapes Go.WideShapes Go.ChangeAt Go.RowKit Go.Joins Go.Deep
open Go.Proofs.Ytkhdfcjdbhhikaa.Pip hiding NewR
set_option linter.unusedVariables false
set_option maxRecDepth 100000

def CfgIn (W : World) (v : Value) (c : Cfg) : Prop := v = .agg (ccs c)
theorem openCfgA {H : Type} {enc : TypeId × Value → H} {W : World} {base : Nat} {held : Bool} {r : Reach} {b0 : Nat} {v : Value} {x : DataW H} {p : List MemPlace}
    (hv : Value.okWide Try.prog W r b0 23 v) (h : DataW.Trod enc Try.prog W base (fun _ => true) held 23 v x p) : ∃ c, CfgIn W v c := by
  obtain ⟨cs, rfl, hsz⟩ := okWide_struct Try.underlying23 hv
  obtain ⟨cl⟩ := cs
  have hl5 : cl.length = 5 := by simpa [cellsCf] using hsz
  match cl, hl5 with
  | [c0, c1, c2, c3, c4], _ =>
    obtain ⟨fuel, hf⟩ := h
    have hf' : DataW.trod enc Try.prog W base (fun _ => true) held fuel 23 [c0, c1, c2, c3, c4] = some (x, p) := hf
    obtain ⟨c, rfl, rfl, rfl, rfl, rfl⟩ := openCfg hf'
    exact ⟨c, rfl⟩
theorem openFatesA {H : Type} {enc : TypeId × Value → H} {W : World} {base : Nat} {held : Bool} {r : Reach} {b0 : Nat} {v : Value} {x : DataW H} {p : List MemPlace}
    (hv : Value.okWide Try.prog W r b0 24 v) (h : DataW.Trod enc Try.prog W base (fun _ => true) held 24 v x p) : ∃ l, FatesIn W v l := by
  obtain ⟨a0, len0, cap0, rfl⟩ := okWide_slice Try.underlying24 hv
  obtain ⟨fuel, hf⟩ := h
  have hf' : DataW.trod enc Try.prog W base (fun _ => true) held fuel 24 [.slice a0 len0 cap0] = some (x, p) := hf
  exact openFates hf'
def BytesIn (W : World) (v : Value) (l : List UInt8) : Prop := RowK (fun _ => True) W v 1 (bcells l) ∧ Plain v
theorem openBytesA {H : Type} {enc : TypeId × Value → H} {W : World} {base : Nat} {held : Bool} {r : Reach} {b0 : Nat} {v : Value} {x : DataW H} {p : List MemPlace}
    (hv : Value.okWide Try.prog W r b0 41 v) (h : DataW.Trod enc Try.prog W base (fun _ => true) held 41 v x p) : ∃ l, BytesIn W v l := by
  obtain ⟨a0, len0, cap0, rfl⟩ := okWide_slice Try.underlying41 hv
  obtain ⟨fuel, hf⟩ := h
  have hf' : DataW.trod enc Try.prog W base (fun _ => true) held fuel 41 [.slice a0 len0 cap0] = some (x, p) := hf
  obtain ⟨s, l, e, r1, r2, _⟩ := openD hf'
  exact ⟨l, r1, r2⟩
end Go.Proofs.Ytkhdfcjdbhhikaa.Sim

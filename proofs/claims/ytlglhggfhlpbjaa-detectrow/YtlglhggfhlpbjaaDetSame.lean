/-
  A step, whichever way; both tell the same.
-/
import Derived.Test.YtlglhggfhlpbjaaDetStep2
namespace Go.Proofs.Ytlglhggfhlpbjaa.Det
set_option linter.unusedVariables false
set_option maxRecDepth 100000
open Go.RowKit Go.Lib Go.Proofs.Ytlglhggfhlpbjaa.His

/-- a call as numbers: its kind, layer, number, how much later, the round trip -/
abbrev OpD := Int × Int × Int × Int × Int
def ocs (o : OpD) : Array Value := opc o.1 o.2.1 o.2.2.1 o.2.2.2.1 o.2.2.2.2
def tk (s : DS) (o : OpD) : Int := s.2.2.2.2 + min (max o.2.2.2.1 (-5)) 1048576
/-- one call: the state then -/
def dst (s : DS) (o : OpD) : DS :=
  if o.1 = 1 then (if o.2.1 < 0 ∨ 8 ≤ o.2.1 then s else (s.1.set o.2.1.toNat (-1), s.2))
  else if ((o.2.1 < 0 ∨ 8 ≤ o.2.1) ∨ (tk s o < 0 ∨ 1099511627776 < tk s o) ∨ (o.2.2.2.2 < 0 ∨ 1099511627776 < o.2.2.2.2)) ∨ tk s o < s.2.2.2.2 then s
  else (don s o.2.1.toNat o.2.2.1 (tk s o) o.2.2.2.2).1

theorem step_any {K : Nat → Prop} (b h : Nat) (s : DS) (v : Value) (o : OpD) (w : World) (d : DetV w b h s) (hv : DIn K w v s) (hK : ∀ q, K q → q ≠ b ∧ q ≠ h) (s0 : 0 ≤ o.2.2.1) (s1 : o.2.2.1 < 4294967296) :
    Calls Try.prog 10 #[.pointer (some ⟨b, 0, none⟩), v, .agg (ocs o)] w fun e w' => ∃ v', e = .returned (.tuple #[v', .bool true]) ∧ DetV w' b h (dst s o) ∧ DIn (fun q => K q ∨ w.heap.size ≤ q) w' v' (dst s o) ∧ Kept (fun q => q ≠ b ∧ q ≠ h) w w' := by
  obtain ⟨kind, layer, seq, later, rtt⟩ := o
  obtain ⟨nx, ⟨op, lst⟩, bg, sm, ls⟩ := s
  obtain ⟨lv, rfl, hL⟩ := hv
  have hl : lv.oneCell' = true := by
    obtain ⟨ao, c, rfl, _⟩ := hL.slice
    rfl
  unfold ocs
  simp only at s0 s1 hL ⊢
  obtain ⟨ls0, ls1⟩ := d.1.2.2.2.2
  simp only at ls0 ls1
  have same : ∀ w', Kept (fun q => q ≠ b ∧ q ≠ h) w w' → DIn (fun q => K q ∨ w.heap.size ≤ q) w' (.agg (dcs nx op lv bg sm ls)) (nx, (op, lst), bg, sm, ls) := fun w' k => ⟨lv, rfl, (hL.kept k hK).mono (fun q _ hq => .inl hq)⟩
  by_cases k1 : kind = 1
  · have e1 : dst (nx, (op, lst), bg, sm, ls) (kind, layer, seq, later, rtt) = if layer < 0 ∨ 8 ≤ layer then (nx, (op, lst), bg, sm, ls) else (nx.set layer.toNat (-1), (op, lst), bg, sm, ls) := by unfold dst; rw [if_pos k1]
    rw [e1]
    by_cases q : layer < 0 ∨ 8 ≤ layer
    · rw [if_pos q]
      have go : Calls Try.prog 10 #[.pointer (some ⟨b, 0, none⟩), .agg (dcs nx op lv bg sm ls), .agg (opc kind layer seq later rtt)] w fun e w' => e = .returned (.tuple #[.agg (dcs nx op lv bg sm ls), .bool true]) ∧ DetV w' b h (nx, (op, lst), bg, sm, ls) ∧ Kept (fun q => q ≠ b ∧ q ≠ h) w w' := by
        rcases q with q | q
        · exact step_forget_low b h nx op lst lv bg sm ls kind layer seq later rtt w d hl s0 s1 k1 q
        · exact step_forget_high b h nx op lst lv bg sm ls kind layer seq later rtt w d hl s0 s1 k1 q
      refine go.mono ?_
      rintro e w' ⟨rfl, d', k'⟩
      exact ⟨_, rfl, d', same w' k', k'⟩
    · rw [if_neg q]
      obtain ⟨ly, rfl⟩ : ∃ ly : Nat, layer = (ly : Int) := ⟨layer.toNat, by omega⟩
      refine (step_forget b h nx op lst lv bg sm ls kind seq later rtt ly w d hl s0 s1 k1 (by omega)).mono ?_
      rintro e w' ⟨rfl, d', k'⟩
      have et : (ly : Int).toNat = ly := rfl
      rw [et]
      exact ⟨_, rfl, d', ⟨lv, rfl, (hL.kept k' hK).mono (fun q _ hq => .inl hq)⟩, k'⟩
  · have kb : (kind == 1) = false := beq_eq_false_iff_ne.2 k1
    have et : tk (nx, (op, lst), bg, sm, ls) (kind, layer, seq, later, rtt) = ls + min (max later (-5)) 1048576 := rfl
    have e1 : dst (nx, (op, lst), bg, sm, ls) (kind, layer, seq, later, rtt) = if ((layer < 0 ∨ 8 ≤ layer) ∨ (ls + min (max later (-5)) 1048576 < 0 ∨ 1099511627776 < ls + min (max later (-5)) 1048576) ∨ (rtt < 0 ∨ 1099511627776 < rtt)) ∨ ls + min (max later (-5)) 1048576 < ls then (nx, (op, lst), bg, sm, ls) else (don (nx, (op, lst), bg, sm, ls) layer.toNat seq (ls + min (max later (-5)) 1048576) rtt).1 := by unfold dst; rw [if_neg k1, et]
    rw [e1]
    clear e1 et
    obtain ⟨m1, em1⟩ : ∃ m1, max later (-5) = m1 := ⟨_, rfl⟩
    rw [em1]
    obtain ⟨M, em⟩ : ∃ M, min m1 1048576 = M := ⟨_, rfl⟩
    rw [em]
    have hM0 : -5 ≤ M := by omega
    have hM1 : M ≤ 1048576 := by omega
    by_cases q : ((layer < 0 ∨ 8 ≤ layer) ∨ (ls + M < 0 ∨ 1099511627776 < ls + M) ∨ (rtt < 0 ∨ 1099511627776 < rtt)) ∨ ls + M < ls
    · rw [if_pos q]
      have go : Calls Try.prog 10 #[.pointer (some ⟨b, 0, none⟩), .agg (dcs nx op lv bg sm ls), .agg (opc kind layer seq later rtt)] w fun e w' => e = .returned (.tuple #[.agg (dcs nx op lv bg sm ls), .bool true]) ∧ DetV w' b h (nx, (op, lst), bg, sm, ls) ∧ Kept (fun q => q ≠ b ∧ q ≠ h) w w' := by
        by_cases q1 : layer < 0
        · exact step_low b h nx op lst lv bg sm ls kind layer seq later rtt w d hl s0 s1 m1 M em1 em hM0 hM1 kb q1
        by_cases q2 : 8 ≤ layer
        · exact step_high b h nx op lst lv bg sm ls kind layer seq later rtt w d hl s0 s1 m1 M em1 em hM0 hM1 kb q2
        by_cases q3 : ls + M < 0 ∨ 1099511627776 < ls + M
        · exact step_tick b h nx op lst lv bg sm ls kind layer seq later rtt w d hl s0 s1 m1 M em1 em hM0 hM1 kb (by omega) (by omega) q3
        by_cases q4 : rtt < 0 ∨ 1099511627776 < rtt
        · exact step_rtt b h nx op lst lv bg sm ls kind layer seq later rtt w d hl s0 s1 m1 M em1 em hM0 hM1 kb (by omega) (by omega) (by omega) (by omega) q4
        · exact step_stale b h nx op lst lv bg sm ls kind layer seq later rtt w d hl s0 s1 m1 M em1 em hM0 hM1 kb (by omega) (by omega) (by omega) (by omega) (by omega) (by omega) (by omega)
      refine go.mono ?_
      rintro e w' ⟨rfl, d', k'⟩
      exact ⟨_, rfl, d', same w' k', k'⟩
    · rw [if_neg q]
      obtain ⟨ly, rfl⟩ : ∃ ly : Nat, layer = (ly : Int) := ⟨layer.toNat, by omega⟩
      have et : (ly : Int).toNat = ly := rfl
      rw [et]
      exact step_good b h nx op lst lv bg sm ls kind seq later rtt ly w d hL hK s0 s1 m1 M em1 em hM0 hM1 kb (by omega) (by omega) (by omega) (by omega) (by omega) (by omega)
end Go.Proofs.Ytlglhggfhlpbjaa.Det

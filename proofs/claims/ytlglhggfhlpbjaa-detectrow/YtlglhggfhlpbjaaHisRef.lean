/-
  Walks of the reference's Weight, Sum, Front, Ratio, and of the statements' same.
-/
import Derived.Test.YtlglhggfhlpbjaaHisCopy
namespace Go.Proofs.Ytlglhggfhlpbjaa.His
set_option linter.unusedVariables false
set_option maxRecDepth 100000
open Go.RowKit Go.Lib

set_option maxHeartbeats 1000000 in
theorem front_any {K : Nat → Prop} (n : Int) (v : Value) (l : List Int) (w : World) (hv : ListK K w v l) (l8 : l.length ≤ 1000) :
    Calls Try.prog 29 #[.int .i64 n, v] w fun e w' => ∃ v', e = .returned v' ∧ NewR one 3 1 w w' v' (n :: l) := by
  obtain ⟨ao, c, rfl, k1, k2⟩ := hv.slice
  have AT : Hid (∀ k, k < l.length → ∀ V, Ext w V → ∃ g o, ao = some ⟨g, o, none⟩ ∧ V.cell? ⟨g, o + k, none⟩ = some (.int .i64 (l.getD k 0))) := fun k hk V X => by
    obtain ⟨g, o, e, _, h⟩ := hv.at hk
    exact ⟨g, o, e, X.cell h⟩
  have TK : Hid (∀ k, k < l.length → n :: l.take (k + 1) = (n :: l.take k) ++ [l.getD k 0]) := fun k hk => by
    rw [take_next l k (l.getD k 0) (by rw [List.getD_eq_getElem?_getD, List.getElem?_eq_getElem hk]; rfl)]
    rfl
  obtain ⟨v1, w1, r1, N1, _⟩ := (NewR.nil one 3 1 w).step elemsI encI 27 n (by simp)
  have R1 := hid r1
  have NN : Hid (NewR one 3 1 w w1 v1 (n :: l.take 0)) := N1
  obtain ⟨ao1, c1, ev1, _⟩ := N1.slice
  obtain ⟨N, eN⟩ : ∃ N, N = l.length := ⟨_, rfl⟩
  have eL : n :: l = n :: l.take N := by rw [eN, List.take_length]
  rw [eL]
  rw [← eN] at AT TK l8 k1 ⊢
  unfold maxLen at k2
  simp only [List.nil_append, List.length_singleton] at ev1
  subst ev1
  clear hv r1 N1 eL eN
  go_enter Try.func29, Try.ntmps29
  go_wp2_with (at_builtin; refine wpList_append_run _ rfl (.tmp 7) (.tmp 9) 27 27 rfl _ _ rfl rfl _ _ R1.out ?_)
  clear R1
  go_loopw [5, 6] (fun ov iv wr => ∃ k : Nat, k ≤ N ∧ iv = .int .i64 (k : Int) ∧ Hid (NewR one 3 1 w wr ov (n :: l.take k))) (fun _ iv _ => (N - RowKit.intOf iv).toNat)
  case atStart => exact ⟨0, by omega, rfl, NN⟩
  case round =>
    obtain ⟨k, hk, rfl, HH⟩ := hrel
    clear NN
    by_cases q : k < N
    · have i1 : (k : Int) < (N : Int) := by omega
      have i2 : (0 : Int) ≤ (k : Int) := by omega
      obtain ⟨g, o, rfl, y⟩ := AT.out k q _ HH.out.2.2
      obtain ⟨v', w', r, N2, _⟩ := HH.out.step elemsI encI 27 (l.getD k 0) (by simp; omega)
      rw [← TK.out k q] at N2
      obtain ⟨ao3, c3, ev3, _⟩ := HH.out.slice
      have R := hid r
      have NN2 := hid N2
      obtain ⟨ao2, c2, ev2, _⟩ := N2.slice
      obtain ⟨m3, em3⟩ : ∃ m3, m3 = (n :: l.take k).length := ⟨_, rfl⟩
      obtain ⟨m2, em2⟩ : ∃ m2, m2 = (n :: l.take (k + 1)).length := ⟨_, rfl⟩
      rw [← em2] at ev2
      rw [← em3] at ev3
      subst ev2 ev3
      generalize l.getD k 0 = x at *
      clear HH r N2 AT TK em2 em3
      go_wp2_with (at_builtin; refine wpList_append_run _ rfl (.tmp 17) (.tmp 22) 27 27 rfl _ _ rfl rfl _ _ R.out ?_)
      go_roundw
      case rel => exact ⟨k + 1, by omega, by go_num, NN2⟩
      case measure => simp [RowKit.intOf]; omega
    · obtain rfl : N = k := by omega
      clear AT TK
      go_wp2_with fail
      go_ret
      exact ⟨_, rfl, HH.out⟩

end Go.Proofs.Ytlglhggfhlpbjaa.His

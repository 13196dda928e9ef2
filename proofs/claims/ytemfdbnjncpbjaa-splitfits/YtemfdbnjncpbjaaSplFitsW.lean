/-
  SplitFits' walk.
-/
import Derived.Test.YtemfdbnjncpbjaaSplCalls
import Derived.Test.YtemfdbnjncpbjaaSplOpen
namespace Go.Proofs.Ytemfdbnjncpbjaa.splitFits
set_option linter.unusedVariables false
set_option maxRecDepth 100000
open Go.RowKit Go.Lib Go.Proofs.Ytemfdbnjncpbjaa.Spl

set_option maxHeartbeats 16000000 in
theorem walk (o : Int) (v1 : Value) (l : List Int) (w : World) (hz : RatesIn w v1 l) : Calls Try.prog 6 #[.int .u64 o, v1] w fun e w' => e = .returned (.bool true) ∧ Ext w w' := by
  have AW := hid (fun V => awake_any V)
  obtain ⟨ao, cp, rfl, k1, k2, CC⟩ := row_one hz.1
  have HR := hid hz.1
  have GET : Hid (∀ k, k < l.length → ∃ q : Int, l[k]? = some q) := fun k hk => ⟨_, List.getElem?_eq_getElem hk⟩
  have STP : Hid (∀ k q, l[k]? = some q → Wd q ∧ ∃ g o, ao = some ⟨g, o, none⟩ ∧ w.cell? ⟨g, o + k, none⟩ = some (.int .u64 q)) := fun k q hk => ⟨hz.2 q (List.mem_of_getElem? hk), CC k q hk⟩
  clear hz CC
  unfold maxLen at k2
  by_cases b0 : (100 : Int) < (l.length : Int)
  · clear HR GET STP
    generalize l.length = N at *
    go_enter Try.func6, Try.ntmps6
    go_wp2_with fail
    refine (AW.out _).mono ?_
    rintro e wz ⟨rfl, xz⟩
    have XZ := hid xz
    clear xz
    go_wp2_with fail
    go_ret
    exact ⟨rfl, XZ.out⟩
  have FI := hid (fun V (R : Nums .u64 V (.slice ao l.length cp) l) => fits_any o _ l V R)
  have RF := hid (fun v V (R : Nums .u64 V v l) => refFits_any o v l V R)
  have TK := hid (fun k q (h : l[k]? = some q) => show l.take (k + 1) = l.take k ++ [q] by rw [List.take_add_one, h]; rfl)
  have LT := hid (fun k => show (l.take k).length ≤ 100 by rw [List.length_take]; omega)
  have R0 : Hid (NewR (rk .u64) 22 1 w w (.slice none 0 0) (l.take 0)) := NewR.nil (rk .u64) 22 1 w
  have ALL : Hid (l.take l.length = l) := List.take_length
  obtain ⟨N, eN⟩ : ∃ N, N = l.length := ⟨_, rfl⟩
  rw [← eN] at GET k1 b0 HR FI ALL ⊢
  obtain ⟨m, em⟩ : ∃ m : Int, m = (fit o l : Int) - 1 := ⟨_, rfl⟩
  rw [← em] at FI RF
  clear eN em
  go_enter Try.func6, Try.ntmps6
  go_wp2_with fail
  go_loopw [5, 7, 14] (fun xv _ iv wr => ∃ k : Nat, k ≤ N ∧ iv = .int .i64 (k : Int) ∧ Hid (NewR (rk .u64) 22 1 w wr xv (l.take k))) (fun _ _ iv _ => (N - RowKit.intOf iv).toNat)
  case atStart => exact ⟨0, by omega, rfl, R0⟩
  case round =>
    obtain ⟨k, hk, rfl, RR⟩ := hrel
    clear R0
    by_cases q : k < N
    · have i1 : (k : Int) < (N : Int) := by omega
      have i2 : (0 : Int) ≤ (k : Int) := by omega
      obtain ⟨x, ex⟩ := GET.out k q
      obtain ⟨⟨wx1, wx2⟩, g0, q0, rfl, cc0⟩ := STP.out k x ex
      have cc := Ext.cell RR.out.2.2 cc0
      obtain ⟨v', w', r', N'⟩ := ref_put RR.out x (by have := LT.out k; omega)
      rw [← TK.out k x ex] at N'
      obtain ⟨av, cv, ev, -⟩ := RR.out.slice
      subst ev
      have RUN := hid r'
      have NR := hid N'
      obtain ⟨n, en⟩ : ∃ n, n = (l.take k).length := ⟨_, rfl⟩
      rw [← en] at RUN ⊢
      obtain ⟨a2, c2, e2, -⟩ := NR.out.slice
      subst e2
      obtain ⟨n2, en2⟩ : ∃ n, n = (l.take (k + 1)).length := ⟨_, rfl⟩
      rw [← en2] at RUN NR
      clear r' N' RR TK LT GET STP FI RF HR ALL en en2 ex cc0
      go_wp2_with (at_builtin; refine wpList_append_run _ rfl (.tmp 18) (.tmp 20) 31 31 rfl _ _ rfl rfl _ _ RUN.out ?_)
      go_roundw
      case rel => exact ⟨k + 1, by omega, by go_num, NR⟩
      case measure => simp [RowKit.intOf]; omega
    · obtain rfl : N = k := by omega
      have D := hid RR.out
      rw [ALL.out] at D
      have X1 := hid D.out.2.2
      have FI2 := hid (FI.out _ (HR.out.ext X1.out))
      have RF2 := hid (RF.out _ _ (Nums.new D.out))
      obtain ⟨av, cv, ev, -⟩ := D.out.slice
      subst ev
      obtain ⟨n, en⟩ : ∃ n, n = l.length := ⟨_, rfl⟩
      rw [← en] at RF2 ⊢
      clear RR TK LT GET STP FI RF HR ALL D en
      go_wp2_with fail
      refine FI2.out.mono ?_
      rintro e w' ⟨rfl, ew⟩
      obtain rfl := ew.symm
      go_wp2_with fail
      refine RF2.out.mono ?_
      rintro e w' ⟨rfl, ew⟩
      obtain rfl := ew.symm
      go_wp2_with fail
      refine (AW.out _).mono ?_
      rintro e wz ⟨rfl, xz⟩
      have XZ := hid (X1.out.trans xz)
      clear xz
      go_wp2_with fail
      go_ret
      exact ⟨rfl, XZ.out⟩
end Go.Proofs.Ytemfdbnjncpbjaa.splitFits

/-
  SpeedComes' walk.
-/
import Derived.Test.YtolcnliebjiejaaSpdPlay
namespace Go.Proofs.Ytolcnliebjiejaa.speedComes
set_option linter.unusedVariables false
set_option maxRecDepth 100000
open Go.RowKit Go.Lib Go.Proofs.Ytolcnliebjiejaa.Spd

/-- the argument's box -/
def zs (f r x a : Int) : Array Value := #[.int .u64 f, .int .u64 r, .int .u64 x, .int .i64 a]
theorem zrow {V : World} {g : Nat} {f r x a : Int} (h : V.heap[g]? = some (.cells (zs f r x a) 41 (0, 0))) : V.cell? ⟨g, 0, none⟩ = some (.int .u64 f) ∧ V.cell? ⟨g, 1, none⟩ = some (.int .u64 r) ∧ V.cell? ⟨g, 2, none⟩ = some (.int .u64 x) ∧ V.cell? ⟨g, 3, none⟩ = some (.int .i64 a) := by
  refine ⟨?_, ?_, ?_, ?_⟩
  · rw [cell_of_row _ _ 0 _ _ _ h]; rfl
  · rw [cell_of_row _ _ 1 _ _ _ h]; rfl
  · rw [cell_of_row _ _ 2 _ _ _ h]; rfl
  · rw [cell_of_row _ _ 3 _ _ _ h]; rfl

set_option maxHeartbeats 8000000 in
theorem walk0 (f r x a : Int) (w : World) (hf : Wd f) (hr : Wd r) (hx : Wd x) : Calls Try.prog 5 #[.agg (zs f r x a)] w fun e w' => e = .returned (.bool true) ∧ Ext w w' := by
  have AW := hid (fun V => awake_any V)
  have OF := hid (fun V => of_any 2000 (by decide) (by decide) V)
  rw [show (2000 : Int) * 4294967296 = 8589934592000 from rfl] at OF
  obtain ⟨V, p, e1, ep, XV, RV⟩ : ∃ (V : World) (p : Nat), V = w.alloc (.cells (zs f r x a) 41) ∧ p = w.heap.size ∧ Ext w V ∧ V.heap[p]? = some (.cells (zs f r x a) 41 (0, 0)) := ⟨_, _, rfl, rfl, (Ext.refl w).alloc _, heap_alloc_new w _⟩
  obtain ⟨z0, z1, z2, z3⟩ := zrow RV
  have E1 := hid e1
  have EP := hid ep
  have X1 := hid (fun n => XV.drewN n)
  clear e1 ep XV RV
  by_cases f0 : f = 0
  · subst f0
    go_enter Try.func5, Try.ntmps5
    go_wp2_with (rw [← EP.out, ← E1.out])
    go_quiet (fail)
    go_wp2_with fail
    refine (AW.out _).mono ?_
    rintro e wz ⟨rfl, xz⟩
    have XZ := hid ((X1.out _).trans xz)
    clear xz
    go_wp2_with fail
    go_ret
    exact ⟨rfl, XZ.out⟩
  by_cases f1 : r < f
  · have ne : (f == 0) = false := by simp; omega
    go_enter Try.func5, Try.ntmps5
    go_wp2_with (rw [← EP.out, ← E1.out])
    go_quiet (fail)
    go_wp2_with fail
    refine (AW.out _).mono ?_
    rintro e wz ⟨rfl, xz⟩
    have XZ := hid ((X1.out _).trans xz)
    clear xz
    go_wp2_with fail
    go_ret
    exact ⟨rfl, XZ.out⟩
  by_cases f2 : a < 1
  · have ne : (f == 0) = false := by simp; omega
    go_enter Try.func5, Try.ntmps5
    go_wp2_with (rw [← EP.out, ← E1.out])
    go_quiet (fail)
    go_wp2_with fail
    refine (AW.out _).mono ?_
    rintro e wz ⟨rfl, xz⟩
    have XZ := hid ((X1.out _).trans xz)
    clear xz
    go_wp2_with fail
    go_ret
    exact ⟨rfl, XZ.out⟩
  by_cases f3 : 320 < a
  · have ne : (f == 0) = false := by simp; omega
    go_enter Try.func5, Try.ntmps5
    go_wp2_with (rw [← EP.out, ← E1.out])
    go_quiet (fail)
    go_wp2_with fail
    refine (AW.out _).mono ?_
    rintro e wz ⟨rfl, xz⟩
    have XZ := hid ((X1.out _).trans xz)
    clear xz
    go_wp2_with fail
    go_ret
    exact ⟨rfl, XZ.out⟩
  by_cases f4 : 8589934592000 < x
  · have ne : (f == 0) = false := by simp; omega
    go_enter Try.func5, Try.ntmps5
    go_wp2_with (rw [← EP.out, ← E1.out])
    go_quiet (fail)
    go_wp2_with fail
    refine (OF.out _).mono ?_
    rintro e w' ⟨rfl, ew⟩
    obtain rfl := ew.symm
    go_wp2_with fail
    refine (AW.out _).mono ?_
    rintro e wz ⟨rfl, xz⟩
    have XZ := hid ((X1.out _).trans xz)
    clear xz
    go_wp2_with fail
    go_ret
    exact ⟨rfl, XZ.out⟩
  have ne : (f == 0) = false := by simp; omega
  have ok : Ok a 1 := ⟨⟨by omega, by omega⟩, by decide⟩
  have NW := hid (fun V => new_yes f r V hf hr f0 (by omega))
  have AG := hid (again_end (a := a) hf hr (show x ≤ 8589934592000 by omega) hx.1 (by omega) (by omega) (show f ≤ r by omega))
  have em := max_sup f x
  obtain ⟨m, hm⟩ : ∃ m, m = sup f x := ⟨_, rfl⟩
  rw [← hm] at AG em
  clear hm
  go_enter Try.func5, Try.ntmps5
  go_wp2_with (rw [← EP.out, ← E1.out])
  go_quiet (fail)
  go_wp2_with fail
  refine (OF.out _).mono ?_
  rintro e w' ⟨rfl, ew⟩
  obtain rfl := ew.symm
  go_wp2_with fail
  refine (NW.out _).mono ?_
  rintro e w1 ⟨b, rfl, t, hb, x1⟩
  have S0 : Hid (PlS w b w1 (f, r)) := ⟨t, (X1.out _).trans x1, Nat.le_trans (X1.out _).size hb⟩
  clear t hb x1 NW X1 E1 EP z0 z1 z2 z3 OF
  go_wp2_with fail
  go_loopw [50] (fun iv wr => ∃ (k : Nat), k ≤ 2001 ∧ iv = .int .i64 (k : Int) ∧ Hid (PlS w b wr (f, again f x a k r))) (fun iv _ => (2001 - RowKit.intOf iv).toNat)
  case atStart => exact ⟨0, by omega, rfl, S0⟩
  case round =>
    clear S0
    obtain ⟨k, hk, rfl, S⟩ := hrel
    by_cases q : k < 2001
    · clear AW AG
      have i1 : (k : Int) < 2001 := by omega
      have i2 : (0 : Int) ≤ (k : Int) := by omega
      have HL := hid (S.out.held x a 1 hx ok)
      rw [show Spd.held (f, again f x a k r).1 (f, again f x a k r).2 x a 1 = again f x a (k + 1) r from rfl] at HL
      simp only at HL
      clear S
      go_wp2_with fail
      refine HL.out.mono ?_
      rintro e w2 ⟨rfl, t2, -⟩
      have S2 := hid t2
      clear t2 HL
      go_wp2_with fail
      go_roundw
      case rel => exact ⟨k + 1, by omega, by go_num, S2⟩
      case measure => simp [RowKit.intOf]; omega
    · obtain rfl : k = 2001 := by omega
      rw [AG.out] at S
      have ST := hid S.out.2.1
      have RT := hid (rate_any b _ _ S.out.1)
      simp only at RT
      clear S hx ok
      go_wp2_with fail
      refine RT.out.mono ?_
      rintro e w' ⟨rfl, ew⟩
      obtain rfl := ew.symm
      go_wp2_with fail
      refine (AW.out _).mono ?_
      rintro e wz ⟨rfl, xz⟩
      have XZ := hid (ST.out.trans xz)
      clear xz
      go_wp2_with fail
      go_ret
      exact ⟨rfl, XZ.out⟩

theorem walk (v0 : Value) (z : Int × Int × Int × Int) (w : World) (hz : Spd.ComesIn v0 z) : Calls Try.prog 5 #[v0] w fun e w' => e = .returned (.bool true) ∧ Ext w w' := by
  obtain ⟨rfl, hf, hr, hx⟩ := hz
  exact walk0 z.1 z.2.1 z.2.2.1 z.2.2.2 w hf hr hx
end Go.Proofs.Ytolcnliebjiejaa.speedComes

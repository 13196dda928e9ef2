/-
  The walk of TripPlays: a trip's guess is what the document says.
-/
import Derived.Test.YtgdjdcedjegkjaaTrpPlay
namespace Go.Proofs.Ytgdjdcedjegkjaa.tripPlays
set_option linter.unusedVariables false
set_option maxRecDepth 100000
open Go.RowKit Go.Lib Go.Proofs.Ytgdjdcedjegkjaa.Trp

set_option maxHeartbeats 4000000 in
theorem walk (fr : Int) (v0 : Value) (l : List Tri) (w : World) (wf : (Lit.int .u64 fr).wf = true) (hz : OpsK (fun _ => True) w v0 l) : Calls Try.prog 3 #[.int .u64 fr, v0] w fun e w' => e = .returned (.bool true) ∧ Ext w w' := by
  obtain ⟨f0, f1⟩ := Go.bounds_u64 wf
  clear wf
  have AW := hid (fun V => awake_any V)
  obtain ⟨ao, c, rfl, k1, k2⟩ := hz.slice
  by_cases big : 80 < l.length
  · obtain ⟨N, eN⟩ : ∃ N, N = l.length := ⟨_, rfl⟩
    rw [← eN] at big k1 ⊢
    unfold maxLen at k2
    have b1 : (80 : Int) < (N : Int) := by omega
    clear hz eN big
    go_enter Try.func3, Try.ntmps3
    go_wp2_with fail
    refine (AW.out _).mono ?_
    rintro e wz ⟨rfl, xz⟩
    have XZ := hid xz
    clear xz
    go_wp2_with fail
    go_ret
    exact ⟨rfl, XZ.out⟩
  have PL := hid (played_any fr _ l w f0 (by omega) hz (by omega))
  have FT := trun_fit fr (by omega) l
  obtain ⟨N, eN⟩ : ∃ N, N = l.length := ⟨_, rfl⟩
  rw [← eN] at big k1 PL ⊢
  have b1 : ¬ (80 : Int) < (N : Int) := by omega
  unfold maxLen at k2
  obtain ⟨s, es⟩ : ∃ s, s = trun fr l := ⟨_, rfl⟩
  rw [← es] at PL FT
  clear hz eN big es
  obtain ⟨g, n⟩ := s
  obtain ⟨g1, g2, _⟩ := FT
  simp only at g1 g2
  obtain ⟨t1, t2, t3, t4⟩ := tk_room g1 g2
  have TK := hid (fun b V (h : TrpV V b (g, n)) => ticks_any b (g, n) V h)
  simp only at TK
  obtain ⟨T, eT⟩ : ∃ T, T = tk g := ⟨_, rfl⟩
  rw [← eT] at TK t1 t2 t3 t4
  clear eT
  have w0 : IntKind.u64.wrap T = T := IntWalk.u64_in _ (by omega)
  have c1 : ¬ T < 1 := by omega
  go_enter Try.func3, Try.ntmps3
  go_wp2_with fail
  refine PL.out.mono ?_
  rintro e w1 ⟨b, rfl, ps⟩
  have S1 := hid ps
  clear PL ps
  go_wp2_with fail
  refine (get_any b _ w1 S1.out.1).mono ?_
  rintro e w2 ⟨rfl, ew⟩
  obtain rfl : w1 = w2 := ew.symm
  go_wp2_with fail
  refine (known_any b _ w1 S1.out.1).mono ?_
  rintro e w2 ⟨rfl, ew⟩
  obtain rfl : w1 = w2 := ew.symm
  go_wp2_with fail
  refine (TK.out b w1 S1.out.1).mono ?_
  rintro e w2 ⟨rfl, x⟩
  have S2 := hid (S1.out.ext x)
  clear S1 x
  go_wp2_with fail
  refine (TK.out b w2 S2.out.1).mono ?_
  rintro e w3 ⟨rfl, x⟩
  have S3 := hid (S2.out.ext x)
  clear S2 x TK
  by_cases q : T = 4294967296
  · subst q
    have d1 : ¬ g ≤ IntKind.u64.wrap 18446744073709551616 := by rw [show IntKind.u64.wrap 18446744073709551616 = 0 by decide +kernel]; omega
    clear t3 w0 c1
    go_wp2_with fail
    refine (AW.out _).mono ?_
    rintro e wz ⟨rfl, xz⟩
    have XZ := hid (S3.out.2.1.trans xz)
    clear xz
    go_wp2_with fail
    go_ret
    exact ⟨rfl, XZ.out⟩
  · have q1 : T < 4294967296 := by omega
    have w1 : IntKind.u64.wrap (T * 4294967296) = T * 4294967296 := IntWalk.u64_in _ (by omega)
    have w2 : IntKind.u64.wrap ((T - 1) * 4294967296) = (T - 1) * 4294967296 := IntWalk.u64_in _ (by omega)
    have w3 : IntKind.u64.wrap (T - 1) = T - 1 := IntWalk.u64_in _ (by omega)
    clear q
    go_wp2_with fail
    refine (AW.out _).mono ?_
    rintro e wz ⟨rfl, xz⟩
    have XZ := hid (S3.out.2.1.trans xz)
    clear xz
    go_wp2_with fail
    go_ret
    exact ⟨rfl, XZ.out⟩
end Go.Proofs.Ytgdjdcedjegkjaa.tripPlays

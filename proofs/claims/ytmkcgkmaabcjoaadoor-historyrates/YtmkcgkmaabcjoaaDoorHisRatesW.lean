/-
  The walk of HistoryRates: the rate is what the mean says; one more packet never makes it greater; with losses it is never 0.
-/
import Derived.Test.YtmkcgkmaabcjoaaDoorHisPlay
namespace Go.Proofs.YtmkcgkmaabcjoaaDoor.historyRates
set_option linter.unusedVariables false
set_option maxRecDepth 100000
open Go.RowKit Go.Lib Go.Proofs.YtmkcgkmaabcjoaaDoor.His

set_option maxHeartbeats 2000000 in
theorem walk (v0 : Value) (l : List (Int × Int)) (n : Int) (w : World) (ht : Wts w) (hz : OpsK (fun _ => True) w v0 l) : Calls Tryd.prog 5 #[v0, .int .i64 n] w fun e w' => e = .returned (.bool true) ∧ Ext w w' := by
  have T := hid ht
  have AW := hid (fun V (X : Ext w V) => awake_any V (ht.ext X))
  obtain ⟨ao, c, rfl, k1, k2⟩ := hz.slice
  by_cases big : 100 < l.length
  · obtain ⟨N, eN⟩ : ∃ N, N = l.length := ⟨_, rfl⟩
    rw [← eN] at big k1 ⊢
    have b1 : (100 : Int) < (N : Int) := by omega
    unfold maxLen at k2
    clear hz ht eN big
    go_enter Tryd.func5, Tryd.ntmps5
    go_wp2_with fail
    refine (AW.out _ (Ext.refl w)).mono ?_
    rintro e wz ⟨rfl, xz⟩
    have XZ := hid ((Ext.refl w).trans xz)
    clear xz
    go_wp2_with fail
    go_ret
    exact ⟨rfl, XZ.out⟩
  have PL := hid (played_any _ l w hz (by omega))
  obtain ⟨N, eN⟩ : ∃ N, N = l.length := ⟨_, rfl⟩
  rw [← eN] at big k1 PL ⊢
  have b1 : ¬ (100 : Int) < (N : Int) := by omega
  unfold maxLen at k2
  obtain ⟨s, es⟩ : ∃ s, s = hrun l := ⟨_, rfl⟩
  rw [← es] at PL
  obtain ⟨o, lst⟩ := s
  clear hz ht eN big es
  go_enter Tryd.func5, Tryd.ntmps5
  go_wp2_with fail
  refine PL.out.mono ?_
  rintro e w1 ⟨b, cv, rfl, ps⟩
  have PS := hid ps
  have F := hid ps.1.1
  have RT := hid (rate_of b o lst w1 ps.1 (T.out.ext ps.2.2.1))
  obtain ⟨ao2, c2, ev, d1, d2⟩ := ps.2.1.slice
  simp only at ev d1
  unfold maxLen at d2
  clear PL ps
  by_cases hl : lst = []
  · subst hl
    have e0 : hrate o [] = 0 := rfl
    rw [e0] at RT
    simp only [List.length_nil] at ev d1
    subst ev
    clear e0
    go_wp2_with fail
    refine RT.out.mono ?_
    rintro e w2 ⟨rfl, x2⟩
    have X2 := hid (PS.out.2.2.1.trans x2)
    have H2 := hid (PS.out.1.ext x2)
    have PK := hid (packet_any b o [] n w2 H2.out)
    clear RT x2
    go_wp2_with fail
    refine PK.out.mono ?_
    rintro e w3 ⟨rfl, h3, kk⟩
    have X3 := hid (ext_kept X2.out kk PS.out.2.2.2)
    by_cases bad : n < 0 ∨ 65536 < n ∨ 1048576 < o + n
    · have ep : perr o n = 11 := by unfold perr; rw [if_pos bad]
      rw [ep]
      clear h3 kk PK bad ep
      go_wp2_with fail
      refine (AW.out _ (X3.out)).mono ?_
      rintro e wz ⟨rfl, xz⟩
      have XZ := hid ((X3.out).trans xz)
      clear xz
      go_wp2_with fail
      go_ret
      exact ⟨rfl, XZ.out⟩
    · have ep : perr o n = 0 := by unfold perr; rw [if_neg bad]
      rw [ep]
      have H3 : Hid (HisV w3 b (o + n) []) := by rw [hst_one] at h3; simp only at h3; rw [if_neg bad] at h3; exact h3
      have R3 := hid (rate_of b (o + n) [] w3 H3.out (T.out.ext X3.out))
      have e0 : hrate (o + n) [] = 0 := rfl
      rw [e0] at R3
      clear h3 kk PK bad ep e0
      go_wp2_with fail
      refine R3.out.mono ?_
      rintro e w4 ⟨rfl, x4⟩
      have X4 := hid (X3.out.trans x4)
      clear R3 x4
      go_wp2_with fail
      refine (AW.out _ (X4.out)).mono ?_
      rintro e wz ⟨rfl, xz⟩
      have XZ := hid ((X4.out).trans xz)
      clear xz
      go_wp2_with fail
      go_ret
      exact ⟨rfl, XZ.out⟩
  · have MN := hid (fun V (X : Ext w1 V) => mean_of b o lst V (PS.out.1.ext X) (T.out.ext (PS.out.2.2.1.trans X)))
    obtain ⟨m0, m1⟩ := mean_room F.out
    obtain ⟨r0, r1⟩ := rate_room F.out hl
    simp only at m0 m1 r0 r1
    have DC := hid (fun V => div_any 4294967296 (hmean o lst) (by decide) m0 (by decide) m1 V)
    have RD := hid (fun o' (h : Fit o' lst) (q : o ≤ o') => rate_down F.out h q)
    have hL : (lst.length : Int) ≠ 0 := by
      intro e
      exact hl (List.eq_nil_of_length_eq_zero (by omega))
    obtain ⟨M, eM⟩ : ∃ M, M = lst.length := ⟨_, rfl⟩
    rw [← eM] at ev d1 hL
    have M0 : 0 < (M : Int) := by omega
    subst ev
    obtain ⟨D, eD⟩ : ∃ D, D = fratio 4294967296 (hmean o lst) := ⟨_, rfl⟩
    have er : hrate o lst = min D 4294967296 := by rw [eD]; unfold hrate; rw [if_neg hl]
    rw [← eD] at DC
    obtain ⟨p, ep⟩ : ∃ p, p = hrate o lst := ⟨_, rfl⟩
    rw [← ep] at RT r0 r1 er
    have RD2 : Hid (∀ o', Fit o' lst → o ≤ o' → hrate o' lst ≤ p) := by rw [ep]; exact RD.out
    obtain ⟨m, em⟩ : ∃ m, m = hmean o lst := ⟨_, rfl⟩
    rw [← em] at MN DC m0 m1
    have px : (D ≤ 4294967296 ∧ p = D) ∨ (4294967296 < D ∧ p = 4294967296) := by omega
    clear eM eD er ep em hl RD
    clear m0 m1
    have hM : ((M : Int) == 0) = false := by rw [beq_eq_false_iff_ne]; exact hL
    clear hL
    rcases px with ⟨dd, rfl⟩ | ⟨dd, rfl⟩
    case' inl =>
      have mn : min p 4294967296 = p := by omega
      have g1 : ¬ 4294967296 < p := by omega
      have g2 : (p == 0) = false := by rw [beq_eq_false_iff_ne]; omega
      clear r0 r1 dd
    case' inr =>
      have mn : min D 4294967296 = 4294967296 := by omega
      clear r0 r1 dd
    all_goals
      go_wp2_with fail
      refine RT.out.mono ?_
      rintro e w2 ⟨rfl, x2⟩
      have X2 := hid x2
      clear RT x2
      go_wp2_with fail
      refine (MN.out _ X2.out).mono ?_
      rintro e w3 ⟨rfl, x3⟩
      have X3 := hid (X2.out.trans x3)
      clear MN x3
      go_wp2_with fail
      refine (DC.out _).mono ?_
      rintro e w4 ⟨rfl, nn, rfl⟩
      have X4 := hid (X3.out.drewN nn)
      have H4 := hid (PS.out.1.ext X4.out)
      have XW := hid (PS.out.2.2.1.trans X4.out)
      have PK := hid (packet_any b o lst n _ H4.out)
      clear DC
      go_wp2_with fail
      refine PK.out.mono ?_
      rintro e w5 ⟨rfl, h5, kk⟩
      have X5 := hid (ext_kept XW.out kk PS.out.2.2.2)
      by_cases bad : n < 0 ∨ 65536 < n ∨ 1048576 < o + n
      · have ep : perr o n = 11 := by unfold perr; rw [if_pos bad]
        rw [ep]
        clear h5 kk PK bad ep
        go_wp2_with fail
        refine (AW.out _ (X5.out)).mono ?_
        rintro e wz ⟨rfl, xz⟩
        have XZ := hid ((X5.out).trans xz)
        clear xz
        go_wp2_with fail
        go_ret
        exact ⟨rfl, XZ.out⟩
      · have ep : perr o n = 0 := by unfold perr; rw [if_neg bad]
        rw [ep]
        have H5 : Hid (HisV w5 b (o + n) lst) := by rw [hst_one] at h5; simp only at h5; rw [if_neg bad] at h5; exact h5
        have R5 := hid (rate_of b (o + n) lst w5 H5.out (T.out.ext X5.out))
        have le := RD2.out (o + n) H5.out.1 (by omega)
        obtain ⟨p2, ep2⟩ : ∃ p2, p2 = hrate (o + n) lst := ⟨_, rfl⟩
        rw [← ep2] at R5 le
        clear h5 kk PK bad ep ep2 RD2
        go_wp2_with fail
        refine R5.out.mono ?_
        rintro e w6 ⟨rfl, x6⟩
        have X6 := hid (X5.out.trans x6)
        clear R5 x6
        go_wp2_with fail
        refine (AW.out _ (X6.out)).mono ?_
        rintro e wz ⟨rfl, xz⟩
        have XZ := hid ((X6.out).trans xz)
        clear xz
        go_wp2_with fail
        go_ret
        exact ⟨rfl, XZ.out⟩
end Go.Proofs.YtmkcgkmaabcjoaaDoor.historyRates

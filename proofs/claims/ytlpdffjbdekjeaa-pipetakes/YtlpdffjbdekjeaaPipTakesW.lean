/-
  The walk of PipeTakes: whatever was put, a taking tells all that is due, and no more.
-/
import Derived.Test.YtlpdffjbdekjeaaPipPlaysW
namespace Go.Proofs.Ytlpdffjbdekjeaa.pipeTakes
set_option linter.unusedVariables false
set_option maxRecDepth 100000
open Go.RowKit Go.Lib

set_option maxHeartbeats 2000000 in
theorem walk (v : Value) (os : OpsP) (now : Int) (w : World) (hv : OpsIn w v os) : Calls Try.prog 4 #[v, .int .i64 now] w fun e w' => e = .returned (.bool true) ∧ Ext w w' := by
  have AW := hid (fun W => awake_any W)
  have SM := hid (small_any v os w hv)
  obtain ⟨ao, c, rfl, q1, q2, hc⟩ := hv.view
  have HC := hid hc
  unfold maxLen at q2
  clear hc hv
  generalize os.length = m at *
  go_enter Try.func4, Try.ntmps4
  go_wp2_with fail
  refine SM.out.mono ?_
  rintro e ws ⟨⟨r, rfl⟩, xs⟩
  have XS := hid xs
  clear SM xs
  cases r with
  | false =>
    go_wp2_with fail
    refine (AW.out ws).mono ?_
    rintro e w2 ⟨rfl, x2⟩
    have X2 := hid (XS.out.trans x2)
    clear x2
    go_wp2_with fail
    go_ret
    exact ⟨rfl, X2.out⟩
  | true =>
    have N := hid (new_any 200 ws (by omega) (by omega))
    have S0 := hid (StP.new XS.out 200 (by omega) (by omega))
    go_wp2_with fail
    refine N.out.mono ?_
    rintro e w1 ⟨rfl, rfl⟩
    generalize ws.alloc (.cells #[.int .i64 200, .slice none 0 0] 50 (0, 0)) = w1 at *
    obtain ⟨b, eb⟩ : ∃ b, b = ws.heap.size := ⟨_, rfl⟩
    rw [← eb]
    rw [← eb] at S0
    clear eb N
    go_wp2_with fail
    go_loopw [7, 9, 29] (fun xv _ i wr => ∃ (k : Nat) (K : Nat → Prop) (x : Ms), k ≤ m ∧ i = .int .i64 (k : Int) ∧ Hid (StP K w wr b 200 xv x)) (fun _ _ i _ => (m - intOf i).toNat)
    case atStart => exact ⟨0, _, [], by omega, rfl, S0.out⟩
    case round =>
      obtain ⟨k, K, x, hk, rfl, S⟩ := hrel
      clear S0
      by_cases h : k < m
      · obtain ⟨g, o, kind, at_, N, s, t, eg, x1, x2, x3, x4, b1, b2⟩ := HC.out k h
        subst eg
        have X := S.out.2.2.2
        replace x1 := X.cell x1
        replace x2 := X.cell x2
        replace x3 := X.cell x3
        replace x4 := X.cell x4
        obtain ⟨W, eW⟩ : ∃ W, W = wr.alloc (.cells #[.int .i64 kind, .int .i64 at_, .int .i64 N, sval s] 32) := ⟨_, rfl⟩
        have XW : Ext wr W := by rw [eW]; exact (Ext.refl wr).alloc _
        have ST := hid ((S.out.ext XW).step kind at_ N (sval s) t ((b1.ext X).ext XW) b2)
        have EW := hid eW
        have i1 : (k : Int) < (m : Int) := by omega
        have i2 : (0 : Int) ≤ (k : Int) := by omega
        obtain ⟨s1, s2, s3⟩ := s
        simp only [sval] at x4 ST EW
        clear S b1 b2 X XW eW
        go_wp2_with fail
        rw [← EW.out]
        refine ST.out.mono ?_
        rintro e w2 ⟨xv', x', K', rfl, a1, a2, a3⟩
        have A1 := hid a1
        clear ST a1 a2 a3 x1 x2 x3 x4
        go_wp2_with fail
        go_roundw
        case rel => exact ⟨k + 1, _, _, by omega, by go_num, A1⟩
        case measure => simp [intOf]; omega
      · obtain rfl : k = m := by omega
        rename_i xv _
        obtain ⟨s1, s2, s3, s4⟩ := S.out
        obtain ⟨xa, xc, ex, y1, y2, _⟩ := s2.view
        subst ex
        unfold maxLen at y2
        obtain ⟨hr, vp, ml, hu, el⟩ := s1
        have lx : x.length ≤ 200 := by
          have h1 := hr.2.2.2
          rw [ord_length] at h1
          omega
        have D := due_any b 200 now vp ml (ord x) wr hu.1 el hr.2.2.1 (by rw [ord_length]; omega)
        rw [du_ord] at D
        have DD := hid D
        clear hr hu el D s2 s3 s4
        obtain ⟨L, eL⟩ : ∃ L, L = x.length := ⟨_, rfl⟩
        rw [← eL] at S y1 lx
        rw [← eL]
        have EL := hid eL
        clear eL
        obtain ⟨U, eU⟩ : ∃ U, U = du x now := ⟨_, rfl⟩
        rw [← eU] at DD
        have EU := hid eU
        clear eU
        go_wp2_with fail
        refine DD.out.mono ?_
        rintro e w2 ⟨rfl, x2⟩
        have S2 := S.out.ext x2
        have TK := hid (lawTake_any K b 200 0 now 0 x (.slice xa L xc) (.slice none 0 0) w2 S2.1 S2.2.1 ⟨_, _, _, rfl⟩)
        have SS2 := hid S2
        clear DD S S2 x2
        go_wp2_with fail
        refine TK.out.mono ?_
        rintro e w3 ⟨xv', x', K', rfl, a1, a2, a3, a4, ⟨pre, a5, a6⟩, a7⟩
        have S3 : StP K' w w3 b 200 xv' x' := ⟨a2, a3, fun i hi => a1 i (SS2.out.2.2.1 i hi), ext_kept SS2.out.2.2.2 a4 SS2.out.2.2.1⟩
        have z0 : du x' now = 0 := a7 (Int.le_refl 0)
        have ln : (L : Int) - (x'.length : Int) = (U : Int) := by
          have h1 := congrArg List.length a5
          rw [List.length_append, ord_length, ord_length] at h1
          have h2 : du x now = pre.length := by
            rw [← du_ord x, a5, du_append, du_ord, z0, du_all a6]; rfl
          have h3 := EL.out
          have h4 := EU.out
          omega
        have lw : IntKind.i64.wrap ((L : Int) - (x'.length : Int)) = (U : Int) := by rw [ln]; exact IntWalk.i64_in _ (by have h4 := EU.out; have h5 := du_le x now; have h3 := EL.out; omega)
        obtain ⟨ya, yc, ey, z1, z2, _⟩ := a3.view
        subst ey
        unfold maxLen at z2
        obtain ⟨hr, vp2, ml2, hu2, el2⟩ := a2
        have D2 := due_any b 200 now vp2 ml2 (ord x') w3 hu2.1 el2 hr.2.2.1 (by have := hr.2.2.2; have := hr.2.1; omega)
        rw [du_ord, z0] at D2
        have DD2 := hid D2
        have SS3 := hid S3
        have lx' : x'.length ≤ 256 := by
          have h1 := hr.2.2.2
          rw [ord_length] at h1
          have := hr.2.1
          omega
        obtain ⟨L', eL'⟩ : ∃ L', L' = x'.length := ⟨_, rfl⟩
        rw [← eL'] at ln lw z1 SS3 lx'
        rw [← eL']
        have LN := hid ln
        clear TK a1 a3 a4 a5 a6 a7 S3 z0 hr hu2 el2 D2 eL' SS2 ln
        have ln2 : ((L : Int) - (L' : Int) == (U : Int)) = true := by rw [LN.out]; simp
        go_wp2_with fail
        refine DD2.out.mono ?_
        rintro e w4 ⟨rfl, x4⟩
        have S4 := SS3.out.ext x4
        have SA := hid (same_any K' b 200 now x' _ w4 S4.1 S4.2.1)
        have X4 := hid S4.2.2.2
        clear DD2 SS3 S4 x4
        go_wp2_with fail
        refine SA.out.mono ?_
        rintro e w5 ⟨rfl, x5⟩
        have X5 := hid (X4.out.trans x5)
        clear SA x5 X4
        go_wp2_with fail
        refine (AW.out _).mono ?_
        rintro e w6 ⟨rfl, x6⟩
        have X6 := hid (X5.out.trans x6)
        clear x6
        go_wp2_with fail
        go_ret
        exact ⟨rfl, X6.out⟩
end Go.Proofs.Ytlpdffjbdekjeaa.pipeTakes

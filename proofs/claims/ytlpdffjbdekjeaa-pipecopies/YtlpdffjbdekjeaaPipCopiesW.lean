/-
  The walk of PipeCopies: a copy tells the same, and goes on by itself.
-/
import Derived.Test.YtlpdffjbdekjeaaPipPlaysW
import Derived.Test.YtlpdffjbdekjeaaPipCopy
namespace Go.Proofs.Ytlpdffjbdekjeaa
set_option linter.unusedVariables false
open Go.RowKit Go.Lib
/-- a pipe stays where all that was there stays -/
theorem PipK.later {K : Nat → Prop} {w w' : World} {b : Nat} {room : Int} {l : Ms} (h : PipK K w b room l) (k : Kept (fun i => i < w.heap.size) w w') : PipK K w' b room l := by
  obtain ⟨hr, v, ml, ⟨h1, h2, h3, h4, h5, h6⟩, el⟩ := h
  exact ⟨hr, v, ml, ⟨h1.kept k h1.lt (fun g hg => (World.ownsRow.lt h1.2.1 g hg).2) (fun p hp g hg => (h1.2.2 p hp).2.lt hg), h2, h3, h4, h5, fun i hi => Nat.lt_of_lt_of_le (h6 i hi) k.size⟩, el⟩
theorem RowK.later {K : Nat → Prop} {w w' : World} {v : Value} {sz : Nat} {cs : List Value} (h : RowK K w v sz cs) (hz : 0 < sz) (k : Kept (fun i => i < w.heap.size) w w') : RowK K w' v sz cs := by
  have h1 : RowK (fun i => K i ∧ i < w.heap.size) w v sz cs := h.mono hz (fun i hi hk => ⟨hk, hi⟩)
  exact (h1.kept (k.mono (fun i hi => hi.2))).mono hz (fun i _ hi => hi.1)
end Go.Proofs.Ytlpdffjbdekjeaa
namespace Go.Proofs.Ytlpdffjbdekjeaa.pipeCopies
set_option linter.unusedVariables false
set_option maxRecDepth 100000
open Go.RowKit Go.Lib

set_option maxHeartbeats 4000000 in
theorem walk (v : Value) (os : OpsP) (v' : Value) (os' : OpsP) (w : World) (hv : OpsIn w v os) (hv' : OpsIn w v' os') : Calls Try.prog 5 #[v, v'] w fun e w' => e = .returned (.bool true) ∧ Ext w w' := by
  have AW := hid (fun W => awake_any W)
  have SM := hid (small_any v os w hv)
  have SM' : Hid (∀ W, Ext w W → Calls Try.prog 7 #[v'] W fun e w' => (∃ r : Bool, e = .returned (.bool r)) ∧ Ext W w') := fun W hW => small_any v' os' W (hv'.ext hW)
  obtain ⟨ao, c, rfl, q1, q2, hc⟩ := hv.view
  obtain ⟨ao', c', rfl, q1', q2', hc'⟩ := hv'.view
  have HC := hid hc
  have HC' := hid hc'
  unfold maxLen at q2 q2'
  clear hc hv hc' hv'
  obtain ⟨m, em⟩ : ∃ m, m = os.length := ⟨_, rfl⟩
  obtain ⟨m', em'⟩ : ∃ m', m' = os'.length := ⟨_, rfl⟩
  rw [← em] at SM HC q1
  rw [← em'] at SM' HC' q1'
  rw [← em, ← em']
  clear em em'
  go_enter Try.func5, Try.ntmps5
  go_wp2_with fail
  refine SM.out.mono ?_
  rintro e ws ⟨⟨r, rfl⟩, xs⟩
  have XS := hid xs
  clear SM xs
  cases r with
  | false =>
    go_wp2_with fail
    refine (AW.out ws).mono ?_
    rintro e w2 ⟨rfl, x2⟩
    have X2 := hid (XS.out.trans x2)
    clear x2
    go_wp2_with fail
    go_ret
    exact ⟨rfl, X2.out⟩
  | true =>
    go_wp2_with fail
    refine (SM'.out ws XS.out).mono ?_
    rintro e wt ⟨⟨r, rfl⟩, xt⟩
    have XT := hid (XS.out.trans xt)
    clear SM' xt XS
    cases r with
    | false =>
      go_wp2_with fail
      refine (AW.out wt).mono ?_
      rintro e w2 ⟨rfl, x2⟩
      have X2 := hid (XT.out.trans x2)
      clear x2
      go_wp2_with fail
      go_ret
      exact ⟨rfl, X2.out⟩
    | true =>
      have N := hid (new_any 9 wt (by omega) (by omega))
      have S0 := hid (StP.new XT.out 9 (by omega) (by omega))
      go_wp2_with fail
      refine N.out.mono ?_
      rintro e w1 ⟨rfl, rfl⟩
      generalize wt.alloc (.cells #[.int .i64 9, .slice none 0 0] 50 (0, 0)) = w1 at *
      obtain ⟨b, eb⟩ : ∃ b, b = wt.heap.size := ⟨_, rfl⟩
      rw [← eb]
      rw [← eb] at S0
      clear eb N
      go_wp2_with fail
      go_loopw [7, 9, 36] (fun xw _ i wr => ∃ (k : Nat) (K : Nat → Prop) (x : Ms) (xv : Value), k ≤ m ∧ i = .int .i64 (k : Int) ∧ xv = xw ∧ Hid (StP K w wr b 9 xv x)) (fun _ _ i _ => (m - intOf i).toNat)
      case atStart => exact ⟨0, _, [], _, by omega, rfl, rfl, S0.out⟩
      case round =>
        obtain ⟨k, K, x, xv, hk, rfl, rfl, S⟩ := hrel
        clear S0
        by_cases h : k < m
        · obtain ⟨g, o, kind, at_, N, s, t, eg, x1, x2, x3, x4, b1, b2⟩ := HC.out k h
          subst eg
          have X := S.out.2.2.2
          replace x1 := X.cell x1
          replace x2 := X.cell x2
          replace x3 := X.cell x3
          replace x4 := X.cell x4
          obtain ⟨W, eW⟩ : ∃ W, W = wr.alloc (.cells #[.int .i64 kind, .int .i64 at_, .int .i64 N, sval s] 32) := ⟨_, rfl⟩
          have XW : Ext wr W := by rw [eW]; exact (Ext.refl wr).alloc _
          have ST := hid ((S.out.ext XW).step kind at_ N (sval s) t ((b1.ext X).ext XW) b2)
          have EW := hid eW
          have i1 : (k : Int) < (m : Int) := by omega
          have i2 : (0 : Int) ≤ (k : Int) := by omega
          obtain ⟨s1, s2, s3⟩ := s
          simp only [sval] at x4 ST EW
          clear S b1 b2 X XW eW
          go_wp2_with fail
          rw [← EW.out]
          refine ST.out.mono ?_
          rintro e w2 ⟨xv', x', K', rfl, a1, a2, a3⟩
          have A1 := hid a1
          clear ST a1 a2 a3 x1 x2 x3 x4
          go_wp2_with fail
          go_roundw
          case rel => exact ⟨k + 1, _, _, _, by omega, by go_num, rfl, A1⟩
          case measure => simp [intOf]; omega
        · obtain rfl : k = m := by omega
          have CP := hid (copy_any K b 9 (ord x) wr S.out.1)
          go_wp2_with fail
          refine CP.out.mono ?_
          rintro e w2 ⟨cb, rfl, hcb, pc, x2⟩
          obtain ⟨w8, e8⟩ : ∃ w8, w8 = wr := ⟨_, rfl⟩
          rw [← e8] at S pc x2
          have T0 : Hid (StP (fun i => i < w8.heap.size) w w2 cb 9 xv x ∧ (∀ i, i < w8.heap.size → i < w8.heap.size) ∧ Kept (fun i => i < w8.heap.size) w8 w2) :=
            ⟨⟨pc, (S.out.2.1.mono (L := fun i => i < w8.heap.size) (by decide) (fun i hi _ => hi)).kept (Kept.of_ext x2), fun i hi => Nat.lt_of_lt_of_le hi S.out.2.2.2.size, S.out.2.2.2.trans x2⟩, fun i h => h, Kept.of_ext x2⟩
          clear CP hcb pc x2 e8
          go_wp2_with fail
          go_loopw [11, 13, 14, 55] (fun yw _ _ i wr => ∃ (j : Nat) (K' : Nat → Prop) (y : Ms) (yv : Value), j ≤ m' ∧ i = .int .i64 (j : Int) ∧ yv = yw ∧ Hid (StP K' w wr cb 9 yv y ∧ (∀ i, i < w8.heap.size → K' i) ∧ Kept (fun i => i < w8.heap.size) w8 wr)) (fun _ _ _ i _ => (m' - intOf i).toNat)
          case atStart => exact ⟨0, _, _, _, by omega, rfl, rfl, T0⟩
          case round =>
            obtain ⟨j, K', y, yv, hj, rfl, rfl, U⟩ := hrel
            clear T0
            by_cases h' : j < m'
            · obtain ⟨g, o, kind, at_, N, s, t, eg, x1, x2, x3, x4, b1, b2⟩ := HC'.out j h'
              subst eg
              have X := U.out.1.2.2.2
              replace x1 := X.cell x1
              replace x2 := X.cell x2
              replace x3 := X.cell x3
              replace x4 := X.cell x4
              obtain ⟨W, eW⟩ : ∃ W, W = wr.alloc (.cells #[.int .i64 kind, .int .i64 at_, .int .i64 N, sval s] 32) := ⟨_, rfl⟩
              have XW : Ext wr W := by rw [eW]; exact (Ext.refl wr).alloc _
              have ST := hid ((U.out.1.ext XW).step kind at_ N (sval s) t ((b1.ext X).ext XW) b2)
              have UU : Hid ((∀ i, i < w8.heap.size → K' i) ∧ Kept (fun i => i < w8.heap.size) w8 W) := ⟨U.out.2.1, U.out.2.2.trans (Kept.of_ext XW)⟩
              have EW := hid eW
              have i1 : (j : Int) < (m' : Int) := by omega
              have i2 : (0 : Int) ≤ (j : Int) := by omega
              obtain ⟨s1, s2, s3⟩ := s
              simp only [sval] at x4 ST EW
              clear U b1 b2 X XW eW S
              go_wp2_with fail
              rw [← EW.out]
              refine ST.out.mono ?_
              rintro e w3 ⟨yv', y', K2, rfl, a1, a2, a3⟩
              have A1 : Hid (StP K2 w w3 cb 9 yv' y' ∧ (∀ i, i < w8.heap.size → K2 i) ∧ Kept (fun i => i < w8.heap.size) w8 w3) := ⟨a1, fun i hi => a2 i (UU.out.1 i hi), UU.out.2.trans (a3.mono UU.out.1)⟩
              clear ST a1 a2 a3 x1 x2 x3 x4 UU
              go_wp2_with fail
              go_roundw
              case rel => exact ⟨j + 1, _, _, _, by omega, by go_num, rfl, A1⟩
              case measure => simp [intOf]; omega
            · obtain rfl : j = m' := by omega
              have SP := hid (same_any K b 9 50 x xv wr (S.out.1.later U.out.2.2) (S.out.2.1.later (by decide) U.out.2.2))
              clear S
              go_wp2_with fail
              refine SP.out.mono ?_
              rintro e w3 ⟨rfl, x3⟩
              have U3 := U.out.1.ext x3
              have SC := hid (same_any K' cb 9 50 y yv w3 U3.1 U3.2.1)
              have X3 := hid U3.2.2.2
              clear SP U U3 x3
              go_wp2_with fail
              refine SC.out.mono ?_
              rintro e w4 ⟨rfl, x4⟩
              have X4 := hid (X3.out.trans x4)
              clear SC x4 X3
              go_wp2_with fail
              refine (AW.out _).mono ?_
              rintro e w5 ⟨rfl, x5⟩
              have X5 := hid (X4.out.trans x5)
              clear x5
              go_wp2_with fail
              go_ret
              exact ⟨rfl, X5.out⟩
end Go.Proofs.Ytlpdffjbdekjeaa.pipeCopies

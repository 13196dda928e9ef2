/-
  The walk of WheelPlays: a wheel answers every sequence of calls as a list does.
-/
import Derived.Test.YthokjkkhkcdceaaWhlState
namespace Go.Proofs.Ythokjkkhkcdceaa.wheelPlays
set_option linter.unusedVariables false
set_option maxRecDepth 100000
open Go.RowKit Go.Lib

set_option maxHeartbeats 2000000 in
theorem walk (v0 : Value) (os : Ops9) (w : World) (hv0 : RowK (fun _ => True) w v0 4 (ocells os)) :
    Calls Try.prog 3 #[v0] w fun e w' => e = .returned (.bool true) ∧ Ext w w' := by
  obtain ⟨ao, c, rfl, h1, h2, hc⟩ := ops_at hv0
  have HC := hid hc
  unfold maxLen at h2
  have N := hid (new_any w)
  have X1 : Hid (Ext w (w.alloc (.cells newCells 50 (0, 0)))) := (Ext.refl w).alloc _
  have SN := hid (St9.new w _ rfl)
  have AW := hid (fun W => awake9_any W)
  clear hc hv0
  obtain ⟨m, em⟩ : ∃ m, m = os.length := ⟨_, rfl⟩
  rw [← em] at h1 HC
  rw [← em]
  clear em
  by_cases q : 80 < m
  · have q' : (80 : Int) < (m : Int) := by omega
    go_enter Try.func3, Try.ntmps3
    go_wp2_with fail
    refine N.out.mono ?_
    rintro e w1 ⟨rfl, rfl⟩
    generalize w.alloc (.cells newCells 50 (0, 0)) = w1 at *
    clear SN
    go_wp2_with fail
    refine (AW.out _).mono ?_
    rintro e w2 ⟨rfl, x2⟩
    have X2 := hid (X1.out.trans x2)
    clear x2
    go_wp2_with fail
    go_ret
    exact ⟨rfl, X2.out⟩
  · have q' : ¬ (80 : Int) < (m : Int) := by omega
    go_enter Try.func3, Try.ntmps3
    go_wp2_with fail
    refine N.out.mono ?_
    rintro e w1 ⟨rfl, rfl⟩
    generalize w.alloc (.cells newCells 50 (0, 0)) = w1 at *
    have XA : Hid (Ext w (w1.alloc (.cells #[.slice none 0 0, .int .i64 0] 28 (0, 0)))) := X1.out.alloc _
    obtain ⟨b, eb⟩ : ∃ b, b = w.heap.size := ⟨_, rfl⟩
    have EB := hid eb
    rw [← eb] at SN
    rw [← eb]
    clear N eb
    go_wp2_with fail
    generalize w1.alloc (.cells #[.slice none 0 0, .int .i64 0] 28 (0, 0)) = wa at *
    go_loopw [6, 7, 8, 9, 10, 26] (fun _ _ _ _ _ i wr => ∃ (k : Nat) (K : Nat → Prop) (mv : Value) (t : Int) (l : Sts), k ≤ m ∧ i = .int .i64 (k : Int) ∧ Hid (St9 K wr b w1.heap.size mv t l ∧ (∀ i, i < b → K i) ∧ Ext w wr)) (fun _ _ _ _ _ i _ => (m - intOf i).toNat)
    case atStart => exact ⟨0, _, _, _, _, by omega, rfl, SN.out, fun i hi => .inl hi, XA.out⟩
    case round =>
      obtain ⟨k, K, mv, t, l, hk, rfl, S⟩ := hrel
      by_cases h : k < m
      · obtain ⟨g, o, rfl, _, x1, x2, x3, x4⟩ := HC.out k h
        obtain ⟨s1, s2, s3⟩ := S.out
        have y1 := s3.cell x1
        have y2 := s3.cell x2
        have y3 := s3.cell x3
        have y4 := s3.cell x4
        have gl := block_lt_of_cell y1
        simp only at gl
        have gn : g ≠ wr.heap.size := by omega
        have z1 := lt_of_row s1.2.2
        have hn : w1.heap.size ≠ wr.heap.size := by omega
        have bz : b < wr.heap.size := s1.1.1.2.2.choose_spec.1.lt
        generalize (os.getD k (0, 0, 0, 0)).1 = o1 at *
        generalize (os.getD k (0, 0, 0, 0)).2.1 = o2 at *
        generalize (os.getD k (0, 0, 0, 0)).2.2.1 = o3 at *
        generalize (os.getD k (0, 0, 0, 0)).2.2.2 = o4 at *
        obtain ⟨W, eW⟩ : ∃ W, W = wr.alloc (.cells #[.int .i64 o1, .int .i64 o2, .int .i64 o3, .int .i64 o4] 30) := ⟨_, rfl⟩
        have XW : Ext wr W := by rw [eW]; exact (Ext.refl wr).alloc _
        have RO : W.heap[wr.heap.size]? = some (.cells #[.int .i64 o1, .int .i64 o2, .int .i64 o3, .int .i64 o4] 30 (0, 0)) := by rw [eW]; exact heap_alloc_new wr _
        have sW := s1.ext XW
        -- the op's box is none of the wheel's
        have sM : St9 (fun i => K i ∨ (wr.heap.size ≤ i ∧ i < W.heap.size)) W b w1.heap.size mv t l := ⟨⟨s1.1.1.more XW, sW.1.2.mono (by decide) (fun i _ hi => .inl hi)⟩, .inl sW.2.1, sW.2.2⟩
        have zW : W.heap.size = wr.heap.size + 1 := by rw [eW]; simp
        obtain ⟨K1, eK1⟩ : ∃ K1 : Nat → Prop, K1 = fun i => K i ∨ (wr.heap.size ≤ i ∧ i < W.heap.size) := ⟨_, rfl⟩
        rw [← eK1] at sM
        have kB : ∀ i, i < b → K1 i := fun i hi => by rw [eK1]; exact .inl (s2 i hi)
        have kO : K1 wr.heap.size := by rw [eK1]; exact .inr ⟨Nat.le_refl _, by omega⟩
        obtain ⟨c0, c1⟩ := sM.cells
        have d0 : W.cell? ⟨wr.heap.size, 0, none⟩ = some (.int .i64 o1) := by rw [cell_of_row _ _ 0 _ _ _ RO]; rfl
        have d1 : W.cell? ⟨wr.heap.size, 1, none⟩ = some (.int .i64 o2) := by rw [cell_of_row _ _ 1 _ _ _ RO]; rfl
        have d2 : W.cell? ⟨wr.heap.size, 2, none⟩ = some (.int .i64 o3) := by rw [cell_of_row _ _ 2 _ _ _ RO]; rfl
        have d3 : W.cell? ⟨wr.heap.size, 3, none⟩ = some (.int .i64 o4) := by rw [cell_of_row _ _ 3 _ _ _ RO]; rfl
        obtain ⟨p0, p1⟩ := s1.cells
        have ST := hid (lawStep_any K1 b t o1 o2 o3 o4 l mv W sM.1)
        have SM := hid sM
        have EW := hid eW
        have ROO := hid RO
        have X3 := hid (s3.trans XW)
        obtain ⟨ma, mn, mc, em2, _⟩ := sM.1.2
        subst em2
        have i1 : (k : Int) < (m : Int) := by omega
        have i2 : (0 : Int) ≤ (k : Int) := by omega
        clear S s1 s2 s3 x1 x2 x3 x4 sW sM XW eW RO eK1 HC c0 c1 d0 d1 d2 d3
        go_wp2_with fail
        rw [← EW.out]
        refine ST.out.mono ?_
        rintro e w2 ⟨mv2, t2, l2, K2, rfl, hK2, b2, k2⟩
        obtain ⟨T1, T2, a1, a2, a3, a4, a5⟩ := SM.out.store k2 hK2 b2
        obtain ⟨na, nn, nc, en2, _⟩ := b2.2
        subst en2
        have hne : wr.heap.size ≠ w1.heap.size := by omega
        have RO2 : ((w2.setCell ⟨w1.heap.size, 0, none⟩ (.slice na nn nc)).setCell ⟨w1.heap.size, 1, none⟩ (.int .i64 t2)).heap[wr.heap.size]? = some (.cells #[.int .i64 o1, .int .i64 o2, .int .i64 o3, .int .i64 o4] 30 (0, 0)) := T2.row ⟨kO, hne⟩ ROO.out
        have X4 : Hid (Ext w ((w2.setCell ⟨w1.heap.size, 0, none⟩ (.slice na nn nc)).setCell ⟨w1.heap.size, 1, none⟩ (.int .i64 t2))) := by
          have hb := EB.out
          have hx := X1.out.size
          refine Below.trans X3.out (T2.below X3.out.size (fun i hi => ⟨kB i (by omega), by omega⟩))
        have TT := hid T1
        have RR2 := hid RO2
        have KB2 : Hid (∀ i, i < b → K2 i) := fun i hi => hK2 i (kB i hi)
        obtain ⟨V, eV⟩ : ∃ V, V = (w2.setCell ⟨w1.heap.size, 0, none⟩ (.slice na nn nc)).setCell ⟨w1.heap.size, 1, none⟩ (.int .i64 t2) := ⟨_, rfl⟩
        rw [← eV] at TT RR2 X4
        obtain ⟨c0, c1⟩ := TT.out.cells
        have e1 : V.cell? ⟨wr.heap.size, 1, none⟩ = some (.int .i64 o2) := by rw [cell_of_row _ _ 1 _ _ _ RR2.out]; rfl
        obtain ⟨v2, u2⟩ := TT.out.1.1.un
        have SA := hid (same_any K2 b t2 v2 l2 (.slice na nn nc) V u2.1 TT.out.1.1.1 TT.out.1.2)
        have G := hid (fun V2 (X : Ext V V2) => get_any b o2 t2 v2 l2 V2 (u2.1.ext X))
        have FD := hid (fun V2 (X : Ext V V2) => refFind_any K2 (.slice na nn nc) l2 o2 V2 (TT.out.1.2.kept (Kept.of_ext X)))
        have UQ := hid TT.out.1.1.1.2.1
        have EV := hid eV
        have CA := hid c0
        have CI := hid e1
        clear T1 T2 RO2 ST SM b2 k2 u2 e1 eV
        go_wp2_with fail
        rw [← EV.out]
        refine SA.out.mono ?_
        rintro e w5 ⟨rfl, x5⟩
        have c5 := x5.cell CI.out
        have G5 := hid (G.out w5 x5)
        have X5 := hid x5
        clear SA G c0 c1 a1 a2 a3 a4 a5
        go_wp2_with fail
        refine G5.out.mono ?_
        rintro e w6 ⟨r6, rfl, hr, x6⟩
        have X6 := hid (X5.out.trans x6)
        have c6 := X6.out.cell CI.out
        have c7 := X6.out.cell CA.out
        have F6 := hid (FD.out w6 X6.out)
        have ENDS : Hid (∃ (K : Nat → Prop) (mv : Value) (t : Int) (l : Sts), St9 K w6 b w1.heap.size mv t l ∧ (∀ i, i < b → K i) ∧ Ext w w6) := ⟨K2, _, t2, l2, TT.out.ext X6.out, KB2.out, X4.out.trans X6.out⟩
        clear G5 FD x6 c5 x5
        rcases hr with ⟨rfl, hn⟩ | ⟨p, hp, ep, rfl⟩
        · go_wp2_with fail
          refine F6.out.mono ?_
          rintro e w7 ⟨rfl, r7, rfl, hr7⟩
          have e7 : r7 = -1 := by
            rcases hr7 with ⟨h, _⟩ | ⟨k7, _, hk7, ek7⟩
            · exact h
            · exact absurd ek7 (hn _ (getD_mem hk7))
          subst e7
          clear hr7 hn F6
          go_wp2_with fail
          go_roundw
          case rel =>
            obtain ⟨K', mv', t', l', hh⟩ := ENDS.out
            exact ⟨k + 1, K', mv', t', l', by omega, by go_num, hh⟩
          case measure => simp [intOf]; omega
        · go_wp2_with fail
          refine F6.out.mono ?_
          rintro e w7 ⟨rfl, r7, rfl, hr7⟩
          have e7 : 0 ≤ r7 := by
            rcases hr7 with ⟨_, h⟩ | ⟨k7, h, _, _⟩
            · exact absurd ep (h p hp)
            · omega
          clear hr7 hp ep F6
          go_wp2_with fail
          go_roundw
          case rel =>
            obtain ⟨K', mv', t', l', hh⟩ := ENDS.out
            exact ⟨k + 1, K', mv', t', l', by omega, by go_num, hh⟩
          case measure => simp [intOf]; omega
      · obtain rfl : k = m := by omega
        have XF := hid S.out.2.2
        clear S
        go_wp2_with fail
        refine (AW.out _).mono ?_
        rintro e w3 ⟨rfl, x3⟩
        have X3 := hid (XF.out.trans x3)
        clear x3
        go_wp2_with fail
        go_ret
        exact ⟨rfl, X3.out⟩
end Go.Proofs.Ythokjkkhkcdceaa.wheelPlays

/-
  The walk of WheelCopies: a copy tells the same, and goes on by itself.
-/
import Derived.Test.YthokjkkhkcdceaaWhlState
namespace Go.Proofs.Ythokjkkhkcdceaa.wheelCopies
set_option linter.unusedVariables false
set_option maxRecDepth 100000
open Go.RowKit Go.Lib

set_option maxHeartbeats 4000000 in
theorem walk (v0 : Value) (os : Ops9) (v1 : Value) (ms : Ops9) (w : World) (hv0 : RowK (fun _ => True) w v0 4 (ocells os)) (hv1 : RowK (fun _ => True) w v1 4 (ocells ms)) :
    Calls Try.prog 5 #[v0, v1] w fun e w' => e = .returned (.bool true) ∧ Ext w w' := by
  obtain ⟨ao, c, rfl, h1, h2, hc⟩ := ops_at hv0
  obtain ⟨bo, d, rfl, k1, k2, hd⟩ := ops_at hv1
  have HC := hid hc
  have HD := hid hd
  unfold maxLen at h2 k2
  have N := hid (new_any w)
  have X1 : Hid (Ext w (w.alloc (.cells newCells 50 (0, 0)))) := (Ext.refl w).alloc _
  have SN := hid (St9.new w _ rfl)
  have AW := hid (fun W => awake9_any W)
  clear hc hv0 hd hv1
  obtain ⟨m, em⟩ : ∃ m, m = os.length := ⟨_, rfl⟩
  rw [← em] at h1 HC
  rw [← em]
  clear em
  obtain ⟨n, en⟩ : ∃ n, n = ms.length := ⟨_, rfl⟩
  rw [← en] at k1 HD
  rw [← en]
  clear en
  have three : (60 < m) ∨ (m ≤ 60 ∧ 60 < n) ∨ (m ≤ 60 ∧ n ≤ 60) := by omega
  rcases three with q | ⟨q0, q⟩ | ⟨q0, q1⟩
  case inl =>
    have q' : (60 : Int) < (m : Int) := by omega
    go_enter Try.func5, Try.ntmps5
    go_wp2_with fail
    refine N.out.mono ?_
    rintro e w1 ⟨rfl, rfl⟩
    generalize w.alloc (.cells newCells 50 (0, 0)) = w1 at *
    clear SN
    go_wp2_with fail
    refine (AW.out _).mono ?_
    rintro e w2 ⟨rfl, x2⟩
    have X2 := hid (X1.out.trans x2)
    clear x2
    go_wp2_with fail
    go_ret
    exact ⟨rfl, X2.out⟩
  case inr.inl =>
    have q2 : ¬ (60 : Int) < (m : Int) := by omega
    have q' : (60 : Int) < (n : Int) := by omega
    go_enter Try.func5, Try.ntmps5
    go_wp2_with fail
    refine N.out.mono ?_
    rintro e w1 ⟨rfl, rfl⟩
    generalize w.alloc (.cells newCells 50 (0, 0)) = w1 at *
    clear SN
    go_wp2_with fail
    refine (AW.out _).mono ?_
    rintro e w2 ⟨rfl, x2⟩
    have X2 := hid (X1.out.trans x2)
    clear x2
    go_wp2_with fail
    go_ret
    exact ⟨rfl, X2.out⟩
  case inr.inr =>
    have q2 : ¬ (60 : Int) < (m : Int) := by omega
    have q3 : ¬ (60 : Int) < (n : Int) := by omega
    go_enter Try.func5, Try.ntmps5
    go_wp2_with fail
    refine N.out.mono ?_
    rintro e w1 ⟨rfl, rfl⟩
    generalize w.alloc (.cells newCells 50 (0, 0)) = w1 at *
    have XA : Hid (Ext w (w1.alloc (.cells #[.slice none 0 0, .int .i64 0] 28 (0, 0)))) := X1.out.alloc _
    obtain ⟨b, eb⟩ : ∃ b, b = w.heap.size := ⟨_, rfl⟩
    have EB := hid eb
    rw [← eb] at SN
    rw [← eb]
    clear N eb
    go_wp2_with fail
    generalize w1.alloc (.cells #[.slice none 0 0, .int .i64 0] 28 (0, 0)) = wa at *
    go_loopw [8, 34] (fun _ i wr => ∃ (k : Nat) (K : Nat → Prop) (mv : Value) (t : Int) (l : Sts), k ≤ m ∧ i = .int .i64 (k : Int) ∧ Hid (St9 K wr b w1.heap.size mv t l ∧ (∀ i, i < b → K i) ∧ Ext w wr)) (fun _ i _ => (m - intOf i).toNat)
    case atStart => exact ⟨0, _, _, _, _, by omega, rfl, SN.out, fun i hi => .inl hi, XA.out⟩
    case round =>
      obtain ⟨k, K, mv, t, l, hk, rfl, S⟩ := hrel
      by_cases h : k < m
      · obtain ⟨g, o, rfl, _, x1, x2, x3, x4⟩ := HC.out k h
        obtain ⟨s1, s2, s3⟩ := S.out
        have y1 := s3.cell x1
        have y2 := s3.cell x2
        have y3 := s3.cell x3
        have y4 := s3.cell x4
        have gl := block_lt_of_cell y1
        simp only at gl
        have gn : g ≠ wr.heap.size := by omega
        have z1 := lt_of_row s1.2.2
        have hn : w1.heap.size ≠ wr.heap.size := by omega
        generalize (os.getD k (0, 0, 0, 0)).1 = o1 at *
        generalize (os.getD k (0, 0, 0, 0)).2.1 = o2 at *
        generalize (os.getD k (0, 0, 0, 0)).2.2.1 = o3 at *
        generalize (os.getD k (0, 0, 0, 0)).2.2.2 = o4 at *
        obtain ⟨W, eW⟩ : ∃ W, W = wr.alloc (.cells #[.int .i64 o1, .int .i64 o2, .int .i64 o3, .int .i64 o4] 30) := ⟨_, rfl⟩
        have XW : Ext wr W := by rw [eW]; exact (Ext.refl wr).alloc _
        have sW := s1.ext XW
        obtain ⟨p0, p1⟩ := s1.cells
        have ST := hid (lawStep_any K b t o1 o2 o3 o4 l mv W sW.1)
        have SM := hid sW
        have EW := hid eW
        have X3 := hid (s3.trans XW)
        have KB := hid s2
        obtain ⟨ma, mn, mc, em2, _⟩ := s1.1.2
        subst em2
        have i1 : (k : Int) < (m : Int) := by omega
        have i2 : (0 : Int) ≤ (k : Int) := by omega
        clear S s1 s2 s3 x1 x2 x3 x4 sW XW eW HC HD
        go_wp2_with fail
        rw [← EW.out]
        refine ST.out.mono ?_
        rintro e w2 ⟨mv2, t2, l2, K2, rfl, hK2, b2, k2⟩
        obtain ⟨T1, T2, a1, a2, a3, a4, a5⟩ := SM.out.store k2 hK2 b2
        obtain ⟨na, nn, nc, en2, _⟩ := b2.2
        subst en2
        have ENDS : Hid (∃ (K : Nat → Prop) (mv : Value) (t : Int) (l : Sts), St9 K ((w2.setCell ⟨w1.heap.size, 0, none⟩ (.slice na nn nc)).setCell ⟨w1.heap.size, 1, none⟩ (.int .i64 t2)) b w1.heap.size mv t l ∧ (∀ i, i < b → K i) ∧ Ext w ((w2.setCell ⟨w1.heap.size, 0, none⟩ (.slice na nn nc)).setCell ⟨w1.heap.size, 1, none⟩ (.int .i64 t2))) := by
          have hb := EB.out
          have hx := X1.out.size
          exact ⟨K2, _, t2, l2, T1, fun i hi => hK2 i (KB.out i hi), Below.trans X3.out (T2.below X3.out.size (fun i hi => ⟨KB.out i (by omega), by omega⟩))⟩
        clear T1 T2 ST SM b2 k2
        go_wp2_with fail
        go_roundw
        case rel =>
          obtain ⟨K', mv', t', l', hh⟩ := ENDS.out
          exact ⟨k + 1, K', mv', t', l', by omega, by go_num, hh⟩
        case measure => simp [intOf]; omega
      · obtain rfl : k = m := by omega
        obtain ⟨s1, s2, s3⟩ := S.out
        obtain ⟨w5, e5⟩ : ∃ w5, w5 = wr := ⟨_, rfl⟩
        subst e5
        obtain ⟨v, hu⟩ := s1.1.1.un
        have CP := hid (copy_any b t v l w5 hu.1 s1.1.1.1 s1.1.1.2.1)
        have HV := hid hu
        have S1 := hid s1
        have X5 := hid s3
        obtain ⟨p0, p1⟩ := s1.cells
        obtain ⟨ma, mn, mc, em2, _⟩ := s1.1.2
        subst em2
        clear S s1 s2 s3 hu HC
        go_wp2_with fail
        refine CP.out.mono ?_
        rintro e w6 ⟨cb, rfl, wk6, x6⟩
        have p0' := x6.cell p0
        have p1' := x6.cell p1
        have z6 := x6.size
        have z1 := lt_of_row S1.out.2.2
        obtain ⟨W7, e7⟩ : ∃ W7, W7 = w6.alloc (.cells #[.slice ma mn mc, .int .i64 t] 28) := ⟨_, rfl⟩
        have X7 : Ext w6 W7 := by rw [e7]; exact (Ext.refl w6).alloc _
        have zw7 : W7.heap.size = w6.heap.size + 1 := by rw [e7]; simp
        have SC : Hid (St9 (fun i => i < w5.heap.size ∨ (w6.heap.size ≤ i ∧ i < W7.heap.size)) W7 cb w6.heap.size (.slice ma mn mc) t l) := by
          refine ⟨⟨wk6.more X7, ?_⟩, .inr ⟨Nat.le_refl _, by omega⟩, by rw [e7]; exact heap_alloc_new w6 _⟩
          exact ((S1.out.1.2.mono (L := fun i => i < w5.heap.size) (by decide) (fun i hi _ => hi)).kept (Kept.of_ext (x6.trans X7))).mono (by decide) (fun i _ hi => .inl hi)
        have XB : Hid (Kept (fun i => i < w5.heap.size) w5 W7) := Kept.of_ext (x6.trans X7)
        have E7 := hid e7
        have hn6 : w1.heap.size ≠ w6.heap.size := by omega
        clear CP wk6 x6 X7 e7 p0 p1
        go_wp2_with fail
        rw [← E7.out]
        go_loopw [12, 13, 53] (fun _ _ i wr => ∃ (j : Nat) (K' : Nat → Prop) (nv : Value) (t' : Int) (l' : Sts), j ≤ n ∧ i = .int .i64 (j : Int) ∧ Hid (St9 K' wr cb w6.heap.size nv t' l' ∧ (∀ i, i < w5.heap.size → K' i) ∧ Kept (fun i => i < w5.heap.size) w5 wr)) (fun _ _ i _ => (n - intOf i).toNat)
        case atStart => exact ⟨0, _, _, _, _, by omega, rfl, SC.out, fun i hi => .inl hi, XB.out⟩
        case round =>
          obtain ⟨j, K', nv, t', l', hj, rfl, S⟩ := hrel
          obtain ⟨s1, s2, s3⟩ := S.out
          have xw : Ext w wr := Below.trans X5.out (s3.below X5.out.size (fun i hi => by have := X5.out.size; omega))
          by_cases h : j < n
          · obtain ⟨g, o, rfl, _, x1, x2, x3, x4⟩ := HD.out j h
            have y1 := xw.cell x1
            have y2 := xw.cell x2
            have y3 := xw.cell x3
            have y4 := xw.cell x4
            have gl := block_lt_of_cell y1
            simp only at gl
            have gn : g ≠ wr.heap.size := by omega
            have zz := lt_of_row s1.2.2
            have hn : w6.heap.size ≠ wr.heap.size := by omega
            generalize (ms.getD j (0, 0, 0, 0)).1 = o1 at *
            generalize (ms.getD j (0, 0, 0, 0)).2.1 = o2 at *
            generalize (ms.getD j (0, 0, 0, 0)).2.2.1 = o3 at *
            generalize (ms.getD j (0, 0, 0, 0)).2.2.2 = o4 at *
            obtain ⟨W, eW⟩ : ∃ W, W = wr.alloc (.cells #[.int .i64 o1, .int .i64 o2, .int .i64 o3, .int .i64 o4] 30) := ⟨_, rfl⟩
            have XW : Ext wr W := by rw [eW]; exact (Ext.refl wr).alloc _
            have sW := s1.ext XW
            obtain ⟨r0, r1⟩ := s1.cells
            have ST := hid (lawStep_any K' cb t' o1 o2 o3 o4 l' nv W sW.1)
            have SM := hid sW
            have EW := hid eW
            have K3 := hid (s3.trans (Kept.of_ext XW))
            have KB := hid s2
            obtain ⟨qa, qn, qc, em3, _⟩ := s1.1.2
            subst em3
            have i1 : (j : Int) < (n : Int) := by omega
            have i2 : (0 : Int) ≤ (j : Int) := by omega
            clear S s1 s2 s3 x1 x2 x3 x4 sW XW eW HD xw p0' p1'
            go_wp2_with fail
            rw [← EW.out]
            refine ST.out.mono ?_
            rintro e w8 ⟨mv2, t2, l2, K2, rfl, hK2, b2, k2⟩
            obtain ⟨T1, T2, a1, a2, a3, a4, a5⟩ := SM.out.store k2 hK2 b2
            obtain ⟨na, nn, nc, en2, _⟩ := b2.2
            subst en2
            have ENDS : Hid (∃ (K' : Nat → Prop) (nv : Value) (t' : Int) (l' : Sts), St9 K' ((w8.setCell ⟨w6.heap.size, 0, none⟩ (.slice na nn nc)).setCell ⟨w6.heap.size, 1, none⟩ (.int .i64 t2)) cb w6.heap.size nv t' l' ∧ (∀ i, i < w5.heap.size → K' i) ∧ Kept (fun i => i < w5.heap.size) w5 ((w8.setCell ⟨w6.heap.size, 0, none⟩ (.slice na nn nc)).setCell ⟨w6.heap.size, 1, none⟩ (.int .i64 t2))) :=
              ⟨K2, _, t2, l2, T1, fun i hi => hK2 i (KB.out i hi), K3.out.trans (T2.mono (fun i hi => ⟨KB.out i hi, by omega⟩))⟩
            clear T1 T2 ST SM b2 k2
            go_wp2_with fail
            go_roundw
            case rel =>
              obtain ⟨K', mv', t', l', hh⟩ := ENDS.out
              exact ⟨j + 1, K', mv', t', l', by omega, by go_num, hh⟩
            case measure => simp [intOf]; omega
          · obtain rfl : j = n := by omega
            have b5 := HV.out.1.lt
            have WV : WhV wr b t v l := HV.out.1.kept s3 b5 (fun k hk g e => (World.ownsRow.lt (HV.out.1.own hk) g e).2)
            have RK := (S1.out.1.2.mono (L := fun i => i < w5.heap.size) (by decide) (fun i hi _ => hi)).kept s3
            have SA := hid (same_any _ b t v l (.slice ma mn mc) wr WV S1.out.1.1.1 RK)
            have rb := s3.row (show w1.heap.size < w5.heap.size from z1) S1.out.2.2
            have g0 : wr.cell? ⟨w1.heap.size, 0, none⟩ = some (.slice ma mn mc) := by rw [cell_of_row _ _ 0 _ _ _ rb]; rfl
            have g1 : wr.cell? ⟨w1.heap.size, 1, none⟩ = some (.int .i64 t) := by rw [cell_of_row _ _ 1 _ _ _ rb]; rfl
            have SN2 := hid s1
            have XF := hid xw
            clear S s1 s2 s3 xw WV RK rb HD p0' p1'
            go_wp2_with fail
            refine SA.out.mono ?_
            rintro e w8 ⟨rfl, x8⟩
            have s8 := SN2.out.ext x8
            obtain ⟨f0, f1⟩ := s8.cells
            obtain ⟨v8, u8⟩ := s8.1.1.un
            have SB := hid (same_any K' cb t' v8 l' nv w8 u8.1 s8.1.1.1 s8.1.2)
            obtain ⟨qa, qn, qc, em3, _⟩ := s8.1.2
            subst em3
            have X8 := hid (XF.out.trans x8)
            clear SA g0 g1 x8 s8 u8
            go_wp2_with fail
            refine SB.out.mono ?_
            rintro e w9 ⟨rfl, x9⟩
            have X9 := hid (X8.out.trans x9)
            clear SB x9 f0 f1
            go_wp2_with fail
            refine (AW.out _).mono ?_
            rintro e w10 ⟨rfl, x10⟩
            have XE := hid (X9.out.trans x10)
            clear x10
            go_wp2_with fail
            go_ret
            exact ⟨rfl, XE.out⟩
end Go.Proofs.Ythokjkkhkcdceaa.wheelCopies

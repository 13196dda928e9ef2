/-
  The walk of RangesAll: all numbers are told, rising, as far as it is asked; a copy goes on by itself.
-/
import Derived.Test.YtbolhkafdgiggaaRngAllM
namespace Go.Proofs.Ytbolhkafdgiggaa.rangesAll
set_option linter.unusedVariables false
set_option maxRecDepth 100000
open Go.RowKit Go.Lib
attribute [local go_sem] Oper.semAt_some

set_option maxHeartbeats 4000000 in
theorem walk (v0 : Value) (os : Ops) (v1 : Value) (ms : Ops) (stop : Int) (w : World) (hv0 : RowK (fun _ => True) w v0 3 (ocells os)) (hv1 : RowK (fun _ => True) w v1 3 (ocells ms)) :
    Calls Try.prog 7 #[v0, v1, .int .i64 stop] w fun e w' => e = .returned (.bool true) ∧ Ext w w' := by
  have HV0 := hid hv0
  have HV1 := hid hv1
  obtain ⟨ao, n, c, rfl, h1, h2, h3, _⟩ := hv0
  obtain ⟨mo, m, d, rfl, k1, k2, k3, _⟩ := hv1
  have e : n = os.length := by rw [ocells_length] at h1; omega
  have e' : m = ms.length := by rw [ocells_length] at k1; omega
  subst e e'
  unfold maxLen at h3 k3
  clear h1 k1
  refine (callsIn_wide (n := 4)).1 (callsIn_of_wp_marks Try.func7 rfl trivial ?_ rfl)
  refine wpIn_wide.2 ?_
  simp only [Try.ntmps7, List.size_toArray, List.length_cons, List.length_nil, Nat.reduceAdd, Nat.reduceSub, Array.replicate_succ, Array.replicate_zero, List.push_toArray, List.append_toArray, List.nil_append, List.cons_append]
  have X0 := hid (((Ext.refl w).alloc (.cells #[.int .i64 stop] 3 (0, 0))).alloc (.cells #[.bool false] 4 (0, 0)))
  have R0 := hid (heap_alloc2_new w (.cells #[.int .i64 stop] 3 (0, 0)) (.cells #[.bool false] 4 (0, 0)))
  have five : (10 < os.length) ∨ (os.length ≤ 10 ∧ 10 < ms.length) ∨ (os.length ≤ 10 ∧ ms.length ≤ 10 ∧ stop < 1) ∨ (os.length ≤ 10 ∧ ms.length ≤ 10 ∧ ¬ stop < 1 ∧ 3000 < stop) ∨ (os.length ≤ 10 ∧ ms.length ≤ 10 ∧ ¬ stop < 1 ∧ ¬ 3000 < stop) := by omega
  rcases five with t | ⟨t1, t⟩ | ⟨t1, t2, t⟩ | ⟨t1, t2, t3, t⟩ | ⟨t1, t2, t3, t4⟩
  case' inl => have i1 : (10 : Int) < (os.length : Int) := by omega
  case' inr.inl =>
    have i1 : ¬ ((10 : Int) < (os.length : Int)) := by omega
    have i2 : (10 : Int) < (ms.length : Int) := by omega
  case' inr.inr.inl =>
    have i1 : ¬ ((10 : Int) < (os.length : Int)) := by omega
    have i2 : ¬ ((10 : Int) < (ms.length : Int)) := by omega
  case' inr.inr.inr.inl =>
    have i1 : ¬ ((10 : Int) < (os.length : Int)) := by omega
    have i2 : ¬ ((10 : Int) < (ms.length : Int)) := by omega
  case' inr.inr.inr.inr =>
    have i1 : ¬ ((10 : Int) < (os.length : Int)) := by omega
    have i2 : ¬ ((10 : Int) < (ms.length : Int)) := by omega
  case inr.inr.inr.inr =>
    obtain ⟨w0, ew0⟩ : ∃ w0, w0 = (w.alloc (.cells #[.int .i64 stop] 3 (0, 0))).alloc (.cells #[.bool false] 4 (0, 0)) := ⟨_, rfl⟩
    have R1 := hid (heap_alloc2_old w (.cells #[.int .i64 stop] 3 (0, 0)) (.cells #[.bool false] 4 (0, 0)))
    have Z0 : Hid (w0.heap.size = w.heap.size + 2) := by show _ = _; rw [ew0]; simp
    have C1 := hid (played_any _ w0 _ os (by rw [ew0]; exact HV0.out.kept (Kept.of_ext X0.out)) (by omega))
    rw [← ew0] at X0 R0 R1
    have EW0 := hid ew0
    clear HV0
    go_wp2_with fail
    rw [← EW0.out]
    refine C1.out.mono ?_
    rintro e w1 ⟨xv, rfl, P⟩
    obtain ⟨K0, l, xs, both, tab, hk0, x01⟩ := P
    obtain ⟨v, sv1, nb, nv, _⟩ := id both.2.1
    obtain ⟨xa, xn, xc, exv, y1, y2, y3, y4⟩ := id both.2.2
    have xl := both.len
    obtain rfl : xn = 16384 := by rw [icells_length, xl] at y1; omega
    obtain ⟨xg, xo, rfl, _, xcell⟩ := y4 (by decide)
    have bge : w0.heap.size ≤ w0.heap.size := Nat.le_refl _
    have blt := sv1.lt
    have vge : Hid (∀ k, v.ownBlock = some k → w0.heap.size ≤ k ∧ k < w1.heap.size) := fun k hk => ⟨Nat.le_of_not_lt fun q => (nv k hk).1 (hk0 k q), (World.ownsRow.lt sv1.2 k hk).2⟩
    have xglt : xg < w1.heap.size := World.block_lt_of_cell? w1 _ (by have := xcell 0 _ (icells_at xs 0 (by omega)); rw [Nat.add_zero] at this; exact this)
    -- the list lies elsewhere than the result
    have r1 := x01.row R0.out
    have xgne : xg ≠ w.heap.size + 1 := by
      intro e
      have h0 := xcell 0 _ (icells_at xs 0 (by omega))
      rw [e, cell_of_row w1 _ _ _ _ _ r1] at h0
      rcases Nat.eq_zero_or_pos (xo + 0) with q | q
      · rw [q] at h0; simp at h0
      · rw [Array.getElem?_eq_none (by simp; omega)] at h0; cases h0
    have X01 := hid x01
    have SV1 := hid sv1
    have XR := hid both.2.2
    have HG := hid both.1.1
    have TB := hid tab
    have XC := hid xcell
    have RR1 := hid r1
    have S1 := hid (x01.row R1.out)
    subst exv
    clear C1 both hk0 x01 sv1 nb nv y1 y4 xcell r1 tab
    obtain ⟨b, eb⟩ : ∃ b, b = w0.heap.size := ⟨_, rfl⟩
    have EB := hid eb
    rw [← eb] at SV1 vge blt ⊢
    unfold maxLen at y3
    clear eb bge
    have X2 := (Ext.refl w1).alloc (.cells #[.slice (some ⟨xg, xo, none⟩) 16384 xc] 26 (0, 0))
    have C2 := hid (copy_any b v l _ (SV1.out.ext X2) (by have := HG.out.len; omega))
    go_wp2_with fail
    refine C2.out.mono ?_
    rintro e w3 ⟨cb, rfl, sk3, x3⟩
    obtain ⟨w2, ew2⟩ : ∃ w2, w2 = w1.alloc (.cells #[.slice (some ⟨xg, xo, none⟩) 16384 xc] 26 (0, 0)) := ⟨_, rfl⟩
    have z2 : w2.heap.size = w1.heap.size + 1 := by rw [ew2]; simp
    have xb2 : w2.heap[w1.heap.size]? = some (.cells #[.slice (some ⟨xg, xo, none⟩) 16384 xc] 26 (0, 0)) := by rw [ew2]; exact heap_alloc_new w1 _
    rw [← ew2] at X2 sk3 x3
    have BT : Hid (Both (fun i => i < w2.heap.size) w3 cb (.slice (some ⟨xg, xo, none⟩) 16384 xc) l xs) :=
      ⟨⟨HG.out, xl⟩, sk3, ((XR.out.kept (Kept.of_ext X2)).mono (L := fun i => i < w2.heap.size) (by decide) (fun i hi _ => hi)).kept (Kept.of_ext x3)⟩
    have X2w := hid ((X0.out.trans X01.out).trans X2)
    have X3 := hid x3
    have XB2 := hid xb2
    have HM := hid (HV1.out.kept (Kept.of_ext X2w.out))
    clear C2 sk3 x3 HV1 xb2 ew2
    go_wp2_with fail
    go_loopw [45] (fun i wr => ∃ (k : Nat) (l' : Sts), k ≤ ms.length ∧ i = .int .i64 (k : Int) ∧ Both (fun i => i < w2.heap.size) wr cb (.slice (some ⟨xg, xo, none⟩) 16384 xc) l' xs ∧ Kept (fun i => i < w2.heap.size) w2 wr) (fun i _ => (ms.length - intOf i).toNat)
    case atStart => exact ⟨0, l, by omega, rfl, BT.out, Kept.of_ext X3.out⟩
    case round =>
      obtain ⟨k, l', hk, rfl, bt, kp⟩ := hrel
      clear BT X3
      by_cases q : k < ms.length
      · have hm := (HM.out.mono (L := fun i => i < w2.heap.size) (by decide) (fun i hi _ => hi)).kept kp
        obtain ⟨ma, mn, mc, em, m1, _, _, m4⟩ := hm
        simp only [Value.slice.injEq] at em
        obtain ⟨rfl, rfl, rfl⟩ := em
        obtain ⟨g, o, rfl, hg, hc⟩ := m4 (by omega)
        have y1 := hc _ _ (ocells_at ms k q).1
        have y2 := hc _ _ (ocells_at ms k q).2.1
        have y3 := hc _ _ (ocells_at ms k q).2.2
        rw [← Nat.add_assoc] at y2 y3
        have xb := kp.row (g := w1.heap.size) (show w1.heap.size < w2.heap.size by omega) XB2.out
        have y5 : wr.cell? ⟨w1.heap.size, 0, none⟩ = some (.slice (some ⟨xg, xo, none⟩) 16384 xc) := by rw [cell_of_row wr _ 0 _ _ _ xb]; rfl
        have wlt := lt_of_row xb
        generalize (ms.getD k (0, 0, 0)).1 = o1 at *
        generalize (ms.getD k (0, 0, 0)).2.1 = o2 at *
        generalize (ms.getD k (0, 0, 0)).2.2 = o3 at *
        have Y := (Ext.refl wr).alloc (.cells #[.int .i64 o1, .int .i64 o2, .int .i64 o3] 28 (0, 0))
        have C := hid (step_any _ _ cb _ l' xs o1 o2 o3 (⟨bt.1, bt.2.1.ext Y, bt.2.2.kept (Kept.of_ext Y)⟩ : Both (fun i => i < w2.heap.size) _ cb _ l' xs))
        have KP := hid (kp.trans (Kept.of_ext Y))
        have RX := hid (bt.2.2.kept (Kept.of_ext Y))
        have i1 : (k : Int) < (ms.length : Int) := by omega
        have i2 : (0 : Int) ≤ (k : Int) := by omega
        clear bt kp hc xb m4 Y
        go_wp2_with fail
        refine C.out.mono ?_
        rintro e w4 ⟨xv', ok, rfl, kp4, K', l'', xs', hK', bt4, _⟩
        have R4 : Hid (Both (fun i => i < w2.heap.size) w4 cb (.slice (some ⟨xg, xo, none⟩) 16384 xc) l'' xs ∧ Kept (fun i => i < w2.heap.size) w2 w4) :=
          ⟨⟨⟨bt4.1.1, xl⟩, bt4.2.1.less (fun i hi => hK' i hi), RX.out.kept kp4⟩, KP.out.trans kp4⟩
        clear C kp4 bt4 RX KP hK'
        go_wp2_with fail
        go_roundw
        case rel => exact ⟨k + 1, l'', by omega, by go_num, R4.1, R4.2⟩
        case measure => simp [intOf]; omega
      · obtain rfl : k = ms.length := by omega
        obtain ⟨w5, e5⟩ : ∃ w5, w5 = wr := ⟨_, rfl⟩
        subst e5
        have B5 := hid (kp.below (Nat.le_refl _) (fun i hi => hi))
        clear bt kp HM
        have X6 := (((Ext.refl w5).alloc (.cells #[.int .i64 0] 3 (0, 0))).alloc (.cells #[.int .i64 0] 3 (0, 0))).alloc (.cells #[.pointer (some ⟨b, 0, none⟩)] 24 (0, 0))
        have N6 := heap_alloc_new ((w5.alloc (.cells #[.int .i64 0] 3 (0, 0))).alloc (.cells #[.int .i64 0] 3 (0, 0))) (.cells #[.pointer (some ⟨b, 0, none⟩)] 24 (0, 0))
        have BX6 : Boxes w5.heap.size (((w5.alloc (.cells #[.int .i64 0] 3 (0, 0))).alloc (.cells #[.int .i64 0] 3 (0, 0))).alloc (.cells #[.pointer (some ⟨b, 0, none⟩)] 24 (0, 0))) 0 0 := by
          have Y := (Ext.refl ((w5.alloc (.cells #[.int .i64 0] 3 (0, 0))).alloc (.cells #[.int .i64 0] 3 (0, 0)))).alloc (.cells #[.pointer (some ⟨b, 0, none⟩)] 24 (0, 0))
          exact ⟨Y.row (heap_alloc2_old w5 _ _), Y.row (heap_alloc2_new w5 _ _)⟩
        have C6 := hid (all_any b ((w5.alloc (.cells #[.int .i64 0] 3 (0, 0))).alloc (.cells #[.int .i64 0] 3 (0, 0))))
        obtain ⟨w6, e6⟩ : ∃ w6, w6 = ((w5.alloc (.cells #[.int .i64 0] 3 (0, 0))).alloc (.cells #[.int .i64 0] 3 (0, 0))).alloc (.cells #[.pointer (some ⟨b, 0, none⟩)] 24 (0, 0)) := ⟨_, rfl⟩
        have z6 : w6.heap.size = w5.heap.size + 3 := by rw [e6]; simp
        rw [← e6] at X6 N6 BX6 C6
        have e7 : ((w5.alloc (.cells #[.int .i64 0] 3 (0, 0))).alloc (.cells #[.int .i64 0] 3 (0, 0))).heap.size = w5.heap.size + 2 := by simp
        rw [e7] at N6 C6
        clear e6 e7
        -- the set, as it lies now
        have z5 : w2.heap.size ≤ w5.heap.size := B5.out.size
        have SV5 : Hid (SetV w5 b v l) := (SV1.out.ext X2).ext B5.out
        have SV6 := hid (SV5.out.ext X6)
        have VN : Hid (∀ k, v.ownBlock = some k → k ≠ w5.heap.size ∧ k ≠ w5.heap.size + 1) := fun k hk => by have := vge.out k hk; omega
        have c6 : w6.cell? ⟨w5.heap.size + 2, 0, none⟩ = some (.pointer (some ⟨b, 0, none⟩)) := by rw [cell_of_row w6 _ 0 _ _ _ N6]; rfl
        have SEQ := hid (all_stops 3 (by decide) (w5.heap.size + 2) b w5.heap.size (w5.heap.size + 1) v l w6 HG.out c6 SV6.out VN.out (by omega) (by omega))
        have X66 := hid X6
        have BX := hid BX6
        clear N6 BX6 X6 c6
        go_wp2_with fail
        refine C6.out.mono ?_
        rintro e w6 ⟨rfl, rfl⟩
        clear C6
        go_wp2_with fail
        refine range_law (Bs := w5.heap.size + 2) rfl SEQ.out (Goes w5 l stop) (Left w5 l stop) (goes_own w5 l stop _ (by omega)) (left_own w5 l stop _ (by omega)) ⟨⟨0, Come.zero HG.out, by simp; omega, BX.out⟩, X66.out.mono (by omega)⟩ ?assign ?body ?done ?stop
        case assign =>
          intro L x W K hK
          simp only [List.setIfInBounds_toArray, List.set_cons_zero, List.set_cons_succ] at hK ⊢
          gi_wp2
          exact hK
        case body =>
          rintro L pre x W ⟨⟨a, cm, pl, bx⟩, hB⟩ hlen
          simp only [List.setIfInBounds_toArray, List.set_cons_zero, List.set_cons_succ]
          obtain ⟨y, py, ay, y16, hy, hno, cm2⟩ := Come.next HG.out cm hlen
          obtain ⟨an, ean⟩ : ∃ an : Nat, (an : Int) = a := ⟨a.toNat, by have := cm.1; omega⟩
          subst ean
          have PN : Hid (x ≠ y → ¬ pre ++ [x] <+: nums l) := fun hne hp => hne (by
            have h1 := List.prefix_of_prefix_length_le hp py (by simp)
            have h2 := h1.eq_of_length (by simp)
            simpa using h2)
          have PY := hid py
          have HY := hid hy
          have HNO := hid hno
          have CM := hid cm2
          have XW := hid (X2.trans ((B5.out.mono (by omega)).trans (hB.mono (by omega))))
          have HB := hid hB
          have W0 := hid (Went.refl w5.heap.size W)
          have BX0 := hid bx
          have hpl : (pre.length : Int) + 1 ≤ stop := by omega
          have PL : (pre ++ [y]).length = pre.length + 1 := by simp
          clear cm py hy hno cm2 hB bx
          obtain ⟨n0, en0⟩ : ∃ n0, n0 = w5.heap.size := ⟨_, rfl⟩
          have EN := hid en0
          rw [← en0] at W0 BX0 ⊢
          have ZN : w2.heap.size ≤ n0 := by omega
          clear en0
          gi_wp2
          gi_loopw [57] (fun _ wi => ∃ i : Nat, an ≤ i ∧ (i : Int) ≤ y ∧ Boxes n0 wi (i : Int) (pre.length : Int) ∧ Went n0 W wi) (fun _ wi => (16384 - intOf ((wi.cell? ⟨n0, 0, none⟩).getD undef)).toNat)
          case atStart => exact ⟨an, Nat.le_refl _, ay, BX0.out, W0.out⟩
          case round =>
            obtain ⟨i, ia, iy, bx, we⟩ := hrel
            clear BX0 W0
            have XI : Hid (Ext w1 wr) := Below.trans XW.out (we.2.2.mono (by omega))
            have d0 := bx.c0
            have d1 := bx.c1
            have f0 := bx.f0
            have f1 := bx.f1
            have dx : wr.cell? ⟨w1.heap.size, 0, none⟩ = some (.slice (some ⟨xg, xo, none⟩) 16384 xc) := by
              have r := (B5.out.block w1.heap.size (by omega)).trans XB2.out
              have r2 := (HB.out.block w1.heap.size (by omega)).trans r
              have r3 := (we.2.2.block w1.heap.size (by omega)).trans r2
              rw [cell_of_row wr _ 0 _ _ _ r3]; rfl
            have ds : wr.cell? ⟨w.heap.size, 0, none⟩ = some (.int .i64 stop) := by rw [cell_of_row wr _ 0 _ _ _ (XI.out.row S1.out)]; rfl
            have dr : wr.cell? ⟨w.heap.size + 1, 0, none⟩ = some (.bool false) := by rw [cell_of_row wr _ 0 _ _ _ (XI.out.row RR1.out)]; rfl
            have fr : wr.frozen? ⟨w.heap.size + 1, 0, none⟩ = false := frozen_of_row _ _ _ _ _ (XI.out.row RR1.out)
            have i0 : (0 : Int) ≤ (i : Int) := by omega
            have i1 : (i : Int) < 16384 := by omega
            have dc := XI.out.cell (XC.out i _ (icells_at xs i (by omega)))
            rw [rangesHas.tab_nat TB.out i (by omega)] at dc
            have BXI := hid bx
            have WE := hid we
            have ME : Hid (wr.cell? ⟨n0, 0, none⟩ = some (.int .i64 (i : Int))) := d0
            clear bx we
            by_cases q : (i : Int) < y
            · rw [HNO.out i (by omega) q, if_neg (by decide)] at dc
              have B2 := hid (BXI.out.set0 ((i : Int) + 1))
              have W2 := hid (WE.out.set n0 (.inl rfl) (.int .i64 ((i : Int) + 1)))
              gi_wp2
              go_roundw
              case rel => exact ⟨i + 1, by omega, by omega, B2.out, W2.out⟩
              case measure => rw [ME.out, B2.out.c0]; simp [intOf]; omega
            · obtain rfl : y = (i : Int) := by omega
              rw [HY.out, if_pos rfl] at dc
              by_cases q2 : x = (i : Int)
              · subst q2
                have B2 := BXI.out.set0 ((i : Int) + 1)
                have W2 := WE.out.set n0 (.inl rfl) (.int .i64 ((i : Int) + 1))
                have B3 := hid (B2.set1 ((pre.length : Int) + 1))
                have W3 := hid (W2.set (n0 + 1) (.inr rfl) (.int .i64 ((pre.length : Int) + 1)))
                have e0 : (wr.setCell ⟨n0, 0, none⟩ (.int .i64 ((i : Int) + 1))).cell? ⟨n0 + 1, 0, none⟩ = some (.int .i64 (pre.length : Int)) := B2.c1
                have e1 := B3.out.c1
                have e2 := B2.f1
                have e3 : ((wr.setCell ⟨n0, 0, none⟩ (.int .i64 ((i : Int) + 1))).setCell ⟨n0 + 1, 0, none⟩ (.int .i64 ((pre.length : Int) + 1))).cell? ⟨w.heap.size, 0, none⟩ = some (.int .i64 stop) := by
                  have h := W3.out.2.2
                  have h2 := (Below.trans XW.out (h.mono (by omega : w1.heap.size ≤ n0)))
                  rw [cell_of_row _ _ 0 _ _ _ (Ext.row h2 S1.out)]; rfl
                have HB3 : Hid (Below w5.heap.size w5 ((wr.setCell ⟨n0, 0, none⟩ (.int .i64 ((i : Int) + 1))).setCell ⟨n0 + 1, 0, none⟩ (.int .i64 ((pre.length : Int) + 1)))) := by
                  have h := W3.out.2.2
                  rw [EN.out] at h
                  rw [EN.out]
                  exact HB.out.trans h
                clear B2 W2
                by_cases q3 : (pre.length : Int) + 1 = stop
                · have P4 : Hid (Left w5 l stop (.exit 2) (pre ++ [(i : Int)]) ((wr.setCell ⟨n0, 0, none⟩ (.int .i64 ((i : Int) + 1))).setCell ⟨n0 + 1, 0, none⟩ (.int .i64 ((pre.length : Int) + 1)))) := by
                    refine .inl ⟨rfl, PY.out, by rw [PL]; omega, ⟨(i : Int) + 1, ?_⟩, HB3.out⟩
                    have b := B3.out
                    rw [EN.out] at b
                    rw [EN.out]
                    rw [← q3]
                    exact b
                  have q4 : ((pre.length : Int) + 1 == stop) = true := by simpa using q3
                  have KO := hid W3.out.1
                  clear q3 PL
                  gi_wp2
                  exact ⟨KO.out, P4.out⟩
                · have P4 : Hid (Goes w5 l stop (pre ++ [(i : Int)]) ((wr.setCell ⟨n0, 0, none⟩ (.int .i64 ((i : Int) + 1))).setCell ⟨n0 + 1, 0, none⟩ (.int .i64 ((pre.length : Int) + 1)))) := by
                    refine ⟨⟨(i : Int) + 1, CM.out, by rw [PL]; omega, ?_⟩, HB3.out⟩
                    have b := B3.out
                    rw [EN.out] at b
                    rw [EN.out, PL]
                    exact b
                  have q4 : ((pre.length : Int) + 1 == stop) = false := by simpa using q3
                  have KO := hid W3.out
                  clear q3 PL
                  gi_wp2
                  exact ⟨KO.1, KO.2.1, P4.out⟩
              · have q5 : (x != (i : Int)) = true := by simpa using q2
                have P4 : Hid (KeepsOthers W (wr.setCell ⟨w.heap.size + 1, 0, none⟩ (.bool false)) ∧ Left w5 l stop .ret (pre ++ [x]) (wr.setCell ⟨w.heap.size + 1, 0, none⟩ (.bool false))) := ⟨WE.out.1.trans (KeepsOthers.setCell _ _ _), .inr ⟨rfl, PN.out q2⟩⟩
                gi_wp2
                exact P4.out
        case' done =>
          rintro D W hD ⟨⟨a, _, pl, bx⟩, hB⟩ hK
          rw [nums_length HG.out] at bx pl
          have ek : (if lens l < stop then lens l else stop) = lens l := if_pos pl
          obtain ⟨kk, ekk⟩ : ∃ kk, kk = lens l := ⟨_, rfl⟩
          rw [← ekk] at bx
          have EK : Hid ((if lens l < stop then lens l else stop) = kk) := by show _ = _; rw [ekk]; exact ek
          clear ek ekk pl
        case' stop =>
          rintro D cd pre W hD hp hx hK
          rcases hx with ⟨rfl, _, hl, ⟨a, bx⟩, hB⟩ | ⟨_, hn⟩
        case' stop.inr => exact absurd hp hn
        case' stop.inl =>
          have hle := hp.length_le
          have ek : (if lens l < stop then lens l else stop) = stop := if_neg (by rw [← nums_length HG.out]; omega)
          obtain ⟨kk, ekk⟩ : ∃ kk, kk = stop := ⟨_, rfl⟩
          rw [← ekk] at bx
          have EK : Hid ((if lens l < stop then lens l else stop) = kk) := by show _ = _; rw [ekk]; exact ek
          clear ek ekk hl hle hp
        all_goals (
          have XW : Hid (Ext w1 W) := X2.trans ((B5.out.mono (by omega)).trans (hB.mono (by omega)))
          have rbn : w.heap.size + 1 < b := by have h1 := EB.out; have h2 := Z0.out; omega
          have SVV : Hid (∀ V, Held (w.heap.size + 1) W V → SetV V b v l) := fun V hV => by
            have s := SV1.out.ext XW.out
            exact ⟨hV.1.row (by omega) s.1, s.2.kept hV.1 (fun g e => by have := vge.out g e; omega)⟩
          have CK : Hid (∀ V, Held (w.heap.size + 1) W V → V.cell? ⟨w5.heap.size + 1, 0, none⟩ = some (.int .i64 kk)) := fun V hV => hV.1.cell (a := ⟨w5.heap.size + 1, 0, none⟩) (show w5.heap.size + 1 ≠ w.heap.size + 1 by omega) bx.c1
          have CS : Hid (∀ V, Held (w.heap.size + 1) W V → V.cell? ⟨w.heap.size, 0, none⟩ = some (.int .i64 stop)) := fun V hV => by
            rw [cell_of_row V _ 0 _ _ _ (hV.1.row (show w.heap.size ≠ w.heap.size + 1 by omega) (XW.out.row S1.out))]; rfl
          have CX : Hid (∀ V, Held (w.heap.size + 1) W V → V.cell? ⟨w1.heap.size, 0, none⟩ = some (.slice (some ⟨xg, xo, none⟩) 16384 xc)) := fun V hV => by
            have r := (B5.out.block w1.heap.size (by omega)).trans XB2.out
            have r2 := (hB.block w1.heap.size (by omega)).trans r
            rw [cell_of_row V _ 0 _ _ _ (hV.1.row (show w1.heap.size ≠ w.heap.size + 1 by omega) r2)]; rfl
          have CR : Hid (∀ V, Held (w.heap.size + 1) W V → RowK (fun i => i ≠ w.heap.size + 1) V (.slice (some ⟨xg, xo, none⟩) 16384 xc) 1 (icells xs)) := fun V hV => by
            have r : RowK (fun i => i ≠ w.heap.size + 1) W (.slice (some ⟨xg, xo, none⟩) 16384 xc) 1 (icells xs) :=
              ⟨_, _, _, rfl, by rw [icells_length, xl], y2, by unfold maxLen; omega, fun _ => ⟨xg, xo, rfl, xgne, fun j u hu => XW.out.cell (XC.out j u hu)⟩⟩
            exact r.kept hV.1
          have RW := hid (XW.out.row RR1.out)
          have HK := hid hK
          have DNE : D ≠ w.heap.size + 1 := by omega
          have EXW : Hid (Ext w W) := (X0.out.trans X01.out).trans XW.out
          obtain ⟨T, eT⟩ : ∃ T, lens l = T := ⟨_, rfl⟩
          rw [eT] at EK
          have ET := hid eT
          have ek := EK.out
          have LL := HG.out.len
          clear eT hB bx hK
          go_wp2_with fail
          refine wp_region_noPanic ?_
          refine wp_region_held_drew (S := fun V => Held (w.heap.size + 1) W V) (by kernel_rfl) ⟨(Kept.refl _ W).drewN 1, _, RW.out⟩ (fun hHeld => ?_)
          refine takeE (v := ?_) 0 80 rfl rfl (by kernel_rfl) (by kernel_rfl) (by kernel_rfl) (fun _ _ _ h => h) (Or.inl ⟨by rfl, fun V hV => ?_⟩) hHeld ?_
          rotate_left
          · (have c := CK.out V hV; go_simp; try with_reducible rfl)
          simp only [Act.put, List.setIfInBounds_toArray, List.set_cons_zero, List.set_cons_succ]
          refine takeE (v := ?_) 1 81 rfl rfl (by kernel_rfl) (by kernel_rfl) (by kernel_rfl) (fun _ _ _ h => h) (Or.inl ⟨by rfl, fun V hV => ?_⟩) hHeld ?_
          rotate_left
          · (have c := CS.out V hV; go_simp; try with_reducible rfl)
          simp only [Act.put, List.setIfInBounds_toArray, List.set_cons_zero, List.set_cons_succ]
          refine takeE (v := ?_) 2 82 rfl rfl (by kernel_rfl) (by kernel_rfl) (by kernel_rfl) (fun _ _ _ h => h) (Or.inl ⟨by rfl, fun V hV => ?_⟩) hHeld ?_
          rotate_left
          · (go_simp; try with_reducible rfl)
          simp only [Act.put, List.setIfInBounds_toArray, List.set_cons_zero, List.set_cons_succ]
          refine callE 3 83 rfl rfl (by kernel_rfl) (by rfl) (by go_simp; first | exact ⟨rfl, rfl⟩ | rfl) ?_
          refine (len_any b v l _ (SVV.out _ hHeld) HG.out).mono ?_
          rw [ET.out]
          rintro e V3 ⟨rfl, x3⟩
          refine ⟨_, rfl, hHeld.ext x3, ?_⟩
          replace hHeld := hHeld.ext x3
          clear x3
          simp only [Act.put, List.setIfInBounds_toArray, List.set_cons_zero, List.set_cons_succ]
          refine takeE (v := ?_) 4 84 rfl rfl (by kernel_rfl) (by kernel_rfl) (by kernel_rfl) (fun _ _ _ h => h) (Or.inl ⟨by rfl, fun V hV => ?_⟩) hHeld ?_
          rotate_left
          · (go_simp; try with_reducible rfl)
          simp only [Act.put, List.setIfInBounds_toArray, List.set_cons_zero, List.set_cons_succ]
          refine takeE (v := ?_) 5 85 rfl rfl (by kernel_rfl) (by kernel_rfl) (by kernel_rfl) (fun _ _ _ h => h) (Or.inl ⟨by rfl, fun V hV => ?_⟩) hHeld ?_
          rotate_left
          · (go_simp; try with_reducible rfl)
          simp only [Act.put, List.setIfInBounds_toArray, List.set_cons_zero, List.set_cons_succ]
          refine takeE (v := ?_) 6 86 rfl rfl (by kernel_rfl) (by kernel_rfl) (by kernel_rfl) (fun _ _ _ h => h) (Or.inl ⟨by rfl, fun V hV => ?_⟩) hHeld ?_
          rotate_left
          · (go_simp; try with_reducible rfl)
          simp only [Act.put, List.setIfInBounds_toArray, List.set_cons_zero, List.set_cons_succ]
          refine takeE (v := ?_) 7 87 rfl rfl (by kernel_rfl) (by kernel_rfl) (by kernel_rfl) (fun _ _ _ h => h) (Or.inl ⟨by rfl, fun V hV => ?_⟩) hHeld ?_
          rotate_left
          · (go_simp; try with_reducible rfl)
          simp only [Act.put, List.setIfInBounds_toArray, List.set_cons_zero, List.set_cons_succ]
          refine takeE (v := ?_) 9 89 rfl rfl (by kernel_rfl) (by kernel_rfl) (by kernel_rfl) (fun _ _ _ h => h) (Or.inl ⟨by rfl, fun V hV => ?_⟩) hHeld ?_
          rotate_left
          · (have c := CX.out V hV; go_simp; try with_reducible rfl)
          simp only [Act.put, List.setIfInBounds_toArray, List.set_cons_zero, List.set_cons_succ]
          refine takeE (v := ?_) 10 90 rfl rfl (by kernel_rfl) (by kernel_rfl) (by kernel_rfl) (fun _ _ _ h => h) (Or.inl ⟨by rfl, fun V hV => ?_⟩) hHeld ?_
          rotate_left
          · (have c := CX.out V hV; go_simp; try with_reducible rfl)
          simp only [Act.put, List.setIfInBounds_toArray, List.set_cons_zero, List.set_cons_succ]
          refine takeE (v := ?_) 11 91 rfl rfl (by kernel_rfl) (by kernel_rfl) (by kernel_rfl) (fun _ _ _ h => h) (Or.inl ⟨by rfl, fun V hV => ?_⟩) hHeld ?_
          rotate_left
          · (go_simp; try with_reducible rfl)
          simp only [Act.put, List.setIfInBounds_toArray, List.set_cons_zero, List.set_cons_succ]
          refine callE 8 88 rfl rfl (by kernel_rfl) (by rfl) (by go_simp; first | exact ⟨rfl, rfl⟩ | rfl) ?_
          refine (stretches_any b v l _ (SVV.out _ hHeld) (by omega)).mono ?_
          rintro e V8 ⟨v8, rfl, o8, x8, _⟩
          refine ⟨_, rfl, hHeld.ext x8, ?_⟩
          replace hHeld := hHeld.ext x8
          clear x8
          simp only [Act.put, List.setIfInBounds_toArray, List.set_cons_zero, List.set_cons_succ]
          refine callE 12 92 rfl rfl (by kernel_rfl) (by rfl) (by go_simp; first | exact ⟨rfl, rfl⟩ | rfl) ?_
          refine (refRuns_any _ V8 _ xs 0 16384 1 (CR.out V8 hHeld) (by omega) (by decide) (by decide) (by omega)).mono ?_
          rintro e V12 ⟨v12, rfl, m, n12, rn⟩
          obtain rfl : m = l := Runs.all HG.out TB.out rn
          refine ⟨_, rfl, hHeld.ext n12.2.2, ?_⟩
          replace hHeld := hHeld.ext n12.2.2
          replace o8 := o8.ext n12.2.2
          clear rn
          simp only [Act.put, List.setIfInBounds_toArray, List.set_cons_zero, List.set_cons_succ]
          refine callE 13 93 rfl rfl (by kernel_rfl) (by rfl) (by go_simp; first | exact ⟨rfl, rfl⟩ | rfl) ?_
          refine (pairs_any _ _ V12 _ _ m m o8.row n12.row (by omega)).mono ?_
          rw [show (m == m) = true by simp]
          rintro e V13 ⟨rfl, n13, rfl⟩
          refine ⟨_, rfl, hHeld.ext ((Ext.refl V12).drewN n13), ?_⟩
          replace hHeld := hHeld.ext ((Ext.refl V12).drewN n13)
          clear o8 n12
          simp only [Act.put, List.setIfInBounds_toArray, List.set_cons_zero, List.set_cons_succ]
          refine takeE (v := ?_) 14 94 rfl rfl (by kernel_rfl) (by kernel_rfl) (by kernel_rfl) (fun _ _ _ h => h) (Or.inl ⟨by rfl, fun V hV => ?_⟩) hHeld ?_
          rotate_left
          · (go_simp; try with_reducible rfl)
          simp only [Act.put, List.setIfInBounds_toArray, List.set_cons_zero, List.set_cons_succ]
          refine takeE (v := ?_) 15 95 rfl rfl (by kernel_rfl) (by kernel_rfl) (by kernel_rfl) (fun _ _ _ h => h) (Or.inl ⟨by rfl, fun V hV => ?_⟩) hHeld ?_
          rotate_left
          · (go_simp; try with_reducible rfl)
          simp only [Act.put, List.setIfInBounds_toArray, List.set_cons_zero, List.set_cons_succ]
          refine callE 16 96 rfl rfl (by kernel_rfl) (by rfl) (by go_simp; first | exact ⟨rfl, rfl⟩ | rfl) ?_
          refine (awake8_any _).mono ?_
          rintro e V16 ⟨rfl, x16⟩
          refine ⟨_, rfl, hHeld.ext x16, ?_⟩
          replace hHeld := hHeld.ext x16
          clear x16
          simp only [Act.put, List.setIfInBounds_toArray, List.set_cons_zero, List.set_cons_succ]
          refine takeE (v := ?_) 17 97 rfl rfl (by kernel_rfl) (by kernel_rfl) (by kernel_rfl) (fun _ _ _ h => h) (Or.inl ⟨by rfl, fun V hV => ?_⟩) hHeld ?_
          rotate_left
          · (go_simp; try with_reducible rfl)
          simp only [Act.put, List.setIfInBounds_toArray, List.set_cons_zero, List.set_cons_succ]
          obtain ⟨rx, cr, fr⟩ := hHeld.cell
          refine storeE 18 rfl (by kernel_rfl) (by rfl) (w' := V16.setCell ⟨w.heap.size + 1, 0, none⟩ (.bool true)) (by go_simp; try with_reducible rfl) (hHeld.set true) ?_
          simp only [Act.put]
          have HV := hid (hHeld.set true)
          have GC : Hid ((V16.setCell ⟨w.heap.size + 1, 0, none⟩ (.bool true)).cell? ⟨w.heap.size + 1, 0, none⟩ = some (.bool true)) := World.cell?_setCell_same' _ _ _ (by rw [cr]; rfl)
          clear hHeld cr fr
          generalize V16.setCell ⟨w.heap.size + 1, 0, none⟩ (.bool true) = V at *
          refine wpAnyH_done (by kernel_rfl) ?_ _
          refine NoPanic.normal ?_
          have hKV : V.heap[D]? = some (.deferred (some [])) := HV.out.1.row DNE HK.out
          have FIN : Hid (Ext w (V.putObj D (.deferred none))) := by
            have h1 : Below w.heap.size w V := Below.trans EXW.out (HV.out.1.below EXW.out.size (fun i hi => by omega))
            exact h1.trans (belowK_b (w := w) (Nat.le_refl _) V D _ _ (by omega) hKV rfl rfl)
          have hc5 := cell_kept GC.out (grownBy_putObj' V D (.deferred none)) (fun r e => by cases e; exact ⟨_, hKV, rfl⟩)
          go_wp2_with fail
          refine ⟨by simp, .inl ⟨_, _, rfl, run_takeDeferred hKV, ?_⟩⟩
          refine ⟨.bool true, ?_, rfl, FIN.out⟩
          simp [results, Try.f7, go_sem, hc5])
  all_goals (
    go_wp2_with fail
    refine (awake8_any _).mono ?_
    rintro e w5 ⟨rfl, x5⟩
    have r5 := x5.row R0.out
    have c5 : w5.cell? ⟨w.heap.size + 1, 0, none⟩ = some (.bool false) := by rw [cell_of_row w5 _ 0 _ _ _ r5]; rfl
    have f5 : w5.frozen? ⟨w.heap.size + 1, 0, none⟩ = false := frozen_of_row _ _ _ _ _ r5
    have g5 : Hid ((w5.setCell ⟨w.heap.size + 1, 0, none⟩ (.bool true)).cell? ⟨w.heap.size + 1, 0, none⟩ = some (.bool true)) := World.cell?_setCell_same' _ _ _ (by rw [c5]; rfl)
    have X5 := hid ((X0.out.trans x5).setCell (p := ⟨w.heap.size + 1, 0, none⟩) (by simp) (.bool true))
    clear x5 r5
    go_wp2_with fail
    refine ⟨.bool true, ?_, rfl, X5.out⟩
    have g6 := g5.out
    simp [results, Try.f7, go_sem, g6])
end Go.Proofs.Ytbolhkafdgiggaa.rangesAll

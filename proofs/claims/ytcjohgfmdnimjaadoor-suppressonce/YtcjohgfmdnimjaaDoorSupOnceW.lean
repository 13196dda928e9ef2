/-
  The walk of SuppressOnce: each round that was started ends once.
-/
import Derived.Test.YtcjohgfmdnimjaaDoorSupPlay
namespace Go.Proofs.YtcjohgfmdnimjaaDoor.suppressOnce
set_option linter.unusedVariables false
set_option maxRecDepth 100000
open Go.RowKit Go.Lib Go.Proofs.YtcjohgfmdnimjaaDoor.Sup

set_option maxHeartbeats 4000000 in
theorem walk (v0 : Value) (l : List OpS) (w : World) (H : Steps w) (hz : OpsIn w v0 l) : Calls Tryd.prog 6 #[v0] w fun e w' => e = .returned (.bool true) ∧ Ext w w' := by
  have AW : Hid (∀ V, Ext w V → Calls Tryd.prog 9 #[] V fun e w' => e = .returned (.bool true) ∧ Ext V w') := fun V x => awake_any V (H.ext x)
  obtain ⟨ao, cp, rfl, k1, k2⟩ := hz.slice
  have OPS := hid hz.seen
  have GET : Hid (∀ k, k < l.length → ∃ q : OpS, l[k]? = some q) := fun k hk => ⟨_, List.getElem?_eq_getElem hk⟩
  obtain ⟨N, eN⟩ : ∃ N, N = l.length := ⟨_, rfl⟩
  rw [← eN] at GET k1 ⊢
  unfold maxLen at k2
  clear hz eN
  by_cases big : 100 < N
  · have b1 : (100 : Int) < (N : Int) := by omega
    clear OPS GET big
    go_enter Tryd.func6, Tryd.ntmps6
    go_wp2_with fail
    refine (new_any _).mono ?_
    rintro e w1 ⟨b, rfl, t1, hb, x1⟩
    have X1 := hid x1
    clear t1 hb x1
    go_wp2_with fail
    refine (AW.out _ X1.out).mono ?_
    rintro e w2 ⟨rfl, x2⟩
    have XF := hid (X1.out.trans x2)
    clear AW X1 x2
    go_wp2_with fail
    go_ret
    exact ⟨rfl, XF.out⟩
  have b1 : ¬ (100 : Int) < (N : Int) := by omega
  go_enter Tryd.func6, Tryd.ntmps6
  go_wp2_with fail
  refine (new_any _).mono ?_
  rintro e w1 ⟨b, rfl, t1, hb, x1⟩
  have S0 : Hid (PlS w b w1 snew) := ⟨t1, x1, hb⟩
  clear t1 hb x1
  go_wp2_with fail
  go_loopw [4, 6, 7, 8, 9, 25] (fun ov _ _ _ _ iv wr => ∃ (k : Nat) (s : SS), k ≤ N ∧ iv = .int .i64 (k : Int) ∧ ov = .int .i64 (if s.2.2.1 then 1 else 0) ∧ Hid (PlS w b wr s)) (fun _ _ _ _ _ iv _ => (N - RowKit.intOf iv).toNat)
  case atStart => exact ⟨0, snew, by omega, rfl, rfl, S0⟩
  case round =>
    clear S0
    obtain ⟨k, s, hk, rfl, rfl, S⟩ := hrel
    by_cases q : k < N
    · clear AW
      have i1 : (k : Int) < (N : Int) := by omega
      have i2 : (0 : Int) ≤ (k : Int) := by omega
      obtain ⟨⟨kd, a, n, c, x⟩, eo⟩ := GET.out k q
      obtain ⟨fo, g, o, rfl, CC⟩ := OPS.out k _ eo
      obtain ⟨y0, y1, y2, y3, y4⟩ := CC _ S.out.2.1
      obtain ⟨f0, f1⟩ := fo
      simp only at y0 y1 y2 y3 y4 f0 f1
      have hb := S.out.1.lt
      have SB := hid (S.out.ext (bx_ext wr kd a n c x))
      obtain ⟨z0, z1, z2, z3, z4⟩ := row_cells (bx_row wr kd a n c x)
      have BR := hid (bx_row wr kd a n c x)
      have E1 : Hid (wr.alloc (.cells #[.int .i64 kd, .int .i64 a, .int .i64 n, .int .i64 c, .int .u64 x] 39) = bx wr kd a n c x) := rfl
      obtain ⟨W1, eW⟩ : ∃ W1, W1 = bx wr kd a n c x := ⟨_, rfl⟩
      rw [← eW] at SB z0 z1 z2 z3 z4 BR E1
      obtain ⟨p, ep⟩ : ∃ p, p = wr.heap.size := ⟨_, rfl⟩
      have EP := hid ep
      rw [← ep] at z0 z1 z2 z3 z4 BR hb
      have pb : p ≠ b := by omega
      clear OPS GET S eo CC eW ep hb
      obtain ⟨m, ow, r, d⟩ := s
      simp only
      by_cases k1 : kd = 1
      · subst k1
        have ST := hid (SB.out.start a n c x f0 f1)
        rcases start_way (m, ow, r, d) a n c x with ⟨dd, es⟩ | ⟨e9, ne9, es⟩
        · rw [es] at ST
          clear es SB BR
          generalize (if r = true then (1 : Int) else 0) = ov
          go_wp2_with (rw [← EP.out, E1.out])
          refine ST.out.mono ?_
          rintro e w2 ⟨rfl, t2, -⟩
          have S2 := hid t2
          clear ST t2
          go_wp2_with fail
          refine (due_any b _ _ S2.out.1).mono ?_
          rintro e w3 ⟨rfl, dn, rfl⟩
          have SF := hid (S2.out.drewN dn)
          clear S2
          go_wp2_with fail
          go_roundw
          case rel => exact ⟨k + 1, (a, x, true, dd), by omega, by go_num, rfl, SF⟩
          case measure => simp [RowKit.intOf]; omega
        · rw [es] at ST
          have ne : (e9 == 0) = false := by simp; omega
          clear es SB BR ne9
          cases r with
          | false =>
            go_wp2_with (rw [← EP.out, E1.out])
            refine ST.out.mono ?_
            rintro e w2 ⟨rfl, t2, -⟩
            have S2 := hid t2
            clear ST t2
            go_wp2_with fail
            refine (due_any b _ _ S2.out.1).mono ?_
            rintro e w3 ⟨rfl, dn, rfl⟩
            have SF := hid (S2.out.drewN dn)
            clear S2
            go_wp2_with fail
            go_roundw
            case rel => exact ⟨k + 1, (m, ow, false, d), by omega, by go_num, rfl, SF⟩
            case measure => simp [RowKit.intOf]; omega
          | true =>
            go_wp2_with (rw [← EP.out, E1.out])
            refine ST.out.mono ?_
            rintro e w2 ⟨rfl, t2, -⟩
            have S2 := hid t2
            clear ST t2
            go_wp2_with fail
            refine (due_any b _ _ S2.out.1).mono ?_
            rintro e w3 ⟨rfl, dn, rfl⟩
            have SF := hid (S2.out.drewN dn)
            clear S2
            go_wp2_with fail
            go_roundw
            case rel => exact ⟨k + 1, (m, ow, true, d), by omega, by go_num, rfl, SF⟩
            case measure => simp [RowKit.intOf]; omega
      by_cases k2 : kd = 2
      · subst k2
        have OW := hid (own_any b _ _ SB.out.1)
        have EC := hid (SB.out.echo a x f0 f1)
        simp only at OW
        rcases echo_way (m, ow, r, d) a x with ⟨hr, hl, es⟩ | es
        · rw [es] at EC
          simp only at hr hl
          subst hr
          have lo : ¬ ow < x - x / 8 := by unfold isLow at hl; omega
          clear es SB hl k1
          go_wp2_with (rw [← EP.out, E1.out])
          refine OW.out.mono ?_
          rintro e w4 ⟨rfl, ew⟩
          obtain rfl : W1 = w4 := ew.symm
          go_wp2_with fail
          refine EC.out.mono ?_
          rintro e w2 ⟨rfl, t2, k2⟩
          have S2 := hid t2
          have R2 := k2.row (g := p) pb BR.out
          obtain ⟨-, -, -, -, x4⟩ := row_cells R2
          clear EC t2 k2 R2 BR z0 z1 z2 z3 z4
          go_wp2_with fail
          refine (due_any b _ _ S2.out.1).mono ?_
          rintro e w3 ⟨rfl, dn, rfl⟩
          have SF := hid (S2.out.drewN dn)
          clear S2
          go_wp2_with fail
          go_roundw
          case rel => exact ⟨k + 1, (m, ow, false, d), by omega, by go_num, rfl, SF⟩
          case measure => simp [RowKit.intOf]; omega
        · rw [es] at EC
          clear es SB BR k1
          cases r with
          | false =>
            go_wp2_with (rw [← EP.out, E1.out])
            refine OW.out.mono ?_
            rintro e w4 ⟨rfl, ew⟩
            obtain rfl : W1 = w4 := ew.symm
            go_wp2_with fail
            refine EC.out.mono ?_
            rintro e w2 ⟨rfl, t2, -⟩
            have S2 := hid t2
            clear EC t2
            go_wp2_with fail
            refine (due_any b _ _ S2.out.1).mono ?_
            rintro e w3 ⟨rfl, dn, rfl⟩
            have SF := hid (S2.out.drewN dn)
            clear S2
            go_wp2_with fail
            go_roundw
            case rel => exact ⟨k + 1, (m, ow, false, d), by omega, by go_num, rfl, SF⟩
            case measure => simp [RowKit.intOf]; omega
          | true =>
            go_wp2_with (rw [← EP.out, E1.out])
            refine OW.out.mono ?_
            rintro e w4 ⟨rfl, ew⟩
            obtain rfl : W1 = w4 := ew.symm
            go_wp2_with fail
            refine EC.out.mono ?_
            rintro e w2 ⟨rfl, t2, -⟩
            have S2 := hid t2
            clear EC t2
            go_wp2_with fail
            refine (due_any b _ _ S2.out.1).mono ?_
            rintro e w3 ⟨rfl, dn, rfl⟩
            have SF := hid (S2.out.drewN dn)
            clear S2
            go_wp2_with fail
            go_roundw
            case rel => exact ⟨k + 1, (m, ow, true, d), by omega, by go_num, rfl, SF⟩
            case measure => simp [RowKit.intOf]; omega
      by_cases k3 : kd = 3
      · subst k3
        have FI := hid (SB.out.fire a)
        rcases fire_way (m, ow, r, d) a with ⟨hr, es⟩ | es
        · rw [es] at FI
          simp only at hr
          subst hr
          clear es SB BR k1 k2
          go_wp2_with (rw [← EP.out, E1.out])
          refine FI.out.mono ?_
          rintro e w2 ⟨rfl, t2, -⟩
          have S2 := hid t2
          clear FI t2
          go_wp2_with fail
          refine (due_any b _ _ S2.out.1).mono ?_
          rintro e w3 ⟨rfl, dn, rfl⟩
          have SF := hid (S2.out.drewN dn)
          clear S2
          go_wp2_with fail
          go_roundw
          case rel => exact ⟨k + 1, (m, ow, false, d), by omega, by go_num, rfl, SF⟩
          case measure => simp [RowKit.intOf]; omega
        · rw [es] at FI
          clear es SB BR k1 k2
          cases r with
          | false =>
            go_wp2_with (rw [← EP.out, E1.out])
            refine FI.out.mono ?_
            rintro e w2 ⟨rfl, t2, -⟩
            have S2 := hid t2
            clear FI t2
            go_wp2_with fail
            refine (due_any b _ _ S2.out.1).mono ?_
            rintro e w3 ⟨rfl, dn, rfl⟩
            have SF := hid (S2.out.drewN dn)
            clear S2
            go_wp2_with fail
            go_roundw
            case rel => exact ⟨k + 1, (m, ow, false, d), by omega, by go_num, rfl, SF⟩
            case measure => simp [RowKit.intOf]; omega
          | true =>
            go_wp2_with (rw [← EP.out, E1.out])
            refine FI.out.mono ?_
            rintro e w2 ⟨rfl, t2, -⟩
            have S2 := hid t2
            clear FI t2
            go_wp2_with fail
            refine (due_any b _ _ S2.out.1).mono ?_
            rintro e w3 ⟨rfl, dn, rfl⟩
            have SF := hid (S2.out.drewN dn)
            clear S2
            go_wp2_with fail
            go_roundw
            case rel => exact ⟨k + 1, (m, ow, true, d), by omega, by go_num, rfl, SF⟩
            case measure => simp [RowKit.intOf]; omega
      have n1 : (kd == 1) = false := by simp; omega
      have n2 : (kd == 2) = false := by simp; omega
      have n3 : (kd == 3) = false := by simp; omega
      clear BR
      cases r with
      | false =>
        go_wp2_with (rw [← EP.out, E1.out])
        refine (due_any b _ _ SB.out.1).mono ?_
        rintro e w3 ⟨rfl, dn, rfl⟩
        have SF := hid (SB.out.drewN dn)
        clear SB
        go_wp2_with fail
        go_roundw
        case rel => exact ⟨k + 1, (m, ow, false, d), by omega, by go_num, rfl, SF⟩
        case measure => simp [RowKit.intOf]; omega
      | true =>
        go_wp2_with (rw [← EP.out, E1.out])
        refine (due_any b _ _ SB.out.1).mono ?_
        rintro e w3 ⟨rfl, dn, rfl⟩
        have SF := hid (SB.out.drewN dn)
        clear SB
        go_wp2_with fail
        go_roundw
        case rel => exact ⟨k + 1, (m, ow, true, d), by omega, by go_num, rfl, SF⟩
        case measure => simp [RowKit.intOf]; omega
    · obtain rfl : N = k := by omega
      have ST := hid S.out.2.1
      clear OPS GET
      generalize (if s.2.2.1 = true then (1 : Int) else 0) = ov
      go_wp2_with fail
      refine (AW.out _ ST.out).mono ?_
      rintro e w5 ⟨rfl, x5⟩
      have XF := hid (ST.out.trans x5)
      clear AW S x5 ST
      go_wp2_with fail
      go_ret
      exact ⟨rfl, XF.out⟩
end Go.Proofs.YtcjohgfmdnimjaaDoor.suppressOnce

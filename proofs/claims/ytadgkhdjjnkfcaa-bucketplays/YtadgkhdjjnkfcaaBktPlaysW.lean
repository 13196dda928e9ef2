/-
  BucketPlays' walk.
-/
import Derived.Test.YtadgkhdjjnkfcaaBktSmall
namespace Go.Proofs.Ytadgkhdjjnkfcaa.bucketPlays
set_option linter.unusedVariables false
set_option maxRecDepth 100000
open Go.RowKit Go.Lib Go.Proofs.Ytadgkhdjjnkfcaa.Bkt

set_option maxHeartbeats 16000000 in
theorem walk (n : Int) (v0 : Value) (l : List TkS) (w : World) (hz : TicksIn w v0 l) : Calls Try.prog 3 #[.int .i64 n, v0] w fun e w' => e = .returned (.bool true) ∧ Ext w w' := by
  have AW := hid (fun V => awake_any V)
  obtain ⟨ao, cp, rfl, k1, k2⟩ := hz.slice
  have OPS := hid hz.seen
  have SM := hid (small_any w w ao cp l hz.seen (Ext.refl w) k1 k2)
  have GET : Hid (∀ k, k < l.length → ∃ q : TkS, l[k]? = some q) := fun k hk => ⟨_, List.getElem?_eq_getElem hk⟩
  generalize decide (smn l.length l ≤ 300) = sm at *
  obtain ⟨N, eN⟩ : ∃ N, N = l.length := ⟨_, rfl⟩
  rw [← eN] at GET k1 SM ⊢
  unfold maxLen at k2
  clear hz eN
  cases sm with
  | false =>
    clear OPS GET
    go_enter Try.func3, Try.ntmps3
    go_wp2_with fail
    refine SM.out.mono ?_
    rintro e w1 ⟨rfl, x1⟩
    have X1 := hid x1
    clear x1
    go_wp2_with fail
    refine (AW.out _).mono ?_
    rintro e wz ⟨rfl, xz⟩
    have XZ := hid (X1.out.trans xz)
    clear xz X1
    go_wp2_with fail
    go_ret
    exact ⟨rfl, XZ.out⟩
  | true =>
  by_cases no : n < 1 ∨ 320 < n
  · have NW := hid (fun V => new_no n V no)
    clear OPS GET
    by_cases q : n < 1
    case' pos => clear no
    case' neg =>
      have n1 : 320 < n := by omega
      clear no
    all_goals
      go_enter Try.func3, Try.ntmps3
      go_wp2_with fail
      refine SM.out.mono ?_
      rintro e w1 ⟨rfl, x1⟩
      have X1 := hid x1
      clear x1
      go_wp2_with fail
      refine (NW.out _).mono ?_
      rintro e w' ⟨rfl, ew⟩
      obtain rfl := ew.symm
      go_wp2_with fail
      refine (AW.out _).mono ?_
      rintro e wz ⟨rfl, xz⟩
      have XZ := hid (X1.out.trans xz)
      clear xz X1
      go_wp2_with fail
      go_ret
      exact ⟨rfl, XZ.out⟩
  have n1 : ¬ n < 1 := by omega
  have n2 : ¬ 320 < n := by omega
  have NW := hid (fun V => new_yes n V (by omega) (by omega))
  clear no
  go_enter Try.func3, Try.ntmps3
  go_wp2_with fail
  refine SM.out.mono ?_
  rintro e w1 ⟨rfl, x1⟩
  have X1 := hid x1
  clear x1 SM
  go_wp2_with fail
  refine (NW.out _).mono ?_
  rintro e w2 ⟨b, rfl, t, hb, x2⟩
  have S0 : Hid (PlS w b w2 (n, 0, 0)) := ⟨t, X1.out.trans x2, Nat.le_trans X1.out.size hb⟩
  clear t hb x2 X1 NW
  go_wp2_with fail
  go_loopw [7, 8, 10, 12, 13, 14, 47, 62] (fun tv sv _ _ _ _ iv _ wr => ∃ (k : Nat) (a c : Int), k ≤ N ∧ iv = .int .i64 (k : Int) ∧ tv = .int .u64 a ∧ sv = .int .i64 c ∧ Hid (PlS w b wr (n, a, c))) (fun _ _ _ _ _ _ iv _ _ => (N - RowKit.intOf iv).toNat)
  case atStart => exact ⟨0, 0, 0, by omega, rfl, rfl, rfl, S0⟩
  case round =>
    clear S0
    obtain ⟨k, a, c, hk, rfl, rfl, rfl, SR⟩ := hrel
    by_cases q : k < N
    · clear AW
      have i1 : (k : Int) < (N : Int) := by omega
      have i2 : (0 : Int) ≤ (k : Int) := by omega
      obtain ⟨o, eo⟩ := GET.out k q
      obtain ⟨wd, ⟨g0, q0, rfl, CC⟩, e1, e2, e3, SI⟩ := OPS.out k _ eo
      obtain ⟨y0, y1⟩ := CC _ SR.out.2.1
      obtain ⟨r, ⟨sa, sn, sc⟩, is⟩ := o
      simp only [sval] at y0 y1 e1 e2 e3 wd SI
      unfold maxLen at e3
      obtain rfl : sn = is.length := e1
      have S1 := hid (SR.out.ext (bx_ext wr r (.slice sa is.length sc)))
      have r1 := bx_row wr r (.slice sa is.length sc)
      obtain ⟨z0, z1⟩ := row_cells r1
      have E1 : Hid (wr.alloc (.cells #[.int .u64 r, .slice sa is.length sc] 33) = bx wr r (.slice sa is.length sc)) := rfl
      obtain ⟨W1, eW⟩ : ∃ W1, W1 = bx wr r (.slice sa is.length sc) := ⟨_, rfl⟩
      rw [← eW] at S1 E1 z0 z1 r1
      obtain ⟨p, ep⟩ : ∃ p, p = wr.heap.size := ⟨_, rfl⟩
      have EP := hid ep
      rw [← ep] at z0 z1 r1
      have pb : Hid (p ≠ b) := by have := SR.out.1.lt; show p ≠ b; omega
      have FL := hid (S1.out.fill r wd)
      rw [show fil (n, a, c) r = (n, wadd a r, c) from rfl] at FL
      have RA := hid (fun V => radd_any (a := a) S1.out.1.1.2.1 wd V)
      generalize wadd a r = a2 at *
      have R1 := hid r1
      have SII := hid SI
      have GI : Hid (∀ j, j < is.length → ∃ n : Int, is[j]? = some n) := fun j hj => ⟨_, List.getElem?_eq_getElem hj⟩
      obtain ⟨L, eL⟩ : ∃ L : Nat, L = is.length := ⟨_, rfl⟩
      rw [← eL] at E1 y1 z1 R1 e2 GI
      clear OPS GET eo CC eW ep r1 eL S1 SR wd SI
      go_wp2_with (rw [← EP.out, E1.out])
      refine FL.out.mono ?_
      rintro e w2 ⟨rfl, t2, k2⟩
      have S2 := hid t2
      obtain ⟨x0, x1⟩ := row_cells (k2.row pb.out R1.out)
      clear t2 k2 FL E1 z0 z1 R1 y0 y1 EP
      go_wp2_with fail
      refine (RA.out _).mono ?_
      rintro e w' ⟨rfl, ew⟩
      obtain rfl := ew.symm
      clear RA
      go_wp2_with fail
      clear x0 x1
      obtain ⟨w8, e8⟩ : ∃ w8, w8 = wr := ⟨_, rfl⟩
      clear e8
      go_loopw [7, 8, 12, 13, 14, 62] (fun tv sv _ _ _ jv wr => ∃ (j : Nat) (a c : Int), j ≤ L ∧ jv = .int .i64 (j : Int) ∧ tv = .int .u64 a ∧ sv = .int .i64 c ∧ Hid (PlS w b wr (n, a, c))) (fun _ _ _ _ _ jv _ => (L - RowKit.intOf jv).toNat)
      case atStart => exact ⟨0, _, _, by omega, rfl, rfl, rfl, S2⟩
      case round =>
        clear S2
        obtain ⟨j, a3, c3, hj, rfl, rfl, rfl, SJ⟩ := hrel
        by_cases q3 : j < L
        · have j1 : (j : Int) < (L : Int) := by omega
          have j2 : (0 : Int) ≤ (j : Int) := by omega
          obtain ⟨m, en⟩ := GI.out j q3
          obtain ⟨g3, q3, rfl, C3⟩ := SII.out j m en
          have y3 := C3 _ SJ.out.2.1
          have RS := hid (fun V => rspend_any m SJ.out.1.1 V)
          have CN := hid (can_any b _ m wr SJ.out.1)
          have SP := hid (fun k => (SJ.out.drewN k).spend m)
          simp only at RS
          clear GI SII en C3
          by_cases cn : Bkt.Can (n, a3, c3) m
          · rw [decide_eq_true cn] at RS CN SP
            rw [spd_yes cn] at RS SP
            simp only at RS SP
            clear cn SJ
            generalize a3 - m * 4294967296 = a4 at *
            go_wp2_with fail
            refine (RS.out _).mono ?_
            rintro e w' ⟨rfl, ew⟩
            obtain rfl := ew.symm
            go_wp2_with fail
            refine CN.out.mono ?_
            rintro e w' ⟨rfl, kk, rfl⟩
            go_wp2_with fail
            refine (SP.out kk).mono ?_
            rintro e w3 ⟨rfl, t3, -⟩
            rw [isum_wrap] at t3
            have S3 := hid t3
            clear t3 y3 RS CN SP
            go_wp2_with fail
            go_roundw
            case rel => exact ⟨j + 1, _, _, by omega, by go_num, rfl, rfl, S3⟩
            case measure => simp [RowKit.intOf]; omega
          · rw [decide_eq_false cn] at RS CN SP
            rw [spd_no cn] at RS SP
            simp only at RS SP
            clear cn SJ
            go_wp2_with fail
            refine (RS.out _).mono ?_
            rintro e w' ⟨rfl, ew⟩
            obtain rfl := ew.symm
            go_wp2_with fail
            refine CN.out.mono ?_
            rintro e w' ⟨rfl, kk, rfl⟩
            go_wp2_with fail
            refine (SP.out kk).mono ?_
            rintro e w3 ⟨rfl, t3, -⟩
            have S3 := hid t3
            clear t3 y3 RS CN SP
            go_wp2_with fail
            go_roundw
            case rel => exact ⟨j + 1, _, _, by omega, by go_num, rfl, rfl, S3⟩
            case measure => simp [RowKit.intOf]; omega
        · obtain rfl : L = j := by omega
          clear GI SII
          have TA := hid (tokens_any b _ wr SJ.out.1)
          have RE := hid (fun V => rend_any SJ.out.1.1 V)
          have FE := hid SJ.out.fin
          rw [show Bkt.fin (n, a3, c3) = (n, (Bkt.fin (n, a3, c3)).2.1, c3) from rfl] at FE
          simp only at TA RE
          generalize (Bkt.fin (n, a3, c3)).2.1 = a4 at *
          clear SJ
          go_wp2_with fail
          refine TA.out.mono ?_
          rintro e w' ⟨rfl, ew⟩
          obtain rfl := ew.symm
          go_wp2_with fail
          refine FE.out.mono ?_
          rintro e w3 ⟨rfl, t3, -⟩
          have S3 := hid t3
          clear t3 FE TA
          go_wp2_with fail
          refine (RE.out _).mono ?_
          rintro e w' ⟨rfl, ew⟩
          obtain rfl := ew.symm
          clear RE
          go_wp2_with fail
          refine (tokens_any b _ _ S3.out.1).mono ?_
          rintro e w' ⟨rfl, ew⟩
          obtain rfl := ew.symm
          simp only
          go_wp2_with fail
          refine (spent_any b _ _ S3.out.1).mono ?_
          rintro e w' ⟨rfl, ew⟩
          obtain rfl := ew.symm
          simp only
          go_wp2_with fail
          go_roundw
          case rel => exact ⟨k + 1, _, _, by omega, by go_num, rfl, rfl, S3⟩
          case measure => simp [RowKit.intOf]; omega
    · obtain rfl : N = k := by omega
      have ST := hid SR.out.2.1
      clear OPS GET SR
      go_wp2_with fail
      refine (AW.out _).mono ?_
      rintro e wz ⟨rfl, xz⟩
      have XZ := hid (ST.out.trans xz)
      clear xz
      go_wp2_with fail
      go_ret
      exact ⟨rfl, XZ.out⟩
end Go.Proofs.Ytadgkhdjjnkfcaa.bucketPlays

/-
  BucketWindows' walk, where the ticks and each one's packets are at most 1048576.
-/
import Derived.Test.YtadgkhdjjnkfcaaBktWin
namespace Go.Proofs.Ytadgkhdjjnkfcaa.bucketWindows
set_option linter.unusedVariables false
set_option maxRecDepth 100000
open Go.RowKit Go.Lib Go.Proofs.Ytadgkhdjjnkfcaa.Bkt

/-- the argument's box -/
def zs (n : Int) (v : Value) (f t : Int) : Array Value := #[.int .i64 n, v, .int .i64 f, .int .i64 t]
theorem zrow {V : World} {g : Nat} {n : Int} {v : Value} {f t : Int} (h : V.heap[g]? = some (.cells (zs n v f t) 44 (0, 0))) : V.cell? ⟨g, 0, none⟩ = some (.int .i64 n) ∧ V.cell? ⟨g, 1, none⟩ = some v ∧ V.cell? ⟨g, 2, none⟩ = some (.int .i64 f) ∧ V.cell? ⟨g, 3, none⟩ = some (.int .i64 t) := by
  refine ⟨?_, ?_, ?_, ?_⟩
  · rw [cell_of_row _ _ 0 _ _ _ h]; rfl
  · rw [cell_of_row _ _ 1 _ _ _ h]; rfl
  · rw [cell_of_row _ _ 2 _ _ _ h]; rfl
  · rw [cell_of_row _ _ 3 _ _ _ h]; rfl

set_option maxHeartbeats 16000000 in
theorem walk0 (n : Int) (v0 : Value) (l : List TkS) (fr to : Int) (w : World) (hz : TicksIn w v0 l) (hN : l.length ≤ 1048576) (hL : ∀ o ∈ l, o.2.2.length ≤ 1048576) : Calls Try.prog 4 #[.agg (zs n v0 fr to)] w fun e w' => e = .returned (.bool true) ∧ Ext w w' := by
  have AW := hid (fun V => awake_any V)
  obtain ⟨ao, cp, rfl, k1, k2⟩ := hz.slice
  have OPS := hid hz.seen
  have sm0 := fun V (X : Ext w V) => small_any w V ao cp l hz.seen X k1 k2
  rw [few hN hL] at sm0
  have SM := hid sm0
  have GET : Hid (∀ k, k < l.length → ∃ q : TkS, l[k]? = some q) := fun k hk => ⟨_, List.getElem?_eq_getElem hk⟩
  have TOT : Hid (∀ k q, l[k]? = some q → tot (l.take (k + 1)) = tot (l.take k) + q.2.2.length ∧ tot (l.take (k + 1)) ≤ tot l) := fun k q h => ⟨tot_take h, tot_part l _⟩
  have T0 : Hid (tot (l.take 0) = 0) := rfl
  have TP : Hid (∀ k, tot (l.take k) ≤ tot l) := fun k => tot_part l k
  clear hz hN hL sm0
  obtain ⟨N, eN⟩ : ∃ N, N = l.length := ⟨_, rfl⟩
  rw [← eN] at GET k1 SM ⊢
  unfold maxLen at k2
  obtain ⟨V, p, e1, ep, XV, RV⟩ : ∃ (V : World) (p : Nat), V = w.alloc (.cells (zs n (.slice ao N cp) fr to) 44) ∧ p = w.heap.size ∧ Ext w V ∧ V.heap[p]? = some (.cells (zs n (.slice ao N cp) fr to) 44 (0, 0)) := ⟨_, _, rfl, rfl, (Ext.refl w).alloc _, heap_alloc_new w _⟩
  obtain ⟨z0, z1, z2, z3⟩ := zrow RV
  have E1 := hid e1
  have EP := hid ep
  have X1 := hid (fun n => XV.drewN n)
  clear e1 ep XV RV eN
  by_cases sm : ¬ N + tot l ≤ 300
  · rw [decide_eq_false sm] at SM
    clear OPS GET TOT T0 TP sm
    go_enter Try.func4, Try.ntmps4
    go_wp2_with (rw [← EP.out, ← E1.out])
    go_quiet (fail)
    go_wp2_with fail
    refine (SM.out _ (X1.out _)).mono ?_
    rintro e w1 ⟨rfl, x1⟩
    have X2 := hid ((X1.out _).trans x1)
    clear x1
    go_wp2_with fail
    refine (AW.out _).mono ?_
    rintro e wz ⟨rfl, xz⟩
    have XZ := hid (X2.out.trans xz)
    clear xz
    go_wp2_with fail
    go_ret
    exact ⟨rfl, XZ.out⟩
  replace sm := Classical.not_not.1 sm
  rw [decide_eq_true sm] at SM
  by_cases bad : n < 1 ∨ 320 < n ∨ fr < 0 ∨ (N : Int) < to ∨ to < fr
  · clear OPS GET TOT T0 TP sm
    by_cases b0 : n < 1
    case' pos => clear bad
    case' neg =>
      by_cases b1 : 320 < n
      case' pos => clear bad
      case' neg =>
        by_cases b2 : fr < 0
        case' pos => clear bad
        case' neg =>
          by_cases b3 : (N : Int) < to
          case' pos => clear bad
          case' neg =>
            have b4 : to < fr := by omega
            clear bad
    all_goals
      go_enter Try.func4, Try.ntmps4
      go_wp2_with (rw [← EP.out, ← E1.out])
      go_quiet (fail)
      go_wp2_with fail
      refine (SM.out _ (X1.out _)).mono ?_
      rintro e w1 ⟨rfl, x1⟩
      have X2 := hid ((X1.out _).trans x1)
      clear x1
      go_wp2_with fail
      refine (AW.out _).mono ?_
      rintro e wz ⟨rfl, xz⟩
      have XZ := hid (X2.out.trans xz)
      clear xz
      go_wp2_with fail
      go_ret
      exact ⟨rfl, XZ.out⟩
  have n1 : ¬ n < 1 := by omega
  have n2 : ¬ 320 < n := by omega
  have f0 : ¬ fr < 0 := by omega
  have t0 : ¬ (N : Int) < to := by omega
  have t1 : ¬ to < fr := by omega
  have NW := hid (fun V => new_yes n V (by omega) (by omega))
  obtain ⟨FR, eF⟩ : ∃ FR : Nat, fr = (FR : Int) := ⟨fr.toNat, by omega⟩
  obtain ⟨TO, eT⟩ : ∃ TO : Nat, to = (TO : Int) := ⟨to.toNat, by omega⟩
  subst eF eT
  clear bad
  go_enter Try.func4, Try.ntmps4
  go_wp2_with (rw [← EP.out, ← E1.out])
  go_quiet (fail)
  go_wp2_with fail
  refine (SM.out _ (X1.out _)).mono ?_
  rintro e w1 ⟨rfl, x1⟩
  have X2 := hid ((X1.out _).trans x1)
  clear x1 SM z0 z1 z2 z3 X1 E1 EP
  go_wp2_with fail
  refine (NW.out _).mono ?_
  rintro e w2 ⟨b, rfl, t, hb, x2⟩
  have S0 : Hid (PlS w b w2 (n, 0, 0)) := ⟨t, X2.out.trans x2, Nat.le_trans X2.out.size hb⟩
  have R0 : Hid (Rts w w2 (.slice none 0 0) []) := (NewR.nil ru 30 1 w).ext S0.out.2.1
  have I0 : Hid (Inv n FR 0 (tot (l.take 0)) 0 0 0 []) := by
    show Inv n FR 0 (tot (l.take 0)) 0 0 0 []
    rw [T0.out]
    exact inv_begin (by omega) FR
  clear t hb x2 X2 NW
  go_wp2_with fail
  go_loopw [9, 10, 11, 12, 14, 65, 90] (fun gv rv _ _ _ iv _ wr => ∃ (k : Nat) (a c g : Int) (rl : List Int), k ≤ TO ∧ iv = .int .i64 (k : Int) ∧ gv = .int .i64 g ∧ Hid (PlS w b wr (n, a, c)) ∧ Hid (Rts w wr rv rl) ∧ Hid (Inv n FR k (tot (l.take k)) a c g rl)) (fun _ _ _ _ _ iv _ _ => (TO - RowKit.intOf iv).toNat)
  case atStart => exact ⟨0, 0, 0, 0, [], by omega, rfl, rfl, S0, R0, I0⟩
  case round =>
    clear S0 R0 I0
    obtain ⟨k, a, c, g, rl, hk, rfl, rfl, SR, RR, IR⟩ := hrel
    by_cases q : k < TO
    · clear AW
      have i1 : (k : Int) < (TO : Int) := by omega
      have i2 : (0 : Int) ≤ (k : Int) := by omega
      obtain ⟨o, eo⟩ := GET.out k (by omega)
      obtain ⟨wd, ⟨g0, q0, rfl, CC⟩, e1, e2, e3, SI⟩ := OPS.out k _ eo
      obtain ⟨y0, y1⟩ := CC _ SR.out.2.1
      obtain ⟨tk1, tk2⟩ := TOT.out k _ eo
      obtain ⟨r, ⟨sa, sn, sc⟩, is⟩ := o
      simp only [sval] at y0 y1 e1 e2 e3 wd SI tk1 tk2
      unfold maxLen at e3
      obtain rfl : sn = is.length := e1
      have S1 := hid (SR.out.ext (bx_ext wr r (.slice sa is.length sc)))
      have R1 := hid (RR.out.ext (bx_ext wr r (.slice sa is.length sc)))
      have r1 := bx_row wr r (.slice sa is.length sc)
      obtain ⟨z0, z1⟩ := row_cells r1
      have E1 : Hid (wr.alloc (.cells #[.int .u64 r, .slice sa is.length sc] 33) = bx wr r (.slice sa is.length sc)) := rfl
      obtain ⟨W1, eW⟩ : ∃ W1, W1 = bx wr r (.slice sa is.length sc) := ⟨_, rfl⟩
      rw [← eW] at S1 R1 E1 z0 z1 r1
      obtain ⟨p, ep⟩ : ∃ p, p = wr.heap.size := ⟨_, rfl⟩
      have EP := hid ep
      rw [← ep] at z0 z1 r1
      have pb : Hid (p ≠ b) := by have := SR.out.1.lt; show p ≠ b; omega
      have B1 := hid r1
      have WD := hid wd
      have SII := hid SI
      have GI : Hid (∀ j, j < is.length → ∃ n : Int, is[j]? = some n) := fun j hj => ⟨_, List.getElem?_eq_getElem hj⟩
      obtain ⟨L, eL⟩ : ∃ L : Nat, L = is.length := ⟨_, rfl⟩
      rw [← eL] at E1 y1 z1 B1 e2 GI tk1
      obtain ⟨Q, eQ⟩ : ∃ Q : Nat, Q = tot (l.take k) := ⟨_, rfl⟩
      have QL : Hid (Q + L ≤ 300) := (show Q + L ≤ 300 by omega)
      have EQ : Hid (tot (l.take (k + 1)) = Q + L) := (show _ = _ by omega)
      rw [← eQ] at IR
      have rk : Hid (rl.length ≤ 90000) := (show rl.length ≤ 90000 by have := IR.out.2.1.1; omega)
      clear OPS GET eo CC eW ep r1 eL eQ tk1 tk2 wd SI SR RR
      have FL := hid (fun V (P : PlS w b V (n, a, c)) => P.fill r WD.out)
      rw [show fil (n, a, c) r = (n, wadd a r, c) from rfl] at FL
      obtain ⟨a2, ea2⟩ : ∃ a2, a2 = wadd a r := ⟨_, rfl⟩
      rw [← ea2] at FL
      obtain ⟨av, cv, ev, -⟩ := R1.out.slice
      subst ev
      by_cases c1 : k < FR
      case' pos =>
        have d1 : ((k : Int) == (FR : Int)) = false := by simp; omega
        have d2 : ¬ (FR : Int) ≤ (k : Int) := by omega
        obtain ⟨g2, eg2⟩ : ∃ g2, g2 = g := ⟨_, rfl⟩
        obtain ⟨rl2, er2⟩ : ∃ rl2, rl2 = rl := ⟨_, rfl⟩
        have M0 : Hid (Mid n FR k Q a2 c g2 rl2) := by
          rw [eg2, er2, ea2]
          exact mid_before IR.out WD.out c1
        rw [← er2] at R1
        obtain ⟨m2, em2⟩ : ∃ m2 : Nat, m2 = rl2.length := ⟨_, rfl⟩
        rw [← em2] at R1
        rw [er2] at em2
        rw [show rl.length = m2 from em2.symm, ← eg2]
        obtain ⟨av2, eav⟩ : ∃ av2, av2 = av := ⟨_, rfl⟩
        obtain ⟨cv2, ecv⟩ : ∃ cv2, cv2 = cv := ⟨_, rfl⟩
        rw [← eav, ← ecv] at R1
        rw [← eav, ← ecv]
        clear er2 em2 rk IR c1 ea2 eg2 eav ecv
        go_wp2_with (rw [← EP.out, E1.out])
        have S2 := S1
        have R2 := R1
        have B2 := B1
      case' neg =>
        obtain ⟨v', w', run, N', P', B'⟩ := rts_put R1.out S1.out B1.out r rk.out
        obtain ⟨av2, cv2, ev2, -⟩ := N'.slice
        subst ev2
        have RUN := hid run
        have S2 := hid P'
        have R2 := hid N'
        have B2 := hid B'
        obtain ⟨x0, x1⟩ := row_cells B'
        obtain ⟨rl2, er2⟩ : ∃ rl2, rl2 = rl ++ [r] := ⟨_, rfl⟩
        rw [← er2] at R2 RUN
        obtain ⟨m1, em1⟩ : ∃ m1 : Nat, m1 = rl.length := ⟨_, rfl⟩
        obtain ⟨m2, em2⟩ : ∃ m2 : Nat, m2 = rl2.length := ⟨_, rfl⟩
        rw [← em1, ← em2] at RUN
        rw [← em2] at R2
        rw [← em1]
        clear run N' P' B' R1 em1 em2
        by_cases c2 : k = FR
        case' pos =>
          have d1 : ((k : Int) == (FR : Int)) = true := by simp; omega
          have d2 : (FR : Int) ≤ (k : Int) := by omega
          obtain ⟨g2, eg2⟩ : ∃ g2, g2 = c := ⟨_, rfl⟩
          have M0 : Hid (Mid n FR k Q a2 c g2 rl2) := by
            have IR2 := IR.out
            rw [c2] at IR2
            rw [eg2, er2, ea2, c2]
            exact mid_at IR2 WD.out
          have SPN := hid (spent_any b _ _ S1.out.1)
          simp only at SPN
          clear er2 rk IR c1 c2 ea2
          go_wp2_with (rw [← EP.out, E1.out])
          refine SPN.out.mono ?_
          rintro e w' ⟨rfl, ew⟩
          obtain rfl := ew.symm
          rw [← eg2]
          clear eg2 SPN
          go_wp2_with (at_builtin; refine wpList_append_run _ rfl (.tmp 78) (.tmp 81) 45 45 rfl _ _ rfl rfl _ _ RUN.out ?_)
        case' neg =>
          have d1 : ((k : Int) == (FR : Int)) = false := by simp; omega
          have d2 : (FR : Int) ≤ (k : Int) := by omega
          obtain ⟨g2, eg2⟩ : ∃ g2, g2 = g := ⟨_, rfl⟩
          have M0 : Hid (Mid n FR k Q a2 c g2 rl2) := by
            rw [eg2, er2, ea2]
            exact mid_after IR.out WD.out (by omega)
          rw [← eg2]
          clear er2 rk IR c1 c2 ea2 eg2
          go_wp2_with (first
            | rw [← EP.out, E1.out]
            | (at_builtin; refine wpList_append_run _ rfl (.tmp 78) (.tmp 81) 45 45 rfl _ _ rfl rfl _ _ RUN.out ?_))
      all_goals
        clear S1 B1 E1 EP y0 y1
        refine (FL.out _ S2.out).mono ?_
        rintro e w3 ⟨rfl, t3, k3⟩
        have S3 := hid t3
        have R3 := hid (rts_wrote R2.out S2.out k3)
        obtain ⟨y0, y1⟩ := row_cells (k3.row pb.out B2.out)
        clear t3 k3 FL S2 R2 B2
        go_wp2_with fail
        clear y0 y1
        obtain ⟨w8, e8⟩ : ∃ w8, w8 = wr := ⟨_, rfl⟩
        clear e8
        go_loopw [14, 90] (fun _ jv wr => ∃ (j : Nat) (a c : Int), j ≤ L ∧ jv = .int .i64 (j : Int) ∧ Hid (PlS w b wr (n, a, c)) ∧ Hid (Rts w wr (.slice av2 m2 cv2) rl2) ∧ Hid (Mid n FR k (Q + j) a c g2 rl2)) (fun _ jv _ => (L - RowKit.intOf jv).toNat)
        case atStart => exact ⟨0, _, _, by omega, rfl, S3, R3, M0⟩
        case round =>
          clear S3 R3 M0
          obtain ⟨j, a3, c3, hj, rfl, SJ, RJ, MJ⟩ := hrel
          by_cases q3 : j < L
          · have j1 : (j : Int) < (L : Int) := by omega
            have j2 : (0 : Int) ≤ (j : Int) := by omega
            obtain ⟨m, en⟩ := GI.out j q3
            obtain ⟨g3, q3, rfl, C3⟩ := SII.out j m en
            have y3 := C3 _ SJ.out.2.1
            have SP := SJ.out.spend m
            obtain ⟨a4, c4, e4, M4⟩ : ∃ a4 c4, spd (n, a3, c3) m = (n, a4, c4) ∧ Mid n FR k (Q + (j + 1)) a4 c4 g2 rl2 := by
              by_cases cn : Bkt.Can (n, a3, c3) m
              · obtain ⟨h1, h2⟩ := mid_spend MJ.out (by omega) (by have := QL.out; omega) cn
                exact ⟨_, _, (spd_yes cn).trans (by rw [h1]), h2⟩
              · exact ⟨_, _, spd_no cn, mid_skip MJ.out⟩
            rw [e4] at SP
            generalize decide (Bkt.Can (n, a3, c3) m) = cn at *
            have SPE := hid SP
            have MK := hid M4
            clear SP GI SII en C3 e4 M4
            go_wp2_with fail
            refine SPE.out.mono ?_
            rintro e w3 ⟨rfl, t3, k3⟩
            have S3 := hid t3
            have R3 := hid (rts_wrote RJ.out SJ.out k3)
            clear t3 k3 SPE y3 SJ RJ MJ
            go_wp2_with fail
            go_roundw
            case rel => exact ⟨j + 1, _, _, by omega, by go_num, S3, R3, MK⟩
            case measure => simp [RowKit.intOf]; omega
          · obtain rfl : L = j := by omega
            have FE := hid SJ.out.fin
            rw [show Bkt.fin (n, a3, c3) = (n, cap (n * 4294967296) a3, c3) from rfl] at FE
            have IE := hid (mid_end MJ.out n1)
            rw [← EQ.out] at IE
            generalize cap (n * 4294967296) a3 = a4 at *
            clear GI SII MJ
            go_wp2_with fail
            refine FE.out.mono ?_
            rintro e w3 ⟨rfl, t3, k3⟩
            have S3 := hid t3
            have R3 := hid (rts_wrote RJ.out SJ.out k3)
            clear t3 k3 FE SJ RJ
            go_wp2_with fail
            go_roundw
            case rel => exact ⟨k + 1, _, _, _, _, by omega, by go_num, rfl, S3, R3, IE⟩
            case measure => simp [RowKit.intOf]; omega
    · obtain rfl : TO = k := by omega
      by_cases c1 : FR = TO
      · subst c1
        have ST := hid SR.out.2.1
        have d1 : ((FR : Int) == (FR : Int)) = true := by simp
        clear OPS GET TOT T0 TP SR RR IR
        go_wp2_with fail
        refine (AW.out _).mono ?_
        rintro e wz ⟨rfl, xz⟩
        have XZ := hid (ST.out.trans xz)
        clear xz
        go_wp2_with fail
        go_ret
        exact ⟨rfl, XZ.out⟩
      · have ST := hid SR.out.2.1
        have d1 : ((FR : Int) == (TO : Int)) = false := by simp; omega
        have SPN := hid (spent_any b _ _ SR.out.1)
        simp only at SPN
        have MO := hid (most_any _ rl n _ (RR.out.row encU) IR.out.2.1.2 (by omega) (by omega))
        obtain ⟨⟨h1, h2⟩, h3⟩ := inv_most IR.out (by omega) (by have := TP.out TO; omega) (by omega)
        obtain ⟨M, eM⟩ : ∃ M, M = msum (n * 4294967296) rl / 4294967296 := ⟨_, rfl⟩
        rw [← eM] at MO h3
        have CC : Hid ((0 ≤ c ∧ c ≤ 96000) ∧ 0 ≤ g) := ⟨⟨IR.out.1.2.1, by have := IR.out.1.2.2; have := TP.out TO; omega⟩, (IR.out.2.2.2 (by omega)).1⟩
        obtain ⟨⟨c0, c9⟩, g9⟩ := CC.out
        clear OPS GET TOT T0 TP SR RR IR eM CC
        go_wp2_with fail
        refine SPN.out.mono ?_
        rintro e w' ⟨rfl, ew⟩
        obtain rfl := ew.symm
        go_wp2_with fail
        refine MO.out.mono ?_
        rintro e w' ⟨rfl, ew⟩
        obtain rfl := ew.symm
        go_wp2_with fail
        refine (AW.out _).mono ?_
        rintro e wz ⟨rfl, xz⟩
        have XZ := hid (ST.out.trans xz)
        clear xz
        go_wp2_with fail
        go_ret
        exact ⟨rfl, XZ.out⟩

theorem walk (v0 : Value) (z : Int × Value × List TkS × Int × Int) (w : World) (hz : WindowIn w v0 z) (hN : z.2.2.1.length ≤ 1048576) (hL : ∀ o ∈ z.2.2.1, o.2.2.length ≤ 1048576) : Calls Try.prog 4 #[v0] w fun e w' => e = .returned (.bool true) ∧ Ext w w' := by
  obtain ⟨rfl, ht⟩ := hz
  exact walk0 z.1 z.2.1 z.2.2.1 z.2.2.2.1 z.2.2.2.2 w ht hN hL
end Go.Proofs.Ytadgkhdjjnkfcaa.bucketWindows

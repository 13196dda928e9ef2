/-
  The walk of GroupMembers: those whose level is a layer or above are told, rising; who gets a layer gets all below it.
-/
import Derived.Test.YtmnngajklnljjaaGrpPlay
namespace Go.Proofs.Ytmnngajklnljjaa.groupMembers
set_option linter.unusedVariables false
set_option maxRecDepth 100000
open Go.RowKit Go.Lib Go.Proofs.Ytmnngajklnljjaa.Grp

theorem mems_zero (j lv : Int) (l : List Tri) (layer now : Int) : mems j lv l layer now 0 = [] := by unfold mems; split <;> rfl
theorem mems_in (j lv : Int) (l : List Tri) (layer now : Int) (k : Nat) (h : ¬ layer < 0) (h2 : ¬ lat j lv (st j lv l k) now < layer) : mems j lv l layer now (k + 1) = mems j lv l layer now k ++ [(k : Int)] := by
  unfold mems
  rw [if_neg h, if_neg h, mem_succ, if_pos (by omega)]
theorem mems_out (j lv : Int) (l : List Tri) (layer now : Int) (k : Nat) (h : ¬ layer < 0) (h2 : lat j lv (st j lv l k) now < layer) : mems j lv l layer now (k + 1) = mems j lv l layer now k := by
  unfold mems
  rw [if_neg h, if_neg h, mem_succ, if_neg (by omega), List.append_nil]
theorem mems_low (j lv : Int) (l : List Tri) (layer now : Int) (k : Nat) (h : layer < 0) : mems j lv l layer now k = [] := by unfold mems; rw [if_pos h]
theorem mems_le (j lv : Int) (l : List Tri) (layer now : Int) (k : Nat) : (mems j lv l layer now k).length ≤ k := by
  unfold mems
  split
  · simp
  · exact mem_length_le ..
theorem mems_more (j lv : Int) (l : List Tri) (layer now : Int) (k : Nat) (h : 1 ≤ layer) : (mems j lv l layer now k).length ≤ (mems j lv l (layer - 1) now k).length := by
  unfold mems
  rw [if_neg (by omega), if_neg (by omega)]
  exact mem_more j lv l layer (layer - 1) now (by omega) k
theorem mems_at {j lv : Int} {l : List Tri} {layer now : Int} {n : Nat} (k : Nat) (hk : k < n) (h : ¬ layer < 0) (h2 : ¬ lat j lv (st j lv l k) now < layer) : (mems j lv l layer now n)[(mems j lv l layer now k).length]? = some (k : Int) ∧ (mems j lv l layer now k).length < (mems j lv l layer now n).length := by
  unfold mems
  rw [if_neg h, if_neg h]
  exact mem_at k hk (by omega)

set_option maxHeartbeats 4000000 in
theorem walk0 (n j lv : Int) (v : Value) (q : List Tri) (layer later : Int) (w : World) (hv : AskIn w v q) : Calls Try.prog 4 #[.agg #[.int .i64 n, .int .i64 j, .int .i64 lv, v], .int .i64 layer, .int .i64 later] w fun e w' => e = .returned (.bool true) ∧ Ext w w' := by
  have AW := hid (fun W => awake_any W)
  have HV := hid hv
  obtain ⟨ao, c, ev, c1, c2, kk⟩ := rows_view hv
  clear kk
  subst ev
  obtain ⟨m, em⟩ : ∃ m, m = q.length := ⟨_, rfl⟩
  rw [← em] at HV c1
  rw [← em]
  unfold maxLen at c2
  obtain ⟨W, eW⟩ : ∃ W, W = w.alloc (.cells #[.int .i64 n, .int .i64 j, .int .i64 lv, .slice ao m c] 24) := ⟨_, rfl⟩
  have X : Ext w W := by rw [eW]; exact (Ext.refl w).alloc _
  have B0 : W.heap[w.heap.size]? = some (.cells #[.int .i64 n, .int .i64 j, .int .i64 lv, .slice ao m c] 24 (0, 0)) := by rw [eW]; exact heap_alloc_new w _
  have BOX : Hid (∀ V, Ext W V → V.cell? ⟨w.heap.size, 0, none⟩ = some (.int .i64 n) ∧ V.cell? ⟨w.heap.size, 1, none⟩ = some (.int .i64 j) ∧ V.cell? ⟨w.heap.size, 2, none⟩ = some (.int .i64 lv) ∧ V.cell? ⟨w.heap.size, 3, none⟩ = some (.slice ao m c)) := fun V hV => by
    have b := hV.row B0
    exact ⟨by rw [cell_of_row V _ 0 _ _ _ b]; rfl, by rw [cell_of_row V _ 1 _ _ _ b]; rfl, by rw [cell_of_row V _ 2 _ _ _ b]; rfl, by rw [cell_of_row V _ 3 _ _ _ b]; rfl⟩
  have XX := hid X
  have EW := hid eW
  have EM := hid em
  clear X eW B0 em hv
  by_cases ok : ¬ okCase n j lv m
  · have RN := hid (fun V => right_no n j lv ao m c V ok)
    clear ok
    go_enter Try.func4, Try.ntmps4
    go_wp2_with fail
    rw [← EW.out]
    refine (RN.out _).mono ?_
    rintro e w2 ⟨rfl, x2⟩
    have X2 := hid (XX.out.trans x2)
    clear x2
    go_wp2_with fail
    refine (AW.out _).mono ?_
    rintro e w5 ⟨rfl, x5⟩
    have X5 := hid (X2.out.trans x5)
    clear x5
    go_wp2_with fail
    go_ret
    exact ⟨rfl, X5.out⟩
  replace ok := Classical.not_not.1 ok
  have RY := hid (fun V => right_yes n j lv ao m c V ok)
  by_cases lt : later < 0
  · clear ok
    go_enter Try.func4, Try.ntmps4
    go_wp2_with fail
    rw [← EW.out]
    refine (RY.out _).mono ?_
    rintro e w2 ⟨rfl, x2⟩
    have X2 := hid (XX.out.trans x2)
    clear x2
    go_wp2_with fail
    refine (AW.out _).mono ?_
    rintro e w5 ⟨rfl, x5⟩
    have X5 := hid (X2.out.trans x5)
    clear x5
    go_wp2_with fail
    go_ret
    exact ⟨rfl, X5.out⟩
  by_cases gt : 1000 < later
  · clear ok
    go_enter Try.func4, Try.ntmps4
    go_wp2_with fail
    rw [← EW.out]
    refine (RY.out _).mono ?_
    rintro e w2 ⟨rfl, x2⟩
    have X2 := hid (XX.out.trans x2)
    clear x2
    go_wp2_with fail
    refine (AW.out _).mono ?_
    rintro e w5 ⟨rfl, x5⟩
    have X5 := hid (X2.out.trans x5)
    clear x5
    go_wp2_with fail
    go_ret
    exact ⟨rfl, X5.out⟩
  have OK := hid ok
  obtain ⟨N, rfl⟩ : ∃ N : Nat, n = (N : Int) := ⟨n.toNat, by have := OK.out.1; omega⟩
  have PL : Hid (∀ V, Ext w V → Calls Try.prog 9 #[.agg #[.int .i64 (N : Int), .int .i64 j, .int .i64 lv, .slice ao m c]] V fun e w' => ∃ b g cap xv l, e = .returned (.tuple #[.pointer (some ⟨b, 0, none⟩), xv]) ∧ Grp w' b g cap N j lv l ∧ NewR tri 47 3 V w' xv l ∧ l.length ≤ 60 ∧ V.heap.size ≤ b ∧ V.heap.size ≤ g) := fun V hV => played_any N j lv _ q V (HV.out.kept (Kept.of_ext hV)) (by rw [← EM.out]; exact OK.out)
  clear ok
  go_enter Try.func4, Try.ntmps4
  go_wp2_with fail
  rw [← EW.out]
  refine (RY.out _).mono ?_
  rintro e w2 ⟨rfl, x2⟩
  have X2 := hid (XX.out.trans x2)
  have W2 := hid x2
  obtain ⟨z0, z1, z2, z3⟩ := BOX.out w2 x2
  clear x2 RY
  go_wp2_with fail
  refine (PL.out _ X2.out).mono ?_
  rintro e w3 ⟨b, g, cap, xv, l, rfl, G, R, ll, _, _⟩
  have W3 := hid (W2.out.trans R.2.2)
  have X3 := hid (X2.out.trans R.2.2)
  have GG := hid G
  have RR := hid R
  have LL := hid ll
  replace z0 := R.2.2.cell z0
  clear G R ll z1 z2 z3 PL X2 W2
  go_wp2_with fail
  clear z0
  obtain ⟨bx, ebx⟩ : ∃ bx, bx = w.heap.size := ⟨_, rfl⟩
  rw [← ebx] at BOX
  rw [← ebx]
  clear ebx
  have n64 : N ≤ 64 := by have := OK.out.2.1; omega
  go_loopw [9, 10, 11, 12, 38] (fun now _ _ _ i wr => ∃ (k : Nat) (T : Int), k ≤ N ∧ i = .int .i64 (k : Int) ∧ now = .int .i64 T ∧ Hid (T = top l later k) ∧ Hid (Ext w3 wr)) (fun _ _ _ _ i _ => (N - intOf i).toNat)
  case atStart => exact ⟨0, _, by omega, rfl, rfl, rfl, Ext.refl w3⟩
  case round =>
    obtain ⟨k, T, hk, rfl, rfl, TT, Y⟩ := hrel
    obtain ⟨z0, z1, z2, z3⟩ := BOX.out wr (W3.out.trans Y.out)
    by_cases h : k < N
    · have i1 : (k : Int) < (N : Int) := by omega
      have i2 : (0 : Int) ≤ (k : Int) := by omega
      have G1 := GG.out.ext Y.out
      have F := st_fit (j := 0) (lv := 0) G1.1.2.2.2.2.2.2 (k : Int)
      have LA := hid (last_any _ xv l k wr ((RR.out.ext Y.out).row encT) (by have := LL.out; omega))
      have TS : Hid ((if T < (st 0 0 l (k : Int)).1 + later then (st 0 0 l (k : Int)).1 + later else T) = top l later (k + 1)) := by
        rw [TT.out]
        show _ = max (top l later k) ((st 0 0 l (k : Int)).1 + later)
        split <;> omega
      clear G1 z1 z2 z3 TT
      generalize st 0 0 l (k : Int) = s at *
      obtain ⟨t, lev, asked⟩ := s
      obtain ⟨f1, f2, f3, f4, f5, f6⟩ := F
      simp only at *
      have wt : IntKind.i64.wrap (t + later) = t + later := IntWalk.i64_in _ (by omega)
      go_wp2_with fail
      refine LA.out.mono ?_
      rintro e w4 ⟨rfl, rfl⟩
      clear LA
      go_wp2_with fail
      go_roundw
      case rel => exact ⟨k + 1, _, by omega, by go_num, rfl, TS, Y⟩
      case measure => simp [intOf]; omega
    · obtain rfl : k = N := by omega
      have G1 := GG.out.ext Y.out
      have MM := hid (members_any b g cap k j lv l layer T wr G1)
      have ML : Hid (∀ V, Ext wr V → Calls Try.prog 15 #[.pointer (some ⟨b, 0, none⟩), .int .i64 (layer - 1), .int .i64 T] V fun e w' => ∃ v', e = .returned v' ∧ NewR one 3 1 V w' v' (mems j lv l (layer - 1) T k)) := fun V hV => members_any b g cap k j lv l (layer - 1) T V (G1.ext hV)
      have RE : Hid (∀ V, Ext wr V → ∀ i : Nat, Calls Try.prog 12 #[xv, .int .i64 (i : Int), .int .i64 j, .int .i64 lv, .int .i64 T] V fun e w' => e = .returned (.int .i64 (lat j lv (st j lv l i) T)) ∧ Ext V w') := fun V hV i => refLevel_any _ k xv l i j lv T V (((RR.out.ext Y.out).ext hV).row encT) (by have := LL.out; omega) G1.1.2.2.2.2.2.2 OK.out.2.2.1 OK.out.2.2.2.1 OK.out.2.2.2.2.1 OK.out.2.2.2.2.2.1
      have W4 := hid (W3.out.trans Y.out)
      have X4 := hid (X3.out.trans Y.out)
      clear G1 z1 z2 z3 TT
      obtain ⟨N, eN⟩ : ∃ N, N = k := ⟨_, rfl⟩
      rw [← eN] at n64 MM ML z0
      rw [← eN]
      go_wp2_with fail
      refine MM.out.mono ?_
      rintro e w5 ⟨v', rfl, R5⟩
      have BOX5 : Hid (∀ V, Ext w5 V → V.cell? ⟨bx, 0, none⟩ = some (.int .i64 (N : Int)) ∧ V.cell? ⟨bx, 1, none⟩ = some (.int .i64 j) ∧ V.cell? ⟨bx, 2, none⟩ = some (.int .i64 lv)) := fun V hV => by
        obtain ⟨y0, y1, y2, _⟩ := BOX.out V ((W4.out.trans R5.2.2).trans hV)
        rw [eN]
        exact ⟨y0, y1, y2⟩
      obtain ⟨la, lc, ev, lc1, lc2, lvw⟩ := R5.1.view encI
      have LV := hid lvw
      have Y5 := hid R5.2.2
      have X5 := hid (X4.out.trans R5.2.2)
      obtain ⟨z0, _, _⟩ := BOX5.out w5 (Ext.refl w5)
      obtain ⟨M, eM⟩ : ∃ M, M = (mems j lv l layer T N).length := ⟨_, rfl⟩
      rw [← eM] at ev lc1
      have ME := hid eM
      have m64 : M ≤ 64 := by have := mems_le j lv l layer T N; omega
      have MORE : Hid (1 ≤ layer → M ≤ (mems j lv l (layer - 1) T N).length) := fun h1 => by rw [eM]; exact mems_more j lv l layer T N h1
      have IN : Hid (∀ i : Nat, i < N → ¬ layer < 0 → ¬ lat j lv (st j lv l i) T < layer → (mems j lv l layer T N)[(mems j lv l layer T i).length]? = some (i : Int) ∧ (mems j lv l layer T i).length < M) := fun i h1 h2 h3 => by rw [eM]; exact mems_at i h1 h2 h3
      subst ev
      unfold maxLen at lc2
      clear MM R5 lvw eM eN
      go_wp2_with fail
      clear z0
      go_loopw [14, 15, 59] (fun c _ i wr => ∃ i' : Nat, i' ≤ N ∧ i = .int .i64 (i' : Int) ∧ c = .int .i64 ((mems j lv l layer T i').length : Int) ∧ Hid (Ext w5 wr)) (fun _ _ i _ => (N - intOf i).toNat)
      case atStart => exact ⟨0, by omega, rfl, by rw [mems_zero]; rfl, Ext.refl w5⟩
      case round =>
        obtain ⟨i', hi', rfl, rfl, Y6⟩ := hrel
        obtain ⟨z0, z1, z2⟩ := BOX5.out _ Y6.out
        have ml := mems_le j lv l layer T i'
        by_cases h2 : i' < N
        · have i1 : (i' : Int) < (N : Int) := by omega
          have i2 : (0 : Int) ≤ (i' : Int) := by omega
          by_cases hl : layer < 0
          · have e0 := hid (mems_low j lv l layer T (i' + 1) hl)
            have e1 := mems_low j lv l layer T i' hl
            rw [e1]
            clear e1 ml IN
            go_wp2_with fail
            go_roundw
            case rel => exact ⟨i' + 1, by omega, by go_num, by rw [e0.out], Y6⟩
            case measure => simp [intOf]; omega
          · have R6 := hid (RE.out _ (Y5.out.trans Y6.out) i')
            have IN2 := hid (IN.out i' h2 (by omega))
            have MI := hid (mems_in j lv l layer T i' hl)
            have MO := hid (mems_out j lv l layer T i' hl)
            obtain ⟨cn, ecn⟩ : ∃ cn, cn = (mems j lv l layer T i').length := ⟨_, rfl⟩
            rw [← ecn] at IN2 ml
            rw [← ecn]
            have CN := hid ecn
            clear ecn
            generalize lat j lv (st j lv l i') T = y at *
            by_cases hy : y < layer
            · have eo : Hid ((mems j lv l layer T (i' + 1)).length = cn) := by rw [MO.out hy, ← CN.out]; rfl
              clear IN2 MI MO IN
              go_wp2_with fail
              refine R6.out.mono ?_
              rintro e w7 ⟨rfl, x7⟩
              have Y7 := hid (Y6.out.trans x7)
              clear R6 x7
              go_wp2_with fail
              go_roundw
              case rel => exact ⟨i' + 1, by omega, by go_num, by rw [eo.out], Y7⟩
              case measure => simp [intOf]; omega
            · have eo : Hid ((mems j lv l layer T (i' + 1)).length = cn + 1) := by rw [MI.out hy, List.length_append, ← CN.out]; rfl
              obtain ⟨q1, q2⟩ := IN2.out (by omega)
              obtain ⟨gl, rfl, hc⟩ := LV.out cn _ q1
              have hc0 := hc 0 _ rfl
              rw [Nat.mul_one, Nat.add_zero] at hc0
              have j1 : (cn : Int) < (M : Int) := by omega
              have j2 : (0 : Int) ≤ (cn : Int) := by omega
              clear IN2 MI MO q1 hc IN
              go_wp2_with fail
              refine R6.out.mono ?_
              rintro e w7 ⟨rfl, x7⟩
              have Y7 := hid (Y6.out.trans x7)
              have hc1 := Y7.out.cell hc0
              clear R6 x7 hc0
              go_wp2_with fail
              go_roundw
              case rel => exact ⟨i' + 1, by omega, by go_num, by rw [eo.out]; go_num, Y7⟩
              case measure => simp [intOf]; omega
        · obtain rfl : i' = N := by omega
          rw [← ME.out]
          clear ml IN LV
          have X6 := hid (X5.out.trans Y6.out)
          by_cases l1 : layer < 1
          · go_wp2_with fail
            refine (AW.out _).mono ?_
            rintro e w7 ⟨rfl, x7⟩
            have X7 := hid (X6.out.trans x7)
            clear x7
            go_wp2_with fail
            go_ret
            exact ⟨rfl, X7.out⟩
          · by_cases l2 : 100 < layer
            · go_wp2_with fail
              refine (AW.out _).mono ?_
              rintro e w7 ⟨rfl, x7⟩
              have X7 := hid (X6.out.trans x7)
              clear x7
              go_wp2_with fail
              go_ret
              exact ⟨rfl, X7.out⟩
            · have wl : IntKind.i64.wrap (layer - 1) = layer - 1 := IntWalk.i64_in _ (by omega)
              have M7 := hid (ML.out _ (Y5.out.trans Y6.out))
              have MO := hid (MORE.out (by omega))
              clear ML MORE
              go_wp2_with fail
              refine M7.out.mono ?_
              rintro e w7 ⟨v7, rfl, R7⟩
              have X7 := hid (X6.out.trans R7.2.2)
              obtain ⟨pa, pc, ev, pc1, pc2⟩ := R7.slice
              obtain ⟨P, eP⟩ : ∃ P, P = (mems j lv l (layer - 1) T i').length := ⟨_, rfl⟩
              rw [← eP] at ev MO
              subst ev
              have mp : (M : Int) ≤ (P : Int) := by have := MO.out; omega
              clear M7 R7 eP MO pc1
              go_wp2_with fail
              refine (AW.out _).mono ?_
              rintro e w8 ⟨rfl, x8⟩
              have X8 := hid (X7.out.trans x8)
              clear x8
              go_wp2_with fail
              go_ret
              exact ⟨rfl, X8.out⟩

theorem walk (v0 : Value) (z : Int × Int × Int × Value × List Tri) (layer later : Int) (w : World) (hz : v0 = .agg #[.int .i64 z.1, .int .i64 z.2.1, .int .i64 z.2.2.1, z.2.2.2.1] ∧ AskIn w z.2.2.2.1 z.2.2.2.2) : Calls Try.prog 4 #[v0, .int .i64 layer, .int .i64 later] w fun e w' => e = .returned (.bool true) ∧ Ext w w' := by
  obtain ⟨rfl, h⟩ := hz
  exact walk0 _ _ _ _ _ layer later w h
end Go.Proofs.Ytmnngajklnljjaa.groupMembers

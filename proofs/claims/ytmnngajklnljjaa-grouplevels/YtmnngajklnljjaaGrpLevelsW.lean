/-
  The walk of GroupLevels: each receiver's level at any tick behind what was asked is what the document says.
-/
import Derived.Test.YtmnngajklnljjaaGrpPlay
namespace Go.Proofs.Ytmnngajklnljjaa.groupLevels
set_option linter.unusedVariables false
set_option maxRecDepth 100000
open Go.RowKit Go.Lib Go.Proofs.Ytmnngajklnljjaa.Grp

set_option maxHeartbeats 4000000 in
theorem walk0 (n j lv : Int) (v : Value) (q : List Tri) (later : Int) (w : World) (hv : AskIn w v q) : Calls Try.prog 3 #[.agg #[.int .i64 n, .int .i64 j, .int .i64 lv, v], .int .i64 later] w fun e w' => e = .returned (.bool true) ∧ Ext w w' := by
  have AW := hid (fun W => awake_any W)
  have HV := hid hv
  obtain ⟨ao, c, ev, c1, c2, kk⟩ := rows_view hv
  clear kk
  subst ev
  obtain ⟨m, em⟩ : ∃ m, m = q.length := ⟨_, rfl⟩
  rw [← em] at HV c1
  rw [← em]
  unfold maxLen at c2
  obtain ⟨W, eW⟩ : ∃ W, W = w.alloc (.cells #[.int .i64 n, .int .i64 j, .int .i64 lv, .slice ao m c] 24) := ⟨_, rfl⟩
  have X : Ext w W := by rw [eW]; exact (Ext.refl w).alloc _
  have B0 : W.heap[w.heap.size]? = some (.cells #[.int .i64 n, .int .i64 j, .int .i64 lv, .slice ao m c] 24 (0, 0)) := by rw [eW]; exact heap_alloc_new w _
  have BOX : Hid (∀ V, Ext W V → V.cell? ⟨w.heap.size, 0, none⟩ = some (.int .i64 n) ∧ V.cell? ⟨w.heap.size, 1, none⟩ = some (.int .i64 j) ∧ V.cell? ⟨w.heap.size, 2, none⟩ = some (.int .i64 lv) ∧ V.cell? ⟨w.heap.size, 3, none⟩ = some (.slice ao m c)) := fun V hV => by
    have b := hV.row B0
    exact ⟨by rw [cell_of_row V _ 0 _ _ _ b]; rfl, by rw [cell_of_row V _ 1 _ _ _ b]; rfl, by rw [cell_of_row V _ 2 _ _ _ b]; rfl, by rw [cell_of_row V _ 3 _ _ _ b]; rfl⟩
  have XX := hid X
  have EW := hid eW
  have EM := hid em
  clear X eW B0 em hv
  by_cases ok : ¬ okCase n j lv m
  · have RN := hid (fun V => right_no n j lv ao m c V ok)
    clear ok
    go_enter Try.func3, Try.ntmps3
    go_wp2_with fail
    rw [← EW.out]
    refine (RN.out _).mono ?_
    rintro e w2 ⟨rfl, x2⟩
    have X2 := hid (XX.out.trans x2)
    clear x2
    go_wp2_with fail
    refine (AW.out _).mono ?_
    rintro e w5 ⟨rfl, x5⟩
    have X5 := hid (X2.out.trans x5)
    clear x5
    go_wp2_with fail
    go_ret
    exact ⟨rfl, X5.out⟩
  replace ok := Classical.not_not.1 ok
  have RY := hid (fun V => right_yes n j lv ao m c V ok)
  by_cases lt : later < 0
  · clear ok
    go_enter Try.func3, Try.ntmps3
    go_wp2_with fail
    rw [← EW.out]
    refine (RY.out _).mono ?_
    rintro e w2 ⟨rfl, x2⟩
    have X2 := hid (XX.out.trans x2)
    clear x2
    go_wp2_with fail
    refine (AW.out _).mono ?_
    rintro e w5 ⟨rfl, x5⟩
    have X5 := hid (X2.out.trans x5)
    clear x5
    go_wp2_with fail
    go_ret
    exact ⟨rfl, X5.out⟩
  by_cases gt : 1000 < later
  · clear ok
    go_enter Try.func3, Try.ntmps3
    go_wp2_with fail
    rw [← EW.out]
    refine (RY.out _).mono ?_
    rintro e w2 ⟨rfl, x2⟩
    have X2 := hid (XX.out.trans x2)
    clear x2
    go_wp2_with fail
    refine (AW.out _).mono ?_
    rintro e w5 ⟨rfl, x5⟩
    have X5 := hid (X2.out.trans x5)
    clear x5
    go_wp2_with fail
    go_ret
    exact ⟨rfl, X5.out⟩
  have OK := hid ok
  obtain ⟨N, rfl⟩ : ∃ N : Nat, n = (N : Int) := ⟨n.toNat, by have := OK.out.1; omega⟩
  have PL : Hid (∀ V, Ext w V → Calls Try.prog 9 #[.agg #[.int .i64 (N : Int), .int .i64 j, .int .i64 lv, .slice ao m c]] V fun e w' => ∃ b g cap xv l, e = .returned (.tuple #[.pointer (some ⟨b, 0, none⟩), xv]) ∧ Grp w' b g cap N j lv l ∧ NewR tri 47 3 V w' xv l ∧ l.length ≤ 60 ∧ V.heap.size ≤ b ∧ V.heap.size ≤ g) := fun V hV => played_any N j lv _ q V (HV.out.kept (Kept.of_ext hV)) (by rw [← EM.out]; exact OK.out)
  clear ok
  go_enter Try.func3, Try.ntmps3
  go_wp2_with fail
  rw [← EW.out]
  refine (RY.out _).mono ?_
  rintro e w2 ⟨rfl, x2⟩
  have X2 := hid (XX.out.trans x2)
  have W2 := hid x2
  obtain ⟨z0, z1, z2, z3⟩ := BOX.out w2 x2
  clear x2 RY
  go_wp2_with fail
  refine (PL.out _ X2.out).mono ?_
  rintro e w3 ⟨b, g, cap, xv, l, rfl, G, R, ll, _, _⟩
  have W3 := hid (W2.out.trans R.2.2)
  have X3 := hid (X2.out.trans R.2.2)
  have GG := hid G
  have RR := hid R
  have LL := hid ll
  replace z0 := R.2.2.cell z0
  clear G R ll z1 z2 z3 PL X2 W2
  go_wp2_with fail
  clear z0
  obtain ⟨bx, ebx⟩ : ∃ bx, bx = w.heap.size := ⟨_, rfl⟩
  rw [← ebx] at BOX
  rw [← ebx]
  clear ebx
  have n64 : N ≤ 64 := by have := OK.out.2.1; omega
  go_loopw [7, 8, 9, 10, 11, 35] (fun _ _ _ _ _ i wr => ∃ k : Nat, k ≤ N ∧ i = .int .i64 (k : Int) ∧ Hid (Ext w3 wr)) (fun _ _ _ _ _ i _ => (N - intOf i).toNat)
  case atStart => exact ⟨0, by omega, rfl, Ext.refl w3⟩
  case round =>
    obtain ⟨k, hk, rfl, Y⟩ := hrel
    obtain ⟨z0, z1, z2, z3⟩ := BOX.out wr (W3.out.trans Y.out)
    by_cases h : k < N
    · have i1 : (k : Int) < (N : Int) := by omega
      have i2 : (0 : Int) ≤ (k : Int) := by omega
      have G1 := GG.out.ext Y.out
      have F := st_fit (j := j) (lv := lv) G1.1.2.2.2.2.2.2 (k : Int)
      have LA := last_any _ xv l k wr ((RR.out.ext Y.out).row encT) (by have := LL.out; omega)
      obtain ⟨s1, s2⟩ := st_last 0 0 j lv l (k : Int)
      rw [s1, s2] at LA
      have LE : Hid (∀ V, Ext wr V → ∀ t, Calls Try.prog 11 #[.pointer (some ⟨b, 0, none⟩), .int .i64 (k : Int), .int .i64 t] V fun e w' => e = .returned (.tuple #[.int .i64 (lat j lv (st j lv l k) t), .int .i64 0]) ∧ Ext V w') := fun V hV t => level_any b g cap N j lv l k t V (G1.ext hV) h
      have RE : Hid (∀ V, Ext wr V → ∀ t, Calls Try.prog 12 #[xv, .int .i64 (k : Int), .int .i64 j, .int .i64 lv, .int .i64 t] V fun e w' => e = .returned (.int .i64 (lat j lv (st j lv l k) t)) ∧ Ext V w') := fun V hV t => refLevel_any _ N xv l k j lv t V (((RR.out.ext Y.out).ext hV).row encT) (by have := LL.out; omega) G1.1.2.2.2.2.2.2 OK.out.2.2.1 OK.out.2.2.2.1 OK.out.2.2.2.2.1 OK.out.2.2.2.2.2.1
      have AS : Hid (∀ V, Ext wr V → Calls Try.prog 13 #[.pointer (some ⟨b, 0, none⟩), .int .i64 (k : Int)] V fun e w' => e = .returned (.int .i64 (st j lv l k).2.2) ∧ w' = V) := fun V hV => asked_any b g cap N j lv l k V (G1.ext hV) h
      have LT : Hid (64 ≤ later → lat j lv (st j lv l k) ((st j lv l k).1 + later) = (st j lv l k).2.2) := fun h64 => lat_late OK.out.2.2.2.1 OK.out.2.2.2.2.2.1 (by omega)
      have LA2 := hid LA
      clear LA s1 s2 G1
      generalize st j lv l k = s at *
      obtain ⟨t, lev, asked⟩ := s
      obtain ⟨f1, f2, f3, f4, f5, f6⟩ := F
      simp only at *
      have wt : IntKind.i64.wrap (t + later) = t + later := IntWalk.i64_in _ (by omega)
      generalize hy : lat j lv (t, lev, asked) (t + later) = y at LT
      have HY := hid hy
      clear hy
      go_wp2_with fail
      refine LA2.out.mono ?_
      rintro e w4 ⟨rfl, rfl⟩
      clear LA2
      go_wp2_with fail
      refine (LE.out _ (Ext.refl _) _).mono ?_
      rintro e w5 ⟨rfl, x5⟩
      rw [HY.out]
      obtain ⟨z0, z1, z2, z3⟩ := BOX.out w5 ((W3.out.trans Y.out).trans x5)
      have X5 := hid x5
      clear LE x5
      go_wp2_with fail
      refine (RE.out _ X5.out _).mono ?_
      rintro e w6 ⟨rfl, x6⟩
      rw [HY.out]
      have X6 := hid (X5.out.trans x6)
      clear RE x6 X5
      go_wp2_with fail
      refine (AS.out _ X6.out).mono ?_
      rintro e w7 ⟨rfl, rfl⟩
      clear AS
      have Y7 := hid (Y.out.trans X6.out)
      by_cases h64 : 64 ≤ later
      · have ey := LT.out h64
        subst ey
        clear LT HY
        go_wp2_with fail
        go_roundw
        case rel => exact ⟨k + 1, by omega, by go_num, Y7⟩
        case measure => simp [intOf]; omega
      · clear LT HY
        go_wp2_with fail
        go_roundw
        case rel => exact ⟨k + 1, by omega, by go_num, Y7⟩
        case measure => simp [intOf]; omega
    · obtain rfl : k = N := by omega
      have G1 := GG.out.ext Y.out
      have LE := hid (level_none b g cap k j lv l (k : Int) later wr G1 (.inr (by omega)))
      have AS : Hid (∀ V, Ext wr V → Calls Try.prog 13 #[.pointer (some ⟨b, 0, none⟩), .int .i64 (-1)] V fun e w' => e = .returned (.int .i64 (-1)) ∧ w' = V) := fun V hV => asked_none b g cap k j lv l (-1) V (G1.ext hV) (.inl (by decide))
      have CT : Hid (∀ V, Ext wr V → Calls Try.prog 14 #[.pointer (some ⟨b, 0, none⟩)] V fun e w' => e = .returned (.int .i64 (k : Int)) ∧ w' = V) := fun V hV => count_any b g cap k j lv l V (G1.ext hV)
      have Z0 : ∀ n : Ever wr, n.W.cell? ⟨bx, 0, none⟩ = some (.int .i64 (k : Int)) := fun n => n.ok.cell z0
      have some := Ever.some wr
      have XE := hid (X3.out.trans Y.out)
      clear G1 z1 z2 z3
      go_wp2_with fail
      refine LE.out.mono ?_
      rintro e w4 ⟨rfl, rfl⟩
      clear LE z0
      go_wp2_with fail
      refine wp_region_ext (by kernel_rfl) (by kernel_rfl) ?_
      repeat (go_big_quiet_step (first
        | (go_at_call 13; refine (AS.out _ (Ever.ok _)).mono ?_; rintro e w' ⟨rfl, rfl⟩; exact ⟨rfl, ⟨_, Ever.ok _⟩, rfl⟩)
        | (go_at_call 14; refine (CT.out _ (Ever.ok _)).mono ?_; rintro e w' ⟨rfl, rfl⟩; exact ⟨rfl, ⟨_, Ever.ok _⟩, rfl⟩)
        | (go_at_call 8; refine (AW.out _).mono ?_; rintro e w' ⟨rfl, hx⟩; exact ⟨rfl, ⟨w', (Ever.ok _).trans hx⟩, rfl⟩)))
      refine wpQuiet_nil ?_
      rintro w5 ⟨⟨_, x5⟩, rfl⟩
      have X5 := hid (XE.out.trans x5)
      clear x5 some Z0
      go_wp2_with fail
      go_ret
      exact ⟨rfl, X5.out⟩

theorem walk (v0 : Value) (z : Int × Int × Int × Value × List Tri) (later : Int) (w : World) (hz : v0 = .agg #[.int .i64 z.1, .int .i64 z.2.1, .int .i64 z.2.2.1, z.2.2.2.1] ∧ AskIn w z.2.2.2.1 z.2.2.2.2) : Calls Try.prog 3 #[v0, .int .i64 later] w fun e w' => e = .returned (.bool true) ∧ Ext w w' := by
  obtain ⟨rfl, h⟩ := hz
  exact walk0 _ _ _ _ _ later w h
end Go.Proofs.Ytmnngajklnljjaa.groupLevels

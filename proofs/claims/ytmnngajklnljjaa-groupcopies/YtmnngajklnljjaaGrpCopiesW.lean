/-
  The walk of GroupCopies: a copy tells the same, and goes on by itself.
-/
import Derived.Test.YtmnngajklnljjaaGrpPlay
namespace Go.Proofs.Ytmnngajklnljjaa.groupCopies
set_option linter.unusedVariables false
set_option maxRecDepth 100000
open Go.RowKit Go.Lib Go.Proofs.Ytmnngajklnljjaa.Grp

/-- the row of a list with one more, in memory made since W -/
theorem put_two {W V : World} {K : Nat → Prop} {xv : Value} {g f c : Nat} {l : List Tri} {a : Tri} (N : NewR tri 47 3 W V (.slice (some ⟨g, 0, none⟩) 0 0) []) (hx : RowK K V xv 3 (fcells tri l)) (hf : RowK (fun i => i = f) V (.slice (some ⟨f, 0, none⟩) 1 c) 3 (fcells tri [a])) (hne : f ≠ g) (hl : l.length ≤ 1000) :
    ∃ v2 V2, (Builtin.append_ #[22, 22] 22 #[.slice (some ⟨g, 0, none⟩) 0 0, xv]).run Try.prog V = .ok v2 V2 ∧ Ext W V2 ∧
      ∃ v4 V4, (Builtin.append_ #[22, 22] 22 #[v2, .slice (some ⟨f, 0, none⟩) 1 c]).run Try.prog V2 = .ok v4 V4 ∧ NewR tri 47 3 W V4 v4 (l ++ [a]) := by
  obtain ⟨v2, V2, r2, N2, gb⟩ := N.put elemsA encT 22 xv l hx (by simp; omega)
  rw [List.nil_append] at N2
  have KK : Kept (fun i => i = f) V V2 := (Kept.refl _ V).grown gb (fun k e h => hne (by rw [← h]; simpa [Value.ownBlock] using e.symm))
  obtain ⟨v4, V4, r4, N4, _⟩ := N2.put elemsA encT 22 _ [a] (hf.kept KK) (by simp; omega)
  exact ⟨v2, V2, r2, N2.2.2, v4, V4, r4, N4⟩
theorem put_list {W V : World} {K : Nat → Prop} {xv : Value} {g : Nat} {l : List Tri} (N : NewR tri 47 3 W V (.slice (some ⟨g, 0, none⟩) 0 0) []) (hx : RowK K V xv 3 (fcells tri l)) (hl : l.length ≤ 1000) :
    ∃ v2 V2, (Builtin.append_ #[22, 22] 22 #[.slice (some ⟨g, 0, none⟩) 0 0, xv]).run Try.prog V = .ok v2 V2 ∧ NewR tri 47 3 W V2 v2 l := by
  obtain ⟨v2, V2, r2, N2, gb⟩ := N.put elemsA encT 22 xv l hx (by simp; omega)
  rw [List.nil_append] at N2
  exact ⟨v2, V2, r2, N2⟩
theorem put_one {W V : World} {v2 : Value} {f c : Nat} {l : List Tri} {a : Tri} (N : NewR tri 47 3 W V v2 l) (hf : RowK (fun i => i = f) V (.slice (some ⟨f, 0, none⟩) 1 c) 3 (fcells tri [a])) (hl : l.length ≤ 1000) :
    ∃ v4 V4, (Builtin.append_ #[22, 22] 22 #[v2, .slice (some ⟨f, 0, none⟩) 1 c]).run Try.prog V = .ok v4 V4 ∧ NewR tri 47 3 W V4 v4 (l ++ [a]) := by
  obtain ⟨v4, V4, r4, N4, _⟩ := N.put elemsA encT 22 _ [a] hf (by simp; omega)
  exact ⟨v4, V4, r4, N4⟩
theorem new_made {W V : World} (X : Ext W V) : NewR tri 47 3 W (V.alloc (.cells #[] 47)) (.slice (some ⟨V.heap.size, 0, none⟩) 0 0) [] :=
  ⟨Own.made _ _ _ V, fun k hk => by simp only [Value.ownBlock, Option.some.injEq] at hk; have := X.size; omega, X.alloc _⟩

set_option maxHeartbeats 4000000 in
theorem walk0 (n j lv : Int) (v : Value) (q : List Tri) (u : Value) (more : List Tri) (later : Int) (w : World) (hv : AskIn w v q) (hu : AskIn w u more) : Calls Try.prog 6 #[.agg #[.int .i64 n, .int .i64 j, .int .i64 lv, v], u, .int .i64 later] w fun e w' => e = .returned (.bool true) ∧ Ext w w' := by
  have AW := hid (fun W => awake_any W)
  have HV := hid hv
  obtain ⟨ao, c, ev, c1, c2, kk⟩ := rows_view hv
  clear kk
  subst ev
  obtain ⟨m, em⟩ : ∃ m, m = q.length := ⟨_, rfl⟩
  rw [← em] at HV c1
  rw [← em]
  unfold maxLen at c2
  obtain ⟨W, eW⟩ : ∃ W, W = w.alloc (.cells #[.int .i64 n, .int .i64 j, .int .i64 lv, .slice ao m c] 24) := ⟨_, rfl⟩
  have X : Ext w W := by rw [eW]; exact (Ext.refl w).alloc _
  have B0 : W.heap[w.heap.size]? = some (.cells #[.int .i64 n, .int .i64 j, .int .i64 lv, .slice ao m c] 24 (0, 0)) := by rw [eW]; exact heap_alloc_new w _
  have BOX : Hid (∀ V, Ext W V → V.cell? ⟨w.heap.size, 0, none⟩ = some (.int .i64 n) ∧ V.cell? ⟨w.heap.size, 1, none⟩ = some (.int .i64 j) ∧ V.cell? ⟨w.heap.size, 2, none⟩ = some (.int .i64 lv) ∧ V.cell? ⟨w.heap.size, 3, none⟩ = some (.slice ao m c)) := fun V hV => by
    have b := hV.row B0
    exact ⟨by rw [cell_of_row V _ 0 _ _ _ b]; rfl, by rw [cell_of_row V _ 1 _ _ _ b]; rfl, by rw [cell_of_row V _ 2 _ _ _ b]; rfl, by rw [cell_of_row V _ 3 _ _ _ b]; rfl⟩
  obtain ⟨uo, uc, eu, u1, u2, uvw⟩ := rows_view hu
  subst eu
  obtain ⟨um, eum⟩ : ∃ um, um = more.length := ⟨_, rfl⟩
  have UV := hid uvw
  have EU := hid eum
  rw [← eum] at u1
  rw [← eum]
  unfold maxLen at u2
  have XX := hid X
  have EW := hid eW
  have EM := hid em
  clear X eW B0 em hv hu uvw eum
  by_cases ok : ¬ okCase n j lv m
  · have RN := hid (fun V => right_no n j lv ao m c V ok)
    clear ok
    go_enter Try.func6, Try.ntmps6
    go_wp2_with fail
    rw [← EW.out]
    refine (RN.out _).mono ?_
    rintro e w2 ⟨rfl, x2⟩
    have X2 := hid (XX.out.trans x2)
    clear x2
    go_wp2_with fail
    refine (AW.out _).mono ?_
    rintro e w5 ⟨rfl, x5⟩
    have X5 := hid (X2.out.trans x5)
    clear x5
    go_wp2_with fail
    go_ret
    exact ⟨rfl, X5.out⟩
  replace ok := Classical.not_not.1 ok
  have RY := hid (fun V => right_yes n j lv ao m c V ok)
  by_cases u40 : (40 : Int) < (um : Int)
  · clear ok
    go_enter Try.func6, Try.ntmps6
    go_wp2_with fail
    rw [← EW.out]
    refine (RY.out _).mono ?_
    rintro e w2 ⟨rfl, x2⟩
    have X2 := hid (XX.out.trans x2)
    clear x2
    go_wp2_with fail
    refine (AW.out _).mono ?_
    rintro e w5 ⟨rfl, x5⟩
    have X5 := hid (X2.out.trans x5)
    clear x5
    go_wp2_with fail
    go_ret
    exact ⟨rfl, X5.out⟩
  by_cases lt : later < 0
  · clear ok
    go_enter Try.func6, Try.ntmps6
    go_wp2_with fail
    rw [← EW.out]
    refine (RY.out _).mono ?_
    rintro e w2 ⟨rfl, x2⟩
    have X2 := hid (XX.out.trans x2)
    clear x2
    go_wp2_with fail
    refine (AW.out _).mono ?_
    rintro e w5 ⟨rfl, x5⟩
    have X5 := hid (X2.out.trans x5)
    clear x5
    go_wp2_with fail
    go_ret
    exact ⟨rfl, X5.out⟩
  by_cases gt : 1000 < later
  · clear ok
    go_enter Try.func6, Try.ntmps6
    go_wp2_with fail
    rw [← EW.out]
    refine (RY.out _).mono ?_
    rintro e w2 ⟨rfl, x2⟩
    have X2 := hid (XX.out.trans x2)
    clear x2
    go_wp2_with fail
    refine (AW.out _).mono ?_
    rintro e w5 ⟨rfl, x5⟩
    have X5 := hid (X2.out.trans x5)
    clear x5
    go_wp2_with fail
    go_ret
    exact ⟨rfl, X5.out⟩
  have OK := hid ok
  obtain ⟨N, rfl⟩ : ∃ N : Nat, n = (N : Int) := ⟨n.toNat, by have := OK.out.1; omega⟩
  have PL : Hid (∀ V, Ext w V → Calls Try.prog 9 #[.agg #[.int .i64 (N : Int), .int .i64 j, .int .i64 lv, .slice ao m c]] V fun e w' => ∃ b g cap xv l, e = .returned (.tuple #[.pointer (some ⟨b, 0, none⟩), xv]) ∧ Grp w' b g cap N j lv l ∧ NewR tri 47 3 V w' xv l ∧ l.length ≤ 60 ∧ V.heap.size ≤ b ∧ V.heap.size ≤ g) := fun V hV => played_any N j lv _ q V (HV.out.kept (Kept.of_ext hV)) (by rw [← EM.out]; exact OK.out)
  clear ok
  go_enter Try.func6, Try.ntmps6
  go_wp2_with fail
  rw [← EW.out]
  refine (RY.out _).mono ?_
  rintro e w2 ⟨rfl, x2⟩
  have X2 := hid (XX.out.trans x2)
  have W2 := hid x2
  obtain ⟨z0, z1, z2, z3⟩ := BOX.out w2 x2
  clear x2 RY
  go_wp2_with fail
  refine (PL.out _ X2.out).mono ?_
  rintro e w3 ⟨b, g, cap, xv, l, rfl, G, R, ll, _, _⟩
  have W3 := hid (W2.out.trans R.2.2)
  have X3 := hid (X2.out.trans R.2.2)
  have GG := hid G
  have RR := hid R
  have LL := hid ll
  replace z0 := R.2.2.cell z0
  clear G R ll z1 z2 z3 PL X2 W2
  go_wp2_with fail
  clear z0
  have CP := hid (copy_any b g cap N j lv l w3 GG.out)
  go_wp2_with fail
  refine CP.out.mono ?_
  rintro e w4 ⟨cb, cg, ccap, rfl, C4, hcb, hcg, x4⟩
  have CC := hid C4
  have X4 := hid x4
  have HC := hid (And.intro hcb hcg)
  have XW4 := hid (X3.out.trans x4)
  obtain ⟨bx, ebx⟩ : ∃ bx, bx = w.heap.size := ⟨_, rfl⟩
  rw [← ebx] at BOX
  rw [← ebx]
  obtain ⟨z0, _, _, _⟩ := BOX.out w4 (W3.out.trans x4)
  have BX : Hid (∀ V, Kept (fun i => i ≠ cg) w4 V → V.cell? ⟨bx, 0, none⟩ = some (.int .i64 (N : Int)) ∧ V.cell? ⟨bx, 1, none⟩ = some (.int .i64 j) ∧ V.cell? ⟨bx, 2, none⟩ = some (.int .i64 lv)) := fun V hV => by
    obtain ⟨y0, y1, y2, _⟩ := BOX.out w4 (W3.out.trans x4)
    have ne : bx ≠ cg := by
      have h1 : bx < w3.heap.size := by
        obtain ⟨q0, _, _, _⟩ := BOX.out w3 W3.out
        exact block_lt_of_cell q0
      omega
    exact ⟨hV.cell ne y0, hV.cell ne y1, hV.cell ne y2⟩
  have R0 : Hid (RowK (fun i => i ≠ cg) w4 xv 3 (fcells tri l)) := ((RR.out.row encT).mono (by decide) (fun i hi h => by omega)).kept (Kept.of_ext x4)
  have UM : Hid (∀ V, Kept (fun i => i ≠ cg) w4 V → ∀ k x, more[k]? = some x → ∃ gg o, uo = some ⟨gg, o, none⟩ ∧ V.cell? ⟨gg, o + k * 3, none⟩ = some (.int .i64 x.1) ∧ V.cell? ⟨gg, o + k * 3 + 1, none⟩ = some (.int .i64 x.2.1) ∧ V.cell? ⟨gg, o + k * 3 + 2, none⟩ = some (.int .i64 x.2.2)) := fun V hV k x hk => by
    obtain ⟨gg, o, e, _, y0, y1, y2⟩ := UV.out k x hk
    have ne : gg ≠ cg := by have := block_lt_of_cell (X3.out.cell y0); simp only at this; omega
    exact ⟨gg, o, e, hV.cell ne (XW4.out.cell y0), hV.cell ne (XW4.out.cell y1), hV.cell ne (XW4.out.cell y2)⟩
  have KF : Hid (∀ V, Kept (fun i => i ≠ cg) w4 V → Grp V b g cap N j lv l ∧ RowK (fun i => i ≠ cg) V xv 3 (fcells tri l) ∧ Ext w V) := fun V hV => by
    have nb : b ≠ cg := by have := GG.out.lt.1; omega
    have ng : g ≠ cg := by have := GG.out.lt.2; omega
    exact ⟨(GG.out.ext x4).kept hV nb ng, R0.out.kept hV, ext_but XW4.out hV (by have := X3.out.size; omega)⟩
  clear CP hcb hcg x4 C4 ebx BOX UV
  have n64 : N ≤ 64 := by have := OK.out.2.1; omega
  have um40 : um ≤ 40 := by omega
  go_wp2_with fail
  clear z0
  go_loopw [10, 12, 13, 50] (fun y0 _ _ i wr => ∃ (k : Nat) (l' : List Tri) (y : Value), k ≤ um ∧ i = .int .i64 (k : Int) ∧ y = y0 ∧ Hid (l'.length ≤ 60 + k) ∧ Hid (Grp wr cb cg ccap N j lv l') ∧ Hid (RowK (fun i => i ≠ cg) wr y 3 (fcells tri l')) ∧ Hid (Kept (fun i => i ≠ cg) w4 wr)) (fun _ _ _ i _ => (um - intOf i).toNat)
  case atStart => exact ⟨0, l, _, by omega, rfl, rfl, by have := LL.out; show _ ≤ _; omega, CC, R0, Kept.refl _ _⟩
  case round =>
    obtain ⟨k, l', y, hk, rfl, rfl, L1, G1, Y1, K1⟩ := hrel
    by_cases h : k < um
    · have hk2 : k < more.length := by rw [← EU.out]; exact h
      obtain ⟨a, ex⟩ : ∃ a, more[k]? = some a := ⟨_, List.getElem?_eq_getElem hk2⟩
      obtain ⟨gg, oo, rfl, y0, y1, y2⟩ := UM.out wr K1.out k a ex
      have i1 : (k : Int) < (um : Int) := by omega
      have i2 : (0 : Int) ≤ (k : Int) := by omega
      have ll : l'.length ≤ 100 := Nat.le_trans L1.out (by omega)
      obtain ⟨V, eV⟩ : ∃ V, V = wr.alloc (.cells #[.int .i64 a.1, .int .i64 a.2.1, .int .i64 a.2.2] 47) := ⟨_, rfl⟩
      have XV : Ext wr V := by rw [eV]; exact (Ext.refl wr).alloc _
      have A0 : V.heap[wr.heap.size]? = some (.cells #[.int .i64 a.1, .int .i64 a.2.1, .int .i64 a.2.2] 47 (0, 0)) := by rw [eV]; exact heap_alloc_new wr _
      have WN := hid (wrong_any j lv _ N y l' a V (Y1.out.kept (Kept.of_ext XV)) (by omega))
      have gne : wr.heap.size ≠ cg := fun e => by have := G1.out.lt.2; omega
      have CA : Hid (∀ U, Kept (fun i => i ≠ cg) V U → U.heap[wr.heap.size]? = some (.cells #[.int .i64 a.1, .int .i64 a.2.1, .int .i64 a.2.2] 47 (0, 0)) ∧ U.cell? ⟨wr.heap.size, 0, none⟩ = some (.int .i64 a.1) ∧ U.cell? ⟨wr.heap.size, 1, none⟩ = some (.int .i64 a.2.1) ∧ U.cell? ⟨wr.heap.size, 2, none⟩ = some (.int .i64 a.2.2)) := fun U hU =>
        ⟨hU.row gne A0, by rw [cell_of_row U _ 0 _ _ _ (hU.row gne A0)]; rfl, by rw [cell_of_row U _ 1 _ _ _ (hU.row gne A0)]; rfl, by rw [cell_of_row U _ 2 _ _ _ (hU.row gne A0)]; rfl⟩
      have AN : Hid (∀ U, Ext V U → Calls Try.prog 19 #[.pointer (some ⟨cb, 0, none⟩), .int .i64 a.1, .int .i64 a.2.1, .int .i64 a.2.2] U fun e w' => e = .returned (.int .i64 (wrg j lv N l' a)) ∧ Grp w' cb cg ccap N j lv (aft j lv N l' a) ∧ RowK (fun i => i ≠ cg) w' y 3 (fcells tri l') ∧ Kept (fun i => i ≠ cg) w4 w' ∧ Kept (fun i => i ≠ cg) V w') := fun U hU => by
        refine (ask_any cb cg ccap N j lv l' a U (G1.out.ext (XV.trans hU))).mono ?_
        rintro e w' ⟨rfl, h2, h3⟩
        have K2 : Kept (fun i => i ≠ cg) wr w' := (Kept.of_ext (XV.trans hU)).trans h3
        exact ⟨rfl, h2, Y1.out.kept K2, K1.out.trans K2, (Kept.of_ext hU).trans h3⟩
      have AFT : Hid ((wrg j lv N l' a = 0 → aft j lv N l' a = l' ++ [a]) ∧ (wrg j lv N l' a ≠ 0 → aft j lv N l' a = l') ∧ (aft j lv N l' a).length ≤ 60 + (k + 1)) := ⟨fun e => by unfold aft; rw [if_pos e], fun e => by unfold aft; rw [if_neg e], Nat.le_trans (aft_length ..) (by have := L1.out; omega)⟩
      obtain ⟨z0, _, _⟩ := BX.out V (K1.out.trans (Kept.of_ext XV))
      have EV := hid eV
      have SG : Hid (cg < wr.heap.size) := G1.out.lt.2
      clear ex hk2 eV XV A0 gne G1 Y1 K1 L1
      generalize wrg j lv N l' a = E at *
      generalize aft j lv N l' a = l2 at *
      have AT : Hid (tri a = [.int .i64 a.1, .int .i64 a.2.1, .int .i64 a.2.2]) := rfl
      obtain ⟨a0, a1, a2⟩ := a
      simp only at *
      rw [EV.out] at z0
      go_wp2_with fail
      rw [← EV.out]
      refine WN.out.mono ?_
      rintro e w5 ⟨rfl, x5⟩
      obtain ⟨_, d0, d1, d2⟩ := CA.out w5 (Kept.of_ext x5)
      have AN2 := hid (AN.out w5 x5)
      clear WN AN y0 y1 y2 z0 x5
      go_wp2_with fail
      refine AN2.out.mono ?_
      rintro e W ⟨rfl, G3, R3, K3, k3⟩
      have HA := hid (CA.out W k3)
      have SB : Hid (wr.heap.size < W.heap.size) := lt_of_row HA.out.1
      have R3' := hid R3
      have G3' := hid G3
      have K3' := hid K3
      clear AN2 CA k3 G3 R3 K3 d0 d1 d2
      by_cases hE : E = 0
      · have el := hid (AFT.out.1 hE)
        subst hE
        have LY : Hid (l'.length ≤ 1000) := by show _ ≤ _; omega
        have FIN : Hid (∀ V4 v4, NewR tri 47 3 W V4 v4 (l' ++ [(a0, a1, a2)]) → Grp V4 cb cg ccap N j lv l2 ∧ RowK (fun i => i ≠ cg) V4 v4 3 (fcells tri l2) ∧ Kept (fun i => i ≠ cg) w4 V4) := fun V4 v4 N4 => by
          have el := el.out
          rw [← el] at N4
          have := SB.out
          have := SG.out
          exact ⟨G3'.out.ext N4.2.2, (N4.row encT).mono (by decide) (fun i hi h => by omega), K3'.out.trans (Kept.of_ext N4.2.2)⟩
        go_wp2_with fail
        refine wp_region_held_drew (S := fun V => Ext W V) (by kernel_rfl) (Below.drew (Ext.refl W)) (fun hHeld => ?_)
        refine takeE (v := ?_) 1 72 rfl rfl (by kernel_rfl) (by kernel_rfl) (by kernel_rfl) (fun _ _ _ h => h) (Or.inl ⟨by rfl, fun V hV => ?_⟩) hHeld ?_
        rotate_left
        · (go_simp; try with_reducible rfl)
        simp only [Act.put, List.setIfInBounds_toArray, List.set_cons_zero, List.set_cons_succ]
        refine takeE (v := .agg #[.int .i64 a0, .int .i64 a1, .int .i64 a2]) 3 74 rfl rfl (by kernel_rfl) (by kernel_rfl) (by kernel_rfl) (fun _ _ _ h => h) ?_ hHeld ?_
        · exact yields_row 47 (.tmp 12) rfl (by rfl) wr.heap.size (by rfl) 47 _ (0, 0) _ (fun V hV => Ext.row hV HA.out.1) Try.underlying47 rfl (by kernel_rfl)
        simp only [Act.put, List.setIfInBounds_toArray, List.set_cons_zero, List.set_cons_succ]
        have XD : Ext W W.drew := (Ext.refl W).drewN 1
        refine eitherE 0 71 4 75 rfl rfl rfl rfl (by kernel_rfl) (by rfl) (by rfl) (v := .slice (some ⟨W.heap.size, 0, none⟩) 0 0) (u := .slice (some ⟨W.heap.size, 0, none⟩) 1 1) (wi := W.drew.alloc (.cells #[] 47)) (wj := W.drew.alloc (.cells #[.int .i64 a0, .int .i64 a1, .int .i64 a2] 47)) (by go_simp; try with_reducible rfl) (by go_simp; try with_reducible rfl) (XD.alloc _) (XD.alloc _) ?zeroA ?nineB
        case' zeroA =>
          obtain ⟨V1, e1⟩ : ∃ V1, V1 = W.drew.alloc (.cells #[] 47) := ⟨_, rfl⟩
          have N1 : NewR tri 47 3 W V1 (.slice (some ⟨W.heap.size, 0, none⟩) 0 0) [] := by rw [e1]; exact new_made XD
          rw [← e1]
          obtain ⟨v2, V2, r2, N2⟩ := put_list N1 (R3'.out.kept (Kept.of_ext N1.2.2)) LY.out
          have y1 : Ext W (V1.alloc (.cells #[.int .i64 a0, .int .i64 a1, .int .i64 a2] 47)) := N1.2.2.alloc _
          simp only [Act.put, List.setIfInBounds_toArray, List.set_cons_zero, List.set_cons_succ]
          refine eitherE 2 73 4 75 rfl rfl rfl rfl (by kernel_rfl) (by rfl) (by rfl) (v := v2) (u := .slice (some ⟨V1.heap.size, 0, none⟩) 1 1) (wi := V2) (wj := V1.alloc (.cells #[.int .i64 a0, .int .i64 a1, .int .i64 a2] 47)) (exec_append (.tmp 71) (.tmp 72) 22 rfl _ _ _ _ rfl rfl r2) (by go_simp; try with_reducible rfl) N2.2.2 y1 ?twoA ?nineA
        case' twoA =>
          simp only [Act.put, List.setIfInBounds_toArray, List.set_cons_zero, List.set_cons_succ]
          refine knownE 4 75 rfl rfl (by kernel_rfl) (by rfl) (w' := V2.alloc (.cells #[.int .i64 a0, .int .i64 a1, .int .i64 a2] 47)) (v := .slice (some ⟨V2.heap.size, 0, none⟩) 1 1) (by go_simp; try with_reducible rfl) (N2.2.2.alloc _) ?_
          simp only [Act.put, List.setIfInBounds_toArray, List.set_cons_zero, List.set_cons_succ]
          obtain ⟨v4, V4, r4, N4⟩ := put_one (a := (a0, a1, a2)) (N2.ext ((Ext.refl V2).alloc (.cells #[.int .i64 a0, .int .i64 a1, .int .i64 a2] 47))) (one_row encT 47 V2 (a0, a1, a2)) LY.out
        case' nineA =>
          clear r2 N2
          obtain ⟨v2, V2, r2, x2, v4, V4, r4, N4⟩ := put_two (a := (a0, a1, a2)) (N1.ext ((Ext.refl V1).alloc (.cells #[.int .i64 a0, .int .i64 a1, .int .i64 a2] 47))) (R3'.out.kept (Kept.of_ext y1)) (one_row encT 47 V1 (a0, a1, a2)) (by have := N1.1.lt (k := W.heap.size) rfl; omega) LY.out
          simp only [Act.put, List.setIfInBounds_toArray, List.set_cons_zero, List.set_cons_succ]
          refine knownE 2 73 rfl rfl (by kernel_rfl) (by rfl) (w' := V2) (v := v2) (exec_append (.tmp 71) (.tmp 72) 22 rfl _ _ _ _ rfl rfl r2) x2 ?_
          simp only [Act.put, List.setIfInBounds_toArray, List.set_cons_zero, List.set_cons_succ]
        case' nineB =>
          obtain ⟨V1, e1⟩ : ∃ V1, V1 = W.drew.alloc (.cells #[.int .i64 a0, .int .i64 a1, .int .i64 a2] 47) := ⟨_, rfl⟩
          have x1 : Ext W V1 := by rw [e1]; exact XD.alloc _
          have o1 : RowK (fun i => i = W.heap.size) V1 (.slice (some ⟨W.heap.size, 0, none⟩) 1 1) 3 (fcells tri [(a0, a1, a2)]) := by rw [e1]; exact one_row encT 47 W.drew (a0, a1, a2)
          have sz : W.heap.size < V1.heap.size := by rw [e1]; simp
          rw [← e1]
          simp only [Act.put, List.setIfInBounds_toArray, List.set_cons_zero, List.set_cons_succ]
          refine knownE 0 71 rfl rfl (by kernel_rfl) (by rfl) (w' := V1.alloc (.cells #[] 47)) (v := .slice (some ⟨V1.heap.size, 0, none⟩) 0 0) (by go_simp; try with_reducible rfl) (x1.alloc _) ?_
          simp only [Act.put, List.setIfInBounds_toArray, List.set_cons_zero, List.set_cons_succ]
          have y1 : Ext W (V1.alloc (.cells #[] 47)) := x1.alloc _
          obtain ⟨v2, V2, r2, x2, v4, V4, r4, N4⟩ := put_two (new_made x1) (R3'.out.kept (Kept.of_ext y1)) (o1.kept (Kept.of_ext ((Ext.refl V1).alloc _))) (by omega) LY.out
          refine knownE 2 73 rfl rfl (by kernel_rfl) (by rfl) (w' := V2) (v := v2) (exec_append (.tmp 71) (.tmp 72) 22 rfl _ _ _ _ rfl rfl r2) x2 ?_
          simp only [Act.put, List.setIfInBounds_toArray, List.set_cons_zero, List.set_cons_succ]
        all_goals refine knownE 5 76 rfl rfl (by kernel_rfl) (by rfl) (w' := V4) (v := v4) (exec_append (.tmp 73) (.tmp 75) 22 rfl _ _ _ _ rfl rfl r4) N4.2.2 ?_
        all_goals simp only [Act.put, List.setIfInBounds_toArray, List.set_cons_zero, List.set_cons_succ]
        all_goals refine takeE (v := ?_) 6 10 rfl rfl (by kernel_rfl) (by kernel_rfl) (by kernel_rfl) (fun _ _ _ h => h) (Or.inl ⟨by rfl, fun V hV => (by (go_simp; try with_reducible rfl))⟩) N4.2.2 ?_
        all_goals simp only [Act.put, List.setIfInBounds_toArray, List.set_cons_zero, List.set_cons_succ]
        all_goals refine wpAnyH_done (by kernel_rfl) ?_ _
        all_goals have F := hid (FIN.out V4 _ N4)
        all_goals clear r4 N4 FIN hHeld XD
        all_goals go_wp2_with fail
        all_goals go_roundw
        all_goals first
          | exact ⟨k + 1, l2, _, by omega, by go_num, rfl, AFT.out.2.2, F.out.1, F.out.2.1, F.out.2.2⟩
          | (simp [intOf]; omega)
      · have el := hid (AFT.out.2.1 hE)
        have R4 : Hid (RowK (fun i => i ≠ cg) W y 3 (fcells tri l2)) := by show RowK _ _ _ _ _; rw [el.out]; exact R3'.out
        go_wp2_with fail
        go_roundw
        case rel => exact ⟨k + 1, l2, _, by omega, by go_num, rfl, AFT.out.2.2, G3', R4, K3'⟩
        case measure => simp [intOf]; omega
    · obtain rfl : k = um := by omega
      have K0 := hid K1.out
      obtain ⟨G5, R5, X5⟩ := KF.out wr K1.out
      have GG5 := hid G5
      have RR5 := hid R5
      have XX5 := hid X5
      obtain ⟨z0, _, _⟩ := BX.out wr K1.out
      obtain ⟨w6, rfl⟩ : ∃ w6, w6 = wr := ⟨_, rfl⟩
      clear G1 Y1 K1 L1 G5 R5 X5 KF UM R0 CC GG RR
      go_wp2_with fail
      clear z0
      go_loopw [14, 15, 16, 17, 18, 80] (fun _ _ _ _ _ i wr => ∃ k : Nat, k ≤ N ∧ i = .int .i64 (k : Int) ∧ Hid (Ext w6 wr)) (fun _ _ _ _ _ i _ => (N - intOf i).toNat)
      case atStart => exact ⟨0, by omega, rfl, Ext.refl w6⟩
      case round =>
        obtain ⟨i', hi', rfl, Y⟩ := hrel
        obtain ⟨z0, z1, z2⟩ := BX.out _ (K0.out.trans (Kept.of_ext Y.out))
        by_cases h2 : i' < N
        · have i1 : (i' : Int) < (N : Int) := by omega
          have i2 : (0 : Int) ≤ (i' : Int) := by omega
          have G6 := GG5.out.ext Y.out
          have F := st_fit (j := j) (lv := lv) G6.1.2.2.2.2.2.2 (i' : Int)
          have LA := last_any _ xv l i' _ (RR5.out.kept (Kept.of_ext Y.out)) (by have := LL.out; omega)
          obtain ⟨s1, s2⟩ := st_last 0 0 j lv l (i' : Int)
          rw [s1, s2] at LA
          have LE : Hid (∀ V, Ext w6 V → ∀ t, Calls Try.prog 11 #[.pointer (some ⟨b, 0, none⟩), .int .i64 (i' : Int), .int .i64 t] V fun e w' => e = .returned (.tuple #[.int .i64 (lat j lv (st j lv l i') t), .int .i64 0]) ∧ Ext V w') := fun V hV t => level_any b g cap N j lv l i' t V (GG5.out.ext hV) h2
          have RE : Hid (∀ V, Ext w6 V → ∀ t, Calls Try.prog 12 #[xv, .int .i64 (i' : Int), .int .i64 j, .int .i64 lv, .int .i64 t] V fun e w' => e = .returned (.int .i64 (lat j lv (st j lv l i') t)) ∧ Ext V w') := fun V hV t => refLevel_any _ N xv l i' j lv t V (RR5.out.kept (Kept.of_ext hV)) (by have := LL.out; omega) G6.1.2.2.2.2.2.2 OK.out.2.2.1 OK.out.2.2.2.1 OK.out.2.2.2.2.1 OK.out.2.2.2.2.2.1
          have LA2 := hid LA
          clear LA s1 s2 G6 z0 z1 z2
          generalize st j lv l i' = s at *
          obtain ⟨t, lev, asked⟩ := s
          obtain ⟨f1, f2, f3, f4, f5, f6⟩ := F
          simp only at *
          have wt : IntKind.i64.wrap (t + later) = t + later := IntWalk.i64_in _ (by omega)
          go_wp2_with fail
          refine LA2.out.mono ?_
          rintro e w7 ⟨rfl, rfl⟩
          clear LA2
          go_wp2_with fail
          refine (LE.out _ Y.out _).mono ?_
          rintro e w8 ⟨rfl, x8⟩
          have Y8 := hid (Y.out.trans x8)
          obtain ⟨z0, z1, z2⟩ := BX.out _ (K0.out.trans (Kept.of_ext Y8.out))
          clear LE x8
          go_wp2_with fail
          refine (RE.out _ Y8.out _).mono ?_
          rintro e w9 ⟨rfl, x9⟩
          have Y9 := hid (Y8.out.trans x9)
          clear RE x9 z0 z1 z2
          go_wp2_with fail
          go_roundw
          case rel => exact ⟨i' + 1, by omega, by go_num, Y9⟩
          case measure => simp [intOf]; omega
        · obtain rfl : i' = N := by omega
          clear z0 z1 z2
          go_wp2_with fail
          refine (AW.out _).mono ?_
          rintro e w7 ⟨rfl, x7⟩
          have X7 := hid ((XX5.out.trans Y.out).trans x7)
          clear x7
          go_wp2_with fail
          go_ret
          exact ⟨rfl, X7.out⟩

theorem walk (v0 : Value) (z : Int × Int × Int × Value × List Tri) (u : Value) (more : List Tri) (later : Int) (w : World) (hz : v0 = .agg #[.int .i64 z.1, .int .i64 z.2.1, .int .i64 z.2.2.1, z.2.2.2.1] ∧ AskIn w z.2.2.2.1 z.2.2.2.2) (hu : AskIn w u more) : Calls Try.prog 6 #[v0, u, .int .i64 later] w fun e w' => e = .returned (.bool true) ∧ Ext w w' := by
  obtain ⟨rfl, h⟩ := hz
  exact walk0 _ _ _ _ _ u more later w h hu
end Go.Proofs.Ytmnngajklnljjaa.groupCopies

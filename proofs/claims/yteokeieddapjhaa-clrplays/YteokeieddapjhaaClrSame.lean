/-
  The statements' same: a book and the reference's state tell the same. (Printed by wip/gen/clrsame.py.)
-/
import Derived.Test.YteokeieddapjhaaClrPlay
import Derived.Test.YteokeieddapjhaaClrSt
namespace Go.Proofs.Yteokeieddapjhaa.Clr
set_option linter.unusedVariables false
set_option linter.unusedSimpArgs false
set_option maxRecDepth 100000
open Go.RowKit Go.Lib

theorem size_told : (Try.prog.info? 30).map (·.size) = some 3 := by kernel_rfl
theorem size_64 : (Try.prog.info? 31).map (·.size) = some 192 := by kernel_rfl
theorem place_cells (D : List Slot) {k : Nat} (hk : k < D.length) : (fcells sl D).toArray.extract (k * 3) (k * 3 + 3) = (sl (sat D k)).toArray := by
  have e : D.drop k = sat D k :: D.drop (k + 1) := by
    unfold sat
    rw [List.getElem?_eq_getElem hk]
    exact List.drop_eq_getElem_cons hk
  apply Array.ext'
  rw [List.extract_toArray, List.toList_toArray, List.toList_toArray, List.extract_eq_take_drop, ← fcells_drop encS, e, fcells_cons, show k * 3 + 3 - k * 3 = (sl (sat D k)).length by rw [sl_length]; omega]
  exact List.take_left
/-- an array by value read at a variable index -/
theorem index_64 (w : World) (D : List Slot) (k : Nat) (hk : k < 64) (hD : D.length = 64) : (Instr.index 31 (.agg (fcells sl D).toArray) (.int .i64 (k : Int))).run Try.prog w = .ok (.agg (sl (sat D k)).toArray) w := by
  have hs : (sizeOf 30).run Try.prog w = .ok 3 w := by
    cases hq : Try.prog.info? 30 with
    | none => have := size_told; simp [hq] at this
    | some i =>
      have := size_told
      have hs : i.size = 3 := by simpa [hq] using this
      simp [sizeOf, typeInfo, hq, hs]
  have hp : (part 30 (fcells sl D).toArray (k * 3)).run Try.prog w = .ok (.agg (sl (sat D k)).toArray) w := by
    simp only [part, Sem.run_bind, show (isAgg 30).run Try.prog w = .ok true w by simp [isAgg, run_underlying Try.underlying30], Result.andThen_ok, if_true, hs, Sem.run_pure]
    rw [place_cells D (by rw [hD]; exact hk)]
  simp only [Instr.index, asIntOf, Sem.run_bind, Sem.run_pure, run_underlying Try.underlying31, Result.andThen_ok]
  rw [if_pos (by omega)]
  simp only [Sem.run_bind, hs, Result.andThen_ok, Int.toNat_natCast, hp]

/-- who has the least rate, -1: none -/
def lr : Option Rep → Int
  | none => -1
  | some m => m.1
def nxt : Option Rep → Rep → Rep
  | none, t => t
  | some m, t => mn m t
theorem least_nxt (l : List Rep) (t : Rep) : least (l ++ [t]) = some (nxt (least l) t) := by
  rw [least_snoc]
  cases least l <;> rfl
theorem rows_next {D : List Slot} {k : Nat} (hk : k < D.length) : rows 0 (D.take (k + 1)) = rows 0 (D.take k) ++ rw_ k (sat D k) := by
  rw [List.take_add_one, rows_append, List.length_take, Nat.min_eq_left (Nat.le_of_lt hk), sat_get hk, Nat.zero_add]
  simp [rows]
theorem rows_from (l : List Slot) : ∀ (i : Nat) (m : Rep), m ∈ rows i l → ∃ j : Nat, j < l.length ∧ m.1 = ((i + j : Nat) : Int) ∧ sat l j = some m.2 := by
  induction l with
  | nil => intro i m h; simp [rows] at h
  | cons x l ih =>
    intro i m h
    simp only [rows, List.mem_append] at h
    rcases h with h | h
    · cases x with
      | none => simp [rw_] at h
      | some q =>
        simp only [rw_, List.mem_cons, List.not_mem_nil, or_false] at h
        subst h
        exact ⟨0, by simp, by simp, rfl⟩
    · obtain ⟨j, h1, h2, h3⟩ := ih _ _ h
      refine ⟨j + 1, by simp; omega, by rw [h2]; omega, ?_⟩
      unfold sat at h3 ⊢
      rw [List.getElem?_cons_succ]
      exact h3
theorem least_from {D : List Slot} {k : Nat} {m : Rep} (h : least (rows 0 (D.take k)) = some m) (hD : D.length = 64) : ∃ j : Nat, j < 64 ∧ m.1 = (j : Int) ∧ sat D j = some m.2 := by
  obtain ⟨j, h1, h2, h3⟩ := rows_from _ _ _ (least_mem h)
  rw [List.length_take] at h1
  refine ⟨j, by omega, by rw [h2]; omega, ?_⟩
  unfold sat at h3 ⊢
  rw [List.getElem?_take, if_pos (by omega)] at h3
  exact h3

set_option maxHeartbeats 8000000 in
theorem same_any {K : Nat → Prop} {w : World} {b : Nat} {lim : Int} {s : BS} (h : Bk K w b lim s) :
    Calls Try.prog 11 #[.pointer (some ⟨b, 0, none⟩), .agg (dcs s)] w fun e w' => e = .returned (.bool true) ∧ Ext w w' := by
  obtain ⟨C, eC⟩ : ∃ C, C = clr s := ⟨_, rfl⟩
  rw [show dcs s = dc s.1 C by unfold dcs; rw [eC]]
  obtain ⟨W, eW⟩ : ∃ W, W = w.alloc (.cells (dc s.1 C) 33) := ⟨_, rfl⟩
  have X : Ext w W := by rw [eW]; exact (Ext.refl w).alloc _
  obtain ⟨p, ep⟩ : ∃ p, p = w.heap.size := ⟨_, rfl⟩
  have R0 : W.heap[p]? = some (.cells (dc s.1 C) 33 (0, 0)) := by rw [eW, ep]; exact heap_alloc_new w _
  have hD := h.1.1
  have CC : Hid (W.cell? ⟨p, 192, none⟩ = some (.int .i64 C)) := by show _ = _; rw [cell_of_row _ _ 192 _ _ _ R0, dc_clr _ _ hD]
  have RG : Hid (W.rangeAt p 0 (fcells sl s.1)) := fun j u hu => by
    rw [cell_of_row _ _ _ _ _ _ R0, Nat.zero_add]
    show (dl s.1 C).toArray[j]? = _
    rw [List.getElem?_toArray]
    unfold dl
    rw [List.getElem?_append_left (List.getElem?_eq_some_iff.1 hu).1]
    exact hu
  have PL : Hid (∀ V, Ext W V → ∀ j q, j < 64 → sat s.1 j = some q → V.cell? ⟨p, j * 3 + 2, none⟩ = some (.int .u64 q.2)) := fun V x j q hj e => by
    rw [cell_of_row _ _ (j * 3 + 2) _ _ _ (x.row R0), dc_at s.1 C (by rw [hD]; exact hj) (by decide), e]
    rfl
  have IX := hid (fun V k (hk : k < 64) => index_64 V s.1 k hk hD)
  have OF := hid (fun V (x : Ext W V) (k : Nat) => of_any ((h.ext X).ext x) (k : Int))
  have CL := hid (fun V (x : Ext W V) => clr_any ((h.ext X).ext x))
  have LE := hid (fun V (x : Ext W V) => least_any ((h.ext X).ext x))
  have CN := hid (fun V (x : Ext W V) => count_any ((h.ext X).ext x))
  have NX : Hid (∀ k, k < 64 → rows 0 (s.1.take (k + 1)) = rows 0 (s.1.take k) ++ rw_ k (sat s.1 k)) := fun k hk => rows_next (by rw [hD]; exact hk)
  have LF : Hid (∀ k m, least (rows 0 (s.1.take k)) = some m → ∃ j : Nat, j < 64 ∧ m.1 = (j : Int) ∧ sat s.1 j = some m.2) := fun k m e => least_from e hD
  have LL : Hid (∀ k, (rows 0 (s.1.take k)).length ≤ 64) := fun k => by
    have := rows_len (s.1.take k) 0
    rw [List.length_take] at this
    omega
  have TK : Hid (s.1.take 64 = s.1) := by show _ = _; rw [← hD]; exact List.take_length
  have LA : Hid ((fcells sl s.1).length = 192) := by show _ = _; rw [fcells_length encS, hD]
  have CS : Hid ((C = -1 ∧ cl s = none) ∨ ∃ (j : Nat) (q : Int × Int), C = (j : Int) ∧ s.2 = (j : Int) ∧ cl s = some q) := by
    cases e : cl s with
    | none => exact .inl ⟨by rw [eC]; unfold clr; rw [e]; rfl, rfl⟩
    | some q =>
      have hr := (la_some h.1 e).1
      obtain ⟨j, ej⟩ : ∃ j : Nat, s.2 = (j : Int) := ⟨s.2.toNat, by have := hr.1; omega⟩
      exact .inr ⟨j, q, by rw [eC]; unfold clr; rw [e]; exact ej, ej, rfl⟩
  have EW := hid eW
  have EP := hid ep
  have XX := hid X
  obtain ⟨A, eA⟩ : ∃ A, A = fcells sl s.1 := ⟨_, rfl⟩
  rw [← eA] at RG LA IX
  have SZ := hid size_64
  clear h eW ep X R0 hD eC eA
  go_enter Try.func11, Try.ntmps11
  go_wp2_with (first
    | rw [← EP.out, ← EW.out]
    | refine wpList_load_mid rfl 31 _ rfl p 0 rfl _ _ RG.out Try.underlying31 rfl (by rw [LA.out]; exact SZ.out) ?_)
  clear EW EP RG LA SZ
  go_loopw [5, 6, 7, 8, 9, 10, 17] (fun nv lv _ _ _ _ iv wr => ∃ k : Nat, k ≤ 64 ∧ iv = .int .i64 (k : Int) ∧ nv = .int .i64 ((rows 0 (s.1.take k)).length : Int) ∧ lv = .int .i64 (lr (least (rows 0 (s.1.take k)))) ∧ Hid (Ext W wr)) (fun _ _ _ _ _ _ iv _ => (64 - RowKit.intOf iv).toNat)
  case atStart => exact ⟨0, by omega, rfl, rfl, rfl, Ext.refl W⟩
  case round =>
    obtain ⟨k, hk, rfl, rfl, rfl, HH⟩ := hrel
    by_cases q : k < 64
    · have i1 : (k : Int) < 64 := by omega
      have i2 : (0 : Int) ≤ (k : Int) := by omega
      have ix := IX.out wr k q
      have nx := NX.out k q
      have GT := guardT
      have ll := LL.out k
      obtain ⟨n, en⟩ : ∃ n, n = (rows 0 (s.1.take k)).length := ⟨_, rfl⟩
      have wn : IntKind.i64.wrap ((n : Int) + 1) = (n : Int) + 1 := IntWalk.i64_in _ (by omega)
      clear CL LE CN LL TK CS IX NX
      cases e : sat s.1 k with
      | none =>
        rw [e] at ix nx
        simp only [sl] at ix
        simp only [rw_, List.append_nil] at nx
        have N1 := hid nx
        have PE := fun V => told_eq V 0 0 0
        obtain ⟨V1, e1⟩ : ∃ V1, V1 = wr.alloc (.cells #[.bool false, .int .i64 0, .int .u64 0] 30) := ⟨_, rfl⟩
        have X1 : Hid (Ext W V1) := by show Ext _ _; rw [e1]; exact HH.out.alloc _
        have B1 : V1.heap[wr.heap.size]? = some (.cells #[.bool false, .int .i64 0, .int .u64 0] 30 (0, 0)) := by rw [e1]; exact heap_alloc_new wr _
        have OO := hid (OF.out V1 X1.out k)
        rw [la_nat, e] at OO
        simp only [tv, Option.isSome_none, Bool.false_eq_true, if_false] at OO
        rw [e1] at OO
        have B2 := hid B1
        have E1 := hid e1
        clear nx OF e1 B1 LF PL e
        go_wp2_with fail
        refine OO.out.mono ?_
        rintro e w5 ⟨rfl, x5⟩
        rw [← E1.out] at x5
        have X5 := hid ((X1.out.trans x5).trans (tb_ext w5 0 0 0))
        have EZ : Hid (w5.alloc (.cells #[.int .i64 0, .int .i64 0, .int .u64 0] 43) = tb w5 0 0 0) := rfl
        obtain ⟨z0, z1, z2⟩ := row3 (tb_row w5 0 0 0)
        have y0 : (tb w5 0 0 0).cell? ⟨wr.heap.size, 0, none⟩ = some (.bool false) := by rw [cell_of_row _ _ 0 _ _ _ ((x5.trans (tb_ext w5 0 0 0)).row B2.out)]; rfl
        rw [← EZ.out] at z0 z1 z2 y0
        clear x5 OO X1 B2 E1
        go_wp2_with fail
        go_roundw
        case rel => exact ⟨k + 1, by omega, by go_num, by rw [N1.out], by rw [N1.out], X5.out⟩
        case measure => simp [RowKit.intOf]; omega
      | some y =>
        rw [e] at ix nx
        simp only [sl] at ix
        simp only [rw_] at nx
        have n1 : (rows 0 (s.1.take (k + 1))).length = n + 1 := by rw [nx, List.length_append, ← en]; rfl
        have l1 : least (rows 0 (s.1.take (k + 1))) = some (nxt (least (rows 0 (s.1.take k))) ((k : Int), y.1, y.2)) := by rw [nx, least_nxt]
        have N1 := hid n1
        have L1 := hid l1
        have PE := fun V => told_eq V (k : Int) y.1 y.2
        obtain ⟨V1, e1⟩ : ∃ V1, V1 = wr.alloc (.cells #[.bool true, .int .i64 y.1, .int .u64 y.2] 30) := ⟨_, rfl⟩
        have X1 : Hid (Ext W V1) := by show Ext _ _; rw [e1]; exact HH.out.alloc _
        have B1 : V1.heap[wr.heap.size]? = some (.cells #[.bool true, .int .i64 y.1, .int .u64 y.2] 30 (0, 0)) := by rw [e1]; exact heap_alloc_new wr _
        have OO := hid (OF.out V1 X1.out k)
        rw [la_nat, e] at OO
        simp only [tv, Option.isSome_some, if_true] at OO
        rw [e1] at OO
        have B2 := hid B1
        have E1 := hid e1
        rw [← en]
        clear nx OF e1 B1 n1 l1 e
        cases em : least (rows 0 (s.1.take k)) with
        | none =>
          rw [em] at L1
          rw [show lr none = -1 from rfl]
          clear LF PL
          go_wp2_with fail
          refine OO.out.mono ?_
          rintro e w5 ⟨rfl, x5⟩
          rw [← E1.out] at x5
          have X5 := hid ((X1.out.trans x5).trans (tb_ext w5 (k : Int) y.1 y.2))
          have EZ : Hid (w5.alloc (.cells #[.int .i64 (k : Int), .int .i64 y.1, .int .u64 y.2] 43) = tb w5 (k : Int) y.1 y.2) := rfl
          obtain ⟨z0, z1, z2⟩ := row3 (tb_row w5 (k : Int) y.1 y.2)
          have r5 := (x5.trans (tb_ext w5 (k : Int) y.1 y.2)).row B2.out
          have y0 : (tb w5 (k : Int) y.1 y.2).cell? ⟨wr.heap.size, 0, none⟩ = some (.bool true) := by rw [cell_of_row _ _ 0 _ _ _ r5]; rfl
          have y1 : (tb w5 (k : Int) y.1 y.2).cell? ⟨wr.heap.size, 1, none⟩ = some (.int .i64 y.1) := by rw [cell_of_row _ _ 1 _ _ _ r5]; rfl
          have y2 : (tb w5 (k : Int) y.1 y.2).cell? ⟨wr.heap.size, 2, none⟩ = some (.int .u64 y.2) := by rw [cell_of_row _ _ 2 _ _ _ r5]; rfl
          rw [← EZ.out] at z0 z1 z2 y0 y1 y2
          clear x5 OO X1 B2 E1 r5
          go_wp2_with fail
          go_quiet (fail)
          go_wp2_with fail
          go_roundw
          case rel => exact ⟨k + 1, by omega, by go_num, by rw [N1.out]; try go_num, by rw [L1.out]; rfl, X5.out.drewN _⟩
          case measure => simp [RowKit.intOf]; omega
        | some m =>
          rw [em] at L1
          obtain ⟨j, hj, ej, ey⟩ := LF.out k m em
          rw [show lr (some m) = m.1 from rfl, ej]
          have j1 : (j : Int) < 64 := by omega
          have j2 : (0 : Int) ≤ (j : Int) := by omega
          have j3 : ¬ ((j : Int) < 0) := by omega
          have EJ := hid ej
          clear LF em ej
          by_cases d : y.2 < m.2.2
          · have L2 : Hid (lr (least (rows 0 (s.1.take (k + 1)))) = (k : Int)) := by show _ = _; rw [L1.out]; show (mn m _).1 = _; unfold mn; rw [if_pos d]
            have P2 := hid (fun V x => PL.out V x j m.2 hj ey)
            clear PL ey L1
            go_wp2_with fail
            refine OO.out.mono ?_
            rintro e w5 ⟨rfl, x5⟩
            rw [← E1.out] at x5
            have X5 := hid ((X1.out.trans x5).trans (tb_ext w5 (k : Int) y.1 y.2))
            have EZ : Hid (w5.alloc (.cells #[.int .i64 (k : Int), .int .i64 y.1, .int .u64 y.2] 43) = tb w5 (k : Int) y.1 y.2) := rfl
            obtain ⟨z0, z1, z2⟩ := row3 (tb_row w5 (k : Int) y.1 y.2)
            have r5 := (x5.trans (tb_ext w5 (k : Int) y.1 y.2)).row B2.out
            have y0 : (tb w5 (k : Int) y.1 y.2).cell? ⟨wr.heap.size, 0, none⟩ = some (.bool true) := by rw [cell_of_row _ _ 0 _ _ _ r5]; rfl
            have y1 : (tb w5 (k : Int) y.1 y.2).cell? ⟨wr.heap.size, 1, none⟩ = some (.int .i64 y.1) := by rw [cell_of_row _ _ 1 _ _ _ r5]; rfl
            have y2 : (tb w5 (k : Int) y.1 y.2).cell? ⟨wr.heap.size, 2, none⟩ = some (.int .u64 y.2) := by rw [cell_of_row _ _ 2 _ _ _ r5]; rfl
            have d2 := P2.out _ X5.out
            rw [← EZ.out] at z0 z1 z2 y0 y1 y2 d2
            clear x5 OO X1 B2 E1 r5
            go_wp2_with fail
            go_quiet (fail)
            go_wp2_with fail
            go_roundw
            case rel => exact ⟨k + 1, by omega, by go_num, by rw [N1.out]; try go_num, by rw [L2.out], X5.out.drewN _⟩
            case measure => simp [RowKit.intOf]; omega
          · have L2 : Hid (lr (least (rows 0 (s.1.take (k + 1)))) = (j : Int)) := by show _ = _; rw [L1.out]; show (mn m _).1 = _; unfold mn; rw [if_neg d]; exact EJ.out
            have P2 := hid (fun V x => PL.out V x j m.2 hj ey)
            clear PL ey L1
            go_wp2_with fail
            refine OO.out.mono ?_
            rintro e w5 ⟨rfl, x5⟩
            rw [← E1.out] at x5
            have X5 := hid ((X1.out.trans x5).trans (tb_ext w5 (k : Int) y.1 y.2))
            have EZ : Hid (w5.alloc (.cells #[.int .i64 (k : Int), .int .i64 y.1, .int .u64 y.2] 43) = tb w5 (k : Int) y.1 y.2) := rfl
            obtain ⟨z0, z1, z2⟩ := row3 (tb_row w5 (k : Int) y.1 y.2)
            have r5 := (x5.trans (tb_ext w5 (k : Int) y.1 y.2)).row B2.out
            have y0 : (tb w5 (k : Int) y.1 y.2).cell? ⟨wr.heap.size, 0, none⟩ = some (.bool true) := by rw [cell_of_row _ _ 0 _ _ _ r5]; rfl
            have y1 : (tb w5 (k : Int) y.1 y.2).cell? ⟨wr.heap.size, 1, none⟩ = some (.int .i64 y.1) := by rw [cell_of_row _ _ 1 _ _ _ r5]; rfl
            have y2 : (tb w5 (k : Int) y.1 y.2).cell? ⟨wr.heap.size, 2, none⟩ = some (.int .u64 y.2) := by rw [cell_of_row _ _ 2 _ _ _ r5]; rfl
            have d2 := P2.out _ X5.out
            rw [← EZ.out] at z0 z1 z2 y0 y1 y2 d2
            clear x5 OO X1 B2 E1 r5
            go_wp2_with fail
            go_quiet (fail)
            go_wp2_with fail
            go_roundw
            case rel => exact ⟨k + 1, by omega, by go_num, by rw [N1.out]; try go_num, by rw [L2.out], X5.out.drewN _⟩
            case measure => simp [RowKit.intOf]; omega
    · obtain rfl : k = 64 := by omega
      rw [TK.out]
      have hs2 : Hid (∀ m, least (rows 0 s.1) = some m → 0 ≤ m.1) := fun m e => by
        obtain ⟨j, _, ej, _⟩ := LF.out 64 m (by rw [TK.out]; exact e)
        omega
      generalize rows 0 s.1 = l at *
      clear IX OF NX LF LL TK PL
      rcases CS.out with ⟨eC, ec⟩ | ⟨j, q2, eC, e2, ec⟩
      · subst eC
        cases el : least l with
        | none =>
          rw [show lr none = -1 from rfl]
          go_wp2_with fail
          refine (CL.out _ HH.out).mono ?_
          rintro e w5 ⟨rfl, x5⟩
          rw [ec]
          simp only [tv, Option.isSome_none, Option.isSome_some]
          have X5 := hid ((HH.out.trans x5).trans (tb_ext w5 0 0 0))
          have A5 := hid (tb_row w5 0 0 0)
          clear x5
          go_wp2_with fail
          refine (LE.out _ X5.out).mono ?_
          rintro e w6 ⟨rfl, x6⟩
          rw [el]
          simp only [lsv, ra, Option.isSome_none, Option.isSome_some]
          have X6 := hid ((X5.out.trans x6).trans (tb_ext w6 0 0 0))
          have A6 := hid (tb_row w6 0 0 0)
          obtain ⟨a0, a1, a2⟩ := row3 ((x6.trans (tb_ext w6 0 0 0)).row A5.out)
          obtain ⟨b0, b1, b2⟩ := row3 A6.out
          have cc := X6.out.cell CC.out
          have EZ : Hid (w6.alloc (.cells #[.int .i64 0, .int .i64 0, .int .u64 0] 43) = tb w6 0 0 0) := rfl
          have XF := hid (XX.out.trans X6.out)
          have CNT := hid (CN.out _ X6.out)
          clear x6 CN
          go_wp2_with fail
          refine CNT.out.mono ?_
          rintro e w7 ⟨rfl, ew⟩
          obtain rfl := ew
          go_wp2_with fail
          go_ret
          exact ⟨rfl, XF.out⟩
        | some m =>
          rw [show lr (some m) = m.1 from rfl]
          have m0 := hs2.out m el
          go_wp2_with fail
          refine (CL.out _ HH.out).mono ?_
          rintro e w5 ⟨rfl, x5⟩
          rw [ec]
          simp only [tv, Option.isSome_none, Option.isSome_some]
          have X5 := hid ((HH.out.trans x5).trans (tb_ext w5 0 0 0))
          have A5 := hid (tb_row w5 0 0 0)
          clear x5
          go_wp2_with fail
          refine (LE.out _ X5.out).mono ?_
          rintro e w6 ⟨rfl, x6⟩
          rw [el]
          simp only [lsv, ra, Option.isSome_none, Option.isSome_some]
          have X6 := hid ((X5.out.trans x6).trans (tb_ext w6 m.1 m.2.1 m.2.2))
          have A6 := hid (tb_row w6 m.1 m.2.1 m.2.2)
          obtain ⟨a0, a1, a2⟩ := row3 ((x6.trans (tb_ext w6 m.1 m.2.1 m.2.2)).row A5.out)
          obtain ⟨b0, b1, b2⟩ := row3 A6.out
          have cc := X6.out.cell CC.out
          have EZ : Hid (w6.alloc (.cells #[.int .i64 m.1, .int .i64 m.2.1, .int .u64 m.2.2] 43) = tb w6 m.1 m.2.1 m.2.2) := rfl
          have XF := hid (XX.out.trans X6.out)
          have CNT := hid (CN.out _ X6.out)
          clear x6 CN
          go_wp2_with fail
          refine CNT.out.mono ?_
          rintro e w7 ⟨rfl, ew⟩
          obtain rfl := ew
          go_wp2_with fail
          go_ret
          exact ⟨rfl, XF.out⟩
      · subst eC
        have j2 : (0 : Int) ≤ (j : Int) := by omega
        cases el : least l with
        | none =>
          rw [show lr none = -1 from rfl]
          go_wp2_with fail
          refine (CL.out _ HH.out).mono ?_
          rintro e w5 ⟨rfl, x5⟩
          rw [ec, e2]
          simp only [tv, Option.isSome_none, Option.isSome_some]
          have X5 := hid ((HH.out.trans x5).trans (tb_ext w5 (j : Int) q2.1 q2.2))
          have A5 := hid (tb_row w5 (j : Int) q2.1 q2.2)
          clear x5
          go_wp2_with fail
          refine (LE.out _ X5.out).mono ?_
          rintro e w6 ⟨rfl, x6⟩
          rw [el]
          simp only [lsv, ra, Option.isSome_none, Option.isSome_some]
          have X6 := hid ((X5.out.trans x6).trans (tb_ext w6 0 0 0))
          have A6 := hid (tb_row w6 0 0 0)
          obtain ⟨a0, a1, a2⟩ := row3 ((x6.trans (tb_ext w6 0 0 0)).row A5.out)
          obtain ⟨b0, b1, b2⟩ := row3 A6.out
          have cc := X6.out.cell CC.out
          have EZ : Hid (w6.alloc (.cells #[.int .i64 0, .int .i64 0, .int .u64 0] 43) = tb w6 0 0 0) := rfl
          have XF := hid (XX.out.trans X6.out)
          have CNT := hid (CN.out _ X6.out)
          clear x6 CN
          go_wp2_with fail
          refine CNT.out.mono ?_
          rintro e w7 ⟨rfl, ew⟩
          obtain rfl := ew
          go_wp2_with fail
          go_ret
          exact ⟨rfl, XF.out⟩
        | some m =>
          rw [show lr (some m) = m.1 from rfl]
          have m0 := hs2.out m el
          go_wp2_with fail
          refine (CL.out _ HH.out).mono ?_
          rintro e w5 ⟨rfl, x5⟩
          rw [ec, e2]
          simp only [tv, Option.isSome_none, Option.isSome_some]
          have X5 := hid ((HH.out.trans x5).trans (tb_ext w5 (j : Int) q2.1 q2.2))
          have A5 := hid (tb_row w5 (j : Int) q2.1 q2.2)
          clear x5
          go_wp2_with fail
          refine (LE.out _ X5.out).mono ?_
          rintro e w6 ⟨rfl, x6⟩
          rw [el]
          simp only [lsv, ra, Option.isSome_none, Option.isSome_some]
          have X6 := hid ((X5.out.trans x6).trans (tb_ext w6 m.1 m.2.1 m.2.2))
          have A6 := hid (tb_row w6 m.1 m.2.1 m.2.2)
          obtain ⟨a0, a1, a2⟩ := row3 ((x6.trans (tb_ext w6 m.1 m.2.1 m.2.2)).row A5.out)
          obtain ⟨b0, b1, b2⟩ := row3 A6.out
          have cc := X6.out.cell CC.out
          have EZ : Hid (w6.alloc (.cells #[.int .i64 m.1, .int .i64 m.2.1, .int .u64 m.2.2] 43) = tb w6 m.1 m.2.1 m.2.2) := rfl
          have XF := hid (XX.out.trans X6.out)
          have CNT := hid (CN.out _ X6.out)
          clear x6 CN
          go_wp2_with fail
          refine CNT.out.mono ?_
          rintro e w7 ⟨rfl, ew⟩
          obtain rfl := ew
          go_wp2_with fail
          go_ret
          exact ⟨rfl, XF.out⟩
end Go.Proofs.Yteokeieddapjhaa.Clr

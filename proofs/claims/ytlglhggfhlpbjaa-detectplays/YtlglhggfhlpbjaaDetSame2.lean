/-
  Both tell the same: same.
-/
import Derived.Test.YtlglhggfhlpbjaaDetSame
namespace Go.Proofs.Ytlglhggfhlpbjaa.Det
set_option linter.unusedVariables false
set_option maxRecDepth 100000
open Go.RowKit Go.Lib Go.Proofs.Ytlglhggfhlpbjaa.His

def a8 (nx : List Int) : List Value := [.int .i64 (nx.getD 0 (-1)), .int .i64 (nx.getD 1 (-1)), .int .i64 (nx.getD 2 (-1)), .int .i64 (nx.getD 3 (-1)), .int .i64 (nx.getD 4 (-1)), .int .i64 (nx.getD 5 (-1)), .int .i64 (nx.getD 6 (-1)), .int .i64 (nx.getD 7 (-1))]
theorem a8_at (nx : List Int) (k : Nat) (h : k < 8) : (a8 nx)[k]? = some (.int .i64 (nx.getD k (-1))) := by
  match k, h with
  | 0, _ | 1, _ | 2, _ | 3, _ | 4, _ | 5, _ | 6, _ | 7, _ => rfl
theorem a8_row (nx : List Int) (op : Int) (lv : Value) (bg : Int) (sm : Bool) (ls : Int) (k : Nat) (v : Value) (h : (a8 nx)[k]? = some v) : (dcs nx op lv bg sm ls)[0 + k]? = some v := by
  have hk : k < 8 := (List.getElem?_eq_some_iff.1 h).1
  rw [Nat.zero_add, ← h, dcs_at _ _ _ _ _ _ k hk, a8_at nx k hk]
theorem size_a8 : (Try.prog.info? 26).map (·.size) = some 8 := by kernel_rfl

theorem size_i : (Try.prog.info? 3).map (·.size) = some 1 := by kernel_rfl
theorem index_a8 (w : World) (A : List Value) (k : Nat) (v : Value) (h : A[k]? = some v) (hk : k < 8) : (Instr.index 26 (.agg A.toArray) (.int .i64 (k : Int))).run Try.prog w = .ok v w := by
  have h1 : (0 : Int) ≤ (k : Int) ∧ (k : Int) < 8 := by omega
  have hs : (sizeOf 3).run Try.prog w = .ok 1 w := by
    cases hq : Try.prog.info? 3 with
    | none => have := size_i; simp [hq] at this
    | some i =>
      have := size_i
      have hs : i.size = 1 := by simpa [hq] using this
      simp [sizeOf, typeInfo, hq, hs]
  have hp : (part 3 A.toArray k).run Try.prog w = .ok v w := by
    simp only [part, Sem.run_bind, show (isAgg 3).run Try.prog w = .ok false w by simp [isAgg, run_underlying Try.underlying3], Result.andThen_ok, Bool.false_eq_true, if_false, List.getElem?_toArray, h]
    rfl
  simp only [Instr.index, asIntOf, Sem.run_bind, Sem.run_pure, run_underlying Try.underlying26, Result.andThen_ok]
  rw [if_pos (by omega)]
  simp only [Sem.run_bind, hs, Result.andThen_ok, Nat.mul_one, Int.toNat_natCast, hp]

set_option maxHeartbeats 4000000 in
theorem same_any {K : Nat → Prop} (b h : Nat) (s : DS) (v : Value) (w : World) (d : DetV w b h s) (hv : DIn K w v s) :
    Calls Try.prog 11 #[.pointer (some ⟨b, 0, none⟩), v] w fun e w' => e = .returned (.bool true) ∧ Ext w w' := by
  obtain ⟨nx, ⟨op, lst⟩, bg, sm, ls⟩ := s
  obtain ⟨lv, rfl, hL⟩ := hv
  simp only at hL ⊢
  obtain ⟨W, eW⟩ : ∃ W, W = w.alloc (.cells (dcs nx op lv bg sm ls) 29) := ⟨_, rfl⟩
  have X : Ext w W := by rw [eW]; exact (Ext.refl w).alloc _
  obtain ⟨bx, ebx⟩ : ∃ bx, bx = w.heap.size := ⟨_, rfl⟩
  have R0 : W.heap[bx]? = some (.cells (dcs nx op lv bg sm ls) 29 (0, 0)) := by rw [eW, ebx]; exact heap_alloc_new w _
  have C8 : Hid (W.cell? ⟨bx, 8, none⟩ = some (.int .i64 op)) := by show _ = _; rw [cell_of_row _ _ 8 _ _ _ R0]; rfl
  have C9 : Hid (W.cell? ⟨bx, 9, none⟩ = some lv) := by show _ = _; rw [cell_of_row _ _ 9 _ _ _ R0]; rfl
  have C10 : Hid (W.cell? ⟨bx, 10, none⟩ = some (.int .i64 bg)) := by show _ = _; rw [cell_of_row _ _ 10 _ _ _ R0]; rfl
  have C11 : Hid (W.cell? ⟨bx, 11, none⟩ = some (.bool sm)) := by show _ = _; rw [cell_of_row _ _ 11 _ _ _ R0]; rfl
  have RA : Hid (∀ V, Ext W V → V.rangeAt bx 0 (a8 nx)) := fun V x j u hu => by
    rw [cell_of_row _ _ _ _ _ _ (x.row R0)]
    exact a8_row nx op lv bg sm ls j u hu
  have DV := hid (d.ext X)
  have HL := hid (hL.ext X)
  obtain ⟨lo, lc, rfl, k1, k2⟩ := hL.slice
  have l8 : lst.length ≤ 8 := d.1.2.2.1.2.1
  have HI := hid (history_any b h _ W DV.out)
  have OP := hid (fun V (x : Ext W V) => open_any h op lst V (DV.out.2.2.1.ext x))
  have CL := hid (fun V (x : Ext W V) => closed_any h op lst V (DV.out.2.2.1.ext x))
  have BG := hid (fun V (x : Ext W V) => begin_any b h _ V (DV.out.ext x))
  have EX := hid (fun V (x : Ext W V) k (hk : k < 8) => expects_any b h _ k V (DV.out.ext x) hk)
  have FIT := hid d.1.2.1
  simp only at BG EX FIT
  obtain ⟨N, eN⟩ : ∃ N, N = lst.length := ⟨_, rfl⟩
  have LN := hid eN
  rw [← eN] at l8 k1 C9 HL eW ⊢
  unfold maxLen at k2
  have XX := hid X
  have EW := hid eW
  have EB := hid ebx
  clear d eW X ebx R0 hL eN
  go_enter Try.func11, Try.ntmps11
  go_wp2_with (first | rw [← EB.out, ← EW.out])
  refine HI.out.mono ?_
  rintro e w1 ⟨rfl, ew⟩
  obtain rfl : W = w1 := ew.symm
  go_wp2_with fail
  refine wp_region_held_drew (S := fun V => Ext W V) (by kernel_rfl) (show Ext W W.drew from (Ext.refl W).drewN 1) (fun hHeld => ?_)
  refine takeE (v := ?_) 0 16 rfl rfl (by kernel_rfl) (by kernel_rfl) (by kernel_rfl) (fun _ _ _ h => h) (Or.inl ⟨by rfl, fun V hV => ?_⟩) hHeld ?_
  rotate_left
  · (go_simp; try with_reducible rfl)
  simp only [Act.put, List.setIfInBounds_toArray, List.set_cons_zero, List.set_cons_succ]
  refine takeE (v := ?_) 1 17 rfl rfl (by kernel_rfl) (by kernel_rfl) (by kernel_rfl) (fun _ _ _ h => h) (Or.inl ⟨by rfl, fun V hV => ?_⟩) hHeld ?_
  rotate_left
  · (go_simp; try with_reducible rfl)
  simp only [Act.put, List.setIfInBounds_toArray, List.set_cons_zero, List.set_cons_succ]
  refine takeE (v := ?_) 2 18 rfl rfl (by kernel_rfl) (by kernel_rfl) (by kernel_rfl) (fun _ _ _ h => h) (Or.inl ⟨by rfl, fun V hV => ?_⟩) hHeld ?_
  rotate_left
  · (go_simp; try with_reducible rfl)
  simp only [Act.put, List.setIfInBounds_toArray, List.set_cons_zero, List.set_cons_succ]
  refine takeE (v := ?_) 3 19 rfl rfl (by kernel_rfl) (by kernel_rfl) (by kernel_rfl) (fun _ _ _ h => h) (Or.inl ⟨by rfl, fun V hV => ?_⟩) hHeld ?_
  rotate_left
  · (go_simp; try with_reducible rfl)
  simp only [Act.put, List.setIfInBounds_toArray, List.set_cons_zero, List.set_cons_succ]
  refine takeE (v := ?_) 5 21 rfl rfl (by kernel_rfl) (by kernel_rfl) (by kernel_rfl) (fun _ _ _ h => h) (Or.inl ⟨by rfl, fun V hV => ?_⟩) hHeld ?_
  rotate_left
  · (go_simp; try with_reducible rfl)
  simp only [Act.put, List.setIfInBounds_toArray, List.set_cons_zero, List.set_cons_succ]
  refine takeE (v := ?_) 6 22 rfl rfl (by kernel_rfl) (by kernel_rfl) (by kernel_rfl) (fun _ _ _ h => h) (Or.inl ⟨by rfl, fun V hV => ?_⟩) hHeld ?_
  rotate_left
  · (have y := hV.cell C8.out; go_simp; try with_reducible rfl)
  simp only [Act.put, List.setIfInBounds_toArray, List.set_cons_zero, List.set_cons_succ]
  refine callE 4 20 rfl rfl (by kernel_rfl) (by rfl) (by go_simp; first | exact ⟨rfl, rfl⟩ | rfl) ?_
  refine (OP.out _ hHeld).mono ?_
  rintro e W2 ⟨rfl, rfl⟩
  refine ⟨_, rfl, hHeld, ?_⟩
  simp only [Act.put, List.setIfInBounds_toArray, List.set_cons_zero, List.set_cons_succ]
  refine takeE (v := ?_) 7 23 rfl rfl (by kernel_rfl) (by kernel_rfl) (by kernel_rfl) (fun _ _ _ h => h) (Or.inl ⟨by rfl, fun V hV => ?_⟩) hHeld ?_
  rotate_left
  · (go_simp; try with_reducible rfl)
  simp only [Act.put, List.setIfInBounds_toArray, List.set_cons_zero, List.set_cons_succ]
  refine takeE (v := ?_) 8 24 rfl rfl (by kernel_rfl) (by kernel_rfl) (by kernel_rfl) (fun _ _ _ h => h) (Or.inl ⟨by rfl, fun V hV => ?_⟩) hHeld ?_
  rotate_left
  · (go_simp; try with_reducible rfl)
  simp only [Act.put, List.setIfInBounds_toArray, List.set_cons_zero, List.set_cons_succ]
  refine takeE (v := ?_) 9 25 rfl rfl (by kernel_rfl) (by kernel_rfl) (by kernel_rfl) (fun _ _ _ h => h) (Or.inl ⟨by rfl, fun V hV => ?_⟩) hHeld ?_
  rotate_left
  · (go_simp; try with_reducible rfl)
  simp only [Act.put, List.setIfInBounds_toArray, List.set_cons_zero, List.set_cons_succ]
  refine takeE (v := ?_) 10 26 rfl rfl (by kernel_rfl) (by kernel_rfl) (by kernel_rfl) (fun _ _ _ h => h) (Or.inl ⟨by rfl, fun V hV => ?_⟩) hHeld ?_
  rotate_left
  · (go_simp; try with_reducible rfl)
  simp only [Act.put, List.setIfInBounds_toArray, List.set_cons_zero, List.set_cons_succ]
  refine takeE (v := ?_) 13 29 rfl rfl (by kernel_rfl) (by kernel_rfl) (by kernel_rfl) (fun _ _ _ h => h) (Or.inl ⟨by rfl, fun V hV => ?_⟩) hHeld ?_
  rotate_left
  · (go_simp; try with_reducible rfl)
  simp only [Act.put, List.setIfInBounds_toArray, List.set_cons_zero, List.set_cons_succ]
  refine takeE (v := ?_) 14 30 rfl rfl (by kernel_rfl) (by kernel_rfl) (by kernel_rfl) (fun _ _ _ h => h) (Or.inl ⟨by rfl, fun V hV => ?_⟩) hHeld ?_
  rotate_left
  · (have y := hV.cell C9.out; go_simp; try with_reducible rfl)
  simp only [Act.put, List.setIfInBounds_toArray, List.set_cons_zero, List.set_cons_succ]
  refine takeE (v := ?_) 15 31 rfl rfl (by kernel_rfl) (by kernel_rfl) (by kernel_rfl) (fun _ _ _ h => h) (Or.inl ⟨by rfl, fun V hV => ?_⟩) hHeld ?_
  rotate_left
  · (go_simp; try with_reducible rfl)
  simp only [Act.put, List.setIfInBounds_toArray, List.set_cons_zero, List.set_cons_succ]
  refine callE 11 27 rfl rfl (by kernel_rfl) (by rfl) (by go_simp; first | exact ⟨rfl, rfl⟩ | rfl) ?_
  refine (CL.out _ hHeld).mono ?_
  rintro e W2 ⟨cv, rfl, n2⟩
  have x2 := hHeld.trans n2.2.2
  refine ⟨_, rfl, x2, ?_⟩
  obtain ⟨ca, cc, rfl, e1, e2⟩ := n2.slice
  unfold maxLen at e2
  rw [← LN.out] at e1 ⊢
  clear hHeld n2
  have hHeld := x2
  simp only [Act.put, List.setIfInBounds_toArray, List.set_cons_zero, List.set_cons_succ]
  refine takeE (v := ?_) 12 28 rfl rfl (by kernel_rfl) (by kernel_rfl) (by kernel_rfl) (fun _ _ _ h => h) (Or.inl ⟨by rfl, fun V hV => ?_⟩) hHeld ?_
  rotate_left
  · (go_simp; try with_reducible rfl)
  simp only [Act.put, List.setIfInBounds_toArray, List.set_cons_zero, List.set_cons_succ]
  refine takeE (v := ?_) 16 32 rfl rfl (by kernel_rfl) (by kernel_rfl) (by kernel_rfl) (fun _ _ _ h => h) (Or.inl ⟨by rfl, fun V hV => ?_⟩) hHeld ?_
  rotate_left
  · (go_simp; try with_reducible rfl)
  simp only [Act.put, List.setIfInBounds_toArray, List.set_cons_zero, List.set_cons_succ]
  refine takeE (v := ?_) 17 33 rfl rfl (by kernel_rfl) (by kernel_rfl) (by kernel_rfl) (fun _ _ _ h => h) (Or.inl ⟨by rfl, fun V hV => ?_⟩) hHeld ?_
  rotate_left
  · (go_simp; try with_reducible rfl)
  simp only [Act.put, List.setIfInBounds_toArray, List.set_cons_zero, List.set_cons_succ]
  refine wpAnyH_done (by kernel_rfl) ?_ _
  have X2 := hid x2
  clear hHeld x2 e1 e2
  go_wp2_with fail
  refine (CL.out _ X2.out).mono ?_
  rintro e W3 ⟨cv, rfl, n3⟩
  have HC := hid (His.NewR.list n3)
  have X3 := hid (X2.out.trans n3.2.2)
  obtain ⟨ao, ac, rfl, e1, e2⟩ := n3.slice
  unfold maxLen at e2
  rw [← LN.out] at e1 HC
  clear n3 X2 OP HI
  have AT : Hid (∀ k, k < N → ∀ V, Ext W3 V → (∃ g o h' p, ao = some ⟨g, o, none⟩ ∧ lo = some ⟨h', p, none⟩ ∧ V.cell? ⟨g, o + k, none⟩ = some (.int .i64 (lst.getD k 0)) ∧ V.cell? ⟨h', p + k, none⟩ = some (.int .i64 (lst.getD k 0))) ∧ V.cell? ⟨bx, 9, none⟩ = some (.slice lo N lc)) := fun k hk V x => by
    have hk' : k < lst.length := by rw [← LN.out]; exact hk
    obtain ⟨g, o, e, _, y⟩ := HC.out.at hk'
    obtain ⟨g', o', e', _, y'⟩ := HL.out.at hk'
    exact ⟨⟨g, o, g', o', e, e', x.cell y, (X3.out.trans x).cell y'⟩, (X3.out.trans x).cell C9.out⟩
  clear CL HL HC C8 C9
  rw [← LN.out]
  go_wp2_with fail
  go_loopw [6, 7, 37] (fun _ _ iv wr => ∃ k : Nat, k ≤ N ∧ iv = .int .i64 (k : Int) ∧ Hid (Ext W3 wr)) (fun _ _ iv _ => (N - RowKit.intOf iv).toNat)
  case atStart => exact ⟨0, by omega, rfl, Ext.refl W3⟩
  case round =>
    obtain ⟨k, hk, rfl, HH⟩ := hrel
    by_cases q : k < N
    · have i1 : (k : Int) < (N : Int) := by omega
      have i2 : (0 : Int) ≤ (k : Int) := by omega
      obtain ⟨⟨g, o, h', p, rfl, rfl, y, z⟩, c9⟩ := AT.out k q _ HH.out
      clear AT
      generalize lst.getD k 0 = x at *
      go_wp2_with fail
      go_roundw
      case rel => exact ⟨k + 1, by omega, by go_num, HH.out⟩
      case measure => simp [RowKit.intOf]; omega
    · obtain rfl : N = k := by omega
      have X4 := hid (X3.out.trans HH.out)
      have RG := hid (RA.out _ X4.out)
      have SZ := hid size_a8
      have AA := hid (a8_at nx)
      obtain ⟨A, eA⟩ : ∃ A, A = a8 nx := ⟨_, rfl⟩
      have LA : Hid (A.length = 8) := by rw [eA]; exact rfl
      rw [← eA] at RG AA
      clear AT HH X3 e1 e2 RA eA
      go_wp2_with (refine wpList_load_mid rfl 26 _ rfl bx 0 rfl _ _ RG.out Try.underlying26 rfl (by rw [LA.out]; exact SZ.out) ?_)
      go_loopw [8, 9, 10, 11, 52] (fun _ _ _ _ iv wr2 => ∃ k : Nat, k ≤ 8 ∧ iv = .int .i64 (k : Int) ∧ Hid (Ext W wr2)) (fun _ _ _ _ iv _ => (8 - RowKit.intOf iv).toNat)
      case atStart => exact ⟨0, by omega, rfl, X4⟩
      case round =>
        obtain ⟨k, hk2, rfl, HH⟩ := hrel
        by_cases q2 : k < 8
        · have i1 : (k : Int) < 8 := by omega
          have i2 : (0 : Int) ≤ (k : Int) := by omega
          have ak := AA.out k q2
          have IX := index_a8 wr A k _ ak q2
          have E := hid (EX.out _ HH.out k q2)
          obtain ⟨x0, x1⟩ := FIT.out k q2
          generalize nx.getD k (-1) = x at *
          have al := LA.out
          clear AA FIT EX BG ak
          by_cases neg : x < 0
          · rw [exs_neg neg, exi_neg neg] at E
            have neg2 : ¬ 0 ≤ x := by omega
            go_wp2_with fail
            refine E.out.mono ?_
            rintro e w5 ⟨rfl, x5⟩
            have X5 := hid (HH.out.trans x5)
            clear E x5 HH
            go_wp2_with fail
            go_roundw
            case rel => exact ⟨k + 1, by omega, by go_num, X5⟩
            case measure => simp [RowKit.intOf]; omega
          · rw [exs_pos (by omega), exi_pos (by omega)] at E
            have neg2 : 0 ≤ x := by omega
            go_wp2_with fail
            refine E.out.mono ?_
            rintro e w5 ⟨rfl, x5⟩
            have X5 := hid (HH.out.trans x5)
            clear E x5 HH
            go_wp2_with fail
            go_roundw
            case rel => exact ⟨k + 1, by omega, by go_num, X5⟩
            case measure => simp [RowKit.intOf]; omega
        · obtain rfl : k = 8 := by omega
          clear AA FIT EX
          go_wp2_with fail
          refine (BG.out _ HH.out).mono ?_
          rintro e w5 ⟨rfl, x5⟩
          have X5 := HH.out.trans x5
          have y10 := X5.cell C10.out
          have y11 := X5.cell C11.out
          have XF := hid (XX.out.trans X5)
          clear BG x5 X5 HH
          go_wp2_with fail
          go_ret
          exact ⟨rfl, XF.out⟩
end Go.Proofs.Ytlglhggfhlpbjaa.Det

/-
  Rows of six counts compared.
  The model holds what the net tells: same.
  Any step; the state of net and model as one predicate.
-/
import Derived.Test.YtjmgigfaiaemeaaSimRef
import Derived.Laws.StructEq
import Derived.Test.YtjmgigfaiaemeaaSimStep8
import Derived.Test.YtjmgigfaiaemeaaSimStep1
import Derived.Test.YtjmgigfaiaemeaaSimStep2
import Derived.Test.YtjmgigfaiaemeaaSimStep3
import Derived.Test.YtjmgigfaiaemeaaSimStep4
import Derived.Test.YtjmgigfaiaemeaaSimStep5
namespace Go.Proofs.Ytjmgigfaiaemeaa.Sim
set_option linter.unusedVariables false
set_option maxRecDepth 100000
open Go.RowKit

theorem part_six (w : World) (a0 a1 a2 a3 a4 a5 : Int) : ∀ i x, ([a0, a1, a2, a3, a4, a5] : List Int)[i]? = some x → (part 3 #[.int .i64 a0, .int .i64 a1, .int .i64 a2, .int .i64 a3, .int .i64 a4, .int .i64 a5] i).run Try.prog w = .ok (.int .i64 x) w := by
  intro i x h
  simp only [part, Sem.run_bind, show (isAgg 3).run Try.prog w = .ok false w by simp [isAgg, run_underlying Try.underlying3], Result.andThen_ok, Bool.false_eq_true, if_false]
  match i, h with
  | 0, h => cases h; rfl
  | 1, h => cases h; rfl
  | 2, h => cases h; rfl
  | 3, h => cases h; rfl
  | 4, h => cases h; rfl
  | 5, h => cases h; rfl
  | i + 6, h => simp at h
theorem stoodN : Try.prog.stoodInHeld 54 = false := by kernel_rfl
theorem guardN : Try.prog.eqGuardType Try.prog.depth 54 = false := by kernel_rfl
theorem eqN (w : World) (s : Cts) : (Op.equalIn 10000 54 (.agg (scs s)) (.agg (scs s))).run Try.prog w = .ok true w := by
  have hu : Try.prog.underlying 54 = some (.struct (Try.prog.fieldsOf 54)) := by unfold Program.fieldsOf; rw [Try.underlying54]
  rw [run_equalIn_struct (P := Try.prog) w 9999 54 (scs s) (scs s) hu stoodN]
  unfold Program.fieldsOf
  rw [Try.underlying54]
  obtain ⟨s0, s1, s2, s3, s4, s5⟩ := s
  have P := part_six w s0 s1 s2 s3 s4 s5
  have p0 := P 0 _ rfl
  have p1 := P 1 _ rfl
  have p2 := P 2 _ rfl
  have p3 := P 3 _ rfl
  have p4 := P 4 _ rfl
  have p5 := P 5 _ rfl
  unfold scs
  simp [Op.eqFields, p0, p1, p2, p3, p4, p5, run_equalIn_int (P := Try.prog) w _ _ _ _ _ _ Try.underlying3]
theorem neqN (w : World) (s : Cts) : (binOp .neq 54 (.agg (scs s)) (.agg (scs s))).run Try.prog w = .ok (.bool false) w := by
  rw [run_neq_struct, eqN]
  rfl
end Go.Proofs.Ytjmgigfaiaemeaa.Sim

namespace Go.Proofs.Ytjmgigfaiaemeaa.Sim
set_option linter.unusedVariables false
set_option maxRecDepth 100000
open Go.RowKit Go.Lib Go.Shelf Go.Proofs.Ytjmgigfaiaemeaa.Crc Go.Proofs.Ytjmgigfaiaemeaa.Grp
open Go.Proofs.Ytjmgigfaiaemeaa.Pip hiding NewR
attribute [local go_sem] Oper.semAt_some

theorem stoodR : Try.prog.stoodInHeld 38 = false := by kernel_rfl
theorem eqR (w : World) (s : Cts) : (Op.equalIn 10000 38 (.agg (scs s)) (.agg (scs s))).run Try.prog w = .ok true w := by
  have hu : Try.prog.underlying 38 = some (.struct (Try.prog.fieldsOf 38)) := by unfold Program.fieldsOf; rw [Try.underlying38]
  rw [run_equalIn_struct (P := Try.prog) w 9999 38 (scs s) (scs s) hu stoodR]
  unfold Program.fieldsOf
  rw [Try.underlying38]
  obtain ⟨s0, s1, s2, s3, s4, s5⟩ := s
  have P := part_six w s0 s1 s2 s3 s4 s5
  have p0 := P 0 _ rfl
  have p1 := P 1 _ rfl
  have p2 := P 2 _ rfl
  have p3 := P 3 _ rfl
  have p4 := P 4 _ rfl
  have p5 := P 5 _ rfl
  unfold scs
  simp [Op.eqFields, p0, p1, p2, p3, p4, p5, run_equalIn_int (P := Try.prog) w _ _ _ _ _ _ Try.underlying3]

theorem flat_sval : ∀ vs : List Sl, List.flatMap senc vs = vs.map sval
  | [] => rfl
  | a :: t => by rw [List.flatMap_cons, flat_sval t]; rfl
theorem fcells_at1 (vs : List Sl) (k : Nat) (v : Sl) (h : vs[k]? = some v) : (List.flatMap senc vs)[k]? = some (sval v) := by
  rw [flat_sval, List.getElem?_map, h]
  rfl

theorem eqlR (w : World) (s : Cts) : (binOp .eql 38 (.agg (scs s)) (.agg (scs s))).run Try.prog w = .ok (.bool true) w := by
  rw [run_eql_struct, eqR]
  rfl
theorem exec_eqlR {ev : Operand → Value} {o : Oper} (s : Cts) (w : World) (x y : Operand) (t : TypeId) (ho : o.op = .binOp .eql 38 x y t) (hx : ev x = .agg (scs s)) (hy : ev y = .agg (scs s)) : (execOp ev o).run Try.prog w = .ok (.value (.bool true)) w := by
  unfold execOp
  have g : (eqGuard .eql 38 x y (.agg (scs s)) (.agg (scs s))).run Try.prog w = .ok () w := by
    simp [eqGuard, go_sem]
  simp only [ho, hx, hy, Sem.run_bind, g, eqlR, Result.andThen_ok, Sem.run_pure]

set_option maxHeartbeats 2000000 in
theorem same_any (K : Nat → Prop) (w : World) (b : Nat) (bs : Nat → Nat) (c : Cfg) (n : Nat) (hn : c.1 = (n : Int)) (l : List Tri) (fs : List (Int × Int)) (x : St) (av lv fv : Value) (h : NetK K w b bs c l fs x) (hA : RowK K w av 3 (fcells tri l)) (hL : ListsK K w lv x.1) (hF : RowK K w fv 2 (fcells pr fs)) :
    Calls Try.prog 11 #[.agg (mcs c av lv fv (x.2.1 : Int) x.2.2), .pointer (some ⟨b, 0, none⟩)] w fun e w' => e = .returned (.bool true) ∧ Ext w w' := by
  obtain ⟨W, eW⟩ : ∃ W, W = w.alloc (.cells (mcs c av lv fv (x.2.1 : Int) x.2.2) 40) := ⟨_, rfl⟩
  have X : Ext w W := by rw [eW]; exact (Ext.refl w).alloc _
  have B0 : Hid (W.heap[w.heap.size]? = some (.cells (mcs c av lv fv (x.2.1 : Int) x.2.2) 40 (0, 0))) := by rw [eW]; exact heap_alloc_new w _
  have N0 := hid (h.ext X)
  have HN := hid hn
  have L0 := hid (hL.kept (Kept.of_ext X))
  have XX := hid X
  have EW := hid eW
  have XL : Hid (x.1.length = n + 1) := by obtain ⟨n', _, _, _, e1, _, _, e2, _⟩ := h.down; show _ = _; omega
  have N64 : n ≤ 64 := by obtain ⟨n', _, _, _, e1, _, e2, _⟩ := h.down; omega
  obtain ⟨vs, l1, l2, l3⟩ := L0.out
  obtain ⟨g5, o5, c5, e5, d5, q5⟩ : ∃ g5 o5 c5, lv = .slice (some ⟨g5, o5, none⟩) (n + 1) c5 ∧ (n + 1 ≤ c5 ∧ c5 ≤ maxLen) ∧ ∀ j u, (fcells senc vs)[j]? = some u → W.cell? ⟨g5, o5 + j, none⟩ = some u := by
    obtain ⟨ao, m, cp, e, e1, e2, e3, e4⟩ := l2
    rw [fcells_length encS, Nat.mul_one, Nat.mul_one, l1, XL.out] at e1
    subst e1
    obtain ⟨g, o, rfl, _, hc⟩ := e4 (by omega)
    exact ⟨g, o, cp, e, ⟨e2, e3⟩, hc⟩
  have VW : Hid (∀ k, k ≤ n → ∃ xa xc, W.cell? ⟨g5, o5 + k, none⟩ = some (.slice xa (x.1.getD k []).length xc) ∧ (x.1.getD k []).length ≤ xc ∧ xc ≤ maxLen) := fun k hk => by
    have hx : k < x.1.length := by have := XL.out; have : x.1.length = n + 1 := this; omega
    obtain ⟨v, ev, rv⟩ := l3 k _ (List.getElem?_eq_getElem hx)
    obtain ⟨ao, m, cp, e, e1, e2, e3, e4⟩ := rv
    have c0 := q5 k (sval v) (by unfold fcells; rw [fcells_at1 vs k v ev])
    have eg : x.1.getD k [] = x.1[k] := by rw [List.getD_eq_getElem?_getD, List.getElem?_eq_getElem hx]; rfl
    rw [← rcells_f, fcells_length encR] at e1
    have em : m = (x.1.getD k []).length := by rw [eg]; omega
    refine ⟨ao, cp, ?_, by omega, e3⟩
    rw [c0, e, em]
  unfold maxLen at VW
  have E5 := hid e5
  clear l1 l2 l3 q5 L0 e5
  have RM : Hid (∀ i, (x.1.getD i []).length ≤ 256) := fun i => h.room i
  have z0 : (w.alloc (.cells (mcs c av lv fv (x.2.1 : Int) x.2.2) 40)).cell? ⟨w.heap.size, 0, none⟩ = some (.int .i64 (n : Int)) := by rw [cell_of_row _ _ 0 _ _ _ (heap_alloc_new w _), ← hn]; rfl
  clear h hA hL hF X eW
  go_enter Try.func11, Try.ntmps11
  go_wp2_with fail
  rw [← EW.out]
  clear z0
  go_loopw [9] (fun iv wr => ∃ k : Nat, k ≤ n ∧ iv = .int .i64 (k : Int) ∧ Hid (Ext W wr)) (fun iv _ => (n - intOf iv).toNat)
  case atStart => exact ⟨0, by omega, rfl, Ext.refl W⟩
  case round =>
    obtain ⟨k, hk, rfl, xr⟩ := hrel
    by_cases q : k < n
    · have i1 : (k : Int) < (n : Int) := by omega
      have i2 : (0 : Int) ≤ (k : Int) := by omega
      have i3 : (k : Int) < (n : Int) + 1 := by omega
      obtain ⟨xa, xc, cv, v1, v2⟩ := VW.out k hk
      have rm := RM.out k
      have m6 : wr.cell? ⟨w.heap.size, 6, none⟩ = some (.slice (some ⟨g5, o5, none⟩) (n + 1) c5) := by rw [cell_of_row _ _ 6 _ _ _ (xr.out.row B0.out), ← E5.out]; rfl
      have m7 := xr.out.cell cv
      have WT := hid (waiting_yes ((N0.out.ext xr.out).ext (show Ext wr wr.drew from (Ext.refl wr).drewN 1)) k (by have := HN.out; omega))
      obtain ⟨Y, eY⟩ : ∃ Y, Y = (x.1.getD k []).length := ⟨_, rfl⟩
      rw [← eY] at WT m7 v1 rm
      have XW := hid xr.out
      clear eY cv xr
      have xd : Ext wr wr.drew := (Ext.refl wr).drewN 1
      go_wp2_with fail
      refine wp_region_held_drew (S := fun V => Ext wr V) (by kernel_rfl) xd (fun hHeld => ?_)
      refine takeE (v := ?_) 0 12 rfl rfl (by kernel_rfl) (by kernel_rfl) (by kernel_rfl) (fun _ _ _ h => h) (Or.inl ⟨by rfl, fun V hV => ?_⟩) hHeld ?_
      rotate_left
      · (go_simp; try with_reducible rfl)
      simp only [Act.put, List.setIfInBounds_toArray, List.set_cons_zero, List.set_cons_succ]
      refine takeE (v := ?_) 1 13 rfl rfl (by kernel_rfl) (by kernel_rfl) (by kernel_rfl) (fun _ _ _ h => h) (Or.inl ⟨by rfl, fun V hV => ?_⟩) hHeld ?_
      rotate_left
      · (go_simp; try with_reducible rfl)
      simp only [Act.put, List.setIfInBounds_toArray, List.set_cons_zero, List.set_cons_succ]
      refine takeE (v := ?_) 3 15 rfl rfl (by kernel_rfl) (by kernel_rfl) (by kernel_rfl) (fun _ _ _ h => h) (Or.inl ⟨by rfl, fun V hV => ?_⟩) hHeld ?_
      rotate_left
      · (go_simp; try with_reducible rfl)
      simp only [Act.put, List.setIfInBounds_toArray, List.set_cons_zero, List.set_cons_succ]
      refine takeE (v := ?_) 4 16 rfl rfl (by kernel_rfl) (by kernel_rfl) (by kernel_rfl) (fun _ _ _ h => h) (Or.inl ⟨by rfl, fun V hV => ?_⟩) hHeld ?_
      rotate_left
      · (have z6 := hV.cell m6; have z7 := hV.cell m7; go_simp; try with_reducible rfl)
      simp only [Act.put, List.setIfInBounds_toArray, List.set_cons_zero, List.set_cons_succ]
      refine takeE (v := ?_) 5 17 rfl rfl (by kernel_rfl) (by kernel_rfl) (by kernel_rfl) (fun _ _ _ h => h) (Or.inl ⟨by rfl, fun V hV => ?_⟩) hHeld ?_
      rotate_left
      · (go_simp; try with_reducible rfl)
      simp only [Act.put, List.setIfInBounds_toArray, List.set_cons_zero, List.set_cons_succ]
      refine takeE (v := ?_) 6 18 rfl rfl (by kernel_rfl) (by kernel_rfl) (by kernel_rfl) (fun _ _ _ h => h) (Or.inl ⟨by rfl, fun V hV => ?_⟩) hHeld ?_
      rotate_left
      · (go_simp; try with_reducible rfl)
      simp only [Act.put, List.setIfInBounds_toArray, List.set_cons_zero, List.set_cons_succ]
      refine takeE (v := ?_) 7 19 rfl rfl (by kernel_rfl) (by kernel_rfl) (by kernel_rfl) (fun _ _ _ h => h) (Or.inl ⟨by rfl, fun V hV => ?_⟩) hHeld ?_
      rotate_left
      · (have z6 := hV.cell m6; have z7 := hV.cell m7; go_simp; try with_reducible rfl)
      simp only [Act.put, List.setIfInBounds_toArray, List.set_cons_zero, List.set_cons_succ]
      refine takeE (v := ?_) 8 20 rfl rfl (by kernel_rfl) (by kernel_rfl) (by kernel_rfl) (fun _ _ _ h => h) (Or.inl ⟨by rfl, fun V hV => ?_⟩) hHeld ?_
      rotate_left
      · (go_simp; try with_reducible rfl)
      simp only [Act.put, List.setIfInBounds_toArray, List.set_cons_zero, List.set_cons_succ]
      refine callE 2 14 rfl rfl (by kernel_rfl) (by rfl) (by go_simp; first | exact ⟨rfl, rfl⟩ | rfl) ?_
      refine WT.out.mono ?_
      rintro e w3 ⟨rfl, rfl⟩
      refine ⟨_, rfl, hHeld, ?_⟩
      simp only [Act.put, List.setIfInBounds_toArray, List.set_cons_zero, List.set_cons_succ]
      refine takeE (v := ?_) 9 21 rfl rfl (by kernel_rfl) (by kernel_rfl) (by kernel_rfl) (fun _ _ _ h => h) (Or.inl ⟨by rfl, fun V hV => ?_⟩) hHeld ?_
      rotate_left
      · (go_simp; try with_reducible rfl)
      simp only [Act.put, List.setIfInBounds_toArray, List.set_cons_zero, List.set_cons_succ]
      refine wpAnyH_done (by kernel_rfl) ?_ _
      have X3 := hid (XW.out.trans hHeld)
      clear hHeld m6 m7 WT xd
      go_wp2_with fail
      go_roundw
      case rel => exact ⟨k + 1, by omega, by go_num, X3⟩
      case measure => simp [intOf]; omega
    · obtain rfl : k = n := by omega
      have xd : Ext wr wr.drew := (Ext.refl wr).drewN 1
      have U := hid (used_net (N0.out.ext (xr.out.trans xd)))
      have S3 : Hid (∀ V, Ext wr V → Calls Try.prog 16 #[.pointer (some ⟨b, 0, none⟩)] V fun e w' => e = .returned (.agg (scs x.2.2)) ∧ Ext V w') := fun V X => stats_net (N0.out.ext (xr.out.trans X))
      have m8 : wr.cell? ⟨w.heap.size, 8, none⟩ = some (.int .i64 (x.2.1 : Int)) := by rw [cell_of_row _ _ 8 _ _ _ (xr.out.row B0.out)]; rfl
      have R9 : Hid (∀ V, Ext wr V → V.rangeAt w.heap.size 9 (scl x.2.2)) := fun V X =>
        World.rangeAt_of_block (X.row (xr.out.row B0.out)) 9 6
      have XF := hid (XX.out.trans xr.out)
      obtain ⟨u, eu⟩ : ∃ u : Int, u = (x.2.1 : Int) := ⟨_, rfl⟩
      rw [← eu] at U m8
      clear xr eu
      go_wp2_with fail
      refine wp_region_held_drew (S := fun V => Ext wr V) (by kernel_rfl) xd (fun hHeld => ?_)
      refine takeE (v := ?_) 0 23 rfl rfl (by kernel_rfl) (by kernel_rfl) (by kernel_rfl) (fun _ _ _ h => h) (Or.inl ⟨by rfl, fun V hV => ?_⟩) hHeld ?_
      rotate_left
      · (go_simp; try with_reducible rfl)
      simp only [Act.put, List.setIfInBounds_toArray, List.set_cons_zero, List.set_cons_succ]
      refine takeE (v := ?_) 2 25 rfl rfl (by kernel_rfl) (by kernel_rfl) (by kernel_rfl) (fun _ _ _ h => h) (Or.inl ⟨by rfl, fun V hV => ?_⟩) hHeld ?_
      rotate_left
      · (go_simp; try with_reducible rfl)
      simp only [Act.put, List.setIfInBounds_toArray, List.set_cons_zero, List.set_cons_succ]
      refine takeE (v := ?_) 3 26 rfl rfl (by kernel_rfl) (by kernel_rfl) (by kernel_rfl) (fun _ _ _ h => h) (Or.inl ⟨by rfl, fun V hV => ?_⟩) hHeld ?_
      rotate_left
      · (have z8 := hV.cell m8; go_simp; try with_reducible rfl)
      simp only [Act.put, List.setIfInBounds_toArray, List.set_cons_zero, List.set_cons_succ]
      refine callE 1 24 rfl rfl (by kernel_rfl) (by rfl) (by go_simp; first | exact ⟨rfl, rfl⟩ | rfl) ?_
      refine U.out.mono ?_
      rintro e w3 ⟨rfl, rfl⟩
      refine ⟨_, rfl, hHeld, ?_⟩
      simp only [Act.put, List.setIfInBounds_toArray, List.set_cons_zero, List.set_cons_succ]
      refine takeE (v := ?_) 4 27 rfl rfl (by kernel_rfl) (by kernel_rfl) (by kernel_rfl) (fun _ _ _ h => h) (Or.inl ⟨by rfl, fun V hV => ?_⟩) hHeld ?_
      rotate_left
      · (go_simp; try with_reducible rfl)
      simp only [Act.put, List.setIfInBounds_toArray, List.set_cons_zero, List.set_cons_succ]
      refine takeE (v := ?_) 5 28 rfl rfl (by kernel_rfl) (by kernel_rfl) (by kernel_rfl) (fun _ _ _ h => h) (Or.inl ⟨by rfl, fun V hV => ?_⟩) hHeld ?_
      rotate_left
      · (go_simp; try with_reducible rfl)
      simp only [Act.put, List.setIfInBounds_toArray, List.set_cons_zero, List.set_cons_succ]
      refine takeE (v := ?_) 6 29 rfl rfl (by kernel_rfl) (by kernel_rfl) (by kernel_rfl) (fun _ _ _ h => h) (Or.inl ⟨by rfl, fun V hV => ?_⟩) hHeld ?_
      rotate_left
      · (go_simp; try with_reducible rfl)
      simp only [Act.put, List.setIfInBounds_toArray, List.set_cons_zero, List.set_cons_succ]
      refine takeE (v := ?_) 8 31 rfl rfl (by kernel_rfl) (by kernel_rfl) (by kernel_rfl) (fun _ _ _ h => h) (Or.inl ⟨by rfl, fun V hV => ?_⟩) hHeld ?_
      rotate_left
      · (go_simp; try with_reducible rfl)
      simp only [Act.put, List.setIfInBounds_toArray, List.set_cons_zero, List.set_cons_succ]
      refine takeE (v := .agg (scs x.2.2)) 9 32 rfl rfl (by kernel_rfl) (by kernel_rfl) (by kernel_rfl) (fun _ _ _ h => h) ?_ hHeld ?_
      · exact yieldsIf_load_mid (by rfl) 38 (.tmp 31) rfl w.heap.size 9 (by rfl) (scl x.2.2) _ (fun V hV => R9.out V hV) Try.underlying38 rfl size_sts
      simp only [Act.put, List.setIfInBounds_toArray, List.set_cons_zero, List.set_cons_succ]
      refine callE 7 30 rfl rfl (by kernel_rfl) (by rfl) (by go_simp; first | exact ⟨rfl, rfl⟩ | rfl) ?_
      refine (S3.out _ hHeld).mono ?_
      rintro e w4 ⟨rfl, x4⟩
      have hHeld := hHeld.trans x4
      refine ⟨_, rfl, hHeld, ?_⟩
      simp only [Act.put, List.setIfInBounds_toArray, List.set_cons_zero, List.set_cons_succ]
      refine takeE (v := .bool true) 10 33 rfl rfl (by kernel_rfl) (by kernel_rfl) (by kernel_rfl) (fun _ _ _ h => h) (Or.inl ⟨by rfl, fun V hV => ?_⟩) hHeld ?_
      · exact exec_eqlR x.2.2 V _ _ _ rfl rfl rfl
      simp only [Act.put, List.setIfInBounds_toArray, List.set_cons_zero, List.set_cons_succ]
      refine takeE (v := ?_) 11 34 rfl rfl (by kernel_rfl) (by kernel_rfl) (by kernel_rfl) (fun _ _ _ h => h) (Or.inl ⟨by rfl, fun V hV => ?_⟩) hHeld ?_
      rotate_left
      · (go_simp; try with_reducible rfl)
      simp only [Act.put, List.setIfInBounds_toArray, List.set_cons_zero, List.set_cons_succ]
      refine takeE (v := ?_) 12 4 rfl rfl (by kernel_rfl) (by kernel_rfl) (by kernel_rfl) (fun _ _ _ h => h) (Or.inl ⟨by rfl, fun V hV => ?_⟩) hHeld ?_
      rotate_left
      · (go_simp; try with_reducible rfl)
      simp only [Act.put, List.setIfInBounds_toArray, List.set_cons_zero, List.set_cons_succ]
      refine wpAnyH_done (by kernel_rfl) ?_ _
      have XG := hid (XF.out.trans hHeld)
      clear hHeld xd U S3 R9 XF m8
      go_wp2_with fail
      go_ret
      exact ⟨rfl, XG.out⟩
end Go.Proofs.Ytjmgigfaiaemeaa.Sim

namespace Go.Proofs.Ytjmgigfaiaemeaa.Sim
set_option linter.unusedVariables false
open Go.RowKit Go.Lib Go.Shelf Go.Proofs.Ytjmgigfaiaemeaa.Crc Go.Proofs.Ytjmgigfaiaemeaa.Grp
open Go.Proofs.Ytjmgigfaiaemeaa.Pip hiding NewR

theorem st_tick {j lv now r : Int} : ∀ (l : List Tri) (s : Tri), s.1 ≤ now → (∀ a ∈ l, a.2.2 ≤ now) → (l.foldl (st1 j lv r) s).1 ≤ now
  | [], s, h, _ => h
  | a :: l, s, h, hl => st_tick l _ (by
    unfold st1
    split
    · exact hl a (List.mem_cons_self ..)
    · exact h) (fun x hx => hl x (List.mem_cons_of_mem _ hx))

/-- net and model side by side: what has been asked, what is on its way; k calls were made. What the model holds lies in E, a part of what the net's calls keep -/
def Side (K E : Nat → Prop) (w : World) (cs : Array Value) (b : Nat) (bs : Nat → Nat) (c : Cfg) (fs : List (Int × Int)) (k : Nat) (now : Int) : Prop :=
  (∀ q, E q → K q) ∧ ∃ (l : List Tri) (x : St) (av lv fv : Value), cs = mcs c av lv fv (x.2.1 : Int) x.2.2 ∧ NetK K w b bs c l fs x ∧ RowK E w av 3 (fcells tri l) ∧ ListsK E w lv x.1 ∧ RowK E w fv 2 (fcells pr fs) ∧
    l.length ≤ k ∧ (∀ a ∈ l, a.2.2 ≤ now) ∧ SB (300 * (k : Int)) x.2.2
/-- what is written is kept by the net's calls, and holds nothing of the model's -/
theorem Side.keep {K E L : Nat → Prop} {w w' : World} {cs : Array Value} {b : Nat} {bs : Nat → Nat} {c : Cfg} {fs : List (Int × Int)} {k : Nat} {now : Int} (h : Side K E w cs b bs c fs k now) (kl : Kept L w w') (hL : ∀ q, q < w.heap.size → K q ∨ L q) (hE : ∀ q, q < w.heap.size → E q → L q) :
    Side (fun q => K q ∨ New w w' q) E w' cs b bs c fs k now := by
  obtain ⟨he, l, x, av, lv, fv, e1, h1, h2, h3, h4, h5⟩ := h
  have ke : Kept (fun q => E q ∧ q < w.heap.size) w w' := kl.mono (fun q hq => hE q hq.2 hq.1)
  refine ⟨fun q hq => .inl (he q hq), l, x, av, lv, fv, e1, h1.keep kl hL, ?_, ?_, ?_, h5⟩
  · exact ((h2.mono (L := fun q => E q ∧ q < w.heap.size) (by decide) (fun q hq h => ⟨h, hq⟩)).kept ke).mono (by decide) (fun q _ h => h.1)
  · exact ((h3.mono (L := fun q => E q ∧ q < w.heap.size) (fun q hq h => ⟨h, hq⟩)).kept ke).mono (fun q _ h => h.1)
  · exact ((h4.mono (L := fun q => E q ∧ q < w.heap.size) (by decide) (fun q hq h => ⟨h, hq⟩)).kept ke).mono (by decide) (fun q _ h => h.1)
theorem Side.less {K E L : Nat → Prop} {w : World} {cs : Array Value} {b : Nat} {bs : Nat → Nat} {c : Cfg} {fs : List (Int × Int)} {k : Nat} {now : Int} (h : Side K E w cs b bs c fs k now) (hL : ∀ q, L q → K q) (hE : ∀ q, E q → L q) : Side L E w cs b bs c fs k now := by
  obtain ⟨he, l, x, av, lv, fv, e1, h1, h5⟩ := h
  exact ⟨hE, l, x, av, lv, fv, e1, h1.less hL, h5⟩
theorem Side.more {K E : Nat → Prop} {w w' : World} {cs : Array Value} {b : Nat} {bs : Nat → Nat} {c : Cfg} {fs : List (Int × Int)} {k : Nat} {now : Int} (h : Side K E w cs b bs c fs k now) (e : Ext w w') : Side (fun q => K q ∨ New w w' q) E w' cs b bs c fs k now :=
  h.keep (L := fun _ => True) (Kept.of_ext e) (fun _ _ => .inr trivial) (fun _ _ _ => trivial)
theorem Side.ext {K E : Nat → Prop} {w w' : World} {cs : Array Value} {b : Nat} {bs : Nat → Nat} {c : Cfg} {fs : List (Int × Int)} {k : Nat} {now : Int} (h : Side K E w cs b bs c fs k now) (e : Ext w w') : Side K E w' cs b bs c fs k now :=
  (h.more e).less (fun _ hq => .inl hq) h.1
theorem Side.there {K E : Nat → Prop} {w : World} {cs : Array Value} {b : Nat} {bs : Nat → Nat} {c : Cfg} {fs : List (Int × Int)} {k : Nat} {now : Int} (h : Side K E w cs b bs c fs k now) : ∀ q, K q → q < w.heap.size := by
  obtain ⟨_, l, x, av, lv, fv, e1, h1, _⟩ := h
  exact h1.there

set_option maxHeartbeats 1000000 in
theorem step_side {K E : Nat → Prop} {w : World} {cs : Array Value} {b : Nat} {bs : Nat → Nat} {c : Cfg} {fs : List (Int × Int)} {k : Nat} {now0 : Int} (h : Side K E w cs b bs c fs k now0) (hk : k ≤ 900) (hfs : fs.length ≤ 1000) (hfb : ∀ f ∈ fs, -9223372036854775808 ≤ f.2 ∧ f.2 ≤ 9223372036854775807)
    (kind R level later : Int) (tv : Value) (t : List UInt8) (hT : RowK K w tv 1 (bcells t)) (hTP : Plain tv) (now : Int) (n0 : 0 ≤ now) (n1 : now ≤ 1000000) (n2 : now0 ≤ now) :
    Calls Try.prog 10 #[.agg cs, .pointer (some ⟨b, 0, none⟩), .agg #[.int .i64 kind, .int .i64 R, .int .i64 level, .int .i64 later, tv], .int .i64 now] w fun e w' =>
      ∃ (cs' : Array Value) (K' : Nat → Prop), e = .returned (.tuple #[.agg cs', .bool true]) ∧ (∀ q, K q → K' q) ∧ Side K' (fun q => K' q ∧ (E q ∨ w.heap.size ≤ q)) w' cs' b bs c fs (k + 1) now ∧ Kept K w w' := by
  obtain ⟨hE, l, x, av, lv, fv, rfl, h1, h2, h3, h4, h5, h6, h7⟩ := h
  obtain ⟨n, hn, n64⟩ : ∃ n : Nat, c.1 = (n : Int) ∧ n ≤ 64 := by obtain ⟨n', _, _, _, e1, _, e2, _⟩ := h1.down; exact ⟨n', e1, e2⟩
  have fin : ∀ (l' : List Tri) (x' : St) e w', SteppedS K E w b bs c l' fs x' e w' → l'.length ≤ k + 1 → (∀ a ∈ l', a.2.2 ≤ now) → SB (300 * ((k : Int) + 1)) x'.2.2 →
      ∃ (cs' : Array Value) (K' : Nat → Prop), e = .returned (.tuple #[.agg cs', .bool true]) ∧ (∀ q, K q → K' q) ∧ Side K' (fun q => K' q ∧ (E q ∨ w.heap.size ≤ q)) w' cs' b bs c fs (k + 1) now ∧ Kept K w w' := by
    rintro l' x' e w' ⟨av', lv', fv', K', rfl, g1, g2, g3, g4, g5, g6⟩ q1 q2 q3
    exact ⟨_, K', rfl, g1, ⟨fun q hq => hq.1, l', x', av', lv', fv', rfl, g2, g3, g4, g5, q1, q2, by push_cast; exact q3⟩, g6⟩
  have lt : ∀ a ∈ l, a.2.2 ≤ now := fun a ha => Int.le_trans (h6 a ha) n2
  have sb : SB (300 * ((k : Int) + 1)) x.2.2 := h7.mono (by omega)
  have sbig : SB 600000000 x.2.2 := h7.mono (by omega)
  by_cases q1 : kind = 1
  · by_cases q : R < 0 ∨ (n : Int) ≤ R ∨ level < -1 ∨ 7 < level
    · exact (step_ask_bad K E hE w b bs c n hn l fs x av lv fv h1 h2 h3 h4 kind R level later tv t hT hTP now n0 n1 q1 q).mono fun e w' hs => fin l x e w' hs (by omega) lt sb
    · refine (step_ask_ok K E hE w b bs c n hn l fs x av lv fv h1 h2 h3 h4 kind R level later tv t hT hTP now n0 n1 q1 (by omega) (by omega) (by omega) (by omega) (by omega) (st_tick l _ (by exact n0) lt)).mono fun e w' hs => fin _ x e w' hs (by simp; omega) ?_ sb
      intro a ha
      rcases List.mem_append.1 ha with g | g
      · exact lt a g
      · simp only [List.mem_singleton] at g
        subst g
        exact Int.le_refl _
  · by_cases q2 : kind = 2
    · by_cases q : level < 0 ∨ 7 < level ∨ 320 < t.length
      · exact (step_send_bad K E hE w b bs c n hn l fs x av lv fv h1 h2 h3 h4 kind R level later tv t hT hTP now n0 n1 q2 q).mono fun e w' hs => fin l x e w' hs (by omega) lt sb
      · refine (step_send_ok K E hE w b bs c n hn l fs x av lv fv h1 h2 h3 h4 kind R level later tv t hT hTP now n0 n1 q2 (by omega) (by omega) (by omega) (by omega) sbig hfs hfb).mono fun e w' hs => fin l _ e w' hs (by omega) lt ?_
        have ml := mem_length_le c.2.2.2.1 c.2.2.2.2 l level now n
        exact (gvs_bound c fs now t _ x _ h7).mono (by omega)
    · by_cases q3 : kind = 3
      · by_cases q : R < 0 ∨ (n : Int) ≤ R ∨ 320 < t.length
        · exact (step_up_bad K E hE w b bs c n hn l fs x av lv fv h1 h2 h3 h4 kind R level later tv t hT hTP now n0 n1 q3 q).mono fun e w' hs => fin l x e w' hs (by omega) lt sb
        · refine (step_up_ok K E hE w b bs c n hn l fs x av lv fv h1 h2 h3 h4 kind R level later tv t hT hTP now n0 n1 q3 (by omega) (by omega) (by omega) sbig hfs hfb).mono fun e w' hs => fin l _ e w' hs (by omega) lt ?_
          exact (gv_bound c fs now t x n h7).mono (by omega)
      · by_cases q4 : kind = 4
        · by_cases q : R < 0 ∨ (n : Int) ≤ R
          · exact (step_take_no K E hE w b bs c n hn l fs x av lv fv h1 h2 h3 h4 kind R level later tv t hT hTP now n0 n1 q4 q).mono fun e w' hs => fin l x e w' hs (by omega) lt sb
          · refine (step_take K E hE w b bs c n hn l fs x av lv fv h1 h2 h3 h4 kind R level later tv t hT hTP now n0 n1 q4 R.toNat (by omega) (by omega)).mono ?_
            rintro e w' ⟨y, hs⟩
            exact fin l _ e w' hs (by omega) lt sb
        · by_cases q5 : kind = 5
          · refine (step_takeup K E hE w b bs c n hn l fs x av lv fv h1 h2 h3 h4 kind R level later tv t hT hTP now n0 n1 q5).mono ?_
            rintro e w' ⟨y, hs⟩
            exact fin l _ e w' hs (by omega) lt sb
          · exact (step_other K E hE w b bs c n hn l fs x av lv fv h1 h2 h3 h4 kind R level later tv t hT hTP now n0 n1 (by omega)).mono fun e w' hs => fin l x e w' hs (by omega) lt sb

theorem same_side {K E : Nat → Prop} {w : World} {cs : Array Value} {b : Nat} {bs : Nat → Nat} {c : Cfg} {fs : List (Int × Int)} {k : Nat} {now : Int} (h : Side K E w cs b bs c fs k now) :
    Calls Try.prog 11 #[.agg cs, .pointer (some ⟨b, 0, none⟩)] w fun e w' => e = .returned (.bool true) ∧ Ext w w' := by
  obtain ⟨hE, l, x, av, lv, fv, rfl, h1, h2, h3, h4, h5, h6, h7⟩ := h
  obtain ⟨n, hn, n64⟩ : ∃ n : Nat, c.1 = (n : Int) ∧ n ≤ 64 := by obtain ⟨n', _, _, _, e1, _, e2, _⟩ := h1.down; exact ⟨n', e1, e2⟩
  exact same_any K w b bs c n hn l fs x av lv fv h1 (h2.mono (by decide) (fun q _ h => hE q h)) (h3.mono (fun q _ h => hE q h)) (h4.mono (by decide) (fun q _ h => hE q h))
end Go.Proofs.Ytjmgigfaiaemeaa.Sim

/-
  The walk of HistoryCopies: a copy tells the same, and goes on by itself; what is told is new memory.
-/
import Derived.Test.YtmkcgkmaabcjoaaDoorHisPlay
namespace Go.Proofs.YtmkcgkmaabcjoaaDoor.historyCopies
set_option linter.unusedVariables false
set_option maxRecDepth 100000
open Go.RowKit Go.Lib Go.Proofs.YtmkcgkmaabcjoaaDoor.His

/-- a history at b, its copy at cb -/
def CoS (w : World) (b cb : Nat) (wr : World) (cv : Value) (r s : Hs) : Prop := HisV wr b r.1 r.2 ∧ HisV wr cb s.1 s.2 ∧ ListK (fun q => q ≠ cb) wr cv r.2 ∧ Ext w wr ∧ w.heap.size ≤ b ∧ w.heap.size ≤ cb ∧ b ≠ cb
theorem CoS.start {w : World} {b cb : Nat} {w1 w2 : World} {cv : Value} {r : Hs} (h : PlS w b w1 cv r) (hv : HisV w2 cb r.1 r.2) (hc : w1.heap.size ≤ cb) (e : Ext w1 w2) : CoS w b cb w2 cv r r := by
  have hb := h.1.lt
  have hw := h.2.2.1.size
  exact ⟨h.1.ext e, hv, (h.2.1.mono (L := fun q => q ≠ cb) (fun q hq _ => by omega)).ext e, h.2.2.1.trans e, h.2.2.2, by omega, by omega⟩
theorem CoS.ext {w : World} {b cb : Nat} {wr w' : World} {cv : Value} {r s : Hs} (h : CoS w b cb wr cv r s) (e : Ext wr w') : CoS w b cb w' cv r s := ⟨h.1.ext e, h.2.1.ext e, h.2.2.1.ext e, h.2.2.2.1.trans e, h.2.2.2.2⟩
theorem CoS.wrote {w : World} {b cb : Nat} {wr w' : World} {cv : Value} {r s s' : Hs} (h : CoS w b cb wr cv r s) (hv : HisV w' cb s'.1 s'.2) (k : Kept (fun q => q ≠ cb) wr w') : CoS w b cb w' cv r s' :=
  ⟨h.1.kept k h.2.2.2.2.2.2, hv, h.2.2.1.kept k (fun q hq => hq), ext_kept h.2.2.2.1 k h.2.2.2.2.2.1, h.2.2.2.2⟩
theorem CoS.below {w : World} {b cb : Nat} {w2 w3 wr : World} {cv : Value} {r s : Hs} (h : CoS w b cb w2 cv r s) (e : Ext w2 w3) (k : Kept (fun q => q < w2.heap.size) w3 wr) : CoS w b cb wr cv r s := by
  have kk : Kept (fun q => q < w2.heap.size) w2 wr := (Kept.of_ext e).trans k
  have hw := h.2.2.2.1.size
  refine ⟨h.1.kept kk h.1.lt, h.2.1.kept kk h.2.1.lt, ?_, ?_, h.2.2.2.2⟩
  · exact ((h.2.2.1.mono (L := fun q => q ≠ cb ∧ q < w2.heap.size) (fun q hq hk => ⟨hk, hq⟩)).kept kk (fun q hq => hq.2)).mono (fun q _ hq => hq.1)
  · exact h.2.2.2.1.trans (kk.below (Nat.le_refl _) (fun i hi => hi))

/-- numbers that are told, each raised by one up to the k-th -/
def TS (base : Nat) (to : Option Addr) (n : Nat) (lst : List Int) (k : Nat) (wr : World) : Prop :=
  ∀ j, j < n → ∃ tg cur, to = some ⟨tg, 0, none⟩ ∧ base ≤ tg ∧ wr.heap[tg]? = some (.cells cur 3 (0, 0)) ∧ ∀ i, i < n → cur[i]? = some (.int .i64 (lst.getD i 0 + if i < k then 1 else 0))
theorem told_start {w2 w3 : World} {tv : Value} {lst : List Int} (h : NewR one 3 1 w2 w3 tv lst) : ∃ to c, tv = .slice to lst.length c ∧ lst.length ≤ c ∧ c ≤ maxLen ∧ TS w2.heap.size to lst.length lst 0 w3 := by
  rcases h.1.at with ⟨rfl, rfl⟩ | ⟨g, cap, L, rfl, hg, h1, h2, h3, h4⟩
  · exact ⟨none, 0, rfl, Nat.le_refl _, Nat.zero_le _, fun j hj => absurd hj (Nat.not_lt_zero _)⟩
  · refine ⟨_, cap, rfl, h1, h2, fun j hj => ⟨g, L.toArray, rfl, h.2.1 g rfl, hg, fun i hi => ?_⟩⟩
    have e1 : lst[i]? = some (lst.getD i 0) := by rw [List.getD_eq_getElem?_getD, List.getElem?_eq_getElem hi]; rfl
    have e2 := fcells_at encI e1 (j := 0) (by decide)
    rw [Nat.mul_one, Nat.add_zero, ← h4, Nat.mul_one, List.getElem?_take_of_lt hi] at e2
    rw [List.getElem?_toArray, e2, if_neg (Nat.not_lt_zero _), Int.add_zero]
    rfl
theorem TS.step {base : Nat} {to : Option Addr} {n : Nat} {lst : List Int} {k : Nat} {wr : World} (h : TS base to n lst k wr) (hk : k < n) : ∃ tg, to = some ⟨tg, 0, none⟩ ∧ wr.cell? ⟨tg, k, none⟩ = some (.int .i64 (lst.getD k 0)) ∧ wr.frozen? ⟨tg, k, none⟩ = false ∧
    TS base to n lst (k + 1) (wr.setCell ⟨tg, k, none⟩ (.int .i64 (lst.getD k 0 + 1))) ∧ Kept (fun q => q < base) wr (wr.setCell ⟨tg, k, none⟩ (.int .i64 (lst.getD k 0 + 1))) := by
  obtain ⟨tg, cur, rfl, hb, hr, hc⟩ := h k hk
  have ck := hc k hk
  rw [if_neg (Nat.lt_irrefl k), Int.add_zero] at ck
  refine ⟨tg, rfl, by rw [cell_of_row _ _ k _ _ _ hr, ck], frozen_of_row _ _ _ _ _ hr, fun j hj => ⟨tg, cur.setIfInBounds k (.int .i64 (lst.getD k 0 + 1)), rfl, hb, ?_, fun i hi => ?_⟩, (Kept.refl _ _).setCell (fun q => by simp only at q; omega) _⟩
  · rw [setCell_eq_setRow _ _ _ _ _ _ _ hr]
    exact setRow_heap _ _ _ _ _ _ hr
  · rw [Array.getElem?_setIfInBounds]
    have hi2 := hc i hi
    by_cases e : k = i
    · subst e
      rw [if_pos rfl, if_pos (Array.getElem?_eq_some_iff.1 ck).1, if_pos (Nat.lt_succ_self _)]
    · rw [if_neg e, hi2]
      congr 3
      by_cases q : i < k
      · rw [if_pos q, if_pos (by omega)]
      · rw [if_neg q, if_neg (by omega)]

set_option maxHeartbeats 4000000 in
theorem walk (v0 : Value) (l : List (Int × Int)) (v1 : Value) (more : List (Int × Int)) (w : World) (ht : Wts w) (hz : OpsK (fun _ => True) w v0 l) (hm : OpsK (fun _ => True) w v1 more) : Calls Tryd.prog 6 #[v0, v1] w fun e w' => e = .returned (.bool true) ∧ Ext w w' := by
  have T := hid ht
  have AW := hid (fun V (X : Ext w V) => awake_any V (ht.ext X))
  obtain ⟨ao, c, rfl, k1, k2⟩ := hz.slice
  obtain ⟨mo, mc, rfl, k3, k4⟩ := hm.slice
  by_cases big : 60 < l.length ∨ 60 < more.length
  · obtain ⟨N, eN⟩ : ∃ N, N = l.length := ⟨_, rfl⟩
    obtain ⟨M, eM⟩ : ∃ M, M = more.length := ⟨_, rfl⟩
    rw [← eN] at big k1 ⊢
    rw [← eM] at big k3 ⊢
    unfold maxLen at k2 k4
    by_cases b0 : 60 < N
    · have b1 : (60 : Int) < (N : Int) := by omega
      clear hz hm ht eN eM big b0
      go_enter Tryd.func6, Tryd.ntmps6
      go_wp2_with fail
      refine (AW.out _ (Ext.refl w)).mono ?_
      rintro e wz ⟨rfl, xz⟩
      have XZ := hid ((Ext.refl w).trans xz)
      clear xz
      go_wp2_with fail
      go_ret
      exact ⟨rfl, XZ.out⟩
    · have b1 : ¬ (60 : Int) < (N : Int) := by omega
      have b2 : (60 : Int) < (M : Int) := by omega
      clear hz hm ht eN eM big b0
      go_enter Tryd.func6, Tryd.ntmps6
      go_wp2_with fail
      refine (AW.out _ (Ext.refl w)).mono ?_
      rintro e wz ⟨rfl, xz⟩
      have XZ := hid ((Ext.refl w).trans xz)
      clear xz
      go_wp2_with fail
      go_ret
      exact ⟨rfl, XZ.out⟩
  have PL := hid (played_any _ l w hz (by omega))
  have PM := hid (fun (K : Nat → Prop) v V (h : OpsK K V v (l ++ more)) => played_any v (l ++ more) V h (by simp; omega))
  have HZ := hid hz
  have HM := hid hm
  have OPM : Hid (∀ (k : Nat) (q : Int × Int), more[k]? = some q → ∀ V, Ext w V → ∃ g o, mo = some ⟨g, o, none⟩ ∧ V.cell? ⟨g, o + k * 2, none⟩ = some (.int .i64 q.1) ∧ V.cell? ⟨g, o + k * 2 + 1, none⟩ = some (.int .i64 q.2)) := fun k q hk V X => by
    obtain ⟨g, o, e, _, h0, h1⟩ := hm.at hk
    exact ⟨g, o, e, X.cell h0, X.cell h1⟩
  have GET : Hid (∀ k, k < more.length → ∃ q : Int × Int, more[k]? = some q) := fun k hk => ⟨_, List.getElem?_eq_getElem hk⟩
  have NXT := hid (fun (s : Hs) (k : Nat) (q : Int × Int) (h : more[k]? = some q) => show (more.take (k + 1)).foldl hst s = hst ((more.take k).foldl hst s) q by rw [take_next more k q h, List.foldl_append]; rfl)
  have LEN : Hid (l.length ≤ 60 ∧ more.length ≤ 60) := ⟨by omega, by omega⟩
  obtain ⟨N, eN⟩ : ∃ N, N = l.length := ⟨_, rfl⟩
  obtain ⟨M, eM⟩ : ∃ M, M = more.length := ⟨_, rfl⟩
  have EM := hid eM
  have EN := hid eN
  rw [← eN] at big k1 PL HZ ⊢
  rw [← eM] at big k3 GET HM ⊢
  have b1 : ¬ (60 : Int) < (N : Int) := by omega
  have b2 : ¬ (60 : Int) < (M : Int) := by omega
  unfold maxLen at k2 k4
  obtain ⟨r, er⟩ : ∃ r, r = hrun l := ⟨_, rfl⟩
  have ES : Hid (hrun (l ++ more) = more.foldl hst r) := by show _ = _; rw [hrun_append, er]
  rw [← er] at PL
  clear hz hm ht eN eM big er
  go_enter Tryd.func6, Tryd.ntmps6
  go_wp2_with fail
  refine PL.out.mono ?_
  rintro e w1 ⟨b, cv, rfl, ps⟩
  have PS := hid ps
  have CP := hid (copy_any b r.1 r.2 w1 ps.1)
  clear PL ps
  go_wp2_with fail
  refine CP.out.mono ?_
  rintro e w2 ⟨cb, rfl, hv, hc, x2⟩
  have S0 : Hid (CoS w b cb w2 cv r ((more.take 0).foldl hst r)) := CoS.start PS.out hv hc x2
  clear CP hv hc x2 PS
  go_wp2_with fail
  go_loopw [42] (fun iv wr => ∃ k : Nat, k ≤ M ∧ iv = .int .i64 (k : Int) ∧ Hid (CoS w b cb wr cv r ((more.take k).foldl hst r))) (fun iv _ => (M - RowKit.intOf iv).toNat)
  case atStart => exact ⟨0, by omega, rfl, S0⟩
  case round =>
    obtain ⟨k, hk, rfl, HH⟩ := hrel
    clear S0
    by_cases q : k < M
    · have i1 : (k : Int) < (M : Int) := by omega
      have i2 : (0 : Int) ≤ (k : Int) := by omega
      obtain ⟨⟨kind, n⟩, eo⟩ := GET.out k q
      obtain ⟨g, o, rfl, y0, y1⟩ := OPM.out k _ eo _ HH.out.2.2.2.1
      have NX := hid (NXT.out r k _ eo)
      simp only at y0 y1
      clear OPM GET NXT eo
      obtain ⟨W1, e1⟩ : ∃ W1, W1 = wr.alloc (.cells #[.int .i64 kind, .int .i64 n] 46) := ⟨_, rfl⟩
      have S1 : Hid (CoS w b cb W1 cv r ((more.take k).foldl hst r)) := HH.out.ext (by rw [e1]; exact (Ext.refl wr).alloc _)
      have E1 := hid e1
      clear e1 HH
      obtain ⟨s, es⟩ : ∃ s, s = (more.take k).foldl hst r := ⟨_, rfl⟩
      rw [← es] at S1 NX
      clear es
      obtain ⟨ov, lst⟩ := s
      have FIN : Hid (∀ w', HisV w' cb (hst (ov, lst) (kind, n)).1 (hst (ov, lst) (kind, n)).2 → Kept (fun q => q ≠ cb) W1 w' → CoS w b cb w' cv r ((more.take (k + 1)).foldl hst r)) := fun w' h kk => by
        rw [NX.out]
        exact S1.out.wrote h kk
      by_cases q1 : kind = 1
      · subst q1
        have PK := hid (packet_any cb ov lst n W1 S1.out.2.1)
        clear S1 NX
        go_wp2_with fail
        rw [← E1.out]
        refine PK.out.mono ?_
        rintro e w' ⟨rfl, h2, kk⟩
        have F2 := hid (FIN.out _ h2 kk)
        clear PK h2 kk FIN
        go_wp2_with fail
        go_roundw
        case rel => exact ⟨k + 1, by omega, by go_num, F2⟩
        case measure => simp [RowKit.intOf]; omega
      by_cases q2 : kind = 2
      · subst q2
        have PK : Hid (Calls Tryd.prog 21 #[.pointer (some ⟨cb, 0, none⟩)] W1 fun e w' => e = .returned (.bool (decide (lst.length = 0))) ∧ HisV w' cb (hst (ov, lst) (2, n)).1 (hst (ov, lst) (2, n)).2 ∧ Kept (fun q => q ≠ cb) W1 w') := by
          show Calls _ _ _ _ _
          rw [hst_two]
          exact loss_any cb ov lst W1 S1.out.2.1
        clear S1 NX
        go_wp2_with fail
        rw [← E1.out]
        refine PK.out.mono ?_
        rintro e w' ⟨rfl, h2, kk⟩
        have F2 := hid (FIN.out _ h2 kk)
        clear PK h2 kk FIN
        go_wp2_with fail
        go_roundw
        case rel => exact ⟨k + 1, by omega, by go_num, F2⟩
        case measure => simp [RowKit.intOf]; omega
      by_cases q3 : kind = 3
      · subst q3
        have PK := hid (start_any cb ov lst n W1 S1.out.2.1)
        clear S1 NX
        go_wp2_with fail
        rw [← E1.out]
        refine PK.out.mono ?_
        rintro e w' ⟨rfl, h2, kk⟩
        have F2 := hid (FIN.out _ h2 kk)
        clear PK h2 kk FIN
        go_wp2_with fail
        go_roundw
        case rel => exact ⟨k + 1, by omega, by go_num, F2⟩
        case measure => simp [RowKit.intOf]; omega
      · have F2 : Hid (CoS w b cb W1 cv r ((more.take (k + 1)).foldl hst r)) := by
          show CoS _ _ _ _ _ _ _
          rw [NX.out, hst_none _ _ _ q1 q2 q3]
          exact S1.out
        clear S1 NX FIN
        go_wp2_with fail
        rw [← E1.out]
        go_roundw
        case rel => exact ⟨k + 1, by omega, by go_num, F2⟩
        case measure => simp [RowKit.intOf]; omega
    · obtain rfl : M = k := by omega
      have S2 : Hid (CoS w b cb wr cv r (more.foldl hst r)) := by
        have h := HH.out
        rw [EM.out, List.take_length] at h
        exact h
      obtain ⟨w2, e2⟩ : ∃ w2, w2 = wr := ⟨_, rfl⟩
      rw [← e2] at S2 ⊢
      clear e2 HH OPM GET NXT wr q
      have CL := hid (closed_any b r.1 r.2 w2 S2.out.1)
      go_wp2_with fail
      refine CL.out.mono ?_
      rintro e w3 ⟨tv, rfl, hn⟩
      obtain ⟨to, tc, rfl, t1, t2, ts⟩ := told_start hn
      have X3 := hid hn.2.2
      have TS0 : Hid (TS w2.heap.size to r.2.length r.2 0 w3 ∧ Kept (fun q => q < w2.heap.size) w3 w3) := ⟨ts, Kept.refl _ _⟩
      have GD := hid (S2.out.1.1.2.2.getD)
      have r8 : r.2.length ≤ 8 := S2.out.1.1.2.1
      obtain ⟨R, eR⟩ : ∃ R, R = r.2.length := ⟨_, rfl⟩
      rw [← eR] at TS0 t1 r8 ⊢
      unfold maxLen at t2
      have ER := hid eR
      clear CL hn ts eR
      go_wp2_with fail
      go_loopw [69] (fun iv wr => ∃ k : Nat, k ≤ R ∧ iv = .int .i64 (k : Int) ∧ Hid (TS w2.heap.size to R r.2 k wr ∧ Kept (fun q => q < w2.heap.size) w3 wr)) (fun iv _ => (R - RowKit.intOf iv).toNat)
      case atStart => exact ⟨0, by omega, rfl, TS0⟩
      case round =>
        obtain ⟨k, hk, rfl, HH⟩ := hrel
        clear TS0
        by_cases q : k < R
        · have i1 : (k : Int) < (R : Int) := by omega
          have i2 : (0 : Int) ≤ (k : Int) := by omega
          obtain ⟨tg, rfl, y0, fr, TN, KN⟩ := HH.out.1.step q
          obtain ⟨g0, g1⟩ := GD.out k
          have F2 := hid (show TS _ _ _ _ _ _ ∧ Kept _ _ _ from ⟨TN, HH.out.2.trans KN⟩)
          clear HH TN KN GD
          generalize r.2.getD k 0 = x at *
          go_wp2_with fail
          go_roundw
          case rel => exact ⟨k + 1, by omega, by go_num, F2⟩
          case measure => simp [RowKit.intOf]; omega
        · obtain rfl : R = k := by omega
          have S4 := hid (S2.out.below X3.out HH.out.2)
          obtain ⟨w4, e4⟩ : ∃ w4, w4 = wr := ⟨_, rfl⟩
          rw [← e4] at S4 ⊢
          clear e4 HH S2 X3 GD ER q wr
          have XW := S4.out.2.2.2.1
          obtain ⟨w5, e5⟩ : ∃ w5, w5 = w4.alloc (.cells #[] 46) := ⟨_, rfl⟩
          have X5 : Ext w4 w5 := by rw [e5]; exact (Ext.refl w4).alloc _
          have N0 : NewR two 46 2 w4 w5 (.slice (some ⟨w4.heap.size, 0, none⟩) 0 0) [] := ⟨by rw [e5]; exact Own.made _ _ _ w4, fun k hk => by simp only [Value.ownBlock, Option.some.injEq] at hk; omega, X5⟩
          obtain ⟨v1, w6, r1, N1, _⟩ := N0.put elemsQ encQ 22 (.slice ao N c) l (HZ.out.ext (XW.trans X5)) (by have := LEN.out; simp; omega)
          rw [List.nil_append] at N1
          obtain ⟨v2, w7, r2, N2, _⟩ := N1.put elemsQ encQ 22 (.slice mo M mc) more (HM.out.ext (XW.trans N1.2.2)) (by have := LEN.out; omega)
          obtain ⟨a1, c1, ev1, _⟩ := N1.slice
          obtain ⟨a2, c2, ev2, _⟩ := N2.slice
          have R1 := hid r1
          have R2 := hid r2
          have E5 := hid e5
          have X7 := hid N2.2.2
          have P2 := hid (PM.out _ v2 w7 (N2.row encQ))
          rw [ES.out] at P2
          obtain ⟨Y1, eY1⟩ : ∃ Y, Y = l.length := ⟨_, rfl⟩
          obtain ⟨Y2, eY2⟩ : ∃ Y, Y = (l ++ more).length := ⟨_, rfl⟩
          rw [← eY1] at ev1
          rw [← eY2] at ev2
          subst ev1 ev2
          clear PM XW X5 N0 N1 N2 r1 r2 e5 eY1 eY2 HZ HM
          go_wp2_with (first
            | (at_builtin; rw [← E5.out]; refine wpList_append_run _ rfl (.tmp 80) (.tmp 81) 22 22 rfl _ _ rfl rfl _ _ R1.out ?_)
            | (at_builtin; refine wpList_append_run _ rfl (.tmp 82) (.tmp 83) 22 22 rfl _ _ rfl rfl _ _ R2.out ?_))
          refine P2.out.mono ?_
          rintro e w8 ⟨gb, gv, rfl, pg⟩
          have PG := hid pg
          have S8 := hid (S4.out.ext (X7.out.trans pg.2.2.1))
          clear P2 pg S4 R1 R2
          obtain ⟨s, es⟩ : ∃ s, s = more.foldl hst r := ⟨_, rfl⟩
          rw [← es] at PG S8 ⊢
          have OB := hid (open_any b r.1 r.2 w8 S8.out.1)
          have CB := hid (closed_any b r.1 r.2 w8 S8.out.1)
          clear es
          go_wp2_with fail
          refine OB.out.mono ?_
          rintro e w9 ⟨rfl, rfl⟩
          clear OB
          go_wp2_with fail
          refine CB.out.mono ?_
          rintro e wa ⟨va, rfl, na⟩
          have SA := hid (same_any _ _ r.2 wa (NewR.list na) (S8.out.2.2.1.ext na.2.2) (by have := S8.out.1.1.2.1; omega))
          have XA := hid na.2.2
          clear CB na
          go_wp2_with fail
          refine SA.out.mono ?_
          rintro e wb ⟨rfl, xb⟩
          have XB := hid (XA.out.trans xb)
          have OC := hid (open_any cb s.1 s.2 wb (S8.out.2.1.ext XB.out))
          have CC := hid (closed_any cb s.1 s.2 wb (S8.out.2.1.ext XB.out))
          clear SA xb XA
          go_wp2_with fail
          refine OC.out.mono ?_
          rintro e wc ⟨rfl, rfl⟩
          clear OC
          go_wp2_with fail
          refine CC.out.mono ?_
          rintro e wd ⟨vd, rfl, nd⟩
          have SD := hid (same_any _ _ s.2 wd (NewR.list nd) (PG.out.2.1.ext (XB.out.trans nd.2.2)) (by have := S8.out.2.1.1.2.1; omega))
          have XD := hid (XB.out.trans nd.2.2)
          clear CC nd XB
          go_wp2_with fail
          refine SD.out.mono ?_
          rintro e we ⟨rfl, xe⟩
          have XE := hid (XD.out.trans xe)
          have WE := hid (S8.out.2.2.2.1.trans XE.out)
          have MC := hid (mean_of cb s.1 s.2 we (S8.out.2.1.ext XE.out) (T.out.ext WE.out))
          clear SD xe XD
          go_wp2_with fail
          refine MC.out.mono ?_
          rintro e wf ⟨rfl, xf⟩
          have XF := hid (XE.out.trans xf)
          have WF := hid (S8.out.2.2.2.1.trans XF.out)
          have MG := hid (mean_of gb s.1 s.2 wf (PG.out.1.ext XF.out) (T.out.ext WF.out))
          clear MC xf XE WE
          go_wp2_with fail
          refine MG.out.mono ?_
          rintro e wg ⟨rfl, xg⟩
          have WG := hid (WF.out.trans xg)
          clear MG xg WF XF
          go_wp2_with fail
          refine (AW.out _ (WG.out)).mono ?_
          rintro e wz ⟨rfl, xz⟩
          have XZ := hid ((WG.out).trans xz)
          clear xz
          go_wp2_with fail
          go_ret
          exact ⟨rfl, XZ.out⟩
end Go.Proofs.YtmkcgkmaabcjoaaDoor.historyCopies

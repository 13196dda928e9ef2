/-
  Walks of the statements' awake and played.
-/
import Derived.Test.YtmkcgkmaabcjoaaDoorHisSum
import Derived.Test.YtmkcgkmaabcjoaaDoorHisRef
namespace Go.Proofs.YtmkcgkmaabcjoaaDoor.His
set_option linter.unusedVariables false
set_option maxRecDepth 100000
open Go.RowKit Go.Lib

theorem ext_kept {w w1 w2 : World} {b : Nat} (e : Ext w w1) (k : Kept (fun q => q ≠ b) w1 w2) (hb : w.heap.size ≤ b) : Ext w w2 :=
  ((Kept.of_ext (K := fun q => q < w.heap.size) e).trans (k.mono (fun q hq e => by omega))).below (Nat.le_refl _) (fun i hi => hi)

set_option maxHeartbeats 2000000 in
theorem awake_any (w : World) (ht : Wts w) : Calls Tryd.prog 7 #[] w fun e w' => e = .returned (.bool true) ∧ Ext w w' := by
  have NW := hid (new_any w)
  have T := hid ht
  have RT := hid (fun b o l V (h : HisV V b o l) (t : Wts V) => rate_of b o l V h t)
  have MN := hid (fun b o l V (h : HisV V b o l) (t : Wts V) => mean_of b o l V h t)
  have PK := hid (fun b o l n V (h : HisV V b o l) => packet_any b o l n V h)
  have LS := hid (fun b o l V (h : HisV V b o l) => loss_any b o l V h)
  have OF := hid (fun a V (h0 : 0 ≤ a) (h1 : a < 4294967296) => of_any a h0 h1 V)
  have OPN := hid (fun b o l V (h : HisV V b o l) => open_any b o l V h)
  have m1 : hrate 0 [] = 0 := by decide +kernel
  have m2 : hmean 0 [] = 18446744073709551615 := by decide +kernel
  have m3 : hmean 4 [10] = 42949672960 := by decide +kernel
  have m4 : hmean 24 [10] = 73014444032 := by decide +kernel
  have M1 := hid m1
  have M2 := hid m2
  have M3 := hid m3
  have M4 := hid m4
  clear ht m1 m2 m3 m4
  go_enter Tryd.func7, Tryd.ntmps7
  go_wp2_with fail
  refine NW.out.mono ?_
  rintro e w1 ⟨b, rfl, h1, hb, x1⟩
  have X1 := hid x1
  have H1 := hid h1
  have HB := hid hb
  clear h1 hb x1 NW
  go_wp2_with fail
  refine (RT.out b 0 [] _ H1.out (T.out.ext X1.out)).mono ?_
  rintro e w2 ⟨rfl, x⟩
  rw [M1.out]
  have X2 := hid (X1.out.trans x)
  have H2 := hid (H1.out.ext x)
  clear H1 X1 x
  go_wp2_with fail
  refine (MN.out b 0 [] _ H2.out (T.out.ext X2.out)).mono ?_
  rintro e w3 ⟨rfl, x⟩
  rw [M2.out]
  have X3 := hid (X2.out.trans x)
  have H3 := hid (H2.out.ext x)
  clear H2 X2 x
  go_wp2_with fail
  refine (PK.out b 0 [] 10 _ H3.out).mono ?_
  rintro e w4 ⟨rfl, h, k⟩
  rw [show perr 0 10 = 0 by decide]
  have H4 : Hid (HisV w4 b 10 []) := h
  have X4 := hid (ext_kept X3.out k HB.out)
  clear H3 X3 h k
  go_wp2_with fail
  refine (LS.out b 10 [] _ H4.out).mono ?_
  rintro e w5 ⟨rfl, h, k⟩
  rw [show decide (([] : List Int).length = 0) = true by decide]
  have H5 : Hid (HisV w5 b 0 [10]) := h
  have X5 := hid (ext_kept X4.out k HB.out)
  clear H4 X4 h k
  go_wp2_with fail
  refine (PK.out b 0 [10] 4 _ H5.out).mono ?_
  rintro e w6 ⟨rfl, h, k⟩
  rw [show perr 0 4 = 0 by decide]
  have H6 : Hid (HisV w6 b 4 [10]) := h
  have X6 := hid (ext_kept X5.out k HB.out)
  clear H5 X5 h k
  go_wp2_with fail
  refine (MN.out b 4 [10] _ H6.out (T.out.ext X6.out)).mono ?_
  rintro e w7 ⟨rfl, x⟩
  rw [M3.out]
  have X7 := hid (X6.out.trans x)
  have H7 := hid (H6.out.ext x)
  clear H6 X6 x
  go_wp2_with fail
  refine (OF.out 10 _ (by decide) (by decide)).mono ?_
  rintro e w8 ⟨rfl, rfl⟩
  go_wp2_with fail
  refine (PK.out b 4 [10] 20 _ H7.out).mono ?_
  rintro e w9 ⟨rfl, h, k⟩
  rw [show perr 4 20 = 0 by decide]
  have H9 : Hid (HisV w9 b 24 [10]) := h
  have X9 := hid (ext_kept X7.out k HB.out)
  clear H7 X7 h k
  go_wp2_with fail
  refine (MN.out b 24 [10] _ H9.out (T.out.ext X9.out)).mono ?_
  rintro e wa ⟨rfl, x⟩
  rw [M4.out]
  have XA := hid (X9.out.trans x)
  have HA := hid (H9.out.ext x)
  clear H9 X9 x
  go_wp2_with fail
  refine (OF.out 17 _ (by decide) (by decide)).mono ?_
  rintro e wb ⟨rfl, rfl⟩
  go_wp2_with fail
  refine (PK.out b 24 [10] (-1) _ HA.out).mono ?_
  rintro e wc ⟨rfl, h, k⟩
  rw [show perr 24 (-1) = 11 by decide]
  have HC : Hid (HisV wc b 24 [10]) := h
  have XC := hid (ext_kept XA.out k HB.out)
  clear HA XA h k
  go_wp2_with fail
  refine (OPN.out b 24 [10] _ HC.out).mono ?_
  rintro e wd ⟨rfl, rfl⟩
  go_wp2_with fail
  go_ret
  exact ⟨rfl, XC.out⟩

/-- a call as it lies in cells -/
def two (q : Int × Int) : List Value := [.int .i64 q.1, .int .i64 q.2]
theorem encQ : Enc two 2 := ⟨by decide, fun _ => rfl, fun x u h => by
  simp only [two, List.mem_cons, List.not_mem_nil, or_false] at h
  rcases h with rfl | rfl <;> rfl⟩
theorem elemsQ : Elems 22 46 2 16 (.agg #[.int .i64 0, .int .i64 0]) := ⟨Tryd.underlying22, by kernel_rfl, rfl, by decide⟩
def OpsK (K : Nat → Prop) (w : World) (v : Value) (l : List (Int × Int)) : Prop := RowK K w v 2 (fcells two l)
theorem OpsK.slice {K : Nat → Prop} {w : World} {v : Value} {l : List (Int × Int)} (h : OpsK K w v l) : ∃ ao c, v = .slice ao l.length c ∧ l.length ≤ c ∧ c ≤ maxLen := by
  obtain ⟨ao, n, c, e, h1, h2, h3, _⟩ := h
  rw [fcells_length encQ] at h1
  obtain rfl : l.length = n := by omega
  exact ⟨ao, c, e, h2, h3⟩
theorem OpsK.at {K : Nat → Prop} {w : World} {ao : Option Addr} {n c : Nat} {l : List (Int × Int)} (h : OpsK K w (.slice ao n c) l) {k : Nat} {q : Int × Int} (hk : l[k]? = some q) : ∃ g o, ao = some ⟨g, o, none⟩ ∧ g < w.heap.size ∧ w.cell? ⟨g, o + k * 2, none⟩ = some (.int .i64 q.1) ∧ w.cell? ⟨g, o + k * 2 + 1, none⟩ = some (.int .i64 q.2) := by
  obtain ⟨ao', n', c', e, h1, h2, h3, h4⟩ := h
  simp only [Value.slice.injEq] at e
  obtain ⟨rfl, rfl, rfl⟩ := e
  rw [fcells_length encQ] at h1
  have kl := (List.getElem?_eq_some_iff.1 hk).1
  obtain ⟨g, o, ea, hg, hc⟩ := h4 (by omega)
  have a0 := hc (k * 2 + 0) _ (fcells_at encQ hk (j := 0) (by decide))
  have a1 := hc (k * 2 + 1) _ (fcells_at encQ hk (j := 1) (by decide))
  rw [← Nat.add_assoc] at a1
  rw [Nat.add_zero] at a0
  exact ⟨g, o, ea, block_lt_of_cell a0, a0, a1⟩
theorem OpsK.ext {K : Nat → Prop} {w w' : World} {v : Value} {l : List (Int × Int)} (h : OpsK K w v l) (e : Ext w w') : OpsK K w' v l := RowK.kept h (Kept.of_ext e)

/-- a history at b and the document's intervals side by side; b is new since w -/
def PlS (w : World) (b : Nat) (wr : World) (cv : Value) (s : Hs) : Prop := HisV wr b s.1 s.2 ∧ ListK (fun q => w.heap.size ≤ q ∧ q ≠ b) wr cv s.2 ∧ Ext w wr ∧ w.heap.size ≤ b
theorem PlS.ext {w : World} {b : Nat} {wr w' : World} {cv : Value} {s : Hs} (h : PlS w b wr cv s) (e : Ext wr w') : PlS w b w' cv s := ⟨h.1.ext e, h.2.1.ext e, h.2.2.1.trans e, h.2.2.2⟩
theorem PlS.wrote {w : World} {b : Nat} {wr w' : World} {cv : Value} {s s' : Hs} (h : PlS w b wr cv s) (hv : HisV w' b s'.1 s'.2) (k : Kept (fun q => q ≠ b) wr w') (e : s'.2 = s.2) : PlS w b w' cv s' :=
  ⟨hv, by rw [e]; exact h.2.1.kept k (fun q hq => hq.2), ext_kept h.2.2.1 k h.2.2.2, h.2.2.2⟩
theorem hst_one (s : Hs) (n : Int) : hst s (1, n) = if n < 0 ∨ 65536 < n ∨ 1048576 < s.1 + n then s else (s.1 + n, s.2) := by simp [hst]
theorem hst_two (s : Hs) (n : Int) : hst s (2, n) = (0, (s.1 :: s.2).take 8) := by simp [hst]
theorem hst_three (s : Hs) (n : Int) : hst s (3, n) = if s.2.length = 1 ∧ 1 ≤ n ∧ n ≤ 1048576 then (s.1, [n]) else s := by simp [hst]
theorem hst_none (s : Hs) (k n : Int) (h1 : k ≠ 1) (h2 : k ≠ 2) (h3 : k ≠ 3) : hst s (k, n) = s := by simp [hst, h1, h2, h3]
/-- one interval that is set -/
theorem PlS.set {w : World} {b : Nat} {wr w' : World} {cv : Value} {s : Hs} {n : Int} (h : PlS w b wr cv s) (hv : HisV w' b s.1 [n]) (k : Kept (fun q => q ≠ b) wr w') : PlS w b (w'.alloc (.cells #[.int .i64 n] 3)) (.slice (some ⟨w'.heap.size, 0, none⟩) 1 1) (s.1, [n]) := by
  have x : Ext w' (w'.alloc (.cells #[.int .i64 n] 3)) := (Ext.refl w').alloc _
  have xw := ext_kept h.2.2.1 k h.2.2.2
  have r : ListK (fun q => q = w'.heap.size) (w'.alloc (.cells (one n).toArray 3)) (.slice (some ⟨w'.heap.size, 0, none⟩) 1 1) [n] := one_row encI 3 w' n
  exact ⟨hv.ext x, r.mono (fun q _ e => by have := xw.size; have := hv.lt; subst e; exact ⟨by omega, by omega⟩), xw.trans x, h.2.2.2⟩
/-- .. that is put ahead -/
theorem PlS.front {w : World} {b : Nat} {wr w2 w3 : World} {cv : Value} {s : Hs} {ao : Option Addr} {c : Nat} (h : PlS w b wr cv s) (hv : HisV w2 b 0 ((s.1 :: s.2).take 8)) (k : Kept (fun q => q ≠ b) wr w2) (hn : NewR one 3 1 w2 w3 (.slice ao (s.1 :: s.2).length c) (s.1 :: s.2)) :
    PlS w b w3 (.slice ao (min (s.1 :: s.2).length 8) c) (0, (s.1 :: s.2).take 8) := by
  have xw := ext_kept h.2.2.1 k h.2.2.2
  have r := (NewR.list hn).take (min (s.1 :: s.2).length 8) (by omega)
  have et : (s.1 :: s.2).take (min (s.1 :: s.2).length 8) = (s.1 :: s.2).take 8 := by
    by_cases q : (s.1 :: s.2).length ≤ 8
    · rw [Nat.min_eq_left q, List.take_length, List.take_of_length_le q]
    · rw [Nat.min_eq_right (by omega)]
  rw [et] at r
  exact ⟨hv.ext hn.2.2, r.mono (fun q _ hq => by have := xw.size; have := hv.lt; exact ⟨by omega, by omega⟩), xw.trans hn.2.2, h.2.2.2⟩

theorem results_tmp4 {fn : Func} {t u v x : Tmp} (h : fn.results = #[.tmp t, .tmp u, .tmp v, .tmp x]) (tmps : Array Value) (P : Program) (w : World) :
    (results fn tmps).run P w = .ok (.tuple #[tmps.getD t undef, tmps.getD u undef, tmps.getD v undef, tmps.getD x undef]) w := by
  simp [results, h]

set_option maxHeartbeats 4000000 in
theorem played_any {K : Nat → Prop} (v : Value) (l : List (Int × Int)) (w : World) (hv : OpsK K w v l) (hl : l.length ≤ 200) :
    Calls Tryd.prog 8 #[v] w fun e w' => ∃ b cv, e = .returned (.tuple #[.pointer (some ⟨b, 0, none⟩), .int .i64 (hrun l).1, cv, .bool true]) ∧ PlS w b w' cv (hrun l) := by
  have NW := hid (new_any w)
  obtain ⟨vo, vc, rfl, k1, k2⟩ := hv.slice
  have OPS : Hid (∀ (k : Nat) (q : Int × Int), l[k]? = some q → ∀ V, Ext w V → ∃ g o, vo = some ⟨g, o, none⟩ ∧ V.cell? ⟨g, o + k * 2, none⟩ = some (.int .i64 q.1) ∧ V.cell? ⟨g, o + k * 2 + 1, none⟩ = some (.int .i64 q.2)) := fun k q hk V X => by
    obtain ⟨g, o, e, _, h0, h1⟩ := hv.at hk
    exact ⟨g, o, e, X.cell h0, X.cell h1⟩
  have GET : Hid (∀ k, k < l.length → ∃ q : Int × Int, l[k]? = some q) := fun k hk => ⟨_, List.getElem?_eq_getElem hk⟩
  have FT := hid (fun k => hrun_fit (l.take k))
  obtain ⟨N, eN⟩ : ∃ N, N = l.length := ⟨_, rfl⟩
  have eL : hrun l = hrun (l.take N) := by rw [eN, List.take_length]
  rw [eL]
  rw [← eN] at hl GET k1 ⊢
  unfold maxLen at k2
  clear hv eN eL
  go_enter Tryd.func8, Tryd.ntmps8
  go_wp2_with fail
  refine NW.out.mono ?_
  rintro e w1 ⟨b, rfl, h1, hb, x1⟩
  have S0 : Hid (PlS w b w1 (.slice none 0 0) (hrun (l.take 0))) := ⟨h1, RowK.nil _ _ _, x1, hb⟩
  have O0 : Hid ((hrun (l.take 0)).1 = 0) := rfl
  clear NW h1 hb x1
  go_wp2_with fail
  go_loopw [7, 8, 18] (fun ov cv iv wr => ∃ k : Nat, k ≤ N ∧ iv = .int .i64 (k : Int) ∧ ov = .int .i64 (hrun (l.take k)).1 ∧ Hid (PlS w b wr cv (hrun (l.take k)))) (fun _ _ iv _ => (N - RowKit.intOf iv).toNat)
  case atStart => exact ⟨0, by omega, rfl, by rw [O0.out], S0⟩
  case round =>
    obtain ⟨k, hk, rfl, rfl, HH⟩ := hrel
    clear S0 O0
    by_cases q : k < N
    · have i1 : (k : Int) < (N : Int) := by omega
      have i2 : (0 : Int) ≤ (k : Int) := by omega
      obtain ⟨⟨kind, n⟩, eo⟩ := GET.out k q
      obtain ⟨g, o, rfl, y0, y1⟩ := OPS.out k _ eo _ HH.out.2.2.1
      have NXT : Hid (hrun (l.take (k + 1)) = hst (hrun (l.take k)) (kind, n)) := hrun_next l k _ eo
      obtain ⟨⟨o0, o1⟩, l8, _⟩ := FT.out k
      obtain ⟨s, es⟩ : ∃ s, s = hrun (l.take k) := ⟨_, rfl⟩
      rw [← es] at HH NXT o0 o1 l8 ⊢
      obtain ⟨ov, lst⟩ := s
      obtain ⟨ao, c, ev, c1, c2⟩ := HH.out.2.1.slice
      unfold maxLen at c2
      simp only at y0 y1 o0 o1 l8 ev c1
      obtain ⟨M, eM⟩ : ∃ M, M = lst.length := ⟨_, rfl⟩
      rw [← eM] at l8 ev c1
      subst ev
      have EM := hid eM
      clear OPS GET FT eo es eM
      obtain ⟨W1, e1⟩ : ∃ W1, W1 = wr.alloc (.cells #[.int .i64 kind, .int .i64 n] 46) := ⟨_, rfl⟩
      have S1 : Hid (PlS w b W1 (.slice ao M c) (ov, lst)) := HH.out.ext (by rw [e1]; exact (Ext.refl wr).alloc _)
      have hb0 := HH.out.1.lt
      have BX : Hid (∀ w2, Kept (fun q => q ≠ b) W1 w2 → w2.cell? ⟨wr.heap.size, 1, none⟩ = some (.int .i64 n)) := fun w2 kk => by
        rw [cell_of_row _ _ 1 _ _ _ (kk.row (g := wr.heap.size) (by omega) (by rw [e1]; exact heap_alloc_new wr _))]
        rfl
      have E1 := hid e1
      clear e1 HH hb0
      by_cases q1 : kind = 1
      · subst q1
        have PK := hid (packet_any b ov lst n W1 S1.out.1)
        rw [hst_one] at NXT
        simp only at NXT
        by_cases bad : n < 0 ∨ 65536 < n ∨ 1048576 < ov + n
        · rw [if_pos bad] at NXT
          have FIN : Hid (∀ w2, HisV w2 b (hst (ov, lst) (1, n)).1 (hst (ov, lst) (1, n)).2 → Kept (fun q => q ≠ b) W1 w2 → PlS w b w2 (.slice ao M c) (hrun (l.take (k + 1)))) := fun w2 h kk => by
            rw [hst_one] at h
            simp only at h
            rw [if_pos bad] at h
            rw [NXT.out]
            exact S1.out.wrote h kk rfl
          have ep : perr ov n = 11 := by unfold perr; rw [if_pos bad]
          rw [ep] at PK
          have EO : Hid ((hrun (l.take (k + 1))).1 = ov) := by show _ = _; rw [NXT.out]
          clear NXT ep S1
          by_cases b1 : n < 0
          · clear bad
            go_wp2_with fail
            rw [← E1.out]
            refine PK.out.mono ?_
            rintro e w2 ⟨rfl, h2, kk⟩
            have F2 := hid (FIN.out _ h2 kk)
            clear PK h2 kk FIN
            go_wp2_with fail
            go_roundw
            case rel => exact ⟨k + 1, by omega, by go_num, by rw [EO.out], F2⟩
            case measure => simp [RowKit.intOf]; omega
          by_cases b2 : 65536 < n
          · clear bad
            go_wp2_with fail
            rw [← E1.out]
            refine PK.out.mono ?_
            rintro e w2 ⟨rfl, h2, kk⟩
            have F2 := hid (FIN.out _ h2 kk)
            clear PK h2 kk FIN
            go_wp2_with fail
            go_roundw
            case rel => exact ⟨k + 1, by omega, by go_num, by rw [EO.out], F2⟩
            case measure => simp [RowKit.intOf]; omega
          · have b3 : 1048576 < ov + n := by omega
            clear bad
            go_wp2_with fail
            rw [← E1.out]
            refine PK.out.mono ?_
            rintro e w2 ⟨rfl, h2, kk⟩
            have F2 := hid (FIN.out _ h2 kk)
            clear PK h2 kk FIN
            go_wp2_with fail
            go_roundw
            case rel => exact ⟨k + 1, by omega, by go_num, by rw [EO.out], F2⟩
            case measure => simp [RowKit.intOf]; omega
        · rw [if_neg bad] at NXT
          have FIN : Hid (∀ w2, HisV w2 b (hst (ov, lst) (1, n)).1 (hst (ov, lst) (1, n)).2 → Kept (fun q => q ≠ b) W1 w2 → PlS w b w2 (.slice ao M c) (hrun (l.take (k + 1)))) := fun w2 h kk => by
            rw [hst_one] at h
            simp only at h
            rw [if_neg bad] at h
            rw [NXT.out]
            exact S1.out.wrote h kk rfl
          have ep : perr ov n = 0 := by unfold perr; rw [if_neg bad]
          rw [ep] at PK
          have EO : Hid ((hrun (l.take (k + 1))).1 = ov + n) := by show _ = _; rw [NXT.out]
          have b1 : ¬ n < 0 := by omega
          have b2 : ¬ 65536 < n := by omega
          have b3 : ¬ 1048576 < ov + n := by omega
          clear NXT ep S1 bad
          go_wp2_with fail
          rw [← E1.out]
          refine PK.out.mono ?_
          rintro e w2 ⟨rfl, h2, kk⟩
          have F2 := hid (FIN.out _ h2 kk)
          clear PK h2 kk FIN
          go_wp2_with fail
          go_roundw
          case rel => exact ⟨k + 1, by omega, by go_num, by rw [EO.out], F2⟩
          case measure => simp [RowKit.intOf]; omega
      by_cases q2 : kind = 2
      · subst q2
        rw [hst_two] at NXT
        have LS := hid (loss_any b ov lst W1 S1.out.1)
        have FR : Hid (∀ w2, Kept (fun q => q ≠ b) W1 w2 → Calls Tryd.prog 17 #[.int .i64 ov, .slice ao M c] w2 fun e w' => ∃ v', e = .returned v' ∧ NewR one 3 1 w2 w' v' (ov :: lst)) := fun w2 kk =>
          front_any ov _ lst w2 (S1.out.2.1.kept kk (fun q hq => hq.2)) (by have := EM.out; omega)
        have FIN : Hid (∀ w2 w3 a3 c3, HisV w2 b 0 ((ov :: lst).take 8) → Kept (fun q => q ≠ b) W1 w2 → NewR one 3 1 w2 w3 (.slice a3 (M + 1) c3) (ov :: lst) → PlS w b w3 (.slice a3 (min (M + 1) 8) c3) (hrun (l.take (k + 1)))) := fun w2 w3 a3 c3 h kk hn => by
          rw [NXT.out]
          have e : M + 1 = (ov :: lst).length := by rw [List.length_cons, EM.out]
          rw [e] at hn ⊢
          exact S1.out.front h kk hn
        have EO : Hid ((hrun (l.take (k + 1))).1 = 0) := by show _ = _; rw [NXT.out]
        have ed : decide (lst.length = 0) = decide ((M : Int) = 0) := by rw [← EM.out]; simp
        rw [ed] at LS
        clear NXT S1 ed BX
        by_cases mz : (M : Int) = 0
        · rw [decide_eq_true mz] at LS
          go_wp2_with fail
          rw [← E1.out]
          refine LS.out.mono ?_
          rintro e w2 ⟨rfl, h2, kk⟩
          have H2 := hid h2
          have KK := hid kk
          clear LS h2 kk
          go_wp2_with fail
          refine (FR.out _ KK.out).mono ?_
          rintro e w3 ⟨v', rfl, hn⟩
          obtain ⟨a3, c3, ev3, d1, d2⟩ := hn.slice
          have e3 : (ov :: lst).length = M + 1 := by rw [List.length_cons, EM.out]
          rw [e3] at ev3 d1
          subst ev3
          have HN := hid hn
          unfold maxLen at d2
          clear FR hn e3
          by_cases m8 : M + 1 ≤ 8
          · have mi : min ((M : Int) + 1) 8 = (M : Int) + 1 := by omega
            have F2 := hid (FIN.out _ _ _ _ H2.out KK.out HN.out)
            rw [Nat.min_eq_left m8, show M + 1 = 1 by omega] at F2
            have m8i : (M : Int) + 1 ≤ 8 := by omega
            clear FIN HN H2 KK m8
            go_wp2_with fail
            go_roundw
            case rel => exact ⟨k + 1, by omega, by go_num, by rw [EO.out], F2⟩
            case measure => simp [RowKit.intOf]; omega
          · have m9 : M = 8 := by omega
            subst m9
            have F2 := hid (FIN.out _ _ _ _ H2.out KK.out HN.out)
            clear FIN HN H2 KK m8
            go_wp2_with fail
            go_roundw
            case rel => exact ⟨k + 1, by omega, by go_num, by rw [EO.out], F2⟩
            case measure => simp [RowKit.intOf]; omega
        · rw [decide_eq_false mz] at LS
          go_wp2_with fail
          rw [← E1.out]
          refine LS.out.mono ?_
          rintro e w2 ⟨rfl, h2, kk⟩
          have H2 := hid h2
          have KK := hid kk
          clear LS h2 kk
          go_wp2_with fail
          refine (FR.out _ KK.out).mono ?_
          rintro e w3 ⟨v', rfl, hn⟩
          obtain ⟨a3, c3, ev3, d1, d2⟩ := hn.slice
          have e3 : (ov :: lst).length = M + 1 := by rw [List.length_cons, EM.out]
          rw [e3] at ev3 d1
          subst ev3
          have HN := hid hn
          unfold maxLen at d2
          clear FR hn e3
          by_cases m8 : M + 1 ≤ 8
          · have mi : min ((M : Int) + 1) 8 = (M : Int) + 1 := by omega
            have F2 := hid (FIN.out _ _ _ _ H2.out KK.out HN.out)
            rw [Nat.min_eq_left m8] at F2
            have m8i : (M : Int) + 1 ≤ 8 := by omega
            clear FIN HN H2 KK m8
            go_wp2_with fail
            go_roundw
            case rel => exact ⟨k + 1, by omega, by go_num, by rw [EO.out], F2⟩
            case measure => simp [RowKit.intOf]; omega
          · have m9 : M = 8 := by omega
            subst m9
            have F2 := hid (FIN.out _ _ _ _ H2.out KK.out HN.out)
            clear FIN HN H2 KK m8
            go_wp2_with fail
            go_roundw
            case rel => exact ⟨k + 1, by omega, by go_num, by rw [EO.out], F2⟩
            case measure => simp [RowKit.intOf]; omega
      by_cases q3 : kind = 3
      · subst q3
        have SA := hid (start_any b ov lst n W1 S1.out.1)
        rw [hst_three] at NXT
        simp only at NXT
        by_cases good : lst.length = 1 ∧ 1 ≤ n ∧ n ≤ 1048576
        · rw [if_pos good] at NXT
          have FIN : Hid (∀ w2, HisV w2 b (hst (ov, lst) (3, n)).1 (hst (ov, lst) (3, n)).2 → Kept (fun q => q ≠ b) W1 w2 → PlS w b (w2.alloc (.cells #[.int .i64 n] 3)) (.slice (some ⟨w2.heap.size, 0, none⟩) 1 1) (hrun (l.take (k + 1)))) := fun w2 h kk => by
            rw [hst_three] at h
            simp only at h
            rw [if_pos good] at h
            rw [NXT.out]
            exact S1.out.set h kk
          rw [decide_eq_true good] at SA
          have EO : Hid ((hrun (l.take (k + 1))).1 = ov) := by show _ = _; rw [NXT.out]
          have M1 : M = 1 := by rw [EM.out]; exact good.1
          have g1 := good.2.1
          have g2 := good.2.2
          subst M1
          clear NXT S1 good
          go_wp2_with fail
          rw [← E1.out]
          refine SA.out.mono ?_
          rintro e w2 ⟨rfl, h2, kk⟩
          have F2 := hid (FIN.out _ h2 kk)
          have z1 := BX.out w2 kk
          clear SA h2 kk FIN BX
          go_wp2_with fail
          go_roundw
          case rel => exact ⟨k + 1, by omega, by go_num, by rw [EO.out], F2⟩
          case measure => simp [RowKit.intOf]; omega
        · rw [if_neg good] at NXT
          have FIN : Hid (∀ w2, HisV w2 b (hst (ov, lst) (3, n)).1 (hst (ov, lst) (3, n)).2 → Kept (fun q => q ≠ b) W1 w2 → PlS w b w2 (.slice ao M c) (hrun (l.take (k + 1)))) := fun w2 h kk => by
            rw [hst_three] at h
            simp only at h
            rw [if_neg good] at h
            rw [NXT.out]
            exact S1.out.wrote h kk rfl
          rw [decide_eq_false good] at SA
          have EO : Hid ((hrun (l.take (k + 1))).1 = ov) := by show _ = _; rw [NXT.out]
          have good' : ¬ (M = 1 ∧ 1 ≤ n ∧ n ≤ 1048576) := by rw [EM.out]; exact good
          clear NXT S1 good
          by_cases g0 : (M : Int) = 1
          · by_cases g1 : n < 1
            · clear good'
              go_wp2_with fail
              rw [← E1.out]
              refine SA.out.mono ?_
              rintro e w2 ⟨rfl, h2, kk⟩
              have F2 := hid (FIN.out _ h2 kk)
              clear SA h2 kk FIN
              go_wp2_with fail
              go_roundw
              case rel => exact ⟨k + 1, by omega, by go_num, by rw [EO.out], F2⟩
              case measure => simp [RowKit.intOf]; omega
            · have g2 : 1048576 < n := by omega
              clear good'
              go_wp2_with fail
              rw [← E1.out]
              refine SA.out.mono ?_
              rintro e w2 ⟨rfl, h2, kk⟩
              have F2 := hid (FIN.out _ h2 kk)
              clear SA h2 kk FIN
              go_wp2_with fail
              go_roundw
              case rel => exact ⟨k + 1, by omega, by go_num, by rw [EO.out], F2⟩
              case measure => simp [RowKit.intOf]; omega
          · clear good'
            go_wp2_with fail
            rw [← E1.out]
            refine SA.out.mono ?_
            rintro e w2 ⟨rfl, h2, kk⟩
            have F2 := hid (FIN.out _ h2 kk)
            clear SA h2 kk FIN
            go_wp2_with fail
            go_roundw
            case rel => exact ⟨k + 1, by omega, by go_num, by rw [EO.out], F2⟩
            case measure => simp [RowKit.intOf]; omega
      · rw [hst_none _ _ _ q1 q2 q3] at NXT
        have F2 : Hid (PlS w b W1 (.slice ao M c) (hrun (l.take (k + 1)))) := by show PlS _ _ _ _ _; rw [NXT.out]; exact S1.out
        have EO : Hid ((hrun (l.take (k + 1))).1 = ov) := by show _ = _; rw [NXT.out]
        clear NXT S1
        go_wp2_with fail
        rw [← E1.out]
        go_roundw
        case rel => exact ⟨k + 1, by omega, by go_num, by rw [EO.out], F2⟩
        case measure => simp [RowKit.intOf]; omega
    · obtain rfl : N = k := by omega
      clear OPS GET FT
      go_wp2_with fail
      refine bodyPost_ret (results_tmp4 Tryd.results8 _ _ _) rfl ?_
      exact ⟨_, _, rfl, HH.out⟩
end Go.Proofs.YtmkcgkmaabcjoaaDoor.His

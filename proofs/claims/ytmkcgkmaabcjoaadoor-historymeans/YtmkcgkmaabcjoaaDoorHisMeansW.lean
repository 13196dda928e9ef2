/-
  The walk of HistoryMeans: the mean, and the discounted one, are what the document says.
-/
import Derived.Test.YtmkcgkmaabcjoaaDoorHisPlay
namespace Go.Proofs.YtmkcgkmaabcjoaaDoor.historyMeans
set_option linter.unusedVariables false
set_option maxRecDepth 100000
open Go.RowKit Go.Lib Go.Proofs.YtmkcgkmaabcjoaaDoor.His

theorem sum_plain {K : Nat → Prop} (v : Value) (l : List Int) (w : World) (hv : ListK K w v l) (l8 : l.length ≤ 8) (hs : Small l) : Calls Tryd.prog 15 #[v, .bool false] w fun e w' => e = .returned (.tuple #[.int .i64 (wsum 0 l), .int .i64 (wall 0 l)]) ∧ Ext w w' := by
  have h := sum_any v l false w hv l8 hs
  simp only [more, Bool.false_eq_true, false_and, if_false, Int.add_zero] at h
  exact h
theorem small_all {o : Int} {l : List Int} (h : Fit o l) : Small ((o :: l).take 8) := (fit_loss h).2.2
theorem wsum_all (o : Int) (l : List Int) : wsum 0 ((o :: l).take 8) = wsum 1 l + o * 5 := by
  rw [wsum_cut (o :: l) 0 8 (by omega)]
  show o * wt 0 + wsum 1 l = _
  have e : wt 0 = 5 := rfl
  rw [e]
  omega
theorem wall_all (o : Int) (l : List Int) : wall 0 ((o :: l).take 8) = wall 1 l + 5 := by
  rw [wall_cut (o :: l) 0 8 (by omega)]
  show wt 0 + wall 1 l = _
  have e : wt 0 = 5 := rfl
  rw [e]
  omega
theorem sum_all {K : Nat → Prop} (v : Value) (o : Int) (l : List Int) (w : World) (hv : ListK K w v ((o :: l).take 8)) (h : Fit o l) : Calls Tryd.prog 15 #[v, .bool false] w fun e w' => e = .returned (.tuple #[.int .i64 (wsum 1 l + o * 5), .int .i64 (wall 1 l + 5)]) ∧ Ext w w' := by
  have h := sum_plain v _ w hv (by rw [List.length_take]; omega) (small_all h)
  rw [wsum_all, wall_all] at h
  exact h
theorem sum_half {K : Nat → Prop} (v : Value) (o : Int) (l : List Int) (w : World) (hv : ListK K w v ((o :: l).take 8)) (h : Fit o l) : Calls Tryd.prog 15 #[v, .bool true] w fun e w' => e = .returned (.tuple #[.int .i64 (wsum 1 l + o * 10), .int .i64 (wall 1 l + 10)]) ∧ Ext w w' := by
  have h := sum_any v _ true w hv (by rw [List.length_take]; omega) (small_all h)
  have e : ((o :: l).take 8).getD 0 0 = o := by rw [getD_loss o l 0 (by decide)]; rfl
  have e2 : 0 < ((o :: l).take 8).length := by rw [List.length_take, List.length_cons]; omega
  rw [wsum_all, wall_all, e] at h
  simp only [more, e2, and_self, if_true] at h
  rw [show wsum 1 l + o * 10 = wsum 1 l + o * 5 + o * 5 by omega, show wall 1 l + 10 = wall 1 l + 5 + 1 * 5 by omega]
  exact h
theorem ratio_first {o : Int} {l : List Int} (h : Fit o l) (hl : l ≠ []) (w : World) : Calls Tryd.prog 16 #[.int .i64 (wsum 0 l), .int .i64 (wall 0 l)] w fun e w' => e = .returned (.int .u64 (hfirst l)) ∧ w' = w := by
  rw [first_div h hl]
  have r := h.all 0
  have p := wall_pos l hl
  exact refRatio_any _ _ w r.1.1 (by omega) (by omega) (by omega)
theorem ratio_second {o : Int} {l : List Int} (h : Fit o l) (w : World) : Calls Tryd.prog 16 #[.int .i64 (wsum 1 l + o * 5), .int .i64 (wall 1 l + 5)] w fun e w' => e = .returned (.int .u64 (hsecond 1 o l)) ∧ w' = w := by
  rw [second_div 1 h (by omega) (by omega), show (1 * 5 : Int) = 5 by decide]
  have r := h.all 1
  have ho := h.1
  exact refRatio_any _ _ w (by omega) (by omega) (by omega) (by omega)
theorem ratio_third {o : Int} {l : List Int} (h : Fit o l) (w : World) : Calls Tryd.prog 16 #[.int .i64 (wsum 1 l + o * 10), .int .i64 (wall 1 l + 10)] w fun e w' => e = .returned (.int .u64 (hsecond 2 o l)) ∧ w' = w := by
  rw [second_div 2 h (by omega) (by omega), show (2 * 5 : Int) = 10 by decide]
  have r := h.all 1
  have ho := h.1
  exact refRatio_any _ _ w (by omega) (by omega) (by omega) (by omega)

set_option maxHeartbeats 4000000 in
theorem walk (v0 : Value) (l : List (Int × Int)) (w : World) (ht : Wts w) (hz : OpsK (fun _ => True) w v0 l) : Calls Tryd.prog 4 #[v0] w fun e w' => e = .returned (.bool true) ∧ Ext w w' := by
  have T := hid ht
  have AW := hid (fun V (X : Ext w V) => awake_any V (ht.ext X))
  obtain ⟨ao, c, rfl, k1, k2⟩ := hz.slice
  by_cases big : 100 < l.length
  · obtain ⟨N, eN⟩ : ∃ N, N = l.length := ⟨_, rfl⟩
    rw [← eN] at big k1 ⊢
    have b1 : (100 : Int) < (N : Int) := by omega
    unfold maxLen at k2
    clear hz ht eN big
    go_enter Tryd.func4, Tryd.ntmps4
    go_wp2_with fail
    refine (AW.out _ (Ext.refl w)).mono ?_
    rintro e wz ⟨rfl, xz⟩
    have XZ := hid ((Ext.refl w).trans xz)
    clear xz
    go_wp2_with fail
    go_ret
    exact ⟨rfl, XZ.out⟩
  have PL := hid (played_any _ l w hz (by omega))
  obtain ⟨N, eN⟩ : ∃ N, N = l.length := ⟨_, rfl⟩
  rw [← eN] at big k1 PL ⊢
  have b1 : ¬ (100 : Int) < (N : Int) := by omega
  unfold maxLen at k2
  obtain ⟨s, es⟩ : ∃ s, s = hrun l := ⟨_, rfl⟩
  rw [← es] at PL
  obtain ⟨o, lst⟩ := s
  clear hz ht eN big es
  go_enter Tryd.func4, Tryd.ntmps4
  go_wp2_with fail
  refine PL.out.mono ?_
  rintro e w1 ⟨b, cv, rfl, ps⟩
  have PS := hid ps
  have F := hid ps.1.1
  have MN := hid (fun V (X : Ext w1 V) => mean_of b o lst V (PS.out.1.ext X) (T.out.ext (PS.out.2.2.1.trans X)))
  have DS := hid (fun V (X : Ext w1 V) => disc_of b o lst V (PS.out.1.ext X) (T.out.ext (PS.out.2.2.1.trans X)))
  obtain ⟨ao2, c2, ev, d1, d2⟩ := ps.2.1.slice
  simp only at ev d1
  unfold maxLen at d2
  clear PL ps
  by_cases hl : lst = []
  · subst hl
    have RT := hid (fun V (X : Ext w1 V) => rate_of b o [] V (PS.out.1.ext X) (T.out.ext (PS.out.2.2.1.trans X)))
    have e0 : hrate o [] = 0 := rfl
    have e1 : hmean o [] = 18446744073709551615 := rfl
    have e2 : hdisc o [] = 18446744073709551615 := rfl
    rw [e0] at RT
    rw [e1] at MN
    rw [e2] at DS
    simp only [List.length_nil] at ev d1
    subst ev
    clear e0 e1 e2
    go_wp2_with fail
    refine (MN.out _ (Ext.refl _)).mono ?_
    rintro e w2 ⟨rfl, x2⟩
    have X2 := hid x2
    clear MN x2
    go_wp2_with fail
    refine (DS.out _ X2.out).mono ?_
    rintro e w3 ⟨rfl, x3⟩
    have X3 := hid (X2.out.trans x3)
    clear DS x3
    go_wp2_with fail
    refine (RT.out _ X3.out).mono ?_
    rintro e w4 ⟨rfl, x4⟩
    have X4 := hid (PS.out.2.2.1.trans (X3.out.trans x4))
    clear RT x4
    go_wp2_with fail
    refine (AW.out _ (X4.out)).mono ?_
    rintro e wz ⟨rfl, xz⟩
    have XZ := hid ((X4.out).trans xz)
    clear xz
    go_wp2_with fail
    go_ret
    exact ⟨rfl, XZ.out⟩
  have S1 := hid (fun V (X : Ext w1 V) => sum_plain cv lst V (PS.out.2.1.ext X) F.out.2.1 F.out.2.2)
  have FR := hid (fun V (X : Ext w1 V) => front_any o cv lst V (PS.out.2.1.ext X) (by have := F.out.2.1; simp only at this; omega))
  have S2 : Hid (∀ (K : Nat → Prop) v V, ListK K V v ((o :: lst).take 8) → Calls Tryd.prog 15 #[v, .bool false] V fun e w' => e = .returned (.tuple #[.int .i64 (wsum 1 lst + o * 5), .int .i64 (wall 1 lst + 5)]) ∧ Ext V w') := fun K v V h => sum_all v o lst V h F.out
  have S3 : Hid (∀ (K : Nat → Prop) v V, ListK K V v ((o :: lst).take 8) → Calls Tryd.prog 15 #[v, .bool true] V fun e w' => e = .returned (.tuple #[.int .i64 (wsum 1 lst + o * 10), .int .i64 (wall 1 lst + 10)]) ∧ Ext V w') := fun K v V h => sum_half v o lst V h F.out
  have R1 := hid (fun V => ratio_first F.out hl V)
  have R2 := hid (fun V => ratio_second F.out V)
  have R3 := hid (fun V => ratio_third F.out V)
  obtain ⟨a0, a1⟩ := first_room F.out hl
  obtain ⟨p0, p1⟩ := second_room 1 F.out (by omega) (by omega)
  obtain ⟨q0, q1⟩ := second_room 2 F.out (by omega) (by omega)
  have LG := long_iff F.out hl
  obtain ⟨o0, o1⟩ := F.out.1
  have hL : (lst.length : Int) ≠ 0 := by
    intro e
    exact hl (List.eq_nil_of_length_eq_zero (by omega))
  have l8 : lst.length ≤ 8 := F.out.2.1
  obtain ⟨m, em⟩ : ∃ m, m = hmean o lst := ⟨_, rfl⟩
  obtain ⟨d, ed⟩ : ∃ d, d = hdisc o lst := ⟨_, rfl⟩
  have em2 : m = max (hfirst lst) (hsecond 1 o lst) := by rw [em]; unfold hmean; rw [if_neg hl]
  have ed2 : d = if hlong o lst then max (hfirst lst) (hsecond 2 o lst) else m := by
    rw [ed, em2]
    unfold hdisc
    rw [if_neg hl]
  rw [← em] at MN
  rw [← ed] at DS
  simp only at MN DS S1 FR S2 S3 R1 R2 R3 a0 a1 p0 p1 q0 q1 o0 o1 l8 LG
  have FK : Hid (∀ (w5 w6 : World) (a3 : Option Addr) (c3 : Nat), NewR one 3 1 w5 w6 (.slice a3 (lst.length + 1) c3) (o :: lst) → ListK (fun q => w5.heap.size ≤ q ∧ q < w6.heap.size) w6 (.slice a3 (min (lst.length + 1) 8) c3) ((o :: lst).take 8)) := fun w5 w6 a3 c3 h => by
    have r := (NewR.list h).take (min (lst.length + 1) 8) (by rw [List.length_cons]; omega)
    have et : (o :: lst).take (min (lst.length + 1) 8) = (o :: lst).take 8 := by
      by_cases q : lst.length + 1 ≤ 8
      · rw [Nat.min_eq_left q, List.take_of_length_le (by rw [List.length_cons]; exact Nat.le_refl _), List.take_of_length_le (by rw [List.length_cons]; exact q)]
      · rw [Nat.min_eq_right (by omega)]
    rw [et] at r
    exact r
  obtain ⟨L, eL⟩ : ∃ L, L = o :: lst := ⟨_, rfl⟩
  have eLl : L.length = lst.length + 1 := by rw [eL, List.length_cons]
  rw [← eL] at FR S2 S3 FK
  obtain ⟨M, eM⟩ : ∃ M, M = lst.length := ⟨_, rfl⟩
  rw [← eM] at ev d1 hL l8 FK eLl
  have M0 : 0 < (M : Int) := by omega
  subst ev
  have dx0 : 2 * hfirst lst < o * 4294967296 → d = max (hfirst lst) (hsecond 2 o lst) := fun h => by rw [ed2, if_pos (LG.1 h)]
  have dn0 : ¬ 2 * hfirst lst < o * 4294967296 → d = m := fun h => by rw [ed2, if_neg (fun q => h (LG.2 q))]
  clear ed2 LG em ed
  generalize hfirst lst = A at *
  generalize hsecond 1 o lst = B at *
  generalize hsecond 2 o lst = C at *
  generalize wsum 0 lst = u0 at *
  generalize wall 0 lst = v0 at *
  generalize wsum 1 lst + o * 5 = u1 at *
  generalize wall 1 lst + 5 = v1 at *
  generalize wsum 1 lst + o * 10 = u2 at *
  generalize wall 1 lst + 10 = v2 at *
  have me : max A B = m := em2.symm
  have dx : Hid (2 * A < o * 4294967296 → max A C = d) := fun h => (dx0 h).symm
  have dn : Hid (¬ 2 * A < o * 4294967296 → d = m) := dn0
  have EL := hid eLl
  clear em2 hl eL eM eLl dx0 dn0
  go_wp2_with fail
  refine (S1.out _ (Ext.refl _)).mono ?_
  rintro e w2 ⟨rfl, x2⟩
  have X2 := hid x2
  clear S1 x2
  go_wp2_with fail
  refine (R1.out _).mono ?_
  rintro e w3 ⟨rfl, rfl⟩
  clear R1
  go_wp2_with fail
  refine (FR.out _ X2.out).mono ?_
  rintro e w4 ⟨fv, rfl, hn⟩
  obtain ⟨a3, c3, ev3, f1, f2⟩ := hn.slice
  rw [EL.out] at ev3 f1
  subst ev3
  have FL := hid (FK.out _ _ _ _ hn)
  have X4 := hid (X2.out.trans hn.2.2)
  unfold maxLen at f2
  obtain ⟨K8, eK⟩ : ∃ K8, K8 = min (M + 1) 8 := ⟨_, rfl⟩
  rw [← eK] at FL
  have mi : min ((M : Int) + 1) 8 = (K8 : Int) := by omega
  have mk : K8 ≤ c3 := by omega
  have mki : (K8 : Int) ≤ (c3 : Int) := by omega
  have mi9 : (M : Int) + 1 ≤ 9 := by omega
  clear FR hn FK eK
  go_wp2_with fail
  refine (S2.out _ _ _ FL.out).mono ?_
  rintro e w5 ⟨rfl, x5⟩
  have X5 := hid (X4.out.trans x5)
  have FL5 := hid (FL.out.ext x5)
  clear S2 x5 FL
  go_wp2_with fail
  refine (R2.out _).mono ?_
  rintro e w6 ⟨rfl, rfl⟩
  clear R2
  go_wp2_with fail
  refine (MN.out _ X5.out).mono ?_
  rintro e w7 ⟨rfl, x7⟩
  have X7 := hid (X5.out.trans x7)
  have FL7 := hid (FL5.out.ext x7)
  clear MN x7 FL5
  by_cases lg : 2 * A < o * 4294967296
  · have ce := dx.out (by omega)
    clear dx dn
    go_wp2_with fail
    refine (S3.out _ _ _ FL7.out).mono ?_
    rintro e w8 ⟨rfl, x8⟩
    have X8 := hid (X7.out.trans x8)
    clear S3 x8 FL7
    go_wp2_with fail
    refine (R3.out _).mono ?_
    rintro e w9 ⟨rfl, rfl⟩
    clear R3
    go_wp2_with fail
    refine (DS.out _ X8.out).mono ?_
    rintro e wa ⟨rfl, xa⟩
    have XA := hid (PS.out.2.2.1.trans (X8.out.trans xa))
    clear DS xa
    go_wp2_with fail
    refine (AW.out _ (XA.out)).mono ?_
    rintro e wz ⟨rfl, xz⟩
    have XZ := hid ((XA.out).trans xz)
    clear xz
    go_wp2_with fail
    go_ret
    exact ⟨rfl, XZ.out⟩
  · have ed := dn.out (by omega)
    rw [ed] at DS
    clear dx dn ed S3 R3 FL7
    go_wp2_with fail
    refine (DS.out _ X7.out).mono ?_
    rintro e wa ⟨rfl, xa⟩
    have XA := hid (PS.out.2.2.1.trans (X7.out.trans xa))
    clear DS xa
    go_wp2_with fail
    refine (AW.out _ (XA.out)).mono ?_
    rintro e wz ⟨rfl, xz⟩
    have XZ := hid ((XA.out).trans xz)
    clear xz
    go_wp2_with fail
    go_ret
    exact ⟨rfl, XZ.out⟩
end Go.Proofs.YtmkcgkmaabcjoaaDoor.historyMeans

/-
  The walk of the statements' take: pipe and list turn together.
-/
import Derived.Test.YtlpdffjbdekjeaaPipBox
namespace Go.Proofs.Ytlpdffjbdekjeaa
set_option linter.unusedVariables false
set_option maxRecDepth 100000
open Go.RowKit Go.Lib Go.Shelf
attribute [local go_sem] Oper.semAt_some

/-- what a round of take leaves in memory -/
theorem take_round {K K6 K' : Nat → Prop} {w : World} {h0 b : Nat} {x y : Ms} {kind at_ N : Int} {tv xv nv : Value} {pre : Ms} {m : Int × List UInt8} {s : Sl} {i : Nat} {W W0 V V2 : World}
    (hK : ∀ i, K i → K6 i) (h6 : ∀ j, j < 7 → K6 (h0 + j)) (nK : ∀ j, j < 7 → ¬ K (h0 + j)) (hK' : ∀ i, K6 i → K' i) (hlt : h0 + 7 ≤ W.heap.size)
    (rw9 : Rows9 h0 W (boxT xv kind at_ N tv (.slice none 0 0) (.bool false) (pre.length : Int))) (kw : Kept K w W) (eo : ord x = pre ++ ord y) (hd : ∀ p ∈ pre, p.1 ≤ at_) (hm : m.1 ≤ at_)
    (hF : IsF y i) (em : y.getD i (0, []) = m) (hns : ∀ g, (sval s).ownBlock = some g → ¬ K' g)
    (X0 : Ext W W0) (z0 : W0.heap.size = W.heap.size) (wet : Wet s m.2.length W0 V) (nr : NewR V V2 nv (y.eraseIdx i)) :
    (let W2 := (V2.setCell ⟨h0, 0, none⟩ nv).setCell ⟨h0 + 1 + 1 + 1 + 1, 0, none⟩ (.int .i64 ((pre.length : Int) + 1))
     let W4 := (W2.setCell ⟨h0 + 1 + 1, 0, none⟩ nv).setCell ⟨h0 + 1 + 1 + 1, 0, none⟩ (.bool true)
     let K2 : Nat → Prop := fun i => K' i ∨ (V.heap.size ≤ i ∧ i < V2.heap.size)
     (KeepsOthers W W2 ∧ Grown K' s b W K2 W2 ∧ ((N ≤ 0 ∨ (pre.length : Int) + 1 < N) → GoesT K w h0 x kind at_ N tv K2 (pre ++ [m]) W2) ∧ ∀ j u, (j = 5 ∨ j = 6) → W.cell? ⟨h0 + j, 0, none⟩ = some u → W2.cell? ⟨h0 + j, 0, none⟩ = some u) ∧
     (KeepsOthers W W4 ∧ Grown K' s b W K2 W4 ∧ (0 < N → LeftT K w h0 x at_ N .ret K2 (pre ++ [m]) W4)) ∧
     Rows9 h0 V2 (boxT xv kind at_ N tv (.slice none 0 0) (.bool false) (pre.length : Int))) := by
  intro W2 W4 K2
  have k6 : ∀ j, j < 7 → K' (h0 + j) := fun j hj => hK' _ (h6 j hj)
  have ns : ∀ i, K' i → (sval s).ownBlock ≠ some i := fun i hi e => hns i e hi
  have kV : Kept K' W V := (Kept.of_ext X0).trans (wet.1.mono ns)
  have kV2 : Kept K' W V2 := kV.trans (Kept.of_ext nr.2.2)
  have R2 : Rows9 h0 V2 (boxT xv kind at_ N tv (.slice none 0 0) (.bool false) (pre.length : Int)) := rw9.kept kV2 (fun j hj => k6 j (by simp [boxT] at hj; omega))
  have Ra := bT_x R2 nv
  have Rb := bT_k Ra ((pre.length : Int) + 1)
  have Rc := bT_z Rb nv
  have Rd := bT_b Rc (.bool true)
  have k2 : Kept (fun i => K' i ∧ i ≠ h0 ∧ i ≠ h0 + 4) W W2 := ((kV2.mono (fun i hi => hi.1)).setCell (p := ⟨h0, 0, none⟩) (fun h => h.2.1 rfl) _).setCell (p := ⟨h0 + 1 + 1 + 1 + 1, 0, none⟩) (fun h => h.2.2 rfl) _
  have k4 : Kept (fun i => K' i ∧ i ≠ h0 ∧ i ≠ h0 + 4 ∧ i ≠ h0 + 2 ∧ i ≠ h0 + 3) W W4 := ((k2.mono (fun i hi => ⟨hi.1, hi.2.1, hi.2.2.1⟩)).setCell (p := ⟨h0 + 1 + 1, 0, none⟩) (fun h => h.2.2.2.1 rfl) _).setCell (p := ⟨h0 + 1 + 1 + 1, 0, none⟩) (fun h => h.2.2.2.2 rfl) _
  have ko : KeepsOthers W V2 := by
    refine ⟨kV2.size, fun i o h1 h2 => ?_⟩
    have a1 := X0.row h1
    have a2 := wet.2.1.same i o a1 h2
    exact nr.2.2.row a2
  have ko2 : KeepsOthers W W2 := (ko.trans (KeepsOthers.setCell _ _ _)).trans (KeepsOthers.setCell _ _ _)
  have ko4 : KeepsOthers W W4 := (ko2.trans (KeepsOthers.setCell _ _ _)).trans (KeepsOthers.setCell _ _ _)
  have zV : V.heap.size = W.heap.size := wet.2.2.1.trans z0
  have gr : ∀ K'', (∀ i, Ks K' s i → K'' i) → ∀ room v ml, PipU K'' W b room v ml → PipU (fun i => K'' i ∨ K2 i) V2 b room v ml := fun K'' hK'' room v ml u => by
    have u1 := wet.2.2.2.1 K'' b room v ml (fun i hi => hK'' i (.inr hi)) (u.ext X0)
    refine (u1.more nr.2.2).less (fun i hi => ?_)
    rcases hi with h | h | h
    · exact .inl h
    · exact .inl (hK'' i (.inl h))
    · exact .inr h
  have g2 : Grown K' s b W K2 W2 := ⟨fun i h => .inl h, fun i h => h.imp id (fun q => by have := q.1; omega), fun K'' hK'' room v ml u => ((gr K'' hK'' room v ml u).cell (.inl (hK'' _ (.inl (k6 0 (by decide))))) 0 _).cell (.inl (hK'' _ (.inl (k6 4 (by decide))))) 0 _⟩
  have g4 : Grown K' s b W K2 W4 := ⟨g2.1, g2.2.1, fun K'' hK'' room v ml u => ((g2.2.2 K'' hK'' room v ml u).cell (.inl (hK'' _ (.inl (k6 2 (by decide))))) 0 _).cell (.inl (hK'' _ (.inl (k6 3 (by decide))))) 0 _⟩
  have eo2 : ord x = (pre ++ [m]) ++ ord (y.eraseIdx i) := by
    rw [eo, ord_first y i hF, em, List.append_assoc]; rfl
  have hd2 : ∀ p ∈ pre ++ [m], p.1 ≤ at_ := fun p hp => by
    rcases List.mem_append.1 hp with h | h
    · exact hd p h
    · simp only [List.mem_singleton] at h; rw [h]; exact hm
  have rk : RowK (Off h0 7 K2) V2 nv 2 (rcells (y.eraseIdx i)) := nr.row.mono (by decide) (fun i _ hi => ⟨.inr hi, by have := hi.1; right; omega⟩)
  have off : ∀ j, j < 7 → ¬ Off h0 7 K2 (h0 + j) := fun j hj h => by have := h.2; omega
  have rk2 : RowK (Off h0 7 K2) W2 nv 2 (rcells (y.eraseIdx i)) := rk.kept (((Kept.refl _ V2).setCell (p := ⟨h0, 0, none⟩) (off 0 (by decide)) _).setCell (p := ⟨h0 + 1 + 1 + 1 + 1, 0, none⟩) (off 4 (by decide)) _)
  have rk4 : RowK (Off h0 7 K2) W4 nv 2 (rcells (y.eraseIdx i)) := rk2.kept (((Kept.refl _ W2).setCell (p := ⟨h0 + 1 + 1, 0, none⟩) (off 2 (by decide)) _).setCell (p := ⟨h0 + 1 + 1 + 1, 0, none⟩) (off 3 (by decide)) _)
  have nb : ∀ (j : Nat), j < 7 → ∀ i, K i → i ≠ h0 + j := fun j hj i hi e => nK j hj (e ▸ hi)
  have el : ((pre ++ [m]).length : Int) = (pre.length : Int) + 1 := by simp
  refine ⟨⟨ko2, g2, fun hN => ⟨nv, _, by rw [el]; exact Rb, rk2, eo2, hd2, kw.trans (k2.mono (fun i hi => ⟨hK' _ (hK i hi), nb 0 (by decide) i hi, nb 4 (by decide) i hi⟩)), by rw [el]; exact hN⟩, fun j u hj hc => k2.cell (a := ⟨h0 + j, 0, none⟩) ⟨k6 j (by omega), by show h0 + j ≠ h0; omega, by show h0 + j ≠ h0 + 4; omega⟩ hc⟩, ⟨ko4, g4, fun hN => ⟨rfl, hN, nv, _, rk4, eo2, hd2, kw.trans (k4.mono (fun i hi => ⟨hK' _ (hK i hi), nb 0 (by decide) i hi, nb 4 (by decide) i hi, nb 2 (by decide) i hi, nb 3 (by decide) i hi⟩)), Rd 2 _ rfl, Rd 3 _ rfl⟩⟩, R2⟩

set_option maxHeartbeats 2000000 in
theorem lawTake_any (K : Nat → Prop) (b : Nat) (room kind at_ N : Int) (x : Ms) (xv tv : Value) (w : World) (hw : PipK K w b room (ord x)) (hx : RowK K w xv 2 (rcells x)) (ht : ∃ ta tn tc, tv = .slice ta tn tc) :
    Calls Try.prog 13 #[.pointer (some ⟨b, 0, none⟩), xv, .agg #[.int .i64 kind, .int .i64 at_, .int .i64 N, tv]] w fun e w' =>
      ∃ xv' x' K', e = .returned (.tuple #[xv', .bool true]) ∧ (∀ i, K i → K' i) ∧ PipK K' w' b room (ord x') ∧ RowK K' w' xv' 2 (rcells x') ∧ Kept K w w' ∧ (∃ pre, ord x = pre ++ ord x' ∧ ∀ p ∈ pre, p.1 ≤ at_) ∧ (N ≤ 0 → du x' at_ = 0) := by
  obtain ⟨ao, cm, em, m1, m2, _⟩ := hx.view
  obtain ⟨ta, tn, tc, et⟩ := ht
  subst em et
  have lx : x.length ≤ 256 := by
    have h1 := hw.1
    rw [ord_length] at h1
    omega
  have HM := hid hx
  have HW := hid hw
  unfold maxLen at m2
  have KL : Hid (∀ i, K i → i < w.heap.size) := hw.there
  clear hx hw
  refine (callsIn_wide (n := 4)).1 (callsIn_of_wp_marks Try.func13 rfl trivial ?_ rfl)
  refine wpIn_wide.2 ?_
  simp only [Try.ntmps13, List.size_toArray, List.length_cons, List.length_nil, Nat.reduceAdd, Nat.reduceSub, Array.replicate_succ, Array.replicate_zero, List.push_toArray, List.append_toArray, List.nil_append, List.cons_append]
  obtain ⟨W5, e5⟩ : ∃ W5, W5 = ((((w.alloc (.cells #[.slice ao x.length cm] 29)).alloc (.cells #[.int .i64 kind, .int .i64 at_, .int .i64 N, .slice ta tn tc] 32)).alloc (.cells #[.slice none 0 0] 29)).alloc (.cells #[.bool false] 4)).alloc (.cells #[.int .i64 0] 3) := ⟨_, rfl⟩
  have X5 : Ext w W5 := by rw [e5]; exact (((((Ext.refl w).alloc _).alloc _).alloc _).alloc _).alloc _
  have z5 : W5.heap.size = w.heap.size + 5 := by rw [e5]; simp
  have B5 : Rows9 w.heap.size W5 (boxT (.slice ao x.length cm) kind at_ N (.slice ta tn tc) (.slice none 0 0) (.bool false) 0) := by
    intro j r hj
    rw [e5]
    refine alloc5 w _ _ _ _ _ j _ ?_
    match j, hj with
    | 0, hj => cases hj; rfl
    | 1, hj => cases hj; rfl
    | 2, hj => cases hj; rfl
    | 3, hj => cases hj; rfl
    | 4, hj => cases hj; rfl
    | j + 5, hj => simp [boxT] at hj
  have TA := take_any b at_ W5
  obtain ⟨K6, e6⟩ : ∃ K6 : Nat → Prop, K6 = fun i => K i ∨ (w.heap.size ≤ i ∧ i < w.heap.size + 7) := ⟨_, rfl⟩
  have hK6 : ∀ i, K i → K6 i := fun i hi => by rw [e6]; exact .inl hi
  have h6 : ∀ j, j < 7 → K6 (w.heap.size + j) := fun j hj => by rw [e6]; exact .inr ⟨by omega, by omega⟩
  have K6L : Hid (∀ i, K6 i → i < w.heap.size + 7) := fun i hi => by
    rw [e6] at hi
    rcases hi with h | h
    · have := KL.out i h; omega
    · exact h.2
  have KB : Hid (∀ W, Ext W5 W → W.heap.size = w.heap.size + 7 → GoesT K w w.heap.size x kind at_ N (.slice ta tn tc) K6 [] W ∧ PipK K6 W b room (ord x)) := fun W hX hz => by
    refine ⟨⟨_, x, fun j r hj => hX.row (B5 j r hj), ?_, rfl, fun p hp => by simp at hp, Kept.of_ext (X5.trans hX), by simp; omega⟩, ?_⟩
    · have := (HM.out.kept (Kept.of_ext (X5.trans hX))).mono (L := Off w.heap.size 7 K6) (by decide) (fun i _ hi => ⟨hK6 i hi, .inl (KL.out i hi)⟩)
      exact this
    · have := HW.out.more (X5.trans hX)
      rw [hz] at this
      rw [e6]
      exact this
  have E5 := hid e5
  have Z5 := hid z5
  have TA2 := hid TA
  have LX := hid lx
  have c0 : W5.cell? ⟨w.heap.size + 1, 1, none⟩ = some (.int .i64 at_) := (bT_cells B5).2.1
  rw [e5] at c0
  clear e5 X5 z5 B5 TA e6 HM HW lx
  go_wp2_with fail
  rw [← E5.out]
  refine TA2.out.mono ?_
  rintro e w6 ⟨rfl, cb1, cb2, z6, x6⟩
  rw [Z5.out] at cb1 cb2 z6
  rw [Z5.out]
  obtain ⟨g0, wk6⟩ := KB.out w6 x6 (by omega)
  have G0 := hid g0
  have WK6 := hid wk6
  have CB1 := hid cb1
  have CB2 := hid cb2
  have Z6 := hid z6
  clear KB TA2 g0 wk6 cb1 cb2 c0 z6 x6
  go_wp2_with fail
  refine rangeP 17 (B1 := w.heap.size + 5) (B2 := w.heap.size + 5 + 1) (b := b) (K := K6) (room := room) (now := at_) (l := ord x) rfl CB1.out CB2.out (h6 5 (by decide)) (h6 6 (by decide)) WK6.out (GoesT K w w.heap.size x kind at_ N (.slice ta tn tc)) (LeftT K w w.heap.size x at_ N) (goesT_kept hK6 (fun j hj => h6 j (by omega))) (leftT_kept hK6 (fun j hj => h6 j (by omega))) G0.out
    (fun tm s => (tm.setIfInBounds 17 (sval s)).setIfInBounds 9 (sval s)) ?assign ?body ?done ?stop
  case assign =>
    intro L s W Kc hK
    obtain ⟨s1, s2, s3⟩ := s
    simp only [sval, List.setIfInBounds_toArray, List.set_cons_zero, List.set_cons_succ] at hK ⊢
    gi_wp2
    exact hK
  case body =>
    rintro L K' pre m s W hKK ⟨xv, y, rw9, rk, eo, hdp, kw, hN⟩ hb1 hb2 hp hm ho hlen hns
    obtain ⟨r0, er0⟩ := hp
    have eo2 : ord y = m :: r0 := by
      rw [eo, List.append_assoc] at er0
      exact (List.append_cancel_left er0).symm
    have ly : y.length + pre.length ≤ 256 := by
      have h1 := congrArg List.length eo
      rw [List.length_append, ord_length, ord_length] at h1
      have := LX.out
      omega
    have FST : Hid (Calls Try.prog 21 #[xv] W fun e w' => ∃ i : Nat, e = .returned (.int .i64 (i : Int)) ∧ (IsF y i ∧ y.getD i (0, []) = m) ∧ ∃ k, w' = W.drewN k) := by
      refine (first_any _ xv y W rk (by omega)).mono ?_
      rintro e w' ⟨a, rfl, (⟨q1, q2⟩ | ⟨i, rfl, hF⟩), h3⟩
      · rw [q1, ord_nil] at eo2
        simp at eo2
      · refine ⟨i, rfl, ⟨hF, ?_⟩, h3⟩
        have := ord_first y i hF
        rw [eo2] at this
        simp only [List.cons.injEq] at this
        exact this.1.symm
    obtain ⟨xa, xc, ex, q1, q2, qv⟩ := rk.view
    have QV := hid qv
    have RK := hid rk
    have RW9 := hid rw9
    have HO := hid ho
    have HNS := hid hns
    have ROUND := hid (fun (i : Nat) (W0 V V2 : World) (nv : Value) (a1 : IsF y i) (a2 : y.getD i (0, []) = m) (a3 : Ext W W0) (a4 : W0.heap.size = W.heap.size) (a5 : Wet s m.2.length W0 V) (a6 : NewR V V2 nv (y.eraseIdx i)) => take_round (b := b) (kind := kind) (N := N) (tv := .slice ta tn tc) hK6 h6 (fun j hj h => by have := KL.out _ h; omega) hKK (by have h1 := hb2; have := block_lt_of_cell h1; simp only at this; omega) rw9 kw eo hdp hm a1 a2 hns a3 a4 a5 a6)
    have HB1 := hid hb1
    have HB2 := hid hb2
    have LY := hid ly
    have HN := hid hN
    have KIN : Hid (∀ j, j < 7 → K' (w.heap.size + j)) := fun j hj => hKK _ (h6 j hj)
    have HMA : decide (at_ < m.1) = false := by simp; omega
    have EOO : Hid (∀ K2 W2, GoesT K w w.heap.size x kind at_ N (.slice ta tn tc) K2 (pre ++ [m]) W2 → True) := fun _ _ _ => trivial
    obtain ⟨p1, p2, p3, p4, p5, p6⟩ := bT_cells rw9
    subst ex
    obtain ⟨sa, sn, sc⟩ := s
    obtain ⟨md, mt⟩ := m
    have sn' : sn = mt.length := (wet_start ho).2.2.2.2.1
    have SN := hid sn'
    unfold maxLen at q2
    clear rk rw9 kw eo hdp hm ho hns er0 eo2 qv hb1 hb2 hN ly EOO sn' G0 WK6 CB1 CB2 p3 p4 p5 p6
    obtain ⟨Y, eY⟩ : ∃ Y, Y = y.length := ⟨_, rfl⟩
    rw [← eY] at q1 QV p1 LY FST
    rw [← eY] at RK RW9 ROUND
    have EY := hid eY
    clear eY
    simp only [sval, List.setIfInBounds_toArray, List.set_cons_zero, List.set_cons_succ]
    gi_wp2_with fail
    refine ⟨trivial, (CallsIn.inRound L (callsIn_wide.2 FST.out)).mono ?_⟩
    rintro e w1 ⟨i, rfl, hi, k1, ew1⟩
    have X01 : Ext W w1 := by rw [ew1]; exact (Ext.refl W).drewN k1
    have Z01 : Hid (w1.heap.size = W.heap.size) := by rw [ew1]; rfl
    clear ew1
    replace p1 := X01.cell p1
    replace p2 := X01.cell p2
    have HI := hid hi
    have iY : i < Y := by
      have h1 := hi.1.1
      have h2 := EY.out
      omega
    obtain ⟨g, o, eg, x1, x2⟩ := QV.out i iY
    rw [hi.2] at x1 x2
    replace x1 := X01.cell x1
    replace x2 := X01.cell x2
    subst eg
    have CV : ∀ n, (convert 30 9 (.slice sa sn sc)).run Try.prog (w1.drewN n) = .ok (.string (str mt)) (w1.drewN n) := fun n => Bytes.str (HO.out.ext (X01.drewN n)).bytes
    have XX01 := hid X01
    have i1 : (i : Int) < (Y : Int) := by omega
    have i2 : (0 : Int) ≤ (i : Int) := by omega
    have i3 : decide ((i : Int) < 0) = false := by simp
    have i4 : ((str mt).toList == (str mt).toList) = true := by simp
    clear FST hi QV X01
    gi_wp2_with fail
    refine wpIn_round_quiet (by kernel_rfl) (by kernel_rfl) (by kernel_rfl) ?_
    repeat (go_big_quiet_step (fail))
    refine wpQuiet_nil ?_
    rintro _ ⟨nq, rfl⟩
    have X0 : Hid (Ext W (w1.drewN nq) ∧ (w1.drewN nq).heap.size = W.heap.size) := ⟨XX01.out.drewN nq, Z01.out⟩
    have W00 : Hid (Wet (sa, sn, sc) mt.length (w1.drewN nq) (w1.drewN nq)) := wet_start (HO.out.ext X0.out.1)
    clear CV x1 x2 p2 i3 i4 HMA XX01 Z01 p1
    generalize w1.drewN nq = W0 at *
    have W01 : Hid (Wet (sa, sn, sc) sn W0 W0) := by
      have h1 := W00.out
      have h2 := SN.out
      rw [← h2] at h1
      exact h1
    have sb : sn ≤ 320 := by
      have h2 := SN.out
      omega
    clear W00 hlen
    gi_wp2_with fail
    gi_loopw [11, 45] (fun _ iv wr => ∃ j : Nat, j ≤ sn ∧ iv = .int .i64 (j : Int) ∧ Hid (Wet (sa, sn, sc) sn W0 wr)) (fun _ iv _ => (sn - intOf iv).toNat)
    case atStart => exact ⟨0, by omega, rfl, W01⟩
    case round =>
      obtain ⟨j, hj, rfl, WET⟩ := hrel
      clear W01
      by_cases h : j < sn
      · obtain ⟨g', xx, es, d1, d2⟩ := WET.out.2.2.2.2.2 j h
        simp only at es
        subst es
        have j1 : (j : Int) < (sn : Int) := by omega
        have j2 : (0 : Int) ≤ (j : Int) := by omega
        have ST := hid (fun z => wet_step WET.out h rfl z)
        clear WET
        gi_wp2_with fail
        go_roundw
        case rel => exact ⟨j + 1, by omega, by go_num, ST.out _⟩
        case measure => simp [intOf]; omega
      · obtain rfl : j = sn := by omega
        have ns : ∀ i, K' i → (sval (sa, j, sc)).ownBlock ≠ some i := fun i hi e => HNS.out i e hi
        have kV : Kept K' W wr := (Kept.of_ext X0.out.1).trans (WET.out.1.mono ns)
        have RV : Rows9 w.heap.size wr _ := RW9.out.kept kV (fun j hj => KIN.out j (by simp [boxT] at hj; omega))
        have WO := hid (without_any _ _ y i wr (RK.out.kept (kV.mono (fun i hi => hi.1))) (by have := EY.out; have := LY.out; omega))
        have RD : Hid (∀ V2 nv, NewR wr V2 nv (y.eraseIdx i) → _) := fun V2 nv nr => ROUND.out i W0 wr V2 nv HI.out.1 HI.out.2 X0.out.1 X0.out.2 (by have h2 := SN.out; rw [← h2]; exact WET.out) nr
        obtain ⟨p1, p2, p3, p4, p5, p6⟩ := bT_cells RV
        clear WET RV kV ns ROUND RK RW9 X0 HI HO
        gi_wp2_with fail
        refine ⟨trivial, (CallsIn.inRound L (callsIn_wide.2 WO.out)).mono ?_⟩
        rintro e V2 ⟨nv, rfl, nr⟩
        obtain ⟨⟨a1, a2, a3, a4⟩, ⟨a5, a6, a7⟩, R2⟩ := RD.out V2 nv nr
        obtain ⟨va, vn, vc, ev⟩ := owns_slice nr.1
        subst ev
        have Ra := bT_x R2 (.slice va vn vc)
        have Rb := bT_k Ra ((pre.length : Int) + 1)
        have Rc := bT_z Rb (.slice va vn vc)
        have HGO : Hid (_ ∧ _) := ⟨a1, a2⟩
        have GO2 : Hid _ := a3
        have CC1 := a4 5 _ (.inl rfl) HB1.out
        have CC2 := a4 6 _ (.inr rfl) HB2.out
        have HLE : Hid (_ ∧ _) := ⟨a5, a6⟩
        have LE2 : Hid _ := a7
        have CD1 := hid CC1
        have CD2 := hid CC2
        obtain ⟨p1, p2, p3, p4, p5, p6⟩ := bT_cells R2
        obtain ⟨f1, f2, f3, f4⟩ := bT_free R2
        obtain ⟨pa1, pa2, pa3, pa4, pa5, pa6⟩ := bT_cells Ra
        obtain ⟨fa1, fa2, fa3, fa4⟩ := bT_free Ra
        obtain ⟨pb1, pb2, pb3, pb4, pb5, pb6⟩ := bT_cells Rb
        obtain ⟨fb1, fb2, fb3, fb4⟩ := bT_free Rb
        obtain ⟨pc1, pc2, pc3, pc4, pc5, pc6⟩ := bT_cells Rc
        obtain ⟨fc1, fc2, fc3, fc4⟩ := bT_free Rc
        have pl : pre.length ≤ 256 := by have := LY.out; omega
        clear a1 a2 a3 a4 a5 a6 a7 CC1 CC2 Ra Rb Rc R2 nr RD WO
        by_cases hq : (pre.length : Int) + 1 = N
        · have hq' : ((pre.length : Int) + 1 == N) = true := by simpa using hq
          have FIN := hid (LE2.out (by omega))
          clear hq GO2
          gi_wp2_with fail
          exact ⟨HLE.out.1, _, HLE.out.2, FIN.out⟩
        · have hq' : ((pre.length : Int) + 1 == N) = false := by simpa using hq
          have FIN := hid (GO2.out (by have := HN.out; omega))
          clear hq LE2
          gi_wp2_with fail
          exact ⟨HGO.out.1, _, HGO.out.2, FIN.out, CD1.out, CD2.out⟩
  case done =>
    rintro D K' pre rest W hD hKK nD el hdue ⟨xv, y, rw9, rk, eo, hdp, kw, hN⟩ hwk hdf
    have er : rest = ord y := List.append_cancel_left (el.symm.trans eo)
    rw [er] at hwk hdue
    rw [du_ord] at hdue
    have ly : y.length ≤ 256 := by
      have h1 := congrArg List.length eo
      rw [List.length_append, ord_length, ord_length] at h1
      have := LX.out
      omega
    have nK : ∀ j, ¬ K (w.heap.size + j) := fun j h => by have := KL.out _ h; omega
    have dD : D ≠ w.heap.size + 2 ∧ D ≠ w.heap.size + 3 := by have := Z6.out; omega
    have NK : Hid (¬ K' D) := nD
    have ne0 : w.heap.size ≠ w.heap.size + 2 ∧ w.heap.size ≠ w.heap.size + 3 := by omega
    have ne1 : w.heap.size + 1 ≠ w.heap.size + 2 ∧ w.heap.size + 1 ≠ w.heap.size + 3 := by omega
    have FST := hid (first_any _ xv y W rk (by omega))
    obtain ⟨p1, p2, _, _, _, _⟩ := bT_cells rw9
    obtain ⟨xa, xc, ex, q1, q2, qv⟩ := rk.view
    subst ex
    have QV := hid qv
    have DU := hid hdue
    have FW : Hid (PipK K' W b room (ord y) ∧ RowK (Off w.heap.size 7 K') W (.slice xa y.length xc) 2 (rcells y) ∧ Kept K w W ∧ ord x = pre ++ ord y ∧ ∀ p ∈ pre, p.1 ≤ at_) := ⟨hwk, rk, kw, eo, hdp⟩
    have RW9 := hid rw9
    have HDF0 := hid hdf
    have ON := hid (rk)
    unfold maxLen at q2
    clear rw9 rk kw eo hdp hN hwk hdf er el hdue nD G0 WK6 CB1 CB2 qv
    obtain ⟨Y, eY⟩ : ∃ Y, Y = y.length := ⟨_, rfl⟩
    rw [← eY] at q1 QV p1 FST FW RW9 ly ON
    have EY := hid eY
    clear eY
    go_wp2_with fail
    refine FST.out.mono ?_
    rintro e w1 ⟨a, rfl, ha, k1, ew1⟩
    have X1 : Ext W w1 := by rw [ew1]; exact (Ext.refl W).drewN k1
    replace p1 := X1.cell p1
    replace p2 := X1.cell p2
    have RV : Hid (Rows9 w.heap.size w1 _) := fun j r hj => X1.row (RW9.out j r hj)
    have FF : Hid (PipK K' w1 b room (ord y) ∧ RowK (Off w.heap.size 7 K') w1 (.slice xa Y xc) 2 (rcells y) ∧ Kept K w w1 ∧ ord x = pre ++ ord y ∧ ∀ p ∈ pre, p.1 ≤ at_) := ⟨FW.out.1.ext X1, FW.out.2.1.kept (Kept.of_ext X1), FW.out.2.2.1.trans (Kept.of_ext X1), FW.out.2.2.2⟩
    have HDF := hid (X1.row HDF0.out)
    have XX1 := hid X1
    clear FST ew1 RW9 FW HDF0 X1
    rcases ha with ⟨y0, rfl⟩ | ⟨i, rfl, hF⟩
    · clear QV y0 ON XX1
      have rwd : Rows9 w.heap.size w1.drew (boxT (.slice xa Y xc) kind at_ N (.slice ta tn tc) (.slice none 0 0) (.bool false) (pre.length : Int)) := RV.out
      have RC := bT_z rwd (.slice xa Y xc)
      have RE := bT_b RC (.bool true)
      obtain ⟨pe1, pe2, pe3, g0, g2, pe6⟩ := bT_cells RE
      obtain ⟨_, f2, f3, _⟩ := bT_free RV.out
      obtain ⟨_, _, _, pp4, pp5, _⟩ := bT_cells RV.out
      obtain ⟨pc1, pc2, pc3, pc4, pc5, pc6⟩ := bT_cells RC
      obtain ⟨fc1, fc2, fc3, fc4⟩ := bT_free RC
      have S0 : Kept (fun i => i ≠ w.heap.size + 2 ∧ i ≠ w.heap.size + 3) w1 w1.drew := (Kept.refl _ w1).drewN 1
      have S2 : Hid (Kept (fun i => i ≠ w.heap.size + 2 ∧ i ≠ w.heap.size + 3) w1 (w1.drew.setCell ⟨w.heap.size + 1 + 1, 0, none⟩ (.slice xa Y xc))) := S0.setCell (p := ⟨w.heap.size + 1 + 1, 0, none⟩) (fun h => h.1 rfl) (.slice xa Y xc)
      have S3 := hid (S2.out.setCell (p := ⟨w.heap.size + 1 + 1 + 1, 0, none⟩) (fun h => h.2 rfl) (.bool true))
      have HD := hid (S3.out.row dD HDF.out)
      have HF : Hid ((∀ i, K i → K' i) ∧ PipK K' ((w1.drew.setCell ⟨w.heap.size + 1 + 1, 0, none⟩ (.slice xa Y xc)).setCell ⟨w.heap.size + 1 + 1 + 1, 0, none⟩ (.bool true)) b room (ord y) ∧ RowK K' ((w1.drew.setCell ⟨w.heap.size + 1 + 1, 0, none⟩ (.slice xa Y xc)).setCell ⟨w.heap.size + 1 + 1 + 1, 0, none⟩ (.bool true)) (.slice xa Y xc) 2 (rcells y) ∧ Kept K w ((w1.drew.setCell ⟨w.heap.size + 1 + 1, 0, none⟩ (.slice xa Y xc)).setCell ⟨w.heap.size + 1 + 1 + 1, 0, none⟩ (.bool true)) ∧ (∃ pre, ord x = pre ++ ord y ∧ ∀ p ∈ pre, p.1 ≤ at_) ∧ (N ≤ 0 → du y at_ = 0)) := by
        obtain ⟨a1, a2, a3, a4, a5⟩ := FF.out
        have off : ∀ j, j < 7 → ¬ Off w.heap.size 7 K' (w.heap.size + j) := fun j hj h => by have := h.2; omega
        refine ⟨fun i h => hKK i (hK6 i h), ((a1.ext (show Ext w1 w1.drew from (Ext.refl w1).drewN 1)).cell (hKK _ (h6 2 (by decide))) 0 _).cell (hKK _ (h6 3 (by decide))) 0 _, ?_, ?_, ⟨pre, a4, a5⟩, fun _ => DU.out⟩
        · have := (a2.kept (show Kept (Off w.heap.size 7 K') w1 w1.drew from (Kept.refl _ w1).drewN 1)).kept (((Kept.refl _ w1.drew).setCell (p := ⟨w.heap.size + 1 + 1, 0, none⟩) (off 2 (by decide)) (.slice xa Y xc)).setCell (p := ⟨w.heap.size + 1 + 1 + 1, 0, none⟩) (off 3 (by decide)) (.bool true))
          exact this.mono (by decide) (fun i _ h => h.1)
        · exact ((a3.trans ((Kept.refl K w1).drewN 1)).setCell (p := ⟨w.heap.size + 1 + 1, 0, none⟩) (nK 2) _).setCell (p := ⟨w.heap.size + 1 + 1 + 1, 0, none⟩) (nK 3) _
      clear S0 RC RE rwd RV FF HDF pe1 pe2 pe3 pe6 pc1 pc2 pc3 pc6 fc1 fc4 DU
      go_wp2_with fail
      refine wp_region_noPanic ?_
      refine wp_region_held_drew (S := fun V => Kept (fun i => i ≠ w.heap.size + 2 ∧ i ≠ w.heap.size + 3) w1 V) (by kernel_rfl) ((Kept.refl _ w1).drewN 1) (fun hHeld => ?_)
      refine takeE (v := ?_) 0 67 rfl rfl (by kernel_rfl) (by kernel_rfl) (by kernel_rfl) (fun _ _ _ h => h) (Or.inl ⟨by rfl, fun V hV => ?_⟩) hHeld ?_
      rotate_left
      · (have y1 := hV.cell (a := ⟨w.heap.size, 0, none⟩) ne0 p1; have y2 := hV.cell (a := ⟨w.heap.size + 1, 1, none⟩) ne1 p2; go_simp; try with_reducible rfl)
      simp only [Act.put, List.setIfInBounds_toArray, List.set_cons_zero, List.set_cons_succ]
      refine takeE (v := ?_) 1 68 rfl rfl (by kernel_rfl) (by kernel_rfl) (by kernel_rfl) (fun _ _ _ h => h) (Or.inl ⟨by rfl, fun V hV => ?_⟩) hHeld ?_
      rotate_left
      · (go_simp; try with_reducible rfl)
      simp only [Act.put, List.setIfInBounds_toArray, List.set_cons_zero, List.set_cons_succ]
      refine takeE (v := ?_) 2 69 rfl rfl (by kernel_rfl) (by kernel_rfl) (by kernel_rfl) (fun _ _ _ h => h) (Or.inl ⟨by rfl, fun V hV => ?_⟩) hHeld ?_
      rotate_left
      · (go_simp; try with_reducible rfl)
      simp only [Act.put, List.setIfInBounds_toArray, List.set_cons_zero, List.set_cons_succ]
      refine takeE (v := ?_) 3 70 rfl rfl (by kernel_rfl) (by kernel_rfl) (by kernel_rfl) (fun _ _ _ h => h) (Or.inl ⟨by rfl, fun V hV => ?_⟩) hHeld ?_
      rotate_left
      · (go_simp; try with_reducible rfl)
      simp only [Act.put, List.setIfInBounds_toArray, List.set_cons_zero, List.set_cons_succ]
      refine takeE (v := undef) 4 71 rfl rfl (by kernel_rfl) (by kernel_rfl) (by kernel_rfl) (fun _ _ _ h => h) (Or.inr ⟨by rfl, rfl⟩) hHeld ?_
      simp only [Act.put, List.setIfInBounds_toArray, List.set_cons_zero, List.set_cons_succ]
      refine takeE (v := undef) 5 72 rfl rfl (by kernel_rfl) (by kernel_rfl) (by kernel_rfl) (fun _ _ _ h => h) (Or.inr ⟨by rfl, rfl⟩) hHeld ?_
      simp only [Act.put, List.setIfInBounds_toArray, List.set_cons_zero, List.set_cons_succ]
      refine takeE (v := undef) 6 73 rfl rfl (by kernel_rfl) (by kernel_rfl) (by kernel_rfl) (fun _ _ _ h => h) (Or.inr ⟨by rfl, rfl⟩) hHeld ?_
      simp only [Act.put, List.setIfInBounds_toArray, List.set_cons_zero, List.set_cons_succ]
      refine takeE (v := undef) 7 74 rfl rfl (by kernel_rfl) (by kernel_rfl) (by kernel_rfl) (fun _ _ _ h => h) (Or.inr ⟨by rfl, rfl⟩) hHeld ?_
      simp only [Act.put, List.setIfInBounds_toArray, List.set_cons_zero, List.set_cons_succ]
      refine takeE (v := undef) 8 75 rfl rfl (by kernel_rfl) (by kernel_rfl) (by kernel_rfl) (fun _ _ _ h => h) (Or.inr ⟨by rfl, rfl⟩) hHeld ?_
      simp only [Act.put, List.setIfInBounds_toArray, List.set_cons_zero, List.set_cons_succ]
      refine takeE (v := undef) 9 76 rfl rfl (by kernel_rfl) (by kernel_rfl) (by kernel_rfl) (fun _ _ _ h => h) (Or.inr ⟨by rfl, rfl⟩) hHeld ?_
      simp only [Act.put, List.setIfInBounds_toArray, List.set_cons_zero, List.set_cons_succ]
      refine takeE (v := undef) 10 77 rfl rfl (by kernel_rfl) (by kernel_rfl) (by kernel_rfl) (fun _ _ _ h => h) (Or.inr ⟨by rfl, rfl⟩) hHeld ?_
      simp only [Act.put, List.setIfInBounds_toArray, List.set_cons_zero, List.set_cons_succ]
      refine takeE (v := undef) 11 78 rfl rfl (by kernel_rfl) (by kernel_rfl) (by kernel_rfl) (fun _ _ _ h => h) (Or.inr ⟨by rfl, rfl⟩) hHeld ?_
      simp only [Act.put, List.setIfInBounds_toArray, List.set_cons_zero, List.set_cons_succ]
      refine takeE (v := ?_) 12 79 rfl rfl (by kernel_rfl) (by kernel_rfl) (by kernel_rfl) (fun _ _ _ h => h) (Or.inl ⟨by rfl, fun V hV => ?_⟩) hHeld ?_
      rotate_left
      · (go_simp; try with_reducible rfl)
      simp only [Act.put, List.setIfInBounds_toArray, List.set_cons_zero, List.set_cons_succ]
      refine storeE 13 rfl (by kernel_rfl) (by rfl) (w' := w1.drew.setCell ⟨w.heap.size + 1 + 1, 0, none⟩ (.slice xa Y xc)) (by go_simp; try with_reducible rfl) S2.out ?_
      simp only [Act.put]
      refine storeE 14 rfl (by kernel_rfl) (by rfl) (w' := (w1.drew.setCell ⟨w.heap.size + 1 + 1, 0, none⟩ (.slice xa Y xc)).setCell ⟨w.heap.size + 1 + 1 + 1, 0, none⟩ (.bool true)) (by go_simp; try with_reducible rfl) S3.out ?_
      simp only [Act.put]
      refine wpAnyH_done (by kernel_rfl) ?_ _
      refine NoPanic.normal ?_
      clear hHeld pc4 pc5 fc2 fc3 S2 S3 p1 p2
      generalize (w1.drew.setCell ⟨w.heap.size + 1 + 1, 0, none⟩ (.slice xa Y xc)).setCell ⟨w.heap.size + 1 + 1 + 1, 0, none⟩ (.bool true) = V at *
      obtain ⟨MV, eMV⟩ : ∃ MV : Value, MV = (.slice xa Y xc) := ⟨_, rfl⟩
      rw [← eMV] at g0 HF
      clear eMV
      go_wp2_with fail
      have hKV : V.heap[D]? = some (.deferred (some [])) := HD.out
      have gr := grownBy_putObj' V D (.deferred none)
      have hr : ∀ r, some D = some r → ∃ o : Obj, V.heap[r]? = some o ∧ o.isCells = false := fun r e => by cases e; exact ⟨_, hKV, rfl⟩
      have kV : Kept K' V (V.putObj D (.deferred none)) := kept_put V NK.out _
      have FIN : Hid ((∀ i, K i → K' i) ∧ PipK K' (V.putObj D (.deferred none)) b room (ord y) ∧ RowK K' (V.putObj D (.deferred none)) MV 2 (rcells y) ∧ Kept K w (V.putObj D (.deferred none)) ∧ (∃ pre, ord x = pre ++ ord y ∧ ∀ p ∈ pre, p.1 ≤ at_) ∧ (N ≤ 0 → du y at_ = 0)) := by
        obtain ⟨h0, h1, h2, h3, h4⟩ := HF.out
        refine ⟨h0, ?_, h2.kept kV, h3.trans (kV.mono h0), h4⟩
        obtain ⟨r, v2, ml2, u2, em2⟩ := h1
        exact ⟨r, v2, ml2, Holds.put (K := K') (b := b) V D _ (.deferred none) hKV rfl K' room v2 ml2 (fun _ h => h) u2, em2⟩
      have hc5 := cell_kept g0 gr hr
      have hc7 := cell_kept g2 gr hr
      refine ⟨by simp, .inl ⟨_, _, rfl, run_takeDeferred hKV, ?_⟩⟩
      refine ⟨.tuple #[MV, .bool true], ?_, MV, y, K', rfl, FIN.out⟩
      simp [results, Try.f13, go_sem, hc5, hc7]
    · have iY : i < Y := by
        have h1 := hF.1
        have h2 := EY.out
        omega
      obtain ⟨g, o, eg, x1, _⟩ := QV.out i iY
      have gl := block_lt_of_cell x1
      have hlate : at_ < (y.getD i (0, [])).1 := by
        have h1 := DU.out
        unfold du at h1
        rw [List.countP_eq_zero] at h1
        have h2 := h1 (y.getD i (0, [])) (by rw [List.getD_eq_getElem?_getD, List.getElem?_eq_getElem hF.1]; exact List.getElem_mem _)
        simp only [decide_eq_true_eq] at h2
        omega
      have neg : g ≠ w.heap.size + 2 ∧ g ≠ w.heap.size + 3 := by
        obtain ⟨_, _, _, e, _, _, _, q4⟩ := ON.out
        simp only [Value.slice.injEq] at e
        obtain ⟨rfl, rfl, rfl⟩ := e
        obtain ⟨g', o', e, hk, _⟩ := q4 (by omega)
        rw [eg] at e
        simp only [Option.some.injEq, Addr.mk.injEq] at e
        have := hk.2
        omega
      subst eg
      replace x1 := XX1.out.cell x1
      have ht' : decide (at_ < (y.getD i (0, [])).1) = true := decide_eq_true hlate
      have i1 : (i : Int) < (Y : Int) := by omega
      have i2 : (0 : Int) ≤ (i : Int) := by omega
      have i3 : decide ((i : Int) < 0) = false := by simp
      clear QV ON XX1 hlate hF gl
      generalize (y.getD i (0, [])).1 = yd at *
      have rwd : Rows9 w.heap.size w1.drew (boxT (.slice (some ⟨g, o, none⟩) Y xc) kind at_ N (.slice ta tn tc) (.slice none 0 0) (.bool false) (pre.length : Int)) := RV.out
      have RC := bT_z rwd (.slice (some ⟨g, o, none⟩) Y xc)
      have RE := bT_b RC (.bool true)
      obtain ⟨pe1, pe2, pe3, g0, g2, pe6⟩ := bT_cells RE
      obtain ⟨_, f2, f3, _⟩ := bT_free RV.out
      obtain ⟨_, _, _, pp4, pp5, _⟩ := bT_cells RV.out
      obtain ⟨pc1, pc2, pc3, pc4, pc5, pc6⟩ := bT_cells RC
      obtain ⟨fc1, fc2, fc3, fc4⟩ := bT_free RC
      have S0 : Kept (fun i => i ≠ w.heap.size + 2 ∧ i ≠ w.heap.size + 3) w1 w1.drew := (Kept.refl _ w1).drewN 1
      have S2 : Hid (Kept (fun i => i ≠ w.heap.size + 2 ∧ i ≠ w.heap.size + 3) w1 (w1.drew.setCell ⟨w.heap.size + 1 + 1, 0, none⟩ (.slice (some ⟨g, o, none⟩) Y xc))) := S0.setCell (p := ⟨w.heap.size + 1 + 1, 0, none⟩) (fun h => h.1 rfl) (.slice (some ⟨g, o, none⟩) Y xc)
      have S3 := hid (S2.out.setCell (p := ⟨w.heap.size + 1 + 1 + 1, 0, none⟩) (fun h => h.2 rfl) (.bool true))
      have HD := hid (S3.out.row dD HDF.out)
      have HF : Hid ((∀ i, K i → K' i) ∧ PipK K' ((w1.drew.setCell ⟨w.heap.size + 1 + 1, 0, none⟩ (.slice (some ⟨g, o, none⟩) Y xc)).setCell ⟨w.heap.size + 1 + 1 + 1, 0, none⟩ (.bool true)) b room (ord y) ∧ RowK K' ((w1.drew.setCell ⟨w.heap.size + 1 + 1, 0, none⟩ (.slice (some ⟨g, o, none⟩) Y xc)).setCell ⟨w.heap.size + 1 + 1 + 1, 0, none⟩ (.bool true)) (.slice (some ⟨g, o, none⟩) Y xc) 2 (rcells y) ∧ Kept K w ((w1.drew.setCell ⟨w.heap.size + 1 + 1, 0, none⟩ (.slice (some ⟨g, o, none⟩) Y xc)).setCell ⟨w.heap.size + 1 + 1 + 1, 0, none⟩ (.bool true)) ∧ (∃ pre, ord x = pre ++ ord y ∧ ∀ p ∈ pre, p.1 ≤ at_) ∧ (N ≤ 0 → du y at_ = 0)) := by
        obtain ⟨a1, a2, a3, a4, a5⟩ := FF.out
        have off : ∀ j, j < 7 → ¬ Off w.heap.size 7 K' (w.heap.size + j) := fun j hj h => by have := h.2; omega
        refine ⟨fun i h => hKK i (hK6 i h), ((a1.ext (show Ext w1 w1.drew from (Ext.refl w1).drewN 1)).cell (hKK _ (h6 2 (by decide))) 0 _).cell (hKK _ (h6 3 (by decide))) 0 _, ?_, ?_, ⟨pre, a4, a5⟩, fun _ => DU.out⟩
        · have := (a2.kept (show Kept (Off w.heap.size 7 K') w1 w1.drew from (Kept.refl _ w1).drewN 1)).kept (((Kept.refl _ w1.drew).setCell (p := ⟨w.heap.size + 1 + 1, 0, none⟩) (off 2 (by decide)) (.slice (some ⟨g, o, none⟩) Y xc)).setCell (p := ⟨w.heap.size + 1 + 1 + 1, 0, none⟩) (off 3 (by decide)) (.bool true))
          exact this.mono (by decide) (fun i _ h => h.1)
        · exact ((a3.trans ((Kept.refl K w1).drewN 1)).setCell (p := ⟨w.heap.size + 1 + 1, 0, none⟩) (nK 2) _).setCell (p := ⟨w.heap.size + 1 + 1 + 1, 0, none⟩) (nK 3) _
      clear S0 RC RE rwd RV FF HDF pe1 pe2 pe3 pe6 pc1 pc2 pc3 pc6 fc1 fc4 DU
      go_wp2_with fail
      refine wp_region_noPanic ?_
      refine wp_region_held_drew (S := fun V => Kept (fun i => i ≠ w.heap.size + 2 ∧ i ≠ w.heap.size + 3) w1 V) (by kernel_rfl) ((Kept.refl _ w1).drewN 1) (fun hHeld => ?_)
      refine takeE (v := ?_) 0 67 rfl rfl (by kernel_rfl) (by kernel_rfl) (by kernel_rfl) (fun _ _ _ h => h) (Or.inl ⟨by rfl, fun V hV => ?_⟩) hHeld ?_
      rotate_left
      · (have y1 := hV.cell (a := ⟨w.heap.size, 0, none⟩) ne0 p1; have y2 := hV.cell (a := ⟨w.heap.size + 1, 1, none⟩) ne1 p2; have y3 := hV.cell (a := ⟨g, o + i * 2, none⟩) neg x1; go_simp; try with_reducible rfl)
      simp only [Act.put, List.setIfInBounds_toArray, List.set_cons_zero, List.set_cons_succ]
      refine takeE (v := ?_) 1 68 rfl rfl (by kernel_rfl) (by kernel_rfl) (by kernel_rfl) (fun _ _ _ h => h) (Or.inl ⟨by rfl, fun V hV => ?_⟩) hHeld ?_
      rotate_left
      · (go_simp; try with_reducible rfl)
      simp only [Act.put, List.setIfInBounds_toArray, List.set_cons_zero, List.set_cons_succ]
      refine takeE (v := ?_) 2 69 rfl rfl (by kernel_rfl) (by kernel_rfl) (by kernel_rfl) (fun _ _ _ h => h) (Or.inl ⟨by rfl, fun V hV => ?_⟩) hHeld ?_
      rotate_left
      · (go_simp; try with_reducible rfl)
      simp only [Act.put, List.setIfInBounds_toArray, List.set_cons_zero, List.set_cons_succ]
      refine takeE (v := ?_) 3 70 rfl rfl (by kernel_rfl) (by kernel_rfl) (by kernel_rfl) (fun _ _ _ h => h) (Or.inl ⟨by rfl, fun V hV => ?_⟩) hHeld ?_
      rotate_left
      · (go_simp; try with_reducible rfl)
      simp only [Act.put, List.setIfInBounds_toArray, List.set_cons_zero, List.set_cons_succ]
      refine takeE (v := ?_) 4 71 rfl rfl (by kernel_rfl) (by kernel_rfl) (by kernel_rfl) (fun _ _ _ h => h) (Or.inl ⟨by rfl, fun V hV => ?_⟩) hHeld ?_
      rotate_left
      · (have y1 := hV.cell (a := ⟨w.heap.size, 0, none⟩) ne0 p1; have y2 := hV.cell (a := ⟨w.heap.size + 1, 1, none⟩) ne1 p2; have y3 := hV.cell (a := ⟨g, o + i * 2, none⟩) neg x1; go_simp; try with_reducible rfl)
      simp only [Act.put, List.setIfInBounds_toArray, List.set_cons_zero, List.set_cons_succ]
      refine takeE (v := ?_) 5 72 rfl rfl (by kernel_rfl) (by kernel_rfl) (by kernel_rfl) (fun _ _ _ h => h) (Or.inl ⟨by rfl, fun V hV => ?_⟩) hHeld ?_
      rotate_left
      · (go_simp; try with_reducible rfl)
      simp only [Act.put, List.setIfInBounds_toArray, List.set_cons_zero, List.set_cons_succ]
      refine takeE (v := ?_) 6 73 rfl rfl (by kernel_rfl) (by kernel_rfl) (by kernel_rfl) (fun _ _ _ h => h) (Or.inl ⟨by rfl, fun V hV => ?_⟩) hHeld ?_
      rotate_left
      · (go_simp; try with_reducible rfl)
      simp only [Act.put, List.setIfInBounds_toArray, List.set_cons_zero, List.set_cons_succ]
      refine takeE (v := ?_) 7 74 rfl rfl (by kernel_rfl) (by kernel_rfl) (by kernel_rfl) (fun _ _ _ h => h) (Or.inl ⟨by rfl, fun V hV => ?_⟩) hHeld ?_
      rotate_left
      · (go_simp; try with_reducible rfl)
      simp only [Act.put, List.setIfInBounds_toArray, List.set_cons_zero, List.set_cons_succ]
      refine takeE (v := ?_) 8 75 rfl rfl (by kernel_rfl) (by kernel_rfl) (by kernel_rfl) (fun _ _ _ h => h) (Or.inl ⟨by rfl, fun V hV => ?_⟩) hHeld ?_
      rotate_left
      · (have y1 := hV.cell (a := ⟨w.heap.size, 0, none⟩) ne0 p1; have y2 := hV.cell (a := ⟨w.heap.size + 1, 1, none⟩) ne1 p2; have y3 := hV.cell (a := ⟨g, o + i * 2, none⟩) neg x1; go_simp; try with_reducible rfl)
      simp only [Act.put, List.setIfInBounds_toArray, List.set_cons_zero, List.set_cons_succ]
      refine takeE (v := ?_) 9 76 rfl rfl (by kernel_rfl) (by kernel_rfl) (by kernel_rfl) (fun _ _ _ h => h) (Or.inl ⟨by rfl, fun V hV => ?_⟩) hHeld ?_
      rotate_left
      · (go_simp; try with_reducible rfl)
      simp only [Act.put, List.setIfInBounds_toArray, List.set_cons_zero, List.set_cons_succ]
      refine takeE (v := ?_) 10 77 rfl rfl (by kernel_rfl) (by kernel_rfl) (by kernel_rfl) (fun _ _ _ h => h) (Or.inl ⟨by rfl, fun V hV => ?_⟩) hHeld ?_
      rotate_left
      · (have y1 := hV.cell (a := ⟨w.heap.size, 0, none⟩) ne0 p1; have y2 := hV.cell (a := ⟨w.heap.size + 1, 1, none⟩) ne1 p2; have y3 := hV.cell (a := ⟨g, o + i * 2, none⟩) neg x1; go_simp; try with_reducible rfl)
      simp only [Act.put, List.setIfInBounds_toArray, List.set_cons_zero, List.set_cons_succ]
      refine takeE (v := ?_) 11 78 rfl rfl (by kernel_rfl) (by kernel_rfl) (by kernel_rfl) (fun _ _ _ h => h) (Or.inl ⟨by rfl, fun V hV => ?_⟩) hHeld ?_
      rotate_left
      · (go_simp; try with_reducible rfl)
      simp only [Act.put, List.setIfInBounds_toArray, List.set_cons_zero, List.set_cons_succ]
      refine takeE (v := ?_) 12 79 rfl rfl (by kernel_rfl) (by kernel_rfl) (by kernel_rfl) (fun _ _ _ h => h) (Or.inl ⟨by rfl, fun V hV => ?_⟩) hHeld ?_
      rotate_left
      · (go_simp; try with_reducible rfl)
      simp only [Act.put, List.setIfInBounds_toArray, List.set_cons_zero, List.set_cons_succ]
      refine storeE 13 rfl (by kernel_rfl) (by rfl) (w' := w1.drew.setCell ⟨w.heap.size + 1 + 1, 0, none⟩ (.slice (some ⟨g, o, none⟩) Y xc)) (by go_simp; try with_reducible rfl) S2.out ?_
      simp only [Act.put]
      refine storeE 14 rfl (by kernel_rfl) (by rfl) (w' := (w1.drew.setCell ⟨w.heap.size + 1 + 1, 0, none⟩ (.slice (some ⟨g, o, none⟩) Y xc)).setCell ⟨w.heap.size + 1 + 1 + 1, 0, none⟩ (.bool true)) (by go_simp; try with_reducible rfl) S3.out ?_
      simp only [Act.put]
      refine wpAnyH_done (by kernel_rfl) ?_ _
      refine NoPanic.normal ?_
      clear hHeld x1 pc4 pc5 fc2 fc3 S2 S3 p1 p2
      generalize (w1.drew.setCell ⟨w.heap.size + 1 + 1, 0, none⟩ (.slice (some ⟨g, o, none⟩) Y xc)).setCell ⟨w.heap.size + 1 + 1 + 1, 0, none⟩ (.bool true) = V at *
      obtain ⟨MV, eMV⟩ : ∃ MV : Value, MV = (.slice (some ⟨g, o, none⟩) Y xc) := ⟨_, rfl⟩
      rw [← eMV] at g0 HF
      clear eMV
      go_wp2_with fail
      have hKV : V.heap[D]? = some (.deferred (some [])) := HD.out
      have gr := grownBy_putObj' V D (.deferred none)
      have hr : ∀ r, some D = some r → ∃ o : Obj, V.heap[r]? = some o ∧ o.isCells = false := fun r e => by cases e; exact ⟨_, hKV, rfl⟩
      have kV : Kept K' V (V.putObj D (.deferred none)) := kept_put V NK.out _
      have FIN : Hid ((∀ i, K i → K' i) ∧ PipK K' (V.putObj D (.deferred none)) b room (ord y) ∧ RowK K' (V.putObj D (.deferred none)) MV 2 (rcells y) ∧ Kept K w (V.putObj D (.deferred none)) ∧ (∃ pre, ord x = pre ++ ord y ∧ ∀ p ∈ pre, p.1 ≤ at_) ∧ (N ≤ 0 → du y at_ = 0)) := by
        obtain ⟨h0, h1, h2, h3, h4⟩ := HF.out
        refine ⟨h0, ?_, h2.kept kV, h3.trans (kV.mono h0), h4⟩
        obtain ⟨r, v2, ml2, u2, em2⟩ := h1
        exact ⟨r, v2, ml2, Holds.put (K := K') (b := b) V D _ (.deferred none) hKV rfl K' room v2 ml2 (fun _ h => h) u2, em2⟩
      have hc5 := cell_kept g0 gr hr
      have hc7 := cell_kept g2 gr hr
      refine ⟨by simp, .inl ⟨_, _, rfl, run_takeDeferred hKV, ?_⟩⟩
      refine ⟨.tuple #[MV, .bool true], ?_, MV, y, K', rfl, FIN.out⟩
      simp [results, Try.f13, go_sem, hc5, hc7]
  case stop =>
    rintro D c K' pre rest W hD hKK nD el ⟨rfl, hN, MV, y, rk, eo, hdp, kw, r2, r3⟩ hwk hdf
    have er : rest = ord y := List.append_cancel_left (el.symm.trans eo)
    have g0 : W.cell? ⟨w.heap.size + 1 + 1, 0, none⟩ = some MV := by rw [cell_of_row W _ 0 _ _ _ r2]; rfl
    have g2 : W.cell? ⟨w.heap.size + 1 + 1 + 1, 0, none⟩ = some (.bool true) := by rw [cell_of_row W _ 0 _ _ _ r3]; rfl
    have HD := hid hdf
    rw [er] at hwk
    have HF : Hid ((∀ i, K i → K' i) ∧ PipK K' W b room (ord y) ∧ RowK K' W MV 2 (rcells y) ∧ Kept K w W ∧ (∃ pre, ord x = pre ++ ord y ∧ ∀ p ∈ pre, p.1 ≤ at_) ∧ (N ≤ 0 → du y at_ = 0)) := ⟨fun i h => hKK i (hK6 i h), hwk, rk.mono (by decide) (fun i _ h => h.1), kw, ⟨pre, eo, hdp⟩, fun h => by omega⟩
    clear rk kw r2 r3 hwk hdf er eo hdp el
    obtain ⟨V, rfl⟩ : ∃ V, V = W := ⟨_, rfl⟩
    have NK : Hid (¬ K' D) := nD
    go_wp2_with fail
    have hKV : V.heap[D]? = some (.deferred (some [])) := HD.out
    have gr := grownBy_putObj' V D (.deferred none)
    have hr : ∀ r, some D = some r → ∃ o : Obj, V.heap[r]? = some o ∧ o.isCells = false := fun r e => by cases e; exact ⟨_, hKV, rfl⟩
    have kV : Kept K' V (V.putObj D (.deferred none)) := kept_put V NK.out _
    have FIN : Hid ((∀ i, K i → K' i) ∧ PipK K' (V.putObj D (.deferred none)) b room (ord y) ∧ RowK K' (V.putObj D (.deferred none)) MV 2 (rcells y) ∧ Kept K w (V.putObj D (.deferred none)) ∧ (∃ pre, ord x = pre ++ ord y ∧ ∀ p ∈ pre, p.1 ≤ at_) ∧ (N ≤ 0 → du y at_ = 0)) := by
      obtain ⟨h0, h1, h2, h3, h4⟩ := HF.out
      refine ⟨h0, ?_, h2.kept kV, h3.trans (kV.mono h0), h4⟩
      obtain ⟨r, v2, ml2, u2, em2⟩ := h1
      exact ⟨r, v2, ml2, Holds.put (K := K') (b := b) V D _ (.deferred none) hKV rfl K' room v2 ml2 (fun _ h => h) u2, em2⟩
    have hc5 := cell_kept g0 gr hr
    have hc7 := cell_kept g2 gr hr
    refine ⟨by simp, .inl ⟨_, _, rfl, run_takeDeferred hKV, ?_⟩⟩
    refine ⟨.tuple #[MV, .bool true], ?_, MV, y, K', rfl, FIN.out⟩
    simp [results, Try.f13, go_sem, hc5, hc7]
end Go.Proofs.Ytlpdffjbdekjeaa

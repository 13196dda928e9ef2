/-
  A walk of Right.
-/
import Derived.Test.YtlnjkjpllmfcaaaWireUse
namespace Go.Proofs.Ytlnjkjpllmfcaaa
set_option linter.unusedVariables false
set_option maxRecDepth 100000
open Go.RowKit Go.Lib

/-- the cells of a packet that has nothing -/
abbrev zrow : Array Value := #[.int .i64 0, .int .i64 0, .int .i64 0, .int .u32 0, .int .i64 0, .int .i64 0, .int .i64 0, .int .i64 0, .int .i64 0, .int .u64 0, .slice none 0 0, .slice none 0 0, .slice none 0 0]
theorem pval_none (w : World) : PVal w (.agg zrow) pnone := ⟨_, _, _, rfl, RowK.nil _ _ _, RowK.nil _ _ _, RowK.nil _ _ _⟩
theorem PVal.at {w w' : World} {p : Pk} {K : Nat → Prop} {ra rg da : Value} {g : Nat} (h : PL (fun _ => True) w p ra rg da) (e : Ext w w') (hK : ∀ i, i < w.heap.size → K i) (hg : w'.heap[g]? = some (.cells (prow p ra rg da) 29 (0, 0))) : PAt K w' g p :=
  ⟨ra, rg, da, hg, (h.mono (fun i hi _ => hK i hi)).kept (.of_ext e)⟩
theorem PAt.val {K : Nat → Prop} {w : World} {g : Nat} {p : Pk} (h : PAt K w g p) : ∃ cs : Array Value, w.heap[g]? = some (.cells cs 29 (0, 0)) ∧ PVal w (.agg cs) p ∧ cs.size = 13 := by
  obtain ⟨ra, rg, da, h1, h2⟩ := h
  exact ⟨_, h1, ⟨ra, rg, da, rfl, h2.mono (fun _ _ _ => trivial)⟩, rfl⟩
theorem prow_one {w : World} {K : Nat → Prop} {p : Pk} {ra rg da : Value} (h : PL K w p ra rg da) : (prow p ra rg da).all (·.oneCell') = true := by
  obtain ⟨⟨_, _, _, rfl, _⟩, ⟨_, _, _, rfl, _⟩, ⟨_, _, _, rfl, _⟩⟩ := h
  simp [prow, Value.oneCell']

set_option maxHeartbeats 8000000 in
theorem right_none (w : World) (v : Value) (p : Pk) (hv : PVal w v p) (hk : ¬ (1 ≤ p.1 0 ∧ p.1 0 ≤ 7)) :
    Calls Try.prog 13 #[v] w fun e w' => e = .returned (.bool (right p)) ∧ Ext w w' := by
  obtain ⟨ra, rg, da, rfl, pl⟩ := hv
  have R : Hid (right p = false) := by show _ = _; unfold right; rw [decide_eq_false hk]; rfl
  obtain ⟨w1, e1⟩ : ∃ w1, w1 = w.alloc (.cells (prow p ra rg da) 29) := ⟨_, rfl⟩
  have X1 : Hid (Ext w w1) := by rw [e1]; exact (Ext.refl w).alloc _
  have b1 : w1.heap[w.heap.size]? = some (.cells (prow p ra rg da) 29 (0, 0)) := by rw [e1]; exact heap_alloc_new w _
  have c0 : w1.cell? ⟨w.heap.size, 0, none⟩ = some (.int .i64 (p.1 0)) := by rw [cell_of_row _ _ _ _ _ _ b1]; rfl
  have C := hid (fieldsOf_none w1 (p.1 0) hk)
  have E1 := hid e1
  clear e1 b1 pl hk
  generalize p.1 0 = k at *
  generalize prow p ra rg da = A at *
  go_enter Try.func13, Try.ntmps13
  go_wp2_with (rw [← E1.out])
  refine C.out.mono ?_
  rintro e w2 ⟨rfl, rfl⟩
  clear C
  go_wp2_with fail
  go_ret
  exact ⟨by rw [R.out]; rfl, X1.out⟩

set_option maxHeartbeats 8000000 in
theorem right_kind (w : World) (v : Value) (p : Pk) (hv : PVal w v p) (hb : bnd p) (hl : slim p) (hk : 1 ≤ p.1 0 ∧ p.1 0 ≤ 7) :
    Calls Try.prog 13 #[v] w fun e w' => e = .returned (.bool (right p)) ∧ Ext w w' := by
  obtain ⟨ra, rg, da, rfl, pl⟩ := hv
  have ON := hid (prow_one pl)
  obtain ⟨w1, e1⟩ : ∃ w1, w1 = w.alloc (.cells (prow p ra rg da) 29) := ⟨_, rfl⟩
  have X1 : Ext w w1 := by rw [e1]; exact (Ext.refl w).alloc _
  have s1 : w1.heap.size = w.heap.size + 1 := by rw [e1]; simp
  have b1 : w1.heap[w.heap.size]? = some (.cells (prow p ra rg da) 29 (0, 0)) := by rw [e1]; exact heap_alloc_new w _
  have c0 : w1.cell? ⟨w.heap.size, 0, none⟩ = some (.int .i64 (p.1 0)) := by rw [cell_of_row _ _ _ _ _ _ b1]; rfl
  have C := hid (fieldsOf_any w1 (p.1 0) hk)
  obtain ⟨cs, ecs⟩ : ∃ cs, cs = kfields (p.1 0).toNat := ⟨_, rfl⟩
  rw [← ecs] at C
  have cc : ∀ c ∈ cs, c ∈ codes := by rw [ecs]; exact kfields_codes _
  have cl : 0 < cs.length := by
    rw [ecs, List.length_pos_iff]
    intro h
    rw [kfields_none] at h
    omega
  have cl6 : cs.length ≤ 6 := by rw [ecs]; unfold kfields; split <;> decide
  have RF : Hid (∀ c ∈ cs, fits c p = false → right p = false) := by
    intro c hc hf
    rw [Bool.eq_false_iff]
    intro h
    have := right_fits h c (by rw [← ecs]; exact hc)
    rw [hf] at this
    cases this
  have RT : Hid ((∀ c ∈ cs, fits c p = true) → right p = sameB (dropped cs (setn p 0 0)) pnone) := by
    intro hf
    rw [ecs] at hf ⊢
    rw [Bool.eq_iff_iff, sameB_iff (bnd_dropped _ (kfields_codes _) _ (bnd_setn hb 0)) bnd_none]
    exact dropped_same hk hf
  have SD : Hid (slim (dropped cs (setn p 0 0))) := slim_dropped cs cc _ hl
  have E1 := hid e1
  have XX := hid X1
  have B1 := hid b1
  have PLH := hid pl
  have hl2 := hl.2.1
  clear e1 b1 pl X1 ecs hb hl hk
  generalize p.1 0 = kk at *
  go_enter Try.func13, Try.ntmps13
  go_wp2_with (rw [← E1.out])
  refine C.out.mono ?_
  rintro e w2 ⟨v, rfl, F2, X2⟩
  clear C c0
  have hB1 := X2.row B1.out
  obtain ⟨fb, fs, rfl, kfb, rfb, af⟩ := F2
  have sz2 := X2.size
  obtain ⟨w3, e3⟩ : ∃ w3, w3 = w2.alloc (.cells (prow p ra rg da) 29) := ⟨_, rfl⟩
  have SN : Hid ((w2.alloc (.cells zrow 29)).setRow w2.heap.size (prow p ra rg da) = w3) := by rw [e3]; exact setRow_new w2 _ _ _ _
  have GZ : Hid ((w2.alloc (.cells zrow 29)).heap[w2.heap.size]? = some (.cells zrow 29 (0, 0))) := heap_alloc_new w2 _
  have g3 : w3.heap[w2.heap.size]? = some (.cells (prow p ra rg da) 29 (0, 0)) := by rw [e3]; exact heap_alloc_new w2 _
  have X3 : Ext w2 w3 := by rw [e3]; exact (Ext.refl w2).alloc _
  have c3 : ∃ q, w3.cell? ⟨w2.heap.size, 0, none⟩ = some (.int .i64 q) := ⟨p.1 0, by rw [cell_of_row _ _ _ _ _ _ g3]; rfl⟩
  obtain ⟨q3, c3⟩ := c3
  have f3 : w3.frozen? ⟨w2.heap.size, 0, none⟩ = false := frozen_of_row _ _ _ _ _ g3
  have i1 : ((cs.length : Int) == 0) = false := by rw [beq_eq_false_iff_ne]; omega
  have HB2 := hid hB1
  have FB := hid kfb
  obtain ⟨w4, e4⟩ : ∃ w4, w4 = w3.setCell ⟨w2.heap.size, 0, none⟩ (.int .i64 0) := ⟨_, rfl⟩
  have kq : Kept (fun i => i ≠ w2.heap.size) w3 w4 := by rw [e4]; exact (Kept.refl _ w3).setCell (p := ⟨w2.heap.size, 0, none⟩) (fun h => h rfl) _
  have g4 : w4.heap[w2.heap.size]? = some (.cells (prow (setn p 0 0) ra rg da) 29 (0, 0)) := by
    rw [e4, setCell_eq_setRow _ _ _ _ _ _ _ g3]
    exact setRow_heap _ _ _ _ _ _ g3
  have gp2 := lt_of_row hB1
  have X03 : Ext w w3 := (XX.out.trans X2).trans X3
  have P0 : Hid (PAt (fun i => i ≠ w2.heap.size) w4 w.heap.size p) :=
    (PVal.at (w' := w3) PLH.out X03 (fun i hi => by show i ≠ w2.heap.size; omega) (X3.row hB1)).kept kq (kq.2 _ (by have := X3.size; omega) (by omega))
  have Q0 : Hid (PAt (fun i => i ≠ w2.heap.size) w4 w2.heap.size (dropped (cs.take 0) (setn p 0 0))) :=
    ⟨ra, rg, da, g4, ((PLH.out.mono (L := fun i => i ≠ w2.heap.size) (fun i hi _ => by show i ≠ w2.heap.size; omega)).kept (.of_ext X03)).kept kq⟩
  have fbl := lt_of_row rfb
  have A0 : Hid (AllFields (fun i => i ≠ w2.heap.size) w4 cs fs ∧ w4.heap[fb]? = some (.cells (fcells fs).toArray 64 (0, 0))) :=
    ⟨((af.mono (L := fun i => i ≠ w2.heap.size) (fun i hi _ => by show i ≠ w2.heap.size; omega)).kept (.of_ext X3)).kept kq, kq.row (show fb ≠ w2.heap.size by omega) (X3.row rfb)⟩
  have Z0 : Hid (Ext w w4) := by rw [e4]; exact X03.setCell (show w.heap.size ≤ w2.heap.size by omega) _
  have fbq : fb ≠ w2.heap.size := by omega
  have gq : w.heap.size ≤ w2.heap.size := by omega
  have E4 := hid e4
  clear hB1 kfb rfb af e3 g3 X3 X2 e4 kq g4 X03 XX PLH B1 E1 s1
  go_wp2_with (first
    | refine wpList_load_row rfl 29 _ rfl w.heap.size rfl 29 (prow p ra rg da) (0, 0) _ HB2.out Try.underlying29 rfl cells_packet ?_
    | (refine wpList_store_row rfl 29 _ _ rfl w2.heap.size (prow p ra rg da) rfl rfl 29 zrow GZ.out cells_packet rfl ON.out ?_; rw [SN.out]))
  rw [← E4.out]
  clear c3 f3 E4 SN GZ HB2
  generalize w2.heap.size = gr at *
  go_loopw [17] (fun i wr => ∃ k : Nat, k ≤ cs.length ∧ i = .int .i64 k ∧ PAt (fun i => i ≠ gr) wr w.heap.size p ∧ PAt (fun i => i ≠ gr) wr gr (dropped (cs.take k) (setn p 0 0)) ∧ (AllFields (fun i => i ≠ gr) wr cs fs ∧ wr.heap[fb]? = some (.cells (fcells fs).toArray 64 (0, 0))) ∧ (∀ c ∈ cs.take k, fits c p = true) ∧ Ext w wr) (fun i _ => (cs.length - intOf i).toNat)
  case atStart => exact ⟨0, by omega, rfl, P0.out, Q0.out, A0.out, fun c hc => by simp at hc, Z0.out⟩
  case round =>
    obtain ⟨k, hk, rfl, hp, hq, ⟨ha, hr⟩, hf, hx⟩ := hrel
    clear P0 Q0 A0 Z0
    by_cases t : k < cs.length
    · obtain ⟨vp, vg, vf, vd, fa, q1, q2, q3, q4⟩ := ha.at k t
      have c1 : wr.cell? ⟨fb, k * 4, none⟩ = some vp := by rw [cell_of_row _ _ _ _ _ _ hr, List.getElem?_toArray]; exact q1
      have c2 : wr.cell? ⟨fb, k * 4 + 1, none⟩ = some vg := by rw [cell_of_row _ _ _ _ _ _ hr, List.getElem?_toArray]; exact q2
      have c3 : wr.cell? ⟨fb, k * 4 + 2, none⟩ = some vf := by rw [cell_of_row _ _ _ _ _ _ hr, List.getElem?_toArray]; exact q3
      have c4 : wr.cell? ⟨fb, k * 4 + 3, none⟩ = some vd := by rw [cell_of_row _ _ _ _ _ _ hr, List.getElem?_toArray]; exact q4
      have ON := hid fa.one
      obtain ⟨w5, e5⟩ : ∃ w5, w5 = wr.alloc (.cells #[vp, vg, vf, vd] 64) := ⟨_, rfl⟩
      have SN : Hid ((wr.alloc (.cells #[.nilFunc, .nilFunc, .nilFunc, .nilFunc] 64)).setRow wr.heap.size #[vp, vg, vf, vd] = w5) := by rw [e5]; exact setRow_new wr _ _ _ _
      have GZ : Hid ((wr.alloc (.cells #[.nilFunc, .nilFunc, .nilFunc, .nilFunc] 64)).heap[wr.heap.size]? = some (.cells #[.nilFunc, .nilFunc, .nilFunc, .nilFunc] 64 (0, 0))) := heap_alloc_new wr _
      have g5 : w5.heap[wr.heap.size]? = some (.cells #[vp, vg, vf, vd] 64 (0, 0)) := by rw [e5]; exact heap_alloc_new wr _
      have X5 : Ext wr w5 := by rw [e5]; exact (Ext.refl wr).alloc _
      have ff : w5.cell? ⟨wr.heap.size, 2, none⟩ = some vf := by rw [cell_of_row _ _ _ _ _ _ g5]; rfl
      have fa5 := fa.kept (.of_ext X5)
      have hp5 := hp.kept (.of_ext X5) (by rw [X5.row (Array.getElem?_eq_getElem hp.lt), Array.getElem?_eq_getElem hp.lt])
      have hq5 := hq.kept (.of_ext X5) (by rw [X5.row (Array.getElem?_eq_getElem hq.lt), Array.getElem?_eq_getElem hq.lt])
      obtain ⟨f1, cap1, rfl, en1, C1⟩ := fa5.fitted w.heap.size p hp5 hl2
      have CF := hid C1
      unfold Entered at en1
      have HH := hid (And.intro fa5 (And.intro hp5 (And.intro hq5 (And.intro g5 (And.intro X5 (And.intro ha (And.intro hr hx)))))))
      have t1 : (k : Int) < (cs.length : Int) := by omega
      have t2 : (0 : Int) ≤ (k : Int) := by omega
      have lq := hp.lt
      clear hp hq ha hr hx fa fa5 hp5 hq5 g5 X5 C1 q1 q2 q3 q4 e5
      go_wp2_with (refine wpList_store_row rfl 64 _ _ rfl wr.heap.size #[vp, vg, .func (.func f1) #[] cap1, vd] rfl rfl 64 #[.nilFunc, .nilFunc, .nilFunc, .nilFunc] GZ.out cells_field rfl ON.out ?_; rw [SN.out])
      refine CF.out.mono ?_
      rintro e w6 ⟨rfl, X6⟩
      clear CF en1 c1 c2 c3 c4 ff
      have XW : Hid (Ext w w6) := (HH.2.2.2.2.2.2.2.trans HH.2.2.2.2.1).trans X6
      have RFc := hid (RF.out (cs.getD k 0) (getD_memN cs k t))
      cases hB : fits (cs.getD k 0) p with
      | false =>
        rw [hB] at RFc
        have RFF := hid (RFc.out rfl)
        clear RFc X6 hB
        go_wp2_with fail
        go_ret
        exact ⟨by rw [RFF.out]; rfl, XW.out⟩
      | true =>
        have hq6 := HH.2.2.1.kept (.of_ext X6) (by rw [X6.row (Array.getElem?_eq_getElem HH.2.2.1.lt), Array.getElem?_eq_getElem HH.2.2.1.lt])
        have hp6 := HH.2.1.kept (.of_ext X6) (by rw [X6.row (Array.getElem?_eq_getElem HH.2.1.lt), Array.getElem?_eq_getElem HH.2.1.lt])
        have X56 := HH.2.2.2.2.1.trans X6
        have fa6 := HH.1.kept (.of_ext X6)
        have g6 := X6.row HH.2.2.2.1
        obtain ⟨f2, cap2, ev, en2, C2⟩ := fa6.drops gr _ hq6 (fun h => h rfl)
        subst ev
        have fd : w6.cell? ⟨wr.heap.size, 3, none⟩ = some (.func (.func f2) #[] cap2) := by rw [cell_of_row _ _ _ _ _ _ g6]; rfl
        rw [← dropped_snoc, ← take_snocN cs k t] at C2
        have CD := hid C2
        unfold Entered at en2
        have FIN : Hid (∀ w7, PAt (fun i => i ≠ gr) w7 gr (dropped (cs.take (k + 1)) (setn p 0 0)) → Kept (fun i => i ≠ gr) w6 w7 → PAt (fun i => i ≠ gr) w7 w.heap.size p ∧ PAt (fun i => i ≠ gr) w7 gr (dropped (cs.take (k + 1)) (setn p 0 0)) ∧ (AllFields (fun i => i ≠ gr) w7 cs fs ∧ w7.heap[fb]? = some (.cells (fcells fs).toArray 64 (0, 0))) ∧ (∀ c ∈ cs.take (k + 1), fits c p = true) ∧ Ext w w7) := by
          intro w7 h7 k7
          have k67 := (Kept.of_ext (K := fun i => i ≠ gr) X56).trans k7
          refine ⟨hp6.kept k7 (k7.2 _ hp6.lt (by show w.heap.size ≠ gr; have := HH.2.2.1.lt; omega)), h7, ⟨HH.2.2.2.2.2.1.kept k67, k67.row fbq HH.2.2.2.2.2.2.1⟩, fun c hc => ?_, ?_⟩
          · rw [take_snocN cs k t, List.mem_append] at hc
            rcases hc with hc | hc
            · exact hf c hc
            · simp at hc; rw [hc]; simpa using hB
          · have x6 := XW.out
            exact Below.trans x6 (k7.below x6.size (fun i hi => by show i ≠ gr; omega))
        clear RFc X6 hB hq6 hp6 X56 fa6 g6 C2
        go_wp2_with fail
        refine CD.out.mono ?_
        rintro e w7 ⟨rfl, h7, k7⟩
        have R7 := hid (FIN.out w7 h7 k7)
        clear h7 k7 FIN CD en2 fd
        go_wp2_with fail
        go_roundw
        case rel => exact ⟨k + 1, by omega, by go_num, R7.1, R7.2.1, R7.2.2.1, R7.2.2.2.1, R7.2.2.2.2⟩
        case measure => simp [intOf]; omega
    · obtain rfl : k = cs.length := by omega
      rw [List.take_length] at hq hf
      have RTT := hid (RT.out hf)
      obtain ⟨A, hA, vA, szA⟩ := hq.val
      have C := hid (equal_any wr (.agg A) (.agg zrow) _ pnone vA (pval_none wr) SD.out)
      have HA := hid hA
      have ZA : Hid ((Try.prog.info? 29).map (·.size) = some A.size) := by rw [szA]; exact cells_packet
      have HX := hid hx
      clear hp hq ha hr hf hx hA vA szA
      go_wp2_with (refine wpList_load_row rfl 29 _ rfl gr rfl 29 A (0, 0) _ HA.out Try.underlying29 rfl ZA.out ?_)
      refine C.out.mono ?_
      rintro e w6 ⟨rfl, X6⟩
      have XW := hid (HX.out.trans X6)
      clear X6 C
      go_wp2_with fail
      go_ret
      exact ⟨by rw [RTT.out]; rfl, XW.out⟩

theorem right_any (w : World) (v : Value) (p : Pk) (hv : PVal w v p) (hb : bnd p) (hl : slim p) :
    Calls Try.prog 13 #[v] w fun e w' => e = .returned (.bool (right p)) ∧ Ext w w' := by
  by_cases hk : 1 ≤ p.1 0 ∧ p.1 0 ≤ 7
  · exact right_kind w v p hv hb hl hk
  · exact right_none w v p hv hk
end Go.Proofs.Ytlnjkjpllmfcaaa

/-
  The walk of WireBytes: a packet is right just if the document says so, and has then the bytes that it says, from which it is read back.
-/
import Derived.Test.YtlnjkjpllmfcaaaWireSameW
namespace Go.Proofs.Ytlnjkjpllmfcaaa
set_option linter.unusedVariables false
set_option maxRecDepth 100000
open Go.RowKit Go.Lib

/-- a call that alone may come up -/
theorem callH7 {P : Program} {md : Region.Mode} {ops : Array Oper} {Q : Exit → Act → World → Prop} {S : World → Prop} (i d : Nat) {oi : Oper} {f : FuncId} {args : Array Value} {fuel : Nat} {listed : Array Bool} {a : Act} {w : World} (hi : ops[i]? = some oi) (hd : oi.dst = some d)
    (hr : Region.ready md ops listed = [i]) (hw : Region.wanted oi (yielded ops a.tmps) = true) (he : (execOp a.eval oi).run P w = .ok (.enter f args) w)
    (hc : Calls P f args w (fun e w' => ∃ v, e = .returned v ∧ S w' ∧ wpAnyH P md ops Q S fuel (listed.setIfInBounds i true) (a.put (some d) v) w')) : wpAnyH P md ops Q S (fuel + 1) listed a w := by
  refine wpAnyH_all hr (by simp) (fun j hj => ?_)
  obtain rfl : j = i := by simpa using hj
  unfold wpOp
  simp only [hi, hw, if_true, Oper.wp, he, Oper.upon]
  left
  refine hc.mono ?_
  rintro e w' ⟨v, rfl, h1, h2⟩
  simp only [hd]
  exact ⟨h1, h2⟩
theorem sameB_self (p : Pk) : sameB p p = true := by simp [sameB]

namespace wireBytes
set_option maxHeartbeats 8000000 in
theorem walk (v0 : Value) (p : Pk) (w : World) (hv : PVal w v0 p) (hb : bnd p) :
    Calls Try.prog 3 #[v0] w fun e w' => e = .returned (.bool true) ∧ Ext w w' := by
  obtain ⟨ra, rg, da, rfl, pl⟩ := hv
  obtain ⟨w1, e1⟩ : ∃ w1, w1 = w.alloc (.cells (prow p ra rg da) 29) := ⟨_, rfl⟩
  have X1 : Ext w w1 := by rw [e1]; exact (Ext.refl w).alloc _
  have g1 : w1.heap[w.heap.size]? = some (.cells (prow p ra rg da) 29 (0, 0)) := by rw [e1]; exact heap_alloc_new w _
  have HPL := hid pl
  have HB := hid hb
  have E1 := hid e1
  have XX := hid X1
  have G1 := hid g1
  have CS := hid (small_any w1 _ p ⟨ra, rg, da, rfl, pl.kept (.of_ext X1)⟩)
  have SL := hid (fun h : smallB p = true => slim_of_small h)
  have ZA : Hid ((Try.prog.info? 29).map (·.size) = some (prow p ra rg da).size) := cells_packet
  clear e1 X1 g1 pl hb
  go_enter Try.func3, Try.ntmps3
  go_wp2_with (first | rw [← E1.out] | refine wpList_load_row rfl 29 _ rfl w.heap.size rfl 29 (prow p ra rg da) (0, 0) _ G1.out Try.underlying29 rfl ZA.out ?_)
  refine CS.out.mono ?_
  rintro e w2 ⟨rfl, X2⟩
  clear CS
  cases hs : smallB p with
  | false =>
    have Y2 := hid (XX.out.trans X2)
    clear X2 hs
    go_wp2_with fail
    refine (awake7_any w2).mono ?_
    rintro e w3 ⟨rfl, X3⟩
    have Y3 := hid (Y2.out.trans X3)
    clear X3
    go_wp2_with fail
    go_ret
    exact ⟨rfl, Y3.out⟩
  | true =>
    have sl := SL.out hs
    have HSL := hid sl
    have G2 := hid (X2.row G1.out)
    have Y2 := hid (XX.out.trans X2)
    have CR := hid (ref_any w2 _ p ⟨ra, rg, da, rfl, HPL.out.kept (.of_ext Y2.out)⟩ sl)
    clear X2 hs sl SL
    go_wp2_with (refine wpList_load_row_g rfl 29 _ rfl w.heap.size rfl 29 (prow p ra rg da) (0, 0) _ G2.out Try.underlying29 rfl ZA.out ?_)
    refine CR.out.mono ?_
    rintro e w3 ⟨v3, rfl, hv3, X3⟩
    have G3 := hid (X3.row G2.out)
    have Y3 := hid (Y2.out.trans X3)
    have CT := hid (refRight_any w3 v3 p hv3 HSL.out)
    clear CR X3 hv3
    go_wp2_with fail
    refine CT.out.mono ?_
    rintro e w4 ⟨rfl, X4⟩
    have G4 := hid (X4.row G3.out)
    have Y4 := hid (Y3.out.trans X4)
    clear CT X4
    have CR5 := hid (right_any w4 _ p ⟨ra, rg, da, rfl, HPL.out.kept (.of_ext Y4.out)⟩ HB.out HSL.out)
    cases hr : right p with
    | false =>
      have CB := hid (bytes_no w4 _ p ⟨ra, rg, da, rfl, HPL.out.kept (.of_ext Y4.out)⟩ HB.out HSL.out hr)
      have HR := hid hr
      clear hr CR5
      go_wp2_with (refine wpList_load_row rfl 29 _ rfl w.heap.size rfl 29 (prow p ra rg da) (0, 0) _ G4.out Try.underlying29 rfl ZA.out ?_)
      refine CB.out.mono ?_
      rintro e w5 ⟨rfl, X5⟩
      have G5 := hid (X5.row G4.out)
      have Y5 := hid (Y4.out.trans X5)
      have CR := right_any w5 _ p ⟨ra, rg, da, rfl, HPL.out.kept (.of_ext Y5.out)⟩ HB.out HSL.out
      rw [HR.out] at CR
      have CRH := hid CR
      clear CB X5 CR
      go_wp2_with (refine wpList_load_row rfl 29 _ rfl w.heap.size rfl 29 (prow p ra rg da) (0, 0) _ G5.out Try.underlying29 rfl ZA.out ?_)
      refine CRH.out.mono ?_
      rintro e w6 ⟨rfl, X6⟩
      have G6 := hid (X6.row G5.out)
      have Y6 := hid (Y5.out.trans X6)
      have CE := equal_any w6 _ _ p p ⟨ra, rg, da, rfl, HPL.out.kept (.of_ext Y6.out)⟩ ⟨ra, rg, da, rfl, HPL.out.kept (.of_ext Y6.out)⟩ HSL.out
      rw [sameB_self] at CE
      have CEH := hid CE
      clear CRH X6 CE
      go_wp2_with (refine wpList_load_row_g rfl 29 _ rfl w.heap.size rfl 29 (prow p ra rg da) (0, 0) _ G6.out Try.underlying29 rfl ZA.out ?_)
      refine CEH.out.mono ?_
      rintro e w7 ⟨rfl, X7⟩
      have G7 := hid (X7.row G6.out)
      have Y7 := hid (Y6.out.trans X7)
      have CZ := hid (size_no w7 _ p ⟨ra, rg, da, rfl, HPL.out.kept (.of_ext Y7.out)⟩ HB.out HSL.out HR.out)
      clear CEH X7
      go_wp2_with (refine wpList_load_row_g rfl 29 _ rfl w.heap.size rfl 29 (prow p ra rg da) (0, 0) _ G7.out Try.underlying29 rfl ZA.out ?_)
      refine CZ.out.mono ?_
      rintro e w8 ⟨rfl, X8⟩
      have Y8 := hid (Y7.out.trans X8)
      clear CZ X8
      go_wp2_with fail
      refine (awake7_any w8).mono ?_
      rintro e w9 ⟨rfl, X9⟩
      have Y9 := hid (Y8.out.trans X9)
      clear X9
      go_wp2_with fail
      go_ret
      exact ⟨rfl, Y9.out⟩
    | true =>
      have TL := text_length hr
      have HR := hid hr
      obtain ⟨m, em⟩ : ∃ m, m = (text p).length + 4 := ⟨_, rfl⟩
      have EM := hid em
      have CB := bytes_yes w4 _ p ⟨ra, rg, da, rfl, HPL.out.kept (.of_ext Y4.out)⟩ HB.out HSL.out hr
      rw [← em] at CB
      have CBH := hid CB
      have m320 : (m : Int) ≤ 320 := by omega
      have CL : Hid ((cseal (text p)).length = m) := by show _ = _; rw [cseal_length, em]
      obtain ⟨q, eq, sq⟩ := pparse_seal hr HB.out.1
      have PQ := hid eq
      have SQ : Hid (sameB q p = true) := (sameB_iff (bnd_of_same sq HB.out) HB.out).2 sq
      have SLQ := hid (slim_of_same sq HSL.out)
      clear hr CR5 CB eq sq em TL
      go_wp2_with (refine wpList_load_row rfl 29 _ rfl w.heap.size rfl 29 (prow p ra rg da) (0, 0) _ G4.out Try.underlying29 rfl ZA.out ?_)
      refine CBH.out.mono ?_
      rintro e w5 ⟨g5, rfl, hg5, r5, X5⟩
      have G5 := hid (X5.row G4.out)
      have R5 := hid r5
      have Y5 := hid (Y4.out.trans X5)
      have CR := right_any w5 _ p ⟨ra, rg, da, rfl, HPL.out.kept (.of_ext Y5.out)⟩ HB.out HSL.out
      rw [HR.out] at CR
      have CRH := hid CR
      clear CBH X5 CR r5 hg5
      go_wp2_with (refine wpList_load_row rfl 29 _ rfl w.heap.size rfl 29 (prow p ra rg da) (0, 0) _ G5.out Try.underlying29 rfl ZA.out ?_)
      refine CRH.out.mono ?_
      rintro e w6 ⟨rfl, X6⟩
      have G6 := hid (X6.row G5.out)
      have R6 := hid (R5.out.ext X6)
      have Y6 := hid (Y5.out.trans X6)
      have CE := equal_any w6 _ _ p p ⟨ra, rg, da, rfl, HPL.out.kept (.of_ext Y6.out)⟩ ⟨ra, rg, da, rfl, HPL.out.kept (.of_ext Y6.out)⟩ HSL.out
      rw [sameB_self] at CE
      have CEH := hid CE
      clear CRH X6 CE R5
      go_wp2_with (refine wpList_load_row_g rfl 29 _ rfl w.heap.size rfl 29 (prow p ra rg da) (0, 0) _ G6.out Try.underlying29 rfl ZA.out ?_)
      refine CEH.out.mono ?_
      rintro e w7 ⟨rfl, X7⟩
      have G7 := hid (X7.row G6.out)
      have R7 := hid (R6.out.ext X7)
      have Y7 := hid (Y6.out.trans X7)
      have bb := R7.out.bytes (by rw [CL.out]; omega)
      rw [CL.out] at bb
      have CP := parse_any w7 _ (cseal (text p)) bb (by rw [CL.out]; omega)
      rw [PQ.out] at CP
      have CPH := hid CP
      clear CEH X7 R6 CP bb PQ
      go_wp2_with fail
      refine CPH.out.mono ?_
      intro e w8 told
      obtain ⟨A, rfl, vA, X8, zA, oA⟩ := told.val
      obtain ⟨w9, e9⟩ : ∃ w9, w9 = w8.alloc (.cells A 29) := ⟨_, rfl⟩
      have SN9 : Hid ((w8.alloc (.cells zrow 29)).setRow w8.heap.size A = w9) := by rw [e9]; exact setRow_new w8 _ _ _ _
      have GZ9 : Hid ((w8.alloc (.cells zrow 29)).heap[w8.heap.size]? = some (.cells zrow 29 (0, 0))) := heap_alloc_new w8 _
      have X9 : Ext w8 w9 := by rw [e9]; exact (Ext.refl w8).alloc _
      have H9 : Hid (w9.heap[w8.heap.size]? = some (.cells A 29 (0, 0))) := by rw [e9]; exact heap_alloc_new w8 _
      have ZZ : Hid ((Try.prog.info? 29).map (·.size) = some A.size) := by rw [zA]; exact cells_packet
      have ZB : Hid (zrow.size = A.size) := by rw [zA]; exact rfl
      have OA := hid oA
      have X79 := X8.trans X9
      have G9 := hid (X79.row G7.out)
      have Y9 := hid (Y7.out.trans X79)
      have VA := hid (vA.ext X9)
      obtain ⟨SS, eS⟩ : ∃ SS, SS = str (cseal (text p)) := ⟨_, rfl⟩
      have CV : Hid (∀ W, Ext w9 W → (convert 27 9 (.slice (some ⟨g5, 0, none⟩) m m)).run Try.prog W = .ok (.string SS) W) := fun W X => by
        have := ((R7.out.ext (X79.trans X)).bytes (by rw [CL.out]; omega)).str
        rwa [CL.out, ← eS] at this
      have CSD : Hid (∀ W v, PVal W v p → Calls Try.prog 17 #[v] W fun e w' => e = .returned (.string SS) ∧ Ext W w') := fun W v hv => by
        rw [eS]; exact refSealed_any W v p hv HB.out.1 HSL.out HR.out
      have CSZ : Hid (∀ W, Ext w9 W → Calls Try.prog 15 #[.agg (prow p ra rg da)] W fun e w' => e = .returned (.int .i64 m) ∧ Ext W w') := fun W X => by
        have c := size_yes W _ p ⟨ra, rg, da, rfl, HPL.out.kept (.of_ext (Y9.out.trans X))⟩ HB.out HSL.out HR.out
        rw [← EM.out] at c
        exact c
      have CEQ : Hid (∀ W, Ext w9 W → Calls Try.prog 14 #[.agg A, .agg (prow p ra rg da)] W fun e w' => e = .returned (.bool true) ∧ Ext W w') := fun W X => by
        have c := equal_any W _ _ q p (VA.out.ext X) ⟨ra, rg, da, rfl, HPL.out.kept (.of_ext (Y9.out.trans X))⟩ SLQ.out
        rw [SQ.out] at c
        exact c
      have CRF : Hid (∀ W, Ext w9 W → Calls Try.prog 11 #[.agg (prow p ra rg da)] W fun e w' => ∃ v', e = .returned v' ∧ PVal w' v' p ∧ Ext W w') := fun W X =>
        ref_any W _ p ⟨ra, rg, da, rfl, HPL.out.kept (.of_ext (Y9.out.trans X))⟩ HSL.out
      clear e9 X9 X8 X79 vA zA oA told CPH eS R7 G7 Y7
      go_wp2_with (refine wpList_store_row rfl 29 _ _ rfl w8.heap.size A rfl rfl 29 zrow GZ9.out ZZ.out ZB.out OA.out ?_; rw [SN9.out])
      clear SN9 GZ9 OA
      refine wp_region_held_drew (S := fun W => Ext w9 W) (by kernel_rfl) (Below.drew (Ext.refl w9)) (fun hHeld => ?_)
      refine takeH7 (v := ?_) 0 52 rfl rfl (by kernel_rfl) (by kernel_rfl) (by kernel_rfl) (fun _ _ _ h => h) (Or.inl ⟨by rfl, fun W hW => ?_⟩) hHeld ?_
      rotate_left
      · (go_simp; try with_reducible rfl)
      simp only [Act.put, List.setIfInBounds_toArray, List.set_cons_zero, List.set_cons_succ]
      refine takeH7 (v := ?_) 1 53 rfl rfl (by kernel_rfl) (by kernel_rfl) (by kernel_rfl) (fun _ _ _ h => h) (Or.inl ⟨by rfl, fun W hW => ?_⟩) hHeld ?_
      rotate_left
      · (go_simp; try with_reducible rfl)
      simp only [Act.put, List.setIfInBounds_toArray, List.set_cons_zero, List.set_cons_succ]
      refine takeH7 (v := ?_) 2 54 rfl rfl (by kernel_rfl) (by kernel_rfl) (by kernel_rfl) (fun _ _ _ h => h) (Or.inl ⟨by rfl, fun W hW => ?_⟩) hHeld ?_
      rotate_left
      · (go_simp; try with_reducible rfl)
      simp only [Act.put, List.setIfInBounds_toArray, List.set_cons_zero, List.set_cons_succ]
      refine takeH7 (v := ?_) 3 55 rfl rfl (by kernel_rfl) (by kernel_rfl) (by kernel_rfl) (fun _ _ _ h => h) (Or.inl ⟨by rfl, fun W hW => ?_⟩) hHeld ?_
      rotate_left
      · (go_simp; try with_reducible rfl)
      simp only [Act.put, List.setIfInBounds_toArray, List.set_cons_zero, List.set_cons_succ]
      refine takeH7 (v := ?_) 4 56 rfl rfl (by kernel_rfl) (by kernel_rfl) (by kernel_rfl) (fun _ _ _ h => h) (Or.inl ⟨by rfl, fun W hW => ?_⟩) hHeld ?_
      rotate_left
      · (have c := CV.out W hW; go_simp; try with_reducible rfl)
      simp only [Act.put, List.setIfInBounds_toArray, List.set_cons_zero, List.set_cons_succ]
      refine takeH7 (v := .agg (prow p ra rg da)) 5 57 rfl rfl (by kernel_rfl) (by kernel_rfl) (by kernel_rfl) (fun _ _ _ h => h) (yields_load_row 29 (.tmp 1) rfl (by rfl) w.heap.size rfl 29 _ (0, 0) _ (fun W h => Ext.row h G9.out) Try.underlying29 rfl ZA.out) hHeld ?_
      simp only [Act.put, List.setIfInBounds_toArray, List.set_cons_zero, List.set_cons_succ]
      refine callH7 6 58 rfl rfl (by kernel_rfl) (by rfl) (by go_simp; first | exact ⟨rfl, rfl⟩ | rfl) ?_
      refine (CRF.out _ hHeld).mono ?_
      rintro e w10 ⟨v10, rfl, hv10, x10⟩
      refine ⟨_, rfl, hHeld.trans x10, ?_⟩
      replace hHeld := hHeld.trans x10
      simp only [Act.put, List.setIfInBounds_toArray, List.set_cons_zero, List.set_cons_succ]
      refine callH7 7 59 rfl rfl (by kernel_rfl) (by rfl) (by go_simp; first | exact ⟨rfl, rfl⟩ | rfl) ?_
      refine (CSD.out _ _ hv10).mono ?_
      rintro e w11 ⟨rfl, x11⟩
      refine ⟨_, rfl, hHeld.trans x11, ?_⟩
      replace hHeld := hHeld.trans x11
      simp only [Act.put, List.setIfInBounds_toArray, List.set_cons_zero, List.set_cons_succ]
      refine takeH7 (v := ?_) 8 60 rfl rfl (by kernel_rfl) (by kernel_rfl) (by kernel_rfl) (fun _ _ _ h => h) (Or.inl ⟨by rfl, fun W hW => ?_⟩) hHeld ?_
      rotate_left
      · (go_simp; try with_reducible rfl)
      simp only [Act.put, List.setIfInBounds_toArray, List.set_cons_zero, List.set_cons_succ]
      refine takeH7 (v := ?_) 9 61 rfl rfl (by kernel_rfl) (by kernel_rfl) (by kernel_rfl) (fun _ _ _ h => h) (Or.inl ⟨by rfl, fun W hW => ?_⟩) hHeld ?_
      rotate_left
      · (go_simp; try with_reducible rfl)
      simp only [Act.put, List.setIfInBounds_toArray, List.set_cons_zero, List.set_cons_succ]
      refine takeH7 (v := ?_) 10 62 rfl rfl (by kernel_rfl) (by kernel_rfl) (by kernel_rfl) (fun _ _ _ h => h) (Or.inl ⟨by rfl, fun W hW => ?_⟩) hHeld ?_
      rotate_left
      · (go_simp; try with_reducible rfl)
      simp only [Act.put, List.setIfInBounds_toArray, List.set_cons_zero, List.set_cons_succ]
      refine takeH7 (v := ?_) 11 63 rfl rfl (by kernel_rfl) (by kernel_rfl) (by kernel_rfl) (fun _ _ _ h => h) (Or.inl ⟨by rfl, fun W hW => ?_⟩) hHeld ?_
      rotate_left
      · (go_simp; try with_reducible rfl)
      simp only [Act.put, List.setIfInBounds_toArray, List.set_cons_zero, List.set_cons_succ]
      refine takeH7 (v := ?_) 12 64 rfl rfl (by kernel_rfl) (by kernel_rfl) (by kernel_rfl) (fun _ _ _ h => h) (Or.inl ⟨by rfl, fun W hW => ?_⟩) hHeld ?_
      rotate_left
      · (go_simp; try with_reducible rfl)
      simp only [Act.put, List.setIfInBounds_toArray, List.set_cons_zero, List.set_cons_succ]
      refine takeH7 (v := ?_) 13 65 rfl rfl (by kernel_rfl) (by kernel_rfl) (by kernel_rfl) (fun _ _ _ h => h) (Or.inl ⟨by rfl, fun W hW => ?_⟩) hHeld ?_
      rotate_left
      · (go_simp; try with_reducible rfl)
      simp only [Act.put, List.setIfInBounds_toArray, List.set_cons_zero, List.set_cons_succ]
      refine takeH7 (v := ?_) 14 66 rfl rfl (by kernel_rfl) (by kernel_rfl) (by kernel_rfl) (fun _ _ _ h => h) (Or.inl ⟨by rfl, fun W hW => ?_⟩) hHeld ?_
      rotate_left
      · (go_simp; try with_reducible rfl)
      simp only [Act.put, List.setIfInBounds_toArray, List.set_cons_zero, List.set_cons_succ]
      refine takeH7 (v := ?_) 15 67 rfl rfl (by kernel_rfl) (by kernel_rfl) (by kernel_rfl) (fun _ _ _ h => h) (Or.inl ⟨by rfl, fun W hW => ?_⟩) hHeld ?_
      rotate_left
      · (go_simp; try with_reducible rfl)
      simp only [Act.put, List.setIfInBounds_toArray, List.set_cons_zero, List.set_cons_succ]
      refine takeH7 (v := .agg (prow p ra rg da)) 16 68 rfl rfl (by kernel_rfl) (by kernel_rfl) (by kernel_rfl) (fun _ _ _ h => h) (yields_load_row 29 (.tmp 1) rfl (by rfl) w.heap.size rfl 29 _ (0, 0) _ (fun W h => Ext.row h G9.out) Try.underlying29 rfl ZA.out) hHeld ?_
      simp only [Act.put, List.setIfInBounds_toArray, List.set_cons_zero, List.set_cons_succ]
      refine takeH7 (v := ?_) 18 70 rfl rfl (by kernel_rfl) (by kernel_rfl) (by kernel_rfl) (fun _ _ _ h => h) (Or.inl ⟨by rfl, fun W hW => ?_⟩) hHeld ?_
      rotate_left
      · (go_simp; try with_reducible rfl)
      simp only [Act.put, List.setIfInBounds_toArray, List.set_cons_zero, List.set_cons_succ]
      refine takeH7 (v := ?_) 19 71 rfl rfl (by kernel_rfl) (by kernel_rfl) (by kernel_rfl) (fun _ _ _ h => h) (Or.inl ⟨by rfl, fun W hW => ?_⟩) hHeld ?_
      rotate_left
      · (go_simp; try with_reducible rfl)
      simp only [Act.put, List.setIfInBounds_toArray, List.set_cons_zero, List.set_cons_succ]
      refine callH7 17 69 rfl rfl (by kernel_rfl) (by rfl) (by go_simp; first | exact ⟨rfl, rfl⟩ | rfl) ?_
      refine (CSZ.out _ hHeld).mono ?_
      rintro e w12 ⟨rfl, x12⟩
      refine ⟨_, rfl, hHeld.trans x12, ?_⟩
      replace hHeld := hHeld.trans x12
      simp only [Act.put, List.setIfInBounds_toArray, List.set_cons_zero, List.set_cons_succ]
      refine takeH7 (v := ?_) 20 72 rfl rfl (by kernel_rfl) (by kernel_rfl) (by kernel_rfl) (fun _ _ _ h => h) (Or.inl ⟨by rfl, fun W hW => ?_⟩) hHeld ?_
      rotate_left
      · (go_simp; try with_reducible rfl)
      simp only [Act.put, List.setIfInBounds_toArray, List.set_cons_zero, List.set_cons_succ]
      refine takeH7 (v := ?_) 21 73 rfl rfl (by kernel_rfl) (by kernel_rfl) (by kernel_rfl) (fun _ _ _ h => h) (Or.inl ⟨by rfl, fun W hW => ?_⟩) hHeld ?_
      rotate_left
      · (go_simp; try with_reducible rfl)
      simp only [Act.put, List.setIfInBounds_toArray, List.set_cons_zero, List.set_cons_succ]
      refine takeH7 (v := ?_) 22 74 rfl rfl (by kernel_rfl) (by kernel_rfl) (by kernel_rfl) (fun _ _ _ h => h) (Or.inl ⟨by rfl, fun W hW => ?_⟩) hHeld ?_
      rotate_left
      · (go_simp; try with_reducible rfl)
      simp only [Act.put, List.setIfInBounds_toArray, List.set_cons_zero, List.set_cons_succ]
      refine takeH7 (v := ?_) 23 75 rfl rfl (by kernel_rfl) (by kernel_rfl) (by kernel_rfl) (fun _ _ _ h => h) (Or.inl ⟨by rfl, fun W hW => ?_⟩) hHeld ?_
      rotate_left
      · (go_simp; try with_reducible rfl)
      simp only [Act.put, List.setIfInBounds_toArray, List.set_cons_zero, List.set_cons_succ]
      refine takeH7 (v := ?_) 24 76 rfl rfl (by kernel_rfl) (by kernel_rfl) (by kernel_rfl) (fun _ _ _ h => h) (Or.inl ⟨by rfl, fun W hW => ?_⟩) hHeld ?_
      rotate_left
      · (go_simp; try with_reducible rfl)
      simp only [Act.put, List.setIfInBounds_toArray, List.set_cons_zero, List.set_cons_succ]
      refine takeH7 (v := ?_) 25 77 rfl rfl (by kernel_rfl) (by kernel_rfl) (by kernel_rfl) (fun _ _ _ h => h) (Or.inl ⟨by rfl, fun W hW => ?_⟩) hHeld ?_
      rotate_left
      · (go_simp; try with_reducible rfl)
      simp only [Act.put, List.setIfInBounds_toArray, List.set_cons_zero, List.set_cons_succ]
      refine takeH7 (v := ?_) 26 78 rfl rfl (by kernel_rfl) (by kernel_rfl) (by kernel_rfl) (fun _ _ _ h => h) (Or.inl ⟨by rfl, fun W hW => ?_⟩) hHeld ?_
      rotate_left
      · (go_simp; try with_reducible rfl)
      simp only [Act.put, List.setIfInBounds_toArray, List.set_cons_zero, List.set_cons_succ]
      refine takeH7 (v := .agg (A)) 27 79 rfl rfl (by kernel_rfl) (by kernel_rfl) (by kernel_rfl) (fun _ _ _ h => h) (yields_load_row 29 (.tmp 6) rfl (by rfl) w8.heap.size rfl 29 _ (0, 0) _ (fun W h => Ext.row h H9.out) Try.underlying29 rfl ZZ.out) hHeld ?_
      simp only [Act.put, List.setIfInBounds_toArray, List.set_cons_zero, List.set_cons_succ]
      refine takeH7 (v := .agg (prow p ra rg da)) 28 80 rfl rfl (by kernel_rfl) (by kernel_rfl) (by kernel_rfl) (fun _ _ _ h => h) (yields_load_row 29 (.tmp 1) rfl (by rfl) w.heap.size rfl 29 _ (0, 0) _ (fun W h => Ext.row h G9.out) Try.underlying29 rfl ZA.out) hHeld ?_
      simp only [Act.put, List.setIfInBounds_toArray, List.set_cons_zero, List.set_cons_succ]
      refine callH7 29 81 rfl rfl (by kernel_rfl) (by rfl) (by go_simp; first | exact ⟨rfl, rfl⟩ | rfl) ?_
      refine (CEQ.out _ hHeld).mono ?_
      rintro e w13 ⟨rfl, x13⟩
      refine ⟨_, rfl, hHeld.trans x13, ?_⟩
      replace hHeld := hHeld.trans x13
      simp only [Act.put, List.setIfInBounds_toArray, List.set_cons_zero, List.set_cons_succ]
      refine takeH7 (v := ?_) 30 82 rfl rfl (by kernel_rfl) (by kernel_rfl) (by kernel_rfl) (fun _ _ _ h => h) (Or.inl ⟨by rfl, fun W hW => ?_⟩) hHeld ?_
      rotate_left
      · (go_simp; try with_reducible rfl)
      simp only [Act.put, List.setIfInBounds_toArray, List.set_cons_zero, List.set_cons_succ]
      refine takeH7 (v := ?_) 31 83 rfl rfl (by kernel_rfl) (by kernel_rfl) (by kernel_rfl) (fun _ _ _ h => h) (Or.inl ⟨by rfl, fun W hW => ?_⟩) hHeld ?_
      rotate_left
      · (go_simp; try with_reducible rfl)
      simp only [Act.put, List.setIfInBounds_toArray, List.set_cons_zero, List.set_cons_succ]
      refine callH7 32 84 rfl rfl (by kernel_rfl) (by rfl) (by go_simp; first | exact ⟨rfl, rfl⟩ | rfl) ?_
      refine (awake7_any _).mono ?_
      rintro e w14 ⟨rfl, x14⟩
      refine ⟨_, rfl, hHeld.trans x14, ?_⟩
      replace hHeld := hHeld.trans x14
      simp only [Act.put, List.setIfInBounds_toArray, List.set_cons_zero, List.set_cons_succ]
      refine takeH7 (v := ?_) 33 85 rfl rfl (by kernel_rfl) (by kernel_rfl) (by kernel_rfl) (fun _ _ _ h => h) (Or.inl ⟨by rfl, fun W hW => ?_⟩) hHeld ?_
      rotate_left
      · (go_simp; try with_reducible rfl)
      simp only [Act.put, List.setIfInBounds_toArray, List.set_cons_zero, List.set_cons_succ]
      refine takeH7 (v := ?_) 34 2 rfl rfl (by kernel_rfl) (by kernel_rfl) (by kernel_rfl) (fun _ _ _ h => h) (Or.inl ⟨by rfl, fun W hW => ?_⟩) hHeld ?_
      rotate_left
      · (go_simp; try with_reducible rfl)
      simp only [Act.put, List.setIfInBounds_toArray, List.set_cons_zero, List.set_cons_succ]
      refine wpAnyH_done (by kernel_rfl) ?_ _
      have Y14 := hid (Y9.out.trans hHeld)
      go_wp2_with fail
      go_ret
      exact ⟨rfl, Y14.out⟩
end wireBytes
end Go.Proofs.Ytlnjkjpllmfcaaa

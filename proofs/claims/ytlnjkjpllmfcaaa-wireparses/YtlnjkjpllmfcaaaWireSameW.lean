/-
  The walk of WireSame: two packets are one just if all their fields are the same.
-/
import Derived.Test.YtlnjkjpllmfcaaaTwoRefs
namespace Go.Proofs.Ytlnjkjpllmfcaaa
set_option linter.unusedVariables false
set_option maxRecDepth 100000
open Go.RowKit Go.Lib

theorem sameB_comm (p q : Pk) : sameB p q = sameB q p := by
  unfold sameB
  rw [BEq.comm (a := nlist p), BEq.comm (a := p.2.1), BEq.comm (a := p.2.2.1), BEq.comm (a := p.2.2.2)]
theorem sameB_text {p q : Pk} (hp : bnd p) (hq : bnd q) (rp : right p = true) (rq : right q = true) : sameB p q = (text p == text q) := by
  rw [Bool.eq_iff_iff, sameB_iff hp hq, beq_iff_eq]
  exact ⟨same_text, text_same rp hp.1 rq hq.1⟩
theorem sameB_seq {p q : Pk} (hp : bnd p) (hq : bnd q) (h : sameB p q = true) : sameB p (setn q 3 ((q.1 3 + 1) % 4294967296)) = false := by
  have e := (sameB_iff hp hq).1 h
  have hb : bnd (setn q 3 ((q.1 3 + 1) % 4294967296)) := by
    obtain ⟨⟨a, b, c, d⟩, k⟩ := hq
    refine ⟨⟨?_, ?_, c, d⟩, fun i hi => ?_⟩
    · show 0 ≤ (q.1 3 + 1) % 4294967296; omega
    · show (q.1 3 + 1) % 4294967296 < 4294967296; omega
    · show -9223372036854775808 ≤ (if i = 3 then _ else q.1 i) ∧ (if i = 3 then _ else q.1 i) < 9223372036854775808
      split
      · omega
      · exact k i hi
  cases hc : sameB p (setn q 3 ((q.1 3 + 1) % 4294967296)) with
  | false => rfl
  | true =>
    have f := (sameB_iff hp hb).1 hc
    have f3 : p.1 3 = (q.1 3 + 1) % 4294967296 := f.1.2.2.2.1
    have e3 : p.1 3 = q.1 3 := e.1.2.2.2.1
    have := hq.1.1
    have := hq.1.2.1
    omega
/-- the packet's row with another Seq -/
theorem prow_seq (q : Pk) (x : Int) (sa sg sd : Value) : (prow q sa sg sd).setIfInBounds 3 (.int .u32 x) = prow (setn q 3 x) sa sg sd := by
  simp [prow, setn]

theorem PL.val {K : Nat → Prop} {W : World} {x : Pk} {a b c : Value} (h : PL K W x a b c) : PVal W (.agg (prow x a b c)) x := ⟨_, _, _, rfl, h.mono (fun _ _ _ => trivial)⟩
/-- a whole block read, whatever the order -/
theorem yields_load_row {P : Program} {ops : Array Oper} {S : World → Prop} {o : Oper} {a : Act} (ty : TypeId) (x : Operand) (ho : o.op = .load ty x) (hw : Region.wanted o (yielded ops a.tmps) = true)
    (g : Nat) (hx : a.eval x = .pointer (some ⟨g, 0, none⟩)) (t : TypeId) (cs : Array Value) (fr : Nat × Nat) (d : TypeDesc) (hg : ∀ w, S w → w.heap[g]? = some (.cells cs t fr))
    (hu : P.underlying ty = some d) (hd : (match d with | .struct _ | .array _ _ => true | _ => false) = true) (hi : (P.info? ty).map (·.size) = some cs.size) : YieldsIf P ops S o (.agg cs) a :=
  .inl ⟨hw, fun w h => by
    unfold execOp
    simp only [ho, hx, Instr.loadAt, Instr.sureAddr, Sem.run_bind, Sem.run_pure, Result.andThen_ok, run_loadVar_row w g t ty cs fr d (hg w h) hu hd hi]⟩
/-- an operation taken first, its slot written out -/
theorem takeH7 {P : Program} {md : Region.Mode} {ops : Array Oper} {Q : Exit → Act → World → Prop} {S : World → Prop} (i d : Nat) {oi : Oper} {v : Value} {fuel : Nat} {listed : Array Bool} {a : Act} {w : World} (hi : ops[i]? = some oi) (hd : oi.dst = some d)
    (hs : Region.noSelect ops = true) (hf : Region.free md ops listed i = true) (hr : (Region.ready md ops listed).contains i = true)
    (hQ : ∀ c a w, Q (.panic c) (a.put oi.dst v) w → Q (.panic c) a w) (hy : YieldsIf P ops S oi v a) (hS : S w)
    (h : wpAnyH P md ops Q S fuel (listed.setIfInBounds i true) (a.put (some d) v) w) : wpAnyH P md ops Q S (fuel + 1) listed a w :=
  wpAnyH_take hi hs hf hr hQ hy hS (by rw [hd]; exact h)

namespace wireSame
set_option maxHeartbeats 8000000 in
theorem walk (v0 v1 : Value) (p q : Pk) (w : World) (hv : PVal w v0 p) (hb : bnd p) (hv1 : PVal w v1 q) (hb1 : bnd q) :
    Calls Try.prog 7 #[v0, v1] w fun e w' => e = .returned (.bool true) ∧ Ext w w' := by
  obtain ⟨ra, rg, da, rfl, pl⟩ := hv
  obtain ⟨sa, sg, sd, rfl, ql⟩ := hv1
  obtain ⟨w1, e1⟩ : ∃ w1, w1 = w.alloc (.cells (prow p ra rg da) 29) := ⟨_, rfl⟩
  obtain ⟨w2, e2⟩ : ∃ w2, w2 = w1.alloc (.cells (prow q sa sg sd) 29) := ⟨_, rfl⟩
  have X1 : Ext w w1 := by rw [e1]; exact (Ext.refl w).alloc _
  have X2 : Ext w1 w2 := by rw [e2]; exact (Ext.refl w1).alloc _
  have s1 : w1.heap.size = w.heap.size + 1 := by rw [e1]; simp
  have g1 : w2.heap[w.heap.size]? = some (.cells (prow p ra rg da) 29 (0, 0)) := X2.row (by rw [e1]; exact heap_alloc_new w _)
  have g2 : w2.heap[w1.heap.size]? = some (.cells (prow q sa sg sd) 29 (0, 0)) := by rw [e2]; exact heap_alloc_new w1 _
  obtain ⟨gp, egp⟩ : ∃ gp, gp = w.heap.size := ⟨_, rfl⟩
  obtain ⟨gq, egq⟩ : ∃ gq, gq = w1.heap.size := ⟨_, rfl⟩
  have EGP := hid egp
  have EGQ := hid egq
  have NE : Hid (gq = gp + 1) := by show _ = _; rw [egq, egp]; exact s1
  have HPL := hid (pl.mono (L := fun i => i < gp) (fun i hi _ => by omega))
  have HQL := hid (ql.mono (L := fun i => i < gp) (fun i hi _ => by omega))
  have HB := hid hb
  have HB1 := hid hb1
  have E1 := hid e1
  have E2 := hid e2
  have XX := hid (X1.trans X2)
  rw [← egp] at g1
  rw [← egq] at g2
  have GP := hid g1
  have GQ := hid g2
  have CS := hid (small_any w2 _ p (HPL.out.kept (.of_ext XX.out)).val)
  have SL := hid (fun h : smallB p = true => slim_of_small h)
  have SL1 := hid (fun h : smallB q = true => slim_of_small h)
  have ZA : Hid ((Try.prog.info? 29).map (·.size) = some (prow p ra rg da).size) := cells_packet
  have ZB : Hid ((Try.prog.info? 29).map (·.size) = some (prow q sa sg sd).size) := cells_packet
  clear e1 e2 X1 X2 s1 g1 g2 egp egq pl ql hb hb1
  go_enter Try.func7, Try.ntmps7
  go_wp2_with (first | rw [← E1.out] | rw [← E2.out, ← EGP.out, ← EGQ.out] | refine wpList_load_row rfl 29 _ rfl gp rfl 29 (prow p ra rg da) (0, 0) _ GP.out Try.underlying29 rfl ZA.out ?_)
  refine CS.out.mono ?_
  rintro e w3 ⟨rfl, X3⟩
  clear CS
  have GP3 := hid (X3.row GP.out)
  have GQ3 := hid (X3.row GQ.out)
  have Y3 := hid (XX.out.trans X3)
  clear X3
  cases hs : smallB p with
  | false =>
    clear hs
    go_wp2_with fail
    refine (awake7_any w3).mono ?_
    rintro e w4 ⟨rfl, X4⟩
    have Y4 := hid (Y3.out.trans X4)
    clear X4
    go_wp2_with fail
    go_ret
    exact ⟨rfl, Y4.out⟩
  | true =>
    have HSL := hid (SL.out hs)
    have CS1 := hid (small_any w3 _ q (HQL.out.kept (.of_ext Y3.out)).val)
    clear hs SL
    go_wp2_with (refine wpList_load_row_g rfl 29 _ rfl gq rfl 29 (prow q sa sg sd) (0, 0) _ GQ3.out Try.underlying29 rfl ZB.out ?_)
    refine CS1.out.mono ?_
    rintro e w4 ⟨rfl, X4⟩
    have GP4 := hid (X4.row GP3.out)
    have GQ4 := hid (X4.row GQ3.out)
    have Y4 := hid (Y3.out.trans X4)
    clear CS1 X4 GP3 GQ3
    cases hs : smallB q with
    | false =>
      clear hs
      go_wp2_with fail
      refine (awake7_any w4).mono ?_
      rintro e w5 ⟨rfl, X5⟩
      have Y5 := hid (Y4.out.trans X5)
      clear X5
      go_wp2_with fail
      go_ret
      exact ⟨rfl, Y5.out⟩
    | true =>
      have HSL1 := hid (SL1.out hs)
      have CE := hid (equal_any w4 _ _ p q (HPL.out.kept (.of_ext Y4.out)).val (HQL.out.kept (.of_ext Y4.out)).val HSL.out)
      clear hs SL1
      go_wp2_with (first
        | refine wpList_load_row_g rfl 29 (.tmp 2) rfl gp rfl 29 (prow p ra rg da) (0, 0) _ GP4.out Try.underlying29 rfl ZA.out ?_
        | refine wpList_load_row_g rfl 29 (.tmp 3) rfl gq rfl 29 (prow q sa sg sd) (0, 0) _ GQ4.out Try.underlying29 rfl ZB.out ?_)
      refine CE.out.mono ?_
      rintro e w5 ⟨rfl, X5⟩
      have GP5 := hid (X5.row GP4.out)
      have GQ5 := hid (X5.row GQ4.out)
      have Y5 := hid (Y4.out.trans X5)
      have CF := equal_any w5 _ _ q p (HQL.out.kept (.of_ext Y5.out)).val (HPL.out.kept (.of_ext Y5.out)).val HSL1.out
      rw [sameB_comm q p] at CF
      have CFH := hid CF
      clear CE X5 GP4 GQ4 CF
      go_wp2_with (first
        | refine wpList_load_row_g rfl 29 (.tmp 2) rfl gp rfl 29 (prow p ra rg da) (0, 0) _ GP5.out Try.underlying29 rfl ZA.out ?_
        | refine wpList_load_row_g rfl 29 (.tmp 3) rfl gq rfl 29 (prow q sa sg sd) (0, 0) _ GQ5.out Try.underlying29 rfl ZB.out ?_)
      refine CFH.out.mono ?_
      rintro e w6 ⟨rfl, X6⟩
      have GP6 := hid (X6.row GP5.out)
      have GQ6 := hid (X6.row GQ5.out)
      have Y6 := hid (Y5.out.trans X6)
      clear CFH X6 GP5 GQ5 Y5 Y4 Y3
      have SBT := hid (fun a b => sameB_text HB.out HB1.out a b)
      have SBS := hid (fun h => sameB_seq HB.out HB1.out h)
      generalize sameB p q = B at *
      go_wp2_with fail
      have CP : Hid (∀ W, Ext w6 W → Calls Try.prog 11 #[.agg (prow p ra rg da)] W fun e w' => ∃ ra rg da, e = .returned (.agg (prow p ra rg da)) ∧ PL (fun i => i < w6.heap.size ∨ W.heap.size ≤ i) w' p ra rg da ∧ Ext W w') := fun W X => by
        have sz := (Y6.out.trans X).size
        have s6 := Y6.out.size
        refine (ref_new (fun i => i < gp) W p ra rg da (HPL.out.kept (.of_ext (Y6.out.trans X))) HSL.out).mono ?_
        rintro e w' ⟨ra', rfl, l, x⟩
        exact ⟨_, _, _, rfl, l.mono (fun i _ h => h.elim (fun h => .inl (by have : i < gp := h; have := EGP.out; omega)) .inr), x⟩
      have CQ : Hid (∀ W, Ext w6 W → Calls Try.prog 11 #[.agg (prow q sa sg sd)] W fun e w' => ∃ ra rg da, e = .returned (.agg (prow q ra rg da)) ∧ PL (fun i => i < w6.heap.size ∨ W.heap.size ≤ i) w' q ra rg da ∧ Ext W w') := fun W X => by
        have sz := (Y6.out.trans X).size
        have s6 := Y6.out.size
        refine (ref_new (fun i => i < gp) W q sa sg sd (HQL.out.kept (.of_ext (Y6.out.trans X))) HSL1.out).mono ?_
        rintro e w' ⟨ra', rfl, l, x⟩
        exact ⟨_, _, _, rfl, l.mono (fun i _ h => h.elim (fun h => .inl (by have : i < gp := h; have := EGP.out; omega)) .inr), x⟩
      refine wp_region_held_drew (S := fun W => Ext w6 W) (by kernel_rfl) (Below.drew (Ext.refl w6)) (fun hHeld => ?_)
      refine takeH7 (v := .agg (prow p ra rg da)) 0 25 rfl rfl (by kernel_rfl) (by kernel_rfl) (by kernel_rfl) (fun _ _ _ h => h) (yields_load_row 29 (.tmp 2) rfl rfl gp rfl 29 _ (0, 0) _ (fun W h => Ext.row h GP6.out) Try.underlying29 rfl ZA.out) hHeld ?_
      simp only [Act.put, List.setIfInBounds_toArray, List.set_cons_zero, List.set_cons_succ]
      refine takeH7 (v := .agg (prow q sa sg sd)) 2 27 rfl rfl (by kernel_rfl) (by kernel_rfl) (by kernel_rfl) (fun _ _ _ h => h) (yields_load_row 29 (.tmp 3) rfl rfl gq rfl 29 _ (0, 0) _ (fun W h => Ext.row h GQ6.out) Try.underlying29 rfl ZB.out) hHeld ?_
      simp only [Act.put, List.setIfInBounds_toArray, List.set_cons_zero, List.set_cons_succ]
      refine two_refs (rp := .agg (prow p ra rg da)) (rq := .agg (prow q sa sg sd)) (p := p) (q := q) (w5 := w6) (by show 28 < 59; decide) rfl rfl rfl rfl rfl rfl rfl rfl rfl rfl rfl rfl rfl rfl rfl rfl rfl rfl rfl rfl rfl rfl rfl rfl rfl rfl
        (by kernel_rfl) (by kernel_rfl) (by kernel_rfl) (by kernel_rfl) (by kernel_rfl) (by kernel_rfl) (by kernel_rfl) (by kernel_rfl) (by kernel_rfl) (by kernel_rfl) (by kernel_rfl) (by kernel_rfl) (by kernel_rfl) (by kernel_rfl) CP.out CQ.out ?_ 4 0 false false _ _ (by decide) (by decide) ⟨0, 0, Fr.refl _, hHeld, fun h => absurd h (by decide), fun h => absurd h (by decide), fun h => absurd h (by decide), fun h => absurd h (by decide), fun h => absurd h (by decide)⟩
      intro pa pg pd qa qg qd ga gb w7 X7 GA GB LA LB
      simp only [Act.put, List.setIfInBounds_toArray, List.set_cons_zero, List.set_cons_succ]
      have GP7 := hid (X7.row GP6.out)
      have GQ7 := hid (X7.row GQ6.out)
      have Y7 := hid (Y6.out.trans X7)
      have HGA := hid GA
      have HGB := hid GB
      have HLA := hid LA
      have HLB := hid LB
      clear CP CQ hHeld GP6 GQ6 Y6 X7 GA GB LA LB
      go_wp2_with fail
      have RA : Hid (∀ W, (∃ n : Ever w7, W = n.W) → W.heap[ga]? = some (.cells (prow p pa pg pd) 35 (0, 0))) := by
        rintro W ⟨n, rfl⟩
        exact n.ok.row HGA.out
      have RB : Hid (∀ W, (∃ n : Ever w7, W = n.W) → W.heap[gb]? = some (.cells (prow q qa qg qd) 35 (0, 0))) := by
        rintro W ⟨n, rfl⟩
        exact n.ok.row HGB.out
      have CRA : Hid (∀ n : Ever w7, Calls Try.prog 10 #[.agg (prow p pa pg pd)] n.W fun e w' => e = .returned (.bool (right p)) ∧ Ext n.W w') := fun n => refRight_any _ _ p (HLA.out.val.ext n.ok) HSL.out
      have CRB : Hid (∀ n : Ever w7, Calls Try.prog 10 #[.agg (prow q qa qg qd)] n.W fun e w' => e = .returned (.bool (right q)) ∧ Ext n.W w') := fun n => refRight_any _ _ q (HLB.out.val.ext n.ok) HSL1.out
      have CTA : Hid (right p = true → ∀ n : Ever w7, Calls Try.prog 19 #[.agg (prow p pa pg pd)] n.W fun e w' => e = .returned (.string (str (text p))) ∧ Ext n.W w') := fun h n => text_any _ _ p (HLA.out.val.ext n.ok) HB.out.1 HSL.out h
      have CTB : Hid (right q = true → ∀ n : Ever w7, Calls Try.prog 19 #[.agg (prow q qa qg qd)] n.W fun e w' => e = .returned (.string (str (text q))) ∧ Ext n.W w') := fun h n => text_any _ _ q (HLB.out.val.ext n.ok) HB1.out.1 HSL1.out h
      have EQS : Hid (right p = true → right q = true → ((str (text p)).toList == (str (text q)).toList) = B) := fun a b => by rw [str_beq]; exact (SBT.out a b).symm
      clear SBT HLA HLB HGA HGB
      obtain ⟨rp, erp⟩ : ∃ rp, rp = right p := ⟨_, rfl⟩
      obtain ⟨rq, erq⟩ : ∃ rq, rq = right q := ⟨_, rfl⟩
      rw [← erp] at CRA CTA EQS
      rw [← erq] at CRB CTB EQS
      clear erp erq
      generalize str (text p) = TP at *
      generalize str (text q) = TQ at *
      have ALL : rp = false ∨ (rp = true ∧ rq = false) ∨ (rp = true ∧ rq = true) := by cases rp <;> cases rq <;> simp
      rcases ALL with rfl | ⟨rfl, rfl⟩ | ⟨rfl, rfl⟩
      case' inl =>
        refine wp_region_ext (by kernel_rfl) (by kernel_rfl) ?_
        have some := Ever.some w7
        (go_big_quiet_want; refine quiet_load_row 35 (.tmp 6) rfl ga rfl 35 (prow p pa pg pd) (0, 0) _ RA.out Try.underlying35 rfl cells_ref ?_; simp only [Act.put, List.setIfInBounds_toArray, List.set_cons_zero, List.set_cons_succ]; go_big_quiet_on)
        go_big_quiet_step ((go_at_call 10; refine (CRA.out _).mono ?_; rintro e w' ⟨rfl, Y⟩; exact ⟨rfl, ⟨_, (Ever.ok _).trans Y⟩, rfl⟩))
        go_big_quiet_step (fail)
        repeat (go_big_quiet_step (fail))
        refine wpQuiet_nil ?_
        rintro w8 ⟨⟨_, x8⟩, rfl⟩
        have Y8 := hid (Y7.out.trans x8)
        have GP8 := hid (x8.row GP7.out)
        have GQ8 := hid (x8.row GQ7.out)
        clear x8 some RA RB CRA CRB CTA CTB EQS GP7 GQ7 Y7
      case' inr.inl =>
        refine wp_region_ext (by kernel_rfl) (by kernel_rfl) ?_
        have some := Ever.some w7
        (go_big_quiet_want; refine quiet_load_row 35 (.tmp 6) rfl ga rfl 35 (prow p pa pg pd) (0, 0) _ RA.out Try.underlying35 rfl cells_ref ?_; simp only [Act.put, List.setIfInBounds_toArray, List.set_cons_zero, List.set_cons_succ]; go_big_quiet_on)
        go_big_quiet_step ((go_at_call 10; refine (CRA.out _).mono ?_; rintro e w' ⟨rfl, Y⟩; exact ⟨rfl, ⟨_, (Ever.ok _).trans Y⟩, rfl⟩))
        go_big_quiet_step (fail)
        (go_big_quiet_want; refine quiet_load_row 35 (.tmp 7) rfl gb rfl 35 (prow q qa qg qd) (0, 0) _ RB.out Try.underlying35 rfl cells_ref ?_; simp only [Act.put, List.setIfInBounds_toArray, List.set_cons_zero, List.set_cons_succ]; go_big_quiet_on)
        go_big_quiet_step ((go_at_call 10; refine (CRB.out _).mono ?_; rintro e w' ⟨rfl, Y⟩; exact ⟨rfl, ⟨_, (Ever.ok _).trans Y⟩, rfl⟩))
        repeat (go_big_quiet_step (fail))
        refine wpQuiet_nil ?_
        rintro w8 ⟨⟨_, x8⟩, rfl⟩
        have Y8 := hid (Y7.out.trans x8)
        have GP8 := hid (x8.row GP7.out)
        have GQ8 := hid (x8.row GQ7.out)
        clear x8 some RA RB CRA CRB CTA CTB EQS GP7 GQ7 Y7
      case' inr.inr =>
        have CTA := hid (CTA.out rfl)
        have CTB := hid (CTB.out rfl)
        have eqs := EQS.out rfl rfl
        refine wp_region_ext (by kernel_rfl) (by kernel_rfl) ?_
        have some := Ever.some w7
        (go_big_quiet_want; refine quiet_load_row 35 (.tmp 6) rfl ga rfl 35 (prow p pa pg pd) (0, 0) _ RA.out Try.underlying35 rfl cells_ref ?_; simp only [Act.put, List.setIfInBounds_toArray, List.set_cons_zero, List.set_cons_succ]; go_big_quiet_on)
        go_big_quiet_step ((go_at_call 10; refine (CRA.out _).mono ?_; rintro e w' ⟨rfl, Y⟩; exact ⟨rfl, ⟨_, (Ever.ok _).trans Y⟩, rfl⟩))
        go_big_quiet_step (fail)
        (go_big_quiet_want; refine quiet_load_row 35 (.tmp 7) rfl gb rfl 35 (prow q qa qg qd) (0, 0) _ RB.out Try.underlying35 rfl cells_ref ?_; simp only [Act.put, List.setIfInBounds_toArray, List.set_cons_zero, List.set_cons_succ]; go_big_quiet_on)
        go_big_quiet_step ((go_at_call 10; refine (CRB.out _).mono ?_; rintro e w' ⟨rfl, Y⟩; exact ⟨rfl, ⟨_, (Ever.ok _).trans Y⟩, rfl⟩))
        go_big_quiet_step (fail)
        go_big_quiet_step (fail)
        go_big_quiet_step (fail)
        (go_big_quiet_want; refine quiet_load_row 35 (.tmp 6) rfl ga rfl 35 (prow p pa pg pd) (0, 0) _ RA.out Try.underlying35 rfl cells_ref ?_; simp only [Act.put, List.setIfInBounds_toArray, List.set_cons_zero, List.set_cons_succ]; go_big_quiet_on)
        go_big_quiet_step ((go_at_call 19; refine (CTA.out _).mono ?_; rintro e w' ⟨rfl, Y⟩; exact ⟨rfl, ⟨_, (Ever.ok _).trans Y⟩, rfl⟩))
        (go_big_quiet_want; refine quiet_load_row 35 (.tmp 7) rfl gb rfl 35 (prow q qa qg qd) (0, 0) _ RB.out Try.underlying35 rfl cells_ref ?_; simp only [Act.put, List.setIfInBounds_toArray, List.set_cons_zero, List.set_cons_succ]; go_big_quiet_on)
        go_big_quiet_step ((go_at_call 19; refine (CTB.out _).mono ?_; rintro e w' ⟨rfl, Y⟩; exact ⟨rfl, ⟨_, (Ever.ok _).trans Y⟩, rfl⟩))
        repeat (go_big_quiet_step (fail))
        refine wpQuiet_nil ?_
        rintro w8 ⟨⟨_, x8⟩, rfl⟩
        have Y8 := hid (Y7.out.trans x8)
        have GP8 := hid (x8.row GP7.out)
        have GQ8 := hid (x8.row GQ7.out)
        clear x8 some RA RB CRA CRB CTA CTB EQS eqs GP7 GQ7 Y7
      all_goals
        have c3 : w8.cell? ⟨gq, 3, none⟩ = some (.int .u32 (q.1 3)) := by rw [cell_of_row _ _ _ _ _ _ GQ8.out]; rfl
        have f3 : w8.frozen? ⟨gq, 3, none⟩ = false := frozen_of_row _ _ _ _ _ GQ8.out
        obtain ⟨w9, e9⟩ : ∃ w9, w9 = w8.setCell ⟨gq, 3, none⟩ (.int .u32 ((q.1 3 + 1) % 4294967296)) := ⟨_, rfl⟩
        have gq9 : w9.heap[gq]? = some (.cells (prow (setn q 3 ((q.1 3 + 1) % 4294967296)) sa sg sd) 29 (0, 0)) := by
          rw [e9, setCell_eq_setRow _ _ _ _ _ _ _ GQ8.out, prow_seq]
          exact setRow_heap _ _ _ _ _ _ GQ8.out
        have GQ9 := hid gq9
        have GP9 : Hid (w9.heap[gp]? = some (.cells (prow p ra rg da) 29 (0, 0))) := by
          show _ = _
          rw [e9, heap_setCell_other _ _ _ _ (show gp ≠ gq by have := NE.out; omega)]
          exact GP8.out
        have Y9 : Hid (Ext w w9) := by
          show Ext w w9
          rw [e9]
          exact Y8.out.setCell (show w.heap.size ≤ gq by have := NE.out; have := EGP.out; omega) _
        have KP : Kept (fun i => i < gp) w w9 := by
          rw [e9]
          exact (Kept.of_ext Y8.out).setCell (show ¬ gq < gp by have := NE.out; omega) _
        have CE := hid (equal_any w9 _ _ p (setn q 3 ((q.1 3 + 1) % 4294967296)) (HPL.out.kept KP).val (PL.val (x := setn q 3 ((q.1 3 + 1) % 4294967296)) (a := sa) (b := sg) (c := sd) (HQL.out.kept KP)) HSL.out)
        have E9 := hid e9
        have ZC : Hid ((Try.prog.info? 29).map (·.size) = some (prow (setn q 3 ((q.1 3 + 1) % 4294967296)) sa sg sd).size) := cells_packet
        clear gq9 KP e9
        cases B with
        | false =>
          clear CE SBS
          go_wp2_with (rw [← E9.out])
          refine (awake7_any w9).mono ?_
          rintro e w10 ⟨rfl, X10⟩
          have Y10 := hid (Y9.out.trans X10)
          clear X10
          go_wp2_with fail
          go_ret
          exact ⟨rfl, Y10.out⟩
        | true =>
          have CE2 := CE.out
          rw [SBS.out rfl] at CE2
          have CEH := hid CE2
          clear CE CE2 SBS
          go_wp2_with (first
            | rw [← E9.out]
            | refine wpList_load_row_g rfl 29 (.tmp 2) rfl gp rfl 29 (prow p ra rg da) (0, 0) _ GP9.out Try.underlying29 rfl ZA.out ?_
            | refine wpList_load_row_g rfl 29 (.tmp 3) rfl gq rfl 29 (prow (setn q 3 ((q.1 3 + 1) % 4294967296)) sa sg sd) (0, 0) _ GQ9.out Try.underlying29 rfl ZC.out ?_)
          refine CEH.out.mono ?_
          rintro e w10 ⟨rfl, X10⟩
          have Y10 := hid (Y9.out.trans X10)
          clear X10 CEH
          go_wp2_with fail
          refine (awake7_any w10).mono ?_
          rintro e w11 ⟨rfl, X11⟩
          have Y11 := hid (Y10.out.trans X11)
          clear X11
          go_wp2_with fail
          go_ret
          exact ⟨rfl, Y11.out⟩
end wireSame
end Go.Proofs.Ytlnjkjpllmfcaaa

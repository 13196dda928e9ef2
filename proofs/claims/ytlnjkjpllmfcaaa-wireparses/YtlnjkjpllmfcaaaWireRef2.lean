/-
  Walks of the law's small and ref.
-/
import Derived.Test.YtlnjkjpllmfcaaaWireRef
namespace Go.Proofs.Ytlnjkjpllmfcaaa
set_option linter.unusedVariables false
set_option maxRecDepth 100000
open Go.RowKit Go.Lib

/-- may a packet be gone through? -/
def smallB (p : Pk) : Bool := decide (p.2.1.length ≤ 40) && (decide (p.2.2.1.length ≤ 60) && decide (p.2.2.2.length ≤ 300))

set_option maxHeartbeats 2000000 in
theorem small_any (w : World) (v : Value) (p : Pk) (hv : PVal w v p) :
    Calls Try.prog 8 #[v] w fun e w' => e = .returned (.bool (smallB p)) ∧ Ext w w' := by
  obtain ⟨ra, rg, da, rfl, ⟨ao, n1, a1, rfl, la, ma, na, _⟩, ⟨go, n2, a2, rfl, lg, mg, ng, _⟩, ⟨d0, n3, a3, rfl, ld, md, nd, _⟩⟩ := hv
  rw [acells_length] at la
  rw [gcells_length] at lg
  rw [bcells_length] at ld
  obtain ⟨w1, e1⟩ : ∃ w1, w1 = w.alloc (.cells (prow p (.slice ao n1 a1) (.slice go n2 a2) (.slice d0 n3 a3)) 29) := ⟨_, rfl⟩
  have X1 : Hid (Ext w w1) := by rw [e1]; exact (Ext.refl w).alloc _
  have g1 : w1.heap[w.heap.size]? = some (.cells (prow p (.slice ao n1 a1) (.slice go n2 a2) (.slice d0 n3 a3)) 29 (0, 0)) := by rw [e1]; exact heap_alloc_new w _
  have c1 : w1.cell? ⟨w.heap.size, 10, none⟩ = some (.slice ao n1 a1) := by rw [cell_of_row _ _ _ _ _ _ g1]; rfl
  have c2 : w1.cell? ⟨w.heap.size, 11, none⟩ = some (.slice go n2 a2) := by rw [cell_of_row _ _ _ _ _ _ g1]; rfl
  have c3 : w1.cell? ⟨w.heap.size, 12, none⟩ = some (.slice d0 n3 a3) := by rw [cell_of_row _ _ _ _ _ _ g1]; rfl
  have E1 := hid e1
  have SB : Hid (smallB p = (decide (n1 ≤ 40) && (decide (n2 ≤ 60) && decide (n3 ≤ 300)))) := by
    show _ = _
    unfold smallB
    rw [show p.2.1.length = n1 by omega, show p.2.2.1.length = n2 by omega, show p.2.2.2.length = n3 by omega]
  generalize smallB p = B at *
  unfold maxLen at na ng nd
  clear e1 g1 la lg ld
  generalize prow p (.slice ao n1 a1) (.slice go n2 a2) (.slice d0 n3 a3) = A at *
  by_cases t1 : n1 ≤ 40
  · have d1 : decide ((n1 : Int) ≤ 40) = true := by simp; omega
    by_cases t2 : n2 ≤ 60
    · have d2 : decide ((n2 : Int) ≤ 60) = true := by simp; omega
      by_cases t3 : n3 ≤ 300
      · have d3 : decide ((n3 : Int) ≤ 300) = true := by simp; omega
        have E : Hid (B = true) := by show _ = _; rw [SB.out]; simp [t1, t2, t3]
        go_enter Try.func8, Try.ntmps8
        go_wp2_with (rw [← E1.out])
        go_ret
        exact ⟨by rw [E.out]; rfl, X1.out⟩
      · have d3 : decide ((n3 : Int) ≤ 300) = false := by simp; omega
        have E : Hid (B = false) := by show _ = _; rw [SB.out]; simp [t1, t2, t3]
        clear t3
        go_enter Try.func8, Try.ntmps8
        go_wp2_with (rw [← E1.out])
        go_ret
        exact ⟨by rw [E.out]; rfl, X1.out⟩
    · have d2 : decide ((n2 : Int) ≤ 60) = false := by simp; omega
      have E : Hid (B = false) := by show _ = _; rw [SB.out]; simp [t1, t2]
      clear t2
      go_enter Try.func8, Try.ntmps8
      go_wp2_with (rw [← E1.out])
      go_ret
      exact ⟨by rw [E.out]; rfl, X1.out⟩
  · have d1 : decide ((n1 : Int) ≤ 40) = false := by simp; omega
    have E : Hid (B = false) := by show _ = _; rw [SB.out]; simp [t1]
    clear t1
    go_enter Try.func8, Try.ntmps8
    go_wp2_with (rw [← E1.out])
    go_ret
    exact ⟨by rw [E.out]; rfl, X1.out⟩

theorem info_u64' : (Try.prog.info? 23).map (fun i => (i.zero, i.size, i.bytes)) = some (some (.int .u64 0), 1, 8) := by kernel_rfl
theorem cells_ref : (Try.prog.info? 35).map (·.size) = some 13 := by kernel_rfl

theorem owns_rates {K : Nat → Prop} {w : World} {base : Nat} {v : Value} {l : List UInt64} (h : w.ownsRow base 23 1 v l.length (acells l)) (hK : ∀ i, base ≤ i → K i) : RowK K w v 1 (acells l) := by
  rcases h.2 with ⟨rfl, h0⟩ | ⟨g, cap, cur, rfl, hb, hg, hnc, hcm, hcs, htake⟩
  · have e : l = [] := List.eq_nil_of_length_eq_zero h0
    subst e
    exact RowK.nil _ _ _
  · refine ⟨_, _, cap, rfl, by rw [acells_length, Nat.mul_one], hnc, hcm, fun _ => ⟨g, 0, rfl, hK g hb, fun j u hu => ?_⟩⟩
    rw [Nat.zero_add, cell_of_row w g j _ _ _ hg]
    have hj : j < l.length := by rw [← acells_length l]; exact (List.getElem?_eq_some_iff.1 hu).1
    rw [← htake, List.getElem?_take_of_lt (by omega)] at hu
    simpa using hu

theorem append_rate (w : World) (base : Nat) (v : Value) (l : List UInt64) (x : UInt64) (hown : w.ownsRow base 23 1 v l.length (acells l)) (g : Nat) (hc : w.cell? ⟨g, 0, none⟩ = some (aval x)) (hl : l.length ≤ 100000) (hb : base ≤ w.heap.size) :
    ∃ v' w', (Builtin.append_ #[33, 33] 33 #[v, .slice (some ⟨g, 0, none⟩) 1 1]).run Try.prog w = .ok v' w' ∧ w'.ownsRow base 23 1 v' (l ++ [x]).length (acells (l ++ [x])) ∧ w.grownBy w' v.ownBlock := by
  obtain ⟨i0, hi, hz0, hz1, hz2⟩ := info_parts info_u64'
  obtain ⟨v', w', r, o, gb, _⟩ := run_append_own (P := Try.prog) w base 33 33 23 i0 (.int .u64 0) 1 8 Try.underlying33 hi hz0 hz1 hz2 rfl (by decide) v l.length (acells l) hown ⟨g, 0, none⟩ 1 1 [aval x] rfl (by
      intro j u hu
      have hj : j = 0 := by have := (List.getElem?_eq_some_iff.1 hu).1; simp at this; exact this
      subst hj
      simp at hu
      subst hu
      rw [addr_on]
      exact hc) (by intro u hu; simp at hu; subst hu; rfl) (by unfold maxLen; omega) (by omega) hb
  refine ⟨v', w', r, ?_, gb⟩
  rw [List.length_append]
  simpa [acells] using o

/-- the reference's packet before its rates are laid -/
abbrev zref : Array Value := #[.int .i64 0, .int .i64 0, .int .i64 0, .int .u32 0, .int .i64 0, .int .i64 0, .int .i64 0, .int .i64 0, .int .i64 0, .int .u64 0, .slice none 0 0, .slice none 0 0, .slice none 0 0]

set_option maxHeartbeats 8000000 in
theorem ref_any (w : World) (v : Value) (p : Pk) (hv : PVal w v p) (hl : slim p) :
    Calls Try.prog 11 #[v] w fun e w' => ∃ v', e = .returned v' ∧ PVal w' v' p ∧ Ext w w' := by
  obtain ⟨ra, rg, da, rfl, pl⟩ := hv
  have HPL := hid pl
  obtain ⟨⟨ao, n1, a1, rfl, la, ma, na, ha⟩, ⟨go, n2, a2, rfl, _⟩, ⟨d0, n3, a3, rfl, _⟩⟩ := pl
  rw [acells_length, Nat.mul_one] at la
  subst la
  obtain ⟨w1, e1⟩ : ∃ w1, w1 = (w.alloc (.cells (prow p (.slice ao p.2.1.length a1) (.slice go n2 a2) (.slice d0 n3 a3)) 29)).alloc (.cells zref 35) := ⟨_, rfl⟩
  have X1 : Ext w w1 := by rw [e1]; exact ((Ext.refl w).alloc _).alloc _
  have s1 : w1.heap.size = w.heap.size + 1 + 1 := by rw [e1]; simp
  have g1 : w1.heap[w.heap.size]? = some (.cells (prow p (.slice ao p.2.1.length a1) (.slice go n2 a2) (.slice d0 n3 a3)) 29 (0, 0)) := by rw [e1]; exact heap_alloc2_old w _ _
  have g2 : w1.heap[w.heap.size + 1]? = some (.cells zref 35 (0, 0)) := by rw [e1]; exact heap_alloc2_new w _ _
  have E1 := hid e1
  have c0 : w1.cell? ⟨w.heap.size, 0, none⟩ = some (.int .i64 (p.1 0)) := by rw [cell_of_row _ _ _ _ _ _ g1]; rfl
  have c1 : w1.cell? ⟨w.heap.size, 1, none⟩ = some (.int .i64 (p.1 1)) := by rw [cell_of_row _ _ _ _ _ _ g1]; rfl
  have c2 : w1.cell? ⟨w.heap.size, 2, none⟩ = some (.int .i64 (p.1 2)) := by rw [cell_of_row _ _ _ _ _ _ g1]; rfl
  have c3 : w1.cell? ⟨w.heap.size, 3, none⟩ = some (.int .u32 (p.1 3)) := by rw [cell_of_row _ _ _ _ _ _ g1]; rfl
  have c4 : w1.cell? ⟨w.heap.size, 4, none⟩ = some (.int .i64 (p.1 4)) := by rw [cell_of_row _ _ _ _ _ _ g1]; rfl
  have c5 : w1.cell? ⟨w.heap.size, 5, none⟩ = some (.int .i64 (p.1 5)) := by rw [cell_of_row _ _ _ _ _ _ g1]; rfl
  have c6 : w1.cell? ⟨w.heap.size, 6, none⟩ = some (.int .i64 (p.1 6)) := by rw [cell_of_row _ _ _ _ _ _ g1]; rfl
  have c7 : w1.cell? ⟨w.heap.size, 7, none⟩ = some (.int .i64 (p.1 7)) := by rw [cell_of_row _ _ _ _ _ _ g1]; rfl
  have c8 : w1.cell? ⟨w.heap.size, 8, none⟩ = some (.int .i64 (p.1 8)) := by rw [cell_of_row _ _ _ _ _ _ g1]; rfl
  have c9 : w1.cell? ⟨w.heap.size, 9, none⟩ = some (.int .u64 (p.1 9)) := by rw [cell_of_row _ _ _ _ _ _ g1]; rfl
  have c10 : w1.cell? ⟨w.heap.size, 11, none⟩ = some (.slice go n2 a2) := by rw [cell_of_row _ _ _ _ _ _ g1]; rfl
  have c11 : w1.cell? ⟨w.heap.size, 12, none⟩ = some (.slice d0 n3 a3) := by rw [cell_of_row _ _ _ _ _ _ g1]; rfl
  obtain ⟨w2, e2⟩ : ∃ w2, w2 = w1.alloc (.cells (prow p (.slice none 0 0) (.slice go n2 a2) (.slice d0 n3 a3)) 35) := ⟨_, rfl⟩
  have SN : Hid ((w1.alloc (.cells zref 35)).setRow w1.heap.size (prow p (.slice none 0 0) (.slice go n2 a2) (.slice d0 n3 a3)) = w2) := by rw [e2]; exact setRow_new w1 _ _ _ _
  have GZ : Hid ((w1.alloc (.cells zref 35)).heap[w1.heap.size]? = some (.cells zref 35 (0, 0))) := heap_alloc_new w1 _
  have ON : Hid ((prow p (.slice none 0 0) (.slice go n2 a2) (.slice d0 n3 a3)).all (·.oneCell') = true) := by simp [prow, Value.oneCell', Hid]
  have X2 : Ext w1 w2 := by rw [e2]; exact (Ext.refl w1).alloc _
  have s2 : w2.heap.size = w1.heap.size + 1 := by rw [e2]; simp
  have h2 : w2.heap[w1.heap.size]? = some (.cells (prow p (.slice none 0 0) (.slice go n2 a2) (.slice d0 n3 a3)) 35 (0, 0)) := by rw [e2]; exact heap_alloc_new w1 _
  have HH := hid (And.intro (X2.row g1) (And.intro (X2.row g2) (And.intro h2 (X1.trans X2))))
  have d10 : w2.cell? ⟨w.heap.size, 10, none⟩ = some (.slice ao p.2.1.length a1) := by rw [cell_of_row _ _ _ _ _ _ (X2.row g1)]; rfl
  have l1 := hl.1
  have HA := hid ha
  have S1 := hid s1
  have S2 := hid s2
  unfold maxLen at na
  clear e1 e2 X1 X2 g1 g2 h2 s1 s2 ha
  go_enter Try.func11, Try.ntmps11
  go_wp2_with (first | rw [← E1.out] | (refine wpList_store_row rfl 35 _ _ rfl w1.heap.size (prow p (.slice none 0 0) (.slice go n2 a2) (.slice d0 n3 a3)) rfl rfl 35 zref GZ.out cells_ref rfl ON.out ?_; rw [SN.out]))
  obtain ⟨gx, egx⟩ : ∃ gx, gx = w1.heap.size := ⟨_, rfl⟩
  have GX := hid egx
  rw [← egx] at HH S1 S2 ⊢
  clear c0 c1 c2 c3 c4 c5 c6 c7 c8 c9 c10 c11 d10 egx SN GZ
  go_loopw [34] (fun i wr => ∃ (k : Nat) (u : Value), k ≤ p.2.1.length ∧ i = .int .i64 k ∧ wr.heap[gx]? = some (.cells (prow p u (.slice go n2 a2) (.slice d0 n3 a3)) 35 (0, 0)) ∧ wr.ownsRow w2.heap.size 23 1 u (p.2.1.take k).length (acells (p.2.1.take k)) ∧ Kept (fun i => i < w2.heap.size ∧ i ≠ gx) w2 wr) (fun i _ => (p.2.1.length - intOf i).toNat)
  case atStart => exact ⟨0, _, by omega, rfl, HH.2.2.1, World.ownsRow_nil _ _ _ _, Kept.refl _ _⟩
  case round =>
    obtain ⟨k, u, hk, rfl, hg, ho, hkept⟩ := hrel
    have gxl := lt_of_row hg
    have szr := hkept.size
    by_cases t : k < p.2.1.length
    · obtain ⟨b, o, rfl, _, hc⟩ := HA.out (by omega)
      have x0 := HH.2.2.2.cell (hc k _ (acells_at p.2.1 k t))
      have bl : b < w.heap.size := block_lt_of_cell (hc k _ (acells_at p.2.1 k t))
      have x1 : wr.cell? ⟨b, o + k, none⟩ = some (.int .u64 ((p.2.1.getD k 0).toNat : Int)) := hkept.cell (show b < w2.heap.size ∧ b ≠ gx by have := S1.out; have := S2.out; omega) x0
      have u1 : wr.cell? ⟨gx, 10, none⟩ = some u := by rw [cell_of_row _ _ _ _ _ _ hg]; rfl
      obtain ⟨w3, e3⟩ : ∃ w3, w3 = wr.alloc (.cells #[.int .u64 ((p.2.1.getD k 0).toNat : Int)] 23) := ⟨_, rfl⟩
      have X3 : Ext wr w3 := by rw [e3]; exact (Ext.refl wr).alloc _
      have n3' : w3.cell? ⟨wr.heap.size, 0, none⟩ = some (aval (p.2.1.getD k 0)) := by rw [e3, cell_of_row _ _ 0 _ _ _ (heap_alloc_new wr _)]; rfl
      have o3 : w3.ownsRow w2.heap.size 23 1 u (p.2.1.take k).length (acells (p.2.1.take k)) := by rw [e3]; exact ho.alloc _
      obtain ⟨u4, w4, r4, o4, gb4⟩ := append_rate w3 w2.heap.size u (p.2.1.take k) (p.2.1.getD k 0) o3 wr.heap.size n3' (by rw [List.length_take]; omega) (by have := X3.size; omega)
      rw [← take_snocA p.2.1 k t] at o4
      have gx2 : gx < w2.heap.size := by have := S2.out; omega
      have hg4 : w4.heap[gx]? = some (.cells (prow p u (.slice go n2 a2) (.slice d0 n3 a3)) 35 (0, 0)) := by
        rw [gb4.block gx (by have := X3.size; omega) (fun e => by have := (o3.lt gx e.symm).1; omega)]; exact X3.row hg
      have u4c : w4.cell? ⟨gx, 10, none⟩ = some u := by rw [cell_of_row _ _ _ _ _ _ hg4]; rfl
      have f4 : w4.frozen? ⟨gx, 10, none⟩ = false := frozen_of_row _ _ _ _ _ hg4
      obtain ⟨ao4, an4, ac4, ev4⟩ := owns_slice o4
      have FIN : Hid ((w4.setCell ⟨gx, 10, none⟩ u4).heap[gx]? = some (.cells (prow p u4 (.slice go n2 a2) (.slice d0 n3 a3)) 35 (0, 0)) ∧ (w4.setCell ⟨gx, 10, none⟩ u4).ownsRow w2.heap.size 23 1 u4 (p.2.1.take (k + 1)).length (acells (p.2.1.take (k + 1))) ∧ Kept (fun i => i < w2.heap.size ∧ i ≠ gx) w2 (w4.setCell ⟨gx, 10, none⟩ u4)) := by
        refine ⟨?_, ⟨o4.1, ?_⟩, ?_⟩
        · rw [setCell_eq_setRow _ _ _ _ _ _ _ hg4]; exact setRow_heap _ _ _ _ _ _ hg4
        · rcases o4.2 with h0 | ⟨b', cap, cur, ev, hb0, hgb, r⟩
          · exact .inl h0
          · exact .inr ⟨b', cap, cur, ev, hb0, by rw [heap_setCell_other _ _ _ _ (show b' ≠ gx by omega)]; exact hgb, r⟩
        · exact ((hkept.trans (.of_ext X3)).grown gb4 (fun j e => fun h => by have := (o3.lt j e).1; have : j < w2.heap.size := h.1; omega)).setCell (p := ⟨gx, 10, none⟩) (fun h => h.2 rfl) _
      have R4 := hid r4
      have E3 := hid e3
      have t1 : (k : Int) < (p.2.1.length : Int) := by omega
      have t2 : (0 : Int) ≤ (k : Int) := by omega
      clear x0 hc hg ho hkept X3 n3' o3 r4 o4 gb4 hg4 e3
      subst ev4
      generalize ((p.2.1.getD k 0).toNat : Int) = x at *
      go_wp2_with (at_builtin; rw [← E3.out]; refine wpList_append_run rfl (.tmp 39) (.tmp 41) 33 rfl _ _ _ _ rfl rfl R4.out ?_)
      go_roundw
      case rel => exact ⟨k + 1, _, by omega, by go_num, FIN.1, FIN.2.1, FIN.2.2⟩
      case measure => simp [intOf]; omega
    · obtain rfl : k = p.2.1.length := by omega
      rw [List.take_length] at ho
      obtain ⟨ao4, an4, ac4, ev4⟩ := owns_slice ho
      have gs1 := S1.out
      have gs2 := S2.out
      have hz := hkept.row (show w.heap.size + 1 < w2.heap.size ∧ w.heap.size + 1 ≠ gx by omega) HH.2.1
      have KW : Hid (Ext w wr) := Below.trans HH.2.2.2 (hkept.below (by have := HH.2.2.2.size; omega) (fun i hi => by show i < w2.heap.size ∧ i ≠ gx; omega))
      have G9 : Hid ((wr.setRow (w.heap.size + 1) (prow p u (.slice go n2 a2) (.slice d0 n3 a3))).heap[w.heap.size + 1]? = some (.cells (prow p u (.slice go n2 a2) (.slice d0 n3 a3)) 35 (0, 0))) := setRow_heap _ _ _ _ _ _ hz
      have ON9 : Hid ((prow p u (.slice go n2 a2) (.slice d0 n3 a3)).all (·.oneCell') = true) := by rw [ev4]; simp [prow, Value.oneCell', Hid]
      have FIN : Hid (PVal (wr.setRow (w.heap.size + 1) (prow p u (.slice go n2 a2) (.slice d0 n3 a3))) (.agg (prow p u (.slice go n2 a2) (.slice d0 n3 a3))) p ∧ Ext w (wr.setRow (w.heap.size + 1) (prow p u (.slice go n2 a2) (.slice d0 n3 a3)))) := by
        have X9 : Ext w (wr.setRow (w.heap.size + 1) (prow p u (.slice go n2 a2) (.slice d0 n3 a3))) := KW.out.setRow (by omega) _
        have pk := HPL.out.kept (.of_ext X9)
        refine ⟨⟨u, _, _, rfl, ?_, pk.2.1, pk.2.2⟩, X9⟩
        exact ((owns_rates (K := fun i => w2.heap.size ≤ i) ho (fun i hi => hi)).kept ((Kept.refl _ wr).setRow (by omega) _)).mono (by decide) (fun _ _ _ => trivial)
      have HG := hid hg
      have HZ := hid hz
      clear hg ho hkept hz
      subst ev4
      go_wp2_with (first
        | refine wpList_load_row rfl 35 _ rfl gx rfl 35 (prow p (.slice ao4 an4 ac4) (.slice go n2 a2) (.slice d0 n3 a3)) (0, 0) _ HG.out Try.underlying35 rfl cells_ref ?_
        | refine wpList_store_row rfl 35 _ _ rfl (w.heap.size + 1) (prow p (.slice ao4 an4 ac4) (.slice go n2 a2) (.slice d0 n3 a3)) rfl rfl 35 zref HZ.out cells_ref rfl ON9.out ?_)
      (try simp only [Exit.inBlock, Exit.then])
      refine bodyPost_ret (results_cell_row Try.results11 _ _ (w.heap.size + 1) 35 (prow p (.slice ao4 an4 ac4) (.slice go n2 a2) (.slice d0 n3 a3)) (0, 0) _ rfl G9.out Try.underlying35 rfl cells_ref) rfl ?_
      exact ⟨_, rfl, FIN.1, FIN.2⟩
end Go.Proofs.Ytlnjkjpllmfcaaa

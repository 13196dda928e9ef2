/-
  Walks of the other fields: put, get, fits, drop.
-/
import Derived.Test.YtlnjkjpllmfcaaaWireNum
namespace Go.Proofs.Ytlnjkjpllmfcaaa
set_option linter.unusedVariables false
set_option maxRecDepth 100000
open Go.RowKit Go.Lib

set_option maxHeartbeats 2000000 in
theorem fits_num {c pf i : Nat} {top : Int} (hn : IsNum c pf i top) (K : Nat → Prop) (w : World) (gp pb tb : Nat) (p : Pk) (hp : PAt K w gp p) (hb : w.heap[pb]? = some (.cells #[.func (.func pf) #[] #[]] 90 (0, 0))) (ht : w.heap[tb]? = some (.cells #[.int .i64 top] 3 (0, 0))) :
    Calls Try.prog 99 #[.pointer (some ⟨gp, 0, none⟩), .pointer (some ⟨pb, 0, none⟩), .pointer (some ⟨tb, 0, none⟩)] w fun e w' => e = .returned (.bool (fits c p)) ∧ Ext w w' := by
  obtain ⟨ra, rg, da, h1, _⟩ := hp
  have c1 : w.cell? ⟨gp, i, none⟩ = some (.int .i64 (p.1 i)) := by rw [cell_of_row _ _ _ _ _ _ h1, prow_num hn]
  have c2 : w.cell? ⟨pb, 0, none⟩ = some (.func (.func pf) #[] #[]) := by rw [cell_of_row _ _ _ _ _ _ hb]; rfl
  have c3 : w.cell? ⟨tb, 0, none⟩ = some (.int .i64 top) := by rw [cell_of_row _ _ _ _ _ _ ht]; rfl
  have EN := place_enters hn
  unfold Entered at EN
  have FT : Hid (fits c p = upto (p.1 i) top) := num_fits hn p
  have HN := hid hn
  clear hb h1 ht hn
  generalize p.1 i = x at *
  have XD := fun n => hid ((Ext.refl w).drewN n)
  by_cases t1 : 0 ≤ x
  · have d1 : decide (0 ≤ x) = true := by simp [t1]
    have FT2 : Hid (fits c p = decide (x ≤ top)) := by show _ = _; rw [FT.out]; simp [upto, t1]
    clear FT
    go_enter Try.func99, Try.ntmps99
    go_wp2_with fail
    go_quiet (exact Calls.quiet_of_same (place_any HN.out gp _))
    go_wp2_with fail
    go_ret
    exact ⟨by rw [FT2.out]; rfl, (XD _).out⟩
  · have d1 : decide (0 ≤ x) = false := by simp; omega
    have FT2 : Hid (fits c p = false) := by show _ = _; rw [FT.out]; simp [upto, t1]
    clear FT t1
    go_enter Try.func99, Try.ntmps99
    go_wp2_with fail
    go_quiet (exact Calls.quiet_of_same (place_any HN.out gp _))
    go_wp2_with fail
    go_ret
    exact ⟨by rw [FT2.out]; rfl, (XD _).out⟩

set_option maxHeartbeats 1000000 in
theorem put_seq (K : Nat → Prop) (w : World) (gp gw : Nat) (p : Pk) (l : List UInt8) (hp : PAt K w gp p) (hf : fine p) (h : Wr K w gw l) (hl : l.length ≤ 1000) :
    Calls Try.prog 53 #[.pointer (some ⟨gp, 0, none⟩), .pointer (some ⟨gw, 0, none⟩)] w fun e w' => e = .returned (.tuple #[]) ∧ Wr K w' gw (l ++ enc 83 p) ∧ Kept K w w' := by
  obtain ⟨ra, rg, da, h1, _⟩ := hp
  have c1 : w.cell? ⟨gp, 3, none⟩ = some (.int .u32 (p.1 3)) := by rw [cell_of_row _ _ _ _ _ _ h1]; rfl
  have C := hid (seq_any K w gw l (p.1 3) h hf.1 hf.2.1 (by omega))
  have EC : Hid (enc 83 p = le 4 (p.1 3).toNat) := rfl
  rw [← EC.out] at C
  clear h h1
  generalize p.1 3 = x at *
  go_enter Try.func53, Try.ntmps53
  go_wp2_with fail
  refine C.out.mono ?_
  rintro e w2 ⟨rfl, h2, k2⟩
  have R := hid (And.intro h2 k2)
  clear h2 k2 C
  go_wp2_with fail
  go_end0
  exact ⟨rfl, R.1, R.2⟩

set_option maxHeartbeats 1000000 in
theorem get_seq (K M : Nat → Prop) (w : World) (gp gr b : Nat) (p : Pk) (l : List UInt8) (s : Bool) (hp : PAt M w gp p) (hM : ∀ i, M i → K i) (hk : ¬ K gp) (hne : gr ≠ gp) (h : Rd K w gr b l s) :
    Calls Try.prog 55 #[.pointer (some ⟨gp, 0, none⟩), .pointer (some ⟨gr, 0, none⟩)] w fun e w' => e = .returned (.tuple #[]) ∧ Got K M w w' gp gr b (setn p 3 ((took 4 (l, s)).1 : Int)) (took 4 (l, s)).2 := by
  have C := hid (seqR_any _ w gr b l s (h.with gp hp.lt hne))
  have FIN : Hid (∀ w2, Rd (fun i => K i ∨ i = gp) w2 gr b (took 4 (l, s)).2.1 (took 4 (l, s)).2.2 → Kept (fun i => K i ∨ i = gp) w w2 → ((∃ u, w2.cell? ⟨gp, 3, none⟩ = some u) ∧ w2.frozen? ⟨gp, 3, none⟩ = false) ∧ Got K M w (w2.setCell ⟨gp, 3, none⟩ (.int .u32 ((took 4 (l, s)).1 : Int))) gp gr b (setn p 3 ((took 4 (l, s)).1 : Int)) (took 4 (l, s)).2) := by
    intro w2 h2 k2
    refine ⟨?_, got_num hp hM hk hne h.parts.1 h2 k2 3 _ (fun ra rg da => rfl) rfl⟩
    obtain ⟨ra, rg, da, h1, _⟩ := hp
    have row := k2.row (.inr rfl) h1
    exact ⟨⟨_, by rw [cell_of_row _ _ _ _ _ _ row]; rfl⟩, frozen_of_row _ _ _ _ _ row⟩
  clear h hp
  generalize took 4 (l, s) = T at *
  obtain ⟨x, l', s'⟩ := T
  go_enter Try.func55, Try.ntmps55
  go_wp2_with fail
  refine C.out.mono ?_
  rintro e w2 ⟨rfl, h2, k2⟩
  obtain ⟨⟨⟨u, c3⟩, f3⟩, g3⟩ := FIN.out w2 h2 k2
  have G3 := hid g3
  clear h2 k2 C g3 FIN
  go_wp2_with fail
  go_end0
  exact ⟨rfl, G3.out⟩

theorem fits_seq (w : World) (gp : Nat) (p : Pk) :
    Calls Try.prog 57 #[.pointer (some ⟨gp, 0, none⟩)] w fun e w' => e = .returned (.bool (fits 83 p)) ∧ Ext w w' := by
  have X := hid (Ext.refl w)
  go_enter Try.func57, Try.ntmps57
  go_wp2_with fail
  go_ret
  exact ⟨rfl, X.out⟩

set_option maxHeartbeats 1000000 in
theorem drop_seq (K : Nat → Prop) (w : World) (gp : Nat) (p : Pk) (hp : PAt K w gp p) (hk : ¬ K gp) :
    Calls Try.prog 58 #[.pointer (some ⟨gp, 0, none⟩)] w fun e w' => e = .returned (.tuple #[]) ∧ PAt K w' gp (drop 83 p) ∧ Kept (fun i => i ≠ gp) w w' := by
  have FIN : Hid (PAt K (w.setCell ⟨gp, 3, none⟩ (.int .u32 0)) gp (drop 83 p) ∧ Kept (fun i => i ≠ gp) w (w.setCell ⟨gp, 3, none⟩ (.int .u32 0))) :=
    ⟨hp.setNum hk 3 _ (fun ra rg da => rfl) rfl, (Kept.refl _ w).setCell (p := ⟨gp, 3, none⟩) (fun hh => hh rfl) _⟩
  obtain ⟨ra, rg, da, h1, _⟩ := hp
  have c1 : w.cell? ⟨gp, 3, none⟩ = some (.int .u32 (p.1 3)) := by rw [cell_of_row _ _ _ _ _ _ h1]; rfl
  have f1 : w.frozen? ⟨gp, 3, none⟩ = false := frozen_of_row _ _ _ _ _ h1
  clear h1
  go_enter Try.func58, Try.ntmps58
  go_wp2_with fail
  go_end0
  exact ⟨rfl, FIN.1, FIN.2⟩

set_option maxHeartbeats 1000000 in
theorem put_rate (K : Nat → Prop) (w : World) (gp gw : Nat) (p : Pk) (l : List UInt8) (hp : PAt K w gp p) (hf : fine p) (h : Wr K w gw l) (hl : l.length ≤ 1000) :
    Calls Try.prog 68 #[.pointer (some ⟨gp, 0, none⟩), .pointer (some ⟨gw, 0, none⟩)] w fun e w' => e = .returned (.tuple #[]) ∧ Wr K w' gw (l ++ enc 82 p) ∧ Kept K w w' := by
  obtain ⟨ra, rg, da, h1, _⟩ := hp
  have c1 : w.cell? ⟨gp, 9, none⟩ = some (.int .u64 (p.1 9)) := by rw [cell_of_row _ _ _ _ _ _ h1]; rfl
  have C := hid (rate_any K w gw l (p.1 9).toNat h (by have := hf.2.2; omega) (by omega))
  have NN : ((p.1 9).toNat : Int) = p.1 9 := Int.toNat_of_nonneg hf.2.2.1
  rw [NN] at C
  have EC : Hid (enc 82 p = le 8 (p.1 9).toNat) := rfl
  rw [← EC.out] at C
  clear h h1
  generalize p.1 9 = x at *
  go_enter Try.func68, Try.ntmps68
  go_wp2_with fail
  refine C.out.mono ?_
  rintro e w2 ⟨rfl, h2, k2⟩
  have R := hid (And.intro h2 k2)
  clear h2 k2 C
  go_wp2_with fail
  go_end0
  exact ⟨rfl, R.1, R.2⟩

set_option maxHeartbeats 1000000 in
theorem get_rate (K M : Nat → Prop) (w : World) (gp gr b : Nat) (p : Pk) (l : List UInt8) (s : Bool) (hp : PAt M w gp p) (hM : ∀ i, M i → K i) (hk : ¬ K gp) (hne : gr ≠ gp) (h : Rd K w gr b l s) :
    Calls Try.prog 70 #[.pointer (some ⟨gp, 0, none⟩), .pointer (some ⟨gr, 0, none⟩)] w fun e w' => e = .returned (.tuple #[]) ∧ Got K M w w' gp gr b (setn p 9 ((took 8 (l, s)).1 : Int)) (took 8 (l, s)).2 := by
  have C := hid (rateR_any _ w gr b l s (h.with gp hp.lt hne))
  have FIN : Hid (∀ w2, Rd (fun i => K i ∨ i = gp) w2 gr b (took 8 (l, s)).2.1 (took 8 (l, s)).2.2 → Kept (fun i => K i ∨ i = gp) w w2 → ((∃ u, w2.cell? ⟨gp, 9, none⟩ = some u) ∧ w2.frozen? ⟨gp, 9, none⟩ = false) ∧ Got K M w (w2.setCell ⟨gp, 9, none⟩ (.int .u64 ((took 8 (l, s)).1 : Int))) gp gr b (setn p 9 ((took 8 (l, s)).1 : Int)) (took 8 (l, s)).2) := by
    intro w2 h2 k2
    refine ⟨?_, got_num hp hM hk hne h.parts.1 h2 k2 9 _ (fun ra rg da => rfl) rfl⟩
    obtain ⟨ra, rg, da, h1, _⟩ := hp
    have row := k2.row (.inr rfl) h1
    exact ⟨⟨_, by rw [cell_of_row _ _ _ _ _ _ row]; rfl⟩, frozen_of_row _ _ _ _ _ row⟩
  clear h hp
  generalize took 8 (l, s) = T at *
  obtain ⟨x, l', s'⟩ := T
  go_enter Try.func70, Try.ntmps70
  go_wp2_with fail
  refine C.out.mono ?_
  rintro e w2 ⟨rfl, h2, k2⟩
  obtain ⟨⟨⟨u, c3⟩, f3⟩, g3⟩ := FIN.out w2 h2 k2
  have G3 := hid g3
  clear h2 k2 C g3 FIN
  go_wp2_with fail
  go_end0
  exact ⟨rfl, G3.out⟩

theorem fits_rate (w : World) (gp : Nat) (p : Pk) :
    Calls Try.prog 72 #[.pointer (some ⟨gp, 0, none⟩)] w fun e w' => e = .returned (.bool (fits 82 p)) ∧ Ext w w' := by
  have X := hid (Ext.refl w)
  go_enter Try.func72, Try.ntmps72
  go_wp2_with fail
  go_ret
  exact ⟨rfl, X.out⟩

set_option maxHeartbeats 1000000 in
theorem drop_rate (K : Nat → Prop) (w : World) (gp : Nat) (p : Pk) (hp : PAt K w gp p) (hk : ¬ K gp) :
    Calls Try.prog 73 #[.pointer (some ⟨gp, 0, none⟩)] w fun e w' => e = .returned (.tuple #[]) ∧ PAt K w' gp (drop 82 p) ∧ Kept (fun i => i ≠ gp) w w' := by
  have FIN : Hid (PAt K (w.setCell ⟨gp, 9, none⟩ (.int .u64 0)) gp (drop 82 p) ∧ Kept (fun i => i ≠ gp) w (w.setCell ⟨gp, 9, none⟩ (.int .u64 0))) :=
    ⟨hp.setNum hk 9 _ (fun ra rg da => rfl) rfl, (Kept.refl _ w).setCell (p := ⟨gp, 9, none⟩) (fun hh => hh rfl) _⟩
  obtain ⟨ra, rg, da, h1, _⟩ := hp
  have c1 : w.cell? ⟨gp, 9, none⟩ = some (.int .u64 (p.1 9)) := by rw [cell_of_row _ _ _ _ _ _ h1]; rfl
  have f1 : w.frozen? ⟨gp, 9, none⟩ = false := frozen_of_row _ _ _ _ _ h1
  clear h1
  go_enter Try.func73, Try.ntmps73
  go_wp2_with fail
  go_end0
  exact ⟨rfl, FIN.1, FIN.2⟩

theorem RowK.of_row {K : Nat → Prop} {w : World} {r n sz : Nat} {cs : List Value} {E : TypeId} {fr : Nat × Nat} (h : w.heap[r]? = some (.cells cs.toArray E fr)) (hk : K r) (hl : cs.length = n * sz) (hn : n ≤ maxLen) : RowK K w (.slice (some ⟨r, 0, none⟩) n n) sz cs :=
  ⟨_, n, n, rfl, hl, Nat.le_refl _, hn, fun _ => ⟨r, 0, rfl, hk, fun j u hu => by rw [Nat.zero_add, cell_of_row _ _ _ _ _ _ h, List.getElem?_toArray]; exact hu⟩⟩

/-- a list was read into a new block, and is written into the packet -/
theorem got_list {K M : Nat → Prop} {w w2 : World} {gp gr b r n sz : Nat} {p q : Pk} {x : List UInt8 × Bool} {cs : List Value} {E : TypeId} (hp : PAt M w gp p) (hM : ∀ i, M i → K i) (hk : ¬ K gp) (hne : gr ≠ gp) (hb : K b) (hgl : gr < w.heap.size) (hK : ∀ i, K i → i < w.heap.size) (h2 : Rd (fun i => K i ∨ i = gp) w2 gr b x.1 x.2) (k2 : Kept (fun i => K i ∨ i = gp) w w2) (i : Nat)
    (hr : w.heap.size ≤ r) (hrow : w2.heap[r]? = some (.cells cs.toArray E (0, 0))) (hl : cs.length = n * sz) (hn : n ≤ maxLen)
    (hq : ∀ ra rg da, PL M w p ra rg da → ∃ ra' rg' da', (prow p ra rg da).setIfInBounds i (.slice (some ⟨r, 0, none⟩) n n) = prow q ra' rg' da' ∧ ∀ (L : Nat → Prop) (w' : World), PL L w' p ra rg da → RowK L w' (.slice (some ⟨r, 0, none⟩) n n) sz cs → PL L w' q ra' rg' da') :
    Got K M w (w2.setCell ⟨gp, i, none⟩ (.slice (some ⟨r, 0, none⟩) n n)) gp gr b q x := by
  have kk : Kept K w2 (w2.setCell ⟨gp, i, none⟩ (.slice (some ⟨r, 0, none⟩) n n)) := (Kept.refl K w2).setCell (p := ⟨gp, i, none⟩) hk _
  have km := k2.mono (L := K) (fun i hi => .inl hi)
  have gl := hp.lt
  have gr2 : r ≠ gp := by omega
  have rl := lt_of_row hrow
  have R3 := (h2.less (L := K) (fun i hi => .inl hi) hb).other kk (heap_setCell_other _ _ _ _ hne)
  have sz3 : (w2.setCell ⟨gp, i, none⟩ (.slice (some ⟨r, 0, none⟩) n n)).heap.size = w2.heap.size := by simp
  refine ⟨fun i => K i ∨ i = r, fun i => M i ∨ i = r, fun i hi => .inl hi, fun hh => hh.elim hk (fun e => gr2 e.symm), R3.with r (by rw [sz3]; exact rl) (by omega), ?_, fun i hi => hi.elim (fun h => .inl (hM i h)) .inr, fun i hi => hi.elim .inl (fun h => .inr (by omega)), km.trans kk⟩
  obtain ⟨ra, rg, da, h1, hpl⟩ := hp
  obtain ⟨ra', rg', da', e1, e2⟩ := hq ra rg da hpl
  have row := k2.row (.inr rfl) h1
  refine ⟨ra', rg', da', ?_, e2 _ _ ?_ ?_⟩
  · rw [setCell_eq_setRow _ _ _ _ _ _ _ row, e1]
    exact setRow_heap _ _ _ _ _ _ row
  · exact (hpl.kept ((km.trans kk).mono hM)).mono (fun i _ hi => .inl hi)
  · refine RowK.of_row (E := E) (fr := (0, 0)) ?_ (.inr rfl) hl hn
    rw [heap_setCell_other _ _ _ _ gr2]
    exact hrow

set_option maxHeartbeats 1000000 in
theorem put_data (K : Nat → Prop) (w : World) (gp gw : Nat) (p : Pk) (l : List UInt8) (hp : PAt K w gp p) (hd : p.2.2.2.length ≤ 1000) (h : Wr K w gw l) (hl : l.length ≤ 1000) :
    Calls Try.prog 61 #[.pointer (some ⟨gp, 0, none⟩), .pointer (some ⟨gw, 0, none⟩)] w fun e w' => e = .returned (.tuple #[]) ∧ Wr K w' gw (l ++ enc 68 p) ∧ Kept K w w' := by
  obtain ⟨ra, rg, da, h1, hpl⟩ := hp
  have c1 : w.cell? ⟨gp, 12, none⟩ = some da := by rw [cell_of_row _ _ _ _ _ _ h1]; rfl
  have C := hid (putD_any K w gw l p.2.2.2 da h hpl.2.2 hl hd)
  have EC : Hid (enc 68 p = UInt8.ofNat p.2.2.2.length :: p.2.2.2) := rfl
  rw [← EC.out] at C
  clear h h1 hpl
  go_enter Try.func61, Try.ntmps61
  go_wp2_with fail
  refine C.out.mono ?_
  rintro e w2 ⟨rfl, h2, k2⟩
  have R := hid (And.intro h2 k2)
  clear h2 k2 C
  go_wp2_with fail
  go_end0
  exact ⟨rfl, R.1, R.2⟩

set_option maxHeartbeats 1000000 in
theorem get_data (K M : Nat → Prop) (w : World) (gp gr b : Nat) (p : Pk) (l : List UInt8) (s : Bool) (hp : PAt M w gp p) (hM : ∀ i, M i → K i) (hk : ¬ K gp) (hne : gr ≠ gp) (h : Rd K w gr b l s) :
    Calls Try.prog 63 #[.pointer (some ⟨gp, 0, none⟩), .pointer (some ⟨gr, 0, none⟩)] w fun e w' => e = .returned (.tuple #[]) ∧ Got K M w w' gp gr b (setD p (runs oneD (took 1 (l, s)).1 (took 1 (l, s)).2).1) (runs oneD (took 1 (l, s)).1 (took 1 (l, s)).2).2 := by
  have C := hid (getD_any _ w gr b l s (h.with gp hp.lt hne))
  have nl := took_lt 1 (l, s)
  generalize took 1 (l, s) = T at *
  obtain ⟨n, y⟩ := T
  simp only at nl
  have FIN : Hid (∀ w2 r, w.heap.size ≤ r → w2.heap[r]? = some (.cells (bcells (runs oneD n y).1).toArray 5 (0, 0)) → Rd (fun i => K i ∨ i = gp) w2 gr b (runs oneD n y).2.1 (runs oneD n y).2.2 → Kept (fun i => K i ∨ i = gp) w w2 → ((∃ u, w2.cell? ⟨gp, 12, none⟩ = some u) ∧ w2.frozen? ⟨gp, 12, none⟩ = false) ∧ Got K M w (w2.setCell ⟨gp, 12, none⟩ (.slice (some ⟨r, 0, none⟩) n n)) gp gr b (setD p (runs oneD n y).1) (runs oneD n y).2) := by
    intro w2 r hr hrow h2 k2
    refine ⟨?_, got_list (sz := 1) hp hM hk hne h.parts.1 h.lt h.parts.2.2 h2 k2 12 hr hrow (by rw [bcells_length, runs_length, Nat.mul_one]) (by unfold maxLen; omega) (fun ra rg da _ => ⟨ra, rg, _, rfl, fun L w' hh hr => ⟨hh.1, hh.2.1, hr⟩⟩)⟩
    obtain ⟨ra, rg, da, h1, _⟩ := hp
    have row := k2.row (.inr rfl) h1
    exact ⟨⟨_, by rw [cell_of_row _ _ _ _ _ _ row]; rfl⟩, frozen_of_row _ _ _ _ _ row⟩
  clear h hp
  go_enter Try.func63, Try.ntmps63
  go_wp2_with fail
  refine C.out.mono ?_
  rintro e w2 ⟨r, rfl, hr, hrow, h2, k2⟩
  obtain ⟨⟨⟨u, c3⟩, f3⟩, g3⟩ := FIN.out w2 r hr hrow h2 k2
  have G3 := hid g3
  clear h2 k2 C g3 FIN hrow
  go_wp2_with fail
  go_end0
  exact ⟨rfl, G3.out⟩

set_option maxHeartbeats 1000000 in
theorem drop_data (K : Nat → Prop) (w : World) (gp : Nat) (p : Pk) (hp : PAt K w gp p) (hk : ¬ K gp) :
    Calls Try.prog 67 #[.pointer (some ⟨gp, 0, none⟩)] w fun e w' => e = .returned (.tuple #[]) ∧ PAt K w' gp (drop 68 p) ∧ Kept (fun i => i ≠ gp) w w' := by
  obtain ⟨ra, rg, da, h1, hpl⟩ := hp
  have FIN : Hid (PAt K (w.setCell ⟨gp, 12, none⟩ (.slice none 0 0)) gp (drop 68 p) ∧ Kept (fun i => i ≠ gp) w (w.setCell ⟨gp, 12, none⟩ (.slice none 0 0))) := by
    refine ⟨⟨ra, rg, .slice none 0 0, ?_, ?_⟩, (Kept.refl _ w).setCell (p := ⟨gp, 12, none⟩) (fun hh => hh rfl) _⟩
    · rw [setCell_eq_setRow _ _ _ _ _ _ _ h1]
      exact setRow_heap _ _ _ _ _ _ h1
    · have := hpl.kept ((Kept.refl K w).setCell (p := ⟨gp, 12, none⟩) hk (.slice none 0 0))
      exact ⟨this.1, this.2.1, RowK.nil _ _ _⟩
  have c1 : w.cell? ⟨gp, 12, none⟩ = some da := by rw [cell_of_row _ _ _ _ _ _ h1]; rfl
  have f1 : w.frozen? ⟨gp, 12, none⟩ = false := frozen_of_row _ _ _ _ _ h1
  clear h1 hpl
  go_enter Try.func67, Try.ntmps67
  go_wp2_with fail
  go_end0
  exact ⟨rfl, FIN.1, FIN.2⟩

set_option maxHeartbeats 1000000 in
theorem put_rates (K : Nat → Prop) (w : World) (gp gw : Nat) (p : Pk) (l : List UInt8) (hp : PAt K w gp p) (hd : p.2.1.length ≤ 1000) (h : Wr K w gw l) (hl : l.length ≤ 1000) :
    Calls Try.prog 74 #[.pointer (some ⟨gp, 0, none⟩), .pointer (some ⟨gw, 0, none⟩)] w fun e w' => e = .returned (.tuple #[]) ∧ Wr K w' gw (l ++ enc 65 p) ∧ Kept K w w' := by
  obtain ⟨ra, rg, da, h1, hpl⟩ := hp
  have c1 : w.cell? ⟨gp, 10, none⟩ = some ra := by rw [cell_of_row _ _ _ _ _ _ h1]; rfl
  have C := hid (putA_any K w gw l p.2.1 ra h hpl.1 hl hd)
  have EC : Hid (enc 65 p = UInt8.ofNat p.2.1.length :: encA p.2.1) := rfl
  rw [← EC.out] at C
  clear h h1 hpl
  go_enter Try.func74, Try.ntmps74
  go_wp2_with fail
  refine C.out.mono ?_
  rintro e w2 ⟨rfl, h2, k2⟩
  have R := hid (And.intro h2 k2)
  clear h2 k2 C
  go_wp2_with fail
  go_end0
  exact ⟨rfl, R.1, R.2⟩

set_option maxHeartbeats 1000000 in
theorem get_rates (K M : Nat → Prop) (w : World) (gp gr b : Nat) (p : Pk) (l : List UInt8) (s : Bool) (hp : PAt M w gp p) (hM : ∀ i, M i → K i) (hk : ¬ K gp) (hne : gr ≠ gp) (h : Rd K w gr b l s) :
    Calls Try.prog 76 #[.pointer (some ⟨gp, 0, none⟩), .pointer (some ⟨gr, 0, none⟩)] w fun e w' => e = .returned (.tuple #[]) ∧ Got K M w w' gp gr b (setA p (runs oneA (took 1 (l, s)).1 (took 1 (l, s)).2).1) (runs oneA (took 1 (l, s)).1 (took 1 (l, s)).2).2 := by
  have C := hid (getA_any _ w gr b l s (h.with gp hp.lt hne))
  have nl := took_lt 1 (l, s)
  generalize took 1 (l, s) = T at *
  obtain ⟨n, y⟩ := T
  simp only at nl
  have FIN : Hid (∀ w2 r, w.heap.size ≤ r → w2.heap[r]? = some (.cells (acells (runs oneA n y).1).toArray 24 (0, 0)) → Rd (fun i => K i ∨ i = gp) w2 gr b (runs oneA n y).2.1 (runs oneA n y).2.2 → Kept (fun i => K i ∨ i = gp) w w2 → ((∃ u, w2.cell? ⟨gp, 10, none⟩ = some u) ∧ w2.frozen? ⟨gp, 10, none⟩ = false) ∧ Got K M w (w2.setCell ⟨gp, 10, none⟩ (.slice (some ⟨r, 0, none⟩) n n)) gp gr b (setA p (runs oneA n y).1) (runs oneA n y).2) := by
    intro w2 r hr hrow h2 k2
    refine ⟨?_, got_list (sz := 1) hp hM hk hne h.parts.1 h.lt h.parts.2.2 h2 k2 10 hr hrow (by rw [acells_length, runs_length, Nat.mul_one]) (by unfold maxLen; omega) (fun ra rg da _ => ⟨_, rg, da, rfl, fun L w' hh hr => ⟨hr, hh.2.1, hh.2.2⟩⟩)⟩
    obtain ⟨ra, rg, da, h1, _⟩ := hp
    have row := k2.row (.inr rfl) h1
    exact ⟨⟨_, by rw [cell_of_row _ _ _ _ _ _ row]; rfl⟩, frozen_of_row _ _ _ _ _ row⟩
  clear h hp
  go_enter Try.func76, Try.ntmps76
  go_wp2_with fail
  refine C.out.mono ?_
  rintro e w2 ⟨r, rfl, hr, hrow, h2, k2⟩
  obtain ⟨⟨⟨u, c3⟩, f3⟩, g3⟩ := FIN.out w2 r hr hrow h2 k2
  have G3 := hid g3
  clear h2 k2 C g3 FIN hrow
  go_wp2_with fail
  go_end0
  exact ⟨rfl, G3.out⟩

set_option maxHeartbeats 1000000 in
theorem drop_rates (K : Nat → Prop) (w : World) (gp : Nat) (p : Pk) (hp : PAt K w gp p) (hk : ¬ K gp) :
    Calls Try.prog 79 #[.pointer (some ⟨gp, 0, none⟩)] w fun e w' => e = .returned (.tuple #[]) ∧ PAt K w' gp (drop 65 p) ∧ Kept (fun i => i ≠ gp) w w' := by
  obtain ⟨ra, rg, da, h1, hpl⟩ := hp
  have FIN : Hid (PAt K (w.setCell ⟨gp, 10, none⟩ (.slice none 0 0)) gp (drop 65 p) ∧ Kept (fun i => i ≠ gp) w (w.setCell ⟨gp, 10, none⟩ (.slice none 0 0))) := by
    refine ⟨⟨.slice none 0 0, rg, da, ?_, ?_⟩, (Kept.refl _ w).setCell (p := ⟨gp, 10, none⟩) (fun hh => hh rfl) _⟩
    · rw [setCell_eq_setRow _ _ _ _ _ _ _ h1]
      exact setRow_heap _ _ _ _ _ _ h1
    · have := hpl.kept ((Kept.refl K w).setCell (p := ⟨gp, 10, none⟩) hk (.slice none 0 0))
      exact ⟨RowK.nil _ _ _, this.2.1, this.2.2⟩
  have c1 : w.cell? ⟨gp, 10, none⟩ = some ra := by rw [cell_of_row _ _ _ _ _ _ h1]; rfl
  have f1 : w.frozen? ⟨gp, 10, none⟩ = false := frozen_of_row _ _ _ _ _ h1
  clear h1 hpl
  go_enter Try.func79, Try.ntmps79
  go_wp2_with fail
  go_end0
  exact ⟨rfl, FIN.1, FIN.2⟩

set_option maxHeartbeats 1000000 in
theorem put_ranges (K : Nat → Prop) (w : World) (gp gw : Nat) (p : Pk) (l : List UInt8) (hp : PAt K w gp p) (hd : p.2.2.1.length ≤ 1000) (h : Wr K w gw l) (hl : l.length ≤ 1000) :
    Calls Try.prog 84 #[.pointer (some ⟨gp, 0, none⟩), .pointer (some ⟨gw, 0, none⟩)] w fun e w' => e = .returned (.tuple #[]) ∧ Wr K w' gw (l ++ enc 71 p) ∧ Kept K w w' := by
  obtain ⟨ra, rg, da, h1, hpl⟩ := hp
  have c1 : w.cell? ⟨gp, 11, none⟩ = some rg := by rw [cell_of_row _ _ _ _ _ _ h1]; rfl
  have C := hid (putG_any K w gw l p.2.2.1 rg h hpl.2.1 hl hd)
  have EC : Hid (enc 71 p = UInt8.ofNat p.2.2.1.length :: encG p.2.2.1) := rfl
  rw [← EC.out] at C
  clear h h1 hpl
  go_enter Try.func84, Try.ntmps84
  go_wp2_with fail
  refine C.out.mono ?_
  rintro e w2 ⟨rfl, h2, k2⟩
  have R := hid (And.intro h2 k2)
  clear h2 k2 C
  go_wp2_with fail
  go_end0
  exact ⟨rfl, R.1, R.2⟩

set_option maxHeartbeats 1000000 in
theorem get_ranges (K M : Nat → Prop) (w : World) (gp gr b : Nat) (p : Pk) (l : List UInt8) (s : Bool) (hp : PAt M w gp p) (hM : ∀ i, M i → K i) (hk : ¬ K gp) (hne : gr ≠ gp) (h : Rd K w gr b l s) :
    Calls Try.prog 87 #[.pointer (some ⟨gp, 0, none⟩), .pointer (some ⟨gr, 0, none⟩)] w fun e w' => e = .returned (.tuple #[]) ∧ Got K M w w' gp gr b (setG p (runs pairOf (took 1 (l, s)).1 (took 1 (l, s)).2).1) (runs pairOf (took 1 (l, s)).1 (took 1 (l, s)).2).2 := by
  have C := hid (getG_any _ w gr b l s (h.with gp hp.lt hne))
  have nl := took_lt 1 (l, s)
  generalize took 1 (l, s) = T at *
  obtain ⟨n, y⟩ := T
  simp only at nl
  have FIN : Hid (∀ w2 r, w.heap.size ≤ r → w2.heap[r]? = some (.cells (gcells (runs pairOf n y).1).toArray 53 (0, 0)) → Rd (fun i => K i ∨ i = gp) w2 gr b (runs pairOf n y).2.1 (runs pairOf n y).2.2 → Kept (fun i => K i ∨ i = gp) w w2 → ((∃ u, w2.cell? ⟨gp, 11, none⟩ = some u) ∧ w2.frozen? ⟨gp, 11, none⟩ = false) ∧ Got K M w (w2.setCell ⟨gp, 11, none⟩ (.slice (some ⟨r, 0, none⟩) n n)) gp gr b (setG p (runs pairOf n y).1) (runs pairOf n y).2) := by
    intro w2 r hr hrow h2 k2
    refine ⟨?_, got_list (sz := 2) hp hM hk hne h.parts.1 h.lt h.parts.2.2 h2 k2 11 hr hrow (by rw [gcells_length, runs_length]) (by unfold maxLen; omega) (fun ra rg da _ => ⟨ra, _, da, rfl, fun L w' hh hr => ⟨hh.1, hr, hh.2.2⟩⟩)⟩
    obtain ⟨ra, rg, da, h1, _⟩ := hp
    have row := k2.row (.inr rfl) h1
    exact ⟨⟨_, by rw [cell_of_row _ _ _ _ _ _ row]; rfl⟩, frozen_of_row _ _ _ _ _ row⟩
  clear h hp
  go_enter Try.func87, Try.ntmps87
  go_wp2_with fail
  refine C.out.mono ?_
  rintro e w2 ⟨r, rfl, hr, hrow, h2, k2⟩
  obtain ⟨⟨⟨u, c3⟩, f3⟩, g3⟩ := FIN.out w2 r hr hrow h2 k2
  have G3 := hid g3
  clear h2 k2 C g3 FIN hrow
  go_wp2_with fail
  go_end0
  exact ⟨rfl, G3.out⟩

set_option maxHeartbeats 1000000 in
theorem drop_ranges (K : Nat → Prop) (w : World) (gp : Nat) (p : Pk) (hp : PAt K w gp p) (hk : ¬ K gp) :
    Calls Try.prog 92 #[.pointer (some ⟨gp, 0, none⟩)] w fun e w' => e = .returned (.tuple #[]) ∧ PAt K w' gp (drop 71 p) ∧ Kept (fun i => i ≠ gp) w w' := by
  obtain ⟨ra, rg, da, h1, hpl⟩ := hp
  have FIN : Hid (PAt K (w.setCell ⟨gp, 11, none⟩ (.slice none 0 0)) gp (drop 71 p) ∧ Kept (fun i => i ≠ gp) w (w.setCell ⟨gp, 11, none⟩ (.slice none 0 0))) := by
    refine ⟨⟨ra, .slice none 0 0, da, ?_, ?_⟩, (Kept.refl _ w).setCell (p := ⟨gp, 11, none⟩) (fun hh => hh rfl) _⟩
    · rw [setCell_eq_setRow _ _ _ _ _ _ _ h1]
      exact setRow_heap _ _ _ _ _ _ h1
    · have := hpl.kept ((Kept.refl K w).setCell (p := ⟨gp, 11, none⟩) hk (.slice none 0 0))
      exact ⟨this.1, RowK.nil _ _ _, this.2.2⟩
  have c1 : w.cell? ⟨gp, 11, none⟩ = some rg := by rw [cell_of_row _ _ _ _ _ _ h1]; rfl
  have f1 : w.frozen? ⟨gp, 11, none⟩ = false := frozen_of_row _ _ _ _ _ h1
  clear h1 hpl
  go_enter Try.func92, Try.ntmps92
  go_wp2_with fail
  go_end0
  exact ⟨rfl, FIN.1, FIN.2⟩

set_option maxHeartbeats 400000 in
theorem oneTo_any (n top : Nat) (w : World) : Calls Try.prog 66 #[.int .i64 n, .int .i64 top] w fun e w' => e = .returned (.bool (oneto n top)) ∧ w' = w := by
  by_cases t : 1 ≤ n
  · have d1 : decide ((1 : Int) ≤ (n : Int)) = true := by simp; omega
    have E : Hid (oneto n top = decide (n ≤ top)) := by show _ = _; unfold oneto; rw [Bool.eq_iff_iff]; simp; omega
    go_enter Try.func66, Try.ntmps66
    go_wp2_with fail
    go_ret
    exact ⟨by rw [E.out]; rfl, rfl⟩
  · have d1 : decide ((1 : Int) ≤ (n : Int)) = false := by simp; omega
    have E : Hid (oneto n top = false) := by show _ = _; unfold oneto; simp; omega
    clear t
    go_enter Try.func66, Try.ntmps66
    go_wp2_with fail
    go_ret
    exact ⟨by rw [E.out]; rfl, rfl⟩

set_option maxHeartbeats 400000 in
theorem fits_data (K : Nat → Prop) (w : World) (gp : Nat) (p : Pk) (hp : PAt K w gp p) :
    Calls Try.prog 65 #[.pointer (some ⟨gp, 0, none⟩)] w fun e w' => e = .returned (.bool (fits 68 p)) ∧ Ext w w' := by
  obtain ⟨ra, rg, da, h1, hpl⟩ := hp
  obtain ⟨ao, n, cc, rfl, l1, l2, l3, _⟩ := hpl.2.2
  rw [bcells_length, Nat.mul_one] at l1
  subst l1
  have c1 : w.cell? ⟨gp, 12, none⟩ = some (.slice ao p.2.2.2.length cc) := by rw [cell_of_row _ _ _ _ _ _ h1]; rfl
  have C := hid (oneTo_any p.2.2.2.length 64 w)
  have X := hid (Ext.refl w)
  unfold maxLen at l3
  clear h1 hpl
  go_enter Try.func65, Try.ntmps65
  go_wp2_with fail
  refine C.out.mono ?_
  rintro e w2 ⟨rfl, rfl⟩
  clear C
  go_wp2_with fail
  go_ret
  exact ⟨rfl, X.out⟩

set_option maxHeartbeats 400000 in
theorem fits_rates (K : Nat → Prop) (w : World) (gp : Nat) (p : Pk) (hp : PAt K w gp p) :
    Calls Try.prog 78 #[.pointer (some ⟨gp, 0, none⟩)] w fun e w' => e = .returned (.bool (fits 65 p)) ∧ Ext w w' := by
  obtain ⟨ra, rg, da, h1, hpl⟩ := hp
  obtain ⟨ao, n, cc, rfl, l1, l2, l3, _⟩ := hpl.1
  rw [acells_length, Nat.mul_one] at l1
  subst l1
  have c1 : w.cell? ⟨gp, 10, none⟩ = some (.slice ao p.2.1.length cc) := by rw [cell_of_row _ _ _ _ _ _ h1]; rfl
  have C := hid (oneTo_any p.2.1.length 8 w)
  have X := hid (Ext.refl w)
  unfold maxLen at l3
  clear h1 hpl
  go_enter Try.func78, Try.ntmps78
  go_wp2_with fail
  refine C.out.mono ?_
  rintro e w2 ⟨rfl, rfl⟩
  clear C
  go_wp2_with fail
  go_ret
  exact ⟨rfl, X.out⟩
end Go.Proofs.Ytlnjkjpllmfcaaa

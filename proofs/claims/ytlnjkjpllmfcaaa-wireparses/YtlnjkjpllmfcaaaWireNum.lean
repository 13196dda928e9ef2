/-
  Walks of a number's field: put, get, fits, drop.
-/
import Derived.Test.YtlnjkjpllmfcaaaWireFld
namespace Go.Proofs.Ytlnjkjpllmfcaaa
set_option linter.unusedVariables false
set_option maxRecDepth 100000
open Go.RowKit Go.Lib

set_option maxHeartbeats 1000000 in
theorem put_num {c pf i : Nat} {top : Int} (hn : IsNum c pf i top) (K : Nat → Prop) (w : World) (gp gw pb : Nat) (p : Pk) (l : List UInt8) (hp : PAt K w gp p) (hb : w.heap[pb]? = some (.cells #[.func (.func pf) #[] #[]] 90 (0, 0))) (h : Wr K w gw l) (hl : l.length ≤ 1000) :
    Calls Try.prog 95 #[.pointer (some ⟨gp, 0, none⟩), .pointer (some ⟨gw, 0, none⟩), .pointer (some ⟨pb, 0, none⟩)] w fun e w' => e = .returned (.tuple #[]) ∧ Wr K w' gw (l ++ enc c p) ∧ Kept K w w' := by
  obtain ⟨ra, rg, da, h1, _⟩ := hp
  have c1 : w.cell? ⟨gp, i, none⟩ = some (.int .i64 (p.1 i)) := by rw [cell_of_row _ _ _ _ _ _ h1, prow_num hn]
  have c2 : w.cell? ⟨pb, 0, none⟩ = some (.func (.func pf) #[] #[]) := by rw [cell_of_row _ _ _ _ _ _ hb]; rfl
  have C := hid (number_any K w gw l (p.1 i) h (by omega))
  rw [← num_enc hn] at C
  have PLC := hid (place_any hn gp w)
  have EN := place_enters hn
  unfold Entered at EN
  clear h hb h1
  generalize p.1 i = x at *
  go_enter Try.func95, Try.ntmps95
  go_wp2_with fail
  refine PLC.out.mono ?_
  rintro e w1 ⟨rfl, rfl⟩
  clear PLC EN
  go_wp2_with fail
  refine C.out.mono ?_
  rintro e w2 ⟨rfl, h2, k2⟩
  have R := hid (And.intro h2 k2)
  clear h2 k2 C
  go_wp2_with fail
  go_end0
  exact ⟨rfl, R.1, R.2⟩

/-- behind a field that was read: the reader, the packet (its lists where they were, blocks of M, or in new ones), all else -/
def Got (K M : Nat → Prop) (w w' : World) (gp gr b : Nat) (q : Pk) (x : List UInt8 × Bool) : Prop :=
  ∃ L N : Nat → Prop, (∀ i, K i → L i) ∧ ¬ L gp ∧ Rd L w' gr b x.1 x.2 ∧ PAt N w' gp q ∧ (∀ i, N i → L i) ∧ (∀ i, N i → M i ∨ w.heap.size ≤ i) ∧ Kept K w w'

/-- the reader, for a call that leaves a block alone -/
theorem Rd.with {K : Nat → Prop} {w : World} {g b : Nat} {l : List UInt8} {s : Bool} (h : Rd K w g b l s) (r : Nat) (hr : r < w.heap.size) (hgr : g ≠ r) : Rd (fun i => K i ∨ i = r) w g b l s := by
  have p := h.parts
  refine h.more (fun i hi => .inl hi) (fun hh => hh.elim p.2.1 hgr) (fun i hi => ?_)
  rcases hi with hi | rfl
  · exact p.2.2 i hi
  · exact hr

/-- a packet's number is written -/
theorem PAt.setNum {K : Nat → Prop} {w : World} {g : Nat} {p q : Pk} (h : PAt K w g p) (hg : ¬ K g) (i : Nat) (v : Value) (hq : ∀ ra rg da, (prow p ra rg da).setIfInBounds i v = prow q ra rg da) (hl : q.2 = p.2) : PAt K (w.setCell ⟨g, i, none⟩ v) g q := by
  obtain ⟨ra, rg, da, h1, h2⟩ := h
  refine ⟨ra, rg, da, ?_, ?_⟩
  · rw [setCell_eq_setRow _ _ _ _ _ _ _ h1, hq]
    exact setRow_heap _ _ _ _ _ _ h1
  · have := h2.kept ((Kept.refl K w).setCell (p := ⟨g, i, none⟩) hg v)
    unfold PL at this ⊢
    rw [hl]
    exact this

theorem got_num {K M : Nat → Prop} {w w2 : World} {gp gr b : Nat} {p q : Pk} {x : List UInt8 × Bool} (hp : PAt M w gp p) (hM : ∀ i, M i → K i) (hk : ¬ K gp) (hne : gr ≠ gp) (hb : K b) (h2 : Rd (fun i => K i ∨ i = gp) w2 gr b x.1 x.2) (k2 : Kept (fun i => K i ∨ i = gp) w w2) (i : Nat) (v : Value)
    (hq : ∀ ra rg da, (prow p ra rg da).setIfInBounds i v = prow q ra rg da) (hl : q.2 = p.2) : Got K M w (w2.setCell ⟨gp, i, none⟩ v) gp gr b q x := by
  have kk : Kept K w2 (w2.setCell ⟨gp, i, none⟩ v) := (Kept.refl K w2).setCell (p := ⟨gp, i, none⟩) hk v
  have km := k2.mono (L := K) (fun i hi => .inl hi)
  refine ⟨K, M, fun _ h => h, hk, (h2.less (L := K) (fun i hi => .inl hi) hb).other kk (heap_setCell_other _ _ _ _ hne), ?_, hM, fun _ h => .inl h, km.trans kk⟩
  exact (hp.kept (km.mono hM) (k2.2 gp hp.lt (.inr rfl))).setNum (fun h => hk (hM _ h)) i v hq hl

set_option maxHeartbeats 1000000 in
theorem get_num {c pf i : Nat} {top : Int} (hn : IsNum c pf i top) (K M : Nat → Prop) (w : World) (gp gr b pb : Nat) (p : Pk) (l : List UInt8) (s : Bool) (hp : PAt M w gp p) (hM : ∀ i, M i → K i) (hk : ¬ K gp) (hne : gr ≠ gp) (hb : w.heap[pb]? = some (.cells #[.func (.func pf) #[] #[]] 90 (0, 0))) (h : Rd K w gr b l s) :
    Calls Try.prog 97 #[.pointer (some ⟨gp, 0, none⟩), .pointer (some ⟨gr, 0, none⟩), .pointer (some ⟨pb, 0, none⟩)] w fun e w' => e = .returned (.tuple #[]) ∧ Got K M w w' gp gr b (setn p i (i64 (took 8 (l, s)).1)) (took 8 (l, s)).2 := by
  have c2 : w.cell? ⟨pb, 0, none⟩ = some (.func (.func pf) #[] #[]) := by rw [cell_of_row _ _ _ _ _ _ hb]; rfl
  have C := hid (numberR_any _ w gr b l s (h.with gp hp.lt hne))
  have PLC := hid (place_any hn gp w)
  have EN := place_enters hn
  unfold Entered at EN
  have FIN : Hid (∀ w2, Rd (fun i => K i ∨ i = gp) w2 gr b (took 8 (l, s)).2.1 (took 8 (l, s)).2.2 → Kept (fun i => K i ∨ i = gp) w w2 → ((∃ u, w2.cell? ⟨gp, i, none⟩ = some u) ∧ w2.frozen? ⟨gp, i, none⟩ = false) ∧ Got K M w (w2.setCell ⟨gp, i, none⟩ (.int .i64 (i64 (took 8 (l, s)).1))) gp gr b (setn p i (i64 (took 8 (l, s)).1)) (took 8 (l, s)).2) := by
    intro w2 h2 k2
    refine ⟨?_, got_num hp hM hk hne h.parts.1 h2 k2 i _ (fun ra rg da => prow_setn hn p ra rg da _) rfl⟩
    obtain ⟨ra, rg, da, h1, _⟩ := hp
    have row := k2.row (.inr rfl) h1
    exact ⟨⟨_, by rw [cell_of_row _ _ _ _ _ _ row, prow_num hn]⟩, frozen_of_row _ _ _ _ _ row⟩
  clear h hb hp
  generalize took 8 (l, s) = T at *
  obtain ⟨x, l', s'⟩ := T
  go_enter Try.func97, Try.ntmps97
  go_wp2_with fail
  refine PLC.out.mono ?_
  rintro e w1 ⟨rfl, rfl⟩
  clear PLC EN
  go_wp2_with fail
  refine C.out.mono ?_
  rintro e w2 ⟨rfl, h2, k2⟩
  obtain ⟨⟨⟨u, c3⟩, f3⟩, g3⟩ := FIN.out w2 h2 k2
  have G3 := hid g3
  clear h2 k2 C g3 FIN
  go_wp2_with fail
  go_end0
  exact ⟨rfl, G3.out⟩

set_option maxHeartbeats 1000000 in
theorem drop_num {c pf i : Nat} {top : Int} (hn : IsNum c pf i top) (K : Nat → Prop) (w : World) (gp pb : Nat) (p : Pk) (hp : PAt K w gp p) (hk : ¬ K gp) (hb : w.heap[pb]? = some (.cells #[.func (.func pf) #[] #[]] 90 (0, 0))) :
    Calls Try.prog 100 #[.pointer (some ⟨gp, 0, none⟩), .pointer (some ⟨pb, 0, none⟩)] w fun e w' => e = .returned (.tuple #[]) ∧ PAt K w' gp (drop c p) ∧ Kept (fun i => i ≠ gp) w w' := by
  have c2 : w.cell? ⟨pb, 0, none⟩ = some (.func (.func pf) #[] #[]) := by rw [cell_of_row _ _ _ _ _ _ hb]; rfl
  have PLC := hid (place_any hn gp w)
  have EN := place_enters hn
  unfold Entered at EN
  have FIN : Hid (PAt K (w.setCell ⟨gp, i, none⟩ (.int .i64 0)) gp (drop c p) ∧ Kept (fun i => i ≠ gp) w (w.setCell ⟨gp, i, none⟩ (.int .i64 0))) := by
    rw [num_drop hn]
    exact ⟨hp.setNum hk i _ (fun ra rg da => prow_setn hn p ra rg da 0) rfl, (Kept.refl _ w).setCell (p := ⟨gp, i, none⟩) (fun hh => hh rfl) _⟩
  obtain ⟨ra, rg, da, h1, _⟩ := hp
  have c1 : w.cell? ⟨gp, i, none⟩ = some (.int .i64 (p.1 i)) := by rw [cell_of_row _ _ _ _ _ _ h1, prow_num hn]
  have f1 : w.frozen? ⟨gp, i, none⟩ = false := frozen_of_row _ _ _ _ _ h1
  clear hb h1
  go_enter Try.func100, Try.ntmps100
  go_wp2_with fail
  refine PLC.out.mono ?_
  rintro e w1 ⟨rfl, rfl⟩
  clear PLC EN
  go_wp2_with fail
  go_end0
  exact ⟨rfl, FIN.1, FIN.2⟩
end Go.Proofs.Ytlnjkjpllmfcaaa

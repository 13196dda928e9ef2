/-
  What stays as it was while blocks of one's own are written; a writer and its bytes; walks of the writer's methods.
-/
import Derived.Test.YtlnjkjpllmfcaaaWireLaws
import Derived.Test.YtlnjkjpllmfcaaaCrcSumsW
import Derived.Deep.MidRow
namespace Go.Proofs.Ytlnjkjpllmfcaaa
set_option linter.unusedVariables false
set_option maxRecDepth 100000
open Go.RowKit Go.Lib

/-- of the blocks of w those of K are in w' as they were -/
def Kept (K : Nat → Prop) (w w' : World) : Prop := (w'.os = w.os ∧ w'.tape = w.tape ∧ w'.output = w.output ∧ w.heap.size ≤ w'.heap.size) ∧ ∀ i, i < w.heap.size → K i → w'.heap[i]? = w.heap[i]?
theorem Kept.refl (K : Nat → Prop) (w : World) : Kept K w w := ⟨⟨rfl, rfl, rfl, Nat.le_refl _⟩, fun _ _ _ => rfl⟩
theorem Kept.trans {K : Nat → Prop} {a b c : World} (h : Kept K a b) (k : Kept K b c) : Kept K a c :=
  ⟨⟨k.1.1.trans h.1.1, k.1.2.1.trans h.1.2.1, k.1.2.2.1.trans h.1.2.2.1, Nat.le_trans h.1.2.2.2 k.1.2.2.2⟩, fun i hi hk => (k.2 i (Nat.lt_of_lt_of_le hi h.1.2.2.2) hk).trans (h.2 i hi hk)⟩
theorem Kept.mono {K L : Nat → Prop} {w w' : World} (h : Kept K w w') (hL : ∀ i, L i → K i) : Kept L w w' := ⟨h.1, fun i hi hl => h.2 i hi (hL i hl)⟩
theorem Kept.narrow {K L : Nat → Prop} {w w' : World} (h : Kept K w w') (hL : ∀ i, i < w.heap.size → L i → K i) : Kept L w w' := ⟨h.1, fun i hi hl => h.2 i hi (hL i hi hl)⟩
theorem Kept.size {K : Nat → Prop} {w w' : World} (h : Kept K w w') : w.heap.size ≤ w'.heap.size := h.1.2.2.2
theorem Kept.of_ext {K : Nat → Prop} {w w' : World} (h : Ext w w') : Kept K w w' := ⟨⟨Below.os h, Below.tape h, Below.output h, Below.size h⟩, fun i hi _ => Below.block h i hi⟩
theorem Kept.below {K : Nat → Prop} {B : Nat} {w w' : World} (h : Kept K w w') (hB : B ≤ w.heap.size) (hK : ∀ i, i < B → K i) : Below B w w' := ⟨h.1.1, h.1.2.1, h.1.2.2.1, h.1.2.2.2, fun i hi => h.2 i (Nat.lt_of_lt_of_le hi hB) (hK i hi)⟩
theorem Kept.drewN {K : Nat → Prop} {a b : World} (h : Kept K a b) (n : Nat) : Kept K a (b.drewN n) := h
theorem Kept.alloc {K : Nat → Prop} {a b : World} (h : Kept K a b) (o : Obj) : Kept K a (b.alloc o) := h.trans (.of_ext ((Ext.refl b).alloc o))
theorem Kept.setCell {K : Nat → Prop} {a b : World} (h : Kept K a b) {p : Addr} (hp : ¬ K p.block) (u : Value) : Kept K a (b.setCell p u) :=
  h.trans ⟨⟨rfl, rfl, rfl, by simp⟩, fun i _ hk => heap_setCell_other b p i u (fun e => hp (e ▸ hk))⟩
theorem Kept.setRow {K : Nat → Prop} {a b : World} (h : Kept K a b) {g : Nat} (hg : ¬ K g) (cs : Array Value) : Kept K a (b.setRow g cs) :=
  h.trans ⟨⟨rfl, rfl, rfl, by simp⟩, fun i _ hk => setRow_other b g i cs (fun e => hg (e ▸ hk))⟩
theorem Kept.grown {K : Nat → Prop} {a b c : World} {row : Option Nat} (h : Kept K a b) (hg : b.grownBy c row) (hr : ∀ k, row = some k → ¬ K k) : Kept K a c :=
  h.trans ⟨⟨hg.os, hg.tape, hg.output, hg.size⟩, fun i hi hk => hg.block i hi (fun e => hr i e.symm hk)⟩
theorem Kept.row {K : Nat → Prop} {w w' : World} (h : Kept K w w') {g : Nat} (hk : K g) {o : Obj} (hg : w.heap[g]? = some o) : w'.heap[g]? = some o := by
  rw [h.2 g (Array.getElem?_eq_some_iff.1 hg).1 hk, hg]
theorem Kept.cell {K : Nat → Prop} {w w' : World} (h : Kept K w w') {a : Addr} (hk : K a.block) {v : Value} (hc : w.cell? a = some v) : w'.cell? a = some v := by
  rw [World.cell?_of_block (h.2 a.block (block_lt_of_cell hc) hk), hc]

/-- one byte put behind bytes of one's own: they stay where they are, or go to a new block -/
theorem append_one (w : World) (v : Value) (l : List UInt8) (x : UInt8) (hown : w.ownsRow 0 5 1 v l.length (bcells l)) (g : Nat) (hc : w.cell? ⟨g, 0, none⟩ = some (bval x)) (hl : l.length ≤ 100000) :
    ∃ v' w', (Builtin.append_ #[27, 27] 27 #[v, .slice (some ⟨g, 0, none⟩) 1 1]).run Try.prog w = .ok v' w' ∧ w'.ownsRow 0 5 1 v' (l ++ [x]).length (bcells (l ++ [x])) ∧ w.grownBy w' v.ownBlock ∧ (v'.ownBlock = v.ownBlock ∨ v'.ownBlock = some w.heap.size) := by
  obtain ⟨i0, hi, hz0, hz1, hz2⟩ := info_parts info_byte
  have hnews : ∀ j u, [bval x][j]? = some u → w.cell? ((⟨g, 0, none⟩ : Addr).add j) = some u := by
    intro j u hu
    have hj : j = 0 := by have := (List.getElem?_eq_some_iff.1 hu).1; simp at this; exact this
    subst hj
    simp at hu
    subst hu
    rw [addr_on]
    exact hc
  have h1 : ∀ u ∈ [bval x], u.oneCell' = true := by intro u hu; simp at hu; subst hu; rfl
  obtain ⟨v', w', r, o, gb, _⟩ := run_append_own (P := Try.prog) w 0 27 27 5 i0 (.int .u8 0) 1 1 Try.underlying27 hi hz0 hz1 hz2 rfl (by decide) v l.length (bcells l) hown ⟨g, 0, none⟩ 1 1 [bval x] rfl hnews h1 (by unfold maxLen; omega) (by omega) (Nat.zero_le _)
  refine ⟨v', w', r, ?_, gb, ?_⟩
  · rw [List.length_append, bcells_append]; exact o
  · rcases hown.2 with ⟨rfl, h0⟩ | ⟨b, cap, cur, rfl, _, hg, hnc, hcm, hcs, htake⟩
    · have hr := run_append_nil (P := Try.prog) w 27 27 5 i0 (.int .u8 0) Try.underlying27 hi hz0 ⟨g, 0, none⟩ 1 1 [bval x] (by rw [hz1]; rfl) hnews (by omega) (by omega) (by rw [hz2]; omega)
      rw [hr] at r
      cases r
      exact .inr rfl
    · by_cases hroom : l.length + 1 ≤ cap
      · have hr := run_append_room (P := Try.prog) w 27 27 5 i0 Try.underlying27 hi b l.length cap cur hg ⟨g, 0, none⟩ 1 1 [bval x] (by rw [hz1]; rfl) hnews h1 hroom (by rw [hz1, hcs]; simp; omega)
        rw [hr] at r
        cases r
        exact .inl rfl
      · have holds : ∀ j u, (bcells l)[j]? = some u → w.cell? ((⟨b, 0, none⟩ : Addr).add j) = some u := hown.cells (g := b) rfl
        have hr := run_append_grow (P := Try.prog) w 27 27 5 i0 (.int .u8 0) Try.underlying27 hi hz0 ⟨b, 0, none⟩ l.length cap (bcells l) (by rw [hz1, bcells_length, Nat.mul_one]) holds ⟨g, 0, none⟩ 1 1 [bval x] (by rw [hz1]; rfl) hnews (by omega) (by omega) (growslice_fits (by omega) (by rw [hz2]; omega))
        rw [hr] at r
        cases r
        exact .inr rfl

theorem owns_slice {w : World} {base : Nat} {e : TypeId} {size n : Nat} {v : Value} {xs : List Value} (h : w.ownsRow base e size v n xs) : ∃ ao n c, v = .slice ao n c := by
  rcases h.2 with ⟨rfl, _⟩ | ⟨g, cap, cur, rfl, _⟩
  · exact ⟨_, _, _, rfl⟩
  · exact ⟨_, _, _, rfl⟩

/-- a writer lies at block g, with the bytes l; the blocks of K are none of its own, and all there -/
def Wr (K : Nat → Prop) (w : World) (g : Nat) (l : List UInt8) : Prop :=
  ∃ v, w.heap[g]? = some (.cells #[v] 55 (0, 0)) ∧ w.ownsRow 0 5 1 v l.length (bcells l) ∧ ¬ K g ∧ (∀ k, v.ownBlock = some k → ¬ K k ∧ k ≠ g) ∧ ∀ i, K i → i < w.heap.size

theorem lt_of_row {w : World} {g : Nat} {o : Obj} (h : w.heap[g]? = some o) : g < w.heap.size := (Array.getElem?_eq_some_iff.1 h).1

set_option maxHeartbeats 1000000 in
theorem octet_any (K : Nat → Prop) (w : World) (g : Nat) (l : List UInt8) (x : UInt8) (m : Int) (hm : m = (x.toNat : Int)) (h : Wr K w g l) (hl : l.length ≤ 100000) :
    Calls Try.prog 24 #[.pointer (some ⟨g, 0, none⟩), .int .u8 m] w fun e w' => e = .returned (.tuple #[]) ∧ Wr K w' g (l ++ [x]) ∧ Kept K w w' := by
  obtain ⟨v, hg, ho, hk, hb, hs⟩ := h
  have c1 : w.cell? ⟨g, 0, none⟩ = some v := by rw [cell_of_row w g 0 _ _ _ hg]; rfl
  have gl := lt_of_row hg
  obtain ⟨w1, e1⟩ : ∃ w1, w1 = w.alloc (.cells #[.int .u8 m] 5) := ⟨_, rfl⟩
  have n1 : w1.cell? ⟨w.heap.size, 0, none⟩ = some (bval x) := by
    rw [e1, cell_of_row _ _ 0 _ _ _ (heap_alloc_new w _), hm]; rfl
  have s1 : w1.heap.size = w.heap.size + 1 := by rw [e1]; simp
  have X1 : Ext w w1 := by rw [e1]; exact (Ext.refl w).alloc _
  have o1 : w1.ownsRow 0 5 1 v l.length (bcells l) := by rw [e1]; exact ho.alloc _
  obtain ⟨v', w2, r, o2, g2, hv'⟩ := append_one w1 v l x o1 w.heap.size n1 hl
  obtain ⟨ao, an, ac, ev'⟩ := owns_slice o2
  have bo : ∀ k, v.ownBlock = some k → k < w.heap.size := fun k hk => (ho.lt k hk).2
  have hg2 : w2.heap[g]? = some (.cells #[v] 55 (0, 0)) := by
    rw [g2.block g (by omega) (fun e => (hb g e.symm).2 rfl)]; exact X1.row hg
  have c2 : w2.cell? ⟨g, 0, none⟩ = some v := by rw [cell_of_row w2 g 0 _ _ _ hg2]; rfl
  have f2 : w2.frozen? ⟨g, 0, none⟩ = false := frozen_of_row _ _ _ _ _ hg2
  have R := hid r
  have E1 := hid e1
  have P3 : Hid (Wr K (w2.setCell ⟨g, 0, none⟩ v') g (l ++ [x])) := by
    have own2 : ∀ k, v'.ownBlock = some k → ¬ K k ∧ k ≠ g := by
      intro k hk'
      rcases hv' with e | e
      · exact hb k (e ▸ hk')
      · rw [e] at hk'
        cases hk'
        exact ⟨fun hK => by have := hs _ hK; omega, by omega⟩
    refine ⟨v', ?_, ?_, hk, own2, fun i hi => ?_⟩
    · rw [setCell_eq_setRow _ _ _ _ _ _ _ hg2]
      exact setRow_heap _ _ _ _ _ _ hg2
    · refine ⟨o2.1, ?_⟩
      rcases o2.2 with h0 | ⟨b, cap, cur, ev, hb0, hgb, r⟩
      · exact .inl h0
      · exact .inr ⟨b, cap, cur, ev, hb0, by rw [heap_setCell_other _ _ _ _ (own2 b (by rw [ev]; rfl)).2]; exact hgb, r⟩
    · have := hs i hi
      have := g2.size
      simp
      omega
  have K3 : Hid (Kept K w (w2.setCell ⟨g, 0, none⟩ v')) := ((Kept.of_ext X1).grown g2 (fun k e => (hb k e).1)).setCell hk v'
  clear hg ho hb hs o1 o2 g2 hv' hg2 bo X1 n1 e1 r s1 hm
  subst ev'
  go_enter Try.func24, Try.ntmps24
  go_wp2_with (at_builtin; rw [← E1.out]; refine wpList_append_run rfl (.tmp 8) (.tmp 10) 27 rfl _ _ _ _ rfl rfl R.out ?_)
  go_end0
  exact ⟨rfl, P3.out, K3.out⟩
end Go.Proofs.Ytlnjkjpllmfcaaa

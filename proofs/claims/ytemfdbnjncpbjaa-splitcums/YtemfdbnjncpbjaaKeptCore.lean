/-
  Blocks that stay as they are while others are written; lists in memory that stay. (Needs ExtCore alone.)
-/
import Derived.Test.YtemfdbnjncpbjaaExtCore
import Derived.Deep.MidRow
import Derived.Lib.Hide
namespace Go.Proofs.Ytemfdbnjncpbjaa
set_option linter.unusedVariables false
open Go.RowKit Go.Lib

/-- of the blocks of w those of K are in w' as they were -/
def Kept (K : Nat → Prop) (w w' : World) : Prop := (w'.os = w.os ∧ w'.tape = w.tape ∧ w'.output = w.output ∧ w.heap.size ≤ w'.heap.size) ∧ ∀ i, i < w.heap.size → K i → w'.heap[i]? = w.heap[i]?
theorem Kept.refl (K : Nat → Prop) (w : World) : Kept K w w := ⟨⟨rfl, rfl, rfl, Nat.le_refl _⟩, fun _ _ _ => rfl⟩
theorem Kept.trans {K : Nat → Prop} {a b c : World} (h : Kept K a b) (k : Kept K b c) : Kept K a c :=
  ⟨⟨k.1.1.trans h.1.1, k.1.2.1.trans h.1.2.1, k.1.2.2.1.trans h.1.2.2.1, Nat.le_trans h.1.2.2.2 k.1.2.2.2⟩, fun i hi hk => (k.2 i (Nat.lt_of_lt_of_le hi h.1.2.2.2) hk).trans (h.2 i hi hk)⟩
theorem Kept.mono {K L : Nat → Prop} {w w' : World} (h : Kept K w w') (hL : ∀ i, L i → K i) : Kept L w w' := ⟨h.1, fun i hi hl => h.2 i hi (hL i hl)⟩
theorem Kept.narrow {K L : Nat → Prop} {w w' : World} (h : Kept K w w') (hL : ∀ i, i < w.heap.size → L i → K i) : Kept L w w' := ⟨h.1, fun i hi hl => h.2 i hi (hL i hi hl)⟩
theorem Kept.size {K : Nat → Prop} {w w' : World} (h : Kept K w w') : w.heap.size ≤ w'.heap.size := h.1.2.2.2
theorem Kept.of_ext {K : Nat → Prop} {w w' : World} (h : Ext w w') : Kept K w w' := ⟨⟨Below.os h, Below.tape h, Below.output h, Below.size h⟩, fun i hi _ => Below.block h i hi⟩
theorem Kept.below {K : Nat → Prop} {B : Nat} {w w' : World} (h : Kept K w w') (hB : B ≤ w.heap.size) (hK : ∀ i, i < B → K i) : Below B w w' := ⟨h.1.1, h.1.2.1, h.1.2.2.1, h.1.2.2.2, fun i hi => h.2 i (Nat.lt_of_lt_of_le hi hB) (hK i hi)⟩
theorem Kept.drewN {K : Nat → Prop} {a b : World} (h : Kept K a b) (n : Nat) : Kept K a (b.drewN n) := h
theorem Kept.alloc {K : Nat → Prop} {a b : World} (h : Kept K a b) (o : Obj) : Kept K a (b.alloc o) := h.trans (.of_ext ((Ext.refl b).alloc o))
theorem Kept.setCell {K : Nat → Prop} {a b : World} (h : Kept K a b) {p : Addr} (hp : ¬ K p.block) (u : Value) : Kept K a (b.setCell p u) :=
  h.trans ⟨⟨rfl, rfl, rfl, by simp⟩, fun i _ hk => heap_setCell_other b p i u (fun e => hp (e ▸ hk))⟩
theorem Kept.setRow {K : Nat → Prop} {a b : World} (h : Kept K a b) {g : Nat} (hg : ¬ K g) (cs : Array Value) : Kept K a (b.setRow g cs) :=
  h.trans ⟨⟨rfl, rfl, rfl, by simp⟩, fun i _ hk => setRow_other b g i cs (fun e => hg (e ▸ hk))⟩
theorem Kept.grown {K : Nat → Prop} {a b c : World} {row : Option Nat} (h : Kept K a b) (hg : b.grownBy c row) (hr : ∀ k, row = some k → ¬ K k) : Kept K a c :=
  h.trans ⟨⟨hg.os, hg.tape, hg.output, hg.size⟩, fun i hi hk => hg.block i hi (fun e => hr i e.symm hk)⟩
theorem Kept.row {K : Nat → Prop} {w w' : World} (h : Kept K w w') {g : Nat} (hk : K g) {o : Obj} (hg : w.heap[g]? = some o) : w'.heap[g]? = some o := by
  rw [h.2 g (Array.getElem?_eq_some_iff.1 hg).1 hk, hg]
theorem Kept.cell {K : Nat → Prop} {w w' : World} (h : Kept K w w') {a : Addr} (hk : K a.block) {v : Value} (hc : w.cell? a = some v) : w'.cell? a = some v := by
  rw [World.cell?_of_block (h.2 a.block (block_lt_of_cell hc) hk), hc]

/-- v is a slice of elements of sz cells each, their cells are cs, and lie in a block of K -/
def RowK (K : Nat → Prop) (w : World) (v : Value) (sz : Nat) (cs : List Value) : Prop :=
  ∃ ao n c, v = .slice ao n c ∧ cs.length = n * sz ∧ n ≤ c ∧ c ≤ maxLen ∧ (0 < n → ∃ g o, ao = some ⟨g, o, none⟩ ∧ K g ∧ ∀ j u, cs[j]? = some u → w.cell? ⟨g, o + j, none⟩ = some u)
theorem RowK.kept {K : Nat → Prop} {w w' : World} {v : Value} {sz : Nat} {cs : List Value} (h : RowK K w v sz cs) (k : Kept K w w') : RowK K w' v sz cs := by
  obtain ⟨ao, n, c, e, h1, h2, h3, h4⟩ := h
  refine ⟨ao, n, c, e, h1, h2, h3, fun h0 => ?_⟩
  obtain ⟨g, o, ea, hg, hc⟩ := h4 h0
  exact ⟨g, o, ea, hg, fun j u hu => k.cell hg (hc j u hu)⟩
theorem RowK.mono {K L : Nat → Prop} {w : World} {v : Value} {sz : Nat} {cs : List Value} (h : RowK K w v sz cs) (hz : 0 < sz) (hL : ∀ i, i < w.heap.size → K i → L i) : RowK L w v sz cs := by
  obtain ⟨ao, n, c, e, h1, h2, h3, h4⟩ := h
  refine ⟨ao, n, c, e, h1, h2, h3, fun h0 => ?_⟩
  obtain ⟨g, o, ea, hg, hc⟩ := h4 h0
  have hl : 0 < cs.length := by rw [h1]; exact Nat.mul_pos h0 hz
  exact ⟨g, o, ea, hL g (block_lt_of_cell (hc 0 _ (List.getElem?_eq_getElem hl))) hg, hc⟩
theorem RowK.nil (K : Nat → Prop) (w : World) (sz : Nat) : RowK K w (.slice none 0 0) sz [] := ⟨none, 0, 0, rfl, by simp, Nat.le_refl _, Nat.zero_le _, fun h => absurd h (by decide)⟩

/-- pairs as they lie in cells -/
def gcells (l : List (Int × Int)) : List Value := l.flatMap fun g => [.int .i64 g.1, .int .i64 g.2]
theorem gcells_length (l : List (Int × Int)) : (gcells l).length = l.length * 2 := by
  induction l with
  | nil => rfl
  | cons g l ih => simp only [gcells, List.flatMap_cons, List.length_append, List.length_cons, List.length_nil] at ih ⊢; omega
theorem gcells_at (l : List (Int × Int)) : ∀ k, k < l.length → (gcells l)[k * 2]? = some (.int .i64 (l.getD k (0, 0)).1) ∧ (gcells l)[k * 2 + 1]? = some (.int .i64 (l.getD k (0, 0)).2) := by
  induction l with
  | nil => intro k h; simp at h
  | cons g l ih =>
    intro k h
    cases k with
    | zero => simp [gcells]
    | succ k =>
      have := ih k (by simpa using h)
      have e1 : (k + 1) * 2 = k * 2 + 1 + 1 := by omega
      rw [e1]
      simpa [gcells] using this
theorem lt_of_row {w : World} {g : Nat} {o : Obj} (h : w.heap[g]? = some o) : g < w.heap.size := (Array.getElem?_eq_some_iff.1 h).1

theorem owns_slice {w : World} {base : Nat} {e : TypeId} {size n : Nat} {v : Value} {xs : List Value} (h : w.ownsRow base e size v n xs) : ∃ ao n c, v = .slice ao n c := by
  rcases h.2 with ⟨rfl, _⟩ | ⟨g, cap, cur, rfl, _⟩
  · exact ⟨_, _, _, rfl⟩
  · exact ⟨_, _, _, rfl⟩
end Go.Proofs.Ytemfdbnjncpbjaa

/-
  Worlds that differ by new memory alone: how they follow one another. (Needs no other text.)
  Blocks that stay as they are while others are written; lists in memory that stay. (Needs ExtCore alone.)
  Operations whose run is known; copies, appends and clears of rows of pairs; two pieces laid into a row. (Needs KeptCore.)
  Rows of elements of any type, z cells each: a slice of one's own, elements put behind it, one element read or written anew. (Needs KnownCore alone; says nothing of any package.)
  Bytes in memory: strings, slices of bytes, a row of one's own, a block that holds just some bytes. (Needs RowAny alone; says nothing of any package. Out of PipByte and CrcMem.)
  Regions that draw their order and at most make new memory: one walk serves every order; operations taken by hand. (Needs ExtCore.)
  Regions taken by hand, more: two calls of which either may come first; an operation alone, its run known. (Needs EverCore.)
  Two operations that make memory, either of which may come up; an append, a store as a region's operation. (Needs EverMore.)
  A region that draws its order, inside a round of a loop over a function: its plain walk serves. (Needs no other text.)
-/
import Derived.Test.YtjmgigfaiaemeaaProg
import Derived.WalkKit
import Derived.Deep.Draws
import Derived.Below
import Derived.Laws.Rows
import Derived.Laws.CopyOwn
import Derived.Deep.MidRow
import Derived.Lib.Hide
import Derived.Deep.RegionLaw
import Derived.Deep.RegionHeld3
import Derived.Deep.QuietTactic
import Derived.BigQuiet
import Derived.OwnWalk
import Derived.Maps.AppendAt
import Derived.Lib.AppendZeros
import Derived.Lib.Overlaps
import Derived.Handy
import Derived.Deep.OwnRows
import Derived.Lib.SmallJoins
import Derived.Laws.BytesArg
import Derived.Laws.AppendOwnNone
import Derived.Deep.Strs
import Derived.OrdersIn
import Derived.ControlIn
import Derived.RangeFuncCalls
namespace Go.Proofs.Ytjmgigfaiaemeaa
set_option linter.unusedVariables false
open Go.RowKit

theorem ext_drew {B : Nat} {a b : World} (h : Below B a b) (n : Nat) : Below B a (b.drewN n) := ⟨h.os, h.tape, h.output, h.size, h.block⟩

/-- w' is w, but for new memory -/
def Ext (w w' : World) : Prop := Below w.heap.size w w'
theorem Ext.refl (w : World) : Ext w w := Below.refl _ _
theorem Ext.trans {a b c : World} (h : Ext a b) (k : Ext b c) : Ext a c := Below.trans h (Below.mono k h.size)
theorem Ext.drewN {a b : World} (h : Ext a b) (n : Nat) : Ext a (b.drewN n) := ext_drew h n
theorem Ext.alloc {a b : World} (h : Ext a b) (o : Obj) : Ext a (b.alloc o) := Below.alloc h h.size o
theorem Ext.cell {w w' : World} (h : Ext w w') {a : Addr} {v : Value} (hc : w.cell? a = some v) : w'.cell? a = some v := by
  rw [Below.cell h (World.block_lt_of_cell? w a hc), hc]
theorem Ext.size {w w' : World} (h : Ext w w') : w.heap.size ≤ w'.heap.size := Below.size h
theorem Ext.setCell {a b : World} (h : Ext a b) {p : Addr} (hp : a.heap.size ≤ p.block) (u : Value) : Ext a (b.setCell p u) := Below.setCell h hp u
theorem Ext.frame {w w' : World} (h : Ext w w') (may : MemPlace → Prop) : w.keptBut w' may := Below.frame h may
theorem Ext.setRow {a b : World} (h : Ext a b) {g : Nat} (hg : a.heap.size ≤ g) (cs : Array Value) : Ext a (b.setRow g cs) := below_setRow h hg cs
theorem Ext.row {w w' : World} (h : Ext w w') {g : Nat} {o : Obj} (hg : w.heap[g]? = some o) : w'.heap[g]? = some o := by
  rw [Below.block h g (Array.getElem?_eq_some_iff.1 hg).1, hg]

/-- a row that was just laid, written whole -/
theorem setRow_new (w : World) (old cs : Array Value) (t : TypeId) (fr : Nat × Nat) : (w.alloc (.cells old t fr)).setRow w.heap.size cs = w.alloc (.cells cs t fr) := by
  unfold World.setRow World.alloc
  congr 1
  apply Array.ext_getElem?
  intro i
  simp only [Array.getElem?_modify, Array.getElem?_push]
  by_cases h : i = w.heap.size
  · subst h; simp
  · simp [h]; omega
end Go.Proofs.Ytjmgigfaiaemeaa

namespace Go.Proofs.Ytjmgigfaiaemeaa
set_option linter.unusedVariables false
open Go.RowKit Go.Lib

/-- of the blocks of w those of K are in w' as they were -/
def Kept (K : Nat → Prop) (w w' : World) : Prop := (w'.os = w.os ∧ w'.tape = w.tape ∧ w'.output = w.output ∧ w.heap.size ≤ w'.heap.size) ∧ ∀ i, i < w.heap.size → K i → w'.heap[i]? = w.heap[i]?
theorem Kept.refl (K : Nat → Prop) (w : World) : Kept K w w := ⟨⟨rfl, rfl, rfl, Nat.le_refl _⟩, fun _ _ _ => rfl⟩
theorem Kept.trans {K : Nat → Prop} {a b c : World} (h : Kept K a b) (k : Kept K b c) : Kept K a c :=
  ⟨⟨k.1.1.trans h.1.1, k.1.2.1.trans h.1.2.1, k.1.2.2.1.trans h.1.2.2.1, Nat.le_trans h.1.2.2.2 k.1.2.2.2⟩, fun i hi hk => (k.2 i (Nat.lt_of_lt_of_le hi h.1.2.2.2) hk).trans (h.2 i hi hk)⟩
theorem Kept.mono {K L : Nat → Prop} {w w' : World} (h : Kept K w w') (hL : ∀ i, L i → K i) : Kept L w w' := ⟨h.1, fun i hi hl => h.2 i hi (hL i hl)⟩
theorem Kept.narrow {K L : Nat → Prop} {w w' : World} (h : Kept K w w') (hL : ∀ i, i < w.heap.size → L i → K i) : Kept L w w' := ⟨h.1, fun i hi hl => h.2 i hi (hL i hi hl)⟩
theorem Kept.size {K : Nat → Prop} {w w' : World} (h : Kept K w w') : w.heap.size ≤ w'.heap.size := h.1.2.2.2
theorem Kept.of_ext {K : Nat → Prop} {w w' : World} (h : Ext w w') : Kept K w w' := ⟨⟨Below.os h, Below.tape h, Below.output h, Below.size h⟩, fun i hi _ => Below.block h i hi⟩
theorem Kept.below {K : Nat → Prop} {B : Nat} {w w' : World} (h : Kept K w w') (hB : B ≤ w.heap.size) (hK : ∀ i, i < B → K i) : Below B w w' := ⟨h.1.1, h.1.2.1, h.1.2.2.1, h.1.2.2.2, fun i hi => h.2 i (Nat.lt_of_lt_of_le hi hB) (hK i hi)⟩
theorem Kept.drewN {K : Nat → Prop} {a b : World} (h : Kept K a b) (n : Nat) : Kept K a (b.drewN n) := h
theorem Kept.alloc {K : Nat → Prop} {a b : World} (h : Kept K a b) (o : Obj) : Kept K a (b.alloc o) := h.trans (.of_ext ((Ext.refl b).alloc o))
theorem Kept.setCell {K : Nat → Prop} {a b : World} (h : Kept K a b) {p : Addr} (hp : ¬ K p.block) (u : Value) : Kept K a (b.setCell p u) :=
  h.trans ⟨⟨rfl, rfl, rfl, by simp⟩, fun i _ hk => heap_setCell_other b p i u (fun e => hp (e ▸ hk))⟩
theorem Kept.setRow {K : Nat → Prop} {a b : World} (h : Kept K a b) {g : Nat} (hg : ¬ K g) (cs : Array Value) : Kept K a (b.setRow g cs) :=
  h.trans ⟨⟨rfl, rfl, rfl, by simp⟩, fun i _ hk => setRow_other b g i cs (fun e => hg (e ▸ hk))⟩
theorem Kept.grown {K : Nat → Prop} {a b c : World} {row : Option Nat} (h : Kept K a b) (hg : b.grownBy c row) (hr : ∀ k, row = some k → ¬ K k) : Kept K a c :=
  h.trans ⟨⟨hg.os, hg.tape, hg.output, hg.size⟩, fun i hi hk => hg.block i hi (fun e => hr i e.symm hk)⟩
theorem Kept.row {K : Nat → Prop} {w w' : World} (h : Kept K w w') {g : Nat} (hk : K g) {o : Obj} (hg : w.heap[g]? = some o) : w'.heap[g]? = some o := by
  rw [h.2 g (Array.getElem?_eq_some_iff.1 hg).1 hk, hg]
theorem Kept.cell {K : Nat → Prop} {w w' : World} (h : Kept K w w') {a : Addr} (hk : K a.block) {v : Value} (hc : w.cell? a = some v) : w'.cell? a = some v := by
  rw [World.cell?_of_block (h.2 a.block (block_lt_of_cell hc) hk), hc]

/-- v is a slice of elements of sz cells each, their cells are cs, and lie in a block of K -/
def RowK (K : Nat → Prop) (w : World) (v : Value) (sz : Nat) (cs : List Value) : Prop :=
  ∃ ao n c, v = .slice ao n c ∧ cs.length = n * sz ∧ n ≤ c ∧ c ≤ maxLen ∧ (0 < n → ∃ g o, ao = some ⟨g, o, none⟩ ∧ K g ∧ ∀ j u, cs[j]? = some u → w.cell? ⟨g, o + j, none⟩ = some u)
theorem RowK.kept {K : Nat → Prop} {w w' : World} {v : Value} {sz : Nat} {cs : List Value} (h : RowK K w v sz cs) (k : Kept K w w') : RowK K w' v sz cs := by
  obtain ⟨ao, n, c, e, h1, h2, h3, h4⟩ := h
  refine ⟨ao, n, c, e, h1, h2, h3, fun h0 => ?_⟩
  obtain ⟨g, o, ea, hg, hc⟩ := h4 h0
  exact ⟨g, o, ea, hg, fun j u hu => k.cell hg (hc j u hu)⟩
theorem RowK.mono {K L : Nat → Prop} {w : World} {v : Value} {sz : Nat} {cs : List Value} (h : RowK K w v sz cs) (hz : 0 < sz) (hL : ∀ i, i < w.heap.size → K i → L i) : RowK L w v sz cs := by
  obtain ⟨ao, n, c, e, h1, h2, h3, h4⟩ := h
  refine ⟨ao, n, c, e, h1, h2, h3, fun h0 => ?_⟩
  obtain ⟨g, o, ea, hg, hc⟩ := h4 h0
  have hl : 0 < cs.length := by rw [h1]; exact Nat.mul_pos h0 hz
  exact ⟨g, o, ea, hL g (block_lt_of_cell (hc 0 _ (List.getElem?_eq_getElem hl))) hg, hc⟩
theorem RowK.nil (K : Nat → Prop) (w : World) (sz : Nat) : RowK K w (.slice none 0 0) sz [] := ⟨none, 0, 0, rfl, by simp, Nat.le_refl _, Nat.zero_le _, fun h => absurd h (by decide)⟩

/-- pairs as they lie in cells -/
def gcells (l : List (Int × Int)) : List Value := l.flatMap fun g => [.int .i64 g.1, .int .i64 g.2]
theorem gcells_length (l : List (Int × Int)) : (gcells l).length = l.length * 2 := by
  induction l with
  | nil => rfl
  | cons g l ih => simp only [gcells, List.flatMap_cons, List.length_append, List.length_cons, List.length_nil] at ih ⊢; omega
theorem gcells_at (l : List (Int × Int)) : ∀ k, k < l.length → (gcells l)[k * 2]? = some (.int .i64 (l.getD k (0, 0)).1) ∧ (gcells l)[k * 2 + 1]? = some (.int .i64 (l.getD k (0, 0)).2) := by
  induction l with
  | nil => intro k h; simp at h
  | cons g l ih =>
    intro k h
    cases k with
    | zero => simp [gcells]
    | succ k =>
      have := ih k (by simpa using h)
      have e1 : (k + 1) * 2 = k * 2 + 1 + 1 := by omega
      rw [e1]
      simpa [gcells] using this
theorem lt_of_row {w : World} {g : Nat} {o : Obj} (h : w.heap[g]? = some o) : g < w.heap.size := (Array.getElem?_eq_some_iff.1 h).1

theorem owns_slice {w : World} {base : Nat} {e : TypeId} {size n : Nat} {v : Value} {xs : List Value} (h : w.ownsRow base e size v n xs) : ∃ ao n c, v = .slice ao n c := by
  rcases h.2 with ⟨rfl, _⟩ | ⟨g, cap, cur, rfl, _⟩
  · exact ⟨_, _, _, rfl⟩
  · exact ⟨_, _, _, rfl⟩
end Go.Proofs.Ytjmgigfaiaemeaa

namespace Go.Proofs.Ytjmgigfaiaemeaa
set_option linter.unusedVariables false
open Go.RowKit Go.Lib

/-- an operation whose run is known -/
theorem wpList_known {P : Program} {ops : Array Oper} {rest : List Oper} {o : Oper} {a : Act} {w : World} {Q : Exit → Act → World → Prop} (hg : o.guard = none) {v : Value} {w' : World}
    (hr : (execOp a.eval o).run P w = .ok (.value v) w') (h : wpList P ops Q rest (a.put o.dst v) w') : wpList P ops Q (o :: rest) a w := by
  refine wpList_plain hg fun K hK => ?_
  unfold Oper.wp
  rw [hr]
  exact hK _ _ h

/-- .. a copy -/
theorem wpList_copy_known {P : Program} {ops : Array Oper} {rest : List Oper} {o : Oper} {a : Act} {w : World} {Q : Exit → Act → World → Prop} (hg : o.guard = none) (d x : Operand) (dT sT : TypeId)
    (hop : o.op = Op.call { callee := Callee.builtin Builtin.copy, args := #[d, x], argTypes := #[dT, sT] }) (u v r : Value) (w' : World) (hd : a.eval d = u) (hx : a.eval x = v)
    (hrun : (Builtin.copy_ #[dT, sT] o.type #[u, v]).run P w = .ok r w') (h : wpList P ops Q rest (a.put o.dst r) w') : wpList P ops Q (o :: rest) a w := by
  refine wpList_known hg (v := r) (w' := w') ?_ h
  simp [execOp, hop, resolve, invoke, builtin, hd, hx, hrun]
theorem step_copy_known {P : Program} {ops : Array Oper} {o : Oper} {a : Act} {w : World} {K : Act → World → Prop} {Q : Exit → Act → World → Prop} {E : Prop} (hg : o.guard = none) (d x : Operand) (dT sT : TypeId)
    (hop : o.op = Op.call { callee := Callee.builtin Builtin.copy, args := #[d, x], argTypes := #[dT, sT] }) (u v r : Value) (w' : World) (hd : a.eval d = u) (hx : a.eval x = v)
    (hrun : (Builtin.copy_ #[dT, sT] o.type #[u, v]).run P w = .ok r w') (hK : K (a.put o.dst r) w') :
    if Region.wanted o (yielded ops a.tmps) = true then Oper.wp P o a w K Q else E := by
  have hw : Region.wanted o (yielded ops a.tmps) = true := by simp [Region.wanted, hg]
  rw [if_pos hw]
  unfold Oper.wp
  simp [execOp, hop, resolve, invoke, builtin, hd, hx, hrun, Result.andThen]
  exact hK

/-- two pieces that lie side by side, laid into a row in either order -/
theorem splice_ab {α : Type} (L V D : List α) (i : Nat) (h : i + V.length + D.length ≤ L.length) : splice (splice L i V) (i + V.length) D = L.take i ++ (V ++ (D ++ L.drop (i + V.length + D.length))) := by
  unfold splice
  have e1 : (L.take i ++ (V ++ L.drop (i + V.length))).take (i + V.length) = L.take i ++ V := by
    rw [← List.append_assoc, List.take_append_of_le_length (by simp; omega), List.take_of_length_le (by simp; omega)]
  have e2 : (L.take i ++ (V ++ L.drop (i + V.length))).drop (i + V.length + D.length) = L.drop (i + V.length + D.length) := by
    rw [← List.append_assoc, List.drop_append, List.drop_eq_nil_of_le (by simp; omega), List.nil_append, List.drop_drop]
    congr 1
    simp
    omega
  rw [e1, e2, List.append_assoc]
theorem splice_ba {α : Type} (L V D : List α) (i : Nat) (h : i + V.length + D.length ≤ L.length) : splice (splice L (i + V.length) D) i V = L.take i ++ (V ++ (D ++ L.drop (i + V.length + D.length))) := by
  unfold splice
  have e1 : (L.take (i + V.length) ++ (D ++ L.drop (i + V.length + D.length))).take i = L.take i := by
    rw [List.take_append_of_le_length (by simp; omega), List.take_take]
    congr 1
    omega
  have e2 : (L.take (i + V.length) ++ (D ++ L.drop (i + V.length + D.length))).drop (i + V.length) = D ++ L.drop (i + V.length + D.length) := by
    rw [List.drop_append, List.drop_eq_nil_of_le (by simp; omega), List.nil_append]
    have : i + V.length - (L.take (i + V.length)).length = 0 := by simp; omega
    rw [this, List.drop_zero]
  rw [e1, e2]

/-- cells of a row, as a copy reads them -/
theorem row_src {w : World} {g : Nat} {cur : List Value} {t : TypeId} {fr : Nat × Nat} (hg : w.heap[g]? = some (.cells cur.toArray t fr)) {o : Nat} {cs : List Value} (h : cs <+: cur.drop o) : ∀ j u, cs[j]? = some u → w.cell? ((⟨g, o, none⟩ : Addr).add j) = some u := by
  intro j u hu
  rw [Addr.add_mid, cell_of_row w g _ _ t fr hg]
  obtain ⟨r, hr⟩ := h
  have hj := (List.getElem?_eq_some_iff.1 hu).1
  have : (cur.drop o)[j]? = some u := by rw [← hr, List.getElem?_append_left hj, hu]
  rw [List.getElem?_drop] at this
  simpa using this

/-- a copy of elements of sz cells into a row that is known -/
theorem run_copy_wide {P : Program} (w : World) (dT sT ty elem : TypeId) (sz : Nat) (g o dLen dCap : Nat) (ad : Addr) (sLen sCap : Nat) (cur : List Value) (t : TypeId) (cs : List Value)
    (hu : P.underlying dT = some (.slice elem)) (hs : (P.info? elem).map (·.size) = some sz) (hg : w.heap[g]? = some (.cells cur.toArray t (0, 0))) (hn : cs.length = Nat.min sLen dLen * sz)
    (hsrc : ∀ j v, cs[j]? = some v → w.cell? (ad.add j) = some v) (hfit : o + cs.length ≤ cur.length) (h1 : ∀ v ∈ cs, v.oneCell' = true) :
    (Builtin.copy_ #[dT, sT] ty #[.slice (some ⟨g, o, none⟩) dLen dCap, .slice (some ad) sLen sCap]).run P w = .ok (goInt (Nat.min sLen dLen)) (w.setRow g (splice cur o cs).toArray) := by
  have hst := run_storeCells_at P g o t cs 0 cur.toArray w hg (by simpa using hfit) h1
  cases hq : P.info? elem with
  | none => simp [hq] at hs
  | some i =>
    have hi : i.size = sz := by simpa [hq] using hs
    have hf := run_firstCells_some (P := P) w i.size (Nat.min sLen dLen) ad sLen sCap cs (by rw [hi]; exact hn) hsrc
    have e : Sem.run P (Builtin.copy_ #[dT, sT] ty #[.slice (some ⟨g, o, none⟩) dLen dCap, .slice (some ad) sLen sCap]) w = ((storeCells ⟨g, o, none⟩ cs).run P w).andThen fun _ w' => .ok (goInt (Nat.min sLen dLen)) w' := by
      simp [Builtin.copy_, run_underlying hu, Builtin.lenOf, sizeOf, typeInfo, hq, hf]
    rw [e]
    simp only [Nat.add_zero] at hst
    rw [hst]
    simp [splice, Result.andThen]

/-- append(s, make(..)...), where there is no room -/
theorem run_append_zeros {P : Program} (w : World) (t tn ty e : TypeId) (i : TypeInfo) (z : Value) (k kn : IntKind) (ht : P.underlying t = some (.slice e)) (htn : P.underlying tn = some (.int kn)) (hi : P.info? e = some i) (hz : i.zero = some z)
    (b : Addr) (sLen sCap : Nat) (olds : List Value) (hlo : olds.length = sLen * i.size) (holds : ∀ j v, olds[j]? = some v → w.cell? (b.add j) = some v)
    (n : Nat) (h0 : 0 < n) (hs : 0 < i.size) (hg : sCap < sLen + n) (h63 : ((sLen + n : Nat) : Int) ≤ 9223372036854775807) (h48 : n * i.bytes ≤ 281474976710656) (hfit : Builtin.nextslicecap (sLen + n) sCap * i.bytes ≤ 281474976710656) :
    (Builtin.append_ #[t, tn] ty #[.slice (some b) sLen sCap, .int k n]).run P w =
      .ok (.slice (some ⟨w.heap.size, 0, none⟩) (sLen + n) (grownCap w (sLen + n) sCap e))
        (w.drew.alloc (.cells (olds.toArray ++ Builtin.zeroCells z.cells n ++ Builtin.zeroCells z.cells (grownCap w (sLen + n) sCap e - (sLen + n))) e)) := by
  have hn : ¬ (sLen + n ≤ sCap) := by omega
  have hw : IntKind.i64.wrap (n : Int) = n := by rw [IntKind.wrap_i64]; omega
  have h63' : ¬ (9223372036854775807 < ((sLen : Int) + (n : Int))) := by omega
  have h48' : ¬ (281474976710656 < Builtin.nextslicecap (sLen + n) sCap * i.bytes) := by omega
  have h48i : ¬ (281474976710656 < (n : Int) * (i.bytes : Int)) := by
    rw [← Int.natCast_mul]
    omega
  have hneg : ¬ ((n : Int) < 0) := by omega
  have hns : ¬ (n * i.size = 0) := Nat.mul_ne_zero (by omega) (by omega)
  have hfo := run_firstCells_some (P := P) w.drew i.size sLen b sLen sCap olds hlo (by simpa using holds)
  simp [Builtin.append_, run_underlying ht, run_underlying htn, sizeOf, typeInfo, zeroValue, hi, hz, asInt, asIntOf, hw, hn, hneg, hns, h63', h48', h48i, Question.forced, hfo, newRow, grownCap]
end Go.Proofs.Ytjmgigfaiaemeaa

namespace Go.Proofs.Ytjmgigfaiaemeaa
set_option linter.unusedVariables false
set_option maxRecDepth 100000
open Go.RowKit Go.Lib

/-- an element's cells: z of them, one cell each -/
def Enc {α : Type} (f : α → List Value) (z : Nat) : Prop := 0 < z ∧ (∀ x, (f x).length = z) ∧ ∀ x u, u ∈ f x → u.oneCell' = true

/-- the elements' cells -/
def fcells {α : Type} (f : α → List Value) (l : List α) : List Value := l.flatMap f
theorem fcells_length {α : Type} {f : α → List Value} {z : Nat} (E : Enc f z) (l : List α) : (fcells f l).length = l.length * z := by
  induction l with
  | nil => simp [fcells]
  | cons x l ih =>
    simp only [fcells, List.flatMap_cons, List.length_append, List.length_cons] at ih ⊢
    rw [ih, E.2.1 x, Nat.add_mul]
    omega
theorem fcells_append {α : Type} (f : α → List Value) (a b : List α) : fcells f (a ++ b) = fcells f a ++ fcells f b := by simp [fcells]
theorem fcells_cons {α : Type} (f : α → List Value) (a : α) (b : List α) : fcells f (a :: b) = f a ++ fcells f b := by simp [fcells]
theorem fcells_one {α : Type} {f : α → List Value} {z : Nat} (E : Enc f z) (l : List α) : ∀ u ∈ fcells f l, u.oneCell' = true := by
  intro u hu
  obtain ⟨x, _, h⟩ := List.mem_flatMap.1 hu
  exact E.2.2 x u h
theorem fcells_drop {α : Type} {f : α → List Value} {z : Nat} (E : Enc f z) (l : List α) : ∀ k, fcells f (l.drop k) = (fcells f l).drop (k * z) := by
  induction l with
  | nil => intro k; simp [fcells]
  | cons x l ih =>
    intro k
    cases k with
    | zero => simp
    | succ k =>
      have e : (k + 1) * z = (f x).length + k * z := by rw [E.2.1 x, Nat.add_mul]; omega
      rw [List.drop_succ_cons, ih, fcells_cons, e, ← List.drop_drop, List.drop_left]
theorem fcells_take {α : Type} {f : α → List Value} {z : Nat} (E : Enc f z) (l : List α) : ∀ k, fcells f (l.take k) = (fcells f l).take (k * z) := by
  induction l with
  | nil => intro k; simp [fcells]
  | cons x l ih =>
    intro k
    cases k with
    | zero => simp [fcells]
    | succ k =>
      have e : (k + 1) * z = (f x).length + k * z := by rw [E.2.1 x, Nat.add_mul]; omega
      rw [List.take_succ_cons, fcells_cons, ih, fcells_cons, e, List.take_length_add_append]
theorem fcells_at {α : Type} {f : α → List Value} {z : Nat} (E : Enc f z) {l : List α} {k : Nat} {x : α} (hk : l[k]? = some x) {j : Nat} (hj : j < z) : (fcells f l)[k * z + j]? = (f x)[j]? := by
  obtain ⟨h1, h2⟩ := List.getElem?_eq_some_iff.1 hk
  have h3 : l.drop k = x :: l.drop (k + 1) := by rw [List.drop_eq_getElem_cons h1, h2]
  have h4 := fcells_drop E l k
  rw [h3, fcells_cons] at h4
  rw [← List.getElem?_drop, ← h4, List.getElem?_append_left (by rw [E.2.1]; exact hj)]
theorem fcells_set {α : Type} {f : α → List Value} {z : Nat} (E : Enc f z) (l : List α) (k : Nat) (y : α) (hk : k < l.length) : fcells f (l.set k y) = splice (fcells f l) (k * z) (f y) := by
  unfold splice
  rw [List.set_eq_take_append_cons_drop, if_pos hk, fcells_append, fcells_cons, fcells_take E, fcells_drop E, E.2.1, Nat.add_mul, Nat.one_mul]

/-- ts is the type of slices of t, whose values have z cells -/
def Elems (ts t : TypeId) (z nb : Nat) (zero : Value) : Prop := Try.prog.underlying ts = some (.slice t) ∧ (Try.prog.info? t).map (fun i => (i.zero, i.size, i.bytes)) = some (some zero, z, nb) ∧ zero.cells.size = z ∧ nb ≤ 1000

/-- the elements l lie in a row of one's own -/
def Own {α : Type} (f : α → List Value) (t : TypeId) (z : Nat) (w : World) (v : Value) (l : List α) : Prop := w.ownsRow 0 t z v l.length (fcells f l)
theorem Own.nil {α : Type} (f : α → List Value) (t : TypeId) (z : Nat) (w : World) : Own f t z w (.slice none 0 0) [] := World.ownsRow_nil _ _ _ _
theorem Own.view {α : Type} {f : α → List Value} {t : TypeId} {z : Nat} {w : World} {v : Value} {l : List α} (E : Enc f z) (h : Own f t z w v l) :
    ∃ ao c, v = .slice ao l.length c ∧ l.length ≤ c ∧ c ≤ maxLen ∧ ∀ k x, l[k]? = some x → ∃ g, ao = some ⟨g, 0, none⟩ ∧ ∀ j u, (f x)[j]? = some u → w.cell? ⟨g, k * z + j, none⟩ = some u := by
  have h' := h
  rcases h.2 with ⟨rfl, h0⟩ | ⟨g, cap, cur, rfl, hb, hg, h1, h2, _, ht⟩
  · exact ⟨none, 0, by rw [h0], by omega, Nat.zero_le _, fun k x hk => by have := (List.getElem?_eq_some_iff.1 hk).1; omega⟩
  · refine ⟨_, _, rfl, h1, h2, fun k x hk => ⟨g, rfl, fun j u hu => ?_⟩⟩
    have hj : j < z := by rw [← E.2.1 x]; exact (List.getElem?_eq_some_iff.1 hu).1
    have := World.ownsRow.cells h' (g := g) rfl (k * z + j) u (by rw [fcells_at E hk hj]; exact hu)
    rwa [Addr.add_mid, Nat.zero_add] at this
theorem Own.kept {α : Type} {f : α → List Value} {t : TypeId} {z : Nat} {K : Nat → Prop} {w w' : World} {v : Value} {l : List α} (h : Own f t z w v l) (k : Kept K w w') (hk : ∀ g, v.ownBlock = some g → K g) : Own f t z w' v l := by
  refine ⟨h.1, ?_⟩
  rcases h.2 with hn | ⟨g, cap, cur, rfl, hb, hgg, rest⟩
  · exact .inl hn
  · exact .inr ⟨g, cap, cur, rfl, hb, k.row (hk g rfl) hgg, rest⟩
theorem Own.ext {α : Type} {f : α → List Value} {t : TypeId} {z : Nat} {w w' : World} {v : Value} {l : List α} (h : Own f t z w v l) (e : Ext w w') : Own f t z w' v l := h.kept (K := fun _ => True) (Kept.of_ext e) (fun _ _ => trivial)
theorem Own.grown {α : Type} {f : α → List Value} {t : TypeId} {z : Nat} {w w' : World} {row : Option Nat} {v : Value} {l : List α} (h : Own f t z w v l) (hg : w.grownBy w' row) (hne : v.ownBlock = none ∨ v.ownBlock ≠ row) : Own f t z w' v l := World.ownsRow.kept h hg hne
theorem Own.row {α : Type} {f : α → List Value} {t : TypeId} {z : Nat} {w : World} {v : Value} {l : List α} (h : Own f t z w v l) : RowK (fun i => v.ownBlock = some i) w v z (fcells f l) := by
  rcases h.2 with ⟨rfl, h0⟩ | ⟨g, cap, cur, rfl, hb, hg, h1, h2, _, ht⟩
  · have : l = [] := List.eq_nil_of_length_eq_zero h0
    subst this
    exact RowK.nil _ w z
  · exact ⟨_, _, _, rfl, h.1, h1, h2, fun _ => ⟨g, 0, rfl, rfl, fun j u hu => by
      have := World.ownsRow.cells h (g := g) rfl j u hu
      rwa [Addr.add_mid] at this⟩⟩
theorem Own.lt {α : Type} {f : α → List Value} {t : TypeId} {z : Nat} {w : World} {v : Value} {l : List α} (h : Own f t z w v l) {k : Nat} (hk : v.ownBlock = some k) : k < w.heap.size := (World.ownsRow.lt h k hk).2
/-- a row's block is of the elements' type -/
theorem Own.type {α : Type} {f : α → List Value} {t : TypeId} {z : Nat} {w : World} {v : Value} {l : List α} (h : Own f t z w v l) {k : Nat} (hk : v.ownBlock = some k) : ∃ cur, w.heap[k]? = some (.cells cur t (0, 0)) := by
  rcases h.2 with ⟨rfl, h0⟩ | ⟨g, cap, cur, rfl, hb, hg, _⟩
  · simp [Value.ownBlock] at hk
  · simp only [Value.ownBlock, Option.some.injEq] at hk
    subst hk
    exact ⟨cur, hg⟩
theorem Own.apart {α : Type} {f : α → List Value} {t t' : TypeId} {z : Nat} {w : World} {v : Value} {l : List α} (h : Own f t z w v l) {k : Nat} {cs : Array Value} {fr : Nat × Nat} (hk : w.heap[k]? = some (.cells cs t' fr)) (ne : t ≠ t') : v.ownBlock ≠ some k := by
  intro e
  obtain ⟨cur, hc⟩ := h.type e
  rw [hc] at hk
  simp at hk
  exact ne hk.2.1

/-- a row's block -/
theorem Own.at {α : Type} {f : α → List Value} {t : TypeId} {z : Nat} {w : World} {v : Value} {l : List α} (h : Own f t z w v l) : (v = .slice none 0 0 ∧ l = []) ∨
    ∃ g cap L, v = .slice (some ⟨g, 0, none⟩) l.length cap ∧ w.heap[g]? = some (.cells (List.toArray L) t (0, 0)) ∧ l.length ≤ cap ∧ cap ≤ maxLen ∧ L.length = cap * z ∧ L.take (l.length * z) = fcells f l := by
  rcases h.2 with ⟨rfl, h0⟩ | ⟨g, cap, cur, rfl, hb, hg, h1, h2, h3, h4⟩
  · exact .inl ⟨rfl, List.eq_nil_of_length_eq_zero h0⟩
  · exact .inr ⟨g, cap, cur.toList, rfl, by rw [Array.toArray_toList]; exact hg, h1, h2, by rw [Array.length_toList]; exact h3, h4⟩
/-- an empty row just made -/
theorem Own.made {α : Type} (f : α → List Value) (t : TypeId) (z : Nat) (w : World) : Own f t z (w.alloc (.cells #[] t)) (.slice (some ⟨w.heap.size, 0, none⟩) 0 0) ([] : List α) :=
  World.ownsRow_made w #[] 0 (Nat.zero_le _) (Nat.zero_le _) (by simp)

/-- elements put behind a row of one's own -/
theorem append_rows {α : Type} {f : α → List Value} {ts t : TypeId} {z nb : Nat} {zero : Value} (T : Elems ts t z nb zero) (E : Enc f z) (ty : TypeId) (w : World) (v : Value) (xs : List α) (hown : Own f t z w v xs) {K : Nat → Prop} (u : Value) (ys : List α) (hu : RowK K w u z (fcells f ys)) (hl : xs.length + ys.length ≤ 100000) :
    ∃ v' w', (Builtin.append_ #[ts, ts] ty #[v, u]).run Try.prog w = .ok v' w' ∧ Own f t z w' v' (xs ++ ys) ∧ w.grownBy w' v.ownBlock ∧ (v'.ownBlock = v.ownBlock ∨ v'.ownBlock = some w.heap.size) := by
  obtain ⟨T1, T2, T3, T4⟩ := T
  obtain ⟨i0, hi, hz0, hz1, hz2⟩ := info_parts T2
  obtain ⟨ao, n, c, rfl, h1, h2, h3, h4⟩ := hu
  rw [fcells_length E] at h1
  obtain rfl : ys.length = n := Nat.eq_of_mul_eq_mul_right E.1 h1
  rcases Nat.eq_zero_or_pos ys.length with h0 | h0
  · have e : ys = [] := List.eq_nil_of_length_eq_zero h0
    subst e
    rw [List.append_nil]
    refine ⟨v, w, ?_, hown, ⟨rfl, rfl, rfl, Nat.le_refl _, fun _ _ _ => rfl⟩, .inl rfl⟩
    rcases hown.2 with ⟨rfl, _⟩ | ⟨g, cap, cur, rfl, _, _, hnc, _⟩
    · cases ao <;> simp [Builtin.append_, run_underlying T1, sizeOf, typeInfo, hi, Builtin.lenOf, Builtin.firstCells, loadCells, loadCellsFrom]
    · cases ao <;> simp [Builtin.append_, run_underlying T1, sizeOf, typeInfo, hi, Builtin.lenOf, Builtin.firstCells, loadCells, loadCellsFrom, hnc, storeCells]
  · obtain ⟨g, o, rfl, _, hc⟩ := h4 h0
    have hb : (xs.length + ys.length) * nb ≤ 140737488355328 := Nat.le_trans (Nat.mul_le_mul hl T4) (by decide)
    obtain ⟨v', w', r, ow, gb, _, hv⟩ := run_append_own_at (P := Try.prog) w 0 ts ty t i0 zero z nb T1 hi hz0 hz1 hz2 T3 E.1 v xs.length (fcells f xs) hown ⟨g, o, none⟩ ys.length c (fcells f ys) (fcells_length E ys) (fun j u hu => by rw [Addr.add_mid]; exact hc j u hu) (fcells_one E ys) (by unfold maxLen; omega) hb (Nat.zero_le _)
    refine ⟨v', w', r, ?_, gb, hv⟩
    unfold Own
    rw [List.length_append, fcells_append]
    exact ow

/-- one element, as a row just laid -/
theorem one_row {α : Type} {f : α → List Value} {z : Nat} (E : Enc f z) (t : TypeId) (w : World) (x : α) : RowK (fun i => i = w.heap.size) (w.alloc (.cells (f x).toArray t)) (.slice (some ⟨w.heap.size, 0, none⟩) 1 1) z (fcells f [x]) := by
  refine ⟨_, _, _, rfl, by rw [fcells_length E]; simp, Nat.le_refl _, by unfold maxLen; omega, fun _ => ⟨w.heap.size, 0, rfl, rfl, fun j u hu => ?_⟩⟩
  rw [Nat.zero_add, cell_of_row _ _ j _ _ _ (heap_alloc_new w _), List.getElem?_toArray]
  simpa [fcells] using hu

theorem Ext.by_row {w0 w w' : World} {row : Option Nat} (h : Ext w0 w) (hg : w.grownBy w' row) (hrow : ∀ k, row = some k → w0.heap.size ≤ k) : Ext w0 w' := Below.grown h hg h.size hrow

/-- elements that the walk puts one behind the other: where they lie is new since w -/
def NewR {α : Type} (f : α → List Value) (t : TypeId) (z : Nat) (w wr : World) (v : Value) (l : List α) : Prop := Own f t z wr v l ∧ (∀ k, v.ownBlock = some k → w.heap.size ≤ k) ∧ Ext w wr
theorem NewR.nil {α : Type} (f : α → List Value) (t : TypeId) (z : Nat) (w : World) : NewR f t z w w (.slice none 0 0) ([] : List α) := ⟨Own.nil f t z w, fun k hk => by simp [Value.ownBlock] at hk, Ext.refl w⟩
theorem NewR.ext {α : Type} {f : α → List Value} {t : TypeId} {z : Nat} {w wr w' : World} {v : Value} {l : List α} (h : NewR f t z w wr v l) (e : Ext wr w') : NewR f t z w w' v l := ⟨h.1.ext e, h.2.1, h.2.2.trans e⟩
theorem NewR.slice {α : Type} {f : α → List Value} {t : TypeId} {z : Nat} {w wr : World} {v : Value} {l : List α} (h : NewR f t z w wr v l) : ∃ ao c, v = .slice ao l.length c ∧ l.length ≤ c ∧ c ≤ maxLen := by
  rcases h.1.2 with ⟨rfl, h0⟩ | ⟨g, cap, cur, rfl, hb, hg, h1, h2, _⟩
  · exact ⟨none, 0, by rw [h0], by omega, Nat.zero_le _⟩
  · exact ⟨_, _, rfl, h1, h2⟩
theorem NewR.row {α : Type} {f : α → List Value} {t : TypeId} {z : Nat} {w wr : World} {v : Value} {l : List α} (E : Enc f z) (h : NewR f t z w wr v l) : RowK (fun i => w.heap.size ≤ i ∧ i < wr.heap.size) wr v z (fcells f l) :=
  h.1.row.mono E.1 fun i hi hk => ⟨h.2.1 i hk, hi⟩
theorem NewR.put {α : Type} {f : α → List Value} {ts t : TypeId} {z nb : Nat} {zero : Value} (T : Elems ts t z nb zero) (E : Enc f z) (ty : TypeId) {w wr : World} {v : Value} {xs : List α} (h : NewR f t z w wr v xs) {K : Nat → Prop} (u : Value) (ys : List α) (hu : RowK K wr u z (fcells f ys)) (hl : xs.length + ys.length ≤ 100000) :
    ∃ v' w', (Builtin.append_ #[ts, ts] ty #[v, u]).run Try.prog wr = .ok v' w' ∧ NewR f t z w w' v' (xs ++ ys) ∧ wr.grownBy w' v.ownBlock := by
  obtain ⟨v', w', r, o, gb, hv⟩ := append_rows T E ty wr v xs h.1 u ys hu hl
  refine ⟨v', w', r, ⟨o, fun k hk => ?_, h.2.2.by_row gb h.2.1⟩, gb⟩
  rcases hv with q | q
  · rw [q] at hk; exact h.2.1 k hk
  · rw [q] at hk
    simp only [Option.some.injEq] at hk
    have := h.2.2.size
    omega
theorem NewR.step {α : Type} {f : α → List Value} {ts t : TypeId} {z nb : Nat} {zero : Value} (T : Elems ts t z nb zero) (E : Enc f z) (ty : TypeId) {w wr : World} {v : Value} {xs : List α} (h : NewR f t z w wr v xs) (x : α) (hl : xs.length ≤ 90000) :
    ∃ v' w', (Builtin.append_ #[ts, ts] ty #[v, .slice (some ⟨wr.heap.size, 0, none⟩) 1 1]).run Try.prog (wr.alloc (.cells (f x).toArray t)) = .ok v' w' ∧ NewR f t z w w' v' (xs ++ [x]) ∧ (wr.alloc (.cells (f x).toArray t)).grownBy w' v.ownBlock :=
  (h.ext ((Ext.refl wr).alloc _)).put T E ty _ [x] (one_row E t wr x) (by simp; omega)

/-- one element written anew -/
theorem Own.set {α : Type} {f : α → List Value} {t : TypeId} {z : Nat} {w : World} {g n c : Nat} {l : List α} (E : Enc f z) (hz : (Try.prog.info? t).map (·.size) = some z) (h : Own f t z w (.slice (some ⟨g, 0, none⟩) n c) l) (k : Nat) (y : α) (hk : k < l.length) :
    ∃ w', (Instr.storeAt t (.pointer (some ⟨g, k * z, none⟩)) (.agg (f y).toArray)).run Try.prog w = .ok () w' ∧ Own f t z w' (.slice (some ⟨g, 0, none⟩) n c) (l.set k y) ∧ Kept (fun i => i ≠ g) w w' := by
  rcases h.at with ⟨e, _⟩ | ⟨g', cap, L, e, h1, h2, h3, h4, h5⟩
  · simp at e
  · simp only [Value.slice.injEq, Option.some.injEq, Addr.mk.injEq] at e
    obtain ⟨⟨rfl, _, _⟩, rfl, rfl⟩ := e
    have hkz : k * z + z ≤ l.length * z := by
      have := Nat.mul_le_mul_right z (show k + 1 ≤ l.length from hk)
      rw [Nat.add_mul, Nat.one_mul] at this
      exact this
    have hcz : l.length * z ≤ c * z := Nat.mul_le_mul_right z h2
    have hfy := E.2.1 y
    have hst := run_storeCells_at Try.prog g (k * z) t (f y) 0 L.toArray w h1 (by simp; omega) (E.2.2 y)
    simp only [Nat.add_zero] at hst
    refine ⟨_, ?_, ?_, (Kept.refl _ w).setRow (fun hne => hne rfl) (splice L (k * z) (f y)).toArray⟩
    · cases hq : Try.prog.info? t with
      | none => simp [hq] at hz
      | some i =>
        have hs : i.size = z := by simpa [hq] using hz
        simp [Instr.storeAt, Instr.sureAddr, Sem.run_bind, storeVar, sizeOf, typeInfo, hq, Value.cells, hs, hfy]
        rw [hst]
        simp [splice]
    · have e2 : splice L (k * z) (f y) = fcells f (l.set k y) ++ L.drop (l.length * z) := by
        rw [fcells_set E l k y hk, ← h5]
        unfold splice
        rw [List.take_take, Nat.min_eq_left (by omega), List.append_assoc, List.append_assoc]
        congr 2
        rw [hfy]
        conv => lhs; rw [← List.take_append_drop (l.length * z) L]
        rw [List.drop_append_of_le_length (by rw [List.length_take]; omega)]
      have h6 := setRow_heap w g L.toArray (splice L (k * z) (f y)).toArray _ _ h1
      refine ⟨by rw [fcells_length E], .inr ⟨g, c, _, by rw [List.length_set], Nat.zero_le _, h6, by rw [List.length_set]; exact h2, h3, ?_, ?_⟩⟩
      · rw [List.size_toArray, length_splice _ _ _ (by omega), h4]
      · rw [List.toList_toArray, e2]
        exact List.take_left' (by rw [fcells_length E])
end Go.Proofs.Ytjmgigfaiaemeaa

namespace Go.Proofs.Ytjmgigfaiaemeaa
set_option linter.unusedVariables false
set_option maxRecDepth 100000
open Go.RowKit Go.Lib

abbrev Sl := Option Addr × Nat × Nat
/-- a slice, as a value -/
def sval (s : Sl) : Value := .slice s.1 s.2.1 s.2.2
def str (l : List UInt8) : ByteArray := ⟨l.toArray⟩
theorem str_list (l : List UInt8) : (str l).toList = l := ByteArray.toList_mk l
theorem str_append (a b : List UInt8) : str a ++ str b = str (a ++ b) := ByteArray.mk_append_mk a b
theorem str_beq (a b : List UInt8) : ((str a).toList == (str b).toList) = (a == b) := by rw [str_list, str_list]
theorem str_size (l : List UInt8) : (str l).size = l.length := rfl

theorem info_byte : (Try.prog.info? 5).map (fun i => (i.zero, i.size, i.bytes)) = some (some (.int .u8 0), 1, 1) := by kernel_rfl
theorem size_byte : (Try.prog.info? 5).map (·.size) = some 1 := by kernel_rfl

/-- a byte as a value -/
def bval (b : UInt8) : Value := .int .u8 (b.toNat : Int)
/-- bytes as they lie in cells -/
def bcells (l : List UInt8) : List Value := l.map bval
theorem bcells_length (l : List UInt8) : (bcells l).length = l.length := List.length_map _
theorem bcells_one (l : List UInt8) : ∀ u ∈ bcells l, u.oneCell' = true := by
  intro u hu
  obtain ⟨b, _, rfl⟩ := List.mem_map.1 hu
  rfl
theorem bcells_at (l : List UInt8) (k : Nat) (h : k < l.length) : (bcells l)[k]? = some (.int .u8 ((l.getD k 0).toNat : Int)) := by
  unfold bcells
  rw [List.getElem?_map, List.getD_eq_getElem?_getD, List.getElem?_eq_getElem h]
  rfl
theorem bcells_append (a b : List UInt8) : bcells (a ++ b) = bcells a ++ bcells b := List.map_append ..

/-- the bytes l lie where the slice v points -/
def Bytes (w : World) (v : Value) (l : List UInt8) : Prop :=
  ∃ ao c, v = .slice ao l.length c ∧ l.length ≤ c ∧ c ≤ maxLen ∧ ∀ k, k < l.length → ∃ g o, ao = some ⟨g, o, none⟩ ∧ g < w.heap.size ∧ w.cell? ⟨g, o + k, none⟩ = some (.int .u8 ((l.getD k 0).toNat : Int))

theorem Bytes.ext {w w' : World} {v : Value} {l : List UInt8} (h : Bytes w v l) (e : Ext w w') : Bytes w' v l := by
  obtain ⟨ao, c, hv, h1, h2, h3⟩ := h
  refine ⟨ao, c, hv, h1, h2, fun k hk => ?_⟩
  obtain ⟨g, o, ha, hg, hc⟩ := h3 k hk
  exact ⟨g, o, ha, Nat.lt_of_lt_of_le hg e.size, e.cell hc⟩

theorem nums_str (l : List UInt8) : strOfNums (l.map fun b => (b.toNat : Int)) = str l := by
  unfold strOfNums str
  rw [List.map_map]
  congr 2
  conv => rhs; rw [← List.map_id l]
  apply List.map_congr_left
  intro b _
  simp
theorem nums_at (l : List UInt8) (k : Nat) : (l.map fun b => (b.toNat : Int)).getD k 0 = ((l.getD k 0).toNat : Int) := by
  rw [List.getD_eq_getElem?_getD, List.getD_eq_getElem?_getD, List.getElem?_map]
  cases l[k]? <;> rfl

/-- bytes, converted to a string -/
theorem Bytes.str {w : World} {v : Value} {l : List UInt8} (h : Bytes w v l) : (convert 41 9 v).run Try.prog w = .ok (.string (str l)) w := by
  obtain ⟨ao, c, rfl, h1, h2, h3⟩ := h
  cases ao with
  | none =>
    rcases Nat.eq_zero_or_pos l.length with h0 | h0
    · have e : l = [] := List.eq_nil_of_length_eq_zero h0
      subst e
      exact run_convert_bytes_nil w 41 5 Try.underlying41 Try.underlying5 _ _ 9 Try.underlying9
    · obtain ⟨g, o, ha, _⟩ := h3 0 h0
      cases ha
  | some a =>
    rcases Nat.eq_zero_or_pos l.length with h0 | h0
    · have e : l = [] := List.eq_nil_of_length_eq_zero h0
      subst e
      rw [run_convert_bytes_string w 41 9 5 _ _ _ Try.underlying41 Try.underlying5 Try.underlying9]
      exact run_bytesToString w a 0 c [] (by simp [loadCells, loadCellsFrom])
    · obtain ⟨g, o, ha, _⟩ := h3 0 h0
      cases ha
      rw [← nums_str]
      refine run_convert_bytes_arg w 41 5 Try.underlying41 Try.underlying5 g o _ c _ (by simp) (fun k hk => ?_) 9 Try.underlying9
      obtain ⟨g', o', ha, _, hc⟩ := h3 k hk
      cases ha
      rw [nums_at]
      exact hc

theorem addr_on (g o j : Nat) : (⟨g, o, none⟩ : Addr).add j = ⟨g, o + j, none⟩ := by unfold Addr.add; split <;> simp_all

/-- what a copy of bytes asks of its source -/
theorem Bytes.src {w : World} {ao : Option Addr} {n c : Nat} {l : List UInt8} (h : Bytes w (.slice ao n c) l) : n = l.length ∧ (0 < (bcells l).length → ∃ ad, ao = some ad ∧ ∀ j v, (bcells l)[j]? = some v → w.cell? (ad.add j) = some v) := by
  obtain ⟨ao', c', e, h1, h2, h3⟩ := h
  injection e with e1 e2 e3
  subst e1 e2 e3
  refine ⟨rfl, fun h0 => ?_⟩
  rw [bcells_length] at h0
  obtain ⟨g, o, ha, _⟩ := h3 0 h0
  refine ⟨_, ha, fun j v hv => ?_⟩
  have hj : j < l.length := by rw [← bcells_length l]; exact (List.getElem?_eq_some_iff.1 hv).1
  obtain ⟨g', o', ha', _, hc⟩ := h3 j hj
  rw [ha] at ha'
  cases ha'
  rw [bcells_at l j hj] at hv
  cases hv
  rw [addr_on]
  exact hc

/-- a slice is nil, or has a place -/
def Plain (v : Value) : Prop := v = .slice none 0 0 ∨ ∃ a n c, v = .slice (some a) n c

theorem owns_bytes {w : World} {base n : Nat} {v : Value} {l : List UInt8} (h : w.ownsRow base 5 1 v n (bcells l)) : n = l.length ∧ Bytes w v l := by
  have hn : n = l.length := by have := h.1; rw [bcells_length] at this; omega
  subst hn
  refine ⟨rfl, ?_⟩
  rcases h.2 with ⟨rfl, h0⟩ | ⟨g, cap, cur, rfl, hb, hg, hnc, hcm, hcs, htake⟩
  · have e : l = [] := List.eq_nil_of_length_eq_zero h0
    subst e
    exact ⟨none, 0, rfl, Nat.le_refl _, Nat.zero_le _, fun k hk => by simp at hk⟩
  · refine ⟨_, cap, rfl, hnc, hcm, fun k hk => ⟨g, 0, rfl, (Array.getElem?_eq_some_iff.1 hg).1, ?_⟩⟩
    rw [Nat.zero_add, cell_of_row w g k _ _ _ hg]
    have := bcells_at l k hk
    rw [← htake, List.getElem?_take_of_lt (by omega)] at this
    simpa using this

theorem run_append_bytes (w : World) (base : Nat) (v : Value) (xs : List UInt8) (hown : w.ownsRow base 5 1 v xs.length (bcells xs)) (u : Value) (l : List UInt8) (hu : Bytes w u l) (hp : Plain u) (hl : xs.length + l.length ≤ 200000) (hb : base ≤ w.heap.size) :
    ∃ v' w', (Builtin.append_ #[41, 41] 41 #[v, u]).run Try.prog w = .ok v' w' ∧ w'.ownsRow base 5 1 v' (xs ++ l).length (bcells (xs ++ l)) ∧ w.grownBy w' v.ownBlock := by
  obtain ⟨i0, hi, hz0, hz1, hz2⟩ := info_parts info_byte
  rcases hp with rfl | ⟨a, n, c, rfl⟩
  · obtain ⟨e1, _⟩ := hu.src
    have e : l = [] := List.eq_nil_of_length_eq_zero e1.symm
    subst e
    rw [List.append_nil]
    exact ⟨v, w, run_append_owned_none (P := Try.prog) (w := w) base 41 41 5 i0 1 Try.underlying41 hi v xs.length (bcells xs) hown, hown, ⟨rfl, rfl, rfl, Nat.le_refl _, fun _ _ _ => rfl⟩⟩
  · obtain ⟨rfl, e2⟩ := hu.src
    obtain ⟨v', w', h1, h2, h3, _⟩ := run_append_own (P := Try.prog) w base 41 41 5 i0 (.int .u8 0) 1 1 Try.underlying41 hi hz0 hz1 hz2 rfl (by decide) v xs.length (bcells xs) hown a l.length c (bcells l) (by rw [bcells_length]; omega) (fun j x hx => by
      obtain ⟨ad, ha, h⟩ := e2 (Nat.lt_of_le_of_lt (Nat.zero_le j) (List.getElem?_eq_some_iff.1 hx).1)
      cases ha
      exact h j x hx) (bcells_one l) (by unfold maxLen; omega) (by omega) hb
    refine ⟨v', w', h1, ?_, h3⟩
    rw [List.length_append, bcells_append]
    exact h2

/-- bytes in a row of one's own -/
def OwnB (w : World) (v : Value) (l : List UInt8) : Prop := w.ownsRow 0 5 1 v l.length (bcells l)
theorem OwnB.bytes {w : World} {v : Value} {l : List UInt8} (h : OwnB w v l) : Bytes w v l := (owns_bytes h).2
theorem OwnB.plain {w : World} {v : Value} {l : List UInt8} (h : OwnB w v l) : Plain v := by
  rcases h.2 with ⟨rfl, _⟩ | ⟨g, cap, cur, rfl, _⟩
  · exact .inl rfl
  · exact .inr ⟨_, _, _, rfl⟩
theorem OwnB.kept {K : Nat → Prop} {w w' : World} {v : Value} {l : List UInt8} (h : OwnB w v l) (k : Kept K w w') (hk : ∀ g, v.ownBlock = some g → K g) : OwnB w' v l := by
  refine ⟨h.1, ?_⟩
  rcases h.2 with hn | ⟨g, cap, cur, rfl, hb, hgg, rest⟩
  · exact .inl hn
  · exact .inr ⟨g, cap, cur, rfl, hb, k.row (hk g rfl) hgg, rest⟩
theorem OwnB.ext {w w' : World} {v : Value} {l : List UInt8} (h : OwnB w v l) (e : Ext w w') : OwnB w' v l := h.kept (K := fun _ => True) (Kept.of_ext e) (fun _ _ => trivial)
theorem OwnB.lt {w : World} {v : Value} {l : List UInt8} (h : OwnB w v l) {g : Nat} (hg : v.ownBlock = some g) : g < w.heap.size := (World.ownsRow.lt h g hg).2
theorem RowK.bytes {K : Nat → Prop} {w : World} {v : Value} {l : List UInt8} (h : RowK K w v 1 (bcells l)) : Bytes w v l := by
  obtain ⟨ao, n, c, e, q1, q2, q3, q4⟩ := h
  rw [bcells_length] at q1
  obtain rfl : l.length = n := by omega
  refine ⟨ao, c, e, q2, q3, fun k hk => ?_⟩
  obtain ⟨g, o, ea, _, hc⟩ := q4 (by omega)
  have := hc k _ (bcells_at l k hk)
  exact ⟨g, o, ea, block_lt_of_cell this, this⟩
theorem OwnB.slice {w : World} {v : Value} {l : List UInt8} (h : OwnB w v l) : ∃ s : Sl, v = sval s ∧ s.2.1 = l.length := by
  rcases h.2 with ⟨rfl, h0⟩ | ⟨g, cap, cur, rfl, _⟩
  · exact ⟨(none, 0, 0), rfl, h0.symm⟩
  · exact ⟨(_, _, _), rfl, rfl⟩

/-- the block g holds just the bytes l -/
def Row (w : World) (g : Nat) (l : List UInt8) : Prop := w.heap[g]? = some (.cells (bcells l).toArray 5 (0, 0))
theorem Row.lt {w : World} {g : Nat} {l : List UInt8} (h : Row w g l) : g < w.heap.size := (Array.getElem?_eq_some_iff.1 h).1
theorem Row.ext {w w' : World} {g : Nat} {l : List UInt8} (h : Row w g l) (e : Ext w w') : Row w' g l := e.row h
theorem Row.cell {w : World} {g : Nat} {l : List UInt8} (h : Row w g l) (k : Nat) (hk : k < l.length) : w.cell? ⟨g, k, none⟩ = some (.int .u8 ((l.getD k 0).toNat : Int)) := by
  rw [cell_of_row w g k _ _ _ h, List.getElem?_toArray, bcells_at l k hk]
theorem Row.bytes {w : World} {g : Nat} {l : List UInt8} (h : Row w g l) (hl : l.length ≤ 100000) : Bytes w (.slice (some ⟨g, 0, none⟩) l.length l.length) l :=
  ⟨_, _, rfl, Nat.le_refl _, by unfold maxLen; omega, fun k hk => ⟨g, 0, rfl, h.lt, by rw [Nat.zero_add]; exact h.cell k hk⟩⟩
end Go.Proofs.Ytjmgigfaiaemeaa

namespace Go.Proofs.Ytjmgigfaiaemeaa
set_option linter.unusedVariables false
open Go.RowKit

/-- a world that is w but for new memory -/
def Ever (w : World) : Type := { W : World // Ext w W }
def Ever.W {w : World} (n : Ever w) : World := n.1
theorem Ever.ok {w : World} (n : Ever w) : Ext w n.W := n.2
theorem Ever.some (w : World) : Nonempty (Ever w) := ⟨⟨w, Ext.refl w⟩⟩

/-- A region that draws its order and whose operations, each of one value, at most make new memory: one walk serves every order. -/
theorem wp_region_ext {P : Program} {id : Nat} {Q : Exit → Act → World → Prop} {a : Act} {w : World} {l : List Oper} (hm : P.follows .mixedOrders = true) (hB : Region.lexB .any l.toArray = true)
    (h : wpQuiet P l.toArray (fun w' => ∃ n : Ever w, w' = n.W) (fun a' => ∀ w', (∃ n : Ever w, w' = n.W) → Q .normal a' w') l a) : (Code.region id l.toArray true).wp P Q a w :=
  wp_region_quiet (C := fun w' => ∃ n : Ever w, w' = n.W) hm hB ⟨⟨_, Below.drew (Ext.refl w)⟩, rfl⟩ (by simpa using h)

/-- a whole block read in such a region -/
theorem quiet_load_row {P : Program} {o : Oper} {a : Act} {C : World → Prop} {K : Act → Prop} (ty : TypeId) (x : Operand) (ho : o.op = .load ty x)
    (g : Nat) (hx : a.eval x = .pointer (some ⟨g, 0, none⟩)) (t : TypeId) (cs : Array Value) (fr : Nat × Nat) (d : TypeDesc) (hg : ∀ w, C w → w.heap[g]? = some (.cells cs t fr))
    (hu : P.underlying ty = some d) (hd : (match d with | .struct _ | .array _ _ => true | _ => false) = true) (hi : (P.info? ty).map (·.size) = some cs.size)
    (h : K (a.put o.dst (.agg cs))) : o.quiet P a C K :=
  ⟨.agg cs, fun w hw => by
    unfold Oper.quietAt execOp
    simp only [ho, hx, Instr.loadAt, Instr.sureAddr, Sem.run_bind, Sem.run_pure, Result.andThen_ok, run_loadVar_row w g t ty cs fr d (hg w hw) hu hd hi]
    exact ⟨rfl, rfl⟩, h⟩

/-- what is asked of each world on the way may be made more -/
theorem moreE {P : Program} {md : Region.Mode} {ops : Array Oper} {Q : Exit → Act → World → Prop} {S S2 : World → Prop} (hS : ∀ w, S2 w → S w) :
    ∀ (fuel : Nat) (listed : Array Bool) (a : Act) (w : World), wpAnyH P md ops Q S2 fuel listed a w → wpAnyH P md ops Q S fuel listed a w
  | 0, _, _, _, h => h
  | fuel + 1, _, _, _, h => ⟨h.1, fun i hi => wpOp_mono (fun a' w' h' => ⟨hS _ h'.1, moreE hS fuel _ a' w' h'.2⟩) (h.2 i hi)⟩

/-- an operation taken first, its slot written out -/
theorem takeE {P : Program} {md : Region.Mode} {ops : Array Oper} {Q : Exit → Act → World → Prop} {S : World → Prop} (i d : Nat) {oi : Oper} {v : Value} {fuel : Nat} {listed : Array Bool} {a : Act} {w : World} (hi : ops[i]? = some oi) (hd : oi.dst = some d)
    (hs : Region.noSelect ops = true) (hf : Region.free md ops listed i = true) (hr : (Region.ready md ops listed).contains i = true)
    (hQ : ∀ c a w, Q (.panic c) (a.put oi.dst v) w → Q (.panic c) a w) (hy : YieldsIf P ops S oi v a) (hS : S w)
    (h : wpAnyH P md ops Q S fuel (listed.setIfInBounds i true) (a.put (some d) v) w) : wpAnyH P md ops Q S (fuel + 1) listed a w :=
  wpAnyH_take hi hs hf hr hQ hy hS (by rw [hd]; exact h)

/-- a call that alone may come up -/
theorem callE {P : Program} {md : Region.Mode} {ops : Array Oper} {Q : Exit → Act → World → Prop} {S : World → Prop} (i d : Nat) {oi : Oper} {f : FuncId} {args : Array Value} {fuel : Nat} {listed : Array Bool} {a : Act} {w : World} (hi : ops[i]? = some oi) (hd : oi.dst = some d)
    (hr : Region.ready md ops listed = [i]) (hw : Region.wanted oi (yielded ops a.tmps) = true) (he : (execOp a.eval oi).run P w = .ok (.enter f args) w)
    (hc : Calls P f args w (fun e w' => ∃ v, e = .returned v ∧ S w' ∧ wpAnyH P md ops Q S fuel (listed.setIfInBounds i true) (a.put (some d) v) w')) : wpAnyH P md ops Q S (fuel + 1) listed a w := by
  refine wpAnyH_all hr (by simp) (fun j hj => ?_)
  obtain rfl : j = i := by simpa using hj
  unfold wpOp
  simp only [hi, hw, if_true, Oper.wp, he, Oper.upon]
  left
  refine hc.mono ?_
  rintro e w' ⟨v, rfl, h1, h2⟩
  simp only [hd]
  exact ⟨h1, h2⟩

/-- a whole block read, whatever the order -/
theorem yields_row {P : Program} {ops : Array Oper} {S : World → Prop} {o : Oper} {a : Act} (ty : TypeId) (x : Operand) (ho : o.op = .load ty x) (hw : Region.wanted o (yielded ops a.tmps) = true)
    (g : Nat) (hx : a.eval x = .pointer (some ⟨g, 0, none⟩)) (t : TypeId) (cs : Array Value) (fr : Nat × Nat) (d : TypeDesc) (hg : ∀ w, S w → w.heap[g]? = some (.cells cs t fr))
    (hu : P.underlying ty = some d) (hd : (match d with | .struct _ | .array _ _ => true | _ => false) = true) (hi : (P.info? ty).map (·.size) = some cs.size) : YieldsIf P ops S o (.agg cs) a :=
  .inl ⟨hw, fun w h => by
    unfold execOp
    simp only [ho, hx, Instr.loadAt, Instr.sureAddr, Sem.run_bind, Sem.run_pure, Result.andThen_ok, run_loadVar_row w g t ty cs fr d (hg w h) hu hd hi]⟩
end Go.Proofs.Ytjmgigfaiaemeaa

namespace Go.Proofs.Ytjmgigfaiaemeaa
set_option linter.unusedVariables false
open Go.RowKit

/-- two calls, either of which may come up -/
theorem callE2 {P : Program} {md : Region.Mode} {ops : Array Oper} {Q : Exit → Act → World → Prop} {S : World → Prop} (i d j d' : Nat) {oi oj : Oper} {f g : FuncId} {args args' : Array Value} {fuel : Nat} {listed : Array Bool} {a : Act} {w : World}
    (hi : ops[i]? = some oi) (hd : oi.dst = some d) (hj : ops[j]? = some oj) (hd' : oj.dst = some d')
    (hr : Region.ready md ops listed = [i, j]) (hw : Region.wanted oi (yielded ops a.tmps) = true) (hw' : Region.wanted oj (yielded ops a.tmps) = true) (he : (execOp a.eval oi).run P w = .ok (.enter f args) w) (he' : (execOp a.eval oj).run P w = .ok (.enter g args') w)
    (hc : Calls P f args w (fun e w' => ∃ v, e = .returned v ∧ S w' ∧ wpAnyH P md ops Q S fuel (listed.setIfInBounds i true) (a.put (some d) v) w'))
    (hc' : Calls P g args' w (fun e w' => ∃ v, e = .returned v ∧ S w' ∧ wpAnyH P md ops Q S fuel (listed.setIfInBounds j true) (a.put (some d') v) w')) : wpAnyH P md ops Q S (fuel + 1) listed a w := by
  refine wpAnyH_all hr (by simp) (fun q hq => ?_)
  rcases (show q = i ∨ q = j by simpa using hq) with rfl | rfl
  · unfold wpOp
    simp only [hi, hw, if_true, Oper.wp, he, Oper.upon]
    left
    refine hc.mono ?_
    rintro e w' ⟨v, rfl, h1, h2⟩
    simp only [hd]
    exact ⟨h1, h2⟩
  · unfold wpOp
    simp only [hj, hw', if_true, Oper.wp, he', Oper.upon]
    left
    refine hc'.mono ?_
    rintro e w' ⟨v, rfl, h1, h2⟩
    simp only [hd']
    exact ⟨h1, h2⟩

/-- an operation that alone may come up, its run known -/
theorem knownE {P : Program} {md : Region.Mode} {ops : Array Oper} {Q : Exit → Act → World → Prop} {S : World → Prop} (i d : Nat) {oi : Oper} {v : Value} {fuel : Nat} {listed : Array Bool} {a : Act} {w w' : World} (hi : ops[i]? = some oi) (hd : oi.dst = some d)
    (hr : Region.ready md ops listed = [i]) (hw : Region.wanted oi (yielded ops a.tmps) = true) (he : (execOp a.eval oi).run P w = .ok (.value v) w') (hS : S w')
    (h : wpAnyH P md ops Q S fuel (listed.setIfInBounds i true) (a.put (some d) v) w') : wpAnyH P md ops Q S (fuel + 1) listed a w := by
  refine wpAnyH_all hr (by simp) (fun q hq => ?_)
  obtain rfl : q = i := by simpa using hq
  unfold wpOp
  simp only [hi, hw, if_true, Oper.wp, he, Oper.upon]
  left
  rw [hd]
  exact ⟨hS, h⟩

/-- a read and another operation, either of which may come up; both runs known -/
theorem bothE {P : Program} {md : Region.Mode} {ops : Array Oper} {Q : Exit → Act → World → Prop} {S : World → Prop} (i d j d' : Nat) {oi oj : Oper} {v u : Value} {fuel : Nat} {listed : Array Bool} {a : Act} {w w' : World} (hi : ops[i]? = some oi) (hd : oi.dst = some d) (hj : ops[j]? = some oj) (hd' : oj.dst = some d')
    (hr : Region.ready md ops listed = [i, j]) (hri : Region.ready md ops (listed.setIfInBounds i true) = [j]) (hrj : Region.ready md ops (listed.setIfInBounds j true) = [i])
    (hw : Region.wanted oi (yielded ops a.tmps) = true) (hw' : Region.wanted oj (yielded ops a.tmps) = true) (hw2 : Region.wanted oj (yielded ops (a.put (some d) v).tmps) = true) (hw3 : Region.wanted oi (yielded ops (a.put (some d') u).tmps) = true)
    (he : (execOp a.eval oi).run P w = .ok (.value v) w) (he' : (execOp a.eval oj).run P w = .ok (.value u) w')
    (he2 : (execOp (a.put (some d) v).eval oj).run P w = .ok (.value u) w') (he3 : (execOp (a.put (some d') u).eval oi).run P w' = .ok (.value v) w')
    (hS : S w) (hS' : S w')
    (h : wpAnyH P md ops Q S fuel ((listed.setIfInBounds i true).setIfInBounds j true) ((a.put (some d) v).put (some d') u) w')
    (h' : wpAnyH P md ops Q S fuel ((listed.setIfInBounds j true).setIfInBounds i true) ((a.put (some d') u).put (some d) v) w') : wpAnyH P md ops Q S (fuel + 1 + 1) listed a w := by
  refine wpAnyH_all hr (by simp) (fun q hq => ?_)
  rcases (show q = i ∨ q = j by simpa using hq) with rfl | rfl
  · unfold wpOp
    simp only [hi, hw, if_true, Oper.wp, he, Oper.upon]
    left
    rw [hd]
    exact ⟨hS, knownE j d' hj hd' hri hw2 he2 hS' h⟩
  · unfold wpOp
    simp only [hj, hw', if_true, Oper.wp, he', Oper.upon]
    left
    rw [hd']
    exact ⟨hS', knownE i d hi hd hrj hw3 he3 hS' h'⟩

/-- a store that alone may come up -/
theorem storeE {P : Program} {md : Region.Mode} {ops : Array Oper} {Q : Exit → Act → World → Prop} {S : World → Prop} (i : Nat) {oi : Oper} {fuel : Nat} {listed : Array Bool} {a : Act} {w w' : World} (hi : ops[i]? = some oi)
    (hr : Region.ready md ops listed = [i]) (hw : Region.wanted oi (yielded ops a.tmps) = true) (he : (execOp a.eval oi).run P w = .ok .skip w') (hS : S w')
    (h : wpAnyH P md ops Q S fuel (listed.setIfInBounds i true) (a.put oi.dst undef) w') : wpAnyH P md ops Q S (fuel + 1) listed a w := by
  refine wpAnyH_all hr (by simp) (fun j hj => ?_)
  obtain rfl : j = i := by simpa using hj
  unfold wpOp
  simp only [hi, hw, if_true, Oper.wp, he, Oper.upon]
  left
  exact ⟨hS, h⟩
end Go.Proofs.Ytjmgigfaiaemeaa

namespace Go.Proofs.Ytjmgigfaiaemeaa
set_option linter.unusedVariables false
open Go.RowKit

/-- two operations that make memory, either of which may come up; both runs known -/
theorem eitherE {P : Program} {md : Region.Mode} {ops : Array Oper} {Q : Exit → Act → World → Prop} {S : World → Prop} (i d j d' : Nat) {oi oj : Oper} {v u : Value} {fuel : Nat} {listed : Array Bool} {a : Act} {w wi wj : World} (hi : ops[i]? = some oi) (hd : oi.dst = some d) (hj : ops[j]? = some oj) (hd' : oj.dst = some d')
    (hr : Region.ready md ops listed = [i, j]) (hw : Region.wanted oi (yielded ops a.tmps) = true) (hw' : Region.wanted oj (yielded ops a.tmps) = true)
    (he : (execOp a.eval oi).run P w = .ok (.value v) wi) (he' : (execOp a.eval oj).run P w = .ok (.value u) wj) (hS : S wi) (hS' : S wj)
    (h : wpAnyH P md ops Q S fuel (listed.setIfInBounds i true) (a.put (some d) v) wi)
    (h' : wpAnyH P md ops Q S fuel (listed.setIfInBounds j true) (a.put (some d') u) wj) : wpAnyH P md ops Q S (fuel + 1) listed a w := by
  refine wpAnyH_all hr (by simp) (fun q hq => ?_)
  rcases (show q = i ∨ q = j by simpa using hq) with rfl | rfl
  · unfold wpOp
    simp only [hi, hw, if_true, Oper.wp, he, Oper.upon]
    left
    rw [hd]
    exact ⟨hS, h⟩
  · unfold wpOp
    simp only [hj, hw', if_true, Oper.wp, he', Oper.upon]
    left
    rw [hd']
    exact ⟨hS', h'⟩

/-- an append whose run is known -/
theorem exec_append {P : Program} {o : Oper} {a : Act} {w : World} (s x : Operand) (t : TypeId)
    (hop : o.op = Op.call { callee := Callee.builtin Builtin.append, args := #[s, x], argTypes := #[t, t] }) (u v r : Value) (w' : World) (hs : a.eval s = u) (hx : a.eval x = v)
    (hrun : (Builtin.append_ #[t, t] o.type #[u, v]).run P w = .ok r w') : (execOp a.eval o).run P w = .ok (.value r) w' := by
  simp [execOp, hop, resolve, invoke, builtin, hs, hx, hrun, Result.andThen]

/-- a store whose run is known, as a region's operation -/
theorem exec_store {P : Program} {o : Oper} {ev : Operand → Value} {w w' : World} (ty : TypeId) (x y : Operand) (ho : o.op = .store ty x y) (h : (Instr.storeAt ty (ev x) (ev y)).run P w = .ok () w') : (execOp ev o).run P w = .ok .skip w' := by
  unfold execOp
  simp only [ho, Sem.run_bind, h, Result.andThen_ok, Sem.run_pure]

/-- a store that alone may come up, more behind it -/
theorem storeN {P : Program} {md : Region.Mode} {ops : Array Oper} {Q : Exit → Act → World → Prop} {S : World → Prop} (i : Nat) {oi : Oper} {fuel : Nat} {listed : Array Bool} {a : Act} {w w' : World} (hi : ops[i]? = some oi) (hd : oi.dst = none)
    (hr : Region.ready md ops listed = [i]) (hw : Region.wanted oi (yielded ops a.tmps) = true) (he : (execOp a.eval oi).run P w = .ok .skip w') (hS : S w')
    (h : wpAnyH P md ops Q S fuel (listed.setIfInBounds i true) a w') : wpAnyH P md ops Q S (fuel + 1) listed a w :=
  storeE i hi hr hw he hS (by rw [hd]; exact h)
end Go.Proofs.Ytjmgigfaiaemeaa

namespace Go.Proofs.Ytjmgigfaiaemeaa
set_option linter.unusedVariables false
open Go.RowKit

/-- no operation of these defers anything -/
def noDefer (ops : Array Oper) : Bool := ops.all fun o => match o.op with | .defer _ => false | _ => true
theorem noDefer_at {ops : Array Oper} (h : noDefer ops = true) {i : Nat} {o : Oper} (hi : ops[i]? = some o) : ∀ c, o.op ≠ .defer c := by
  intro c e
  unfold noDefer at h
  rw [Array.all_eq_true] at h
  obtain ⟨hl, rfl⟩ := Array.getElem?_eq_some_iff.1 hi
  have := h i hl
  rw [e] at this
  simp at this

theorem wpOpIn_round {P : Program} {ops : Array Oper} {C : World → Prop} {Q : Exit → Act → World → Prop} {L n i : Nat} (h : noDefer ops = true) {K : Act → Prop} {K' : Act → World → Prop} (hK : ∀ a w, C w → K a → K' a w) {a : Act} {w : World} (hw : C w) (hh : qOp P ops C i K a) : wpOpIn (Fence.wide.inRound L) n P ops Q i K' a w := by
  unfold qOp at hh
  unfold wpOpIn
  cases hi : ops[i]? with
  | none => simp only [hi] at hh ⊢; exact hK _ _ hw hh
  | some o =>
    simp only [hi] at hh ⊢
    split
    · next hq =>
      simp only [hq, if_true] at hh
      obtain ⟨v, h1, h2⟩ := hh
      have h3 := h1 w hw
      unfold Oper.quietAt at h3
      unfold Oper.wpIn
      refine ⟨fun _ _ => trivial, ?_⟩
      rw [Oper.semAt_eq _ _ _ (noDefer_at h hi)]
      generalize (execOp a.eval o).run P w = r at *
      unfold Oper.quietUpon at h3
      split at h3
      · obtain ⟨rfl, rfl⟩ := h3
        exact hK _ _ hw h2
      · obtain ⟨rfl, rfl⟩ := h3
        exact hK _ _ hw h2
      · obtain ⟨rfl, h3⟩ := h3
        refine ⟨fun q => by simp [Fence.wide] at q, CallsIn.inRound L (callsIn_wide.2 (Calls.mono h3 ?_))⟩
        rintro e w'' ⟨rfl, hc⟩
        exact hK _ _ hc h2
      · exact h3.elim
    · next hq =>
      simp only [hq] at hh
      exact ⟨fun _ _ => trivial, hK _ _ hw hh⟩

theorem wpAnyIn_round {P : Program} {md : Region.Mode} {ops : Array Oper} {C : World → Prop} {Q : Act → Prop} {Q' : Exit → Act → World → Prop} {L n : Nat} (h : noDefer ops = true) (hQ : ∀ a w, C w → Q a → Q' .normal a w) : ∀ (fuel : Nat) (listed : Array Bool) (a : Act) (w : World), C w → wpAnyQ P md ops C Q fuel listed a → wpAnyIn (Fence.wide.inRound L) n P md ops Q' fuel listed a w
  | 0, _, _, _, hw, hh => ⟨hh.1, hQ _ _ hw hh.2⟩
  | fuel + 1, _, _, _, hw, hh => ⟨fun h0 => hQ _ _ hw (hh.1 h0), fun i hi => wpOpIn_round h (fun a w hw h2 => wpAnyIn_round h hQ fuel _ a w hw h2) hw (hh.2 i hi)⟩

/-- A region that draws its order and only reads, in a round: one walk serves every order. -/
theorem wpIn_round_quiet {P : Program} {id : Nat} {Q : Exit → Act → World → Prop} {a : Act} {w : World} {l : List Oper} {L n : Nat} (hm : P.follows .mixedOrders = true) (hB : Region.lexB .any l.toArray = true) (hn : noDefer l.toArray = true)
    (h : wpQuiet P l.toArray (fun w' => ∃ n, w' = w.drewN n) (fun a' => ∀ w', (∃ n, w' = w.drewN n) → Q .normal a' w') l a) : (Code.region id l.toArray true).wpIn (Fence.wide.inRound L) n P Q a w := by
  simp only [Region.lexB, Bool.and_eq_true] at hB
  refine wpIn_region_any hm (wpAnyIn_round (C := fun w' => ∃ n, w' = w.drewN n) (Q := fun a' => ∀ w', (∃ n, w' = w.drewN n) → Q .normal a' w') hn (fun _ w' hw' h => h w' hw') _ _ _ _ ⟨1, rfl⟩ ?_)
  have := wpAnyQ_lex (C := fun w' => ∃ n, w' = w.drewN n) (md := .any) hB.1 l.toArray.toList 0 (Array.replicate l.toArray.size false) a (by simp) (by simpa using hB.2) (by simpa using h)
  simpa using this

/-- an operation of the plain calculus, in a round -/
theorem wpOpIn_plain {P : Program} {ops : Array Oper} {Q : Exit → Act → World → Prop} {L n i : Nat} (hlo : ¬ LetsOut Q) (h : noDefer ops = true) {K K' : Act → World → Prop} (hK : ∀ a w, K a w → K' a w) {a : Act} {w : World} (hh : wpOp P ops Q i K a w) : wpOpIn (Fence.wide.inRound L) n P ops Q i K' a w := by
  unfold wpOp at hh
  unfold wpOpIn
  cases hi : ops[i]? with
  | none => simp only [hi] at hh ⊢; exact hK _ _ hh
  | some o =>
    simp only [hi] at hh ⊢
    split
    · next hq =>
      simp only [hq, if_true] at hh
      replace hh := hh.resolve_right (fun q => hlo q.2)
      unfold Oper.wp at hh
      unfold Oper.wpIn
      refine ⟨fun _ _ => trivial, ?_⟩
      rw [Oper.semAt_eq _ _ _ (noDefer_at h hi)]
      generalize (execOp a.eval o).run P w = r at *
      cases r with
      | ok x w' =>
        cases x <;> simp only [Oper.upon, Oper.uponIn] at hh ⊢
        case value u => exact hK _ _ hh
        case skip => exact hK _ _ hh
        case defer d => exact hK _ _ hh
        case enter f args =>
          refine ⟨fun q => by simp [Fence.wide] at q, CallsIn.inRound L (callsIn_wide.2 (Calls.mono hh ?_))⟩
          intro e w'' he
          cases e with
          | returned v => exact hK _ _ he
          | panicked c => exact he
          | outgrown => exact he
        case row row args =>
          refine ⟨fun q => by simp [Fence.wide] at q, fun c cs _ => ?_⟩
          obtain ⟨v, w2, q, st⟩ := hh c cs
          exact ⟨v, w2, hK _ _ q, stepsIn_wide.2 st⟩
      | halt x w' => cases x <;> simp only [Oper.upon, Oper.uponIn] at hh ⊢ <;> exact hh
    · next hq =>
      simp only [hq] at hh
      exact ⟨fun _ _ => trivial, hK _ _ hh⟩
theorem wpAnyIn_plain {P : Program} {md : Region.Mode} {ops : Array Oper} {Q : Exit → Act → World → Prop} {L n : Nat} (hlo : ¬ LetsOut Q) (h : noDefer ops = true) : ∀ (fuel : Nat) (listed : Array Bool) (a : Act) (w : World), wpAny P md ops Q fuel listed a w → wpAnyIn (Fence.wide.inRound L) n P md ops Q fuel listed a w
  | 0, _, _, _, hh => hh
  | fuel + 1, _, _, _, hh => ⟨hh.1, fun i hi => wpOpIn_plain hlo h (fun a w h2 => wpAnyIn_plain hlo h fuel _ a w h2) (hh.2 i hi)⟩
/-- A region that draws its order, in a round: taken operation by operation as in the plain calculus. -/
theorem wpIn_round_held {P : Program} {id : Nat} {Q : Exit → Act → World → Prop} {S : World → Prop} {a : Act} {w : World} {ops : Array Oper} {L n : Nat} (hm : P.follows .mixedOrders = true) (hn : noDefer ops = true) (hlo : ¬ LetsOut Q) (hS : S w.drew)
    (h : S w.drew → wpAnyH P .any ops Q S ops.size (Array.replicate ops.size false) a w.drew) : (Code.region id ops true).wpIn (Fence.wide.inRound L) n P Q a w :=
  wpIn_region_any hm (wpAnyIn_plain hlo hn _ _ _ _ (wpAny_of_held _ _ _ _ (h hS)))
end Go.Proofs.Ytjmgigfaiaemeaa

/-
  The model's step: its boxes, what it tells, what its end leaves; give whatever fates are left.
-/
import Derived.Test.YtjmgigfaiaemeaaSimTake
import Derived.Test.YtjmgigfaiaemeaaSimModel2
import Derived.Test.YtjmgigfaiaemeaaSimSend2
namespace Go.Proofs.Ytjmgigfaiaemeaa.Sim
set_option linter.unusedVariables false
set_option maxRecDepth 100000
open Go.RowKit Go.Lib Go.Shelf Go.Proofs.Ytjmgigfaiaemeaa.Crc Go.Proofs.Ytjmgigfaiaemeaa.Grp
open Go.Proofs.Ytjmgigfaiaemeaa.Pip hiding NewR

/-- step's boxes: a model, a call, what is told -/
def StepBox (W : World) (h0 : Nat) (M : Array Value) (kind R level later : Int) (tv : Value) : Prop :=
  W.heap[h0]? = some (.cells M 40 (0, 0)) ∧ W.heap[h0 + 1]? = some (.cells #[.int .i64 kind, .int .i64 R, .int .i64 level, .int .i64 later, tv] 43 (0, 0)) ∧
    W.heap[h0 + 1 + 1]? = some (.cells zmod 40 (0, 0)) ∧ W.heap[h0 + 1 + 1 + 1]? = some (.cells #[.bool false] 4 (0, 0))
theorem StepBox.kept {K : Nat → Prop} {W W' : World} {h0 : Nat} {M : Array Value} {kind R level later : Int} {tv : Value} (h : StepBox W h0 M kind R level later tv) (k : Kept K W W') (hK : ∀ i, h0 ≤ i → i < h0 + 4 → K i) : StepBox W' h0 M kind R level later tv :=
  ⟨k.row (hK _ (by omega) (by omega)) h.1, k.row (hK _ (by omega) (by omega)) h.2.1, k.row (hK _ (by omega) (by omega)) h.2.2.1, k.row (hK _ (by omega) (by omega)) h.2.2.2⟩
theorem StepBox.cells {W : World} {h0 : Nat} {c : Cfg} {av lv fv : Value} {u : Int} {s : Cts} {kind R level later : Int} {tv : Value} (h : StepBox W h0 (mcs c av lv fv u s) kind R level later tv) :
    (W.cell? ⟨h0, 0, none⟩ = some (.int .i64 c.1) ∧ W.cell? ⟨h0, 3, none⟩ = some (.int .i64 c.2.2.2.1) ∧ W.cell? ⟨h0, 4, none⟩ = some (.int .i64 c.2.2.2.2) ∧ W.cell? ⟨h0, 5, none⟩ = some av) ∧
    W.cell? ⟨h0 + 1, 0, none⟩ = some (.int .i64 kind) ∧ W.cell? ⟨h0 + 1, 1, none⟩ = some (.int .i64 R) ∧ W.cell? ⟨h0 + 1, 2, none⟩ = some (.int .i64 level) ∧ W.cell? ⟨h0 + 1, 4, none⟩ = some tv := by
  refine ⟨⟨?_, ?_, ?_, ?_⟩, ?_, ?_, ?_, ?_⟩
  · rw [cell_of_row _ _ 0 _ _ _ h.1]; rfl
  · rw [cell_of_row _ _ 3 _ _ _ h.1]; rfl
  · rw [cell_of_row _ _ 4 _ _ _ h.1]; rfl
  · rw [cell_of_row _ _ 5 _ _ _ h.1]; rfl
  · rw [cell_of_row _ _ 0 _ _ _ h.2.1]; rfl
  · rw [cell_of_row _ _ 1 _ _ _ h.2.1]; rfl
  · rw [cell_of_row _ _ 2 _ _ _ h.2.1]; rfl
  · rw [cell_of_row _ _ 4 _ _ _ h.2.1]; rfl
theorem alloc4 (w : World) (o0 o1 o2 o3 : Obj) : (((((w.alloc o0).alloc o1).alloc o2).alloc o3).heap[w.heap.size]? = some o0 ∧ ((((w.alloc o0).alloc o1).alloc o2).alloc o3).heap[w.heap.size + 1]? = some o1 ∧ ((((w.alloc o0).alloc o1).alloc o2).alloc o3).heap[w.heap.size + 1 + 1]? = some o2 ∧ ((((w.alloc o0).alloc o1).alloc o2).alloc o3).heap[w.heap.size + 1 + 1 + 1]? = some o3) := by
  have y3 := fun (W : World) => (Ext.refl W).alloc o3
  have y2 := fun (W : World) => (Ext.refl W).alloc o2
  have y1 := fun (W : World) => (Ext.refl W).alloc o1
  refine ⟨(y3 _).row ((y2 _).row ((y1 _).row (heap_alloc_new w _))), (y3 _).row ((y2 _).row (heap_alloc2_new w _ _)), ?_, ?_⟩
  · have := heap_alloc_new ((w.alloc o0).alloc o1) o2
    rw [World.size_alloc, World.size_alloc] at this
    exact (y3 _).row this
  · have := heap_alloc_new (((w.alloc o0).alloc o1).alloc o2) o3
    rw [World.size_alloc, World.size_alloc, World.size_alloc] at this
    exact this

/-- what step tells -/
def SteppedS (K E : Nat → Prop) (w : World) (b : Nat) (bs : Nat → Nat) (c : Cfg) (l' : List Tri) (fs : List (Int × Int)) (x' : St) (e : Ending) (w' : World) : Prop :=
  ∃ (av' lv' fv' : Value) (K' : Nat → Prop), e = .returned (.tuple #[.agg (mcs c av' lv' fv' (x'.2.1 : Int) x'.2.2), .bool true]) ∧ (∀ q, K q → K' q) ∧ NetK K' w' b bs c l' fs x' ∧
    RowK (fun q => K' q ∧ (E q ∨ w.heap.size ≤ q)) w' av' 3 (fcells tri l') ∧ ListsK (fun q => K' q ∧ (E q ∨ w.heap.size ≤ q)) w' lv' x'.1 ∧ RowK (fun q => K' q ∧ (E q ∨ w.heap.size ≤ q)) w' fv' 2 (fcells pr fs) ∧ Kept K w w'
/-- where what the model holds may lie -/
def Dat (K K' : Nat → Prop) (h0 : Nat) : Nat → Prop := fun i => K i ∨ (h0 + 4 ≤ i ∧ K' i)

theorem step_end {K E K' : Nat → Prop} {w W : World} {b h0 : Nat} {bs : Nat → Nat} {c : Cfg} {l : List Tri} {fs : List (Int × Int)} {x : St} {av lv fv : Value} (eh : h0 = w.heap.size) (hE : ∀ q, E q → K q) (hK : ∀ q, K q → q < w.heap.size) (hKK : ∀ q, K q → K' q) (hbox : ∀ i, h0 ≤ i → i < h0 + 4 → K' i)
    (net : NetK K' W b bs c l fs x) (ha : RowK (Dat E K' h0) W av 3 (fcells tri l)) (hl : ListsK (Dat E K' h0) W lv x.1) (hf : RowK (Dat E K' h0) W fv 2 (fcells pr fs)) (kw : Kept K w W)
    (h2 : W.heap[h0 + 1 + 1]? = some (.cells zmod 40 (0, 0))) (h3 : W.heap[h0 + 1 + 1 + 1]? = some (.cells #[.bool false] 4 (0, 0))) (cs : Array Value) (hcs : cs = mcs c av lv fv (x.2.1 : Int) x.2.2) :
    (let W2 := W.setRow (h0 + 1 + 1) cs
     let V := W2.setCell ⟨h0 + 1 + 1 + 1, 0, none⟩ (.bool true)
     W2.cell? ⟨h0 + 1 + 1 + 1, 0, none⟩ = some (.bool false) ∧ W2.frozen? ⟨h0 + 1 + 1 + 1, 0, none⟩ = false ∧ V.heap[h0 + 1 + 1]? = some (.cells cs 40 (0, 0)) ∧ V.cell? ⟨h0 + 1 + 1 + 1, 0, none⟩ = some (.bool true) ∧
     SteppedS K E w b bs c l fs x (.returned (.tuple #[.agg cs, .bool true])) V) := by
  intro W2 V
  subst hcs
  have k2 : Kept (fun i => i ≠ h0 + 1 + 1) W W2 := (Kept.refl _ _).setRow (fun hne => hne rfl) _
  have q3 := k2.row (by omega) h3
  have q2 : W2.heap[h0 + 1 + 1]? = some (.cells (mcs c av lv fv (x.2.1 : Int) x.2.2) 40 (0, 0)) := setRow_heap _ _ _ _ _ _ h2
  have k3 : Kept (fun i => i ≠ h0 + 1 + 1 + 1) W2 V := (Kept.refl _ _).setCell (fun hne => hne rfl) _
  have v3 : V.heap[h0 + 1 + 1 + 1]? = some (.cells #[.bool true] 4 (0, 0)) := by
    have e : V = W2.setRow (h0 + 1 + 1 + 1) #[.bool true] := setCell_eq_setRow _ _ _ _ _ _ _ q3
    rw [e]
    exact setRow_heap _ _ _ _ _ _ q3
  have kA : Kept (fun i => i ≠ h0 + 1 + 1 ∧ i ≠ h0 + 1 + 1 + 1) W V := (k2.mono (fun i hi => hi.1)).trans (k3.mono (fun i hi => hi.2))
  have sz : V.heap.size = W.heap.size := by show (W2.setCell _ _).heap.size = _; simp [W2]
  have netV : NetK K' V b bs c l fs x := (net.keep kA (fun q _ => if e : q = h0 + 1 + 1 ∨ q = h0 + 1 + 1 + 1 then .inl (hbox q (by omega) (by omega)) else .inr (by omega))).less (fun q hq => .inl hq)
  have kD : Kept (Dat E K' h0) W V := kA.mono (fun q hq => by
    rcases hq with h | h
    · have := hK q (hE q h); omega
    · have := h.1; omega)
  have toK : ∀ q, Dat E K' h0 q → K' q ∧ (E q ∨ w.heap.size ≤ q) := fun q hq => hq.elim (fun h => ⟨hKK q (hE q h), .inl h⟩) (fun h => ⟨h.2, .inr (by have := h.1; omega)⟩)
  refine ⟨by rw [cell_of_row _ _ 0 _ _ _ q3]; rfl, frozen_of_row _ _ _ _ _ q3, k3.row (by omega) q2, by rw [cell_of_row _ _ 0 _ _ _ v3]; rfl, av, lv, fv, K', rfl, hKK, netV, (ha.kept kD).mono (by decide) (fun q _ h => toK q h), (hl.kept kD).mono (fun q _ h => toK q h), (hf.kept kD).mono (by decide) (fun q _ h => toK q h), kw.trans (kA.mono (fun q hq => by have := hK q hq; omega))⟩

theorem lists_slice {K : Nat → Prop} {w : World} {lv : Value} {ls : List Ms} (h : ListsK K w lv ls) : ∃ ao n cp, lv = .slice ao n cp := by
  obtain ⟨vs, _, ⟨ao, n, cp, e, _⟩, _⟩ := h
  exact ⟨ao, n, cp, e⟩
theorem row_slice {K : Nat → Prop} {w : World} {v : Value} {z : Nat} {cs : List Value} (h : RowK K w v z cs) : ∃ ao n cp, v = .slice ao n cp := by
  obtain ⟨ao, n, cp, e, _⟩ := h
  exact ⟨ao, n, cp, e⟩
theorem NetK.room {K : Nat → Prop} {w : World} {b : Nat} {bs : Nat → Nat} {c : Cfg} {l : List Tri} {fs : List (Int × Int)} {x : St} (h : NetK K w b bs c l fs x) (i : Nat) : (x.1.getD i []).length ≤ 256 := by
  by_cases hi : i < x.1.length
  · obtain ⟨Ki, pk, _⟩ := h.oneL (L := fun _ => False) (fun _ h => h.elim) hi
    have := pk.1
    rw [ord_length] at this
    omega
  · rw [List.getD_eq_getElem?_getD, List.getElem?_eq_none (by omega)]
    simp
theorem gvs_room (c : Cfg) (fs : List (Int × Int)) (now : Int) (t : List UInt8) (i : Nat) : ∀ (m : List Int) (x : St), ((gvs c fs now t x m).1.getD i []).length ≤ (x.1.getD i []).length + 2 * m.length
  | [], x => by simp [gvs]
  | r :: m, x => by
    have h1 := gvs_room c fs now t i m (gv c fs now t x r.toNat)
    have h2 : ((gv c fs now t x r.toNat).1.getD i []).length ≤ (x.1.getD i []).length + 2 := by
      by_cases hr : r.toNat < x.1.length
      · unfold gv
        simp only
        rw [set_getD _ _ _ _ _ hr]
        split
        · next e => subst e; exact give1_length
        · omega
      · unfold gv
        simp only
        rw [List.set_eq_of_length_le (by omega)]
        omega
    have h3 : gvs c fs now t x (r :: m) = gvs c fs now t (gv c fs now t x r.toNat) m := rfl
    rw [h3]
    simp only [List.length_cons]
    omega

/-- give, whatever fates are left -/
theorem give_any (K : Nat → Prop) (c : Cfg) (av lv fv : Value) (fs : List (Int × Int)) (x : St) (at_ : Nat) (now : Int) (tx : List UInt8) (w : World) (hL : ListsK K w lv x.1) (hF : RowK K w fv 2 (fcells pr fs)) (hat : at_ < x.1.length) (hn : x.1.length ≤ 100) (hfb : ∀ f ∈ fs, -9223372036854775808 ≤ f.2 ∧ f.2 ≤ 9223372036854775807) (hav : av.oneCell' = true)
    (hx : (x.1.getD at_ []).length ≤ 900) (hs : SB 900000000 x.2.2) (ht : tx.length ≤ 1000) (hd0 : 0 ≤ now) (hd1 : now ≤ 1099511627776) (hc0 : 0 ≤ c.2.1) (hc1 : c.2.1 ≤ 64) :
    Calls Try.prog 22 #[.agg (mcs c av lv fv (x.2.1 : Int) x.2.2), .int .i64 (at_ : Int), .int .i64 now, .string (str tx)] w fun e w' => ∃ lv', e = .returned (.agg (mcs c av lv' fv ((gv c fs now tx x at_).2.1 : Int) (gv c fs now tx x at_).2.2)) ∧ ListsK (fun i => K i ∨ New w w' i) w' lv' (gv c fs now tx x at_).1 ∧ Ext w w' := by
  have hxa : x.1[at_]? = some (x.1.getD at_ []) := by rw [List.getD_eq_getElem?_getD, List.getElem?_eq_getElem hat]; rfl
  obtain ⟨ls, u, s⟩ := x
  simp only at *
  by_cases hu : u < fs.length
  · have ef : fs[u]? = some ((fs[u]).1, (fs[u]).2) := List.getElem?_eq_getElem hu
    have e1 : fate fs u = ((fs[u]).1, (fs[u]).2) := by unfold fate; rw [List.getD_eq_getElem?_getD, ef]; rfl
    have fb := hfb fs[u] (List.getElem_mem hu)
    refine (give_fated K c av lv fv ls fs u s at_ _ now tx w hL hF hxa hn _ _ ef fb.1 fb.2 hav hx hs ht hd0 hd1 hc0 hc1).mono ?_
    rintro e w' ⟨lv', rfl, h1, h2⟩
    refine ⟨lv', ?_, ?_, h2⟩
    · unfold gv usd
      simp only
      rw [e1, if_pos hu]
      rfl
    · unfold gv
      simp only
      rw [e1]
      exact h1
  · have e1 : fate fs u = (0, 0) := by unfold fate; rw [List.getD_eq_getElem?_getD, List.getElem?_eq_none (by omega)]; rfl
    refine (give_behind K c av lv fv ls fs u s at_ _ now tx w hL hF hxa hn hu hav hx hs ht hd0 hd1 hc0 hc1).mono ?_
    rintro e w' ⟨lv', rfl, h1, h2⟩
    refine ⟨lv', ?_, ?_, h2⟩
    · unfold gv usd
      simp only
      rw [e1, if_neg hu]
    · unfold gv
      simp only
      rw [e1]
      exact h1
end Go.Proofs.Ytjmgigfaiaemeaa.Sim

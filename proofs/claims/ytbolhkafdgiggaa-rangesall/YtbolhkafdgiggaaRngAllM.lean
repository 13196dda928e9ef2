/-
  What RangesAll leans on: All's value, its numbers in their order, a copy that goes on by itself.
-/
import Derived.Test.YtbolhkafdgiggaaRngSeq
import Derived.Test.YtbolhkafdgiggaaRngPlaysW
namespace Go.Proofs.Ytbolhkafdgiggaa
set_option linter.unusedVariables false
set_option maxRecDepth 100000
open Go.RowKit Go.Lib

theorem all_any (b : Nat) (w : World) :
    Calls Try.prog 21 #[.pointer (some ⟨b, 0, none⟩)] w fun e w' => e = .returned (.func (.func 31) #[] #[.pointer (some ⟨w.heap.size, 0, none⟩)]) ∧ w' = w.alloc (.cells #[.pointer (some ⟨b, 0, none⟩)] 24 (0, 0)) := by
  go_enter Try.func21, Try.ntmps21
  go_wp2
  go_ret
  exact ⟨rfl, rfl⟩

/-- All's value tells all numbers, or the first of them -/
theorem all_stops (n : Nat) (hn : 1 ≤ n) (Bs b b1 b2 : Nat) (v : Value) (l : Sts) (w : World) (hg : Good l) (hc : w.cell? ⟨Bs, 0, none⟩ = some (.pointer (some ⟨b, 0, none⟩))) (hs : SetV w b v l) (hv : ∀ k, v.ownBlock = some k → k ≠ b1 ∧ k ≠ b2) (h1 : b1 < w.heap.size) (h2 : b2 < w.heap.size) :
    SeqStopsK Fence.wide n Try.prog 31 #[.pointer (some ⟨Bs, 0, none⟩)] (fun x : Int => #[Value.int .i64 x]) (Spare b1 b2) (fun ys => ys = nums l) (fun pre => pre <+: nums l) (nums l).length w := fun L J Jx W hW hJ _ hY h0 => by
  have hs' := hs.ext hW
  refine all1_in Fence.wide n trivial rfl hn L Bs b b1 b2 v l hg J Jx hY W (fun pre W1 o h => hJ pre W1 _ none h (World.grownBy_alloc W1 o none) (fun r e => by cases e)) (Ext.cell hW hc) hs' hv (Nat.lt_of_lt_of_le h1 hW.size) (Nat.lt_of_lt_of_le h2 hW.size) h0

theorem firsts_mem (p : Int × Int) (j : Nat) (i : Int) : i ∈ firsts p j ↔ p.1 ≤ i ∧ i < p.1 + j := by
  unfold firsts
  simp only [List.mem_map, List.mem_range]
  constructor
  · rintro ⟨a, h, rfl⟩; omega
  · intro h; exact ⟨(i - p.1).toNat, by omega, by omega⟩
theorem firsts_sorted (p : Int × Int) (j : Nat) : (firsts p j).Pairwise (· < ·) := by
  unfold firsts
  rw [List.pairwise_map]
  exact (List.pairwise_lt_range).imp (by intro a b h; omega)
theorem nums_mem : ∀ {l : Sts}, (∀ p ∈ l, p.1 < p.2) → ∀ i, i ∈ nums l ↔ has l i = true
  | [], _, i => by simp [nums, has]
  | p :: l, h, i => by
    have hp := h p List.mem_cons_self
    rw [nums, List.mem_append, firsts_mem, nums_mem (fun q hq => h q (List.mem_cons_of_mem _ hq)), has_cons, Bool.or_eq_true, inP_iff]
    constructor
    · rintro (q | q)
      · left; omega
      · exact .inr q
    · rintro (q | q)
      · left; omega
      · exact .inr q
theorem nums_sorted : ∀ {l : Sts} {lo : Int}, Canon lo 16384 l → (nums l).Pairwise (· < ·)
  | [], _, _ => List.Pairwise.nil
  | p :: l, lo, h => by
    have hp := h.1 p List.mem_cons_self
    rw [nums]
    refine List.pairwise_append.2 ⟨firsts_sorted _ _, nums_sorted h.tail, fun a ha b hb => ?_⟩
    rw [firsts_mem] at ha
    rw [nums_mem (fun q hq => (h.tail.1 q hq).2.1), has_iff] at hb
    obtain ⟨q, hq, h1, h2⟩ := hb
    have := h.tail.1 q hq
    omega
theorem nums_length : ∀ {l : Sts} {lo : Int}, Canon lo 16384 l → ((nums l).length : Int) = lens l
  | [], _, _ => rfl
  | p :: l, lo, h => by
    have hp := h.1 p List.mem_cons_self
    rw [nums, lens, List.length_append, firsts_length, ← nums_length h.tail]
    omega

/-- how far one has come: pre have come, the next ones are from a on -/
def Come (l : Sts) (pre : List Int) (a : Int) : Prop := 0 ≤ a ∧ a ≤ 16384 ∧ ∃ rest, nums l = pre ++ rest ∧ (∀ y ∈ rest, a ≤ y) ∧ ∀ i, a ≤ i → has l i = true → i ∈ rest
theorem Come.zero {l : Sts} (h : Good l) : Come l [] 0 := by
  refine ⟨by omega, by omega, nums l, rfl, fun y hy => ?_, fun i _ hi => (nums_mem (fun p hp => (h.1 p hp).2.1) i).2 hi⟩
  obtain ⟨p, hp, p1, p2⟩ := (has_iff l y).1 ((nums_mem (fun p hp => (h.1 p hp).2.1) y).1 hy)
  have := h.1 p hp
  omega
/-- the next number -/
theorem Come.next {l : Sts} (h : Good l) {pre : List Int} {a : Int} (c : Come l pre a) (hl : pre.length < (nums l).length) : ∃ y, pre ++ [y] <+: nums l ∧ a ≤ y ∧ y < 16384 ∧ has l y = true ∧ (∀ i, a ≤ i → i < y → has l i = false) ∧ Come l (pre ++ [y]) (y + 1) := by
  obtain ⟨a0, a1, rest, e, h1, h2⟩ := c
  have S := nums_sorted h
  cases rest with
  | nil => rw [e] at hl; simp at hl
  | cons y rest =>
    have hy : has l y = true := (nums_mem (fun p hp => (h.1 p hp).2.1) y).1 (by rw [e]; simp)
    obtain ⟨p, hp, p1, p2⟩ := (has_iff l y).1 hy
    have hp' := h.1 p hp
    rw [e] at S
    have S2 := (List.pairwise_append.1 S).2.1
    have S3 := (List.pairwise_cons.1 S2).1
    have hay := h1 y List.mem_cons_self
    refine ⟨y, ⟨rest, by rw [e]; simp⟩, hay, by omega, hy, fun i i1 i2 => ?_, by omega, by omega, rest, by rw [e]; simp, fun z hz => by have := S3 z hz; omega, fun i i1 i2 => ?_⟩
    · cases hh : has l i with
      | false => rfl
      | true =>
        have := h2 i i1 hh
        rcases List.mem_cons.1 this with q | q
        · omega
        · have := S3 i q; omega
    · have := h2 i (by omega) i2
      rcases List.mem_cons.1 this with q | q
      · omega
      · exact q

/-- the law's two boxes: how far it is, how many came -/
def Boxes (n0 : Nat) (W : World) (a k : Int) : Prop := W.heap[n0]? = some (.cells #[.int .i64 a] 3 (0, 0)) ∧ W.heap[n0 + 1]? = some (.cells #[.int .i64 k] 3 (0, 0))
theorem Boxes.c0 {n0 : Nat} {W : World} {a k : Int} (h : Boxes n0 W a k) : W.cell? ⟨n0, 0, none⟩ = some (.int .i64 a) := by rw [cell_of_row W _ 0 _ _ _ h.1]; rfl
theorem Boxes.c1 {n0 : Nat} {W : World} {a k : Int} (h : Boxes n0 W a k) : W.cell? ⟨n0 + 1, 0, none⟩ = some (.int .i64 k) := by rw [cell_of_row W _ 0 _ _ _ h.2]; rfl
theorem Boxes.f0 {n0 : Nat} {W : World} {a k : Int} (h : Boxes n0 W a k) : W.frozen? ⟨n0, 0, none⟩ = false := frozen_of_row _ _ _ _ _ h.1
theorem Boxes.f1 {n0 : Nat} {W : World} {a k : Int} (h : Boxes n0 W a k) : W.frozen? ⟨n0 + 1, 0, none⟩ = false := frozen_of_row _ _ _ _ _ h.2
theorem Boxes.set0 {n0 : Nat} {W : World} {a k : Int} (h : Boxes n0 W a k) (x : Int) : Boxes n0 (W.setCell ⟨n0, 0, none⟩ (.int .i64 x)) x k := by
  refine ⟨?_, ?_⟩
  · rw [setCell_eq_setRow _ _ _ _ _ _ _ h.1]; exact setRow_heap _ _ _ _ _ _ h.1
  · rw [heap_setCell_other _ _ _ _ (by simp)]; exact h.2
theorem Boxes.set1 {n0 : Nat} {W : World} {a k : Int} (h : Boxes n0 W a k) (x : Int) : Boxes n0 (W.setCell ⟨n0 + 1, 0, none⟩ (.int .i64 x)) a x := by
  refine ⟨?_, ?_⟩
  · rw [heap_setCell_other _ _ _ _ (by simp)]; exact h.1
  · rw [setCell_eq_setRow _ _ _ _ _ _ _ h.2]; exact setRow_heap _ _ _ _ _ _ h.2
theorem Boxes.grown {n0 B : Nat} {W W' : World} {a k : Int} {row : Option Nat} (h : Boxes n0 W a k) (hg : W.grownBy W' row) (hr : ∀ r, row = some r → B ≤ r ∧ ∃ o : Obj, W.heap[r]? = some o ∧ o.isCells = false) : Boxes n0 W' a k := by
  have ne : ∀ (i : Nat) (c : Array Value) (t : TypeId) (fr : Nat × Nat), W.heap[i]? = some (.cells c t fr) → W'.heap[i]? = some (.cells c t fr) := by
    intro i c t fr hi
    rw [hg.block i (lt_of_row hi) (fun e => ?_), hi]
    obtain ⟨_, o, ho, hc⟩ := hr i e.symm
    rw [hi] at ho
    cases ho
    simp [Obj.isCells] at hc
  exact ⟨ne _ _ _ _ h.1, ne _ _ _ _ h.2⟩

/-- what a round may change -/
def Went (n0 : Nat) (W W' : World) : Prop := KeepsOthers W W' ∧ Spare n0 (n0 + 1) W W' ∧ Below n0 W W'
theorem Went.refl (n0 : Nat) (W : World) : Went n0 W W := ⟨KeepsOthers.refl W, Spare.refl _ _ W, Below.refl _ _⟩
theorem Went.set {n0 : Nat} {W W' : World} (h : Went n0 W W') (j : Nat) (hj : j = n0 ∨ j = n0 + 1) (v : Value) : Went n0 W (W'.setCell ⟨j, 0, none⟩ v) := by
  refine ⟨h.1.trans (KeepsOthers.setCell _ _ _), h.2.1.trans ⟨by simp, fun i c t fr h1 h2 hi => ?_⟩, h.2.2.setCell (by show n0 ≤ j; omega) v⟩
  rw [heap_setCell_other _ _ _ _ (by show i ≠ j; omega)]
  exact hi

/-- between two rounds -/
def Goes (w5 : World) (l : Sts) (stop : Int) (pre : List Int) (W : World) : Prop := (∃ a, Come l pre a ∧ (pre.length : Int) < stop ∧ Boxes w5.heap.size W a (pre.length : Int)) ∧ Below w5.heap.size w5 W
/-- a round was left -/
def Left (w5 : World) (l : Sts) (stop : Int) (c : Code) (pre : List Int) (W : World) : Prop :=
  (c = .exit 2 ∧ pre <+: nums l ∧ (pre.length : Int) = stop ∧ (∃ a, Boxes w5.heap.size W a stop) ∧ Below w5.heap.size w5 W) ∨ (c = .ret ∧ ¬ pre <+: nums l)
theorem goes_own (w5 : World) (l : Sts) (stop : Int) (B : Nat) (hB : w5.heap.size ≤ B) : OwnFrom B (Goes w5 l stop) := by
  intro pre W W' row h hg hr
  obtain ⟨⟨a, h1, h2, h3⟩, h4⟩ := h
  exact ⟨⟨a, h1, h2, h3.grown hg hr⟩, h4.grown hg h4.size (fun k e => Nat.le_trans hB (hr k e).1)⟩
theorem left_own (w5 : World) (l : Sts) (stop : Int) (B : Nat) (hB : w5.heap.size ≤ B) (c : Code) : OwnFrom B (Left w5 l stop c) := by
  intro pre W W' row h hg hr
  rcases h with ⟨h0, h1, h2, ⟨a, h3⟩, h4⟩ | h
  · exact .inl ⟨h0, h1, h2, ⟨a, h3.grown hg hr⟩, h4.grown hg h4.size (fun k e => Nat.le_trans hB (hr k e).1)⟩
  · exact .inr h

/-- a loop over All's value, its variable in slot 14 -/
theorem range_law {Q : Exit → Act → World → Prop} {a : Act} {w : World} {assign body : Code} {Bs b1 b2 : Nat} {l : Sts}
    (hg : a.eval (.tmp 55) = .func (.func 31) #[] #[.pointer (some ⟨Bs, 0, none⟩)])
    (hseq : SeqStopsK Fence.wide 3 Try.prog 31 #[.pointer (some ⟨Bs, 0, none⟩)] (fun x : Int => #[Value.int .i64 x]) (Spare b1 b2) (fun ys => ys = nums l) (fun pre => pre <+: nums l) (nums l).length w)
    (I : List Int → World → Prop) (Ix : Code → List Int → World → Prop) (hI : OwnFrom w.heap.size I) (hIx : ∀ c, OwnFrom w.heap.size (Ix c)) (h0 : I [] w)
    (hassign : ∀ (L : Nat) (x : Int) (W : World) (K : Act → World → Prop), K { tmps := (a.tmps.setIfInBounds 56 (.int .i64 x)).setIfInBounds 14 (.int .i64 x), defers := [] } W →
      assign.wpIn (Fence.wide.inRound L) 2 Try.prog (Exit.then K (fun _ _ _ => False)) { tmps := a.tmps.setIfInBounds 56 (.int .i64 x), defers := [] } W)
    (hbody : ∀ (L : Nat) (pre : List Int) (x : Int) (W : World), I pre W → pre.length < (nums l).length → body.wpIn (Fence.wide.inRound L) 2 Try.prog (ownPostK (Spare b1 b2) I Ix (pre ++ [x]) W) { tmps := (a.tmps.setIfInBounds 56 (.int .i64 x)).setIfInBounds 14 (.int .i64 x), defers := [] } W)
    (hdone : ∀ (D : Nat) (W : World), w.heap.size ≤ D → I (nums l) W → W.heap[D]? = some (.deferred (some [])) → Q .normal { a with defers := { target := .collected D, args := #[] } :: a.defers } W)
    (hstop : ∀ (D : Nat) (c : Code) (pre : List Int) (W : World), w.heap.size ≤ D → pre <+: nums l → Ix c pre W → W.heap[D]? = some (.deferred (some [])) → c.wp Try.prog Q { a with defers := { target := .collected D, args := #[] } :: a.defers } W) :
    (Code.rangeFunc (.tmp 55) #[56] assign body).wp Try.prog Q a w :=
  wpIn_wide.1 (wpIn_rangeFunc_ownF (F := Fence.wide) (n := 4) rfl (by decide) (gf := 31) (lb := #[.pointer (some ⟨Bs, 0, none⟩)]) hg trivial (enters_of Try.func31 (by kernel_rfl) rfl) hseq
    Spare.trans (fun W L o o' _ h1 h2 _ => Spare.put W L o o' h1 h2) (Below.refl _ _) (fun _ => rfl) I Ix hI hIx h0
    (fun x => { tmps := (a.tmps.setIfInBounds 56 (.int .i64 x)).setIfInBounds 14 (.int .i64 x), defers := [] }) (fun L x W K hK => by simpa using hassign L x W K hK) hbody (fun D xs W hD hS hi hk => by subst hS; exact hdone D W hD hi hk) (fun D c pre W hD hS hi hk => wpIn_wide.2 (hstop D c pre W hD hS hi hk)))

/-- a store that alone may come up -/
theorem storeE {P : Program} {md : Region.Mode} {ops : Array Oper} {Q : Exit → Act → World → Prop} {S : World → Prop} (i : Nat) {oi : Oper} {fuel : Nat} {listed : Array Bool} {a : Act} {w w' : World} (hi : ops[i]? = some oi)
    (hr : Region.ready md ops listed = [i]) (hw : Region.wanted oi (yielded ops a.tmps) = true) (he : (execOp a.eval oi).run P w = .ok .skip w') (hS : S w')
    (h : wpAnyH P md ops Q S fuel (listed.setIfInBounds i true) (a.put oi.dst undef) w') : wpAnyH P md ops Q S (fuel + 1) listed a w := by
  refine wpAnyH_all hr (by simp) (fun j hj => ?_)
  obtain rfl : j = i := by simpa using hj
  unfold wpOp
  simp only [hi, hw, if_true, Oper.wp, he, Oper.upon]
  left
  exact ⟨hS, h⟩

/-- all stays but the result's box -/
def Held (rb : Nat) (W V : World) : Prop := Kept (fun i => i ≠ rb) W V ∧ ∃ x, V.heap[rb]? = some (.cells #[.bool x] 4 (0, 0))
theorem Held.ext {rb : Nat} {W V V' : World} (h : Held rb W V) (e : Ext V V') : Held rb W V' := by
  obtain ⟨k, x, hx⟩ := h
  exact ⟨k.trans (Kept.of_ext e), x, e.row hx⟩
theorem Held.set {rb : Nat} {W V : World} (h : Held rb W V) (y : Bool) : Held rb W (V.setCell ⟨rb, 0, none⟩ (.bool y)) := by
  obtain ⟨k, x, hx⟩ := h
  refine ⟨k.setCell (by simp) _, y, ?_⟩
  rw [setCell_eq_setRow _ _ _ _ _ _ _ hx]
  exact setRow_heap _ _ _ _ _ _ hx
theorem Held.cell {rb : Nat} {W V : World} (h : Held rb W V) : ∃ x, V.cell? ⟨rb, 0, none⟩ = some (.bool x) ∧ V.frozen? ⟨rb, 0, none⟩ = false := by
  obtain ⟨k, x, hx⟩ := h
  exact ⟨x, by rw [cell_of_row V _ 0 _ _ _ hx]; rfl, frozen_of_row _ _ _ _ _ hx⟩
end Go.Proofs.Ytbolhkafdgiggaa

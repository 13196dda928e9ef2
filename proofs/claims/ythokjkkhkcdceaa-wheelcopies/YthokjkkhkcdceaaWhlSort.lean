/-
  slices.SortFunc with order: timers in their order.
-/
import Derived.Test.YthokjkkhkcdceaaWhlMem
namespace Go.Proofs.Ythokjkkhkcdceaa
set_option linter.unusedVariables false
set_option maxRecDepth 100000
open Go.RowKit Go.Lib Go.Sort Go.Proofs

def encT (x : Int × Int) : List Value := [.int .i64 x.1, .int .i64 x.2]
theorem lt_ord (x y : Int × Int) : ltOf ord x y = decide (blt x y) := by
  unfold ltOf
  by_cases h : blt x y
  · simp only [h, decide_true, decide_eq_true_eq]; exact (ord_lt x y).2 h
  · simp only [h, decide_false, decide_eq_false_iff_not]; exact fun e => h ((ord_lt x y).1 e)
theorem ntrans_blt {x y z : Int × Int} (h : ¬ blt x y) (k : ¬ blt y z) : ¬ blt x z := by unfold blt at *; omega
theorem swo_ord : SWO (ltOf ord) := by
  refine ⟨fun x => ?_, fun x y z h1 h2 => ?_, fun x y z h1 h2 => ?_⟩
  · rw [lt_ord]; simp only [decide_eq_false_iff_not]; exact blt.irr x
  · rw [lt_ord] at *
    simp only [decide_eq_true_eq] at *
    exact h1.trans h2
  · rw [lt_ord] at *
    simp only [decide_eq_false_iff_not] at *
    exact ntrans_blt h1 h2
theorem part_ord (x y : Int × Int) (h : ltOf ord x y = false) (k : ltOf ord y x = false) : x = y := by
  rw [lt_ord] at *
  simp only [decide_eq_false_iff_not] at *
  by_cases e : x = y
  · exact e
  · exact absurd (blt.of_not e h) k

/-- sorted lists of the same timers are one -/
theorem sort_of_perm {x l : Sts} (hp : x.Perm l) (hS : Srt l) : (x.mergeSort fun a b => !ltOf ord b a) = l := by
  have h1 : (x.mergeSort fun a b => !ltOf ord b a).Perm l := (List.mergeSort_perm _ _).trans hp
  refine h1.eq_of_pairwise (le := fun a b => (!ltOf ord b a) = true) ?_ ?_ ?_
  · intro a b _ _ k1 k2
    exact part_ord a b (by simpa using k2) (by simpa using k1)
  · refine List.pairwise_mergeSort ?_ ?_ _
    · intro a b c k1 k2
      simp only [Bool.not_eq_true'] at *
      exact swo_ord.ntrans _ _ _ k2 k1
    · intro a b
      simp only [lt_ord, Bool.or_eq_true, Bool.not_eq_true', decide_eq_false_iff_not]
      by_cases h : blt b a
      · exact .inr h.asym
      · exact .inl h
  · refine List.Pairwise.imp ?_ hS
    intro a b h
    rw [lt_ord]
    simp only [Bool.not_eq_true', decide_eq_false_iff_not]
    exact h.asym

theorem holds_own {w : World} {g n cap : Nat} {x : Sts} (hs : OwnT w (.slice (some ⟨g, 0, none⟩) n cap) x) (hn : x.length = n) : HoldsK encT 2 w g 0 x.toArray := by
  intro j hj
  rw [size_flatK] at hj
  rw [get_flatK _ _ _ _ hj]
  obtain ⟨ao, c, e, k1, k2, vw⟩ := hs.view
  simp only [Value.slice.injEq] at e
  have hr : ∃ L : List Value, w.heap[g]? = some (.cells L.toArray 60 (0, 0)) := by
    rcases hs.at with ⟨e2, _⟩ | ⟨g', cap', L, e2, g1, _⟩
    · simp at e2
    · simp only [Value.slice.injEq, Option.some.injEq, Addr.mk.injEq] at e2
      exact ⟨L, by rw [e2.1.1]; exact g1⟩
  obtain ⟨L, hL⟩ := hr
  simp only [List.size_toArray] at hj
  obtain ⟨g2, e3, x1, x2⟩ := vw (j / 2) (by omega)
  rw [← e.1] at e3
  simp only [Option.some.injEq, Addr.mk.injEq] at e3
  rw [← e3.1] at x1 x2
  have ex : x.toArray[j / 2]! = x.getD (j / 2) (0, 0) := by
    rw [List.getD_eq_getElem?_getD, Array.getElem!_eq_getD, Array.getD_eq_getD_getElem?, List.getElem?_toArray]
    rw [List.getElem?_eq_getElem (show j / 2 < x.length by omega)]
    rfl
  refine ⟨?_, frozen_of_row _ _ _ _ _ hL⟩
  rw [ex]
  rcases Nat.mod_two_eq_zero_or_one j with h | h
  · rw [h, Nat.zero_add, show (⟨g, j, none⟩ : Addr) = ⟨g, j / 2 * 2, none⟩ by congr 1; omega, x1]
    rfl
  · rw [h, Nat.zero_add, show (⟨g, j, none⟩ : Addr) = ⟨g, j / 2 * 2 + 1, none⟩ by congr 1; omega, x2]
    rfl

theorem order_lays (g off n : Nat) (w : World) : CmpLays Try.prog 35 #[] encT 2 ord g off n w :=
  fun _ _ _ _ x y => order_any x.1 x.2 y.1 y.2 _

theorem sort_any (w : World) (s : Value) (x l : Sts) (hs : OwnT w s x) (hp : x.Perm l) (hS : Srt l) (hl : x.length ≤ 1024) :
    Calls Try.prog 34 #[s, .func (.func 35) #[] #[]] w fun e w' => e = .returned (.tuple #[]) ∧ RowK (fun i => s.ownBlock = some i) w' s 2 (gcells l) ∧ Kept (fun i => s.ownBlock ≠ some i) w w' := by
  rcases hs.at with ⟨rfl, rfl⟩ | ⟨g, cap, L, rfl, g1, g2, g3, g4, g5⟩
  · have : l = [] := by simpa using hp.symm
    subst this
    refine (AnyF.slices_SortFunc_none sortLay none 0 _ w).mono ?_
    rintro e w' ⟨rfl, rfl⟩
    exact ⟨rfl, RowK.nil _ _ 2, Kept.refl _ _⟩
  · have eg : ∀ args w, (callFunc 35 args).run Try.prog w = .ok (.enter 35 args) w := enters_of Try.func35 (by kernel_rfl) rfl
    have hH := holds_own hs rfl
    have C := AnyQ.slices_SortFunc_total sortLay 2 Try.isAgg60 Try.sizeOf60 encT (fun _ => rfl) (fun q v hv => by simp [encT] at hv; rcases hv with rfl | rfl <;> rfl) ord swo_ord 35 #[] g 0 cap x.toArray w eg (order_lays g 0 _ w) hH (lt_of_row g1) (by simp; omega) part_ord
    simp only [sort_of_perm hp hS] at C
    refine C.mono ?_
    rintro e w' ⟨rfl, n, os, rfl⟩
    have hH2 := holdsK_sortWorldK_c encT 2 w g 0 x.toArray l.toArray n os hH (lt_of_row g1) (by simp [hp.length_eq])
    refine ⟨rfl, ⟨_, _, _, rfl, by rw [gcells_length, hp.length_eq], g2, g3, fun _ => ⟨g, 0, rfl, rfl, fun j u hu => ?_⟩⟩, ?_⟩
    · have hj := (List.getElem?_eq_some_iff.1 hu).1
      rw [gcells_length] at hj
      have h1 := (hH2 j (by rw [size_flatK]; simpa using hj)).1
      rw [get_flatK _ _ _ _ (by simpa using hj)] at h1
      rw [h1]
      have ex : l.toArray[j / 2]! = l.getD (j / 2) (0, 0) := by
        rw [List.getD_eq_getElem?_getD, Array.getElem!_eq_getD, Array.getD_eq_getD_getElem?, List.getElem?_toArray]
        rw [List.getElem?_eq_getElem (show j / 2 < l.length by omega)]
        rfl
      rw [ex]
      have := gcells_at l (j / 2) (by omega)
      rcases Nat.mod_two_eq_zero_or_one j with h | h
      · have e : j / 2 * 2 = j := by omega
        rw [e, hu] at this
        rw [h, this.1]
        rfl
      · have e : j / 2 * 2 + 1 = j := by omega
        rw [e, hu] at this
        rw [h, this.2]
        rfl
    · refine ⟨⟨rfl, rfl, rfl, ?_⟩, fun i hi hk => ?_⟩
      · unfold sortWorldK
        rw [size_grow]
        show w.heap.size ≤ (putRow id (Sort.ahead w n) g 0 _).heap.size + _
        rw [size_putRow]
        exact Nat.le_add_right _ _
      · have hne : i ≠ g := fun e => hk (by rw [e]; rfl)
        unfold sortWorldK
        rw [heap_grow_old _ _ (by show i < (putRow id (Sort.ahead w n) g 0 _).heap.size; rw [size_putRow]; exact hi)]
        show (w.heap.modify g _)[i]? = _
        rw [Array.getElem?_modify, if_neg (fun e => hne e.symm)]
end Go.Proofs.Ythokjkkhkcdceaa

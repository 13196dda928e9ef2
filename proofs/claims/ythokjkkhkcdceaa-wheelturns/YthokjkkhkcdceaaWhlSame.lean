/-
  The walk of the statements' same: wheel and list tell the same.
-/
import Derived.Test.YthokjkkhkcdceaaWhlAll
import Derived.Test.YthokjkkhkcdceaaWhlFind
import Derived.Test.YthokjkkhkcdceaaWhlFirst
import Derived.Test.YthokjkkhkcdceaaWhlRef
import Derived.Test.YthokjkkhkcdceaaPairEq
namespace Go.Proofs.Ythokjkkhkcdceaa
set_option linter.unusedVariables false
set_option maxRecDepth 100000
open Go.RowKit Go.Lib

/-- of one number there is but one timer -/
theorem uq_same {l : Sts} (hu : Uq l) {p q : Int × Int} (hp : p ∈ l) (hq : q ∈ l) (e : p.1 = q.1) : p = q := by
  obtain ⟨i, hi, e1⟩ := List.mem_iff_getElem.1 hp
  obtain ⟨j, hj, e2⟩ := List.mem_iff_getElem.1 hq
  have hne := List.pairwise_iff_getElem.1 hu
  rcases Nat.lt_trichotomy i j with h | h | h
  · exact absurd (by rw [e1, e2]; exact e) (hne i j hi hj h)
  · subst h; rw [← e1, ← e2]
  · exact absurd (by rw [e1, e2]; exact e.symm) (hne j i hj hi h)

set_option maxHeartbeats 1000000 in
theorem same_any (K : Nat → Prop) (b : Nat) (t : Int) (v : Nat → Value) (l : Sts) (mv : Value) (w : World) (hw : WhV w b t v l) (hl : Wl l) (hm : RowK K w mv 2 (gcells l)) :
    Calls Try.prog 10 #[.pointer (some ⟨b, 0, none⟩), .agg #[mv, .int .i64 t]] w fun e w' => e = .returned (.bool true) ∧ Ext w w' := by
  obtain ⟨ao, cm, em, m1, m2, _⟩ := hm.view
  subst em
  obtain ⟨W, eW⟩ : ∃ W, W = w.alloc (.cells #[.slice ao l.length cm, .int .i64 t] 28) := ⟨_, rfl⟩
  have XW : Ext w W := by rw [eW]; exact (Ext.refl w).alloc _
  have R0 : W.heap[w.heap.size]? = some (.cells #[.slice ao l.length cm, .int .i64 t] 28 (0, 0)) := by rw [eW]; exact heap_alloc_new w _
  have c0 : W.cell? ⟨w.heap.size, 0, none⟩ = some (.slice ao l.length cm) := by rw [cell_of_row _ _ 0 _ _ _ R0]; rfl
  have c1 : W.cell? ⟨w.heap.size, 1, none⟩ = some (.int .i64 t) := by rw [cell_of_row _ _ 1 _ _ _ R0]; rfl
  have A := hid (all_any b t v l W (hw.ext XW) hl)
  have HW := hid (hw.ext XW)
  have WL := hid hl
  have HM := hid (hm.kept (Kept.of_ext XW))
  have EW := hid eW
  have XX := hid XW
  have LL := hl.2.2.2
  have C0 := hid c0
  have C1 := hid c1
  unfold maxLen at m2
  clear hw hl hm eW XW R0 c0 c1
  go_enter Try.func10, Try.ntmps10
  go_wp2_with fail
  rw [← EW.out]
  refine A.out.mono ?_
  rintro e w1 ⟨s, rfl, ng⟩
  have X1 := ng.2.2
  have SR := hid ng.1.row
  obtain ⟨sa, sc, es, s1, s2, _⟩ := ng.1.row.view
  subst es
  unfold maxLen at s2
  have NW := hid (fun W' (X : Ext w1 W') => now_any b t v l W' ((HW.out.ext X1).ext X))
  have LN := hid (fun W' (X : Ext w1 W') => len_any b t v l W' ((HW.out.ext X1).ext X) LL)
  have d0 : ∀ n : Ever w1, n.W.cell? ⟨w.heap.size, 0, none⟩ = _ := fun n => n.ok.cell (X1.cell C0.out)
  have d1 : ∀ n : Ever w1, n.W.cell? ⟨w.heap.size, 1, none⟩ = _ := fun n => n.ok.cell (X1.cell C1.out)
  have X11 := hid X1
  clear A ng X1
  obtain ⟨n, en⟩ : ∃ n, n = l.length := ⟨_, rfl⟩
  rw [← en] at LN d0 m1 s1 LL
  rw [← en]
  have EN := hid en
  clear en
  go_wp2_with fail
  refine wp_region_ext (by kernel_rfl) (by kernel_rfl) ?_
  have some := Ever.some w1
  repeat (go_big_quiet_step (first
    | (go_at_call 17; refine (LN.out _ (Ever.ok _)).mono ?_; rintro e w' ⟨rfl, rfl⟩; exact ⟨rfl, ⟨_, Ever.ok _⟩, rfl⟩)
    | (go_at_call 19; refine (NW.out _ (Ever.ok _)).mono ?_; rintro e w' ⟨rfl, rfl⟩; exact ⟨rfl, ⟨_, Ever.ok _⟩, rfl⟩)))
  refine wpQuiet_nil ?_
  rintro w2 ⟨⟨_, x2⟩, rfl⟩
  have X2 := hid x2
  clear x2 some d0 d1 NW LN
  go_wp2_with fail
  go_loopw [6, 7, 8, 35] (fun _ _ _ i wr => ∃ k : Nat, k ≤ n ∧ i = .int .i64 (k : Int) ∧ Hid (Ext w1 wr)) (fun _ _ _ i _ => (n - intOf i).toNat)
  case atStart => exact ⟨0, by omega, rfl, X2⟩
  case round =>
    obtain ⟨k, hk, rfl, X⟩ := hrel
    by_cases h : k < n
    · obtain ⟨_, _, e1, _, _, vs⟩ := (SR.out.kept (Kept.of_ext X.out)).view
      simp only [Value.slice.injEq] at e1
      obtain ⟨g, o, eg, x1, x2⟩ := vs k (by rw [← EN.out]; exact h)
      obtain ⟨_, _, e2, _, _, vm⟩ := (HM.out.kept (Kept.of_ext (X11.out.trans X.out))).view
      simp only [Value.slice.injEq] at e2
      obtain ⟨g', o', eg', y1, y2⟩ := vm k (by rw [← EN.out]; exact h)
      rw [← e1.1] at eg
      rw [← e2.1] at eg'
      subst eg eg'
      have G := get_any b (l.getD k (0, 0)).1 t v l wr ((HW.out.ext X11.out).ext X.out)
      have PM : l.getD k (0, 0) ∈ l := getD_mem (by rw [← EN.out]; exact h)
      have G2 : Calls Try.prog 11 #[.pointer (some ⟨b, 0, none⟩), .int .i64 (l.getD k (0, 0)).1] wr fun e w' => e = .returned (.tuple #[.int .i64 (l.getD k (0, 0)).2, .bool true]) ∧ Ext wr w' := by
        refine G.mono ?_
        rintro e w' ⟨r, rfl, hr, x⟩
        refine ⟨?_, x⟩
        rcases hr with ⟨_, hn⟩ | ⟨p, hp, ep, rfl⟩
        · exact absurd rfl (hn _ PM)
        · rw [uq_same WL.out.2.1 hp PM ep]
      have GG := hid G2
      have MC : Hid (∀ V, Ext wr V → V.cell? ⟨w.heap.size, 0, none⟩ = some (.slice (some ⟨g', o', none⟩) n cm)) := fun V hV => by
        rw [EN.out]; exact hV.cell (X.out.cell (X11.out.cell C0.out))
      have PE := fun V => pair_eq V (l.getD k (0, 0)).1 (l.getD k (0, 0)).2 (l.getD k (0, 0)).1 (l.getD k (0, 0)).2
      have GT := guard_two
      have EQ : ((((l.getD k (0, 0)).1, (l.getD k (0, 0)).2) : Int × Int) == ((l.getD k (0, 0)).1, (l.getD k (0, 0)).2)) = true := by simp
      rw [EQ] at PE
      have i1 : (k : Int) < (n : Int) := by omega
      have i2 : (0 : Int) ≤ (k : Int) := by omega
      clear vs vm e1 e2 G G2 PM EQ
      generalize (l.getD k (0, 0)).1 = pi at *
      generalize (l.getD k (0, 0)).2 = tk at *
      go_wp2_with fail
      refine GG.out.mono ?_
      rintro e w3 ⟨rfl, x3⟩
      have z1 := x3.cell x1
      have z2 := x3.cell x2
      have z3 := x3.cell y1
      have z4 := x3.cell y2
      have z5 := MC.out w3 x3
      have X3 := hid (X.out.trans x3)
      clear x1 x2 y1 y2 x3 GG MC
      go_wp2_with fail
      go_quiet (fail)
      have X4 := hid (X3.out.drewN nq)
      go_wp2_with fail
      go_roundw
      case rel => exact ⟨k + 1, by omega, by go_num, X4⟩
      case measure => simp [intOf]; omega
    · obtain rfl : k = n := by omega
      have NX := hid (next_any b t v l wr ((HW.out.ext X11.out).ext X.out) WL.out.1)
      have XF := hid ((XX.out.trans X11.out).trans X.out)
      cases l with
      | nil =>
        have k0 := EN.out
        simp only [List.length_nil] at k0
        subst k0
        unfold nextv at NX
        go_wp2_with fail
        refine NX.out.mono ?_
        rintro e w3 ⟨x3, rfl⟩
        have X3 := hid (XF.out.trans x3)
        clear x3 NX
        go_wp2_with fail
        go_ret
        exact ⟨rfl, X3.out⟩
      | cons p r =>
        obtain ⟨_, _, e1, _, _, vs⟩ := (SR.out.kept (Kept.of_ext X.out)).view
        simp only [Value.slice.injEq] at e1
        obtain ⟨g, o, eg, x1, x2⟩ := vs 0 (by simp)
        rw [← e1.1] at eg
        subst eg
        obtain ⟨pi, tk⟩ := p
        simp only [List.getD_cons_zero, Nat.zero_mul, Nat.add_zero] at x2
        have k0 : (0 : Int) < (k : Int) := by rw [EN.out]; simp
        have XC := hid x2
        unfold nextv at NX
        simp only at NX
        clear vs e1 x1 x2
        go_wp2_with fail
        refine NX.out.mono ?_
        rintro e w3 ⟨x3, rfl⟩
        have z2 := x3.cell XC.out
        have X3 := hid (XF.out.trans x3)
        clear x3 NX
        go_wp2_with fail
        go_ret
        exact ⟨rfl, X3.out⟩
end Go.Proofs.Ythokjkkhkcdceaa

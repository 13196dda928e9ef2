/-
  Walks of the statements' step and same: a round and the reference's answer the same.
-/
import Derived.Test.YtcjohgfmdnimjaaDoorSupPlay
namespace Go.Proofs.YtcjohgfmdnimjaaDoor.Sup
set_option linter.unusedVariables false
set_option maxRecDepth 100000
open Go.RowKit Go.Lib

/-- what is left of a round behind one call -/
def dst (s : SS) (o : OpS) : SS := if o.1 < 1 ∨ 4 < o.1 then s else (sst s o.1 o.2.1 o.2.2.1 o.2.2.2.1 o.2.2.2.2).1
/-- the boxes of one step: the reference's round, the call, the result -/
def Sp (w V : World) (b p : Nat) (s s0 : SS) (o : OpS) : Prop := RndV V b s ∧ (V.heap[p]? = some (.cells (fr s0) 37 (0, 0)) ∧ V.heap[p + 1]? = some (.cells (ocs o) 39 (0, 0)) ∧ V.heap[p + 2]? = some (.cells (fr (0, 0, false, 0)) 37 (0, 0))) ∧ Kept (fun q => q ≠ b ∧ q < w.heap.size) w V ∧ b < w.heap.size ∧ w.heap.size ≤ p
theorem Sp.ext {w V V' : World} {b p : Nat} {s s0 : SS} {o : OpS} (h : Sp w V b p s s0 o) (e : Ext V V') : Sp w V' b p s s0 o := ⟨h.1.ext e, ⟨e.row h.2.1.1, e.row h.2.1.2.1, e.row h.2.1.2.2⟩, h.2.2.1.trans (Kept.of_ext e), h.2.2.2⟩
theorem Sp.wrote {w V V' : World} {b p : Nat} {s s0 t : SS} {o : OpS} (h : Sp w V b p s s0 o) (r : RndV V' b t) (k : Kept (fun q => q ≠ b) V V') : Sp w V' b p t s0 o := by
  have l := h.2.2.2
  exact ⟨r, ⟨k.row (by omega) h.2.1.1, k.row (by omega) h.2.1.2.1, k.row (by omega) h.2.1.2.2⟩, h.2.2.1.trans (k.mono (fun q hq => hq.1)), l⟩
theorem Sp.done {w V : World} {b p : Nat} {s s0 : SS} {o : OpS} (h : Sp w V b p s s0 o) (u : SS) : (V.setRow (p + 2) (fr u)).heap[p + 2]? = some (.cells (fr u) 37 (0, 0)) ∧ RndV (V.setRow (p + 2) (fr u)) b s ∧ Kept (fun q => q ≠ b) w (V.setRow (p + 2) (fr u)) := by
  have l := h.2.2.2
  have k : Kept (fun q => q ≠ p + 2) V (V.setRow (p + 2) (fr u)) := (Kept.refl _ V).setRow (fun hne => hne rfl) _
  refine ⟨setRow_heap _ _ _ _ _ _ h.2.1.2.2, h.1.kept k (by omega), ?_⟩
  exact (h.2.2.1.trans (k.mono (fun q hq => by omega))).narrow (fun i hi hne => ⟨hne, hi⟩)
theorem sboxes (b : Nat) (s : SS) (o : OpS) (w : World) (h : RndV w b s) : ∃ (V : World) (p : Nat), V = ((w.alloc (.cells (fr s) 37)).alloc (.cells (ocs o) 39)).alloc (.cells #[.int .i64 0, .int .i64 0, .int .u64 0, .bool false] 37) ∧ p = w.heap.size ∧ Sp w V b p s s o := by
  refine ⟨_, _, rfl, rfl, h.ext ((((Ext.refl w).alloc _).alloc _).alloc _), ⟨?_, ?_, ?_⟩, Kept.of_ext ((((Ext.refl w).alloc _).alloc _).alloc _), h.lt, Nat.le_refl _⟩
  · exact (((Ext.refl _).alloc _).alloc _).row (heap_alloc_new w _)
  · have := heap_alloc_new (w.alloc (.cells (fr s) 37)) (.cells (ocs o) 39)
    rw [World.size_alloc] at this
    exact ((Ext.refl _).alloc _).row this
  · have := heap_alloc_new ((w.alloc (.cells (fr s) 37)).alloc (.cells (ocs o) 39)) (.cells #[.int .i64 0, .int .i64 0, .int .u64 0, .bool false] 37)
    rw [World.size_alloc, World.size_alloc] at this
    exact this
/-- a result laid into a new box -/
theorem newbox (V : World) (u : SS) : ∃ (V4 V5 : World) (g : Nat), V4 = V.alloc (.cells #[.int .i64 0, .int .i64 0, .int .u64 0, .bool false] 37) ∧ g = V.heap.size ∧ V5 = V4.setRow g (fr u) ∧ V4.heap[g]? = some (.cells (fr (0, 0, false, 0)) 37 (0, 0)) ∧ V5.heap[g]? = some (.cells (fr u) 37 (0, 0)) ∧ Ext V V5 := by
  have r : (V.alloc (.cells #[.int .i64 0, .int .i64 0, .int .u64 0, .bool false] 37)).heap[V.heap.size]? = some (.cells (fr (0, 0, false, 0)) 37 (0, 0)) := heap_alloc_new V _
  exact ⟨_, _, _, rfl, rfl, rfl, r, setRow_heap _ _ _ _ _ _ r, ((Ext.refl V).alloc _).setRow (Nat.le_refl _) _⟩

set_option maxHeartbeats 4000000 in
theorem step_low (b : Nat) (s : SS) (k a n c x : Int) (w : World) (h : RndV w b s) (h0 : 0 ≤ x) (h1 : x < 18446744073709551616) (hk : k < 1) :
    Calls Tryd.prog 12 #[.pointer (some ⟨b, 0, none⟩), .agg (fr s), .agg (ocs (k, a, n, c, x))] w fun e w' => e = .returned (.tuple #[.agg (fr (dst s (k, a, n, c, x))), .bool true]) ∧ RndV w' b (dst s (k, a, n, c, x)) ∧ Kept (fun q => q ≠ b) w w' := by
  have ed : dst s (k, a, n, c, x) = s := by unfold dst; rw [if_pos (by simp only; omega)]
  rw [ed]
  clear ed
  obtain ⟨V, p, e1, ep, SS⟩ := sboxes b s (k, a, n, c, x) w h
  have E1 := hid e1
  have EP := hid ep
  obtain ⟨z0, z1, z2, z3, z4⟩ := row_cells SS.2.1.2.1
  have RA := hid SS.2.1.1
  have S1 := hid SS
  clear e1 ep SS h
  have RB := hid S1.out.2.1.2.2
  have ONE := hid (fr_one s)
  have FIN := hid (S1.out.done s)
  clear S1
  go_enter Tryd.func12, Tryd.ntmps12
  go_wp2_with (first
    | rw [← EP.out, ← E1.out]
    | refine wpList_load_row rfl 37 (.tmp 4) rfl p rfl 37 _ (0, 0) _ RA.out Tryd.underlying37 rfl size_f ?_
    | refine wpList_store_row rfl 37 (.tmp 6) _ rfl (p + 2) (fr s) rfl rfl 37 _ RB.out size_f rfl ONE.out ?_)
  refine bodyPost_ret (results_cell_tmp1 Tryd.results12 _ _ (p + 2) 37 _ (0, 0) _ rfl FIN.out.1 Tryd.underlying37 rfl size_f) rfl ?_
  exact ⟨rfl, FIN.out.2⟩

set_option maxHeartbeats 4000000 in
theorem step_high (b : Nat) (s : SS) (k a n c x : Int) (w : World) (h : RndV w b s) (h0 : 0 ≤ x) (h1 : x < 18446744073709551616) (hk : 4 < k) :
    Calls Tryd.prog 12 #[.pointer (some ⟨b, 0, none⟩), .agg (fr s), .agg (ocs (k, a, n, c, x))] w fun e w' => e = .returned (.tuple #[.agg (fr (dst s (k, a, n, c, x))), .bool true]) ∧ RndV w' b (dst s (k, a, n, c, x)) ∧ Kept (fun q => q ≠ b) w w' := by
  have ed : dst s (k, a, n, c, x) = s := by unfold dst; rw [if_pos (by simp only; omega)]
  rw [ed]
  clear ed
  obtain ⟨V, p, e1, ep, SS⟩ := sboxes b s (k, a, n, c, x) w h
  have E1 := hid e1
  have EP := hid ep
  obtain ⟨z0, z1, z2, z3, z4⟩ := row_cells SS.2.1.2.1
  have RA := hid SS.2.1.1
  have S1 := hid SS
  clear e1 ep SS h
  have RB := hid S1.out.2.1.2.2
  have ONE := hid (fr_one s)
  have FIN := hid (S1.out.done s)
  clear S1
  go_enter Tryd.func12, Tryd.ntmps12
  go_wp2_with (first
    | rw [← EP.out, ← E1.out]
    | refine wpList_load_row rfl 37 (.tmp 4) rfl p rfl 37 _ (0, 0) _ RA.out Tryd.underlying37 rfl size_f ?_
    | refine wpList_store_row rfl 37 (.tmp 6) _ rfl (p + 2) (fr s) rfl rfl 37 _ RB.out size_f rfl ONE.out ?_)
  refine bodyPost_ret (results_cell_tmp1 Tryd.results12 _ _ (p + 2) 37 _ (0, 0) _ rfl FIN.out.1 Tryd.underlying37 rfl size_f) rfl ?_
  exact ⟨rfl, FIN.out.2⟩

set_option maxHeartbeats 4000000 in
theorem step1 (b : Nat) (s : SS) (k a n c x : Int) (w : World) (h : RndV w b s) (h0 : 0 ≤ x) (h1 : x < 18446744073709551616) (hk : k = 1) :
    Calls Tryd.prog 12 #[.pointer (some ⟨b, 0, none⟩), .agg (fr s), .agg (ocs (k, a, n, c, x))] w fun e w' => e = .returned (.tuple #[.agg (fr (dst s (k, a, n, c, x))), .bool true]) ∧ RndV w' b (dst s (k, a, n, c, x)) ∧ Kept (fun q => q ≠ b) w w' := by
  subst hk
  obtain ⟨V, p, e1, ep, SS⟩ := sboxes b s (1, a, n, c, x) w h
  have E1 := hid e1
  have EP := hid ep
  obtain ⟨z0, z1, z2, z3, z4⟩ := row_cells SS.2.1.2.1
  have RA := hid SS.2.1.1
  have S1 := hid SS
  clear e1 ep SS h
  have RS := hid (rstep_any s 1 a n c x V (by decide) (by decide) h0 h1)
  have ed : dst s (1, a, n, c, x) = (sst s 1 a n c x).1 := by unfold dst; rw [if_neg (by simp)]
  rw [ed]
  clear ed
  obtain ⟨A, eA⟩ : ∃ A, A = (sst s 1 a n c x).2 := ⟨_, rfl⟩
  obtain ⟨t, et⟩ : ∃ t, t = (sst s 1 a n c x).1 := ⟨_, rfl⟩
  rw [← eA, ← et] at RS
  rw [← et]
  have EA := hid eA
  have ET := hid et
  clear eA et
  go_enter Tryd.func12, Tryd.ntmps12
  go_wp2_with (first
    | rw [← EP.out, ← E1.out]
    | refine wpList_load_row rfl 37 (.tmp 4) rfl p rfl 37 _ (0, 0) _ RA.out Tryd.underlying37 rfl size_f ?_)
  refine RS.out.mono ?_
  rintro e V3 ⟨rfl, x3⟩
  obtain ⟨V4, V5, g, e4, eg, e5, r4, r5, x5⟩ := newbox V3 t
  have gl : w.heap.size ≤ g := by have := S1.out.2.2.1.size; have := x3.size; omega
  have E4 := hid e4
  have EG := hid eg
  have E5 := hid e5
  have R4 := hid r4
  have R5 := hid r5
  have C5 := hid (S1.out.ext (x3.trans x5))
  have ONE := hid (fr_one t)
  have gb : g ≠ b := by have := S1.out.2.2.2; omega
  clear e4 eg e5 r4 r5 x3 x5 S1 RS RA z0 z1 z2 z3 z4 gl
  obtain ⟨z0, z1, z2, z3, z4⟩ := row_cells C5.out.2.1.2.1
  have CA := hid (start_any b s a n c x V5 C5.out.1 h0 h1)
  rw [show (sstart s a n c x).1 = (sst s 1 a n c x).1 from rfl, ← ET.out, show (sstart s a n c x).2 = (sst s 1 a n c x).2 from rfl, ← EA.out] at CA
  go_wp2_with (first
    | rw [← EG.out, ← E4.out]
    | (refine wpList_store_row rfl 37 (.tmp 8) _ rfl g (fr t) rfl rfl 37 _ R4.out size_f rfl ONE.out ?_; rw [← E5.out]))
  refine CA.out.mono ?_
  rintro e V6 ⟨rfl, r6, k6⟩
  have C6 := hid (C5.out.wrote r6 k6)
  have R6 := hid (k6.row gb R5.out)
  have RB := hid C6.out.2.1.2.2
  have FIN := hid (C6.out.done t)
  clear r6 k6 C5 R5 R4 C6 z0 z1 z2 z3 z4 CA
  go_wp2_with (first
    | refine wpList_load_row rfl 37 (.tmp 8) rfl g rfl 37 _ (0, 0) _ R6.out Tryd.underlying37 rfl size_f ?_
    | refine wpList_store_row rfl 37 (.tmp 6) _ rfl (p + 2) (fr t) rfl rfl 37 _ RB.out size_f rfl ONE.out ?_)
  refine bodyPost_ret (results_cell_tmp1 Tryd.results12 _ _ (p + 2) 37 _ (0, 0) _ rfl FIN.out.1 Tryd.underlying37 rfl size_f) rfl ?_
  exact ⟨rfl, FIN.out.2⟩

set_option maxHeartbeats 4000000 in
theorem step2 (b : Nat) (s : SS) (k a n c x : Int) (w : World) (h : RndV w b s) (h0 : 0 ≤ x) (h1 : x < 18446744073709551616) (hk : k = 2) :
    Calls Tryd.prog 12 #[.pointer (some ⟨b, 0, none⟩), .agg (fr s), .agg (ocs (k, a, n, c, x))] w fun e w' => e = .returned (.tuple #[.agg (fr (dst s (k, a, n, c, x))), .bool true]) ∧ RndV w' b (dst s (k, a, n, c, x)) ∧ Kept (fun q => q ≠ b) w w' := by
  subst hk
  obtain ⟨V, p, e1, ep, SS⟩ := sboxes b s (2, a, n, c, x) w h
  have E1 := hid e1
  have EP := hid ep
  obtain ⟨z0, z1, z2, z3, z4⟩ := row_cells SS.2.1.2.1
  have RA := hid SS.2.1.1
  have S1 := hid SS
  clear e1 ep SS h
  have RS := hid (rstep_any s 2 a n c x V (by decide) (by decide) h0 h1)
  have ed : dst s (2, a, n, c, x) = (sst s 2 a n c x).1 := by unfold dst; rw [if_neg (by simp)]
  rw [ed]
  clear ed
  obtain ⟨A, eA⟩ : ∃ A, A = (sst s 2 a n c x).2 := ⟨_, rfl⟩
  obtain ⟨t, et⟩ : ∃ t, t = (sst s 2 a n c x).1 := ⟨_, rfl⟩
  rw [← eA, ← et] at RS
  rw [← et]
  have EA := hid eA
  have ET := hid et
  clear eA et
  go_enter Tryd.func12, Tryd.ntmps12
  go_wp2_with (first
    | rw [← EP.out, ← E1.out]
    | refine wpList_load_row rfl 37 (.tmp 4) rfl p rfl 37 _ (0, 0) _ RA.out Tryd.underlying37 rfl size_f ?_)
  refine RS.out.mono ?_
  rintro e V3 ⟨rfl, x3⟩
  obtain ⟨V4, V5, g, e4, eg, e5, r4, r5, x5⟩ := newbox V3 t
  have gl : w.heap.size ≤ g := by have := S1.out.2.2.1.size; have := x3.size; omega
  have E4 := hid e4
  have EG := hid eg
  have E5 := hid e5
  have R4 := hid r4
  have R5 := hid r5
  have C5 := hid (S1.out.ext (x3.trans x5))
  have ONE := hid (fr_one t)
  have gb : g ≠ b := by have := S1.out.2.2.2; omega
  clear e4 eg e5 r4 r5 x3 x5 S1 RS RA z0 z1 z2 z3 z4 gl
  obtain ⟨z0, z1, z2, z3, z4⟩ := row_cells C5.out.2.1.2.1
  have CA := hid (echo_any b s a x V5 C5.out.1 h0 h1)
  rw [show (secho s a x).1 = (sst s 2 a n c x).1 from rfl, ← ET.out] at CA
  obtain ⟨B, eB⟩ : ∃ B, B = (secho s a x).2 := ⟨_, rfl⟩
  have EB : Hid (A = if B then 1 else 0) := by show _ = _; rw [EA.out, eB]; rfl
  rw [← eB] at CA
  clear eB
  go_wp2_with (first
    | rw [← EG.out, ← E4.out]
    | (refine wpList_store_row rfl 37 (.tmp 8) _ rfl g (fr t) rfl rfl 37 _ R4.out size_f rfl ONE.out ?_; rw [← E5.out]))
  refine CA.out.mono ?_
  rintro e V6 ⟨rfl, r6, k6⟩
  have C6 := hid (C5.out.wrote r6 k6)
  have R6 := hid (k6.row gb R5.out)
  have RB := hid C6.out.2.1.2.2
  have FIN := hid (C6.out.done t)
  clear r6 k6 C5 R5 R4 C6 z0 z1 z2 z3 z4 CA
  go_wp2_with fail
  refine (bit_any B V6).mono ?_
  rintro e w8 ⟨rfl, ew⟩
  obtain rfl : V6 = w8 := ew.symm
  rw [← EB.out]
  go_wp2_with (first
    | refine wpList_load_row rfl 37 (.tmp 8) rfl g rfl 37 _ (0, 0) _ R6.out Tryd.underlying37 rfl size_f ?_
    | refine wpList_store_row rfl 37 (.tmp 6) _ rfl (p + 2) (fr t) rfl rfl 37 _ RB.out size_f rfl ONE.out ?_)
  refine bodyPost_ret (results_cell_tmp1 Tryd.results12 _ _ (p + 2) 37 _ (0, 0) _ rfl FIN.out.1 Tryd.underlying37 rfl size_f) rfl ?_
  exact ⟨rfl, FIN.out.2⟩

set_option maxHeartbeats 4000000 in
theorem step3 (b : Nat) (s : SS) (k a n c x : Int) (w : World) (h : RndV w b s) (h0 : 0 ≤ x) (h1 : x < 18446744073709551616) (hk : k = 3) :
    Calls Tryd.prog 12 #[.pointer (some ⟨b, 0, none⟩), .agg (fr s), .agg (ocs (k, a, n, c, x))] w fun e w' => e = .returned (.tuple #[.agg (fr (dst s (k, a, n, c, x))), .bool true]) ∧ RndV w' b (dst s (k, a, n, c, x)) ∧ Kept (fun q => q ≠ b) w w' := by
  subst hk
  obtain ⟨V, p, e1, ep, SS⟩ := sboxes b s (3, a, n, c, x) w h
  have E1 := hid e1
  have EP := hid ep
  obtain ⟨z0, z1, z2, z3, z4⟩ := row_cells SS.2.1.2.1
  have RA := hid SS.2.1.1
  have S1 := hid SS
  clear e1 ep SS h
  have RS := hid (rstep_any s 3 a n c x V (by decide) (by decide) h0 h1)
  have ed : dst s (3, a, n, c, x) = (sst s 3 a n c x).1 := by unfold dst; rw [if_neg (by simp)]
  rw [ed]
  clear ed
  obtain ⟨A, eA⟩ : ∃ A, A = (sst s 3 a n c x).2 := ⟨_, rfl⟩
  obtain ⟨t, et⟩ : ∃ t, t = (sst s 3 a n c x).1 := ⟨_, rfl⟩
  rw [← eA, ← et] at RS
  rw [← et]
  have EA := hid eA
  have ET := hid et
  clear eA et
  go_enter Tryd.func12, Tryd.ntmps12
  go_wp2_with (first
    | rw [← EP.out, ← E1.out]
    | refine wpList_load_row rfl 37 (.tmp 4) rfl p rfl 37 _ (0, 0) _ RA.out Tryd.underlying37 rfl size_f ?_)
  refine RS.out.mono ?_
  rintro e V3 ⟨rfl, x3⟩
  obtain ⟨V4, V5, g, e4, eg, e5, r4, r5, x5⟩ := newbox V3 t
  have gl : w.heap.size ≤ g := by have := S1.out.2.2.1.size; have := x3.size; omega
  have E4 := hid e4
  have EG := hid eg
  have E5 := hid e5
  have R4 := hid r4
  have R5 := hid r5
  have C5 := hid (S1.out.ext (x3.trans x5))
  have ONE := hid (fr_one t)
  have gb : g ≠ b := by have := S1.out.2.2.2; omega
  clear e4 eg e5 r4 r5 x3 x5 S1 RS RA z0 z1 z2 z3 z4 gl
  obtain ⟨z0, z1, z2, z3, z4⟩ := row_cells C5.out.2.1.2.1
  have CA := hid (fire_any b s a V5 C5.out.1)
  rw [show (sfire s a).1 = (sst s 3 a n c x).1 from rfl, ← ET.out] at CA
  obtain ⟨B, eB⟩ : ∃ B, B = (sfire s a).2 := ⟨_, rfl⟩
  have EB : Hid (A = if B then 1 else 0) := by show _ = _; rw [EA.out, eB]; rfl
  rw [← eB] at CA
  clear eB
  go_wp2_with (first
    | rw [← EG.out, ← E4.out]
    | (refine wpList_store_row rfl 37 (.tmp 8) _ rfl g (fr t) rfl rfl 37 _ R4.out size_f rfl ONE.out ?_; rw [← E5.out]))
  refine CA.out.mono ?_
  rintro e V6 ⟨rfl, r6, k6⟩
  have C6 := hid (C5.out.wrote r6 k6)
  have R6 := hid (k6.row gb R5.out)
  have RB := hid C6.out.2.1.2.2
  have FIN := hid (C6.out.done t)
  clear r6 k6 C5 R5 R4 C6 z0 z1 z2 z3 z4 CA
  go_wp2_with fail
  refine (bit_any B V6).mono ?_
  rintro e w8 ⟨rfl, ew⟩
  obtain rfl : V6 = w8 := ew.symm
  rw [← EB.out]
  go_wp2_with (first
    | refine wpList_load_row rfl 37 (.tmp 8) rfl g rfl 37 _ (0, 0) _ R6.out Tryd.underlying37 rfl size_f ?_
    | refine wpList_store_row rfl 37 (.tmp 6) _ rfl (p + 2) (fr t) rfl rfl 37 _ RB.out size_f rfl ONE.out ?_)
  refine bodyPost_ret (results_cell_tmp1 Tryd.results12 _ _ (p + 2) 37 _ (0, 0) _ rfl FIN.out.1 Tryd.underlying37 rfl size_f) rfl ?_
  exact ⟨rfl, FIN.out.2⟩

set_option maxHeartbeats 4000000 in
theorem step4 (b : Nat) (s : SS) (k a n c x : Int) (w : World) (h : RndV w b s) (h0 : 0 ≤ x) (h1 : x < 18446744073709551616) (hk : k = 4) :
    Calls Tryd.prog 12 #[.pointer (some ⟨b, 0, none⟩), .agg (fr s), .agg (ocs (k, a, n, c, x))] w fun e w' => e = .returned (.tuple #[.agg (fr (dst s (k, a, n, c, x))), .bool true]) ∧ RndV w' b (dst s (k, a, n, c, x)) ∧ Kept (fun q => q ≠ b) w w' := by
  subst hk
  obtain ⟨V, p, e1, ep, SS⟩ := sboxes b s (4, a, n, c, x) w h
  have E1 := hid e1
  have EP := hid ep
  obtain ⟨z0, z1, z2, z3, z4⟩ := row_cells SS.2.1.2.1
  have RA := hid SS.2.1.1
  have S1 := hid SS
  clear e1 ep SS h
  have RS := hid (rstep_any s 4 a n c x V (by decide) (by decide) h0 h1)
  have ed : dst s (4, a, n, c, x) = (sst s 4 a n c x).1 := by unfold dst; rw [if_neg (by simp)]
  rw [ed]
  clear ed
  obtain ⟨A, eA⟩ : ∃ A, A = (sst s 4 a n c x).2 := ⟨_, rfl⟩
  obtain ⟨t, et⟩ : ∃ t, t = (sst s 4 a n c x).1 := ⟨_, rfl⟩
  rw [← eA, ← et] at RS
  rw [← et]
  have EA := hid eA
  have ET := hid et
  clear eA et
  go_enter Tryd.func12, Tryd.ntmps12
  go_wp2_with (first
    | rw [← EP.out, ← E1.out]
    | refine wpList_load_row rfl 37 (.tmp 4) rfl p rfl 37 _ (0, 0) _ RA.out Tryd.underlying37 rfl size_f ?_)
  refine RS.out.mono ?_
  rintro e V3 ⟨rfl, x3⟩
  obtain ⟨V4, V5, g, e4, eg, e5, r4, r5, x5⟩ := newbox V3 t
  have gl : w.heap.size ≤ g := by have := S1.out.2.2.1.size; have := x3.size; omega
  have E4 := hid e4
  have EG := hid eg
  have E5 := hid e5
  have R4 := hid r4
  have R5 := hid r5
  have C5 := hid (S1.out.ext (x3.trans x5))
  have ONE := hid (fr_one t)
  have gb : g ≠ b := by have := S1.out.2.2.2; omega
  clear e4 eg e5 r4 r5 x3 x5 S1 RS RA z0 z1 z2 z3 z4 gl
  obtain ⟨z0, z1, z2, z3, z4⟩ := row_cells C5.out.2.1.2.1
  have CA := hid (urge_any b s a V5 C5.out.1)
  rw [show (surge s a).1 = (sst s 4 a n c x).1 from rfl, ← ET.out, show (surge s a).2 = (sst s 4 a n c x).2 from rfl, ← EA.out] at CA
  go_wp2_with (first
    | rw [← EG.out, ← E4.out]
    | (refine wpList_store_row rfl 37 (.tmp 8) _ rfl g (fr t) rfl rfl 37 _ R4.out size_f rfl ONE.out ?_; rw [← E5.out]))
  refine CA.out.mono ?_
  rintro e V6 ⟨rfl, r6, k6⟩
  have C6 := hid (C5.out.wrote r6 k6)
  have R6 := hid (k6.row gb R5.out)
  have RB := hid C6.out.2.1.2.2
  have FIN := hid (C6.out.done t)
  clear r6 k6 C5 R5 R4 C6 z0 z1 z2 z3 z4 CA
  go_wp2_with (first
    | refine wpList_load_row rfl 37 (.tmp 8) rfl g rfl 37 _ (0, 0) _ R6.out Tryd.underlying37 rfl size_f ?_
    | refine wpList_store_row rfl 37 (.tmp 6) _ rfl (p + 2) (fr t) rfl rfl 37 _ RB.out size_f rfl ONE.out ?_)
  refine bodyPost_ret (results_cell_tmp1 Tryd.results12 _ _ (p + 2) 37 _ (0, 0) _ rfl FIN.out.1 Tryd.underlying37 rfl size_f) rfl ?_
  exact ⟨rfl, FIN.out.2⟩

theorem step_any (b : Nat) (s : SS) (o : OpS) (w : World) (h : RndV w b s) (f : FitO o) :
    Calls Tryd.prog 12 #[.pointer (some ⟨b, 0, none⟩), .agg (fr s), .agg (ocs o)] w fun e w' => e = .returned (.tuple #[.agg (fr (dst s o)), .bool true]) ∧ RndV w' b (dst s o) ∧ Kept (fun q => q ≠ b) w w' := by
  obtain ⟨k, a, n, c, x⟩ := o
  obtain ⟨f0, f1⟩ := f
  by_cases q : k < 1
  · exact step_low b s k a n c x w h f0 f1 q
  by_cases q2 : 4 < k
  · exact step_high b s k a n c x w h f0 f1 q2
  have hk : k = 1 ∨ k = 2 ∨ k = 3 ∨ k = 4 := by omega
  rcases hk with e | e | e | e
  · exact step1 b s k a n c x w h f0 f1 e
  · exact step2 b s k a n c x w h f0 f1 e
  · exact step3 b s k a n c x w h f0 f1 e
  · exact step4 b s k a n c x w h f0 f1 e

set_option maxHeartbeats 4000000 in
theorem same_any (b : Nat) (s : SS) (w : World) (h : RndV w b s) :
    Calls Tryd.prog 13 #[.pointer (some ⟨b, 0, none⟩), .agg (fr s)] w fun e w' => e = .returned (.bool true) ∧ Ext w w' := by
  obtain ⟨W1, e1⟩ : ∃ W1, W1 = w.alloc (.cells (fr s) 37) := ⟨_, rfl⟩
  obtain ⟨p, ep⟩ : ∃ p, p = w.heap.size := ⟨_, rfl⟩
  have X1 : Ext w W1 := by rw [e1]; exact (Ext.refl w).alloc _
  have r1 : W1.heap[p]? = some (.cells (fr s) 37 (0, 0)) := by rw [e1, ep]; exact heap_alloc_new w _
  have z0 : W1.cell? ⟨p, 0, none⟩ = some (.int .i64 s.1) := by rw [cell_of_row _ _ 0 _ _ _ r1]; rfl
  have z1 : W1.cell? ⟨p, 1, none⟩ = some (.int .i64 s.2.2.2) := by rw [cell_of_row _ _ 1 _ _ _ r1]; rfl
  have z2 : W1.cell? ⟨p, 2, none⟩ = some (.int .u64 s.2.1) := by rw [cell_of_row _ _ 2 _ _ _ r1]; rfl
  have z3 : W1.cell? ⟨p, 3, none⟩ = some (.bool s.2.2.1) := by rw [cell_of_row _ _ 3 _ _ _ r1]; rfl
  have R := hid (h.ext X1)
  have XX := hid X1
  have E1 := hid e1
  have EP := hid ep
  have DU := hid (due_any b s W1 R.out)
  have NU : Hid (∀ V, (∃ k, V = W1.drewN k) → ∀ j, Calls Tryd.prog 23 #[.pointer (some ⟨b, 0, none⟩)] (V.drewN j) fun e w' => e = .returned (.int .i64 s.1) ∧ w' = V.drewN j) := fun V ⟨k, ek⟩ j => number_any b s (V.drewN j) (by rw [ek]; exact (R.out.drewN k).drewN j)
  have OW : Hid (∀ V, (∃ k, V = W1.drewN k) → ∀ j, Calls Tryd.prog 15 #[.pointer (some ⟨b, 0, none⟩)] (V.drewN j) fun e w' => e = .returned (.int .u64 s.2.1) ∧ w' = V.drewN j) := fun V ⟨k, ek⟩ j => own_any b s (V.drewN j) (by rw [ek]; exact (R.out.drewN k).drewN j)
  have ZZ : Hid (∀ V, (∃ k, V = W1.drewN k) → Ext w V ∧ V.cell? ⟨p, 0, none⟩ = some (.int .i64 s.1) ∧ V.cell? ⟨p, 1, none⟩ = some (.int .i64 s.2.2.2) ∧ V.cell? ⟨p, 2, none⟩ = some (.int .u64 s.2.1) ∧ V.cell? ⟨p, 3, none⟩ = some (.bool s.2.2.1)) := fun V ⟨k, ek⟩ => by
    rw [ek]
    exact ⟨XX.out.drewN k, z0, z1, z2, z3⟩
  clear e1 ep r1 X1 h R
  obtain ⟨m, o, r, d⟩ := s
  simp only at z0 z1 z2 z3 NU OW DU ZZ
  cases r with
  | false =>
    rw [show pd (m, o, false, d) = 0 from rfl] at DU
    go_enter Tryd.func13, Tryd.ntmps13
    go_wp2_with (rw [← EP.out, ← E1.out])
    refine DU.out.mono ?_
    rintro e w1 ⟨rfl, ew⟩
    have N1 := hid (NU.out w1 ew)
    have O1 := hid (OW.out w1 ew)
    obtain ⟨x1, u0, u1, u2, u3⟩ := ZZ.out w1 ew
    have XF := hid x1
    clear z0 z1 z2 z3 NU OW ZZ ew DU XX x1
    go_wp2_with fail
    go_quiet (first
      | (go_at_call 23; refine Calls.quiet_of_same (N1.out _))
      | (go_at_call 15; refine Calls.quiet_of_same (O1.out _)))
    go_wp2_with fail
    go_ret
    exact ⟨rfl, XF.out.drewN _⟩
  | true =>
    rw [show pd (m, o, true, d) = d from rfl] at DU
    go_enter Tryd.func13, Tryd.ntmps13
    go_wp2_with (rw [← EP.out, ← E1.out])
    refine DU.out.mono ?_
    rintro e w1 ⟨rfl, ew⟩
    have N1 := hid (NU.out w1 ew)
    have O1 := hid (OW.out w1 ew)
    obtain ⟨x1, u0, u1, u2, u3⟩ := ZZ.out w1 ew
    have XF := hid x1
    clear z0 z1 z2 z3 NU OW ZZ ew DU XX x1
    go_wp2_with fail
    go_quiet (first
      | (go_at_call 23; refine Calls.quiet_of_same (N1.out _))
      | (go_at_call 15; refine Calls.quiet_of_same (O1.out _)))
    go_wp2_with fail
    go_ret
    exact ⟨rfl, XF.out.drewN _⟩
end Go.Proofs.YtcjohgfmdnimjaaDoor.Sup

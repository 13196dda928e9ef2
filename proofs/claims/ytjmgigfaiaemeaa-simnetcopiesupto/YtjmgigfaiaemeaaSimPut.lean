/-
  The walks of put, nextFate.
-/
import Derived.Test.YtjmgigfaiaemeaaSimNet
import Derived.Test.YtjmgigfaiaemeaaPipPut
namespace Go.Proofs.Ytjmgigfaiaemeaa.Sim
set_option linter.unusedVariables false
set_option maxRecDepth 100000
open Go.RowKit Go.Lib Go.Proofs.Ytjmgigfaiaemeaa.Crc Go.Proofs.Ytjmgigfaiaemeaa.Grp
open Go.Proofs.Ytjmgigfaiaemeaa.Pip hiding NewR

theorem NetP.ext {K K2 : Nat → Prop} {w w' : World} {b gb gg gc n : Nat} {dv fv : Value} {bs : Nat → Nat} {c : Cfg} {l : List Tri} {fs : List (Int × Int)} {x : St} (h : NetP K K2 w b gb gg gc n dv fv bs c l fs x) (e : Ext w w') :
    NetP K (fun q => K2 q ∨ New w w' q) w' b gb gg gc n dv fv bs c l fs x := (h.keep (L := fun _ => True) (Kept.of_ext e) (fun _ _ => .inr trivial)).less (fun q hq => .inl hq)
theorem set_same (ls : List Ms) (i : Nat) (h : i < ls.length) : ls.set i (ls.getD i []) = ls := by
  rw [List.getD_eq_getElem?_getD, List.getElem?_eq_getElem h]
  exact List.set_getElem_self h

set_option maxHeartbeats 2000000 in
theorem nput (K : Nat → Prop) (w : World) (b : Nat) (bs : Nat → Nat) (c : Cfg) (l : List Tri) (fs : List (Int × Int)) (x : St) (h : NetK K w b bs c l fs x) (i : Nat) (hi : i < x.1.length) (uv : Value) (t : List UInt8) (due : Int) (hu : RowK K w uv 1 (bcells t)) (hp : Plain uv) (d0 : 0 ≤ due) (d1 : due ≤ 2199023255552) (ht : t.length ≤ 320) (hs : SB 900000000 x.2.2) :
    Calls Try.prog 49 #[.pointer (some ⟨b, 0, none⟩), .pointer (some ⟨bs i, 0, none⟩), uv, .int .i64 due] w fun e w' => e = .returned (.tuple #[]) ∧
      NetK K w' b bs c l fs (x.1.set i (lay1 (x.1.getD i []) c.2.2.1 (due, t) x.2.2).1, x.2.1, (lay1 (x.1.getD i []) c.2.2.1 (due, t) x.2.2).2) ∧ Kept K w w' := by
  obtain ⟨K2, gb, gg, gc, n, dv, fv, h⟩ := h
  obtain ⟨Ki, p, hK, _, fin⟩ := h.one (i := i) (by have := h.1.2.1; omega)
  have lr := p.1.2.2.2
  rw [ord_length] at lr
  obtain ⟨ls, u, s⟩ := x
  simp only at *
  by_cases full : c.2.2.1 ≤ ((ls.getD i []).length : Int)
  · have P := hid (put_full Ki (bs i) c.2.2.1 due _ uv t w p hu.bytes (by omega) (by omega) ht (by rw [ord_length]; omega))
    have e1 : lay1 (ls.getD i []) c.2.2.1 (due, t) s = (ls.getD i [], sDrop s) := by unfold lay1; rw [if_pos full]
    rw [e1]
    simp only
    rw [set_same _ _ hi]
    have H := hid h
    obtain ⟨s0, s1, s2, s3, s4, s5⟩ := s
    obtain ⟨_, _, b2, _⟩ := hs
    simp only at b2
    obtain ⟨b20, b21⟩ := b2
    obtain ⟨ua, un, uc, eu, _⟩ := hu
    subst eu
    clear h p fin lr full e1 hp ht
    go_enter Try.func49, Try.ntmps49
    go_wp2_with fail
    refine P.out.mono ?_
    rintro e w1 ⟨rfl, X⟩
    have h1 := H.out.ext X
    have c8 := h1.cells 8 (.int .i64 s2) rfl
    have f8 := h1.free 8
    have S := hid (h1.stat 8 (.int .i64 (s2 + 1)) (s := sDrop (s0, s1, s2, s3, s4, s5)) rfl)
    have XX := hid X
    clear P H h1 X
    go_wp2_with fail
    refine bodyPost_end (results_none rfl _ _ _) rfl ?_
    exact ⟨rfl, S.out.1.k, (Kept.of_ext XX.out).trans S.out.2⟩
  · have P := hid (put_any Ki (bs i) c.2.2.1 due _ uv t w p hu.bytes hp (by omega) (by omega) ht (by rw [ord_length]; omega))
    have e1 : lay1 (ls.getD i []) c.2.2.1 (due, t) s = (ls.getD i [] ++ [(due, t)], s) := by unfold lay1; rw [if_neg full]
    rw [e1]
    simp only
    have F := hid fin
    obtain ⟨ua, un, uc, eu, _⟩ := hu
    subst eu
    clear h p fin lr full e1 hp ht
    go_enter Try.func49, Try.ntmps49
    go_wp2_with fail
    refine P.out.mono ?_
    rintro e w1 ⟨rfl, p1, k1⟩
    have q := F.out Ki w1 (ls.getD i [] ++ [(due, t)]) (fun _ h => h) (by rw [ord_snoc]; exact p1) k1
    have Q := hid q
    clear P F p1 k1 q
    go_wp2_with fail
    refine bodyPost_end (results_none rfl _ _ _) rfl ?_
    exact ⟨rfl, Q.out.1.less (fun q hq => .inl hq), Q.out.2⟩

theorem fates_view {K : Nat → Prop} {w : World} {v : Value} {l : List (Int × Int)} (h : RowK K w v 2 (fcells pr l)) : ∃ ao c, v = .slice ao l.length c ∧ l.length ≤ c ∧ c ≤ maxLen ∧ ∀ f r, l = f :: r → ∃ g o, ao = some ⟨g, o, none⟩ ∧
    w.cell? ⟨g, o, none⟩ = some (.int .i64 f.1) ∧ w.cell? ⟨g, o + 1, none⟩ = some (.int .i64 f.2) ∧ RowK K w (.slice (some ⟨g, o + 2, none⟩) r.length (c - 1)) 2 (fcells pr r) ∧ (c = 1 → RowK K w (.slice (some ⟨g, o, none⟩) r.length (c - 1)) 2 (fcells pr r)) := by
  obtain ⟨ao, n, c, e, h1, h2, h3, h4⟩ := h
  rw [fcells_length encP] at h1
  obtain rfl : l.length = n := by omega
  refine ⟨ao, c, e, h2, h3, fun f r hl => ?_⟩
  subst hl
  obtain ⟨g, o, ea, hk, hc⟩ := h4 (by simp)
  refine ⟨g, o, ea, ?_, ?_, ⟨_, _, _, rfl, fcells_length encP r, by simp at h2; omega, by omega, fun _ => ⟨g, o + 2, rfl, hk, fun j u hu => ?_⟩⟩, fun hc1 => ⟨_, _, _, rfl, fcells_length encP r, by simp at h2; omega, by omega, fun h0 => by simp at h2; omega⟩⟩
  · have := hc 0 (.int .i64 f.1) rfl
    simpa using this
  · exact hc 1 (.int .i64 f.2) rfl
  · have := hc (2 + j) u (by rw [fcells_cons, List.getElem?_append_right (by simp [pr])]; simpa [pr] using hu)
    rwa [← Nat.add_assoc] at this

theorem size_fate : (Try.prog.info? 69).map (·.size) = some 2 := by kernel_rfl

/-- what nextFate leaves -/
theorem next_end {K K2 : Nat → Prop} {w : World} {b gb gg gc n : Nat} {dv fv nf : Value} {bs : Nat → Nat} {c : Cfg} {l : List Tri} {fs : List (Int × Int)} {ls : List Ms} {u : Nat} {s : Cts} (h : NetP K K2 w b gb gg gc n dv fv bs c l fs (ls, u, s)) (f1 f2 : Int) (hf : RowK (Still K K2 b gg) w nf 2 (fcells pr (fs.drop (u + 1)))) :
    (let V := (((((w.alloc (.cells #[.int .i64 0, .int .i64 0] 69)).alloc (.cells #[.int .i64 f1, .int .i64 f2] 69)).setCell ⟨b, 4, none⟩ nf).setCell ⟨b, 5, none⟩ (.int .i64 ((u : Int) + 1))).setCell ⟨w.heap.size, 0, none⟩ (.int .i64 f1)).setCell ⟨w.heap.size, 1, none⟩ (.int .i64 f2)
     V.heap[w.heap.size]? = some (.cells #[.int .i64 f1, .int .i64 f2] 69 (0, 0)) ∧ NetK K V b bs c l fs (ls, u + 1, s) ∧ Kept K w V) := by
  intro V
  obtain ⟨V2, ev2⟩ : ∃ V2, V2 = (w.alloc (.cells #[.int .i64 0, .int .i64 0] 69)).alloc (.cells #[.int .i64 f1, .int .i64 f2] 69) := ⟨_, rfl⟩
  have X2 : Ext w V2 := by rw [ev2]; exact ((Ext.refl w).alloc _).alloc _
  have r1 : V2.heap[w.heap.size]? = some (.cells #[.int .i64 0, .int .i64 0] 69 (0, 0)) := by rw [ev2]; exact heap_alloc2_old w _ _
  have z2 : w.heap.size < V2.heap.size := lt_of_row r1
  have hth := h.there
  have hb := h.lt.1
  have hlt : b ≠ w.heap.size := by omega
  have h2 := h.keep (L := fun _ => True) (Kept.of_ext X2) (fun _ _ => .inr trivial)
  obtain ⟨V4, e4⟩ : ∃ V4, V4 = (V2.setCell ⟨b, 4, none⟩ nf).setCell ⟨b, 5, none⟩ (.int .i64 ((u : Int) + 1)) := ⟨_, rfl⟩
  have k4 : Kept (fun q => q ≠ b) V2 V4 := by rw [e4]; exact ((Kept.refl _ V2).setCell (fun hne => hne rfl) _).setCell (fun hne => hne rfl) _
  have b4 : V4.heap[b]? = some (.cells (nrow gb c.2.1 dv (bs n) nf ((u + 1 : Nat) : Int) s) 56 (0, 0)) := by
    have q1 := h2.2.1
    have q2 := setRow_heap V2 b _ ((nrow gb c.2.1 dv (bs n) fv (u : Int) s).setIfInBounds 4 nf) _ _ q1
    rw [← setCell_eq_setRow _ _ _ _ _ _ _ q1] at q2
    have q3 := setRow_heap _ b _ (((nrow gb c.2.1 dv (bs n) fv (u : Int) s).setIfInBounds 4 nf).setIfInBounds 5 (.int .i64 ((u : Int) + 1))) _ _ q2
    rw [← setCell_eq_setRow _ _ _ _ _ _ _ q2] at q3
    have e5 : ((nrow gb c.2.1 dv (bs n) fv (u : Int) s).setIfInBounds 4 nf).setIfInBounds 5 (.int .i64 ((u : Int) + 1)) = nrow gb c.2.1 dv (bs n) nf ((u : Int) + 1) s := rfl
    rw [e5] at q3
    rw [e4, show ((u + 1 : Nat) : Int) = (u : Int) + 1 by omega]
    exact q3
  have f4 : RowK (Still (fun q => K q ∨ New w V2 q) (fun q => K2 q ∨ New w V2 q) b gg) V4 nf 2 (fcells pr (fs.drop (u + 1))) := by
    have r := hf.mono (L := fun q => Still K K2 b gg q ∧ q < w.heap.size) (by decide) (fun i hi h => ⟨h, hi⟩)
    have r2 := r.kept (Kept.of_ext X2)
    exact (r2.kept (k4.mono (fun i hi => hi.1.2.2.1))).mono (by decide) (fun i _ h => ⟨.inl h.1.1, fun q => q.elim h.1.2.1 (fun q => by have := q.1; have := h.2; omega), h.1.2.2⟩)
  have r4 : V4.heap[w.heap.size]? = some (.cells #[.int .i64 0, .int .i64 0] 69 (0, 0)) := k4.row (fun e => hlt e.symm) r1
  obtain ⟨h4, kk4⟩ := h2.row k4 b4 f4
  have eV : V = (V4.setCell ⟨w.heap.size, 0, none⟩ (.int .i64 f1)).setCell ⟨w.heap.size, 1, none⟩ (.int .i64 f2) := by rw [e4, ev2]
  have k5 : Kept (fun q => q ≠ w.heap.size) V4 V := by rw [eV]; exact ((Kept.refl _ V4).setCell (fun hne => hne rfl) _).setCell (fun hne => hne rfl) _
  have h5 := h4.keep k5 (fun q hq => if e : q = w.heap.size then .inl (.inr ⟨by omega, by omega⟩) else .inr e)
  refine ⟨?_, (h5.less (fun q hq => .inl (.inl hq))).k, ?_⟩
  · have q2 := setRow_heap V4 w.heap.size _ (#[.int .i64 f1, .int .i64 0] : Array Value) _ _ r4
    have g1 : V4.setCell ⟨w.heap.size, 0, none⟩ (.int .i64 f1) = V4.setRow w.heap.size #[.int .i64 f1, .int .i64 0] := setCell_eq_setRow _ _ _ _ _ _ _ r4
    rw [← g1] at q2
    have q3 := setRow_heap _ w.heap.size _ (#[.int .i64 f1, .int .i64 f2] : Array Value) _ _ q2
    have g2 : (V4.setCell ⟨w.heap.size, 0, none⟩ (.int .i64 f1)).setCell ⟨w.heap.size, 1, none⟩ (.int .i64 f2) = (V4.setCell ⟨w.heap.size, 0, none⟩ (.int .i64 f1)).setRow w.heap.size #[.int .i64 f1, .int .i64 f2] := setCell_eq_setRow _ _ _ _ _ _ _ q2
    rw [← g2] at q3
    rw [eV]
    exact q3
  · exact ((Kept.of_ext X2).trans (kk4.mono (fun q hq => .inl hq))).trans (k5.mono (fun q hq e => by have := hth q hq; omega))

set_option maxHeartbeats 2000000 in
theorem nnext (K : Nat → Prop) (w : World) (b : Nat) (bs : Nat → Nat) (c : Cfg) (l : List Tri) (fs : List (Int × Int)) (x : St) (h : NetK K w b bs c l fs x) (hfs : fs.length ≤ 1000) :
    Calls Try.prog 48 #[.pointer (some ⟨b, 0, none⟩)] w fun e w' => e = .returned (.agg #[.int .i64 (fate fs x.2.1).1, .int .i64 (fate fs x.2.1).2]) ∧ NetK K w' b bs c l fs (x.1, usd fs x.2.1, x.2.2) ∧ Kept K w w' := by
  obtain ⟨K2, gb, gg, gc, n, dv, fv, h⟩ := h
  obtain ⟨ls, u, s⟩ := x
  simp only at *
  have HH := hid h
  obtain ⟨ao, cp, ev, k1, k2, vw⟩ := fates_view h.2.2.2.2.1
  simp only at ev k1 vw
  unfold maxLen at k2
  have c4 := h.cells 4 fv rfl
  have c5 := h.cells 5 (.int .i64 (u : Int)) rfl
  by_cases hu : u < fs.length
  · have e0 : fs.drop u = fs[u] :: fs.drop (u + 1) := List.drop_eq_getElem_cons hu
    obtain ⟨g, o, ea, y0, y1, y2, y3⟩ := vw _ _ e0
    have e1 : fate fs u = fs[u] := by unfold fate; rw [List.getD_eq_getElem?_getD, List.getElem?_eq_getElem hu]; rfl
    have e2 : usd fs u = u + 1 := by unfold usd; rw [if_pos hu]
    rw [e1, e2]
    have ln : (fs.drop u).length = (fs.drop (u + 1)).length + 1 := by rw [List.length_drop, List.length_drop]; omega
    have Y2 := hid y2
    have Y3 := hid y3
    rw [ln] at ev k1
    obtain ⟨m, em⟩ : ∃ m, m = (fs.drop (u + 1)).length := ⟨_, rfl⟩
    have mb : m ≤ 1000 := by rw [em, List.length_drop]; omega
    rw [← em] at ev k1 Y2 Y3
    obtain ⟨F, eF⟩ : ∃ F, F = fs[u] := ⟨_, rfl⟩
    rw [← eF] at y0 y1
    rw [← eF]
    clear eF
    obtain ⟨f1, f2⟩ := F
    simp only at y0 y1 ⊢
    subst ea ev
    have ub : u ≤ 1000 := by omega
    clear vw e0 e1 e2 ln y2 y3 em h
    have wu : IntKind.i64.wrap ((u : Int) + 1) = (u : Int) + 1 := IntWalk.i64_in _ (by omega)
    obtain ⟨V1, ev1⟩ : ∃ V1, V1 = w.alloc (.cells #[.int .i64 0, .int .i64 0] 69) := ⟨_, rfl⟩
    obtain ⟨V2, ev2⟩ : ∃ V2, V2 = (w.alloc (.cells #[.int .i64 0, .int .i64 0] 69)).alloc (.cells #[.int .i64 f1, .int .i64 f2] 69) := ⟨_, rfl⟩
    have X1 : Ext w V1 := by rw [ev1]; exact (Ext.refl w).alloc _
    have X2 : Ext w V2 := by rw [ev2]; exact ((Ext.refl w).alloc _).alloc _
    have r1 : V2.heap[w.heap.size]? = some (.cells #[.int .i64 0, .int .i64 0] 69 (0, 0)) := by rw [ev2]; exact heap_alloc2_old w _ _
    have r2 : V2.heap[w.heap.size + 1]? = some (.cells #[.int .i64 f1, .int .i64 f2] 69 (0, 0)) := by rw [ev2]; exact heap_alloc2_new w _ _
    replace y0 := X1.cell y0
    replace y1 := X1.cell y1
    have d4 := X1.cell c4
    have d42 := X2.cell c4
    have d52 := X2.cell c5
    have hb := HH.out.lt.1
    have h2 := HH.out.ext X2
    have f4 := h2.free 4
    have f5 := h2.free 5
    rw [ev1] at y0 y1 d4
    rw [ev2] at d42 d52 f4 f5
    by_cases hc : cp = 1
    · subst hc
      obtain rfl : m = 0 := by omega
      have N := hid (next_end (nf := .slice (some ⟨g, o, none⟩) 0 0) HH.out f1 f2 (Y3.out rfl))
      clear ev1 ev2 X1 X2 h2 r1 r2 hb Y2 Y3
      go_enter Try.func48, Try.ntmps48
      go_wp2_with fail
      refine bodyPost_ret (results_cell_row Try.results48 _ _ w.heap.size 69 _ (0, 0) _ rfl N.out.1 Try.underlying69 rfl size_fate) rfl ?_
      exact ⟨rfl, N.out.2⟩
    · have N := hid (next_end HH.out f1 f2 Y2.out)
      clear ev1 ev2 X1 X2 h2 r1 r2 hb Y2 Y3
      go_enter Try.func48, Try.ntmps48
      go_wp2_with fail
      refine bodyPost_ret (results_cell_row Try.results48 _ _ w.heap.size 69 _ (0, 0) _ rfl N.out.1 Try.underlying69 rfl size_fate) rfl ?_
      exact ⟨rfl, N.out.2⟩
  · have e0 : fs.drop u = [] := List.drop_eq_nil_of_le (by omega)
    have e1 : fate fs u = (0, 0) := by unfold fate; rw [List.getD_eq_getElem?_getD, List.getElem?_eq_none (by omega)]; rfl
    have e2 : usd fs u = u := by unfold usd; rw [if_neg hu]
    rw [e1, e2]
    rw [e0, List.length_nil] at ev
    subst ev
    have X : Hid (Ext w (w.alloc (.cells #[.int .i64 0, .int .i64 0] 69))) := (Ext.refl w).alloc _
    replace c4 := X.out.cell c4
    clear vw e0 e1 e2 h
    go_enter Try.func48, Try.ntmps48
    go_wp2_with fail
    refine bodyPost_ret (results_cell_row Try.results48 _ _ w.heap.size 69 #[.int .i64 0, .int .i64 0] (0, 0) _ rfl (heap_alloc_new w _) Try.underlying69 rfl size_fate) rfl ?_
    exact ⟨rfl, (HH.out.ext X.out).k, Kept.of_ext X.out⟩
end Go.Proofs.Ytjmgigfaiaemeaa.Sim

/-
  Walks of Copy, slices.Clone at ints, Closed; lists of numbers as they lie in memory.
-/
import Derived.Test.YtlglhggfhlpbjaaHisMem
namespace Go.Proofs.Ytlglhggfhlpbjaa.His
set_option linter.unusedVariables false
set_option maxRecDepth 100000
open Go.RowKit Go.Lib

theorem size_h : (Try.prog.info? 68).map (·.size) = some 10 := by kernel_rfl
theorem hrow_one (o : Int) (l : List Int) : (hrow o l).all (·.oneCell') = true := by simp [hrow, hlist, Value.oneCell']
def hzero : Array Value := #[.int .i64 0, .int .i64 0, .int .i64 0, .int .i64 0, .int .i64 0, .int .i64 0, .int .i64 0, .int .i64 0, .int .i64 0, .int .i64 0]
theorem copy_any (b : Nat) (o : Int) (l : List Int) (w : World) (h : HisV w b o l) :
    Calls Try.prog 26 #[.pointer (some ⟨b, 0, none⟩)] w fun e w' => ∃ c, e = .returned (.pointer (some ⟨c, 0, none⟩)) ∧ HisV w' c o l ∧ w.heap.size ≤ c ∧ Ext w w' := by
  have H := hid h
  obtain ⟨W1, e1⟩ : ∃ W1, W1 = w.alloc (.cells hzero 68) := ⟨_, rfl⟩
  have r1 : W1.heap[w.heap.size]? = some (.cells hzero 68 (0, 0)) := by rw [e1]; exact heap_alloc_new w _
  have FIN : Hid (HisV (W1.setRow w.heap.size (hrow o l)) w.heap.size o l ∧ Ext w (W1.setRow w.heap.size (hrow o l))) := ⟨⟨h.1, setRow_heap _ _ _ _ _ _ r1⟩, by rw [e1]; exact ((Ext.refl w).alloc _).setRow (Nat.le_refl _) _⟩
  have R1 := hid r1
  have ONE := hid (hrow_one o l)
  have SZ : Hid ((hrow o l).size = 10) := rfl
  have SZ0 : Hid (hzero.size = 10) := rfl
  unfold hzero at e1
  have E1 := hid e1
  obtain ⟨R, eR⟩ : ∃ R, R = hrow o l := ⟨_, rfl⟩
  have HR : Hid (w.heap[b]? = some (.cells R 68 (0, 0))) := by rw [eR]; exact h.2
  rw [← eR] at FIN ONE SZ
  clear h e1 r1 H eR
  go_enter Try.func26, Try.ntmps26
  go_wp2_with (first
    | refine wpList_load_row rfl 68 (.tmp 5) rfl b rfl 68 _ (0, 0) _ HR.out Try.underlying68 rfl (by rw [SZ.out]; exact size_h) ?_
    | (rw [← E1.out]; refine wpList_store_row rfl 68 (.tmp 3) (.tmp 6) rfl w.heap.size _ rfl rfl 68 _ R1.out (by rw [SZ.out]; exact size_h) (by rw [SZ.out, SZ0.out]) ONE.out ?_))
  go_ret
  exact ⟨_, rfl, FIN.out.1, Nat.le_refl _, FIN.out.2⟩

/-- numbers that lie in blocks of K -/
def ListK (K : Nat → Prop) (w : World) (v : Value) (l : List Int) : Prop := RowK K w v 1 (fcells one l)
theorem ListK.slice {K : Nat → Prop} {w : World} {v : Value} {l : List Int} (h : ListK K w v l) : ∃ ao c, v = .slice ao l.length c ∧ l.length ≤ c ∧ c ≤ maxLen := by
  obtain ⟨ao, n, c, e, h1, h2, h3, _⟩ := h
  rw [fcells_length encI] at h1
  obtain rfl : l.length = n := by omega
  exact ⟨ao, c, e, h2, h3⟩
theorem ListK.at {K : Nat → Prop} {w : World} {ao : Option Addr} {n c : Nat} {l : List Int} (h : ListK K w (.slice ao n c) l) {k : Nat} (hk : k < l.length) : ∃ g o, ao = some ⟨g, o, none⟩ ∧ K g ∧ w.cell? ⟨g, o + k, none⟩ = some (.int .i64 (l.getD k 0)) := by
  obtain ⟨ao', n', c', e, h1, h2, h3, h4⟩ := h
  simp only [Value.slice.injEq] at e
  obtain ⟨rfl, rfl, rfl⟩ := e
  rw [fcells_length encI] at h1
  obtain ⟨g, o, ea, hg, hc⟩ := h4 (by omega)
  have e1 : l[k]? = some (l.getD k 0) := by rw [List.getD_eq_getElem?_getD, List.getElem?_eq_getElem hk]; rfl
  have := fcells_at encI e1 (j := 0) (by decide)
  exact ⟨g, o, ea, hg, hc k _ (by rw [Nat.mul_one, Nat.add_zero] at this; rw [this]; rfl)⟩
theorem ListK.kept {K L : Nat → Prop} {w w' : World} {v : Value} {l : List Int} (h : ListK K w v l) (k : Kept L w w') (hL : ∀ q, K q → L q) : ListK K w' v l := RowK.kept h (k.mono hL)
theorem ListK.ext {K : Nat → Prop} {w w' : World} {v : Value} {l : List Int} (h : ListK K w v l) (e : Ext w w') : ListK K w' v l := RowK.kept h (Kept.of_ext e)
theorem ListK.mono {K L : Nat → Prop} {w : World} {v : Value} {l : List Int} (h : ListK K w v l) (hL : ∀ q, q < w.heap.size → K q → L q) : ListK L w v l := RowK.mono h (by decide) hL
theorem ListK.take {K : Nat → Prop} {w : World} {ao : Option Addr} {n c : Nat} {l : List Int} (h : ListK K w (.slice ao n c) l) (k : Nat) (hk : k ≤ l.length) : ListK K w (.slice ao k c) (l.take k) := by
  obtain ⟨ao', n', c', e, h1, h2, h3, h4⟩ := h
  simp only [Value.slice.injEq] at e
  obtain ⟨rfl, rfl, rfl⟩ := e
  rw [fcells_length encI] at h1
  refine ⟨ao, k, c, rfl, by rw [fcells_length encI, List.length_take]; omega, by omega, h3, fun h0 => ?_⟩
  obtain ⟨g, o, ea, hg, hc⟩ := h4 (by omega)
  refine ⟨g, o, ea, hg, fun j u hu => hc j u ?_⟩
  rw [fcells_take encI, List.getElem?_take] at hu
  split at hu
  · exact hu
  · cases hu
theorem NewR.list {w wr : World} {v : Value} {l : List Int} (h : NewR one 3 1 w wr v l) : ListK (fun q => w.heap.size ≤ q ∧ q < wr.heap.size) wr v l := h.row encI

set_option maxHeartbeats 1000000 in
theorem clone_any {K : Nat → Prop} (w : World) (g o n cap : Nat) (l : List Int) (hs : ListK K w (.slice (some ⟨g, o, none⟩) n cap) l) (hl : l.length ≤ 1000) :
    Calls Try.prog 30 #[.slice (some ⟨g, o, none⟩) n cap] w fun e w' => ∃ v, e = .returned v ∧ NewR one 3 1 w w' v l := by
  obtain ⟨w1, e1⟩ : ∃ w1, w1 = w.alloc (.cells #[] 3) := ⟨_, rfl⟩
  have X1 : Ext w w1 := by rw [e1]; exact (Ext.refl w).alloc _
  have N0 : NewR one 3 1 w w1 (.slice (some ⟨w.heap.size, 0, none⟩) 0 0) [] := ⟨by rw [e1]; exact Own.made _ _ _ w, fun k hk => by simp only [Value.ownBlock, Option.some.injEq] at hk; omega, X1⟩
  obtain ⟨v', w', r, N, _⟩ := N0.put elemsI encI 27 (.slice (some ⟨g, o, none⟩) n cap) l (hs.ext X1) (by simp; omega)
  rw [List.nil_append] at N
  have T := hid N
  obtain ⟨ao, c, ev, k1, k2⟩ := hs.slice
  obtain ⟨a', c', e', kk⟩ := N.slice
  clear kk
  obtain ⟨Y, eY⟩ : ∃ Y, Y = l.length := ⟨_, rfl⟩
  rw [← eY] at e'
  subst e'
  simp only [Value.slice.injEq] at ev
  have R := hid r
  have E1 := hid e1
  obtain ⟨rfl, en, rfl⟩ := ev
  have n1 : n ≤ cap := by omega
  unfold maxLen at k2
  clear hs N X1 N0 r e1 k1 en eY
  have hn := Lib.run_eql_slice_some_nil (P := Try.prog) w ⟨g, o, none⟩ n cap Try.underlying27
  go_enter Try.func30, Try.ntmps30
  go_wp2_with (at_builtin; rw [← E1.out]; refine wpList_append_run _ rfl (.tmp 5) (.tmp 6) 27 27 rfl _ _ rfl rfl _ _ R.out ?_)
  go_ret
  exact ⟨_, rfl, T.out⟩

/-- the closed intervals as they lie in the history's own row -/
theorem HisV.list {w : World} {b : Nat} {o : Int} {l : List Int} (h : HisV w b o l) : ListK (fun q => q = b) w (.slice (some ⟨b, 1, none⟩) l.length 8) l := by
  refine ⟨_, _, _, rfl, by rw [fcells_length encI], h.1.2.1, by unfold maxLen; omega, fun h0 => ⟨b, 1, rfl, rfl, fun j u hu => ?_⟩⟩
  have hj : j < l.length := by have := (List.getElem?_eq_some_iff.1 hu).1; rw [fcells_length encI] at this; omega
  have e1 : l[j]? = some (l.getD j 0) := by rw [List.getD_eq_getElem?_getD, List.getElem?_eq_getElem hj]; rfl
  have e2 := fcells_at encI e1 (j := 0) (by decide)
  rw [Nat.mul_one, Nat.add_zero, hu] at e2
  rw [h.closed j (by have := h.1.2.1; omega), e2]
  rfl

set_option maxHeartbeats 1000000 in
theorem closed_any (b : Nat) (o : Int) (l : List Int) (w : World) (h : HisV w b o l) :
    Calls Try.prog 21 #[.pointer (some ⟨b, 0, none⟩)] w fun e w' => ∃ v, e = .returned v ∧ NewR one 3 1 w w' v l := by
  have wd : Ext w w.drew := (Ext.refl w).drewN 1
  have c9 : w.cell? ⟨b, 9, none⟩ = some (.int .i64 (l.length : Int)) := h.cell 9 _ rfl
  have l8 := h.1.2.1
  obtain ⟨N, eN⟩ : ∃ N, N = l.length := ⟨_, rfl⟩
  have CC : Hid (Calls Try.prog 30 #[.slice (some ⟨b, 1, none⟩) N 8] w.drew fun e w' => ∃ v, e = .returned v ∧ NewR one 3 1 w w' v l) := by
    rw [eN]
    refine (clone_any w.drew b 1 l.length 8 l ((h.ext wd).list) (by omega)).mono ?_
    rintro e w' ⟨v, h1, h2⟩
    exact ⟨v, h1, h2.1, h2.2.1, wd.trans h2.2.2⟩
  rw [← eN] at c9 l8
  have n0 : (0 : Int) ≤ (N : Int) := by omega
  have n8 : (N : Int) ≤ 8 := by omega
  have C9 := hid c9
  clear h eN c9
  go_enter Try.func21, Try.ntmps21
  go_wp2_with fail
  refine wp_region_held_drew (S := fun V => Ext w V) (by kernel_rfl) wd (fun hHeld => ?_)
  refine takeE (v := ?_) 0 3 rfl rfl (by kernel_rfl) (by kernel_rfl) (by kernel_rfl) (fun _ _ _ h => h) (Or.inl ⟨by rfl, fun V hV => ?_⟩) hHeld ?_
  rotate_left
  · (go_simp; try with_reducible rfl)
  simp only [Act.put, List.setIfInBounds_toArray, List.set_cons_zero, List.set_cons_succ]
  refine takeE (v := ?_) 1 4 rfl rfl (by kernel_rfl) (by kernel_rfl) (by kernel_rfl) (fun _ _ _ h => h) (Or.inl ⟨by rfl, fun V hV => ?_⟩) hHeld ?_
  rotate_left
  · (go_simp; try with_reducible rfl)
  simp only [Act.put, List.setIfInBounds_toArray, List.set_cons_zero, List.set_cons_succ]
  refine takeE (v := ?_) 2 5 rfl rfl (by kernel_rfl) (by kernel_rfl) (by kernel_rfl) (fun _ _ _ h => h) (Or.inl ⟨by rfl, fun V hV => ?_⟩) hHeld ?_
  rotate_left
  · (go_simp; try with_reducible rfl)
  simp only [Act.put, List.setIfInBounds_toArray, List.set_cons_zero, List.set_cons_succ]
  refine takeE (v := ?_) 3 6 rfl rfl (by kernel_rfl) (by kernel_rfl) (by kernel_rfl) (fun _ _ _ h => h) (Or.inl ⟨by rfl, fun V hV => ?_⟩) hHeld ?_
  rotate_left
  · (go_simp; try with_reducible rfl)
  simp only [Act.put, List.setIfInBounds_toArray, List.set_cons_zero, List.set_cons_succ]
  refine takeE (v := ?_) 4 7 rfl rfl (by kernel_rfl) (by kernel_rfl) (by kernel_rfl) (fun _ _ _ h => h) (Or.inl ⟨by rfl, fun V hV => ?_⟩) hHeld ?_
  rotate_left
  · (go_simp; try with_reducible rfl)
  simp only [Act.put, List.setIfInBounds_toArray, List.set_cons_zero, List.set_cons_succ]
  refine takeE (v := ?_) 5 8 rfl rfl (by kernel_rfl) (by kernel_rfl) (by kernel_rfl) (fun _ _ _ h => h) (Or.inl ⟨by rfl, fun V hV => ?_⟩) hHeld ?_
  rotate_left
  · (go_simp; try with_reducible rfl)
  simp only [Act.put, List.setIfInBounds_toArray, List.set_cons_zero, List.set_cons_succ]
  refine takeE (v := ?_) 6 9 rfl rfl (by kernel_rfl) (by kernel_rfl) (by kernel_rfl) (fun _ _ _ h => h) (Or.inl ⟨by rfl, fun V hV => ?_⟩) hHeld ?_
  rotate_left
  · (have y := hV.cell C9.out; go_simp; try with_reducible rfl)
  simp only [Act.put, List.setIfInBounds_toArray, List.set_cons_zero, List.set_cons_succ]
  refine takeE (v := ?_) 7 10 rfl rfl (by kernel_rfl) (by kernel_rfl) (by kernel_rfl) (fun _ _ _ h => h) (Or.inl ⟨by rfl, fun V hV => ?_⟩) hHeld ?_
  rotate_left
  · (go_simp; try with_reducible rfl)
  simp only [Act.put, List.setIfInBounds_toArray, List.set_cons_zero, List.set_cons_succ]
  refine callE 8 11 rfl rfl (by kernel_rfl) (by rfl) (by go_simp; first | exact ⟨rfl, rfl⟩ | rfl) ?_
  refine CC.out.mono ?_
  rintro e W2 ⟨v', rfl, N2⟩
  refine ⟨_, rfl, N2.2.2, ?_⟩
  simp only [Act.put, List.setIfInBounds_toArray, List.set_cons_zero, List.set_cons_succ]
  have NN := hid N2
  replace hHeld := N2.2.2
  clear N2 CC
  refine takeE (v := ?_) 9 2 rfl rfl (by kernel_rfl) (by kernel_rfl) (by kernel_rfl) (fun _ _ _ h => h) (Or.inl ⟨by rfl, fun V hV => ?_⟩) hHeld ?_
  rotate_left
  · (go_simp; try with_reducible rfl)
  simp only [Act.put, List.setIfInBounds_toArray, List.set_cons_zero, List.set_cons_succ]
  refine wpAnyH_done (by kernel_rfl) ?_ _
  clear hHeld
  go_wp2_with fail
  go_ret
  exact ⟨_, rfl, NN.out⟩
end Go.Proofs.Ytlglhggfhlpbjaa.His

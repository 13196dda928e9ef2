/-
  The walk of Copy: another pipe, all of it new.
-/
import Derived.Test.YtjmgigfaiaemeaaPipPut
namespace Go.Proofs.Ytjmgigfaiaemeaa.Pip
set_option linter.unusedVariables false
set_option maxRecDepth 100000
open Go.RowKit Go.Lib

theorem mcells_set : ∀ (m : Mv) (k : Nat) (s : Sl), k < m.length → mcells (m.set k ((m.getD k (0, (none, 0, 0))).1, s)) = (mcells m).set (k * 2 + 1) (sval s) := by
  intro m
  induction m with
  | nil => intro k s h; simp at h
  | cons x r ih =>
    intro k s h
    cases k with
    | zero => simp [mcells]
    | succ k =>
      have := ih k s (by simpa using h)
      simp only [mcells] at this
      rw [show (k + 1) * 2 + 1 = k * 2 + 1 + 1 + 1 by omega]
      simp only [mcells, List.set_cons_succ, List.flatMap_cons, List.cons_append, List.nil_append, List.getD_cons_succ, this]

/-- one message's slice written anew -/
theorem OwnM.set {w : World} {g n c : Nat} {m : Mv} (h : OwnM w (.slice (some ⟨g, 0, none⟩) n c) m) {k : Nat} (hk : k < m.length) (s : Sl) :
    OwnM (w.setCell ⟨g, k * 2 + 1, none⟩ (sval s)) (.slice (some ⟨g, 0, none⟩) n c) (m.set k ((m.getD k (0, (none, 0, 0))).1, s)) ∧ w.frozen? ⟨g, k * 2 + 1, none⟩ = false ∧ ∃ u, w.cell? ⟨g, k * 2 + 1, none⟩ = some u := by
  rcases h.at with ⟨e, _⟩ | ⟨g', cap, L, e, h1, h2, h3, h4, h5⟩
  · simp at e
  · simp only [Value.slice.injEq, Option.some.injEq, Addr.mk.injEq] at e
    obtain ⟨⟨rfl, _, _⟩, rfl, rfl⟩ := e
    have e1 : w.setCell ⟨g, k * 2 + 1, none⟩ (sval s) = w.setRow g (L.toArray.setIfInBounds (k * 2 + 1) (sval s)) := setCell_eq_setRow w g _ _ _ _ _ h1
    have h6 := setRow_heap w g L.toArray (L.toArray.setIfInBounds (k * 2 + 1) (sval s)) _ _ h1
    refine ⟨?_, frozen_of_row _ _ _ _ _ h1, ?_⟩
    · rw [e1]
      have e2 : L.set (k * 2 + 1) (sval s) = mcells (m.set k ((m.getD k (0, (none, 0, 0))).1, s)) ++ L.drop (m.length * 2) := by
        rw [mcells_set m k s hk, ← h5]
        conv => lhs; rw [← List.take_append_drop (m.length * 2) L]
        rw [List.set_append_left _ _ (by rw [List.length_take]; omega)]
      refine own_of_rowM (Y := L.drop (m.length * 2)) (by simp) ?_ h2 h3 ?_
      · rw [← e2]; simpa using h6
      · rw [← e2, List.length_set, h4]
    · rw [cell_of_row w g _ _ _ _ h1, List.getElem?_toArray]
      exact ⟨_, List.getElem?_eq_getElem (by omega)⟩

/-- a copy, as far as it has come: block cb, its row, messages nm with bytes of their own, the rest as they were -/
def Half (w : World) (cb : Nat) (room : Int) (v : Value) (ml : List Msg) (k : Nat) (wr : World) : Prop :=
  Ext w wr ∧ w.heap.size ≤ cb ∧ wr.heap[cb]? = some (.cells #[.int .i64 room, v] 96 (0, 0)) ∧ (∀ g, v.ownBlock = some g → w.heap.size ≤ g) ∧
    ∃ nm : List Msg, nm.length = k ∧ nm.map told = (ml.take k).map told ∧ OwnM wr v (nm.map mval ++ (ml.drop k).map mval) ∧ (∀ p ∈ nm, OwnB wr (sval p.2.1) p.2.2 ∧ ∀ g, (sval p.2.1).ownBlock = some g → w.heap.size ≤ g) ∧ nm.Pairwise Apart
theorem Half.done {w : World} {cb : Nat} {room : Int} {v : Value} {ml : List Msg} {wr : World} (h : Half w cb room v ml ml.length wr) (hl : ∀ p ∈ ml, p.2.2.length ≤ 320) : PipU (fun i => i < w.heap.size) wr cb room v (h.2.2.2.2.choose) ∧ h.2.2.2.2.choose.map told = ml.map told := by
  have q := h.2.2.2.2.choose_spec
  generalize h.2.2.2.2.choose = nm at *
  obtain ⟨h1, h2, h3, h4, _⟩ := h
  obtain ⟨q1, q2, q3, q4, q5⟩ := q
  rw [List.take_length] at q2
  rw [List.drop_length, List.map_nil, List.append_nil] at q3
  refine ⟨⟨⟨h3, q3, fun p hp => ⟨?_, (q4 p hp).1⟩⟩, by omega, fun g hg => by have := h4 g hg; omega, fun p hp g hg => by have := (q4 p hp).2 g hg; omega, q5, fun i hi => Nat.lt_of_lt_of_le hi h1.size⟩, q2⟩
  have : told p ∈ ml.map told := by rw [← q2]; exact List.mem_map_of_mem hp
  obtain ⟨p', hp', e⟩ := List.mem_map.1 this
  have e2 : p'.2.2 = p.2.2 := by
    have := congrArg Prod.snd e
    exact this
  rw [← e2]
  exact hl p' hp'
theorem Half.step {w : World} {cb : Nat} {room : Int} {g n c : Nat} {ml : List Msg} {k : Nat} {wr W : World} (h : Half w cb room (.slice (some ⟨g, 0, none⟩) n c) ml k wr) (hk : k < ml.length) (X : Ext wr W) (s : Sl) (hs : OwnB W (sval s) (ml[k]'hk).2.2) (hn : ∀ q, (sval s).ownBlock = some q → wr.heap.size ≤ q) :
    Half w cb room (.slice (some ⟨g, 0, none⟩) n c) ml (k + 1) (W.setCell ⟨g, k * 2 + 1, none⟩ (sval s)) ∧ W.frozen? ⟨g, k * 2 + 1, none⟩ = false ∧ ∃ u, W.cell? ⟨g, k * 2 + 1, none⟩ = some u := by
  obtain ⟨h1, h2, h3, h4, nm, q1, q2, q3, q4, q5⟩ := h
  have ow : OwnM W (.slice (some ⟨g, 0, none⟩) n c) (nm.map mval ++ (ml.drop k).map mval) := OwnM.ext q3 X
  have hd : ml.drop k = ml[k] :: ml.drop (k + 1) := List.drop_eq_getElem_cons hk
  have hl : k < (nm.map mval ++ (ml.drop k).map mval).length := by simp [q1]; omega
  obtain ⟨o1, o2, o3⟩ := ow.set hl s
  obtain ⟨cur, ty⟩ := ownM_type ow (g := g) rfl
  have gw : w.heap.size ≤ g := h4 g rfl
  have KX : Kept (fun i => i ≠ g) W (W.setCell ⟨g, k * 2 + 1, none⟩ (sval s)) := (Kept.refl _ W).setCell (fun hne => hne rfl) _
  have bn : ∀ (u : Value) (l : List UInt8), OwnB W u l → OwnB (W.setCell ⟨g, k * 2 + 1, none⟩ (sval s)) u l := by
    intro u l hu
    refine hu.kept KX (fun g' hg' => ?_)
    obtain ⟨cur2, e⟩ := ownB_type hu hg'
    rintro rfl
    rw [ty] at e
    simp at e
  refine ⟨⟨(h1.trans X).setCell gw _, h2, KX.row ?_ (X.row h3), h4, nm ++ [((ml[k]).1, s, (ml[k]).2.2)], by simp [q1], ?_, ?_, ?_, ?_⟩, o2, o3⟩
  · rintro rfl
    rw [X.row h3] at ty
    simp at ty
  · have et : ml.take (k + 1) = ml.take k ++ [ml[k]] := by rw [List.take_add_one, List.getElem?_eq_getElem hk]; rfl
    rw [et, List.map_append, List.map_append, q2]
    rfl
  · have e : (nm.map mval ++ (ml.drop k).map mval).set k (((nm.map mval ++ (ml.drop k).map mval).getD k (0, (none, 0, 0))).1, s) = (nm ++ [((ml[k]).1, s, (ml[k]).2.2)]).map mval ++ (ml.drop (k + 1)).map mval := by
      rw [hd]
      have e2 : (nm.map mval ++ (ml[k] :: ml.drop (k + 1)).map mval).getD k (0, (none, 0, 0)) = mval ml[k] := by
        rw [List.getD_eq_getElem?_getD, List.getElem?_append_right (by simp [q1])]
        have e4 : k - (nm.map mval).length = 0 := by simp [q1]
        rw [e4]
        rfl
      rw [e2, List.set_append_right _ _ (by simp [q1])]
      have e3 : k - (nm.map mval).length = 0 := by simp [q1]
      rw [e3, List.map_cons, List.set_cons_zero, List.map_append, List.append_assoc]
      rfl
    rw [← e]
    exact o1
  · intro p hp
    rcases List.mem_append.1 hp with hp | hp
    · exact ⟨bn _ _ ((q4 p hp).1.ext X), (q4 p hp).2⟩
    · simp only [List.mem_singleton] at hp
      subst hp
      exact ⟨bn _ _ hs, fun q hq => Nat.le_trans h1.size (hn q hq)⟩
  · rw [List.pairwise_append]
    refine ⟨q5, List.pairwise_singleton _ _, fun p hp q hq g' h1' h2' => ?_⟩
    simp only [List.mem_singleton] at hq
    subst hq
    have a1 := (q4 p hp).1.lt h1'
    have a2 := hn g' h2'
    omega

set_option maxHeartbeats 2000000 in
theorem copy_any (K : Nat → Prop) (b : Nat) (room : Int) (l : Ms) (w : World) (hw : PipK K w b room l) :
    Calls Try.prog 20 #[.pointer (some ⟨b, 0, none⟩)] w fun e w' => ∃ c, e = .returned (.pointer (some ⟨c, 0, none⟩)) ∧ w.heap.size ≤ c ∧ PipK (fun i => i < w.heap.size) w' c room l ∧ Ext w w' := by
  obtain ⟨hr, v, ml, hU, el⟩ := hw
  have e0 : ml.length = l.length := by rw [← el, List.length_map]
  obtain ⟨c0, c1⟩ := hU.1.cells
  have CL : Hid (∀ V, Ext w V → Calls Try.prog 39 #[v] V fun e w' => ∃ v', e = .returned v' ∧ OwnM w' v' (ml.map mval) ∧ Ext V w' ∧ ∀ k, v'.ownBlock = some k → V.heap.size ≤ k) := fun V hV => clone_any V v (ml.map mval) (hU.1.2.1.ext hV) (by rw [List.length_map]; omega)
  obtain ⟨ao, cp, ev, k1, k2, vw⟩ := hU.1.2.1.view
  rw [List.length_map] at ev k1
  have VW := hid vw
  have HU := hid hU.1
  have HR : Hid (∀ w' c v' nm, PipU (fun i => i < w.heap.size) w' c room v' nm → nm.map told = ml.map told → PipK (fun i => i < w.heap.size) w' c room l) := fun w' c v' nm h1 h2 => ⟨hr, v', nm, h1, by rw [h2, el]⟩
  have ML : Hid (∀ p ∈ ml, p.2.2.length ≤ 320) := fun p hp => (hU.1.2.2 p hp).1
  have ll : ml.length ≤ 256 := by omega
  subst ev
  unfold maxLen at k2
  clear hU vw el e0
  go_enter Try.func20, Try.ntmps20
  go_wp2_with fail
  refine wp_region_held_drew (S := fun V => Ext w V) (by kernel_rfl) (Below.drew (Ext.refl w)) (fun hHeld => ?_)
  refine takeE (v := ?_) 0 6 rfl rfl (by kernel_rfl) (by kernel_rfl) (by kernel_rfl) (fun _ _ _ h => h) (Or.inl ⟨by rfl, fun V hV => ?_⟩) hHeld ?_
  rotate_left
  · (go_simp; try with_reducible rfl)
  simp only [Act.put, List.setIfInBounds_toArray, List.set_cons_zero, List.set_cons_succ]
  refine takeE (v := ?_) 1 7 rfl rfl (by kernel_rfl) (by kernel_rfl) (by kernel_rfl) (fun _ _ _ h => h) (Or.inl ⟨by rfl, fun V hV => ?_⟩) hHeld ?_
  rotate_left
  · (go_simp; try with_reducible rfl)
  simp only [Act.put, List.setIfInBounds_toArray, List.set_cons_zero, List.set_cons_succ]
  refine takeE (v := ?_) 2 8 rfl rfl (by kernel_rfl) (by kernel_rfl) (by kernel_rfl) (fun _ _ _ h => h) (Or.inl ⟨by rfl, fun V hV => ?_⟩) hHeld ?_
  rotate_left
  · (go_simp; try with_reducible rfl)
  simp only [Act.put, List.setIfInBounds_toArray, List.set_cons_zero, List.set_cons_succ]
  refine takeE (v := ?_) 3 9 rfl rfl (by kernel_rfl) (by kernel_rfl) (by kernel_rfl) (fun _ _ _ h => h) (Or.inl ⟨by rfl, fun V hV => ?_⟩) hHeld ?_
  rotate_left
  · (have y1 := hV.cell c0; have y2 := hV.cell c1; go_simp; try with_reducible rfl)
  simp only [Act.put, List.setIfInBounds_toArray, List.set_cons_zero, List.set_cons_succ]
  refine takeE (v := ?_) 4 10 rfl rfl (by kernel_rfl) (by kernel_rfl) (by kernel_rfl) (fun _ _ _ h => h) (Or.inl ⟨by rfl, fun V hV => ?_⟩) hHeld ?_
  rotate_left
  · (go_simp; try with_reducible rfl)
  simp only [Act.put, List.setIfInBounds_toArray, List.set_cons_zero, List.set_cons_succ]
  refine takeE (v := ?_) 5 11 rfl rfl (by kernel_rfl) (by kernel_rfl) (by kernel_rfl) (fun _ _ _ h => h) (Or.inl ⟨by rfl, fun V hV => ?_⟩) hHeld ?_
  rotate_left
  · (go_simp; try with_reducible rfl)
  simp only [Act.put, List.setIfInBounds_toArray, List.set_cons_zero, List.set_cons_succ]
  refine takeE (v := ?_) 6 12 rfl rfl (by kernel_rfl) (by kernel_rfl) (by kernel_rfl) (fun _ _ _ h => h) (Or.inl ⟨by rfl, fun V hV => ?_⟩) hHeld ?_
  rotate_left
  · (go_simp; try with_reducible rfl)
  simp only [Act.put, List.setIfInBounds_toArray, List.set_cons_zero, List.set_cons_succ]
  refine takeE (v := ?_) 7 13 rfl rfl (by kernel_rfl) (by kernel_rfl) (by kernel_rfl) (fun _ _ _ h => h) (Or.inl ⟨by rfl, fun V hV => ?_⟩) hHeld ?_
  rotate_left
  · (have y1 := hV.cell c0; have y2 := hV.cell c1; go_simp; try with_reducible rfl)
  simp only [Act.put, List.setIfInBounds_toArray, List.set_cons_zero, List.set_cons_succ]
  refine callE 8 14 rfl rfl (by kernel_rfl) (by rfl) (by go_simp; first | exact ⟨rfl, rfl⟩ | rfl) ?_
  refine (CL.out _ (Below.drew (Ext.refl w))).mono ?_
  rintro e W2 ⟨v', rfl, o2, x2, n2⟩
  have x3 : Ext w W2 := (Below.drew (Ext.refl w) : Ext w w.drew).trans x2
  have N2 : Hid (∀ k, v'.ownBlock = some k → w.heap.size ≤ k) := fun k hk => n2 k hk
  obtain ⟨sa, sc, es, s1, s2, _⟩ := o2.view
  rw [List.length_map] at es s1
  subst es
  have O2 := hid o2
  have X2 := hid x3
  refine ⟨_, rfl, x3, ?_⟩
  clear CL n2 x2 o2
  simp only [Act.put, List.setIfInBounds_toArray, List.set_cons_zero, List.set_cons_succ]
  refine takeE (v := ?_) 9 15 rfl rfl (by kernel_rfl) (by kernel_rfl) (by kernel_rfl) (fun _ _ _ h => h) (Or.inl ⟨by rfl, fun V hV => ?_⟩) x3 ?_
  rotate_left
  · (go_simp; try with_reducible rfl)
  simp only [Act.put, List.setIfInBounds_toArray, List.set_cons_zero, List.set_cons_succ]
  refine knownE 10 16 rfl rfl (by kernel_rfl) (by rfl) (w' := W2.alloc (.cells #[.int .i64 room, .slice sa ml.length sc] 96)) (v := .pointer (some ⟨W2.heap.size, 0, none⟩)) (by go_simp; try with_reducible rfl) (x3.alloc _) ?_
  simp only [Act.put, List.setIfInBounds_toArray, List.set_cons_zero, List.set_cons_succ]
  refine takeE (v := ?_) 11 3 rfl rfl (by kernel_rfl) (by kernel_rfl) (by kernel_rfl) (fun _ _ _ h => h) (Or.inl ⟨by rfl, fun V hV => ?_⟩) (x3.alloc _) ?_
  rotate_left
  · (go_simp; try with_reducible rfl)
  simp only [Act.put, List.setIfInBounds_toArray, List.set_cons_zero, List.set_cons_succ]
  refine wpAnyH_done (by kernel_rfl) ?_ _
  clear hHeld
  have X3 : Hid (Ext w (W2.alloc (.cells #[.int .i64 room, .slice sa ml.length sc] 96))) := x3.alloc _
  have H0 : Hid (Half w W2.heap.size room (.slice sa ml.length sc) ml 0 (W2.alloc (.cells #[.int .i64 room, .slice sa ml.length sc] 96))) := ⟨X3.out, x3.size, heap_alloc_new W2 _, N2.out, [], rfl, rfl, by simpa using O2.out.ext ((Ext.refl W2).alloc _), fun p hp => by simp at hp, List.Pairwise.nil⟩
  have cc0 := X3.out.cell c0
  have cc1 := X3.out.cell c1
  obtain ⟨cb, ecb⟩ : ∃ cb, cb = W2.heap.size := ⟨_, rfl⟩
  rw [← ecb] at H0
  rw [← ecb]
  generalize W2.alloc (.cells #[.int .i64 room, .slice sa ml.length sc] 96) = W3 at *
  clear x3 c0 c1 O2 X2 N2 ecb
  unfold maxLen at s2
  go_wp2_with fail
  clear cc0 cc1 X3
  go_loopw [4, 5, 22] (fun _ _ i wr => ∃ k : Nat, k ≤ ml.length ∧ i = .int .i64 (k : Int) ∧ Half w cb room (.slice sa ml.length sc) ml k wr) (fun _ _ i _ => (ml.length - intOf i).toNat)
  case atStart => exact ⟨0, by omega, rfl, H0.out⟩
  case round =>
    obtain ⟨k, hk, rfl, hh⟩ := hrel
    have HH := hid hh
    clear hh H0
    by_cases h : k < ml.length
    · obtain ⟨g1, eg, x1, x2⟩ := VW.out k (by simpa using h)
      subst eg
      obtain ⟨g2, eg2⟩ : ∃ g2, sa = some ⟨g2, 0, none⟩ := by
        obtain ⟨_, _, _, _, nm, q1, q2, q3, _⟩ := HH.out
        obtain ⟨ao2, c2, e2, _, _, vw2⟩ := q3.view
        obtain ⟨g2, e3, _⟩ := vw2 0 (by simp; omega)
        simp only [Value.slice.injEq] at e2
        exact ⟨g2, e2.1.trans e3⟩
      subst eg2
      obtain ⟨p, ep⟩ : ∃ p : Msg, p = ml[k]'h := ⟨_, rfl⟩
      have gk : (ml.map mval).getD k (0, (none, 0, 0)) = mval p := by rw [ep, List.getD_eq_getElem?_getD, List.getElem?_map, List.getElem?_eq_getElem h]; rfl
      rw [gk] at x1 x2
      have OB : Hid (OwnB w (sval p.2.1) p.2.2 ∧ p.2.2.length ≤ 320) := by
        have := HU.out.2.2 p (by rw [ep]; exact List.getElem_mem h)
        exact ⟨this.2, this.1⟩
      obtain ⟨W, eW⟩ : ∃ W, W = wr.alloc (.cells #[.int .i64 p.1, sval p.2.1] 99) := ⟨_, rfl⟩
      have XW : Ext wr W := by rw [eW]; exact (Ext.refl wr).alloc _
      have XA := hid (HH.out.1.trans XW)
      have STEP : Hid (∀ (V : World) (s : Sl), Ext W V → OwnB V (sval s) p.2.2 → (∀ q, (sval s).ownBlock = some q → W.heap.size ≤ q) → Half w cb room (.slice (some ⟨g2, 0, none⟩) ml.length sc) ml (k + 1) (V.setCell ⟨g2, k * 2 + 1, none⟩ (sval s)) ∧ V.frozen? ⟨g2, k * 2 + 1, none⟩ = false ∧ ∃ u, V.cell? ⟨g2, k * 2 + 1, none⟩ = some u) := fun V s hV ho hn => HH.out.step h (XW.trans hV) s (by rw [← ep]; exact ho) (fun q hq => Nat.le_trans XW.size (hn q hq))
      have CB : Hid (∀ V, Ext W V → Calls Try.prog 40 #[sval p.2.1] V fun e w' => ∃ s : Sl, e = .returned (sval s) ∧ s.2.1 = p.2.2.length ∧ OwnB w' (sval s) p.2.2 ∧ Ext V w' ∧ ∀ k, (sval s).ownBlock = some k → V.heap.size ≤ k) := fun V hV => by
        have h1 := OB.out.1.ext (XA.out.trans hV)
        exact cloneB_any V _ _ h1.bytes h1.plain (by have := OB.out.2; omega)
      have G1 : Hid (g2 ≠ cb) := by
        obtain ⟨_, _, h3, _, nm, _, _, q3, _⟩ := HH.out
        obtain ⟨cur, ty⟩ := ownM_type q3 (g := g2) rfl
        rintro rfl
        rw [h3] at ty
        simp at ty
      have G2 : Hid (g2 ≠ wr.heap.size) := by
        obtain ⟨_, _, h3, _, nm, _, _, q3, _⟩ := HH.out
        have := (World.ownsRow.lt q3 g2 rfl).2
        show g2 ≠ wr.heap.size
        omega
      have d1 : W.cell? ⟨cb, 1, none⟩ = some (.slice (some ⟨g2, 0, none⟩) ml.length sc) := by rw [cell_of_row W _ 1 _ _ _ (XW.row HH.out.2.2.1)]; rfl
      have d2 : W.cell? ⟨wr.heap.size, 1, none⟩ = some (sval p.2.1) := by rw [eW, cell_of_row _ _ 1 _ _ _ (heap_alloc_new wr _)]; rfl
      have y1 := HH.out.1.cell x1
      have y2 := HH.out.1.cell x2
      have EW := hid eW
      clear HH OB x1 x2 XW XA eW gk ep VW HU ML HR
      obtain ⟨pd, ⟨ss, sn, sp⟩, pb⟩ := p
      simp only [mval, sval] at y1 y2 d2 CB EW
      have t1 : (k : Int) < (ml.length : Int) := by omega
      have t0 : (0 : Int) ≤ (k : Int) := by omega
      go_wp2_with fail
      rw [← EW.out]
      clear y1 y2
      refine wp_region_held_drew (S := fun V => V.cell? ⟨cb, 1, none⟩ = some (.slice (some ⟨g2, 0, none⟩) ml.length sc) ∧ V.cell? ⟨wr.heap.size, 1, none⟩ = some (.slice ss sn sp)) (by kernel_rfl) ⟨d1, d2⟩ (fun hHeld => ?_)
      refine takeE (v := ?_) 0 27 rfl rfl (by kernel_rfl) (by kernel_rfl) (by kernel_rfl) (fun _ _ _ h => h) (Or.inl ⟨by rfl, fun V hV => ?_⟩) hHeld ?_
      rotate_left
      · (go_simp; try with_reducible rfl)
      simp only [Act.put, List.setIfInBounds_toArray, List.set_cons_zero, List.set_cons_succ]
      refine takeE (v := ?_) 1 28 rfl rfl (by kernel_rfl) (by kernel_rfl) (by kernel_rfl) (fun _ _ _ h => h) (Or.inl ⟨by rfl, fun V hV => ?_⟩) hHeld ?_
      rotate_left
      · (go_simp; try with_reducible rfl)
      simp only [Act.put, List.setIfInBounds_toArray, List.set_cons_zero, List.set_cons_succ]
      refine takeE (v := ?_) 2 29 rfl rfl (by kernel_rfl) (by kernel_rfl) (by kernel_rfl) (fun _ _ _ h => h) (Or.inl ⟨by rfl, fun V hV => ?_⟩) hHeld ?_
      rotate_left
      · (go_simp; try with_reducible rfl)
      simp only [Act.put, List.setIfInBounds_toArray, List.set_cons_zero, List.set_cons_succ]
      refine takeE (v := ?_) 3 30 rfl rfl (by kernel_rfl) (by kernel_rfl) (by kernel_rfl) (fun _ _ _ h => h) (Or.inl ⟨by rfl, fun V hV => ?_⟩) hHeld ?_
      rotate_left
      · (obtain ⟨y1, y2⟩ := hV; go_simp; try with_reducible rfl)
      simp only [Act.put, List.setIfInBounds_toArray, List.set_cons_zero, List.set_cons_succ]
      refine takeE (v := ?_) 4 31 rfl rfl (by kernel_rfl) (by kernel_rfl) (by kernel_rfl) (fun _ _ _ h => h) (Or.inl ⟨by rfl, fun V hV => ?_⟩) hHeld ?_
      rotate_left
      · (go_simp; try with_reducible rfl)
      simp only [Act.put, List.setIfInBounds_toArray, List.set_cons_zero, List.set_cons_succ]
      refine takeE (v := ?_) 5 32 rfl rfl (by kernel_rfl) (by kernel_rfl) (by kernel_rfl) (fun _ _ _ h => h) (Or.inl ⟨by rfl, fun V hV => ?_⟩) hHeld ?_
      rotate_left
      · (go_simp; try with_reducible rfl)
      simp only [Act.put, List.setIfInBounds_toArray, List.set_cons_zero, List.set_cons_succ]
      refine takeE (v := ?_) 6 33 rfl rfl (by kernel_rfl) (by kernel_rfl) (by kernel_rfl) (fun _ _ _ h => h) (Or.inl ⟨by rfl, fun V hV => ?_⟩) hHeld ?_
      rotate_left
      · (obtain ⟨y1, y2⟩ := hV; go_simp; try with_reducible rfl)
      simp only [Act.put, List.setIfInBounds_toArray, List.set_cons_zero, List.set_cons_succ]
      refine callE 7 34 rfl rfl (by kernel_rfl) (by rfl) (by go_simp; first | exact ⟨rfl, rfl⟩ | rfl) ?_
      refine (CB.out W.drew (show Ext W W.drew from (Ext.refl W).drewN 1)).mono ?_
      rintro e V ⟨⟨t1, t2, t3⟩, rfl, _, o4, x4, n4⟩
      have x5 : Ext W V := (show Ext W W.drew from (Ext.refl W).drewN 1).trans x4
      have e1 := x5.cell d1
      have e2 := x5.cell d2
      obtain ⟨F1, F2, F3, F4⟩ := STEP.out V (t1, t2, t3) x5 o4 (fun q hq => n4 q hq)
      have FF := hid F1
      have f5 : (V.setCell ⟨g2, k * 2 + 1, none⟩ (.slice t1 t2 t3)).cell? ⟨cb, 1, none⟩ = some (.slice (some ⟨g2, 0, none⟩) ml.length sc) ∧ (V.setCell ⟨g2, k * 2 + 1, none⟩ (.slice t1 t2 t3)).cell? ⟨wr.heap.size, 1, none⟩ = some (.slice ss sn sp) := ⟨by rw [World.cell?_setCell_far _ _ _ _ G1.out]; exact e1, by rw [World.cell?_setCell_far _ _ _ _ G2.out]; exact e2⟩
      refine ⟨_, rfl, ⟨e1, e2⟩, ?_⟩
      clear CB STEP x4 x5 n4 o4 F1
      simp only [sval] at F2 F3 F4 FF ⊢
      simp only [Act.put, List.setIfInBounds_toArray, List.set_cons_zero, List.set_cons_succ]
      refine takeE (v := ?_) 8 35 rfl rfl (by kernel_rfl) (by kernel_rfl) (by kernel_rfl) (fun _ _ _ h => h) (Or.inl ⟨by rfl, fun V hV => ?_⟩) ⟨e1, e2⟩ ?_
      rotate_left
      · (go_simp; try with_reducible rfl)
      simp only [Act.put, List.setIfInBounds_toArray, List.set_cons_zero, List.set_cons_succ]
      refine takeE (v := ?_) 9 36 rfl rfl (by kernel_rfl) (by kernel_rfl) (by kernel_rfl) (fun _ _ _ h => h) (Or.inl ⟨by rfl, fun V hV => ?_⟩) ⟨e1, e2⟩ ?_
      rotate_left
      · (go_simp; try with_reducible rfl)
      simp only [Act.put, List.setIfInBounds_toArray, List.set_cons_zero, List.set_cons_succ]
      refine storeE 10 rfl (by kernel_rfl) (by rfl) (w' := V.setCell ⟨g2, k * 2 + 1, none⟩ (.slice t1 t2 t3)) (by go_simp; try with_reducible rfl) f5 ?_
      simp only [Act.put]
      refine wpAnyH_done (by kernel_rfl) ?_ _
      clear hHeld f5 e1 e2 d1 d2 F2 F3 F4
      generalize V.setCell ⟨g2, k * 2 + 1, none⟩ (.slice t1 t2 t3) = V2 at *
      go_wp2_with fail
      go_roundw
      case rel => exact ⟨k + 1, by omega, by go_num, FF.out⟩
      case measure => simp [intOf]; omega
    · obtain rfl : k = ml.length := by omega
      have F := HH.out.done ML.out
      have FIN : Hid (PipK (fun i => i < w.heap.size) wr cb room l ∧ Ext w wr ∧ w.heap.size ≤ cb) := ⟨HR.out _ _ _ _ F.1 F.2, HH.out.1, HH.out.2.1⟩
      clear F HH HR ML VW HU
      generalize ml.length = n at *
      go_wp2_with fail
      go_ret
      exact ⟨cb, rfl, FIN.out.2.2, FIN.out.1, FIN.out.2.1⟩
end Go.Proofs.Ytjmgigfaiaemeaa.Pip

/-
  Walks of the fixed answer that each law ends with, and of played: a group, and what was asked of it.
-/
import Derived.Test.YtmnngajklnljjaaGrpRef
namespace Go.Proofs.Ytmnngajklnljjaa.Grp
set_option linter.unusedVariables false
set_option maxRecDepth 100000
open Go.RowKit Go.Lib

theorem ext_but {w W w2 : World} {g : Nat} (h : Ext w W) (k : Kept (fun i => i ≠ g) W w2) (hg : w.heap.size ≤ g) : Ext w w2 := Below.trans h (k.below h.size (fun i hi => by omega))

set_option maxHeartbeats 2000000 in
theorem awake_any (w : World) : Calls Try.prog 8 #[] w fun e w' => e = .returned (.bool true) ∧ Ext w w' := by
  have NW := hid (new_any 2 3 5 w (by decide) (by decide) (by decide) (by decide) (by decide) (by decide))
  go_enter Try.func8, Try.ntmps8
  go_wp2_with fail
  refine NW.out.mono ?_
  rintro e w1 ⟨b, g, cap, rfl, G1, hb, hg, x1⟩
  have A1 := ask_any b g cap 2 3 5 [] (0, 1, 10) w1 G1
  rw [show wrg 3 5 ((2 : Nat) : Int) [] (0, 1, 10) = 0 by decide, show aft 3 5 ((2 : Nat) : Int) [] (0, 1, 10) = [(0, 1, 10)] by decide] at A1
  have AA1 := hid A1
  have HG := hid hg
  have X1 := hid x1
  clear NW G1 hb hg x1 A1
  go_wp2_with fail
  refine AA1.out.mono ?_
  rintro e w2 ⟨rfl, G2, k2⟩
  have X2 := hid (ext_but X1.out k2 HG.out)
  have A2 := ask_any b g cap 2 3 5 [(0, 1, 10)] (2, 1, 10) w2 G2
  rw [show wrg 3 5 ((2 : Nat) : Int) [(0, 1, 10)] (2, 1, 10) = 11 by decide, show aft 3 5 ((2 : Nat) : Int) [(0, 1, 10)] (2, 1, 10) = [(0, 1, 10)] by decide] at A2
  have AA2 := hid A2
  clear AA1 G2 k2 A2 X1
  go_wp2_with fail
  refine AA2.out.mono ?_
  rintro e w3 ⟨rfl, G3, k3⟩
  have X3 := hid (ext_but X2.out k3 HG.out)
  have A3 := ask_any b g cap 2 3 5 [(0, 1, 10)] (0, 1, 9) w3 G3
  rw [show wrg 3 5 ((2 : Nat) : Int) [(0, 1, 10)] (0, 1, 9) = 23 by decide, show aft 3 5 ((2 : Nat) : Int) [(0, 1, 10)] (0, 1, 9) = [(0, 1, 10)] by decide] at A3
  have AA3 := hid A3
  clear AA2 G3 k3 A3 X2
  go_wp2_with fail
  refine AA3.out.mono ?_
  rintro e w4 ⟨rfl, G4, k4⟩
  have X4 := hid (ext_but X3.out k4 HG.out)
  have GG := hid G4
  have L1 := level_any b g cap 2 3 5 [(0, 1, 10)] 0 12 w4 G4 (by decide)
  rw [show lat 3 5 (st 3 5 [(0, 1, 10)] ((0 : Nat) : Int)) 12 = -1 by decide] at L1
  have LL1 := hid L1
  clear AA3 G4 k4 X3 L1
  go_wp2_with fail
  refine LL1.out.mono ?_
  rintro e w5 ⟨rfl, x5⟩
  have X5 := hid (X4.out.trans x5)
  have L2 := level_any b g cap 2 3 5 [(0, 1, 10)] 0 13 w5 (GG.out.ext x5) (by decide)
  rw [show lat 3 5 (st 3 5 [(0, 1, 10)] ((0 : Nat) : Int)) 13 = 1 by decide] at L2
  have LL2 := hid L2
  have G5 := hid (GG.out.ext x5)
  clear LL1 GG X4 L2 x5
  go_wp2_with fail
  refine LL2.out.mono ?_
  rintro e w6 ⟨rfl, x6⟩
  have X6 := hid (X5.out.trans x6)
  have G6 := hid (G5.out.ext x6)
  have M := hid (members_any b g cap 2 3 5 [(0, 1, 10)] 0 13 w6 G6.out)
  clear LL2 G5 X5 x6
  go_wp2_with fail
  refine M.out.mono ?_
  rintro e w7 ⟨v', rfl, N⟩
  rw [show mems 3 5 [(0, 1, 10)] 0 13 2 = [0] by decide] at N
  obtain ⟨ao, c, rfl, hc1, hc2⟩ := N.slice
  have X7 := hid (X6.out.trans N.2.2)
  have G7 := hid (G6.out.ext N.2.2)
  have CT := hid (count_any b g cap 2 3 5 [(0, 1, 10)] w7 G7.out)
  have AK := asked_any b g cap 2 3 5 [(0, 1, 10)] 1 w7 G7.out (by decide)
  rw [show (st 3 5 [(0, 1, 10)] ((1 : Nat) : Int)).2.2 = -1 by decide] at AK
  have AK1 := hid AK
  simp only [List.length_cons, List.length_nil]
  clear M N hc1 hc2 X6 G6 AK
  go_wp2_with fail
  refine CT.out.mono ?_
  rintro e w8 ⟨rfl, rfl⟩
  go_wp2_with fail
  refine AK1.out.mono ?_
  rintro e w9 ⟨rfl, rfl⟩
  go_wp2_with fail
  go_ret
  exact ⟨rfl, X7.out⟩

/-- v is what came in as asked, as it lies in w -/
def AskIn (w : World) (v : Value) (l : List Tri) : Prop := RowK (fun _ => True) w v 3 (fcells tri l)

set_option maxHeartbeats 4000000 in
theorem played_any (n : Nat) (j lv : Int) (v : Value) (q : List Tri) (w : World) (hv : AskIn w v q) (h : okCase n j lv q.length) :
    Calls Try.prog 9 #[.agg #[.int .i64 (n : Int), .int .i64 j, .int .i64 lv, v]] w fun e w' => ∃ b g cap xv l, e = .returned (.tuple #[.pointer (some ⟨b, 0, none⟩), xv]) ∧ Grp w' b g cap n j lv l ∧ NewR tri 47 3 w w' xv l ∧ l.length ≤ 60 ∧ w.heap.size ≤ b ∧ w.heap.size ≤ g := by
  obtain ⟨ao, c, rfl, k1, k2, vw⟩ := rows_view hv
  have VW := hid vw
  obtain ⟨o1, o2, o3, o4, o5, o6, o7⟩ := h
  obtain ⟨N, eN⟩ : ∃ N, N = q.length := ⟨_, rfl⟩
  rw [← eN] at k1 o7
  rw [← eN]
  have EN := hid eN
  obtain ⟨W, eW⟩ : ∃ W, W = w.alloc (.cells #[.int .i64 (n : Int), .int .i64 j, .int .i64 lv, .slice ao N c] 24) := ⟨_, rfl⟩
  have X : Ext w W := by rw [eW]; exact (Ext.refl w).alloc _
  have B0 : Hid (W.heap[w.heap.size]? = some (.cells #[.int .i64 (n : Int), .int .i64 j, .int .i64 lv, .slice ao N c] 24 (0, 0))) := by rw [eW]; exact heap_alloc_new w _
  have NW := hid (new_any n j lv W (by omega) (by omega) o3 o4 o5 o6)
  have XX := hid X
  have EW := hid eW
  have SZ : Hid (w.heap.size < W.heap.size) := lt_of_row B0.out
  obtain ⟨z, ez⟩ : ∃ z, z = w.heap.size := ⟨_, rfl⟩
  rw [← ez] at B0 SZ
  have EZ := hid ez
  unfold maxLen at k2
  clear vw hv X eW eN ez
  go_enter Try.func9, Try.ntmps9
  go_wp2_with fail
  rw [← EW.out, ← EZ.out]
  refine NW.out.mono ?_
  rintro e w1 ⟨b, g, cap, rfl, G1, hb, hg, x1⟩
  have B1 := hid (x1.row B0.out)
  have z3 : w1.cell? ⟨z, 3, none⟩ = some (.slice ao N c) := by rw [cell_of_row w1 _ 3 _ _ _ B1.out]; rfl
  have HB : Hid (z ≤ b ∧ z ≤ g ∧ z ≠ g ∧ z ≠ b) := by have := SZ.out; exact ⟨by omega, by omega, by omega, by omega⟩
  have GG := hid G1
  have X1 := hid (XX.out.trans x1)
  clear NW G1 hb hg x1 B0 XX EW SZ
  go_wp2_with fail
  clear z3
  go_loopw [6, 8, 9, 29] (fun x0 _ _ i wr => ∃ (k : Nat) (l : List Tri) (x : Value), k ≤ N ∧ i = .int .i64 (k : Int) ∧ x = x0 ∧ Hid (l.length ≤ k) ∧ Hid (Grp wr b g cap n j lv l) ∧ Hid (NewR tri 47 3 w wr x l) ∧ Hid (wr.heap[z]? = some (.cells #[.int .i64 (n : Int), .int .i64 j, .int .i64 lv, .slice ao N c] 24 (0, 0)))) (fun _ _ _ i _ => (N - intOf i).toNat)
  case atStart => exact ⟨0, [], _, by omega, rfl, rfl, Nat.le_refl 0, GG, (NewR.nil tri 47 3 w).ext X1.out, B1⟩
  case round =>
    obtain ⟨k, l, x, hk, rfl, rfl, L, G, R, Y⟩ := hrel
    clear GG X1 B1
    by_cases h : k < N
    · have hk2 : k < q.length := by rw [← EN.out]; exact h
      obtain ⟨a, ex⟩ : ∃ a, q[k]? = some a := ⟨_, List.getElem?_eq_getElem hk2⟩
      obtain ⟨gq, oq, rfl, _, x0, x1, x2⟩ := VW.out k a ex
      have y0 := R.out.2.2.cell x0
      have y1 := R.out.2.2.cell x1
      have y2 := R.out.2.2.cell x2
      have i1 : (k : Int) < (N : Int) := by omega
      have i2 : (0 : Int) ≤ (k : Int) := by omega
      have ll : l.length ≤ 60 := Nat.le_trans L.out (by omega)
      obtain ⟨V, eV⟩ : ∃ V, V = wr.alloc (.cells #[.int .i64 a.1, .int .i64 a.2.1, .int .i64 a.2.2] 47) := ⟨_, rfl⟩
      have XV : Ext wr V := by rw [eV]; exact (Ext.refl wr).alloc _
      have A0 : V.heap[wr.heap.size]? = some (.cells #[.int .i64 a.1, .int .i64 a.2.1, .int .i64 a.2.2] 47 (0, 0)) := by rw [eV]; exact heap_alloc_new wr _
      have RR := hid (R.out.ext XV)
      have WN := hid (wrong_any j lv _ n x l a V (RR.out.row encT) (by omega))
      have gne : wr.heap.size ≠ g := fun e => by have := G.out.lt.2; omega
      have CA : Hid (∀ U, Kept (fun i => i ≠ g) V U → U.cell? ⟨wr.heap.size, 0, none⟩ = some (.int .i64 a.1) ∧ U.cell? ⟨wr.heap.size, 1, none⟩ = some (.int .i64 a.2.1) ∧ U.cell? ⟨wr.heap.size, 2, none⟩ = some (.int .i64 a.2.2)) := fun U hU =>
        ⟨by rw [cell_of_row U _ 0 _ _ _ (hU.row gne A0)]; rfl, by rw [cell_of_row U _ 1 _ _ _ (hU.row gne A0)]; rfl, by rw [cell_of_row U _ 2 _ _ _ (hU.row gne A0)]; rfl⟩
      have AN : Hid (∀ U, Ext V U → Calls Try.prog 19 #[.pointer (some ⟨b, 0, none⟩), .int .i64 a.1, .int .i64 a.2.1, .int .i64 a.2.2] U fun e w' => e = .returned (.int .i64 (wrg j lv n l a)) ∧ Grp w' b g cap n j lv (aft j lv n l a) ∧ NewR tri 47 3 w w' x l ∧ w'.heap[z]? = some (.cells #[.int .i64 (n : Int), .int .i64 j, .int .i64 lv, .slice (some ⟨gq, oq, none⟩) N c] 24 (0, 0)) ∧ Kept (fun i => i ≠ g) V w') := fun U hU => by
        have GU := G.out.ext (XV.trans hU)
        refine (ask_any b g cap n j lv l a U GU).mono ?_
        rintro e w' ⟨rfl, h2, h3⟩
        have RU := RR.out.ext hU
        obtain ⟨cur, ty⟩ := GU.2.2.type (k := g) rfl
        have ng : x.ownBlock ≠ some g := RU.1.apart ty (by decide)
        exact ⟨rfl, h2, ⟨RU.1.kept h3 (fun p e e2 => ng (e2 ▸ e)), RU.2.1, ext_but RU.2.2 h3 (by rw [← EZ.out]; exact HB.out.2.1)⟩, h3.row HB.out.2.2.1 (hU.row (XV.row Y.out)), (Kept.of_ext hU).trans h3⟩
      have FIN : Hid (∀ U (l' : List Tri), l'.length ≤ 1000 → Grp U b g cap n j lv l' → NewR tri 47 3 w U x l → U.heap[z]? = some (.cells #[.int .i64 (n : Int), .int .i64 j, .int .i64 lv, .slice (some ⟨gq, oq, none⟩) N c] 24 (0, 0)) →
          ∃ v' w', (Builtin.append_ #[22, 22] 22 #[x, .slice (some ⟨U.heap.size, 0, none⟩) 1 1]).run Try.prog (U.alloc (.cells #[.int .i64 a.1, .int .i64 a.2.1, .int .i64 a.2.2] 47)) = .ok v' w' ∧ Grp w' b g cap n j lv l' ∧ NewR tri 47 3 w w' v' (l ++ [a]) ∧ w'.heap[z]? = some (.cells #[.int .i64 (n : Int), .int .i64 j, .int .i64 lv, .slice (some ⟨gq, oq, none⟩) N c] 24 (0, 0))) := fun U l' _ hG hR hZ => by
        obtain ⟨v', w', r, N', gb⟩ := hR.step elemsA encT 22 a (by omega)
        have A := (Ext.refl U).alloc (.cells (tri a).toArray 47)
        obtain ⟨cur, ty⟩ := hG.2.2.type (k := g) rfl
        have n1 : x.ownBlock ≠ some g := hR.1.apart ty (by decide)
        have n2 : x.ownBlock ≠ some b := hR.1.apart hG.2.1 (by decide)
        have n3 : x.ownBlock ≠ some z := hR.1.apart hZ (by decide)
        have KK : Kept (fun i => i = b ∨ i = g ∨ i = z) U w' := (Kept.of_ext A).grown gb (fun p e h => by
          rcases h with rfl | rfl | rfl
          · exact n2 e
          · exact n1 e
          · exact n3 e)
        exact ⟨v', w', r, hG.kept KK (.inl rfl) (.inr (.inl rfl)), N', KK.row (.inr (.inr rfl)) hZ⟩
      have z0 : V.cell? ⟨z, 0, none⟩ = some (.int .i64 (n : Int)) := by rw [cell_of_row V _ 0 _ _ _ (XV.row Y.out)]; rfl
      have AFT : Hid ((wrg j lv n l a = 0 → aft j lv n l a = l ++ [a]) ∧ (wrg j lv n l a ≠ 0 → aft j lv n l a = l) ∧ (aft j lv n l a).length ≤ k + 1) := ⟨fun e => by unfold aft; rw [if_pos e], fun e => by unfold aft; rw [if_neg e], Nat.le_trans (aft_length ..) (by have := L.out; omega)⟩
      have EV := hid eV
      clear x0 x1 x2 ex hk2 eV XV A0 RR gne G R Y
      generalize wrg j lv n l a = E at *
      generalize aft j lv n l a = l' at *
      obtain ⟨a0, a1, a2⟩ := a
      simp only at *
      rw [EV.out] at z0
      go_wp2_with fail
      rw [← EV.out]
      refine WN.out.mono ?_
      rintro e w2 ⟨rfl, x2⟩
      obtain ⟨d0, d1, d2⟩ := CA.out w2 (Kept.of_ext x2)
      have AN2 := hid (AN.out w2 x2)
      clear WN AN y0 y1 y2 z0 x2
      go_wp2_with fail
      refine AN2.out.mono ?_
      rintro e w3 ⟨rfl, G3, R3, Z3, k3⟩
      obtain ⟨d0, d1, d2⟩ := CA.out w3 k3
      have R3' := hid R3
      have G3' := hid G3
      have Z3' := hid Z3
      have F3 := FIN.out w3 l' (by have := AFT.out.2.2; omega) G3 R3 Z3
      clear AN2 CA k3 G3 R3 Z3 FIN
      by_cases hE : E = 0
      · have el := hid (AFT.out.1 hE)
        subst hE
        obtain ⟨v', w', r, F⟩ := F3
        have FF := hid F
        have RU := hid r
        clear r F
        go_wp2_with (at_builtin; refine wpList_append_run _ rfl (.tmp 50) (.tmp 52) 22 22 rfl _ _ rfl rfl _ _ RU.out ?_)
        go_roundw
        case rel => exact ⟨k + 1, l', _, by omega, by go_num, rfl, AFT.out.2.2, FF.out.1, by rw [el.out]; exact FF.out.2.1, FF.out.2.2⟩
        case measure => simp [intOf]; omega
      · have el := hid (AFT.out.2.1 hE)
        clear F3
        go_wp2_with fail
        go_roundw
        case rel => exact ⟨k + 1, l', _, by omega, by go_num, rfl, AFT.out.2.2, G3', by rw [el.out]; exact R3', Z3'⟩
        case measure => simp [intOf]; omega
    · obtain rfl : k = N := by omega
      have HH : Hid (l.length ≤ 60 ∧ w.heap.size ≤ b ∧ w.heap.size ≤ g) := ⟨Nat.le_trans L.out o7, by rw [← EZ.out]; exact HB.out.1, by rw [← EZ.out]; exact HB.out.2.1⟩
      go_wp2_with fail
      go_ret2
      exact ⟨b, g, cap, x, l, rfl, G.out, R.out, HH.out⟩
end Go.Proofs.Ytmnngajklnljjaa.Grp

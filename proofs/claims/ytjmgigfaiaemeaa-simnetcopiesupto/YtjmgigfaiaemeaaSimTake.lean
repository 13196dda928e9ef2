/-
  The walk of the model's take: net and lists turn together.
-/
import Derived.Test.YtjmgigfaiaemeaaSimTakeM
namespace Go.Proofs.Ytjmgigfaiaemeaa.Sim
set_option linter.unusedVariables false
set_option maxRecDepth 100000
open Go.RowKit Go.Lib Go.Shelf Go.Proofs.Ytjmgigfaiaemeaa.Crc Go.Proofs.Ytjmgigfaiaemeaa.Grp
open Go.Proofs.Ytjmgigfaiaemeaa.Pip hiding NewR
attribute [local go_sem] Oper.semAt_some

theorem mcs_one (c : Cfg) (av lv fv : Value) (u : Int) (s : Cts) (h1 : av.oneCell' = true) (h2 : lv.oneCell' = true) (h3 : fv.oneCell' = true) : (mcs c av lv fv u s).all (·.oneCell') = true := Array.all_eq_true_iff_forall_mem.2 (fun v hv => by
  simp only [mcs, List.mem_toArray, List.mem_cons, List.not_mem_nil, or_false] at hv
  rcases hv with rfl | rfl | rfl | rfl | rfl | rfl | rfl | rfl | rfl | rfl | rfl | rfl | rfl | rfl | rfl <;> first | rfl | assumption)

/-- what take tells -/
def TakenS (K E : Nat → Prop) (w : World) (b : Nat) (bs : Nat → Nat) (c : Cfg) (l : List Tri) (fs : List (Int × Int)) (x : St) (av fv : Value) (at_ : Nat) (e : Ending) (w' : World) : Prop :=
  ∃ (lv' : Value) (y : Ms) (K' : Nat → Prop), e = .returned (.tuple #[.agg (mcs c av lv' fv (x.2.1 : Int) x.2.2), .bool true]) ∧ (∀ q, K q → K' q) ∧ NetK K' w' b bs c l fs (x.1.set at_ y, x.2) ∧ ListsK (fun q => E q ∨ (w.heap.size ≤ q ∧ K' q)) w' lv' (x.1.set at_ y) ∧ (∃ ao n cp, lv' = .slice ao n cp) ∧ Kept K w w'

set_option maxHeartbeats 8000000 in
theorem mtake_any (K E : Nat → Prop) (hE : ∀ q, E q → K q) (w : World) (b : Nat) (bs : Nat → Nat) (c : Cfg) (n : Nat) (hn : c.1 = (n : Int)) (l : List Tri) (fs : List (Int × Int)) (x : St) (h : NetK K w b bs c l fs x) (at_ : Nat) (hat : at_ ≤ n) (av fv lv : Value) (hav : av.oneCell' = true) (hfv : fv.oneCell' = true) (hL : ListsK E w lv x.1) (now : Int) :
    Calls Try.prog 25 #[.agg (mcs c av lv fv (x.2.1 : Int) x.2.2), .pointer (some ⟨b, 0, none⟩), .int .i64 (at_ : Int), .int .i64 now] w fun e w' => TakenS K E w b bs c l fs x av fv at_ e w' := by
  have hth := h.there
  obtain ⟨n', _, _, _, e1, n1, n2, xl, _⟩ := h.down
  obtain rfl : n = n' := by omega
  obtain ⟨vs, v1, v3, v4⟩ := hL
  have hatv : at_ < vs.length := by omega
  have esl : vs[at_]? = some vs[at_] := List.getElem?_eq_getElem hatv
  have hxa : x.1[at_]? = some (x.1.getD at_ []) := by rw [List.getD_eq_getElem?_getD, List.getElem?_eq_getElem (show at_ < x.1.length by omega)]; rfl
  obtain ⟨sl, es, rs⟩ := v4 at_ _ hxa
  obtain ⟨lo, M, lc, rfl, l1, l2, l3, l4⟩ := id v3
  rw [fcells_length encS] at l1
  obtain rfl : vs.length = M := by omega
  have V3 := hid v3
  have V4 := hid v4
  have RS := hid rs
  have HH := hid h
  have HTH := hid hth
  have HN := hid hn
  have HAV := hid hav
  have HFV := hid hfv
  have HVL : Hid (vs.length = x.1.length) := v1
  have HAT := hid hatv
  have ES := hid es
  have XL := hid xl
  unfold maxLen at l3
  obtain ⟨x1, used, s⟩ := x
  simp only at *
  obtain ⟨n0, en⟩ : ∃ n0, n0 = w.heap.size := ⟨_, rfl⟩
  have EN := hid en
  obtain ⟨W1, eW1⟩ : ∃ W1, W1 = ((((w.alloc (.cells (mcs c av (.slice lo vs.length lc) fv (used : Int) s) 40)).alloc (.cells #[.int .i64 (at_ : Int)] 3)).alloc (.cells #[.int .i64 now] 3)).alloc (.cells zmod 40)).alloc (.cells #[.bool false] 4) := ⟨_, rfl⟩
  have X1 : Ext w W1 := by rw [eW1]; exact (((((Ext.refl w).alloc _).alloc _).alloc _).alloc _).alloc _
  have z1 : W1.heap.size = n0 + 1 + 1 + 1 + 1 + 1 := by rw [eW1, en]; simp
  have B1 : ∀ j o, [(Obj.cells (mcs c av (.slice lo vs.length lc) fv (used : Int) s) 40), (.cells #[.int .i64 (at_ : Int)] 3), (.cells #[.int .i64 now] 3), (.cells zmod 40), (.cells #[.bool false] 4)][j]? = some o → W1.heap[n0 + j]? = some o := by
    rw [eW1, en]
    exact alloc5 w _ _ _ _ _
  have cA : (W1.alloc (.cells #[] 78)).cell? ⟨w.heap.size, 6, none⟩ = some (.slice lo vs.length lc) := by
    have q := B1 0 _ rfl
    rw [Nat.add_zero, en] at q
    rw [cell_of_row _ _ 6 _ _ _ (((Ext.refl W1).alloc (.cells #[] 78)).row q)]
    rfl
  have N0 : Go.Proofs.Ytjmgigfaiaemeaa.NewR senc 78 1 W1 (W1.alloc (.cells #[] 78)) (.slice (some ⟨W1.heap.size, 0, none⟩) 0 0) [] :=
    ⟨Own.made _ _ _ W1, fun k hk => by simp only [Value.ownBlock, Option.some.injEq] at hk; omega, (Ext.refl W1).alloc _⟩
  obtain ⟨v5, W5, r5, N5, _⟩ := N0.put elemsL encS 35 (.slice lo vs.length lc) vs (V3.out.kept (Kept.of_ext (X1.trans N0.2.2))) (by simp; omega)
  rw [List.nil_append] at N5
  obtain ⟨g5, c5, e5⟩ : ∃ g5 c5, v5 = .slice (some ⟨g5, 0, none⟩) vs.length c5 := by
    rcases N5.1.at with ⟨_, e⟩ | ⟨g5, cap, L, e, _⟩
    · rw [e] at hatv; simp at hatv
    · exact ⟨g5, cap, e⟩
  subst e5
  have G5 : Hid (n0 + 5 ≤ g5) := by have := N5.2.1 g5 rfl; show n0 + 5 ≤ g5; omega
  have G5L : Hid (g5 < W5.heap.size) := N5.1.lt rfl
  have X5 : Ext w W5 := X1.trans N5.2.2
  rw [z1] at r5
  rw [eW1] at r5 cA
  unfold zmod at r5 cA
  have RR5 := hid r5
  obtain ⟨W6, eW6⟩ : ∃ W6, W6 = (W5.alloc (.cells #[.slice (some ⟨g5, 0, none⟩) vs.length c5] 35)).setCell ⟨n0, 6, none⟩ (.slice (some ⟨g5, 0, none⟩) vs.length c5) := ⟨_, rfl⟩
  obtain ⟨W5b, eW5b⟩ : ∃ W5b, W5b = W5.alloc (.cells #[.slice (some ⟨g5, 0, none⟩) vs.length c5] 35) := ⟨_, rfl⟩
  have X5b : Ext W5 W5b := by rw [eW5b]; exact (Ext.refl W5).alloc _
  have hl0 : W5b.heap[W5.heap.size]? = some (.cells #[.slice (some ⟨g5, 0, none⟩) vs.length c5] 35 (0, 0)) := by rw [eW5b]; exact heap_alloc_new W5 _
  have bx : ∀ j o, [(Obj.cells (mcs c av (.slice lo vs.length lc) fv (used : Int) s) 40), (.cells #[.int .i64 (at_ : Int)] 3), (.cells #[.int .i64 now] 3), (.cells zmod 40), (.cells #[.bool false] 4)][j]? = some o → W5b.heap[n0 + j]? = some o := fun j o hj => (N5.2.2.trans X5b).row (B1 j o hj)
  have b0 := bx 0 _ rfl
  rw [Nat.add_zero] at b0
  have m6 : W5b.cell? ⟨n0, 6, none⟩ = some (.slice lo vs.length lc) := by rw [cell_of_row _ _ 6 _ _ _ b0]; rfl
  have f6 : W5b.frozen? ⟨n0, 6, none⟩ = false := frozen_of_row _ _ _ _ _ b0
  have k6 : Kept (fun i => i ≠ n0) W5b W6 := by rw [eW6, ← eW5b]; exact (Kept.refl _ _).setCell (fun hne => hne rfl) _
  have hl5 : n0 + 5 ≤ W5.heap.size := by have := N5.2.2.size; omega
  have BX : BoxS W6 n0 W5.heap.size (.slice (some ⟨g5, 0, none⟩) vs.length c5) c av fv (used : Int) s at_ now := by
    refine ⟨?_, ?_, ?_, ?_, ?_, ?_⟩
    · rw [eW6, ← eW5b, setCell_eq_setRow _ _ _ _ _ _ _ b0]
      exact setRow_heap _ _ _ _ _ _ b0
    · exact k6.cell (a := ⟨n0 + 1, 0, none⟩) (by show n0 + 1 ≠ n0; omega) (by rw [cell_of_row _ _ 0 _ _ _ (bx 1 _ rfl)]; rfl)
    · exact k6.cell (a := ⟨n0 + 1 + 1, 0, none⟩) (by show n0 + 1 + 1 ≠ n0; omega) (by rw [cell_of_row _ (n0 + 1 + 1) 0 _ _ _ (bx 2 _ rfl)]; rfl)
    · exact k6.row (by omega) (bx 3 _ rfl)
    · exact k6.row (by omega) (bx 4 _ rfl)
    · exact k6.cell (a := ⟨W5.heap.size, 0, none⟩) (by show W5.heap.size ≠ n0; omega) (by rw [cell_of_row _ _ 0 _ _ _ hl0]; rfl)
  have X6 : Ext w W6 := Below.trans (X5.trans X5b) (k6.below (X5.trans X5b).size (fun i hi => by omega))
  have OW6 : Own senc 78 1 W6 (.slice (some ⟨g5, 0, none⟩) vs.length c5) vs := (N5.1.ext X5b).kept k6 (fun g hg => by simp only [Value.ownBlock, Option.some.injEq] at hg; have h1 := G5.out; have : n0 + 5 ≤ g5 := h1; omega)
  have M5 : vs.length ≤ c5 ∧ c5 ≤ maxLen := by
    obtain ⟨ao, c', e, q1, q2, _⟩ := N5.1.view encS
    simp only [Value.slice.injEq] at e
    obtain ⟨_, _, rfl⟩ := e
    exact ⟨q1, q2⟩
  unfold maxLen at M5
  obtain ⟨m51, m52⟩ := M5
  have c1 := BX.2.1
  have c2 := BX.2.2.1
  have cR : W6.cell? ⟨n0, 0, none⟩ = some (.int .i64 c.1) := by rw [cell_of_row _ _ 0 _ _ _ BX.1]; rfl
  have cLb : W5b.cell? ⟨W5.heap.size, 0, none⟩ = some (.slice (some ⟨g5, 0, none⟩) vs.length c5) := by rw [cell_of_row _ _ 0 _ _ _ hl0]; rfl
  have lenM : vs.length ≤ 100 := by omega
  have BXH := hid BX
  have XX6 := hid X6
  have OWH := hid OW6
  have E6 := hid eW6
  have ia1 : (at_ : Int) < (vs.length : Int) := by omega
  have ia2 : (0 : Int) ≤ (at_ : Int) := by omega
  have Z65 : Hid (W5.heap.size < W6.heap.size) := Nat.lt_of_lt_of_le (lt_of_row hl0) k6.size
  have HL5 : Hid (n0 + 5 ≤ W5.heap.size) := hl5
  have HNET := hid (HH.out.ext X6)
  have TD := hid (take_net (i := at_) HNET.out)
  have TU := hid (takeUp_net HNET.out n now HN.out)
  have TN := hid (take_no HNET.out (at_ : Int) now)
  have UPK : Hid (PipK (fun _ => False) w 0 0 [] → True) := fun _ => trivial
  rw [eW5b] at m6 f6 cLb
  rw [eW6] at c1 c2 cR
  clear h hth e1 v1 v3 v4 rs es esl hxa hav hfv N0 N5 r5 eW1 z1 B1 X1 X5 X5b hl0 bx b0 k6 BX X6 OW6 eW5b eW6 l4 l2 en xl hatv hl5 UPK
  refine (callsIn_wide (n := 4)).1 (callsIn_of_wp_marks Try.func25 rfl trivial ?_ rfl)
  refine wpIn_wide.2 ?_
  simp only [Try.ntmps25, List.size_toArray, List.length_cons, List.length_nil, Nat.reduceAdd, Nat.reduceSub, Array.replicate_succ, Array.replicate_zero, List.push_toArray, List.append_toArray, List.nil_append, List.cons_append]
  go_wp2_with (at_builtin; rw [← EN.out]; refine wpList_append_run _ rfl (.tmp 15) (.tmp 17) 35 35 rfl _ _ rfl rfl _ _ RR5.out ?_)
  rw [← E6.out]
  rw [← E6.out] at c1 c2 cR
  rw [HN.out] at cR
  have HX0 := hid (show x1.getD at_ [] = x1.getD at_ [] from rfl)
  by_cases hup : at_ < n
  case' pos =>
    have T1 := TD.out now (by have := HN.out; omega)
    have T1H := hid T1
    have ne : ((at_ : Int) == (n : Int)) = false := by simp; omega
    clear T1 TD TN TU cA cLb m6 f6 RR5
    refine T1H.out.mono ?_
    rintro e w7 ⟨rfl, cb1, cb2, z7, x7⟩
    have c1' := x7.cell c1
    have cR' := x7.cell cR
    have CB1 := hid cb1
    have CB2 := hid cb2
    have Z7 := hid z7
    have X7 := hid x7
    clear T1H cb1 cb2 z7 x7 c1 c2 cR
    go_wp2_with fail
  case' neg =>
    obtain rfl : at_ = n := by omega
    have ne : ((at_ : Int) == (at_ : Int)) = true := by simp
    have T0 := hid (TN.out (.inr (by have := HN.out; omega)))
    have TUH := hid TU.out
    clear TD TN TU cA cLb m6 f6 RR5
    refine T0.out.mono ?_
    rintro e w7' ⟨rfl, e7⟩
    rw [e7]
    clear e7
    go_wp2_with fail
    refine TUH.out.mono ?_
    rintro e w7 ⟨rfl, cb1, cb2, z7, x7⟩
    have CB1 := hid cb1
    have CB2 := hid cb2
    have Z7 := hid z7
    have X7 := hid x7
    clear T0 TUH cb1 cb2 z7 x7 c1 c2 cR
    go_wp2_with fail
  all_goals
    have h7 := HH.out.more (XX6.out.trans X7.out)
    have zz := Z7.out
    have gg5 : n0 + 5 ≤ g5 := G5.out
    have gl5 : g5 < W5.heap.size := G5L.out
    have z65 : W5.heap.size < W6.heap.size := Z65.out
    have hl5 : n0 + 5 ≤ W5.heap.size := HL5.out
    have en : n0 = w.heap.size := EN.out
    obtain ⟨Ki, pk, hK1, fin⟩ := h7.oneL (L := fun q => q = g5 ∨ q = n0 + 1 + 1 + 1 ∨ q = n0 + 1 + 1 + 1 + 1) (fun q hq => .inr ⟨by omega, by omega⟩) (i := at_) (by have h1 := HAT.out; have h2 := HVL.out; show at_ < x1.length; omega)
    have FIN := hid fin
    have PK := hid pk
    have KI : Hid (∀ q, (K q ∨ New w w7 q) → Ki q) := hK1
    have kin : ∀ q, n0 ≤ q → q < w7.heap.size → Ki q := fun q h1 h2 => KI.out q (.inr ⟨by omega, h2⟩)
    have kg5 : Ki g5 := kin g5 (by omega) (by omega)
    have kb1 : Ki W6.heap.size := kin _ (by omega) (by omega)
    have kb2 : Ki (W6.heap.size + 1) := kin _ (by omega) (by omega)
    have BX7 : Hid (BoxS w7 n0 W5.heap.size (.slice (some ⟨g5, 0, none⟩) vs.length c5) c av fv (used : Int) s at_ now) := BXH.out.kept (Kept.of_ext (K := fun _ => True) X7.out) (fun _ _ _ => trivial) trivial
    have BXW : Hid (∀ W, Kept (fun i => Ki i ∧ i ≠ g5) w7 W → BoxS W n0 W5.heap.size (.slice (some ⟨g5, 0, none⟩) vs.length c5) c av fv (used : Int) s at_ now) := fun W k => BX7.out.kept k (fun i h1 h2 => ⟨kin i h1 (by omega), by omega⟩) ⟨kin _ (by omega) (by omega), by omega⟩
    have G0 : Hid (GoesS E Ki w7 g5 vs.length c5 at_ vs (x1.getD at_ []) now Ki [] w7) := by
      have e1 : vs.set at_ sl = vs := by
        obtain ⟨h1, h2⟩ := List.getElem?_eq_some_iff.1 ES.out
        rw [← h2]
        exact List.set_getElem_self h1
      refine ⟨sl, _, by rw [e1]; exact OWH.out.ext X7.out, ?_, rfl, fun p hp => by simp at hp, Kept.refl _ _⟩
      exact ((RS.out.mono (L := fun i => E i ∧ i < w.heap.size) (by decide) (fun i hi h => ⟨h, hi⟩)).kept (Kept.of_ext (XX6.out.trans X7.out))).mono (by decide) (fun i _ h => ⟨.inl h.1, by have := h.2; omega⟩)
    have LX : Hid ((x1.getD at_ []).length ≤ 256) := by
      have h1 := PK.out.1
      rw [ord_length] at h1
      show (x1.getD at_ []).length ≤ 256
      simp only at h1
      omega
    clear h7 pk fin hK1 en zz
    refine rangeP 34 (B1 := W6.heap.size) (B2 := W6.heap.size + 1) (b := bs at_) (K := Ki) (room := c.2.2.1) (now := now) (l := ord (x1.getD at_ [])) rfl CB1.out CB2.out kb1 kb2 PK.out (GoesS E Ki w7 g5 vs.length c5 at_ vs (x1.getD at_ []) now) (fun _ _ _ _ => False)
      (fun K' pre W W' hK' h k => goesS_kept (fun i h => KI.out i (.inl (hE i h))) kg5 K' pre W W' hK' h k) (fun _ _ _ _ _ _ h _ => h) G0.out (fun tm s => (tm.setIfInBounds 34 (sval s)).setIfInBounds 12 (sval s)) ?assign ?body ?done ?stop
    case assign =>
      intro L s A Kc hK
      obtain ⟨s1, s2, s3⟩ := s
      simp only [sval, List.setIfInBounds_toArray, List.set_cons_zero, List.set_cons_succ] at hK ⊢
      gi_wp2
      exact hK
    case stop => rintro D c K' pre rest A hD hKK nD el hf; exact hf.elim
    case body =>
      rintro L2 K' pre m ss W hKK ⟨v, y, ho, rk, eo, hdp, kk⟩ hb1 hb2 hp hm hob hlen hns
      obtain ⟨r0, er0⟩ := hp
      have eo2 : ord y = m :: r0 := by
        rw [eo, List.append_assoc] at er0
        exact (List.append_cancel_left er0).symm
      have ly : y.length ≤ 256 := by
        have h1 := congrArg List.length eo
        rw [List.length_append, ord_length, ord_length] at h1
        have h2 : (x1.getD at_ []).length ≤ 256 := LX.out
        omega
      have FST : Hid (Calls Try.prog 44 #[sval v] W fun e w' => ∃ i : Nat, e = .returned (.int .i64 (i : Int)) ∧ (IsF y i ∧ y.getD i (0, []) = m) ∧ ∃ k, w' = W.drewN k) := by
        refine (first_any _ (sval v) y W rk (by omega)).mono ?_
        rintro e w' ⟨a, rfl, (⟨q1, q2⟩ | ⟨i, rfl, hF⟩), h3⟩
        · rw [q1, ord_nil] at eo2
          simp at eo2
        · refine ⟨i, rfl, ⟨hF, ?_⟩, h3⟩
          have := ord_first y i hF
          rw [eo2] at this
          simp only [List.cons.injEq] at this
          exact this.1.symm
      have w7s : w7.heap.size ≤ W.heap.size := kk.size
      have BW := BXW.out W kk
      have p1 := BW.2.1
      have p2 := BW.2.2.1
      have p3 := BW.2.2.2.2.2
      have hatv : at_ < vs.length := HAT.out
      have p5 : W.cell? ⟨g5, at_, none⟩ = some (sval v) := by
        obtain ⟨ao, c', e, _, _, hc⟩ := ho.view encS
        obtain ⟨g', eg, hc2⟩ := hc at_ v (by rw [List.getElem?_set_self hatv])
        simp only [Value.slice.injEq] at e
        rw [← e.1] at eg
        simp only [Option.some.injEq, Addr.mk.injEq, and_true] at eg
        subst eg
        have := hc2 0 (sval v) rfl
        rw [Nat.mul_one, Nat.add_zero] at this
        exact this
      have RND := hid (fun (i : Nat) (W0 V2 : World) (nv : Sl) (a1 : IsF y i) (a2 : y.getD i (0, []) = m) (a3 : Ext W W0) (a4 : Pip.NewR W0 V2 (sval nv) (y.eraseIdx i)) => take_roundS (b := bs at_) (s := ss) (Kp := E) kg5 hKK hatv ho eo hdp kk hm a1 a2 a3 a4)
      have RK := hid rk
      obtain ⟨xa, xc, ex, q1, q2, qv⟩ := rk.view
      have QV := hid qv
      have HO := hid hob
      have HB1 := hid hb1
      have HB2 := hid hb2
      have HMA : decide (now < m.1) = false := by simp; omega
      have KB : Hid (W6.heap.size ≠ g5 ∧ W6.heap.size + 1 ≠ g5) := ⟨by omega, by omega⟩
      obtain ⟨va, vn, vc⟩ := v
      simp only [sval, Value.slice.injEq] at ex
      obtain ⟨rfl, rfl, rfl⟩ := ex
      simp only [sval] at FST p5 RK
      obtain ⟨sa, sn, sc⟩ := ss
      obtain ⟨md, mt⟩ := m
      unfold maxLen at q2
      have LY := hid ly
      clear rk ho eo hdp kk hm hob hns er0 eo2 qv hb1 hb2 BW
      obtain ⟨Y, eY⟩ : ∃ Y, Y = y.length := ⟨_, rfl⟩
      rw [← eY] at q1 QV p5 FST RK
      have EY := hid eY
      clear eY ly
      simp only [sval, List.setIfInBounds_toArray, List.set_cons_zero, List.set_cons_succ]
      gi_wp2_with fail
      refine ⟨trivial, (CallsIn.inRound L2 (callsIn_wide.2 FST.out)).mono ?_⟩
      rintro e w1 ⟨i, rfl, hi, k1, ew1⟩
      have X01 : Ext W w1 := by rw [ew1]; exact (Ext.refl W).drewN k1
      clear ew1
      replace p1 := X01.cell p1
      replace p2 := X01.cell p2
      replace p3 := X01.cell p3
      replace p5 := X01.cell p5
      have HI := hid hi
      have iY : i < Y := by
        have h1 := hi.1.1
        have h2 := EY.out
        omega
      obtain ⟨g, o, eg, y1, y2⟩ := QV.out i (by have h2 := EY.out; omega)
      rw [hi.2] at y1 y2
      replace y1 := X01.cell y1
      replace y2 := X01.cell y2
      subst eg
      have CV : ∀ n, (convert 41 9 (.slice sa sn sc)).run Try.prog (w1.drewN n) = .ok (.string (str mt)) (w1.drewN n) := fun n => Bytes.str (HO.out.ext (X01.drewN n)).bytes
      have XX01 := hid X01
      have i1 : (i : Int) < (Y : Int) := by omega
      have i2 : (0 : Int) ≤ (i : Int) := by omega
      have i3 : decide ((i : Int) < 0) = false := by simp
      have i4 : ((str mt).toList == (str mt).toList) = true := by simp
      clear FST hi QV X01
      gi_wp2_with fail
      refine wpIn_round_quiet (by kernel_rfl) (by kernel_rfl) (by kernel_rfl) ?_
      repeat (go_big_quiet_step (fail))
      refine wpQuiet_nil ?_
      rintro _ ⟨nq, rfl⟩
      have X0 : Hid (Ext W (w1.drewN nq)) := XX01.out.drewN nq
      clear CV y1 y2 i3 i4 HMA XX01
      have p1 : (w1.drewN nq).cell? ⟨n0 + 1, 0, none⟩ = some (.int .i64 (at_ : Int)) := p1
      have p3 : (w1.drewN nq).cell? ⟨W5.heap.size, 0, none⟩ = some (.slice (some ⟨g5, 0, none⟩) vs.length c5) := p3
      have p5 : (w1.drewN nq).cell? ⟨g5, at_, none⟩ = some (.slice (some ⟨g, o, none⟩) Y vc) := p5
      generalize w1.drewN nq = W0 at *
      have WO : Hid (Calls Try.prog 45 #[.slice (some ⟨g, o, none⟩) Y vc, .int .i64 (i : Int)] W0.drew fun e w' => ∃ nv : Sl, e = .returned (sval nv) ∧ Pip.NewR W0 w' (sval nv) (y.eraseIdx i)) := by
        refine (without_any _ _ y i W0.drew (RK.out.kept (Kept.of_ext (X0.out.trans ((Ext.refl W0).drewN 1)))) (by have h1 : y.length ≤ 256 := LY.out; omega)).mono ?_
        rintro e w' ⟨v', rfl, nr⟩
        obtain ⟨a', n', c', e'⟩ := owns_slice nr.1
        subst e'
        exact ⟨(a', n', c'), rfl, nr.1, nr.2.1, (show Ext W0 W0.drew from (Ext.refl W0).drewN 1).trans nr.2.2⟩
      clear RK LY p2
      gi_wp2_with fail
      have hS0 : W0.drew.cell? ⟨W5.heap.size, 0, none⟩ = some (.slice (some ⟨g5, 0, none⟩) vs.length c5) ∧ W0.drew.cell? ⟨n0 + 1, 0, none⟩ = some (.int .i64 (at_ : Int)) := ⟨p3, p1⟩
      refine wpIn_round_held (S := fun U => U.cell? ⟨W5.heap.size, 0, none⟩ = some (.slice (some ⟨g5, 0, none⟩) vs.length c5) ∧ U.cell? ⟨n0 + 1, 0, none⟩ = some (.int .i64 (at_ : Int))) (by kernel_rfl) (by kernel_rfl) (by rintro ⟨_, _, h⟩; exact h) hS0 (fun hHeld => ?_)
      refine takeE (v := ?_) 0 68 rfl rfl (by kernel_rfl) (by kernel_rfl) (by kernel_rfl) (fun _ _ _ h => h) (Or.inl ⟨by rfl, fun V hV => ?_⟩) hHeld ?_
      rotate_left
      · (have z := hV.1; go_simp; try with_reducible rfl)
      simp only [Act.put, List.setIfInBounds_toArray, List.set_cons_zero, List.set_cons_succ]
      refine takeE (v := ?_) 2 70 rfl rfl (by kernel_rfl) (by kernel_rfl) (by kernel_rfl) (fun _ _ _ h => h) (Or.inl ⟨by rfl, fun V hV => ?_⟩) hHeld ?_
      rotate_left
      · (have z := hV.1; go_simp; try with_reducible rfl)
      simp only [Act.put, List.setIfInBounds_toArray, List.set_cons_zero, List.set_cons_succ]
      refine takeE (v := ?_) 1 69 rfl rfl (by kernel_rfl) (by kernel_rfl) (by kernel_rfl) (fun _ _ _ h => h) (Or.inl ⟨by rfl, fun V hV => ?_⟩) hHeld ?_
      rotate_left
      · (have z := hV.2; go_simp; try with_reducible rfl)
      simp only [Act.put, List.setIfInBounds_toArray, List.set_cons_zero, List.set_cons_succ]
      refine takeE (v := ?_) 3 71 rfl rfl (by kernel_rfl) (by kernel_rfl) (by kernel_rfl) (fun _ _ _ h => h) (Or.inl ⟨by rfl, fun V hV => ?_⟩) hHeld ?_
      rotate_left
      · (have z := hV.2; go_simp; try with_reducible rfl)
      simp only [Act.put, List.setIfInBounds_toArray, List.set_cons_zero, List.set_cons_succ]
      refine takeE (v := ?_) 4 72 rfl rfl (by kernel_rfl) (by kernel_rfl) (by kernel_rfl) (fun _ _ _ h => h) (Or.inl ⟨by rfl, fun V hV => ?_⟩) hHeld ?_
      rotate_left
      · (go_simp; try with_reducible rfl)
      simp only [Act.put, List.setIfInBounds_toArray, List.set_cons_zero, List.set_cons_succ]
      refine takeE (v := ?_) 6 74 rfl rfl (by kernel_rfl) (by kernel_rfl) (by kernel_rfl) (fun _ _ _ h => h) (Or.inl ⟨by rfl, fun V hV => ?_⟩) hHeld ?_
      rotate_left
      · (go_simp; try with_reducible rfl)
      simp only [Act.put, List.setIfInBounds_toArray, List.set_cons_zero, List.set_cons_succ]
      refine knownE 5 73 rfl rfl (by kernel_rfl) (by rfl) (v := .slice (some ⟨g, o, none⟩) Y vc) (w' := W0.drew) (by go_simp; try with_reducible rfl) hHeld ?_
      simp only [Act.put, List.setIfInBounds_toArray, List.set_cons_zero, List.set_cons_succ]
      refine callE 7 75 rfl rfl (by kernel_rfl) (by rfl) (by go_simp; first | exact ⟨rfl, rfl⟩ | rfl) ?_
      refine WO.out.mono ?_
      rintro e V2 ⟨nv, rfl, nr⟩
      obtain ⟨fz, ⟨uz, cz⟩, ko, gr, go, ka⟩ := RND.out i W0 V2 nv HI.out.1 HI.out.2 X0.out nr
      have h61 := nr.2.2.cell p3
      have h62 := nr.2.2.cell p1
      have k9 : Kept (fun i => i ≠ g5) V2 (V2.setCell ⟨g5, at_, none⟩ (sval nv)) := (Kept.refl _ V2).setCell (fun hne => hne rfl) _
      have h71 := k9.cell (a := ⟨W5.heap.size, 0, none⟩) (by show W5.heap.size ≠ g5; omega) h61
      have h72 := k9.cell (a := ⟨n0 + 1, 0, none⟩) (by show n0 + 1 ≠ g5; omega) h62
      have CC1 := ka.cell (a := ⟨W6.heap.size, 0, none⟩) KB.out.1 HB1.out
      have CC2 := ka.cell (a := ⟨W6.heap.size + 1, 0, none⟩) KB.out.2 HB2.out
      obtain ⟨na, nn, nc⟩ := nv
      simp only [sval] at fz cz h71 h72 ko gr go CC1 CC2
      have FINR := hid (And.intro ko (And.intro gr (And.intro go (And.intro CC1 CC2))))
      refine ⟨_, rfl, ⟨h61, h62⟩, ?_⟩
      simp only [Act.put, sval, List.setIfInBounds_toArray, List.set_cons_zero, List.set_cons_succ]
      refine takeE (v := ?_) 8 76 rfl rfl (by kernel_rfl) (by kernel_rfl) (by kernel_rfl) (fun _ _ _ h => h) (Or.inl ⟨by rfl, fun V hV => ?_⟩) ⟨h61, h62⟩ ?_
      rotate_left
      · (go_simp; try with_reducible rfl)
      simp only [Act.put, List.setIfInBounds_toArray, List.set_cons_zero, List.set_cons_succ]
      refine storeN 9 rfl rfl (by kernel_rfl) (by rfl) (w' := V2.setCell ⟨g5, at_, none⟩ (.slice na nn nc)) (by go_simp; try with_reducible rfl) ⟨h71, h72⟩ ?_
      refine wpAnyH_done (by kernel_rfl) ?_ _
      clear ko gr go CC1 CC2 h71 h72 h61 h62 RND WO nr ka k9
      gi_wp2_with fail
      exact ⟨FINR.out.1, _, FINR.out.2.1, FINR.out.2.2⟩
    case done =>
      rintro D K' pre rest W hD hKK nD el hdue ⟨v, y, ho, rk, eo, hdp, kk⟩ hwk hdf
      have er : rest = ord y := List.append_cancel_left (el.symm.trans eo)
      rw [er] at hwk hdue
      rw [du_ord] at hdue
      have ly : y.length ≤ 256 := by
        have h1 := congrArg List.length eo
        rw [List.length_append, ord_length, ord_length] at h1
        have h2 : (x1.getD at_ []).length ≤ 256 := LX.out
        omega
      have FST := hid (first_any _ (sval v) y W rk (by omega))
      have BW := BXW.out W kk
      have p1 := BW.2.1
      have p2 := BW.2.2.1
      have p3 := BW.2.2.2.2.2
      have MB := hid BW.1
      have ZB := hid BW.2.2.2.1
      have hatv : at_ < vs.length := HAT.out
      have p5 : W.cell? ⟨g5, at_, none⟩ = some (sval v) := by
        obtain ⟨ao, c', e, _, _, hc⟩ := ho.view encS
        obtain ⟨g', eg, hc2⟩ := hc at_ v (by rw [List.getElem?_set_self hatv])
        simp only [Value.slice.injEq] at e
        rw [← e.1] at eg
        simp only [Option.some.injEq, Addr.mk.injEq, and_true] at eg
        subst eg
        have := hc2 0 (sval v) rfl
        rw [Nat.mul_one, Nat.add_zero] at this
        exact this
      have g57 : g5 < w7.heap.size := by have := Z7.out; omega
      have hl7 : W5.heap.size < w7.heap.size := by have := Z7.out; omega
      have ENDF : Hid (∀ (w1 : World) (X1 : Ext W w1), _) := fun (w1 : World) (X1 : Ext W w1) => take_endS (pre := pre) (l := l) (fs := fs) (x := (x1, used, s)) (c := c) (b := b) EN.out HTH.out hE (XX6.out.trans X7.out) gg5 g57 KI.out hKK hatv HVL.out V4.out FIN.out ho rk kk BW hwk hdf nD hD X1 _ rfl
      have GNE : Hid (∀ g : Nat, (E g ∨ (K' g ∧ w7.heap.size ≤ g)) → g ≠ n0 + 1 + 1 + 1 ∧ g ≠ n0 + 1 + 1 + 1 + 1) := fun g hg => by
        have h0 := EN.out
        have h1 := HL5.out
        rcases hg with h | h
        · have := HTH.out g (hE g h); omega
        · have := h.2; omega
      have DU := hid hdue
      have RKK := hid rk
      obtain ⟨xa, xc, ex, q1, q2, qv⟩ := rk.view
      have QV := hid qv
      obtain ⟨va, vn, vc⟩ := v
      simp only [sval, Value.slice.injEq] at ex
      obtain ⟨rfl, rfl, rfl⟩ := ex
      simp only [sval] at FST p5 RKK
      unfold maxLen at q2
      have ne1 : n0 + 1 ≠ n0 + 1 + 1 + 1 ∧ n0 + 1 ≠ n0 + 1 + 1 + 1 + 1 := by omega
      have ne2 : n0 + 1 + 1 ≠ n0 + 1 + 1 + 1 ∧ n0 + 1 + 1 ≠ n0 + 1 + 1 + 1 + 1 := by omega
      have ne3 : W5.heap.size ≠ n0 + 1 + 1 + 1 ∧ W5.heap.size ≠ n0 + 1 + 1 + 1 + 1 := by omega
      have ne4 : g5 ≠ n0 + 1 + 1 + 1 ∧ g5 ≠ n0 + 1 + 1 + 1 + 1 := by omega
      have ne0 : n0 ≠ n0 + 1 + 1 + 1 ∧ n0 ≠ n0 + 1 + 1 + 1 + 1 := by omega
      clear rk ho eo hdp kk hwk hdf er el hdue nD qv BW
      obtain ⟨Y, eY⟩ : ∃ Y, Y = y.length := ⟨_, rfl⟩
      rw [← eY] at q1 QV p5 FST RKK ly
      have EY := hid eY
      clear eY
      go_wp2_with fail
      refine FST.out.mono ?_
      rintro e w1 ⟨a, rfl, ha, k1, ew1⟩
      have X1 : Ext W w1 := by rw [ew1]; exact (Ext.refl W).drewN k1
      clear ew1
      replace p1 := X1.cell p1
      replace p2 := X1.cell p2
      replace p3 := X1.cell p3
      replace p5 := X1.cell p5
      have M1 := hid (X1.row MB.out)
      have Z1 := hid ((X1.trans ((Ext.refl w1).drewN 1)).row ZB.out)
      have EE := ENDF.out w1 X1
      obtain ⟨e1, e2, e3, e4, e5, e6, e7, e8, e9, e10⟩ := EE
      have E3 := hid e3
      have E4 := hid e4
      have E5 := hid e5
      have E6 := hid e6
      have E7 := hid e7
      have E8 := hid e8
      have E9 := hid e9
      have E10 := hid e10
      have XX1 := hid X1
      have hdr : Kept (fun i => i ≠ n0 + 1 + 1 + 1 ∧ i ≠ n0 + 1 + 1 + 1 + 1) w1 w1.drew := Kept.of_ext ((Ext.refl w1).drewN 1)
      clear e3 e4 e5 e6 e7 e8 e9 e10 ENDF FST MB ZB X1
      rcases ha with ⟨y0, rfl⟩ | ⟨i, rfl, hF⟩
      · clear QV y0 RKK XX1
        go_wp2_with fail
        refine wp_region_noPanic ?_
        refine wp_region_held_drew (S := fun V => Kept (fun i => i ≠ n0 + 1 + 1 + 1 ∧ i ≠ n0 + 1 + 1 + 1 + 1) w1 V) (by kernel_rfl) hdr (fun hHeld => ?_)
        refine takeE (v := .agg (mcs c av (.slice (some ⟨g5, 0, none⟩) vs.length c5) fv (used : Int) s)) 0 82 rfl rfl (by kernel_rfl) (by kernel_rfl) (by kernel_rfl) (fun _ _ _ h => h) ?_ hHeld ?_
        · exact yields_row 40 (.tmp 4) rfl (by rfl) n0 (by rfl) 40 _ (0, 0) _ (fun U hU => hU.row ne0 M1.out) Try.underlying40 rfl size_model
        simp only [Act.put, List.setIfInBounds_toArray, List.set_cons_zero, List.set_cons_succ]
        refine takeE (v := ?_) 1 83 rfl rfl (by kernel_rfl) (by kernel_rfl) (by kernel_rfl) (fun _ _ _ h => h) (Or.inl ⟨by rfl, fun V hV => ?_⟩) hHeld ?_
        rotate_left
        · (go_simp; try with_reducible rfl)
        simp only [Act.put, List.setIfInBounds_toArray, List.set_cons_zero, List.set_cons_succ]
        refine takeE (v := ?_) 2 84 rfl rfl (by kernel_rfl) (by kernel_rfl) (by kernel_rfl) (fun _ _ _ h => h) (Or.inl ⟨by rfl, fun V hV => ?_⟩) hHeld ?_
        rotate_left
        · (go_simp; try with_reducible rfl)
        simp only [Act.put, List.setIfInBounds_toArray, List.set_cons_zero, List.set_cons_succ]
        refine takeE (v := ?_) 3 85 rfl rfl (by kernel_rfl) (by kernel_rfl) (by kernel_rfl) (fun _ _ _ h => h) (Or.inl ⟨by rfl, fun V hV => ?_⟩) hHeld ?_
        rotate_left
        · (go_simp; try with_reducible rfl)
        simp only [Act.put, List.setIfInBounds_toArray, List.set_cons_zero, List.set_cons_succ]
        refine takeE (v := undef) 4 86 rfl rfl (by kernel_rfl) (by kernel_rfl) (by kernel_rfl) (fun _ _ _ h => h) (Or.inr ⟨by rfl, rfl⟩) hHeld ?_
        simp only [Act.put, List.setIfInBounds_toArray, List.set_cons_zero, List.set_cons_succ]
        refine takeE (v := undef) 5 87 rfl rfl (by kernel_rfl) (by kernel_rfl) (by kernel_rfl) (fun _ _ _ h => h) (Or.inr ⟨by rfl, rfl⟩) hHeld ?_
        simp only [Act.put, List.setIfInBounds_toArray, List.set_cons_zero, List.set_cons_succ]
        refine takeE (v := undef) 6 88 rfl rfl (by kernel_rfl) (by kernel_rfl) (by kernel_rfl) (fun _ _ _ h => h) (Or.inr ⟨by rfl, rfl⟩) hHeld ?_
        simp only [Act.put, List.setIfInBounds_toArray, List.set_cons_zero, List.set_cons_succ]
        refine takeE (v := undef) 7 89 rfl rfl (by kernel_rfl) (by kernel_rfl) (by kernel_rfl) (fun _ _ _ h => h) (Or.inr ⟨by rfl, rfl⟩) hHeld ?_
        simp only [Act.put, List.setIfInBounds_toArray, List.set_cons_zero, List.set_cons_succ]
        refine takeE (v := undef) 8 90 rfl rfl (by kernel_rfl) (by kernel_rfl) (by kernel_rfl) (fun _ _ _ h => h) (Or.inr ⟨by rfl, rfl⟩) hHeld ?_
        simp only [Act.put, List.setIfInBounds_toArray, List.set_cons_zero, List.set_cons_succ]
        refine takeE (v := undef) 9 91 rfl rfl (by kernel_rfl) (by kernel_rfl) (by kernel_rfl) (fun _ _ _ h => h) (Or.inr ⟨by rfl, rfl⟩) hHeld ?_
        simp only [Act.put, List.setIfInBounds_toArray, List.set_cons_zero, List.set_cons_succ]
        refine takeE (v := undef) 10 92 rfl rfl (by kernel_rfl) (by kernel_rfl) (by kernel_rfl) (fun _ _ _ h => h) (Or.inr ⟨by rfl, rfl⟩) hHeld ?_
        simp only [Act.put, List.setIfInBounds_toArray, List.set_cons_zero, List.set_cons_succ]
        refine takeE (v := undef) 11 93 rfl rfl (by kernel_rfl) (by kernel_rfl) (by kernel_rfl) (fun _ _ _ h => h) (Or.inr ⟨by rfl, rfl⟩) hHeld ?_
        simp only [Act.put, List.setIfInBounds_toArray, List.set_cons_zero, List.set_cons_succ]
        refine takeE (v := undef) 12 94 rfl rfl (by kernel_rfl) (by kernel_rfl) (by kernel_rfl) (fun _ _ _ h => h) (Or.inr ⟨by rfl, rfl⟩) hHeld ?_
        simp only [Act.put, List.setIfInBounds_toArray, List.set_cons_zero, List.set_cons_succ]
        refine takeE (v := undef) 13 95 rfl rfl (by kernel_rfl) (by kernel_rfl) (by kernel_rfl) (fun _ _ _ h => h) (Or.inr ⟨by rfl, rfl⟩) hHeld ?_
        simp only [Act.put, List.setIfInBounds_toArray, List.set_cons_zero, List.set_cons_succ]
        refine takeE (v := ?_) 14 96 rfl rfl (by kernel_rfl) (by kernel_rfl) (by kernel_rfl) (fun _ _ _ h => h) (Or.inl ⟨by rfl, fun V hV => ?_⟩) hHeld ?_
        rotate_left
        · (go_simp; try with_reducible rfl)
        simp only [Act.put, List.setIfInBounds_toArray, List.set_cons_zero, List.set_cons_succ]
        refine storeE 15 rfl (by kernel_rfl) (by rfl) (w' := w1.drew.setRow (n0 + 1 + 1 + 1) (mcs c av (.slice (some ⟨g5, 0, none⟩) vs.length c5) fv (used : Int) s)) (exec_store 40 (.tmp 8) (.tmp 82) rfl (run_store_whole w1.drew (n0 + 1 + 1 + 1) _ _ zmod _ Z1.out size_model rfl (mcs_one _ _ _ _ _ _ HAV.out rfl HFV.out))) E9.out ?_
        simp only [Act.put]
        refine storeE 16 rfl (by kernel_rfl) (by rfl) (w' := (w1.drew.setRow (n0 + 1 + 1 + 1) (mcs c av (.slice (some ⟨g5, 0, none⟩) vs.length c5) fv (used : Int) s)).setCell ⟨n0 + 1 + 1 + 1 + 1, 0, none⟩ (.bool true)) (by go_simp; try with_reducible rfl) E10.out ?_
        simp only [Act.put]
        refine wpAnyH_done (by kernel_rfl) ?_ _
        refine NoPanic.normal ?_
        obtain ⟨V, eV⟩ : ∃ V, V = (w1.drew.setRow (n0 + 1 + 1 + 1) (mcs c av (.slice (some ⟨g5, 0, none⟩) vs.length c5) fv (used : Int) s)).setCell ⟨n0 + 1 + 1 + 1 + 1, 0, none⟩ (.bool true) := ⟨_, rfl⟩
        rw [← eV] at E3 E4 E5 E6 E7 E8
        rw [← eV]
        clear hHeld eV E9 E10 e1 e2 hdr p1 p2 p3 p5
        go_wp2_with fail
        refine ⟨by simp, .inl ⟨_, _, rfl, run_takeDeferred E3.out, ?_⟩⟩
        refine ⟨.tuple #[.agg (mcs c av (.slice (some ⟨g5, 0, none⟩) vs.length c5) fv (used : Int) s), .bool true], results_row_bool Try.results25 _ _ (n0 + 1 + 1 + 1) (n0 + 1 + 1 + 1 + 1) 40 _ (0, 0) _ true rfl E4.out rfl E5.out Try.underlying40 rfl size_model Try.underlying4, ?_⟩
        exact ⟨_, y, _, rfl, fun q hq => .inl (.inl hq), E6.out, E7.out, ⟨_, _, _, rfl⟩, E8.out⟩
      · have iY : i < Y := by
          have h1 := hF.1
          have h2 := EY.out
          omega
        obtain ⟨g, o, eg, x1', _⟩ := QV.out i (by have h2 := EY.out; omega)
        have hlate : now < (y.getD i (0, [])).1 := by
          have h1 := DU.out
          unfold du at h1
          rw [List.countP_eq_zero] at h1
          have h2 := h1 (y.getD i (0, [])) (by rw [List.getD_eq_getElem?_getD, List.getElem?_eq_getElem hF.1]; exact List.getElem_mem _)
          simp only [decide_eq_true_eq] at h2
          omega
        have neg : g ≠ n0 + 1 + 1 + 1 ∧ g ≠ n0 + 1 + 1 + 1 + 1 := by
          obtain ⟨_, _, _, e, _, _, _, q4⟩ := RKK.out
          simp only [Value.slice.injEq] at e
          obtain ⟨rfl, rfl, rfl⟩ := e
          obtain ⟨g', o', e, hk, _⟩ := q4 (by omega)
          rw [eg] at e
          simp only [Option.some.injEq, Addr.mk.injEq] at e
          obtain ⟨rfl, _⟩ := e
          exact GNE.out g hk.1
        subst eg
        replace x1' := XX1.out.cell x1'
        have ht' : decide (now < (y.getD i (0, [])).1) = true := decide_eq_true hlate
        have i1 : (i : Int) < (Y : Int) := by omega
        have i2 : (0 : Int) ≤ (i : Int) := by omega
        have i3 : decide ((i : Int) < 0) = false := by simp
        clear QV RKK XX1 hlate hF
        generalize (y.getD i (0, [])).1 = yd at *
        go_wp2_with fail
        refine wp_region_noPanic ?_
        refine wp_region_held_drew (S := fun V => Kept (fun i => i ≠ n0 + 1 + 1 + 1 ∧ i ≠ n0 + 1 + 1 + 1 + 1) w1 V) (by kernel_rfl) hdr (fun hHeld => ?_)
        refine takeE (v := .agg (mcs c av (.slice (some ⟨g5, 0, none⟩) vs.length c5) fv (used : Int) s)) 0 82 rfl rfl (by kernel_rfl) (by kernel_rfl) (by kernel_rfl) (fun _ _ _ h => h) ?_ hHeld ?_
        · exact yields_row 40 (.tmp 4) rfl (by rfl) n0 (by rfl) 40 _ (0, 0) _ (fun U hU => hU.row ne0 M1.out) Try.underlying40 rfl size_model
        simp only [Act.put, List.setIfInBounds_toArray, List.set_cons_zero, List.set_cons_succ]
        refine takeE (v := ?_) 1 83 rfl rfl (by kernel_rfl) (by kernel_rfl) (by kernel_rfl) (fun _ _ _ h => h) (Or.inl ⟨by rfl, fun V hV => ?_⟩) hHeld ?_
        rotate_left
        · (go_simp; try with_reducible rfl)
        simp only [Act.put, List.setIfInBounds_toArray, List.set_cons_zero, List.set_cons_succ]
        refine takeE (v := ?_) 2 84 rfl rfl (by kernel_rfl) (by kernel_rfl) (by kernel_rfl) (fun _ _ _ h => h) (Or.inl ⟨by rfl, fun V hV => ?_⟩) hHeld ?_
        rotate_left
        · (go_simp; try with_reducible rfl)
        simp only [Act.put, List.setIfInBounds_toArray, List.set_cons_zero, List.set_cons_succ]
        refine takeE (v := ?_) 3 85 rfl rfl (by kernel_rfl) (by kernel_rfl) (by kernel_rfl) (fun _ _ _ h => h) (Or.inl ⟨by rfl, fun V hV => ?_⟩) hHeld ?_
        rotate_left
        · (go_simp; try with_reducible rfl)
        simp only [Act.put, List.setIfInBounds_toArray, List.set_cons_zero, List.set_cons_succ]
        refine takeE (v := ?_) 4 86 rfl rfl (by kernel_rfl) (by kernel_rfl) (by kernel_rfl) (fun _ _ _ h => h) (Or.inl ⟨by rfl, fun V hV => ?_⟩) hHeld ?_
        rotate_left
        · (have z1 := hV.cell (a := ⟨n0 + 1, 0, none⟩) ne1 p1; have z2 := hV.cell (a := ⟨n0 + 1 + 1, 0, none⟩) ne2 p2; have z3 := hV.cell (a := ⟨W5.heap.size, 0, none⟩) ne3 p3; have z4 := hV.cell (a := ⟨g5, at_, none⟩) ne4 p5; have z5 := hV.cell (a := ⟨g, o + i * 2, none⟩) neg x1'; go_simp; try with_reducible rfl)
        simp only [Act.put, List.setIfInBounds_toArray, List.set_cons_zero, List.set_cons_succ]
        refine takeE (v := ?_) 5 87 rfl rfl (by kernel_rfl) (by kernel_rfl) (by kernel_rfl) (fun _ _ _ h => h) (Or.inl ⟨by rfl, fun V hV => ?_⟩) hHeld ?_
        rotate_left
        · (have z1 := hV.cell (a := ⟨n0 + 1, 0, none⟩) ne1 p1; have z2 := hV.cell (a := ⟨n0 + 1 + 1, 0, none⟩) ne2 p2; have z3 := hV.cell (a := ⟨W5.heap.size, 0, none⟩) ne3 p3; have z4 := hV.cell (a := ⟨g5, at_, none⟩) ne4 p5; have z5 := hV.cell (a := ⟨g, o + i * 2, none⟩) neg x1'; go_simp; try with_reducible rfl)
        simp only [Act.put, List.setIfInBounds_toArray, List.set_cons_zero, List.set_cons_succ]
        refine takeE (v := ?_) 6 88 rfl rfl (by kernel_rfl) (by kernel_rfl) (by kernel_rfl) (fun _ _ _ h => h) (Or.inl ⟨by rfl, fun V hV => ?_⟩) hHeld ?_
        rotate_left
        · (go_simp; try with_reducible rfl)
        simp only [Act.put, List.setIfInBounds_toArray, List.set_cons_zero, List.set_cons_succ]
        refine takeE (v := ?_) 7 89 rfl rfl (by kernel_rfl) (by kernel_rfl) (by kernel_rfl) (fun _ _ _ h => h) (Or.inl ⟨by rfl, fun V hV => ?_⟩) hHeld ?_
        rotate_left
        · (have z1 := hV.cell (a := ⟨n0 + 1, 0, none⟩) ne1 p1; have z2 := hV.cell (a := ⟨n0 + 1 + 1, 0, none⟩) ne2 p2; have z3 := hV.cell (a := ⟨W5.heap.size, 0, none⟩) ne3 p3; have z4 := hV.cell (a := ⟨g5, at_, none⟩) ne4 p5; have z5 := hV.cell (a := ⟨g, o + i * 2, none⟩) neg x1'; go_simp; try with_reducible rfl)
        simp only [Act.put, List.setIfInBounds_toArray, List.set_cons_zero, List.set_cons_succ]
        refine takeE (v := ?_) 8 90 rfl rfl (by kernel_rfl) (by kernel_rfl) (by kernel_rfl) (fun _ _ _ h => h) (Or.inl ⟨by rfl, fun V hV => ?_⟩) hHeld ?_
        rotate_left
        · (go_simp; try with_reducible rfl)
        simp only [Act.put, List.setIfInBounds_toArray, List.set_cons_zero, List.set_cons_succ]
        refine takeE (v := ?_) 9 91 rfl rfl (by kernel_rfl) (by kernel_rfl) (by kernel_rfl) (fun _ _ _ h => h) (Or.inl ⟨by rfl, fun V hV => ?_⟩) hHeld ?_
        rotate_left
        · (go_simp; try with_reducible rfl)
        simp only [Act.put, List.setIfInBounds_toArray, List.set_cons_zero, List.set_cons_succ]
        refine takeE (v := ?_) 10 92 rfl rfl (by kernel_rfl) (by kernel_rfl) (by kernel_rfl) (fun _ _ _ h => h) (Or.inl ⟨by rfl, fun V hV => ?_⟩) hHeld ?_
        rotate_left
        · (go_simp; try with_reducible rfl)
        simp only [Act.put, List.setIfInBounds_toArray, List.set_cons_zero, List.set_cons_succ]
        refine takeE (v := ?_) 11 93 rfl rfl (by kernel_rfl) (by kernel_rfl) (by kernel_rfl) (fun _ _ _ h => h) (Or.inl ⟨by rfl, fun V hV => ?_⟩) hHeld ?_
        rotate_left
        · (have z1 := hV.cell (a := ⟨n0 + 1, 0, none⟩) ne1 p1; have z2 := hV.cell (a := ⟨n0 + 1 + 1, 0, none⟩) ne2 p2; have z3 := hV.cell (a := ⟨W5.heap.size, 0, none⟩) ne3 p3; have z4 := hV.cell (a := ⟨g5, at_, none⟩) ne4 p5; have z5 := hV.cell (a := ⟨g, o + i * 2, none⟩) neg x1'; go_simp; try with_reducible rfl)
        simp only [Act.put, List.setIfInBounds_toArray, List.set_cons_zero, List.set_cons_succ]
        refine takeE (v := ?_) 12 94 rfl rfl (by kernel_rfl) (by kernel_rfl) (by kernel_rfl) (fun _ _ _ h => h) (Or.inl ⟨by rfl, fun V hV => ?_⟩) hHeld ?_
        rotate_left
        · (have z1 := hV.cell (a := ⟨n0 + 1, 0, none⟩) ne1 p1; have z2 := hV.cell (a := ⟨n0 + 1 + 1, 0, none⟩) ne2 p2; have z3 := hV.cell (a := ⟨W5.heap.size, 0, none⟩) ne3 p3; have z4 := hV.cell (a := ⟨g5, at_, none⟩) ne4 p5; have z5 := hV.cell (a := ⟨g, o + i * 2, none⟩) neg x1'; go_simp; try with_reducible rfl)
        simp only [Act.put, List.setIfInBounds_toArray, List.set_cons_zero, List.set_cons_succ]
        refine takeE (v := ?_) 13 95 rfl rfl (by kernel_rfl) (by kernel_rfl) (by kernel_rfl) (fun _ _ _ h => h) (Or.inl ⟨by rfl, fun V hV => ?_⟩) hHeld ?_
        rotate_left
        · (go_simp; try with_reducible rfl)
        simp only [Act.put, List.setIfInBounds_toArray, List.set_cons_zero, List.set_cons_succ]
        refine takeE (v := ?_) 14 96 rfl rfl (by kernel_rfl) (by kernel_rfl) (by kernel_rfl) (fun _ _ _ h => h) (Or.inl ⟨by rfl, fun V hV => ?_⟩) hHeld ?_
        rotate_left
        · (go_simp; try with_reducible rfl)
        simp only [Act.put, List.setIfInBounds_toArray, List.set_cons_zero, List.set_cons_succ]
        refine storeE 15 rfl (by kernel_rfl) (by rfl) (w' := w1.drew.setRow (n0 + 1 + 1 + 1) (mcs c av (.slice (some ⟨g5, 0, none⟩) vs.length c5) fv (used : Int) s)) (exec_store 40 (.tmp 8) (.tmp 82) rfl (run_store_whole w1.drew (n0 + 1 + 1 + 1) _ _ zmod _ Z1.out size_model rfl (mcs_one _ _ _ _ _ _ HAV.out rfl HFV.out))) E9.out ?_
        simp only [Act.put]
        refine storeE 16 rfl (by kernel_rfl) (by rfl) (w' := (w1.drew.setRow (n0 + 1 + 1 + 1) (mcs c av (.slice (some ⟨g5, 0, none⟩) vs.length c5) fv (used : Int) s)).setCell ⟨n0 + 1 + 1 + 1 + 1, 0, none⟩ (.bool true)) (by go_simp; try with_reducible rfl) E10.out ?_
        simp only [Act.put]
        refine wpAnyH_done (by kernel_rfl) ?_ _
        refine NoPanic.normal ?_
        obtain ⟨V, eV⟩ : ∃ V, V = (w1.drew.setRow (n0 + 1 + 1 + 1) (mcs c av (.slice (some ⟨g5, 0, none⟩) vs.length c5) fv (used : Int) s)).setCell ⟨n0 + 1 + 1 + 1 + 1, 0, none⟩ (.bool true) := ⟨_, rfl⟩
        rw [← eV] at E3 E4 E5 E6 E7 E8
        rw [← eV]
        clear hHeld eV E9 E10 e1 e2 hdr p1 p2 p3 p5
        go_wp2_with fail
        refine ⟨by simp, .inl ⟨_, _, rfl, run_takeDeferred E3.out, ?_⟩⟩
        refine ⟨.tuple #[.agg (mcs c av (.slice (some ⟨g5, 0, none⟩) vs.length c5) fv (used : Int) s), .bool true], results_row_bool Try.results25 _ _ (n0 + 1 + 1 + 1) (n0 + 1 + 1 + 1 + 1) 40 _ (0, 0) _ true rfl E4.out rfl E5.out Try.underlying40 rfl size_model Try.underlying4, ?_⟩
        exact ⟨_, y, _, rfl, fun q hq => .inl (.inl hq), E6.out, E7.out, ⟨_, _, _, rfl⟩, E8.out⟩
end Go.Proofs.Ytjmgigfaiaemeaa.Sim

/-
  The statements' model of a net, in memory; walks of later, give.
-/
import Derived.Test.YtjmgigfaiaemeaaSimGive
import Derived.Test.YtjmgigfaiaemeaaMMath
namespace Go.Proofs.Ytjmgigfaiaemeaa.Sim
set_option linter.unusedVariables false
set_option maxRecDepth 100000
open Go.RowKit Go.Lib Go.Proofs.Ytjmgigfaiaemeaa.Crc Go.Proofs.Ytjmgigfaiaemeaa.Grp
open Go.Proofs.Ytjmgigfaiaemeaa.Pip hiding NewR

/-- three numbers, two numbers as they lie in cells -/
def asz (x : Tri) : List Value := [.int .i64 x.1, .int .i64 x.2.1, .int .i64 x.2.2]
def pr (x : Int × Int) : List Value := [.int .i64 x.1, .int .i64 x.2]
theorem encP : Enc pr 2 := ⟨by decide, fun _ => rfl, fun x u h => by
  simp only [pr, List.mem_cons, List.not_mem_nil, or_false] at h
  rcases h with rfl | rfl <;> rfl⟩

theorem later_any (now by_ : Int) (w : World) (h0 : 0 ≤ now) (h1 : now ≤ 1000000) :
    Calls Try.prog 9 #[.int .i64 now, .int .i64 by_] w fun e w' => e = .returned (.int .i64 (now + (if by_ < 0 then 0 else if 100 < by_ then 100 else by_))) ∧ w' = w := by
  by_cases q0 : by_ < 0
  · rw [if_pos q0]
    go_enter Try.func9, Try.ntmps9
    go_wp2_with fail
    go_ret
    exact ⟨by simp, rfl⟩
  · rw [if_neg q0]
    by_cases q1 : 100 < by_
    · rw [if_pos q1]
      go_enter Try.func9, Try.ntmps9
      go_wp2_with fail
      go_ret
      exact ⟨rfl, rfl⟩
    · rw [if_neg q1]
      go_enter Try.func9, Try.ntmps9
      go_wp2_with fail
      go_ret
      exact ⟨rfl, rfl⟩
/-- a net's numbers: receivers, delay, room, join, leave -/
abbrev Cfg := Int × Int × Int × Int × Int
/-- the model's cells -/
def mcs (c : Cfg) (av lv fv : Value) (used : Int) (s : Cts) : Array Value :=
  #[.int .i64 c.1, .int .i64 c.2.1, .int .i64 c.2.2.1, .int .i64 c.2.2.2.1, .int .i64 c.2.2.2.2, av, lv, fv, .int .i64 used, .int .i64 s.1, .int .i64 s.2.1, .int .i64 s.2.2.1, .int .i64 s.2.2.2.1, .int .i64 s.2.2.2.2.1, .int .i64 s.2.2.2.2.2]
/-- slices as they lie in cells -/
def senc (x : Sl) : List Value := [sval x]
theorem encS : Enc senc 1 := ⟨by decide, fun _ => rfl, fun x u h => by
  simp only [senc, List.mem_cons, List.not_mem_nil, or_false] at h
  subst h
  rfl⟩
/-- the lists of what is on its way, one for each -/
def ListsK (K : Nat → Prop) (w : World) (lv : Value) (ls : List Ms) : Prop :=
  ∃ vs : List Sl, vs.length = ls.length ∧ RowK K w lv 1 (fcells senc vs) ∧ ∀ (i : Nat) (x : Ms), ls[i]? = some x → ∃ v : Sl, vs[i]? = some v ∧ RowK K w (sval v) 2 (rcells x)
theorem ListsK.kept {K : Nat → Prop} {w w' : World} {lv : Value} {ls : List Ms} (h : ListsK K w lv ls) (k : Kept K w w') : ListsK K w' lv ls := by
  obtain ⟨vs, h1, h3, h4⟩ := h
  exact ⟨vs, h1, h3.kept k, fun i x hx => by obtain ⟨v, e, r⟩ := h4 i x hx; exact ⟨v, e, r.kept k⟩⟩
theorem ListsK.mono {K L : Nat → Prop} {w : World} {lv : Value} {ls : List Ms} (h : ListsK K w lv ls) (hL : ∀ i, i < w.heap.size → K i → L i) : ListsK L w lv ls := by
  obtain ⟨vs, h1, h3, h4⟩ := h
  exact ⟨vs, h1, h3.mono (by decide) hL, fun i x hx => by obtain ⟨v, e, r⟩ := h4 i x hx; exact ⟨v, e, r.mono (by decide) hL⟩⟩

/-- several cells in the middle of a row, stored: as a run -/
theorem run_store_part {P : Program} (w : World) (g o : Nat) (t ty : TypeId) (old : Array Value) (cs : List Value) (hg : w.heap[g]? = some (.cells old t (0, 0))) (hi : (P.info? ty).map (·.size) = some cs.length)
    (hf : o + cs.length ≤ old.size) (h1 : ∀ v ∈ cs, v.oneCell' = true) : (Instr.storeAt ty (.pointer (some ⟨g, o, none⟩)) (.agg cs.toArray)).run P w = .ok () (w.setRow g (splice old.toList o cs).toArray) := by
  have hst := run_storeCells_at P g o t cs 0 old w hg (by simpa using hf) h1
  simp only [Nat.add_zero] at hst
  cases hq : P.info? ty with
  | none => simp [hq] at hi
  | some i =>
    have hs : i.size = cs.length := by simpa [hq] using hi
    simp [Instr.storeAt, Instr.sureAddr, Sem.run_bind, storeVar, sizeOf, typeInfo, hq, Value.cells, hs]
    rw [hst]
    simp [splice]

theorem size_model : (Try.prog.info? 40).map (·.size) = some 15 := by kernel_rfl

theorem elemsL : Elems 35 78 1 24 (.slice none 0 0) := ⟨Try.underlying35, by kernel_rfl, rfl, by decide⟩

/-- the boxes of give: the model, what is told, a fate -/
def mx (w : World) (B f : Array Value) : World := ((w.alloc (.cells B 40)).alloc (.cells #[.int .i64 0, .int .i64 0, .int .i64 0, .int .i64 0, .int .i64 0, .slice none 0 0, .slice none 0 0, .slice none 0 0, .int .i64 0, .int .i64 0, .int .i64 0, .int .i64 0, .int .i64 0, .int .i64 0, .int .i64 0] 40)).alloc (.cells f 69)
theorem mx_ext (w : World) (m S : Array Value) : Ext w (mx w m S) := (((Ext.refl w).alloc _).alloc _).alloc _
theorem mx_size (w : World) (m S : Array Value) : (mx w m S).heap.size = w.heap.size + 1 + 1 + 1 := by unfold mx; simp
theorem mx_rows (w : World) (m S : Array Value) : (mx w m S).heap[w.heap.size]? = some (.cells m 40 (0, 0)) ∧ (mx w m S).heap[w.heap.size + 1]? = some (.cells #[.int .i64 0, .int .i64 0, .int .i64 0, .int .i64 0, .int .i64 0, .slice none 0 0, .slice none 0 0, .slice none 0 0, .int .i64 0, .int .i64 0, .int .i64 0, .int .i64 0, .int .i64 0, .int .i64 0, .int .i64 0] 40 (0, 0)) ∧
    (mx w m S).heap[w.heap.size + 1 + 1]? = some (.cells S 69 (0, 0)) := by
  have s1 : (w.alloc (.cells m 40)).heap.size = w.heap.size + 1 := by simp
  have s2 : ((w.alloc (.cells m 40)).alloc (.cells #[.int .i64 0, .int .i64 0, .int .i64 0, .int .i64 0, .int .i64 0, .slice none 0 0, .slice none 0 0, .slice none 0 0, .int .i64 0, .int .i64 0, .int .i64 0, .int .i64 0, .int .i64 0, .int .i64 0, .int .i64 0] 40)).heap.size = w.heap.size + 1 + 1 := by simp
  refine ⟨?_, ?_, ?_⟩
  · exact (((Ext.refl (w.alloc (.cells m 40))).alloc _).alloc _).row (heap_alloc_new w _)
  · rw [← s1]; exact ((Ext.refl _).alloc _).row (heap_alloc_new _ _)
  · rw [← s2]; exact heap_alloc_new _ _

/-- one element of one cell written anew -/
theorem Own_cell {α : Type} {f : α → List Value} {t : TypeId} {w : World} {g n c : Nat} {l : List α} (E : Enc f 1) (h : Own f t 1 w (.slice (some ⟨g, 0, none⟩) n c) l) (k : Nat) (y : α) (u : Value) (hy : f y = [u]) (hk : k < l.length) :
    Own f t 1 (w.setCell ⟨g, k, none⟩ u) (.slice (some ⟨g, 0, none⟩) n c) (l.set k y) ∧ w.frozen? ⟨g, k, none⟩ = false ∧ ∃ u0, w.cell? ⟨g, k, none⟩ = some u0 := by
  rcases h.at with ⟨e, _⟩ | ⟨g', cap, L, e, h1, h2, h3, h4, h5⟩
  · simp at e
  · simp only [Value.slice.injEq, Option.some.injEq, Addr.mk.injEq] at e
    obtain ⟨⟨rfl, _, _⟩, rfl, rfl⟩ := e
    rw [Nat.mul_one] at h4 h5
    have e1 : w.setCell ⟨g, k, none⟩ u = w.setRow g (L.toArray.setIfInBounds k u) := setCell_eq_setRow w g _ _ _ _ _ h1
    have h6 := setRow_heap w g L.toArray (L.toArray.setIfInBounds k u) _ _ h1
    have e3 : fcells f (l.set k y) = (fcells f l).set k u := by
      rw [fcells_set E l k y hk, hy, Nat.mul_one]
      unfold splice
      rw [List.set_eq_take_append_cons_drop, if_pos (by rw [fcells_length E, Nat.mul_one]; exact hk)]
      rfl
    refine ⟨?_, frozen_of_row _ _ _ _ _ h1, ?_⟩
    · rw [e1]
      refine ⟨by rw [fcells_length E], .inr ⟨g, c, _, by rw [List.length_set], Nat.zero_le _, h6, by rw [List.length_set]; exact h2, h3, by simp; omega, ?_⟩⟩
      rw [List.length_set, Nat.mul_one, e3, ← h5]
      simp [List.take_set]
    · rw [cell_of_row w g _ _ _ _ h1, List.getElem?_toArray]
      exact ⟨_, List.getElem?_eq_getElem (by omega)⟩
/-- the counts as a list of cells -/
def scl (s : Cts) : List Value := [.int .i64 s.1, .int .i64 s.2.1, .int .i64 s.2.2.1, .int .i64 s.2.2.2.1, .int .i64 s.2.2.2.2.1, .int .i64 s.2.2.2.2.2]
theorem scs_list (s : Cts) : scs s = (scl s).toArray := rfl
theorem scl_one (s : Cts) : ∀ v ∈ scl s, v.oneCell' = true := by
  intro v h
  simp only [scl, List.mem_cons, List.not_mem_nil, or_false] at h
  rcases h with rfl | rfl | rfl | rfl | rfl | rfl <;> rfl

set_option maxHeartbeats 8000000 in
theorem give_behind (K : Nat → Prop) (c : Cfg) (av lv fv : Value) (ls : List Ms) (fs : List (Int × Int)) (used : Nat) (s : Cts) (at_ : Nat) (x : Ms) (now : Int) (tx : List UInt8) (w : World) (hL : ListsK K w lv ls) (hF : RowK K w fv 2 (fcells pr fs)) (ha : ls[at_]? = some x) (hn : ls.length ≤ 100) (hu : ¬ used < fs.length) (hav : av.oneCell' = true)
    (hx : x.length ≤ 900) (hs : SB 900000000 s) (ht : tx.length ≤ 1000) (hd0 : 0 ≤ now) (hd1 : now ≤ 1099511627776) (hc0 : 0 ≤ c.2.1) (hc1 : c.2.1 ≤ 64) :
    Calls Try.prog 22 #[.agg (mcs c av lv fv (used : Int) s), .int .i64 (at_ : Int), .int .i64 now, .string (str tx)] w fun e w' => ∃ lv', e = .returned (.agg (mcs c av lv' fv (used : Int) (give1 x c.2.2.1 (now + c.2.1) tx (0, 0) s).2)) ∧ ListsK (fun i => K i ∨ (w.heap.size ≤ i ∧ i < w'.heap.size)) w' lv' (ls.set at_ (give1 x c.2.2.1 (now + c.2.1) tx (0, 0) s).1) ∧ Ext w w' := by
  obtain ⟨c1, c2, c3, c4, c5⟩ := c
  have HSB := hid hs
  have GIVE : Hid (∀ (U : World) (v : Value) (kind N : Int), RowK (fun i => K i ∧ i < w.heap.size) U v 2 (rcells x) → -9223372036854775808 ≤ N → N ≤ 9223372036854775807 → Calls Try.prog 41 #[v, .int .i64 c3, .int .i64 (now + c2), .string (str tx), .agg #[.int .i64 kind, .int .i64 N], .agg (scs s)] U fun e w' => Tells (fun i => K i ∧ i < w.heap.size) U (give1 x c3 (now + c2) tx (kind, N) s) e w') := fun U v kind N hv n0 n1 => refGive_any _ v x c3 (now + c2) kind N tx s U hv hx hs ht (by simp only at hc0; omega) (by simp only at hc1; omega) n0 n1
  obtain ⟨s0, s1, s2, s3, s4, s5⟩ := s
  unfold mcs
  simp only at hc0 hc1 ⊢
  obtain ⟨n, en⟩ : ∃ n, n = w.heap.size := ⟨_, rfl⟩
  have EN := hid en
  obtain ⟨fo, FN, fc, rfl, f1, f2, f3, f4⟩ := hF
  rw [fcells_length encP] at f1
  have f5 : FN = fs.length := by omega
  obtain ⟨vs, v1, v3, v4⟩ := hL
  obtain ⟨sl, es, rs⟩ := v4 at_ x ha
  have hat := (List.getElem?_eq_some_iff.1 es).1
  have V3 := hid v3
  obtain ⟨lo, M, lc, rfl, l1, l2, l3, l4⟩ := v3
  rw [fcells_length encS] at l1
  have lM : M = vs.length := by omega
  unfold maxLen at f3 l3
  have hu' : ¬ (used : Int) < (FN : Int) := by omega
  have RSL := hid (rs.mono (L := fun i => K i ∧ i < w.heap.size) (by decide) (fun i hi h => ⟨h, hi⟩))
  have M100 : M ≤ 100 := by omega
  have hatM : at_ < M := by omega
  have HAT : Hid (at_ < vs.length) := hat
  have HA := hid ha
  have HAV := hid hav
  have fb0 : (-9223372036854775808 : Int) ≤ 0 := by decide
  have fb1 : (0 : Int) ≤ 9223372036854775807 := by decide
  have V4 := hid v4
  have HL4 : Hid (vs.length = ls.length) := v1
  clear f4 l4 v4 rs f1 l1
  obtain ⟨V, eV⟩ : ∃ V, V = mx w #[.int .i64 c1, .int .i64 c2, .int .i64 c3, .int .i64 c4, .int .i64 c5, av, .slice lo M lc, .slice fo FN fc, .int .i64 (used : Int), .int .i64 s0, .int .i64 s1, .int .i64 s2, .int .i64 s3, .int .i64 s4, .int .i64 s5] #[.int .i64 0, .int .i64 0] := ⟨_, rfl⟩
  have RS := mx_rows w #[.int .i64 c1, .int .i64 c2, .int .i64 c3, .int .i64 c4, .int .i64 c5, av, .slice lo M lc, .slice fo FN fc, .int .i64 (used : Int), .int .i64 s0, .int .i64 s1, .int .i64 s2, .int .i64 s3, .int .i64 s4, .int .i64 s5] #[.int .i64 0, .int .i64 0]
  have SZ := mx_size w #[.int .i64 c1, .int .i64 c2, .int .i64 c3, .int .i64 c4, .int .i64 c5, av, .slice lo M lc, .slice fo FN fc, .int .i64 (used : Int), .int .i64 s0, .int .i64 s1, .int .i64 s2, .int .i64 s3, .int .i64 s4, .int .i64 s5] #[.int .i64 0, .int .i64 0]
  have XV := hid (mx_ext w #[.int .i64 c1, .int .i64 c2, .int .i64 c3, .int .i64 c4, .int .i64 c5, av, .slice lo M lc, .slice fo FN fc, .int .i64 (used : Int), .int .i64 s0, .int .i64 s1, .int .i64 s2, .int .i64 s3, .int .i64 s4, .int .i64 s5] #[.int .i64 0, .int .i64 0])
  have EV : Hid (V = mx w #[.int .i64 c1, .int .i64 c2, .int .i64 c3, .int .i64 c4, .int .i64 c5, av, .slice lo M lc, .slice fo FN fc, .int .i64 (used : Int), .int .i64 s0, .int .i64 s1, .int .i64 s2, .int .i64 s3, .int .i64 s4, .int .i64 s5] #[.int .i64 0, .int .i64 0]) := eV
  rw [← eV] at RS SZ XV
  rw [← en] at RS SZ
  have R0 := hid RS.1
  have R1 := hid RS.2.1
  have R2 := hid RS.2.2
  have N0 : NewR senc 78 1 V (V.alloc (.cells #[] 78)) (.slice (some ⟨V.heap.size, 0, none⟩) 0 0) [] :=
    ⟨Own.made _ _ _ V, fun k hk => by simp only [Value.ownBlock, Option.some.injEq] at hk; omega, (Ext.refl V).alloc _⟩
  obtain ⟨v5, W5, r5, N5, _⟩ := N0.put elemsL encS 35 (.slice lo M lc) vs (V3.out.kept (Kept.of_ext (XV.out.trans N0.2.2))) (by simp; omega)
  rw [List.nil_append] at N5
  have RR5 := hid r5
  have NN5 := hid N5
  obtain ⟨g5, c5', e5⟩ : ∃ g5 c5', v5 = .slice (some ⟨g5, 0, none⟩) M c5' := by
    rcases N5.1.at with ⟨_, e⟩ | ⟨g5, cap, L, e, _⟩
    · rw [e] at hat; simp at hat
    · exact ⟨g5, cap, by rw [lM]; exact e⟩
  subst e5
  have y5 : W5.cell? ⟨g5, at_, none⟩ = some (sval sl) := by
    obtain ⟨ao, c', e, _, _, hc⟩ := N5.1.view encS
    obtain ⟨g', eg, hc2⟩ := hc at_ sl es
    simp only [Value.slice.injEq] at e
    rw [← e.1] at eg
    simp only [Option.some.injEq, Addr.mk.injEq, and_true] at eg
    subst eg
    have := hc2 0 (sval sl) rfl
    rw [Nat.mul_one, Nat.add_zero] at this
    exact this
  have M5 : M ≤ c5' ∧ c5' ≤ maxLen := by
    obtain ⟨ao, c', e, q1, q2, _⟩ := N5.1.view encS
    simp only [Value.slice.injEq] at e
    obtain ⟨_, _, rfl⟩ := e
    exact ⟨by omega, q2⟩
  have G5 : Hid (V.heap.size ≤ g5) := N5.2.1 g5 rfl
  rw [SZ] at RR5
  have fb0 : (-9223372036854775808 : Int) ≤ 0 := by decide
  have fb1 : (0 : Int) ≤ 9223372036854775807 := by decide
  unfold maxLen at M5
  obtain ⟨m51, m52⟩ := M5
  have B0 := hid (N5.2.2.row R0.out)
  have B1 := hid (N5.2.2.row R1.out)
  have B2 := hid (N5.2.2.row R2.out)
  have ia1 : (at_ : Int) < (M : Int) := by omega
  have ia2 : (0 : Int) ≤ (at_ : Int) := by omega
  have wd : IntKind.i64.wrap (now + c2) = now + c2 := IntWalk.i64_in _ (by omega)
  obtain ⟨sl1, sl2, sl3⟩ := sl
  have ZZ0 := SZ
  clear RS SZ N0 N5 r5 en eV es f5 v1 lM
  simp only [sval] at y5
  have VZ : Hid (V.heap.size = n + 1 + 1 + 1) := ZZ0
  have W5Z : Hid (V.heap.size ≤ W5.heap.size) := NN5.out.2.2.size
  have G5L : Hid (g5 < W5.heap.size) := NN5.out.1.lt rfl
  clear ZZ0
  go_enter Try.func22, Try.ntmps22
  go_wp2_with (at_builtin; rw [← EN.out]; refine wpList_append_run _ rfl (.tmp 28) (.tmp 30) 35 35 rfl _ _ rfl rfl _ _ (by rw [EV.out] at RR5; exact RR5.out) ?_)
  have XD : Hid (Ext W5 W5.drew) := (Ext.refl W5).drewN 1
  have GV := hid (GIVE.out W5.drew (.slice sl1 sl2 sl3) (0) (0) (RSL.out.kept (Kept.of_ext ((XV.out.trans NN5.out.2.2).trans XD.out))) fb0 fb1)
  obtain ⟨r, er⟩ : ∃ r, r = give1 x c3 (now + c2) tx (0, 0) (s0, s1, s2, s3, s4, s5) := ⟨_, rfl⟩
  rw [← er] at GV
  have ER := hid er
  clear er
  have q1 : W5.cell? ⟨n, 1, none⟩ = some (.int .i64 c2) := by rw [cell_of_row W5 _ 1 _ _ _ B0.out]; rfl
  have q2 : W5.cell? ⟨n, 2, none⟩ = some (.int .i64 c3) := by rw [cell_of_row W5 _ 2 _ _ _ B0.out]; rfl
  have p9 : W5.cell? ⟨n, 9, none⟩ = some (.int .i64 s0) := by rw [cell_of_row W5 _ 9 _ _ _ B0.out]; rfl
  have p10 : W5.cell? ⟨n, 10, none⟩ = some (.int .i64 s1) := by rw [cell_of_row W5 _ 10 _ _ _ B0.out]; rfl
  have p11 : W5.cell? ⟨n, 11, none⟩ = some (.int .i64 s2) := by rw [cell_of_row W5 _ 11 _ _ _ B0.out]; rfl
  have p12 : W5.cell? ⟨n, 12, none⟩ = some (.int .i64 s3) := by rw [cell_of_row W5 _ 12 _ _ _ B0.out]; rfl
  have p13 : W5.cell? ⟨n, 13, none⟩ = some (.int .i64 s4) := by rw [cell_of_row W5 _ 13 _ _ _ B0.out]; rfl
  have p14 : W5.cell? ⟨n, 14, none⟩ = some (.int .i64 s5) := by rw [cell_of_row W5 _ 14 _ _ _ B0.out]; rfl
  have hH : W5.cell? ⟨n, 1, none⟩ = some (.int .i64 c2) ∧ W5.cell? ⟨n, 2, none⟩ = some (.int .i64 c3) ∧ W5.heap[n + 1 + 1]? = some (.cells #[.int .i64 0, .int .i64 0] 69 (0, 0)) := ⟨q1, q2, B2.out⟩
  clear q1 q2
  refine wp_region_held_drew (S := fun U => U.cell? ⟨n, 1, none⟩ = some (.int .i64 c2) ∧ U.cell? ⟨n, 2, none⟩ = some (.int .i64 c3) ∧ U.heap[n + 1 + 1]? = some (.cells #[.int .i64 0, .int .i64 0] 69 (0, 0))) (by kernel_rfl) hH (fun hHeld => ?_)
  refine takeE (v := ?_) 0 33 rfl rfl (by kernel_rfl) (by kernel_rfl) (by kernel_rfl) (fun _ _ _ h => h) (Or.inl ⟨by rfl, fun V hV => ?_⟩) hHeld ?_
  rotate_left
  · (go_simp; try with_reducible rfl)
  simp only [Act.put, List.setIfInBounds_toArray, List.set_cons_zero, List.set_cons_succ]
  refine takeE (v := ?_) 1 34 rfl rfl (by kernel_rfl) (by kernel_rfl) (by kernel_rfl) (fun _ _ _ h => h) (Or.inl ⟨by rfl, fun V hV => ?_⟩) hHeld ?_
  rotate_left
  · (go_simp; try with_reducible rfl)
  simp only [Act.put, List.setIfInBounds_toArray, List.set_cons_zero, List.set_cons_succ]
  refine takeE (v := ?_) 2 35 rfl rfl (by kernel_rfl) (by kernel_rfl) (by kernel_rfl) (fun _ _ _ h => h) (Or.inl ⟨by rfl, fun V hV => ?_⟩) hHeld ?_
  rotate_left
  · (go_simp; try with_reducible rfl)
  simp only [Act.put, List.setIfInBounds_toArray, List.set_cons_zero, List.set_cons_succ]
  refine takeE (v := ?_) 3 36 rfl rfl (by kernel_rfl) (by kernel_rfl) (by kernel_rfl) (fun _ _ _ h => h) (Or.inl ⟨by rfl, fun V hV => ?_⟩) hHeld ?_
  rotate_left
  · (go_simp; try with_reducible rfl)
  simp only [Act.put, List.setIfInBounds_toArray, List.set_cons_zero, List.set_cons_succ]
  refine takeE (v := ?_) 4 37 rfl rfl (by kernel_rfl) (by kernel_rfl) (by kernel_rfl) (fun _ _ _ h => h) (Or.inl ⟨by rfl, fun V hV => ?_⟩) hHeld ?_
  rotate_left
  · (go_simp; try with_reducible rfl)
  simp only [Act.put, List.setIfInBounds_toArray, List.set_cons_zero, List.set_cons_succ]
  refine takeE (v := ?_) 6 39 rfl rfl (by kernel_rfl) (by kernel_rfl) (by kernel_rfl) (fun _ _ _ h => h) (Or.inl ⟨by rfl, fun V hV => ?_⟩) hHeld ?_
  rotate_left
  · (go_simp; try with_reducible rfl)
  simp only [Act.put, List.setIfInBounds_toArray, List.set_cons_zero, List.set_cons_succ]
  refine takeE (v := ?_) 7 40 rfl rfl (by kernel_rfl) (by kernel_rfl) (by kernel_rfl) (fun _ _ _ h => h) (Or.inl ⟨by rfl, fun V hV => ?_⟩) hHeld ?_
  rotate_left
  · (go_simp; try with_reducible rfl)
  simp only [Act.put, List.setIfInBounds_toArray, List.set_cons_zero, List.set_cons_succ]
  refine takeE (v := ?_) 8 41 rfl rfl (by kernel_rfl) (by kernel_rfl) (by kernel_rfl) (fun _ _ _ h => h) (Or.inl ⟨by rfl, fun V hV => ?_⟩) hHeld ?_
  rotate_left
  · (have z := hV.2.1; go_simp; try with_reducible rfl)
  simp only [Act.put, List.setIfInBounds_toArray, List.set_cons_zero, List.set_cons_succ]
  refine takeE (v := ?_) 9 42 rfl rfl (by kernel_rfl) (by kernel_rfl) (by kernel_rfl) (fun _ _ _ h => h) (Or.inl ⟨by rfl, fun V hV => ?_⟩) hHeld ?_
  rotate_left
  · (go_simp; try with_reducible rfl)
  simp only [Act.put, List.setIfInBounds_toArray, List.set_cons_zero, List.set_cons_succ]
  refine takeE (v := ?_) 10 43 rfl rfl (by kernel_rfl) (by kernel_rfl) (by kernel_rfl) (fun _ _ _ h => h) (Or.inl ⟨by rfl, fun V hV => ?_⟩) hHeld ?_
  rotate_left
  · (go_simp; try with_reducible rfl)
  simp only [Act.put, List.setIfInBounds_toArray, List.set_cons_zero, List.set_cons_succ]
  refine takeE (v := ?_) 11 44 rfl rfl (by kernel_rfl) (by kernel_rfl) (by kernel_rfl) (fun _ _ _ h => h) (Or.inl ⟨by rfl, fun V hV => ?_⟩) hHeld ?_
  rotate_left
  · (go_simp; try with_reducible rfl)
  simp only [Act.put, List.setIfInBounds_toArray, List.set_cons_zero, List.set_cons_succ]
  refine takeE (v := ?_) 12 45 rfl rfl (by kernel_rfl) (by kernel_rfl) (by kernel_rfl) (fun _ _ _ h => h) (Or.inl ⟨by rfl, fun V hV => ?_⟩) hHeld ?_
  rotate_left
  · (have z := hV.1; go_simp; try with_reducible rfl)
  simp only [Act.put, List.setIfInBounds_toArray, List.set_cons_zero, List.set_cons_succ]
  refine takeE (v := ?_) 13 46 rfl rfl (by kernel_rfl) (by kernel_rfl) (by kernel_rfl) (fun _ _ _ h => h) (Or.inl ⟨by rfl, fun V hV => ?_⟩) hHeld ?_
  rotate_left
  · (go_simp; try with_reducible rfl)
  simp only [Act.put, List.setIfInBounds_toArray, List.set_cons_zero, List.set_cons_succ]
  refine takeE (v := ?_) 14 47 rfl rfl (by kernel_rfl) (by kernel_rfl) (by kernel_rfl) (fun _ _ _ h => h) (Or.inl ⟨by rfl, fun V hV => ?_⟩) hHeld ?_
  rotate_left
  · (go_simp; try with_reducible rfl)
  simp only [Act.put, List.setIfInBounds_toArray, List.set_cons_zero, List.set_cons_succ]
  refine takeE (v := .agg #[.int .i64 0, .int .i64 0]) 15 48 rfl rfl (by kernel_rfl) (by kernel_rfl) (by kernel_rfl) (fun _ _ _ h => h) ?_ hHeld ?_
  · exact yields_row 69 (.tmp 9) rfl (by rfl) (n + 1 + 1) (by rfl) 69 _ (0, 0) _ (fun U hU => hU.2.2) Try.underlying69 rfl (by kernel_rfl)
  simp only [Act.put, List.setIfInBounds_toArray, List.set_cons_zero, List.set_cons_succ]
  refine takeE (v := ?_) 16 49 rfl rfl (by kernel_rfl) (by kernel_rfl) (by kernel_rfl) (fun _ _ _ h => h) (Or.inl ⟨by rfl, fun V hV => ?_⟩) hHeld ?_
  rotate_left
  · (go_simp; try with_reducible rfl)
  simp only [Act.put, List.setIfInBounds_toArray, List.set_cons_zero, List.set_cons_succ]
  refine bothE 5 38 17 50 rfl rfl rfl rfl (by kernel_rfl) (by kernel_rfl) (by kernel_rfl) (by rfl) (by rfl) (by rfl) (by rfl) (v := .slice sl1 sl2 sl3) (u := .agg #[.int .i64 s0, .int .i64 s1, .int .i64 s2, .int .i64 s3, .int .i64 s4, .int .i64 s5]) (w' := W5.drew) (by go_simp; try with_reducible rfl) (by go_simp; try with_reducible rfl) (by go_simp; try with_reducible rfl) (by go_simp; try with_reducible rfl) hHeld hHeld ?_ ?_
  · skip
    simp only [Act.put, List.setIfInBounds_toArray, List.set_cons_zero, List.set_cons_succ]
    refine callE 18 51 rfl rfl (by kernel_rfl) (by rfl) (by go_simp; first | exact ⟨rfl, rfl⟩ | rfl) ?_
    refine GV.out.mono ?_
    rintro e w6 ⟨v6, rfl, rw6, x6⟩
    have X6 : Ext W5 w6 := XD.out.trans x6
    obtain ⟨h61, h62, h63⟩ : w6.cell? ⟨n, 1, none⟩ = some (.int .i64 c2) ∧ w6.cell? ⟨n, 2, none⟩ = some (.int .i64 c3) ∧ w6.heap[n + 1 + 1]? = some (.cells #[.int .i64 0, .int .i64 0] 69 (0, 0)) := ⟨X6.cell hH.1, X6.cell hH.2.1, X6.row hH.2.2⟩
    obtain ⟨l61, l62, l63, el6, _⟩ : ∃ a m k, v6 = .slice a m k ∧ True := by
      obtain ⟨a, m, k, e, _⟩ := rw6
      exact ⟨a, m, k, e, trivial⟩
    subst el6
    refine ⟨_, rfl, ⟨h61, h62, h63⟩, ?_⟩
    simp only [Act.put, List.setIfInBounds_toArray, List.set_cons_zero, List.set_cons_succ]
    refine takeE (v := ?_) 19 32 rfl rfl (by kernel_rfl) (by kernel_rfl) (by kernel_rfl) (fun _ _ _ h => h) (Or.inl ⟨by rfl, fun V hV => ?_⟩) ⟨h61, h62, h63⟩ ?_
    rotate_left
    · (go_simp; try with_reducible rfl)
    simp only [Act.put, List.setIfInBounds_toArray, List.set_cons_zero, List.set_cons_succ]
    refine takeE (v := ?_) 20 52 rfl rfl (by kernel_rfl) (by kernel_rfl) (by kernel_rfl) (fun _ _ _ h => h) (Or.inl ⟨by rfl, fun V hV => ?_⟩) ⟨h61, h62, h63⟩ ?_
    rotate_left
    · (go_simp; try with_reducible rfl)
    simp only [Act.put, List.setIfInBounds_toArray, List.set_cons_zero, List.set_cons_succ]
    refine takeE (v := ?_) 21 53 rfl rfl (by kernel_rfl) (by kernel_rfl) (by kernel_rfl) (fun _ _ _ h => h) (Or.inl ⟨by rfl, fun V hV => ?_⟩) ⟨h61, h62, h63⟩ ?_
    rotate_left
    · (go_simp; try with_reducible rfl)
    simp only [Act.put, List.setIfInBounds_toArray, List.set_cons_zero, List.set_cons_succ]
    refine takeE (v := ?_) 22 54 rfl rfl (by kernel_rfl) (by kernel_rfl) (by kernel_rfl) (fun _ _ _ h => h) (Or.inl ⟨by rfl, fun V hV => ?_⟩) ⟨h61, h62, h63⟩ ?_
    rotate_left
    · (go_simp; try with_reducible rfl)
    simp only [Act.put, List.setIfInBounds_toArray, List.set_cons_zero, List.set_cons_succ]
    obtain ⟨o7, fz7, u7, cu7⟩ := Own_cell encS (NN5.out.1.ext X6) at_ (l61, l62, l63) (.slice l61 l62 l63) rfl HAT.out
    have K7 : Kept (fun i => i ≠ g5) w6 (w6.setCell ⟨g5, at_, none⟩ (.slice l61 l62 l63)) := (Kept.refl _ w6).setCell (fun hne => hne rfl) _
    have ng : n ≠ g5 ∧ n + 1 ≠ g5 ∧ n + 1 + 1 ≠ g5 := by have := G5.out; have := VZ.out; omega
    have h71 := K7.cell ng.1 h61
    have h72 := K7.cell ng.1 h62
    have h73 := K7.row ng.2.2 h63
    have B7 := K7.row ng.1 (X6.row B0.out)
    have C7 := K7.row ng.2.1 (X6.row B1.out)
    refine storeN 23 rfl rfl (by kernel_rfl) (by rfl) (w' := w6.setCell ⟨g5, at_, none⟩ (.slice l61 l62 l63)) (by go_simp; try with_reducible rfl) ⟨h71, h72, h73⟩ ?_
    refine takeE (v := ?_) 24 55 rfl rfl (by kernel_rfl) (by kernel_rfl) (by kernel_rfl) (fun _ _ _ h => h) (Or.inl ⟨by rfl, fun V hV => ?_⟩) ⟨h71, h72, h73⟩ ?_
    rotate_left
    · (go_simp; try with_reducible rfl)
    simp only [Act.put, List.setIfInBounds_toArray, List.set_cons_zero, List.set_cons_succ]
    have sp : splice (Array.toList #[.int .i64 c1, .int .i64 c2, .int .i64 c3, .int .i64 c4, .int .i64 c5, av, .slice lo M lc, .slice fo FN fc, .int .i64 (used : Int), .int .i64 s0, .int .i64 s1, .int .i64 s2, .int .i64 s3, .int .i64 s4, .int .i64 s5]) 9 (scl r.2) = Array.toList #[.int .i64 c1, .int .i64 c2, .int .i64 c3, .int .i64 c4, .int .i64 c5, av, .slice lo M lc, .slice fo FN fc, .int .i64 ((used : Int)), .int .i64 r.2.1, .int .i64 r.2.2.1, .int .i64 r.2.2.2.1, .int .i64 r.2.2.2.2.1, .int .i64 r.2.2.2.2.2.1, .int .i64 r.2.2.2.2.2.2] := rfl
    have st8 := run_store_part (P := Try.prog) (w6.setCell ⟨g5, at_, none⟩ (.slice l61 l62 l63)) n 9 40 38 _ (scl r.2) B7 size_sts (by simp [scl]) (scl_one r.2)
    rw [sp] at st8
    obtain ⟨w8, e8⟩ : ∃ w8, w8 = (w6.setCell ⟨g5, at_, none⟩ (.slice l61 l62 l63)).setRow n (Array.toList #[.int .i64 c1, .int .i64 c2, .int .i64 c3, .int .i64 c4, .int .i64 c5, av, .slice lo M lc, .slice fo FN fc, .int .i64 ((used : Int)), .int .i64 r.2.1, .int .i64 r.2.2.1, .int .i64 r.2.2.2.1, .int .i64 r.2.2.2.2.1, .int .i64 r.2.2.2.2.2.1, .int .i64 r.2.2.2.2.2.2]).toArray := ⟨_, rfl⟩
    rw [← e8] at st8
    have K8 : Kept (fun i => i ≠ n) (w6.setCell ⟨g5, at_, none⟩ (.slice l61 l62 l63)) w8 := by rw [e8]; exact (Kept.refl _ _).setRow (fun hne => hne rfl) _
    have B8 : w8.heap[n]? = some (.cells #[.int .i64 c1, .int .i64 c2, .int .i64 c3, .int .i64 c4, .int .i64 c5, av, .slice lo M lc, .slice fo FN fc, .int .i64 ((used : Int)), .int .i64 r.2.1, .int .i64 r.2.2.1, .int .i64 r.2.2.2.1, .int .i64 r.2.2.2.2.1, .int .i64 r.2.2.2.2.2.1, .int .i64 r.2.2.2.2.2.2] 40 (0, 0)) := by rw [e8]; exact setRow_heap _ _ _ _ _ _ B7
    have C8 := K8.row (show n + 1 ≠ n by omega) C7
    have h81 : w8.cell? ⟨n, 1, none⟩ = some (.int .i64 c2) := by rw [cell_of_row w8 _ 1 _ _ _ B8]; rfl
    have h82 : w8.cell? ⟨n, 2, none⟩ = some (.int .i64 c3) := by rw [cell_of_row w8 _ 2 _ _ _ B8]; rfl
    have h83 := K8.row (show n + 1 + 1 ≠ n by omega) h73
    refine storeN 25 rfl rfl (by kernel_rfl) (by rfl) (w' := w8) (exec_store 38 (.tmp 55) (.tmp 53) rfl st8) ⟨h81, h82, h83⟩ ?_
    refine wpAnyH_done (by kernel_rfl) ?_ _
    -- lists, as they lie now
    have L7 : ListsK (fun i => i ≠ n ∧ i ≠ n + 1 ∧ (K i ∨ w.heap.size ≤ i)) w8 (.slice (some ⟨g5, 0, none⟩) M c5') (ls.set at_ r.1) := by
      have szs := VZ.out
      have en := EN.out
      have g5' := G5.out
      have s6 := X6.size
      refine ⟨vs.set at_ (l61, l62, l63), by rw [List.length_set, List.length_set]; exact HL4.out, ?_, fun i y hy => ?_⟩
      · have q := (o7.row).mono (L := fun i => i ≠ n ∧ i ≠ n + 1 ∧ (K i ∨ w.heap.size ≤ i)) (by decide) (fun i hi h => by simp only [Value.ownBlock, Option.some.injEq] at h; exact ⟨by omega, by omega, .inr (by omega)⟩)
        exact q.kept (K8.mono (fun i h => h.1))
      · rw [List.getElem?_set] at hy ⊢
        by_cases e : at_ = i
        · subst e
          rw [if_pos rfl] at hy ⊢
          have la : at_ < ls.length := (List.getElem?_eq_some_iff.1 HA.out).1
          rw [if_pos la] at hy
          rw [if_pos HAT.out]
          obtain rfl : r.1 = y := by simpa using hy
          refine ⟨_, rfl, ?_⟩
          have q := rw6.mono (L := fun i => i ≠ g5 ∧ i ≠ n ∧ i ≠ n + 1 ∧ (K i ∨ w.heap.size ≤ i)) (by decide) (fun i hi h => by
            rcases h with h | h
            · exact ⟨by omega, by omega, by omega, .inl h.1⟩
            · have := W5Z.out
              exact ⟨by have h1 := h.1; have := G5L.out; simp at h1; omega, by have h1 := h.1; simp at h1; omega, by have h1 := h.1; simp at h1; omega, .inr (by have h1 := h.1; simp at h1; omega)⟩)
          exact ((RowK.kept q (K7.mono (fun i h => h.1))).mono (L := fun i => i ≠ n ∧ i ≠ n + 1 ∧ (K i ∨ w.heap.size ≤ i)) (by decide) (fun i hi h => h.2)).kept (K8.mono (fun i h => h.1))
        · rw [if_neg e] at hy ⊢
          obtain ⟨v0, e0, r0⟩ := V4.out i y hy
          refine ⟨v0, e0, ?_⟩
          have q := r0.mono (L := fun i => (i ≠ g5 ∧ i ≠ n ∧ i ≠ n + 1) ∧ (K i ∨ w.heap.size ≤ i)) (by decide) (fun i hi h => ⟨⟨by omega, by omega, by omega⟩, .inl h⟩)
          have q6 := q.kept (Kept.of_ext ((XV.out.trans NN5.out.2.2).trans X6))
          have q7 := RowK.kept q6 (K7.mono (fun i h => h.1.1))
          exact (RowK.kept q7 (K8.mono (fun i h => h.1.2.1))).mono (by decide) (fun i hi h => ⟨h.1.2.1, h.1.2.2, h.2⟩)
    have X8 : Ext w w8 := by
      have X60 := (XV.out.trans NN5.out.2.2).trans X6
      have en := EN.out
      have X7 : Ext w (w6.setCell ⟨g5, at_, none⟩ (.slice l61 l62 l63)) := Below.trans X60 (K7.below X60.size (fun i hi => by have := G5.out; have := VZ.out; omega))
      exact Below.trans X7 (K8.below X7.size (fun i hi => by omega))
    have LL7 := hid L7
    have XX8 := hid X8
    have CC8 := hid C8
    have BB8 := hid B8
    have c86 : w8.cell? ⟨n, 6, none⟩ = some (.slice lo M lc) := by rw [cell_of_row w8 _ 6 _ _ _ B8]; rfl
    have f86 : w8.frozen? ⟨n, 6, none⟩ = false := frozen_of_row _ _ _ _ _ B8
    have eS := setCell_eq_setRow w8 n 6 _ _ _ (.slice (some ⟨g5, 0, none⟩) M c5') B8
    clear L7 X8 C8 st8 sp e8 K8 B7 C7 h61 h62 h63 h71 h72 h73 h81 h82 h83 o7 fz7 cu7 K7 rw6 x6 X6 p9 p10 p11 p12 p13 p14 y5 hH hHeld B0 B1 B2 XD B8
    have B9 : Hid ((w8.setCell ⟨n, 6, none⟩ (.slice (some ⟨g5, 0, none⟩) M c5')).heap[n]? = some (.cells #[.int .i64 c1, .int .i64 c2, .int .i64 c3, .int .i64 c4, .int .i64 c5, av, .slice (some ⟨g5, 0, none⟩) M c5', .slice fo FN fc, .int .i64 ((used : Int)), .int .i64 r.2.1, .int .i64 r.2.2.1, .int .i64 r.2.2.2.1, .int .i64 r.2.2.2.2.1, .int .i64 r.2.2.2.2.2.1, .int .i64 r.2.2.2.2.2.2] 40 (0, 0))) := by rw [eS]; exact setRow_heap _ _ _ _ _ _ BB8.out
    clear eS
    obtain ⟨w9, e9⟩ : ∃ w9, w9 = w8.setCell ⟨n, 6, none⟩ (.slice (some ⟨g5, 0, none⟩) M c5') := ⟨_, rfl⟩
    have K9 : Kept (fun i => i ≠ n) w8 w9 := by rw [e9]; exact (Kept.refl _ _).setCell (fun hne => hne rfl) _
    have C9 : Hid ((w8.setCell ⟨n, 6, none⟩ (.slice (some ⟨g5, 0, none⟩) M c5')).heap[n + 1]? = some (.cells #[.int .i64 0, .int .i64 0, .int .i64 0, .int .i64 0, .int .i64 0, .slice none 0 0, .slice none 0 0, .slice none 0 0, .int .i64 0, .int .i64 0, .int .i64 0, .int .i64 0, .int .i64 0, .int .i64 0, .int .i64 0] 40 (0, 0))) := by show _ = _; rw [← e9]; exact K9.row (by omega) CC8.out
    obtain ⟨w10, e10⟩ : ∃ w10, w10 = (w8.setCell ⟨n, 6, none⟩ (.slice (some ⟨g5, 0, none⟩) M c5')).setRow (n + 1) #[.int .i64 c1, .int .i64 c2, .int .i64 c3, .int .i64 c4, .int .i64 c5, av, .slice (some ⟨g5, 0, none⟩) M c5', .slice fo FN fc, .int .i64 ((used : Int)), .int .i64 r.2.1, .int .i64 r.2.2.1, .int .i64 r.2.2.2.1, .int .i64 r.2.2.2.2.1, .int .i64 r.2.2.2.2.2.1, .int .i64 r.2.2.2.2.2.2] := ⟨_, rfl⟩
    have D10 : Hid (w10.heap[n + 1]? = some (.cells #[.int .i64 c1, .int .i64 c2, .int .i64 c3, .int .i64 c4, .int .i64 c5, av, .slice (some ⟨g5, 0, none⟩) M c5', .slice fo FN fc, .int .i64 ((used : Int)), .int .i64 r.2.1, .int .i64 r.2.2.1, .int .i64 r.2.2.2.1, .int .i64 r.2.2.2.2.1, .int .i64 r.2.2.2.2.2.1, .int .i64 r.2.2.2.2.2.2] 40 (0, 0))) := by rw [e10]; exact setRow_heap _ _ _ _ _ _ C9.out
    have K10 : Kept (fun i => i ≠ n + 1) w9 w10 := by rw [e10, e9]; exact (Kept.refl _ _).setRow (fun hne => hne rfl) _
    have FIN : Hid (ListsK (fun i => K i ∨ (w.heap.size ≤ i ∧ i < w10.heap.size)) w10 (.slice (some ⟨g5, 0, none⟩) M c5') (ls.set at_ r.1) ∧ Ext w w10) := by
      have en := EN.out
      refine ⟨((LL7.out.kept (K9.mono (fun i h => h.1))).kept (K10.mono (fun i h => h.2.1))).mono (fun i hi h => h.2.2.imp id (fun h2 => ⟨h2, hi⟩)), ?_⟩
      have X9 := Below.trans XX8.out (K9.below XX8.out.size (fun i hi => by omega))
      exact Below.trans X9 (K10.below (Below.size X9) (fun i hi => by omega))
    have E10 := hid e10
    have ONE : Hid ((#[Value.int .i64 c1, .int .i64 c2, .int .i64 c3, .int .i64 c4, .int .i64 c5, av, .slice (some ⟨g5, 0, none⟩) M c5', .slice fo FN fc, .int .i64 ((used : Int)), .int .i64 r.2.1, .int .i64 r.2.2.1, .int .i64 r.2.2.2.1, .int .i64 r.2.2.2.2.1, .int .i64 r.2.2.2.2.2.1, .int .i64 r.2.2.2.2.2.2]).all (·.oneCell') = true) := Array.all_eq_true_iff_forall_mem.2 (fun v hv => by
      simp only [List.mem_toArray, List.mem_cons, List.not_mem_nil, or_false] at hv
      rcases hv with rfl | rfl | rfl | rfl | rfl | rfl | rfl | rfl | rfl | rfl | rfl | rfl | rfl | rfl | rfl <;> first | rfl | exact HAV.out)
    clear K9 K10 e9 e10 LL7 XX8 CC8 BB8
    go_wp2_with (first
      | refine wpList_load_row rfl 40 (.tmp 4) rfl n rfl 40 _ (0, 0) _ B9.out Try.underlying40 rfl size_model ?_
      | refine wpList_store_row rfl 40 (.tmp 8) (.tmp 58) rfl (n + 1) _ rfl rfl 40 _ C9.out size_model rfl ONE.out ?_)
    rw [← E10.out]
    refine bodyPost_ret (results_cell_row Try.results22 _ _ (n + 1) 40 _ (0, 0) _ rfl D10.out Try.underlying40 rfl size_model) rfl ?_
    obtain rfl := ER.out
    exact ⟨_, rfl, FIN.out⟩
  · skip
    simp only [Act.put, List.setIfInBounds_toArray, List.set_cons_zero, List.set_cons_succ]
    refine callE 18 51 rfl rfl (by kernel_rfl) (by rfl) (by go_simp; first | exact ⟨rfl, rfl⟩ | rfl) ?_
    refine GV.out.mono ?_
    rintro e w6 ⟨v6, rfl, rw6, x6⟩
    have X6 : Ext W5 w6 := XD.out.trans x6
    obtain ⟨h61, h62, h63⟩ : w6.cell? ⟨n, 1, none⟩ = some (.int .i64 c2) ∧ w6.cell? ⟨n, 2, none⟩ = some (.int .i64 c3) ∧ w6.heap[n + 1 + 1]? = some (.cells #[.int .i64 0, .int .i64 0] 69 (0, 0)) := ⟨X6.cell hH.1, X6.cell hH.2.1, X6.row hH.2.2⟩
    obtain ⟨l61, l62, l63, el6, _⟩ : ∃ a m k, v6 = .slice a m k ∧ True := by
      obtain ⟨a, m, k, e, _⟩ := rw6
      exact ⟨a, m, k, e, trivial⟩
    subst el6
    refine ⟨_, rfl, ⟨h61, h62, h63⟩, ?_⟩
    simp only [Act.put, List.setIfInBounds_toArray, List.set_cons_zero, List.set_cons_succ]
    refine takeE (v := ?_) 19 32 rfl rfl (by kernel_rfl) (by kernel_rfl) (by kernel_rfl) (fun _ _ _ h => h) (Or.inl ⟨by rfl, fun V hV => ?_⟩) ⟨h61, h62, h63⟩ ?_
    rotate_left
    · (go_simp; try with_reducible rfl)
    simp only [Act.put, List.setIfInBounds_toArray, List.set_cons_zero, List.set_cons_succ]
    refine takeE (v := ?_) 20 52 rfl rfl (by kernel_rfl) (by kernel_rfl) (by kernel_rfl) (fun _ _ _ h => h) (Or.inl ⟨by rfl, fun V hV => ?_⟩) ⟨h61, h62, h63⟩ ?_
    rotate_left
    · (go_simp; try with_reducible rfl)
    simp only [Act.put, List.setIfInBounds_toArray, List.set_cons_zero, List.set_cons_succ]
    refine takeE (v := ?_) 21 53 rfl rfl (by kernel_rfl) (by kernel_rfl) (by kernel_rfl) (fun _ _ _ h => h) (Or.inl ⟨by rfl, fun V hV => ?_⟩) ⟨h61, h62, h63⟩ ?_
    rotate_left
    · (go_simp; try with_reducible rfl)
    simp only [Act.put, List.setIfInBounds_toArray, List.set_cons_zero, List.set_cons_succ]
    refine takeE (v := ?_) 22 54 rfl rfl (by kernel_rfl) (by kernel_rfl) (by kernel_rfl) (fun _ _ _ h => h) (Or.inl ⟨by rfl, fun V hV => ?_⟩) ⟨h61, h62, h63⟩ ?_
    rotate_left
    · (go_simp; try with_reducible rfl)
    simp only [Act.put, List.setIfInBounds_toArray, List.set_cons_zero, List.set_cons_succ]
    obtain ⟨o7, fz7, u7, cu7⟩ := Own_cell encS (NN5.out.1.ext X6) at_ (l61, l62, l63) (.slice l61 l62 l63) rfl HAT.out
    have K7 : Kept (fun i => i ≠ g5) w6 (w6.setCell ⟨g5, at_, none⟩ (.slice l61 l62 l63)) := (Kept.refl _ w6).setCell (fun hne => hne rfl) _
    have ng : n ≠ g5 ∧ n + 1 ≠ g5 ∧ n + 1 + 1 ≠ g5 := by have := G5.out; have := VZ.out; omega
    have h71 := K7.cell ng.1 h61
    have h72 := K7.cell ng.1 h62
    have h73 := K7.row ng.2.2 h63
    have B7 := K7.row ng.1 (X6.row B0.out)
    have C7 := K7.row ng.2.1 (X6.row B1.out)
    refine storeN 23 rfl rfl (by kernel_rfl) (by rfl) (w' := w6.setCell ⟨g5, at_, none⟩ (.slice l61 l62 l63)) (by go_simp; try with_reducible rfl) ⟨h71, h72, h73⟩ ?_
    refine takeE (v := ?_) 24 55 rfl rfl (by kernel_rfl) (by kernel_rfl) (by kernel_rfl) (fun _ _ _ h => h) (Or.inl ⟨by rfl, fun V hV => ?_⟩) ⟨h71, h72, h73⟩ ?_
    rotate_left
    · (go_simp; try with_reducible rfl)
    simp only [Act.put, List.setIfInBounds_toArray, List.set_cons_zero, List.set_cons_succ]
    have sp : splice (Array.toList #[.int .i64 c1, .int .i64 c2, .int .i64 c3, .int .i64 c4, .int .i64 c5, av, .slice lo M lc, .slice fo FN fc, .int .i64 (used : Int), .int .i64 s0, .int .i64 s1, .int .i64 s2, .int .i64 s3, .int .i64 s4, .int .i64 s5]) 9 (scl r.2) = Array.toList #[.int .i64 c1, .int .i64 c2, .int .i64 c3, .int .i64 c4, .int .i64 c5, av, .slice lo M lc, .slice fo FN fc, .int .i64 ((used : Int)), .int .i64 r.2.1, .int .i64 r.2.2.1, .int .i64 r.2.2.2.1, .int .i64 r.2.2.2.2.1, .int .i64 r.2.2.2.2.2.1, .int .i64 r.2.2.2.2.2.2] := rfl
    have st8 := run_store_part (P := Try.prog) (w6.setCell ⟨g5, at_, none⟩ (.slice l61 l62 l63)) n 9 40 38 _ (scl r.2) B7 size_sts (by simp [scl]) (scl_one r.2)
    rw [sp] at st8
    obtain ⟨w8, e8⟩ : ∃ w8, w8 = (w6.setCell ⟨g5, at_, none⟩ (.slice l61 l62 l63)).setRow n (Array.toList #[.int .i64 c1, .int .i64 c2, .int .i64 c3, .int .i64 c4, .int .i64 c5, av, .slice lo M lc, .slice fo FN fc, .int .i64 ((used : Int)), .int .i64 r.2.1, .int .i64 r.2.2.1, .int .i64 r.2.2.2.1, .int .i64 r.2.2.2.2.1, .int .i64 r.2.2.2.2.2.1, .int .i64 r.2.2.2.2.2.2]).toArray := ⟨_, rfl⟩
    rw [← e8] at st8
    have K8 : Kept (fun i => i ≠ n) (w6.setCell ⟨g5, at_, none⟩ (.slice l61 l62 l63)) w8 := by rw [e8]; exact (Kept.refl _ _).setRow (fun hne => hne rfl) _
    have B8 : w8.heap[n]? = some (.cells #[.int .i64 c1, .int .i64 c2, .int .i64 c3, .int .i64 c4, .int .i64 c5, av, .slice lo M lc, .slice fo FN fc, .int .i64 ((used : Int)), .int .i64 r.2.1, .int .i64 r.2.2.1, .int .i64 r.2.2.2.1, .int .i64 r.2.2.2.2.1, .int .i64 r.2.2.2.2.2.1, .int .i64 r.2.2.2.2.2.2] 40 (0, 0)) := by rw [e8]; exact setRow_heap _ _ _ _ _ _ B7
    have C8 := K8.row (show n + 1 ≠ n by omega) C7
    have h81 : w8.cell? ⟨n, 1, none⟩ = some (.int .i64 c2) := by rw [cell_of_row w8 _ 1 _ _ _ B8]; rfl
    have h82 : w8.cell? ⟨n, 2, none⟩ = some (.int .i64 c3) := by rw [cell_of_row w8 _ 2 _ _ _ B8]; rfl
    have h83 := K8.row (show n + 1 + 1 ≠ n by omega) h73
    refine storeN 25 rfl rfl (by kernel_rfl) (by rfl) (w' := w8) (exec_store 38 (.tmp 55) (.tmp 53) rfl st8) ⟨h81, h82, h83⟩ ?_
    refine wpAnyH_done (by kernel_rfl) ?_ _
    -- lists, as they lie now
    have L7 : ListsK (fun i => i ≠ n ∧ i ≠ n + 1 ∧ (K i ∨ w.heap.size ≤ i)) w8 (.slice (some ⟨g5, 0, none⟩) M c5') (ls.set at_ r.1) := by
      have szs := VZ.out
      have en := EN.out
      have g5' := G5.out
      have s6 := X6.size
      refine ⟨vs.set at_ (l61, l62, l63), by rw [List.length_set, List.length_set]; exact HL4.out, ?_, fun i y hy => ?_⟩
      · have q := (o7.row).mono (L := fun i => i ≠ n ∧ i ≠ n + 1 ∧ (K i ∨ w.heap.size ≤ i)) (by decide) (fun i hi h => by simp only [Value.ownBlock, Option.some.injEq] at h; exact ⟨by omega, by omega, .inr (by omega)⟩)
        exact q.kept (K8.mono (fun i h => h.1))
      · rw [List.getElem?_set] at hy ⊢
        by_cases e : at_ = i
        · subst e
          rw [if_pos rfl] at hy ⊢
          have la : at_ < ls.length := (List.getElem?_eq_some_iff.1 HA.out).1
          rw [if_pos la] at hy
          rw [if_pos HAT.out]
          obtain rfl : r.1 = y := by simpa using hy
          refine ⟨_, rfl, ?_⟩
          have q := rw6.mono (L := fun i => i ≠ g5 ∧ i ≠ n ∧ i ≠ n + 1 ∧ (K i ∨ w.heap.size ≤ i)) (by decide) (fun i hi h => by
            rcases h with h | h
            · exact ⟨by omega, by omega, by omega, .inl h.1⟩
            · have := W5Z.out
              exact ⟨by have h1 := h.1; have := G5L.out; simp at h1; omega, by have h1 := h.1; simp at h1; omega, by have h1 := h.1; simp at h1; omega, .inr (by have h1 := h.1; simp at h1; omega)⟩)
          exact ((RowK.kept q (K7.mono (fun i h => h.1))).mono (L := fun i => i ≠ n ∧ i ≠ n + 1 ∧ (K i ∨ w.heap.size ≤ i)) (by decide) (fun i hi h => h.2)).kept (K8.mono (fun i h => h.1))
        · rw [if_neg e] at hy ⊢
          obtain ⟨v0, e0, r0⟩ := V4.out i y hy
          refine ⟨v0, e0, ?_⟩
          have q := r0.mono (L := fun i => (i ≠ g5 ∧ i ≠ n ∧ i ≠ n + 1) ∧ (K i ∨ w.heap.size ≤ i)) (by decide) (fun i hi h => ⟨⟨by omega, by omega, by omega⟩, .inl h⟩)
          have q6 := q.kept (Kept.of_ext ((XV.out.trans NN5.out.2.2).trans X6))
          have q7 := RowK.kept q6 (K7.mono (fun i h => h.1.1))
          exact (RowK.kept q7 (K8.mono (fun i h => h.1.2.1))).mono (by decide) (fun i hi h => ⟨h.1.2.1, h.1.2.2, h.2⟩)
    have X8 : Ext w w8 := by
      have X60 := (XV.out.trans NN5.out.2.2).trans X6
      have en := EN.out
      have X7 : Ext w (w6.setCell ⟨g5, at_, none⟩ (.slice l61 l62 l63)) := Below.trans X60 (K7.below X60.size (fun i hi => by have := G5.out; have := VZ.out; omega))
      exact Below.trans X7 (K8.below X7.size (fun i hi => by omega))
    have LL7 := hid L7
    have XX8 := hid X8
    have CC8 := hid C8
    have BB8 := hid B8
    have c86 : w8.cell? ⟨n, 6, none⟩ = some (.slice lo M lc) := by rw [cell_of_row w8 _ 6 _ _ _ B8]; rfl
    have f86 : w8.frozen? ⟨n, 6, none⟩ = false := frozen_of_row _ _ _ _ _ B8
    have eS := setCell_eq_setRow w8 n 6 _ _ _ (.slice (some ⟨g5, 0, none⟩) M c5') B8
    clear L7 X8 C8 st8 sp e8 K8 B7 C7 h61 h62 h63 h71 h72 h73 h81 h82 h83 o7 fz7 cu7 K7 rw6 x6 X6 p9 p10 p11 p12 p13 p14 y5 hH hHeld B0 B1 B2 XD B8
    have B9 : Hid ((w8.setCell ⟨n, 6, none⟩ (.slice (some ⟨g5, 0, none⟩) M c5')).heap[n]? = some (.cells #[.int .i64 c1, .int .i64 c2, .int .i64 c3, .int .i64 c4, .int .i64 c5, av, .slice (some ⟨g5, 0, none⟩) M c5', .slice fo FN fc, .int .i64 ((used : Int)), .int .i64 r.2.1, .int .i64 r.2.2.1, .int .i64 r.2.2.2.1, .int .i64 r.2.2.2.2.1, .int .i64 r.2.2.2.2.2.1, .int .i64 r.2.2.2.2.2.2] 40 (0, 0))) := by rw [eS]; exact setRow_heap _ _ _ _ _ _ BB8.out
    clear eS
    obtain ⟨w9, e9⟩ : ∃ w9, w9 = w8.setCell ⟨n, 6, none⟩ (.slice (some ⟨g5, 0, none⟩) M c5') := ⟨_, rfl⟩
    have K9 : Kept (fun i => i ≠ n) w8 w9 := by rw [e9]; exact (Kept.refl _ _).setCell (fun hne => hne rfl) _
    have C9 : Hid ((w8.setCell ⟨n, 6, none⟩ (.slice (some ⟨g5, 0, none⟩) M c5')).heap[n + 1]? = some (.cells #[.int .i64 0, .int .i64 0, .int .i64 0, .int .i64 0, .int .i64 0, .slice none 0 0, .slice none 0 0, .slice none 0 0, .int .i64 0, .int .i64 0, .int .i64 0, .int .i64 0, .int .i64 0, .int .i64 0, .int .i64 0] 40 (0, 0))) := by show _ = _; rw [← e9]; exact K9.row (by omega) CC8.out
    obtain ⟨w10, e10⟩ : ∃ w10, w10 = (w8.setCell ⟨n, 6, none⟩ (.slice (some ⟨g5, 0, none⟩) M c5')).setRow (n + 1) #[.int .i64 c1, .int .i64 c2, .int .i64 c3, .int .i64 c4, .int .i64 c5, av, .slice (some ⟨g5, 0, none⟩) M c5', .slice fo FN fc, .int .i64 ((used : Int)), .int .i64 r.2.1, .int .i64 r.2.2.1, .int .i64 r.2.2.2.1, .int .i64 r.2.2.2.2.1, .int .i64 r.2.2.2.2.2.1, .int .i64 r.2.2.2.2.2.2] := ⟨_, rfl⟩
    have D10 : Hid (w10.heap[n + 1]? = some (.cells #[.int .i64 c1, .int .i64 c2, .int .i64 c3, .int .i64 c4, .int .i64 c5, av, .slice (some ⟨g5, 0, none⟩) M c5', .slice fo FN fc, .int .i64 ((used : Int)), .int .i64 r.2.1, .int .i64 r.2.2.1, .int .i64 r.2.2.2.1, .int .i64 r.2.2.2.2.1, .int .i64 r.2.2.2.2.2.1, .int .i64 r.2.2.2.2.2.2] 40 (0, 0))) := by rw [e10]; exact setRow_heap _ _ _ _ _ _ C9.out
    have K10 : Kept (fun i => i ≠ n + 1) w9 w10 := by rw [e10, e9]; exact (Kept.refl _ _).setRow (fun hne => hne rfl) _
    have FIN : Hid (ListsK (fun i => K i ∨ (w.heap.size ≤ i ∧ i < w10.heap.size)) w10 (.slice (some ⟨g5, 0, none⟩) M c5') (ls.set at_ r.1) ∧ Ext w w10) := by
      have en := EN.out
      refine ⟨((LL7.out.kept (K9.mono (fun i h => h.1))).kept (K10.mono (fun i h => h.2.1))).mono (fun i hi h => h.2.2.imp id (fun h2 => ⟨h2, hi⟩)), ?_⟩
      have X9 := Below.trans XX8.out (K9.below XX8.out.size (fun i hi => by omega))
      exact Below.trans X9 (K10.below (Below.size X9) (fun i hi => by omega))
    have E10 := hid e10
    have ONE : Hid ((#[Value.int .i64 c1, .int .i64 c2, .int .i64 c3, .int .i64 c4, .int .i64 c5, av, .slice (some ⟨g5, 0, none⟩) M c5', .slice fo FN fc, .int .i64 ((used : Int)), .int .i64 r.2.1, .int .i64 r.2.2.1, .int .i64 r.2.2.2.1, .int .i64 r.2.2.2.2.1, .int .i64 r.2.2.2.2.2.1, .int .i64 r.2.2.2.2.2.2]).all (·.oneCell') = true) := Array.all_eq_true_iff_forall_mem.2 (fun v hv => by
      simp only [List.mem_toArray, List.mem_cons, List.not_mem_nil, or_false] at hv
      rcases hv with rfl | rfl | rfl | rfl | rfl | rfl | rfl | rfl | rfl | rfl | rfl | rfl | rfl | rfl | rfl <;> first | rfl | exact HAV.out)
    clear K9 K10 e9 e10 LL7 XX8 CC8 BB8
    go_wp2_with (first
      | refine wpList_load_row rfl 40 (.tmp 4) rfl n rfl 40 _ (0, 0) _ B9.out Try.underlying40 rfl size_model ?_
      | refine wpList_store_row rfl 40 (.tmp 8) (.tmp 58) rfl (n + 1) _ rfl rfl 40 _ C9.out size_model rfl ONE.out ?_)
    rw [← E10.out]
    refine bodyPost_ret (results_cell_row Try.results22 _ _ (n + 1) 40 _ (0, 0) _ rfl D10.out Try.underlying40 rfl size_model) rfl ?_
    obtain rfl := ER.out
    exact ⟨_, rfl, FIN.out⟩
end Go.Proofs.Ytjmgigfaiaemeaa.Sim

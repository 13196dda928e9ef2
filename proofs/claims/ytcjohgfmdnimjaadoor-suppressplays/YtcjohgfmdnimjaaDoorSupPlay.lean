/-
  Walks of the statements' awake and bit; a round that is new; calls as they lie in memory.
-/
import Derived.Test.YtcjohgfmdnimjaaDoorSupRef
import Derived.Test.YtcjohgfmdnimjaaDoorSupWait
namespace Go.Proofs.YtcjohgfmdnimjaaDoor.Sup
set_option linter.unusedVariables false
set_option maxRecDepth 100000
open Go.RowKit Go.Lib

theorem ext_kept {w w1 w2 : World} {b : Nat} (e : Ext w w1) (k : Kept (fun q => q ≠ b) w1 w2) (hb : w.heap.size ≤ b) : Ext w w2 :=
  ((Kept.of_ext (K := fun q => q < w.heap.size) e).trans (k.mono (fun q hq e => by omega))).below (Nat.le_refl _) (fun i hi => hi)

/-- a round at b, new since w -/
def PlS (w : World) (b : Nat) (wr : World) (s : SS) : Prop := RndV wr b s ∧ Ext w wr ∧ w.heap.size ≤ b
theorem PlS.ext {w : World} {b : Nat} {wr w' : World} {s : SS} (h : PlS w b wr s) (e : Ext wr w') : PlS w b w' s := ⟨h.1.ext e, h.2.1.trans e, h.2.2⟩
theorem PlS.drewN {w : World} {b : Nat} {wr : World} {s : SS} (h : PlS w b wr s) (n : Nat) : PlS w b (wr.drewN n) s := h.ext ((Ext.refl wr).drewN n)
theorem PlS.wrote {w : World} {b : Nat} {wr w' : World} {s s' : SS} (h : PlS w b wr s) (hv : RndV w' b s') (k : Kept (fun q => q ≠ b) wr w') : PlS w b w' s' := ⟨hv, ext_kept h.2.1 k h.2.2, h.2.2⟩
theorem PlS.start {w : World} {b : Nat} {V : World} {s : SS} (p : PlS w b V s) (a n c x : Int) (h0 : 0 ≤ x) (h1 : x < 18446744073709551616) :
    Calls Tryd.prog 14 #[.pointer (some ⟨b, 0, none⟩), .int .i64 a, .int .i64 n, .int .i64 c, .int .u64 x] V fun e w' => e = .returned (.int .i64 (sstart s a n c x).2) ∧ PlS w b w' (sstart s a n c x).1 ∧ Kept (fun q => q ≠ b) V w' := by
  refine (start_any b s a n c x V p.1 h0 h1).mono ?_
  rintro r w' ⟨rfl, t, k⟩
  exact ⟨rfl, p.wrote t k, k⟩
theorem PlS.echo {w : World} {b : Nat} {V : World} {s : SS} (p : PlS w b V s) (a x : Int) (h0 : 0 ≤ x) (h1 : x < 18446744073709551616) :
    Calls Tryd.prog 16 #[.pointer (some ⟨b, 0, none⟩), .int .i64 a, .int .u64 x] V fun e w' => e = .returned (.bool (secho s a x).2) ∧ PlS w b w' (secho s a x).1 ∧ Kept (fun q => q ≠ b) V w' := by
  refine (echo_any b s a x V p.1 h0 h1).mono ?_
  rintro r w' ⟨rfl, t, k⟩
  exact ⟨rfl, p.wrote t k, k⟩
theorem PlS.fire {w : World} {b : Nat} {V : World} {s : SS} (p : PlS w b V s) (a : Int) :
    Calls Tryd.prog 17 #[.pointer (some ⟨b, 0, none⟩), .int .i64 a] V fun e w' => e = .returned (.bool (sfire s a).2) ∧ PlS w b w' (sfire s a).1 ∧ Kept (fun q => q ≠ b) V w' := by
  refine (fire_any b s a V p.1).mono ?_
  rintro r w' ⟨rfl, t, k⟩
  exact ⟨rfl, p.wrote t k, k⟩

theorem bit_any (t : Bool) (w : World) : Calls Tryd.prog 19 #[.bool t] w fun e w' => e = .returned (.int .i64 (if t then 1 else 0)) ∧ w' = w := by
  cases t with
  | false =>
    rw [if_neg (by decide)]
    go_enter Tryd.func19, Tryd.ntmps19
    go_wp2_with fail
    go_ret
    exact ⟨rfl, rfl⟩
  | true =>
    rw [if_pos rfl]
    go_enter Tryd.func19, Tryd.ntmps19
    go_wp2_with fail
    go_ret
    exact ⟨rfl, rfl⟩

theorem s1 : sstart snew 1 5 3 4294967296 = ((1, 4294967296, true, 8), 0) := by decide +kernel
theorem f7 : sfire (1, 4294967296, true, 8) 7 = ((1, 4294967296, true, 8), false) := by decide +kernel
theorem f8 : sfire (1, 4294967296, true, 8) 8 = ((1, 4294967296, false, 8), true) := by decide +kernel
theorem okA : Wok 4294967296 100 16 := by unfold Wok; decide
theorem okB : Wok 1073741824 100 16 := by unfold Wok; decide
theorem noC : ¬ Wok 0 100 16 := by unfold Wok; decide

set_option maxHeartbeats 4000000 in
theorem awake_any (w : World) (H : Steps w) : Calls Tryd.prog 9 #[] w fun e w' => e = .returned (.bool true) ∧ Ext w w' := by
  have W1 := hid (fun V (K : Steps V) => wait_ok 4294967296 100 16 V K okA)
  rw [wt_all] at W1
  have W2 := hid (fun V (K : Steps V) => wait_ok 1073741824 100 16 V K okB)
  rw [wt_half] at W2
  have W3 := hid (fun V => wait_bad 0 100 16 V (by decide) (by decide) noC)
  have RT := hid (fun V => ratio_any 1 4 (by decide) (by decide) (by decide) (by decide) V)
  rw [show fratio 1 4 = 1073741824 from by decide] at RT
  have HS := hid H
  clear H
  go_enter Tryd.func9, Tryd.ntmps9
  go_wp2_with fail
  refine (W1.out _ HS.out).mono ?_
  rintro e w' ⟨rfl, n1, rfl⟩
  go_wp2_with fail
  refine (RT.out _).mono ?_
  rintro e w' ⟨rfl, n2, rfl⟩
  go_wp2_with fail
  refine (W2.out _ (HS.out.drewN _)).mono ?_
  rintro e w' ⟨rfl, n3, rfl⟩
  go_wp2_with fail
  refine (W3.out _).mono ?_
  rintro e w' ⟨rfl, ew⟩
  obtain rfl := ew
  go_wp2_with fail
  refine (new_any _).mono ?_
  rintro e w1 ⟨b, rfl, h1, hb, x1⟩
  have S1 : Hid (PlS w b w1 snew) := ⟨h1, ((Ext.refl w).drewN _).trans x1, hb⟩
  clear h1 hb x1 W1 W2 W3 RT
  go_wp2_with fail
  refine (number_any b _ w1 S1.out.1).mono ?_
  rintro e w2 ⟨rfl, ew⟩
  obtain rfl : w1 = w2 := ew.symm
  rw [show snew.1 = -1 from rfl]
  go_wp2_with fail
  refine (S1.out.start 1 5 3 4294967296 (by decide) (by decide)).mono ?_
  rintro e w2 ⟨rfl, s, k⟩
  rw [s1] at s
  rw [s1]
  have S2 := hid s
  clear s k S1
  go_wp2_with fail
  refine (S2.out.fire 7).mono ?_
  rintro e w3 ⟨rfl, s, k⟩
  rw [f7] at s
  rw [f7]
  have S3 := hid s
  clear s k S2
  go_wp2_with fail
  refine (S3.out.fire 8).mono ?_
  rintro e w4 ⟨rfl, s, k⟩
  rw [f8] at s
  rw [f8]
  have S4 := hid s
  clear s k S3
  go_wp2_with fail
  go_ret
  exact ⟨rfl, S4.out.2.1⟩

/-! ### calls in memory -/
/-- kind, three numbers, a rate -/
abbrev OpS := Int × Int × Int × Int × Int
def FitO (o : OpS) : Prop := 0 ≤ o.2.2.2.2 ∧ o.2.2.2.2 < 18446744073709551616
def five (o : OpS) : List Value := [.int .i64 o.1, .int .i64 o.2.1, .int .i64 o.2.2.1, .int .i64 o.2.2.2.1, .int .u64 o.2.2.2.2]
def ocs (o : OpS) : Array Value := #[.int .i64 o.1, .int .i64 o.2.1, .int .i64 o.2.2.1, .int .i64 o.2.2.2.1, .int .u64 o.2.2.2.2]
theorem ocs_one (o : OpS) : (ocs o).all (·.oneCell') = true := by simp [ocs, Value.oneCell']
theorem size_o : (Tryd.prog.info? 39).map (·.size) = some 5 := by kernel_rfl
theorem encO : Enc five 5 := ⟨by decide, fun _ => rfl, fun x u h => by
  simp only [five, List.mem_cons, List.not_mem_nil, or_false] at h
  rcases h with rfl | rfl | rfl | rfl | rfl <;> rfl⟩
/-- calls that came in: their cells, and each one's rate is a word -/
def OpsIn (w : World) (v : Value) (l : List OpS) : Prop := RowK (fun _ => True) w v 5 (fcells five l) ∧ ∀ o ∈ l, FitO o
theorem OpsIn.slice {w : World} {v : Value} {l : List OpS} (h : OpsIn w v l) : ∃ ao c, v = .slice ao l.length c ∧ l.length ≤ c ∧ c ≤ maxLen := by
  obtain ⟨⟨ao, n, c, e, h1, h2, h3, _⟩, _⟩ := h
  rw [fcells_length encO] at h1
  obtain rfl : l.length = n := by omega
  exact ⟨ao, c, e, h2, h3⟩
theorem OpsIn.at {w : World} {ao : Option Addr} {n c : Nat} {l : List OpS} (h : OpsIn w (.slice ao n c) l) {k : Nat} {q : OpS} (hk : l[k]? = some q) :
    ∃ g o, ao = some ⟨g, o, none⟩ ∧ ∀ V, Ext w V → V.cell? ⟨g, o + k * 5, none⟩ = some (.int .i64 q.1) ∧ V.cell? ⟨g, o + k * 5 + 1, none⟩ = some (.int .i64 q.2.1) ∧ V.cell? ⟨g, o + k * 5 + 2, none⟩ = some (.int .i64 q.2.2.1) ∧ V.cell? ⟨g, o + k * 5 + 3, none⟩ = some (.int .i64 q.2.2.2.1) ∧ V.cell? ⟨g, o + k * 5 + 4, none⟩ = some (.int .u64 q.2.2.2.2) := by
  obtain ⟨⟨ao', n', c', e, h1, h2, h3, h4⟩, _⟩ := h
  simp only [Value.slice.injEq] at e
  obtain ⟨rfl, rfl, rfl⟩ := e
  rw [fcells_length encO] at h1
  have kl := (List.getElem?_eq_some_iff.1 hk).1
  obtain ⟨g, o, ea, hg, hc⟩ := h4 (by omega)
  have a0 := hc (k * 5 + 0) _ (fcells_at encO hk (j := 0) (by decide))
  have a1 := hc (k * 5 + 1) _ (fcells_at encO hk (j := 1) (by decide))
  have a2 := hc (k * 5 + 2) _ (fcells_at encO hk (j := 2) (by decide))
  have a3 := hc (k * 5 + 3) _ (fcells_at encO hk (j := 3) (by decide))
  have a4 := hc (k * 5 + 4) _ (fcells_at encO hk (j := 4) (by decide))
  rw [← Nat.add_assoc] at a1 a2 a3 a4
  rw [Nat.add_zero] at a0
  exact ⟨g, o, ea, fun V X => ⟨X.cell a0, X.cell a1, X.cell a2, X.cell a3, X.cell a4⟩⟩
/-- what a walk needs of calls: each one's cells, in any later world -/
def Seen (w : World) (ao : Option Addr) (l : List OpS) : Prop := ∀ (k : Nat) (q : OpS), l[k]? = some q → FitO q ∧ ∃ g o, ao = some ⟨g, o, none⟩ ∧ ∀ V, Ext w V → V.cell? ⟨g, o + k * 5, none⟩ = some (.int .i64 q.1) ∧ V.cell? ⟨g, o + k * 5 + 1, none⟩ = some (.int .i64 q.2.1) ∧ V.cell? ⟨g, o + k * 5 + 2, none⟩ = some (.int .i64 q.2.2.1) ∧ V.cell? ⟨g, o + k * 5 + 3, none⟩ = some (.int .i64 q.2.2.2.1) ∧ V.cell? ⟨g, o + k * 5 + 4, none⟩ = some (.int .u64 q.2.2.2.2)
/-- two shares, the most, among how many -/
def SharesIn (v : Value) (z : Int × Int × Int × Int) : Prop := v = .agg #[.int .u64 z.1, .int .u64 z.2.1, .int .i64 z.2.2.1, .int .i64 z.2.2.2] ∧ (0 ≤ z.1 ∧ z.1 < 18446744073709551616) ∧ 0 ≤ z.2.1 ∧ z.2.1 < 18446744073709551616
/-- two receivers: shares, rates, the most, among how many -/
def TwoIn (v : Value) (z : Int × Int × Int × Int × Int × Int) : Prop := v = .agg #[.int .u64 z.1, .int .u64 z.2.1, .int .u64 z.2.2.1, .int .u64 z.2.2.2.1, .int .i64 z.2.2.2.2.1, .int .i64 z.2.2.2.2.2] ∧ (0 ≤ z.1 ∧ z.1 < 18446744073709551616) ∧ (0 ≤ z.2.1 ∧ z.2.1 < 18446744073709551616) ∧ (0 ≤ z.2.2.1 ∧ z.2.2.1 < 18446744073709551616) ∧ 0 ≤ z.2.2.2.1 ∧ z.2.2.2.1 < 18446744073709551616
theorem OpsIn.seen {w : World} {ao : Option Addr} {n c : Nat} {l : List OpS} (h : OpsIn w (.slice ao n c) l) : Seen w ao l := fun k q hk => ⟨h.2 q (List.mem_of_getElem? hk), h.at hk⟩

/-- a call's box -/
def bx (wr : World) (k a n c x : Int) : World := wr.alloc (.cells #[.int .i64 k, .int .i64 a, .int .i64 n, .int .i64 c, .int .u64 x] 39)
theorem bx_ext (wr : World) (k a n c x : Int) : Ext wr (bx wr k a n c x) := (Ext.refl wr).alloc _
theorem bx_row (wr : World) (k a n c x : Int) : (bx wr k a n c x).heap[wr.heap.size]? = some (.cells (ocs (k, a, n, c, x)) 39 (0, 0)) := heap_alloc_new wr _
theorem row_cells {V : World} {g : Nat} {k a n c x : Int} (r : V.heap[g]? = some (.cells (ocs (k, a, n, c, x)) 39 (0, 0))) : V.cell? ⟨g, 0, none⟩ = some (.int .i64 k) ∧ V.cell? ⟨g, 1, none⟩ = some (.int .i64 a) ∧ V.cell? ⟨g, 2, none⟩ = some (.int .i64 n) ∧ V.cell? ⟨g, 3, none⟩ = some (.int .i64 c) ∧ V.cell? ⟨g, 4, none⟩ = some (.int .u64 x) := by
  refine ⟨?_, ?_, ?_, ?_, ?_⟩
  · rw [cell_of_row _ _ 0 _ _ _ r]; rfl
  · rw [cell_of_row _ _ 1 _ _ _ r]; rfl
  · rw [cell_of_row _ _ 2 _ _ _ r]; rfl
  · rw [cell_of_row _ _ 3 _ _ _ r]; rfl
  · rw [cell_of_row _ _ 4 _ _ _ r]; rfl

/-! ### the ways of one call -/
theorem start_way (s : SS) (a n c x : Int) : (∃ d, sstart s a n c x = ((a, x, true, d), 0)) ∨ ∃ e, e ≠ 0 ∧ sstart s a n c x = (s, e) := by
  unfold sstart
  split
  · split
    · exact .inr ⟨24, by decide, rfl⟩
    · exact .inl ⟨_, rfl⟩
  · exact .inr ⟨11, by decide, rfl⟩
theorem echo_way (s : SS) (a x : Int) : (s.2.2.1 = true ∧ isLow x s.2.1 ∧ secho s a x = (idl s, true)) ∨ secho s a x = (s, false) := by
  unfold secho
  split
  · rename_i q
    exact .inl ⟨q.1, q.2.2, rfl⟩
  · exact .inr rfl
theorem fire_way (s : SS) (a : Int) : (s.2.2.1 = true ∧ sfire s a = (idl s, true)) ∨ sfire s a = (s, false) := by
  unfold sfire
  split
  · rename_i q
    exact .inl ⟨q.1, rfl⟩
  · exact .inr rfl
end Go.Proofs.YtcjohgfmdnimjaaDoor.Sup

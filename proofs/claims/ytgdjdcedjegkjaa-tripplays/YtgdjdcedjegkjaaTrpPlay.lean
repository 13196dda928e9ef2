/-
  Walks of the statements' awake and played; samples as they lie in memory.
-/
import Derived.Test.YtgdjdcedjegkjaaTrpRef
namespace Go.Proofs.Ytgdjdcedjegkjaa.Trp
set_option linter.unusedVariables false
set_option maxRecDepth 100000
open Go.RowKit Go.Lib

theorem ext_kept {w w1 w2 : World} {b : Nat} (e : Ext w w1) (k : Kept (fun q => q ≠ b) w1 w2) (hb : w.heap.size ≤ b) : Ext w w2 :=
  ((Kept.of_ext (K := fun q => q < w.heap.size) e).trans (k.mono (fun q hq e => by omega))).below (Nat.le_refl _) (fun i hi => hi)

/-- a trip at b, new since w -/
def PlS (w : World) (b : Nat) (wr : World) (s : TS) : Prop := TrpV wr b s ∧ Ext w wr ∧ w.heap.size ≤ b
theorem PlS.ext {w : World} {b : Nat} {wr w' : World} {s : TS} (h : PlS w b wr s) (e : Ext wr w') : PlS w b w' s := ⟨h.1.ext e, h.2.1.trans e, h.2.2⟩
theorem PlS.wrote {w : World} {b : Nat} {wr w' : World} {s s' : TS} (h : PlS w b wr s) (hv : TrpV w' b s') (k : Kept (fun q => q ≠ b) wr w') : PlS w b w' s' := ⟨hv, ext_kept h.2.1 k h.2.2, h.2.2⟩
theorem PlS.sample {w : World} {b : Nat} {V : World} {s : TS} (c : PlS w b V s) (hn : s.2 ≤ 1000) (a e h : Int) :
    Calls Try.prog 13 #[.pointer (some ⟨b, 0, none⟩), .int .i64 a, .int .i64 e, .int .i64 h] V fun r w' => r = .returned (.int .i64 (err (lasted a e h))) ∧ PlS w b w' (tst s (lasted a e h)) ∧ Kept (fun q => q ≠ b) V w' := by
  refine (sample_any b s a e h V c.1 hn).mono ?_
  rintro r w' ⟨rfl, t, k⟩
  exact ⟨rfl, c.wrote t k, k⟩

theorem p0 : tnew 0 = (4294967296, 0) := by decide +kernel
theorem p1 : tst (4294967296, 0) (lasted 20 10 2) = (34359738368, 1) := by decide +kernel
theorem p2 : tst (34359738368, 1) (lasted 40 20 4) = (38654705664, 2) := by decide +kernel
theorem e1 : err (lasted 20 10 2) = 0 := by decide +kernel
theorem e2 : err (lasted 40 20 4) = 0 := by decide +kernel
theorem e3 : err (lasted 1 2 0) = 11 := by decide +kernel
theorem t9 : tk 38654705664 = 9 := by decide +kernel

set_option maxHeartbeats 4000000 in
theorem awake_any (w : World) : Calls Try.prog 7 #[] w fun e w' => e = .returned (.bool true) ∧ Ext w w' := by
  have NW := hid (new_any 0 (by decide) (by decide) w)
  have OF := hid (fun a V (h0 : 0 ≤ a) (h1 : a < 4294967296) => of_any a h0 h1 V)
  go_enter Try.func7, Try.ntmps7
  go_wp2_with fail
  refine NW.out.mono ?_
  rintro e w1 ⟨b, rfl, h1, hb, x1⟩
  rw [p0] at h1
  have S1 : Hid (PlS w b w1 (4294967296, 0)) := ⟨h1, x1, hb⟩
  clear h1 hb x1 NW
  go_wp2_with fail
  refine (get_any b _ w1 S1.out.1).mono ?_
  rintro e w2 ⟨rfl, ew⟩
  obtain rfl : w1 = w2 := ew.symm
  go_wp2_with fail
  refine (S1.out.sample (by decide) 20 10 2).mono ?_
  rintro e w2 ⟨rfl, s, k⟩
  rw [p1] at s
  rw [e1]
  have S2 := hid s
  clear s k S1
  go_wp2_with fail
  refine (get_any b _ w2 S2.out.1).mono ?_
  rintro e w3 ⟨rfl, ew⟩
  obtain rfl : w2 = w3 := ew.symm
  go_wp2_with fail
  refine (OF.out 8 _ (by decide) (by decide)).mono ?_
  rintro e w3 ⟨rfl, ew⟩
  obtain rfl : w2 = w3 := ew.symm
  go_wp2_with fail
  refine (S2.out.sample (by decide) 40 20 4).mono ?_
  rintro e w3 ⟨rfl, s, k⟩
  rw [p2] at s
  rw [e2]
  have S3 := hid s
  clear s k S2
  go_wp2_with fail
  refine (get_any b _ w3 S3.out.1).mono ?_
  rintro e w4 ⟨rfl, ew⟩
  obtain rfl : w3 = w4 := ew.symm
  go_wp2_with fail
  refine (OF.out 9 _ (by decide) (by decide)).mono ?_
  rintro e w4 ⟨rfl, ew⟩
  obtain rfl : w3 = w4 := ew.symm
  go_wp2_with fail
  refine (ticks_any b _ w3 S3.out.1).mono ?_
  rintro e w4 ⟨rfl, x⟩
  rw [t9]
  have S4 := hid (S3.out.ext x)
  clear S3 x
  go_wp2_with fail
  refine (known_any b _ w4 S4.out.1).mono ?_
  rintro e w5 ⟨rfl, ew⟩
  obtain rfl : w4 = w5 := ew.symm
  go_wp2_with fail
  refine (S4.out.sample (by decide) 1 2 0).mono ?_
  rintro e w5 ⟨rfl, s, k⟩
  rw [e3]
  have S5 := hid s
  clear s k S4
  go_wp2_with fail
  go_ret
  exact ⟨rfl, S5.out.2.1⟩

/-- a sample as it lies in cells -/
def three (q : Tri) : List Value := [.int .i64 q.1, .int .i64 q.2.1, .int .i64 q.2.2]
theorem encT : Enc three 3 := ⟨by decide, fun _ => rfl, fun x u h => by
  simp only [three, List.mem_cons, List.not_mem_nil, or_false] at h
  rcases h with rfl | rfl | rfl <;> rfl⟩
theorem elemsT : Elems 24 35 3 24 (.agg #[.int .i64 0, .int .i64 0, .int .i64 0]) := ⟨Try.underlying24, by kernel_rfl, rfl, by decide⟩
def OpsK (K : Nat → Prop) (w : World) (v : Value) (l : List Tri) : Prop := RowK K w v 3 (fcells three l)
theorem OpsK.slice {K : Nat → Prop} {w : World} {v : Value} {l : List Tri} (h : OpsK K w v l) : ∃ ao c, v = .slice ao l.length c ∧ l.length ≤ c ∧ c ≤ maxLen := by
  obtain ⟨ao, n, c, e, h1, h2, h3, _⟩ := h
  rw [fcells_length encT] at h1
  obtain rfl : l.length = n := by omega
  exact ⟨ao, c, e, h2, h3⟩
theorem OpsK.at {K : Nat → Prop} {w : World} {ao : Option Addr} {n c : Nat} {l : List Tri} (h : OpsK K w (.slice ao n c) l) {k : Nat} {q : Tri} (hk : l[k]? = some q) : ∃ g o, ao = some ⟨g, o, none⟩ ∧ w.cell? ⟨g, o + k * 3, none⟩ = some (.int .i64 q.1) ∧ w.cell? ⟨g, o + k * 3 + 1, none⟩ = some (.int .i64 q.2.1) ∧ w.cell? ⟨g, o + k * 3 + 2, none⟩ = some (.int .i64 q.2.2) := by
  obtain ⟨ao', n', c', e, h1, h2, h3, h4⟩ := h
  simp only [Value.slice.injEq] at e
  obtain ⟨rfl, rfl, rfl⟩ := e
  rw [fcells_length encT] at h1
  have kl := (List.getElem?_eq_some_iff.1 hk).1
  obtain ⟨g, o, ea, hg, hc⟩ := h4 (by omega)
  have a0 := hc (k * 3 + 0) _ (fcells_at encT hk (j := 0) (by decide))
  have a1 := hc (k * 3 + 1) _ (fcells_at encT hk (j := 1) (by decide))
  have a2 := hc (k * 3 + 2) _ (fcells_at encT hk (j := 2) (by decide))
  rw [← Nat.add_assoc] at a1 a2
  rw [Nat.add_zero] at a0
  exact ⟨g, o, ea, a0, a1, a2⟩
theorem OpsK.ext {K : Nat → Prop} {w w' : World} {v : Value} {l : List Tri} (h : OpsK K w v l) (e : Ext w w') : OpsK K w' v l := RowK.kept h (Kept.of_ext e)
/-- what a walk needs of samples: each one's cells, in any later world -/
def Seen (w : World) (ao : Option Addr) (l : List Tri) : Prop := ∀ (k : Nat) (q : Tri), l[k]? = some q → ∀ V, Ext w V → ∃ g o, ao = some ⟨g, o, none⟩ ∧ V.cell? ⟨g, o + k * 3, none⟩ = some (.int .i64 q.1) ∧ V.cell? ⟨g, o + k * 3 + 1, none⟩ = some (.int .i64 q.2.1) ∧ V.cell? ⟨g, o + k * 3 + 2, none⟩ = some (.int .i64 q.2.2)
theorem OpsK.seen {K : Nat → Prop} {w : World} {ao : Option Addr} {n c : Nat} {l : List Tri} (h : OpsK K w (.slice ao n c) l) : Seen w ao l := fun k q hk V X => by
  obtain ⟨g, o, e, h0, h1, h2⟩ := h.at hk
  exact ⟨g, o, e, X.cell h0, X.cell h1, X.cell h2⟩

/-- a sample's box -/
def bx (wr : World) (a e h : Int) : World := wr.alloc (.cells #[.int .i64 a, .int .i64 e, .int .i64 h] 35)
theorem bx_ext (wr : World) (a e h : Int) : Ext wr (bx wr a e h) := (Ext.refl wr).alloc _
theorem bx_row (wr : World) (a e h : Int) : (bx wr a e h).heap[wr.heap.size]? = some (.cells #[.int .i64 a, .int .i64 e, .int .i64 h] 35 (0, 0)) := heap_alloc_new wr _
theorem bx_cells {wr V : World} {a e h : Int} (x : Ext (bx wr a e h) V) : V.cell? ⟨wr.heap.size, 0, none⟩ = some (.int .i64 a) ∧ V.cell? ⟨wr.heap.size, 1, none⟩ = some (.int .i64 e) ∧ V.cell? ⟨wr.heap.size, 2, none⟩ = some (.int .i64 h) := by
  have r := x.row (bx_row wr a e h)
  refine ⟨?_, ?_, ?_⟩
  · rw [cell_of_row _ _ 0 _ _ _ r]; rfl
  · rw [cell_of_row _ _ 1 _ _ _ r]; rfl
  · rw [cell_of_row _ _ 2 _ _ _ r]; rfl
theorem bx_kept {wr V V' : World} {b : Nat} {a e h : Int} (x : Ext (bx wr a e h) V) (hb : b < wr.heap.size) (k : Kept (fun q => q ≠ b) V V') : V'.cell? ⟨wr.heap.size, 0, none⟩ = some (.int .i64 a) ∧ V'.cell? ⟨wr.heap.size, 1, none⟩ = some (.int .i64 e) ∧ V'.cell? ⟨wr.heap.size, 2, none⟩ = some (.int .i64 h) := by
  have r := k.row (g := wr.heap.size) (by omega) (x.row (bx_row wr a e h))
  refine ⟨?_, ?_, ?_⟩
  · rw [cell_of_row _ _ 0 _ _ _ r]; rfl
  · rw [cell_of_row _ _ 1 _ _ _ r]; rfl
  · rw [cell_of_row _ _ 2 _ _ _ r]; rfl

theorem results_tmp4 {fn : Func} {t u v x : Tmp} (h : fn.results = #[.tmp t, .tmp u, .tmp v, .tmp x]) (tmps : Array Value) (P : Program) (w : World) :
    (results fn tmps).run P w = .ok (.tuple #[tmps.getD t undef, tmps.getD u undef, tmps.getD v undef, tmps.getD x undef]) w := by
  simp [results, h]

set_option maxHeartbeats 4000000 in
theorem played_any {K : Nat → Prop} (f : Int) (v : Value) (l : List Tri) (w : World) (h0 : 0 ≤ f) (h1 : f < 18446744073709551616) (hv : OpsK K w v l) (hl : l.length ≤ 200) :
    Calls Try.prog 8 #[.int .u64 f, v] w fun e w' => ∃ b, e = .returned (.tuple #[.pointer (some ⟨b, 0, none⟩), .int .u64 (trun f l).1, .int .i64 (trun f l).2, .bool true]) ∧ PlS w b w' (trun f l) := by
  have NW := hid (new_any f h0 h1 w)
  obtain ⟨vo, vc, rfl, k1, k2⟩ := hv.slice
  have OPS := hid hv.seen
  have GET : Hid (∀ k, k < l.length → ∃ q : Tri, l[k]? = some q) := fun k hk => ⟨_, List.getElem?_eq_getElem hk⟩
  have FT := hid (fun k => trun_fit f h1 (l.take k))
  have LE : Hid (∀ k, k ≤ l.length → (trun f (l.take k)).2 ≤ (k : Int)) := fun k hk => by
    have := trun_le f (l.take k)
    rw [List.length_take, Nat.min_eq_left hk] at this
    exact this
  have NXT := hid (fun k q h => fold_next (tnew f) l k q h)
  obtain ⟨N, eN⟩ : ∃ N, N = l.length := ⟨_, rfl⟩
  have eL : trun f l = trun f (l.take N) := by rw [eN, List.take_length]
  rw [eL]
  rw [← eN] at hl GET k1 LE ⊢
  unfold maxLen at k2
  have em : (tnew f).1 = max f 4294967296 := rfl
  have TN : Hid (trun f (l.take 0) = tnew f) := rfl
  clear hv eN eL
  go_enter Try.func8, Try.ntmps8
  go_wp2_with fail
  refine NW.out.mono ?_
  rintro e w1 ⟨b, rfl, t1, hb, x1⟩
  have S0 : Hid (PlS w b w1 (trun f (l.take 0))) := ⟨t1, x1, hb⟩
  clear NW t1 hb x1
  by_cases q : f < 4294967296
  case' pos => have E0 : Hid ((trun f (l.take 0)).1 = 4294967296) := by show _ = _; rw [TN.out, em]; omega
  case' neg => have E0 : Hid ((trun f (l.take 0)).1 = f) := by show _ = _; rw [TN.out, em]; omega
  all_goals
    have E1 : Hid ((trun f (l.take 0)).2 = 0) := by show _ = _; rw [TN.out]; rfl
    clear em TN
    go_wp2_with fail
    go_loopw [9, 10, 23] (fun gv nv iv wr => ∃ k : Nat, k ≤ N ∧ iv = .int .i64 (k : Int) ∧ gv = .int .u64 (trun f (l.take k)).1 ∧ nv = .int .i64 (trun f (l.take k)).2 ∧ Hid (PlS w b wr (trun f (l.take k)))) (fun _ _ iv _ => (N - RowKit.intOf iv).toNat)
    case atStart => exact ⟨0, by omega, rfl, by rw [E0.out], by rw [E1.out], S0⟩
    case round =>
      obtain ⟨k, hk, rfl, rfl, rfl, HH⟩ := hrel
      clear S0 E0 E1 q
      by_cases q : k < N
      · have i1 : (k : Int) < (N : Int) := by omega
        have i2 : (0 : Int) ≤ (k : Int) := by omega
        obtain ⟨⟨a, e, h⟩, eo⟩ := GET.out k q
        obtain ⟨g, o, rfl, y0, y1, y2⟩ := OPS.out k _ eo _ HH.out.2.1
        have NX : Hid (trun f (l.take (k + 1)) = tst (trun f (l.take k)) (lasted a e h)) := NXT.out k _ eo
        have FK := hid (FT.out k)
        have LK := LE.out k hk
        obtain ⟨s, es⟩ : ∃ s, s = trun f (l.take k) := ⟨_, rfl⟩
        rw [← es] at HH NX FK LK ⊢
        simp only at y0 y1 y2
        have hb := HH.out.1.lt
        have RL := hid (ref_lasted a e h (bx wr a e h))
        have SB := hid (HH.out.ext (bx_ext wr a e h))
        have SMP := hid (fun V (c : PlS w b V s) => c.sample (by omega) a e h)
        have RM := lasted_room a e h
        have E1 : Hid (wr.alloc (.cells #[.int .i64 a, .int .i64 e, .int .i64 h] 35) = bx wr a e h) := rfl
        have BX := hid (fun V (x : Ext (bx wr a e h) V) => bx_cells x)
        have NE := hid (fun V (g1 : 1 ≤ lasted a e h) (g2 : lasted a e h ≤ 1048576) => next_any s (lasted a e h) V FK.out g1 g2)
        have TS2 : Hid (1 ≤ lasted a e h → (tst s (lasted a e h)).2 = s.2 + 1) := fun g1 => by unfold tst; rw [if_neg (by omega)]
        have TS1 : Hid (lasted a e h = -1 → tst s (lasted a e h) = s) := fun g1 => by unfold tst; rw [if_pos (by omega)]
        have n0 := FK.out.2.2.1
        clear OPS GET FT LE NXT es eo HH
        obtain ⟨x, ex⟩ : ∃ x, x = lasted a e h := ⟨_, rfl⟩
        rw [← ex] at NX RL SMP RM NE TS1 TS2
        clear ex
        go_wp2_with fail
        rw [E1.out]
        refine RL.out.mono ?_
        rintro r w2 ⟨rfl, x2⟩
        have S2 := hid (SB.out.ext x2)
        obtain ⟨z0, z1, z2⟩ := BX.out _ x2
        clear y0 y1 y2 SB RL x2 E1 BX
        go_wp2_with fail
        refine (SMP.out _ S2.out).mono ?_
        rintro r w3 ⟨rfl, s3, k3⟩
        rw [← NX.out] at s3
        have S3 := hid s3
        clear S2 s3 k3 z0 z1 z2 SMP
        rcases RM with x0 | ⟨x0, x1⟩
        · subst x0
          have ee : err (-1) = 11 := by decide
          rw [ee]
          have T0 : Hid (trun f (l.take (k + 1)) = s) := NX.out.trans (TS1.out rfl)
          clear NX NE TS1 TS2 ee
          go_wp2_with fail
          go_roundw
          case rel => exact ⟨k + 1, by omega, by go_num, by rw [T0.out], by rw [T0.out], S3⟩
          case measure => simp [RowKit.intOf]; omega
        · have ee : err x = 0 := by unfold err; rw [if_neg (by omega)]
          rw [ee]
          have T0 : Hid ((trun f (l.take (k + 1))).1 = (tst s x).1) := by show _ = _; rw [NX.out]
          have T1 : Hid ((trun f (l.take (k + 1))).2 = s.2 + 1) := by show _ = _; rw [NX.out, TS2.out x0]
          have x3 : ¬ x < 0 := by omega
          obtain ⟨sn, esn⟩ : ∃ sn, sn = s.2 := ⟨_, rfl⟩
          rw [← esn] at NE T1 n0 LK ⊢
          clear NX TS1 TS2 ee esn
          go_wp2_with fail
          refine (NE.out _ x0 x1).mono ?_
          rintro r w4 ⟨rfl, ew⟩
          obtain rfl : w3 = w4 := ew.symm
          clear NE
          go_wp2_with fail
          go_roundw
          case rel => exact ⟨k + 1, by omega, by go_num, by rw [T0.out], by rw [T1.out], S3⟩
          case measure => simp [RowKit.intOf]; omega
      · obtain rfl : N = k := by omega
        clear OPS GET FT LE NXT
        go_wp2_with fail
        refine bodyPost_ret (results_tmp4 Try.results8 _ _ _) rfl ?_
        exact ⟨_, rfl, HH.out⟩
end Go.Proofs.Ytgdjdcedjegkjaa.Trp

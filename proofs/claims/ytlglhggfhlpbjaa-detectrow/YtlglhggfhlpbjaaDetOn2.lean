/-
  The reference of layer 15: the walk of On where a new loss event begins.
-/
import Derived.Test.YtlglhggfhlpbjaaDetOn
namespace Go.Proofs.Ytlglhggfhlpbjaa.Det
set_option linter.unusedVariables false
set_option maxRecDepth 100000
open Go.RowKit Go.Lib Go.Proofs.Ytlglhggfhlpbjaa.His

/-- behind the list that is put ahead: the rest of what is written -/
theorem event_row {w V : World} {bx : Nat} {nx : List Int} {op : Int} {v : Value} {bg : Int} {sm : Bool} {tick : Int} (h : Bx w V bx (dcs nx op v bg sm tick)) (ly : Nat) (A : Int) (hly : ly < 8) (hn : nx.length = 8) :
    Bx w ((((V.setCell ⟨bx, 8, none⟩ (.int .i64 0)).setCell ⟨bx, 10, none⟩ (.int .i64 tick)).setCell ⟨bx, 11, none⟩ (.bool true)).setCell ⟨bx, ly, none⟩ (.int .i64 A)) bx (dcs (nx.set ly A) 0 v tick true tick) :=
  (((h.put 8 (.int .i64 0) rfl).put 10 (.int .i64 tick) rfl).put 11 (.bool true) rfl).put ly _ (dcs_next nx 0 v tick true tick ly A hly hn)

set_option maxHeartbeats 4000000 in
theorem on_event {K : Nat → Prop} (lst : List Int) (nx : List Int) (op : Int) (lv : Value) (bg : Int) (sm : Bool) (ls : Int) (ly : Nat) (seq tick rtt : Int) (w : World) (hly : ly < 8) (hn : nx.length = 8) (hl : lv.oneCell' = true) (o0 : 0 ≤ op) (o1 : op ≤ 1048576) (s0 : 0 ≤ seq) (s1 : seq < 4294967296) (hx0 : 0 ≤ nx.getD ly (-1)) (hx1 : nx.getD ly (-1) < 4294967296) (hne : nx.getD ly (-1) ≠ seq) (hv : ListK K w lv lst) (l8 : lst.length ≤ 8) (h0 : 0 < Ser.fgap (nx.getD ly (-1)) seq) (h1 : Ser.fgap (nx.getD ly (-1)) seq ≤ 256) (t0 : 0 ≤ tick) (t1 : tick ≤ 10000000000000) (b0 : 0 ≤ bg) (b1 : bg ≤ 10000000000000) (ht : sm = false ∨ rtt < tick - bg) :
    Calls Try.prog 20 #[.agg (dcs nx op lv bg sm ls), .int .i64 (ly : Int), .int .u32 seq, .int .i64 tick, .int .i64 rtt] w fun e w' => ∃ lv', e = .returned (.tuple #[.agg (dcs (nx.set ly (aft seq)) (cnt (cnt 0 (Ser.fgap (nx.getD ly (-1)) seq)) 1) lv' tick true tick), .int .i64 (Ser.fgap (nx.getD ly (-1)) seq), .bool true, .bool ((lst.length : Int) == 0)]) ∧ ListK (fun q => w.heap.size ≤ q) w' lv' ((op :: lst).take 8) ∧ Ext w w' := by
  obtain ⟨ao, cc, rfl, d1, d2⟩ := hv.slice
  obtain ⟨V0, e0⟩ : ∃ V0, V0 = w.alloc (.cells (dcs nx op (.slice ao lst.length cc) bg sm ls) 29) := ⟨_, rfl⟩
  obtain ⟨V1, e1⟩ : ∃ V1, V1 = V0.alloc (.cells zst 29) := ⟨_, rfl⟩
  have x0 : Ext w V0 := by rw [e0]; exact (Ext.refl w).alloc _
  have x1 : Ext V0 V1 := by rw [e1]; exact (Ext.refl V0).alloc _
  obtain ⟨bx, ebx⟩ : ∃ bx, bx = w.heap.size := ⟨_, rfl⟩
  have r0 : V0.heap[bx]? = some (.cells (dcs nx op (.slice ao lst.length cc) bg sm ls) 29 (0, 0)) := by rw [e0, ebx]; exact heap_alloc_new w _
  have sz : V0.heap.size = bx + 1 := by rw [e0, ebx, World.size_alloc]
  have B1 : Bx w V1 bx (dcs nx op (.slice ao lst.length cc) bg sm ls) := ⟨x1.row r0, by rw [e1, ← sz]; exact heap_alloc_new V0 _, x0.trans x1, by omega⟩
  have f12 := B1.free 12
  have c12 := B1.cell 12 _ rfl
  unfold zst at e1
  rw [e0] at e1
  have E1 := hid e1
  have EB := hid ebx
  obtain ⟨V2, e2⟩ : ∃ V2, V2 = V1.setCell ⟨bx, 12, none⟩ (.int .i64 tick) := ⟨_, rfl⟩
  have B2 : Bx w V2 bx (dcs nx op (.slice ao lst.length cc) bg sm tick) := by rw [e2]; exact B1.put 12 _ rfl
  have E2 := hid e2
  have cl := B2.cell ly _ (dcs_at nx op (.slice ao lst.length cc) bg sm tick ly hly)
  have fl := B2.free ly
  have i1 : (ly : Int) < 8 := by omega
  have i2 : (0 : Int) ≤ (ly : Int) := by omega
  clear e0 e1 e2 x0 x1 r0 sz ebx B1
  have c11 : V2.cell? ⟨bx, 11, none⟩ = some (.bool sm) := B2.cell 11 _ rfl
  have c10 : V2.cell? ⟨bx, 10, none⟩ = some (.int .i64 bg) := B2.cell 10 _ rfl
  have c9 : V2.cell? ⟨bx, 9, none⟩ = some (.slice ao lst.length cc) := B2.cell 9 _ rfl
  have c8 : V2.cell? ⟨bx, 8, none⟩ = some (.int .i64 op) := B2.cell 8 _ rfl
  have BB := hid B2
  have GP : Hid (∀ V, Calls Try.prog 28 #[.int .u32 (nx.getD ly (-1)), .int .u32 seq] V fun e w' => e = .returned (.int .i64 (Ser.fgap (nx.getD ly (-1)) seq)) ∧ w' = V) := fun V => Ser.refGap_any _ _ hx0 s0 hx1 s1 V
  have hxb : (nx.getD ly (-1) == seq) = false := by rw [beq_eq_false_iff_ne]; exact hne
  have hx2 : ¬ nx.getD ly (-1) < 0 := by omega
  obtain ⟨gr0, gr1⟩ := Ser.fgap_room (nx.getD ly (-1)) seq
  clear hne
  generalize Ser.fgap (nx.getD ly (-1)) seq = G at *
  generalize nx.getD ly (-1) = x at *
  have FR := hid (front_any op (.slice ao lst.length cc) lst V2 (hv.ext B2.2.2.1) (by omega))
  obtain ⟨A, eA⟩ : ∃ A, A = aft seq := ⟨_, rfl⟩
  have wa : (seq + 1) % 4294967296 = A := eA.symm
  rw [← eA]
  have EV := hid (fun V v (h : Bx w V bx (dcs nx op v bg sm tick)) => event_row h ly A hly hn)
  obtain ⟨p0, p1⟩ := cnt_room 0 G (by decide) (by decide) (by omega)
  have CN := hid (fun V a n c => count_any (nx.set ly A) 0 (.slice a n c) tick true tick G V (by decide) (by decide) (by omega) (by omega) rfl)
  have CM := hid (fun V a n c => count_any (nx.set ly A) (cnt 0 G) (.slice a n c) tick true tick 1 V p0 p1 (by decide) (by decide) rfl)
  have ONE := hid (fun a n c => dcs_one (nx.set ly A) (cnt (cnt 0 G) 1) (.slice a n c) tick true tick rfl)
  have eLl : (op :: lst).length = lst.length + 1 := by rw [List.length_cons]
  have FK : Hid (∀ (w6 : World) (a3 : Option Addr) (c3 : Nat), NewR one 3 1 V2 w6 (.slice a3 (lst.length + 1) c3) (op :: lst) → ListK (fun q => V2.heap.size ≤ q ∧ q < w6.heap.size) w6 (.slice a3 (min (lst.length + 1) 8) c3) ((op :: lst).take 8)) := fun w6 a3 c3 h => by
    have r := (NewR.list h).take (min (lst.length + 1) 8) (by rw [List.length_cons]; omega)
    have et : (op :: lst).take (min (lst.length + 1) 8) = (op :: lst).take 8 := by
      by_cases q : lst.length + 1 ≤ 8
      · rw [Nat.min_eq_left q, List.take_of_length_le (by rw [List.length_cons]; exact Nat.le_refl _), List.take_of_length_le (by rw [List.length_cons]; exact q)]
      · rw [Nat.min_eq_right (by omega)]
    rw [et] at r
    exact r
  have V2S : Hid (w.heap.size ≤ V2.heap.size ∧ bx + 1 < V2.heap.size) := ⟨B2.2.2.1.size, lt_of_row B2.2.1⟩
  obtain ⟨LL, eLL⟩ : ∃ LL, LL = (op :: lst).take 8 := ⟨_, rfl⟩
  rw [← eLL] at FK ⊢
  obtain ⟨L, eL⟩ : ∃ L, L = op :: lst := ⟨_, rfl⟩
  rw [← eL] at FR FK eLl
  have EL := hid eLl
  obtain ⟨M, eM⟩ : ∃ M, M = lst.length := ⟨_, rfl⟩
  rw [← eM] at d1 c9 FR FK EL l8 E1 BB ⊢
  have g1 : ¬ 256 < G := by omega
  have g2 : ¬ G ≤ 0 := by omega
  unfold maxLen at d2
  clear B2 eA hn hly p0 p1 eLL eL eLl eM hv
  go_enter Try.func20, Try.ntmps20
  go_wp2_with (first
    | rw [← EB.out, ← E1.out]
    | rw [← E2.out])
  refine (GP.out _).mono ?_
  rintro e wg ⟨rfl, rfl⟩
  clear GP
  have x2 : Ext w wg := BB.out.2.2.1
  cases sm
  case false =>
    clear ht
    go_wp2_with fail
    refine FR.out.mono ?_
    rintro e V3 ⟨fv, rfl, hf⟩
    obtain ⟨a3, c3, ev3, f1, f2⟩ := hf.slice
    rw [EL.out] at ev3 f1
    subst ev3
    unfold maxLen at f2
    have B3 := BB.out.ext hf.2.2
    have LK := hid (FK.out _ _ _ hf)
    have V3S : Hid (w.heap.size ≤ wg.heap.size ∧ Ext w V3) := ⟨V2S.out.1, BB.out.2.2.1.trans hf.2.2⟩
    obtain ⟨V4, e4⟩ : ∃ V4, V4 = V3.setCell ⟨bx, 9, none⟩ (.slice a3 (M + 1) c3) := ⟨_, rfl⟩
    have B4 : Bx w V4 bx (dcs nx op (.slice a3 (M + 1) c3) bg false tick) := by rw [e4]; exact B3.put 9 _ rfl
    have y9 := B3.cell 9 _ rfl
    have z9 : V4.cell? ⟨bx, 9, none⟩ = some (.slice a3 (M + 1) c3) := B4.cell 9 _ rfl
    have z8 := B4.cell 8 _ rfl
    have z10 := B4.cell 10 _ rfl
    have z11 := B4.cell 11 _ rfl
    have zl := B4.cell ly _ (dcs_at nx op (.slice a3 (M + 1) c3) bg false tick ly (by omega))
    have y9f := B3.free 9
    have z9f := B4.free 9
    have z8f := B4.free 8
    have z10f := B4.free 10
    have z11f := B4.free 11
    have zlf := B4.free ly
    have K4 : Kept (fun q => wg.heap.size ≤ q) V3 V4 := by rw [e4]; exact (Kept.refl _ _).setCell (fun h => by have := V2S.out.2; simp only at h; omega) _
    have E4 := hid e4
    have BH4 := hid B4
    have KH4 := hid K4
    clear FR FK hf B3 e4 B4 K4 BB
    by_cases m8 : (M : Int) + 1 ≤ 8
    · rw [Nat.min_eq_left (show M + 1 ≤ 8 by omega)] at LK
      have n8 : ¬ ly = 8 := by omega
      have n9 : ¬ ly = 9 := by omega
      have n10 : ¬ ly = 10 := by omega
      have n11 : ¬ ly = 11 := by omega
      obtain ⟨VF, eF⟩ : ∃ VF, VF = (((V4.setCell ⟨bx, 8, none⟩ (.int .i64 0)).setCell ⟨bx, 10, none⟩ (.int .i64 tick)).setCell ⟨bx, 11, none⟩ (.bool true)).setCell ⟨bx, ly, none⟩ (.int .i64 A) := ⟨_, rfl⟩
      have BF : Bx w VF bx (dcs (nx.set ly A) 0 (.slice a3 (M + 1) c3) tick true tick) := by rw [eF]; exact EV.out V4 (.slice a3 (M + 1) c3) BH4.out
      have nb : ¬ wg.heap.size ≤ bx := by have := V2S.out.2; omega
      have KF := hid (show Kept (fun q => wg.heap.size ≤ q) V3 VF by rw [eF]; exact (((KH4.out.setCell nb _).setCell nb _).setCell nb _).setCell nb _)
      have EF := hid eF
      have RF := hid BF.1
      have BFH := hid BF
      have CN1 := hid (CN.out VF a3 (M + 1) c3)
      have CM1 := hid (fun V => CM.out V a3 (M + 1) c3)
      have ON1 := hid (ONE.out a3 (M + 1) c3)
      clear BF eF EV nb CN CM ONE
      go_wp2_with (first
        | rw [← E4.out]
        | rw [← EF.out]
        | refine wpList_load_row rfl 29 (.tmp 5) rfl bx rfl 29 _ (0, 0) _ RF.out Try.underlying29 rfl (by rw [dcs_size]; exact size_st) ?_)
      refine CN1.out.mono ?_
      rintro e V6 ⟨rfl, x6⟩
      have X6 := hid x6
      clear CN1 x6
      go_wp2_with fail
      refine (CM1.out _).mono ?_
      rintro e V7 ⟨rfl, x7⟩
      have B4 := hid (BFH.out.ext (X6.out.trans x7))
      have FIN := hid (B4.out.done (dcs (nx.set ly A) (cnt (cnt 0 G) 1) (.slice a3 (M + 1) c3) tick true tick))
      have K8 := hid ((KF.out.trans (Kept.of_ext (X6.out.trans x7))).setRow (g := bx + 1) (by have := V2S.out.2; omega) (dcs (nx.set ly A) (cnt (cnt 0 G) 1) (.slice a3 (M + 1) c3) tick true tick))
      have LF := hid ((LK.out.kept (L := fun q => wg.heap.size ≤ q) K8.out (fun q hq => hq.1)).mono (L := fun q => w.heap.size ≤ q) (fun q _ hq => by have := V2S.out.1; omega))
      clear CM1 x7 K8 LK KF BFH RF
      go_wp2_with (refine wpList_store_row rfl 29 (.tmp 10) (.tmp 106) rfl (bx + 1) _ rfl rfl 29 _ B4.out.2.1 (by rw [dcs_size]; exact size_st) rfl ON1.out ?_)
      try simp only [Act.put, List.setIfInBounds_toArray, List.set_cons_zero, List.set_cons_succ]
      refine bodyPost_ret (results_cell_tmp3 Try.results20 _ _ (bx + 1) 29 _ (0, 0) _ rfl FIN.out.2 Try.underlying29 rfl (by rw [dcs_size]; exact size_st)) rfl ?_
      exact ⟨_, rfl, LF.out, FIN.out.1⟩
    · obtain rfl : M = 8 := by omega
      rw [show min (8 + 1) 8 = 8 by decide] at LK
      obtain ⟨V5, e5⟩ : ∃ V5, V5 = V4.setCell ⟨bx, 9, none⟩ (.slice a3 8 c3) := ⟨_, rfl⟩
      have B5 : Bx w V5 bx (dcs nx op (.slice a3 8 c3) bg false tick) := by rw [e5]; exact BH4.out.put 9 _ rfl
      have u8 := B5.cell 8 _ rfl
      have u10 := B5.cell 10 _ rfl
      have u11 := B5.cell 11 _ rfl
      have ul := B5.cell ly _ (dcs_at nx op (.slice a3 8 c3) bg false tick ly (by omega))
      have u8f := B5.free 8
      have u10f := B5.free 10
      have u11f := B5.free 11
      have ulf := B5.free ly
      have KH5 := hid (show Kept (fun q => wg.heap.size ≤ q) V3 V5 by rw [e5]; exact KH4.out.setCell (fun h => by have := V2S.out.2; simp only at h; omega) _)
      have E5 := hid e5
      have BH5 := hid B5
      clear B5 e5 KH4 BH4 m8
      have n8 : ¬ ly = 8 := by omega
      have n9 : ¬ ly = 9 := by omega
      have n10 : ¬ ly = 10 := by omega
      have n11 : ¬ ly = 11 := by omega
      obtain ⟨VF, eF⟩ : ∃ VF, VF = (((V5.setCell ⟨bx, 8, none⟩ (.int .i64 0)).setCell ⟨bx, 10, none⟩ (.int .i64 tick)).setCell ⟨bx, 11, none⟩ (.bool true)).setCell ⟨bx, ly, none⟩ (.int .i64 A) := ⟨_, rfl⟩
      have BF : Bx w VF bx (dcs (nx.set ly A) 0 (.slice a3 8 c3) tick true tick) := by rw [eF]; exact EV.out V5 (.slice a3 8 c3) BH5.out
      have nb : ¬ wg.heap.size ≤ bx := by have := V2S.out.2; omega
      have KF := hid (show Kept (fun q => wg.heap.size ≤ q) V3 VF by rw [eF]; exact (((KH5.out.setCell nb _).setCell nb _).setCell nb _).setCell nb _)
      have EF := hid eF
      have RF := hid BF.1
      have BFH := hid BF
      have CN1 := hid (CN.out VF a3 8 c3)
      have CM1 := hid (fun V => CM.out V a3 8 c3)
      have ON1 := hid (ONE.out a3 8 c3)
      clear BF eF EV nb CN CM ONE
      go_wp2_with (first
        | rw [← E4.out]
        | rw [← E5.out]
        | rw [← EF.out]
        | refine wpList_load_row rfl 29 (.tmp 5) rfl bx rfl 29 _ (0, 0) _ RF.out Try.underlying29 rfl (by rw [dcs_size]; exact size_st) ?_)
      refine CN1.out.mono ?_
      rintro e V6 ⟨rfl, x6⟩
      have X6 := hid x6
      clear CN1 x6
      go_wp2_with fail
      refine (CM1.out _).mono ?_
      rintro e V7 ⟨rfl, x7⟩
      have B4 := hid (BFH.out.ext (X6.out.trans x7))
      have FIN := hid (B4.out.done (dcs (nx.set ly A) (cnt (cnt 0 G) 1) (.slice a3 8 c3) tick true tick))
      have K8 := hid ((KF.out.trans (Kept.of_ext (X6.out.trans x7))).setRow (g := bx + 1) (by have := V2S.out.2; omega) (dcs (nx.set ly A) (cnt (cnt 0 G) 1) (.slice a3 8 c3) tick true tick))
      have LF := hid ((LK.out.kept (L := fun q => wg.heap.size ≤ q) K8.out (fun q hq => hq.1)).mono (L := fun q => w.heap.size ≤ q) (fun q _ hq => by have := V2S.out.1; omega))
      clear CM1 x7 K8 LK KF BFH RF
      go_wp2_with (refine wpList_store_row rfl 29 (.tmp 10) (.tmp 106) rfl (bx + 1) _ rfl rfl 29 _ B4.out.2.1 (by rw [dcs_size]; exact size_st) rfl ON1.out ?_)
      try simp only [Act.put, List.setIfInBounds_toArray, List.set_cons_zero, List.set_cons_succ]
      refine bodyPost_ret (results_cell_tmp3 Try.results20 _ _ (bx + 1) 29 _ (0, 0) _ rfl FIN.out.2 Try.underlying29 rfl (by rw [dcs_size]; exact size_st)) rfl ?_
      exact ⟨_, rfl, LF.out, FIN.out.1⟩
  case true =>
    have hs : rtt < tick - bg := ht.elim (fun h => by cases h) id
    clear ht
    go_wp2_with fail
    refine FR.out.mono ?_
    rintro e V3 ⟨fv, rfl, hf⟩
    obtain ⟨a3, c3, ev3, f1, f2⟩ := hf.slice
    rw [EL.out] at ev3 f1
    subst ev3
    unfold maxLen at f2
    have B3 := BB.out.ext hf.2.2
    have LK := hid (FK.out _ _ _ hf)
    have V3S : Hid (w.heap.size ≤ wg.heap.size ∧ Ext w V3) := ⟨V2S.out.1, BB.out.2.2.1.trans hf.2.2⟩
    obtain ⟨V4, e4⟩ : ∃ V4, V4 = V3.setCell ⟨bx, 9, none⟩ (.slice a3 (M + 1) c3) := ⟨_, rfl⟩
    have B4 : Bx w V4 bx (dcs nx op (.slice a3 (M + 1) c3) bg true tick) := by rw [e4]; exact B3.put 9 _ rfl
    have y9 := B3.cell 9 _ rfl
    have z9 : V4.cell? ⟨bx, 9, none⟩ = some (.slice a3 (M + 1) c3) := B4.cell 9 _ rfl
    have z8 := B4.cell 8 _ rfl
    have z10 := B4.cell 10 _ rfl
    have z11 := B4.cell 11 _ rfl
    have zl := B4.cell ly _ (dcs_at nx op (.slice a3 (M + 1) c3) bg true tick ly (by omega))
    have y9f := B3.free 9
    have z9f := B4.free 9
    have z8f := B4.free 8
    have z10f := B4.free 10
    have z11f := B4.free 11
    have zlf := B4.free ly
    have K4 : Kept (fun q => wg.heap.size ≤ q) V3 V4 := by rw [e4]; exact (Kept.refl _ _).setCell (fun h => by have := V2S.out.2; simp only at h; omega) _
    have E4 := hid e4
    have BH4 := hid B4
    have KH4 := hid K4
    clear FR FK hf B3 e4 B4 K4 BB
    by_cases m8 : (M : Int) + 1 ≤ 8
    · rw [Nat.min_eq_left (show M + 1 ≤ 8 by omega)] at LK
      have n8 : ¬ ly = 8 := by omega
      have n9 : ¬ ly = 9 := by omega
      have n10 : ¬ ly = 10 := by omega
      have n11 : ¬ ly = 11 := by omega
      obtain ⟨VF, eF⟩ : ∃ VF, VF = (((V4.setCell ⟨bx, 8, none⟩ (.int .i64 0)).setCell ⟨bx, 10, none⟩ (.int .i64 tick)).setCell ⟨bx, 11, none⟩ (.bool true)).setCell ⟨bx, ly, none⟩ (.int .i64 A) := ⟨_, rfl⟩
      have BF : Bx w VF bx (dcs (nx.set ly A) 0 (.slice a3 (M + 1) c3) tick true tick) := by rw [eF]; exact EV.out V4 (.slice a3 (M + 1) c3) BH4.out
      have nb : ¬ wg.heap.size ≤ bx := by have := V2S.out.2; omega
      have KF := hid (show Kept (fun q => wg.heap.size ≤ q) V3 VF by rw [eF]; exact (((KH4.out.setCell nb _).setCell nb _).setCell nb _).setCell nb _)
      have EF := hid eF
      have RF := hid BF.1
      have BFH := hid BF
      have CN1 := hid (CN.out VF a3 (M + 1) c3)
      have CM1 := hid (fun V => CM.out V a3 (M + 1) c3)
      have ON1 := hid (ONE.out a3 (M + 1) c3)
      clear BF eF EV nb CN CM ONE
      go_wp2_with (first
        | rw [← E4.out]
        | rw [← EF.out]
        | refine wpList_load_row rfl 29 (.tmp 5) rfl bx rfl 29 _ (0, 0) _ RF.out Try.underlying29 rfl (by rw [dcs_size]; exact size_st) ?_)
      refine CN1.out.mono ?_
      rintro e V6 ⟨rfl, x6⟩
      have X6 := hid x6
      clear CN1 x6
      go_wp2_with fail
      refine (CM1.out _).mono ?_
      rintro e V7 ⟨rfl, x7⟩
      have B4 := hid (BFH.out.ext (X6.out.trans x7))
      have FIN := hid (B4.out.done (dcs (nx.set ly A) (cnt (cnt 0 G) 1) (.slice a3 (M + 1) c3) tick true tick))
      have K8 := hid ((KF.out.trans (Kept.of_ext (X6.out.trans x7))).setRow (g := bx + 1) (by have := V2S.out.2; omega) (dcs (nx.set ly A) (cnt (cnt 0 G) 1) (.slice a3 (M + 1) c3) tick true tick))
      have LF := hid ((LK.out.kept (L := fun q => wg.heap.size ≤ q) K8.out (fun q hq => hq.1)).mono (L := fun q => w.heap.size ≤ q) (fun q _ hq => by have := V2S.out.1; omega))
      clear CM1 x7 K8 LK KF BFH RF
      go_wp2_with (refine wpList_store_row rfl 29 (.tmp 10) (.tmp 106) rfl (bx + 1) _ rfl rfl 29 _ B4.out.2.1 (by rw [dcs_size]; exact size_st) rfl ON1.out ?_)
      try simp only [Act.put, List.setIfInBounds_toArray, List.set_cons_zero, List.set_cons_succ]
      refine bodyPost_ret (results_cell_tmp3 Try.results20 _ _ (bx + 1) 29 _ (0, 0) _ rfl FIN.out.2 Try.underlying29 rfl (by rw [dcs_size]; exact size_st)) rfl ?_
      exact ⟨_, rfl, LF.out, FIN.out.1⟩
    · obtain rfl : M = 8 := by omega
      rw [show min (8 + 1) 8 = 8 by decide] at LK
      obtain ⟨V5, e5⟩ : ∃ V5, V5 = V4.setCell ⟨bx, 9, none⟩ (.slice a3 8 c3) := ⟨_, rfl⟩
      have B5 : Bx w V5 bx (dcs nx op (.slice a3 8 c3) bg true tick) := by rw [e5]; exact BH4.out.put 9 _ rfl
      have u8 := B5.cell 8 _ rfl
      have u10 := B5.cell 10 _ rfl
      have u11 := B5.cell 11 _ rfl
      have ul := B5.cell ly _ (dcs_at nx op (.slice a3 8 c3) bg true tick ly (by omega))
      have u8f := B5.free 8
      have u10f := B5.free 10
      have u11f := B5.free 11
      have ulf := B5.free ly
      have KH5 := hid (show Kept (fun q => wg.heap.size ≤ q) V3 V5 by rw [e5]; exact KH4.out.setCell (fun h => by have := V2S.out.2; simp only at h; omega) _)
      have E5 := hid e5
      have BH5 := hid B5
      clear B5 e5 KH4 BH4 m8
      have n8 : ¬ ly = 8 := by omega
      have n9 : ¬ ly = 9 := by omega
      have n10 : ¬ ly = 10 := by omega
      have n11 : ¬ ly = 11 := by omega
      obtain ⟨VF, eF⟩ : ∃ VF, VF = (((V5.setCell ⟨bx, 8, none⟩ (.int .i64 0)).setCell ⟨bx, 10, none⟩ (.int .i64 tick)).setCell ⟨bx, 11, none⟩ (.bool true)).setCell ⟨bx, ly, none⟩ (.int .i64 A) := ⟨_, rfl⟩
      have BF : Bx w VF bx (dcs (nx.set ly A) 0 (.slice a3 8 c3) tick true tick) := by rw [eF]; exact EV.out V5 (.slice a3 8 c3) BH5.out
      have nb : ¬ wg.heap.size ≤ bx := by have := V2S.out.2; omega
      have KF := hid (show Kept (fun q => wg.heap.size ≤ q) V3 VF by rw [eF]; exact (((KH5.out.setCell nb _).setCell nb _).setCell nb _).setCell nb _)
      have EF := hid eF
      have RF := hid BF.1
      have BFH := hid BF
      have CN1 := hid (CN.out VF a3 8 c3)
      have CM1 := hid (fun V => CM.out V a3 8 c3)
      have ON1 := hid (ONE.out a3 8 c3)
      clear BF eF EV nb CN CM ONE
      go_wp2_with (first
        | rw [← E4.out]
        | rw [← E5.out]
        | rw [← EF.out]
        | refine wpList_load_row rfl 29 (.tmp 5) rfl bx rfl 29 _ (0, 0) _ RF.out Try.underlying29 rfl (by rw [dcs_size]; exact size_st) ?_)
      refine CN1.out.mono ?_
      rintro e V6 ⟨rfl, x6⟩
      have X6 := hid x6
      clear CN1 x6
      go_wp2_with fail
      refine (CM1.out _).mono ?_
      rintro e V7 ⟨rfl, x7⟩
      have B4 := hid (BFH.out.ext (X6.out.trans x7))
      have FIN := hid (B4.out.done (dcs (nx.set ly A) (cnt (cnt 0 G) 1) (.slice a3 8 c3) tick true tick))
      have K8 := hid ((KF.out.trans (Kept.of_ext (X6.out.trans x7))).setRow (g := bx + 1) (by have := V2S.out.2; omega) (dcs (nx.set ly A) (cnt (cnt 0 G) 1) (.slice a3 8 c3) tick true tick))
      have LF := hid ((LK.out.kept (L := fun q => wg.heap.size ≤ q) K8.out (fun q hq => hq.1)).mono (L := fun q => w.heap.size ≤ q) (fun q _ hq => by have := V2S.out.1; omega))
      clear CM1 x7 K8 LK KF BFH RF
      go_wp2_with (refine wpList_store_row rfl 29 (.tmp 10) (.tmp 106) rfl (bx + 1) _ rfl rfl 29 _ B4.out.2.1 (by rw [dcs_size]; exact size_st) rfl ON1.out ?_)
      try simp only [Act.put, List.setIfInBounds_toArray, List.set_cons_zero, List.set_cons_succ]
      refine bodyPost_ret (results_cell_tmp3 Try.results20 _ _ (bx + 1) 29 _ (0, 0) _ rfl FIN.out.2 Try.underlying29 rfl (by rw [dcs_size]; exact size_st)) rfl ?_
      exact ⟨_, rfl, LF.out, FIN.out.1⟩

end Go.Proofs.Ytlglhggfhlpbjaa.Det

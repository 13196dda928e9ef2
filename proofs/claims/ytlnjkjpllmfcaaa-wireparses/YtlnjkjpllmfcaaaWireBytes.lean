/-
  Walks of Bytes and Size.
-/
import Derived.Test.YtlnjkjpllmfcaaaWireRight
namespace Go.Proofs.Ytlnjkjpllmfcaaa
set_option linter.unusedVariables false
set_option maxRecDepth 100000
open Go.RowKit Go.Lib

/-- new blocks are let stay too -/
theorem Wr.grow {K : Nat → Prop} {w w1 : World} {g : Nat} {l : List UInt8} (h : Wr K w g l) (e : Ext w w1) : Wr (fun i => K i ∨ (w.heap.size ≤ i ∧ i < w1.heap.size)) w1 g l := by
  obtain ⟨v, hg, ho, hk, hbk, hs⟩ := h
  have gl := lt_of_row hg
  refine ⟨v, e.row hg, ⟨ho.1, ?_⟩, fun h1 => h1.elim hk (by omega), fun k hv => ⟨fun h1 => h1.elim (hbk k hv).1 (by have := (ho.lt k hv).2; omega), (hbk k hv).2⟩, fun i hi => ?_⟩
  · rcases ho.2 with h0 | ⟨b', cap, cur, ev, hb0, hgb, r⟩
    · exact .inl h0
    · exact .inr ⟨b', cap, cur, ev, hb0, e.row hgb, r⟩
  · have := e.size
    rcases hi with hi | hi
    · have := hs i hi; omega
    · omega

theorem flat_length (p : Pk) : ∀ (cs : List Nat) (k : Nat), ((cs.take k).flatMap fun c => enc c p).length ≤ (cs.flatMap fun c => enc c p).length := by
  intro cs
  induction cs with
  | nil => intro k; simp
  | cons c cs ih =>
    intro k
    cases k with
    | zero => simp
    | succ k => simp only [List.take_succ_cons, List.flatMap_cons, List.length_append]; have := ih k; omega
theorem flat_snoc (p : Pk) (cs : List Nat) (k : Nat) (h : k < cs.length) : (cs.take (k + 1)).flatMap (fun c => enc c p) = (cs.take k).flatMap (fun c => enc c p) ++ enc (cs.getD k 0) p := by
  rw [take_snocN cs k h, List.flatMap_append]; simp

set_option maxHeartbeats 4000000 in
theorem bytes_no (w : World) (v : Value) (p : Pk) (hv : PVal w v p) (hb : bnd p) (hl : slim p) (hr : right p = false) :
    Calls Try.prog 12 #[v] w fun e w' => e = .returned (.tuple #[.slice none 0 0, .int .i64 10]) ∧ Ext w w' := by
  obtain ⟨ra, rg, da, rfl, pl⟩ := hv
  obtain ⟨w1, e1⟩ : ∃ w1, w1 = w.alloc (.cells (prow p ra rg da) 29) := ⟨_, rfl⟩
  have X1 : Ext w w1 := by rw [e1]; exact (Ext.refl w).alloc _
  have b1 : Hid (w1.heap[w.heap.size]? = some (.cells (prow p ra rg da) 29 (0, 0))) := by rw [e1]; exact heap_alloc_new w _
  have C := hid (right_any w1 _ p ⟨ra, rg, da, rfl, pl.kept (.of_ext X1)⟩ hb hl)
  rw [hr] at C
  have E1 := hid e1
  have XX := hid X1
  clear e1 pl X1 hb hl hr
  go_enter Try.func12, Try.ntmps12
  go_wp2_with (first | rw [← E1.out] | refine wpList_load_row rfl 29 _ rfl w.heap.size rfl 29 (prow p ra rg da) (0, 0) _ b1.out Try.underlying29 rfl cells_packet ?_)
  refine C.out.mono ?_
  rintro e w2 ⟨rfl, X2⟩
  have Y := hid (XX.out.trans X2)
  clear C X2
  go_wp2_with fail
  go_ret2
  exact ⟨rfl, Y.out⟩

set_option maxHeartbeats 8000000 in
theorem bytes_yes (w : World) (v : Value) (p : Pk) (hv : PVal w v p) (hb : bnd p) (hl : slim p) (hr : right p = true) :
    Calls Try.prog 12 #[v] w fun e w' => ∃ g, e = .returned (.tuple #[.slice (some ⟨g, 0, none⟩) ((text p).length + 4) ((text p).length + 4), .int .i64 0]) ∧ w.heap.size ≤ g ∧ Row w' g (cseal (text p)) ∧ Ext w w' := by
  obtain ⟨ra, rg, da, rfl, pl⟩ := hv
  have hk := (right_parts hr).1
  obtain ⟨w1, e1⟩ : ∃ w1, w1 = w.alloc (.cells (prow p ra rg da) 29) := ⟨_, rfl⟩
  have X1 : Ext w w1 := by rw [e1]; exact (Ext.refl w).alloc _
  have s1 : w1.heap.size = w.heap.size + 1 := by rw [e1]; simp
  have b1 : w1.heap[w.heap.size]? = some (.cells (prow p ra rg da) 29 (0, 0)) := by rw [e1]; exact heap_alloc_new w _
  have C := hid (right_any w1 _ p ⟨ra, rg, da, rfl, pl.kept (.of_ext X1)⟩ hb hl)
  have TL := text_length hr
  have FN := hid hb.1
  have SL := hid hl
  rw [hr] at C
  have E1 := hid e1
  have XX := hid X1
  have B1 := hid b1
  have PLH := hid pl
  clear e1 pl X1 b1
  go_enter Try.func12, Try.ntmps12
  go_wp2_with (first | rw [← E1.out] | refine wpList_load_row rfl 29 _ rfl w.heap.size rfl 29 (prow p ra rg da) (0, 0) _ B1.out Try.underlying29 rfl cells_packet ?_)
  refine C.out.mono ?_
  rintro e w2 ⟨rfl, X2⟩
  clear C
  obtain ⟨w3, e3⟩ : ∃ w3, w3 = w2.alloc (.cells #[.slice none 0 0] 55) := ⟨_, rfl⟩
  have X3 : Ext w2 w3 := by rw [e3]; exact (Ext.refl w2).alloc _
  have s3 : w3.heap.size = w2.heap.size + 1 := by rw [e3]; simp
  have g3 : w3.heap[w2.heap.size]? = some (.cells #[.slice none 0 0] 55 (0, 0)) := by rw [e3]; exact heap_alloc_new w2 _
  have W3 : Wr (fun i => i < w2.heap.size) w3 w2.heap.size [] := by
    refine ⟨_, g3, World.ownsRow_nil _ _ _ _, Nat.lt_irrefl _, fun k hk => ?_, fun i hi => ?_⟩
    · simp [Value.ownBlock] at hk
    · have : i < w2.heap.size := hi
      omega
  have hB3 := X3.row (X2.row B1.out)
  have c3 : w3.cell? ⟨w.heap.size, 0, none⟩ = some (.int .i64 (p.1 0)) := by rw [cell_of_row _ _ _ _ _ _ hB3]; rfl
  have kb : p.1 0 = ((UInt8.ofNat (p.1 0).toNat).toNat : Int) := by rw [kind_byte hk]; omega
  have C3 := hid (octet_any _ w3 w2.heap.size [] (UInt8.ofNat (p.1 0).toNat) _ kb W3 (by simp))
  have E3 := hid e3
  have H3 := hid hB3
  have X03 := hid ((XX.out.trans X2).trans X3)
  have sz2 := X2.size
  clear W3 g3 e3 kb X2 X3 hB3
  have w2s : w.heap.size < w2.heap.size := by omega
  have KD := hid hk
  have HBB := hid hb
  obtain ⟨cs, ecs⟩ : ∃ cs, cs = kfields (p.1 0).toNat := ⟨_, rfl⟩
  have TX : Hid (text p = UInt8.ofNat (p.1 0).toNat :: cs.flatMap fun c => enc c p) := by rw [ecs]; rfl
  have cl6 : cs.length ≤ 6 := by rw [ecs]; unfold kfields; split <;> decide
  have ECS := hid ecs
  clear hb hl hr ecs
  go_wp2_with (rw [← E3.out])
  refine C3.out.mono ?_
  rintro e w4 ⟨rfl, W4, K4⟩
  clear C3 c3
  have c4 : w4.cell? ⟨w.heap.size, 0, none⟩ = some (.int .i64 (p.1 0)) := by rw [cell_of_row _ _ _ _ _ _ (K4.row (show w.heap.size < w2.heap.size by omega) H3.out)]; rfl
  have C5 := hid (fieldsOf_any w4 (p.1 0) KD.out)
  rw [← ECS.out] at C5
  have HW4 := hid W4
  have HK4 := hid K4
  clear W4 K4
  go_wp2_with fail
  refine C5.out.mono ?_
  rintro e w5 ⟨v, rfl, F5, X5⟩
  clear C5 c4
  obtain ⟨K, eK⟩ : ∃ K : Nat → Prop, K = fun i => i < w2.heap.size ∨ (w4.heap.size ≤ i ∧ i < w5.heap.size) := ⟨_, rfl⟩
  have W5 : Wr K w5 w2.heap.size ([] ++ [UInt8.ofNat (p.1 0).toNat]) := by rw [eK]; exact HW4.out.grow X5
  have s4 := HK4.out.size
  have hK1 : ∀ i, i < w2.heap.size → K i := by rw [eK]; exact fun i hi => .inl hi
  have hp5 : PAt K w5 w.heap.size p := by
    have p3 : PAt K w3 w.heap.size p := PVal.at PLH.out X03.out (fun i hi => hK1 i (by omega)) H3.out
    have p4 : PAt (fun i => i < w2.heap.size) w4 w.heap.size p := (PVal.at (K := fun i => i < w2.heap.size) PLH.out X03.out (fun i hi => by show i < w2.heap.size; omega) H3.out).kept HK4.out (HK4.out.2 _ (lt_of_row H3.out) (by show w.heap.size < w2.heap.size; omega))
    exact ((p4.kept (.of_ext X5) (by rw [X5.row (Array.getElem?_eq_getElem p4.lt), Array.getElem?_eq_getElem p4.lt])).mono (fun i _ hi => hK1 i hi))
  have F5' : Fields K w5 v cs := F5.mono (fun i hi h4 => by rw [eK]; exact .inr ⟨h4, hi⟩)
  have Y5 : Hid (Below w.heap.size w w5) := by
    have : Below w.heap.size w w4 := Below.trans X03.out (HK4.out.below (by omega) (fun i hi => by show i < w2.heap.size; omega))
    exact this.trans (Below.mono X5 (by omega))
  obtain ⟨fb, fs, rfl, kfb, rfb, af⟩ := F5'
  have HH := hid (And.intro hp5 (And.intro kfb (And.intro rfb af)))
  have HW5 := hid W5
  have KS : Hid (∀ i, i < w.heap.size → K i) := fun i hi => hK1 i (by omega)
  have KP : Hid (K w.heap.size) := hK1 _ (by omega)
  clear F5 X5 W5 hp5 kfb rfb af hK1 eK HW4 HK4
  generalize w2.heap.size = gw at *
  go_wp2_with fail
  go_loopw [18] (fun i wr => ∃ k : Nat, k ≤ cs.length ∧ i = .int .i64 k ∧ Wr K wr gw (UInt8.ofNat (p.1 0).toNat :: (cs.take k).flatMap fun c => enc c p) ∧ Kept K w5 wr) (fun i _ => (cs.length - intOf i).toNat)
  case atStart => exact ⟨0, by omega, rfl, HW5.out, Kept.refl _ _⟩
  case round =>
    obtain ⟨k, hk, rfl, hw, hkept⟩ := hrel
    clear HW5
    have tl : ∀ k, (UInt8.ofNat (p.1 0).toNat :: (cs.take k).flatMap fun c => enc c p).length ≤ 300 := by
      intro k
      have e1 := flat_length p cs k
      have e2 := congrArg List.length TX.out
      simp only [List.length_cons] at e2 ⊢
      omega
    by_cases t : k < cs.length
    · have ha := HH.2.2.2.kept hkept
      have hr := hkept.row HH.2.1 HH.2.2.1
      have hp := HH.1.kept hkept (hkept.2 _ HH.1.lt KP.out)
      obtain ⟨vp, vg, vf, vd, fa, q1, q2, q3, q4⟩ := ha.at k t
      have c1 : wr.cell? ⟨fb, k * 4, none⟩ = some vp := by rw [cell_of_row _ _ _ _ _ _ hr, List.getElem?_toArray]; exact q1
      have c2 : wr.cell? ⟨fb, k * 4 + 1, none⟩ = some vg := by rw [cell_of_row _ _ _ _ _ _ hr, List.getElem?_toArray]; exact q2
      have c3 : wr.cell? ⟨fb, k * 4 + 2, none⟩ = some vf := by rw [cell_of_row _ _ _ _ _ _ hr, List.getElem?_toArray]; exact q3
      have c4 : wr.cell? ⟨fb, k * 4 + 3, none⟩ = some vd := by rw [cell_of_row _ _ _ _ _ _ hr, List.getElem?_toArray]; exact q4
      have ON := hid fa.one
      obtain ⟨w6, e6⟩ : ∃ w6, w6 = wr.alloc (.cells #[vp, vg, vf, vd] 64) := ⟨_, rfl⟩
      have SN : Hid ((wr.alloc (.cells #[.nilFunc, .nilFunc, .nilFunc, .nilFunc] 64)).setRow wr.heap.size #[vp, vg, vf, vd] = w6) := by rw [e6]; exact setRow_new wr _ _ _ _
      have GZ : Hid ((wr.alloc (.cells #[.nilFunc, .nilFunc, .nilFunc, .nilFunc] 64)).heap[wr.heap.size]? = some (.cells #[.nilFunc, .nilFunc, .nilFunc, .nilFunc] 64 (0, 0))) := heap_alloc_new wr _
      have g6 : w6.heap[wr.heap.size]? = some (.cells #[vp, vg, vf, vd] 64 (0, 0)) := by rw [e6]; exact heap_alloc_new wr _
      have X6 : Ext wr w6 := by rw [e6]; exact (Ext.refl wr).alloc _
      have fp : w6.cell? ⟨wr.heap.size, 0, none⟩ = some vp := by rw [cell_of_row _ _ _ _ _ _ g6]; rfl
      have fa6 := fa.kept (.of_ext X6)
      have hp6 := hp.kept (.of_ext X6) (by rw [X6.row (Array.getElem?_eq_getElem hp.lt), Array.getElem?_eq_getElem hp.lt])
      obtain ⟨f1, cap1, rfl, en1, C1⟩ := fa6.puts w.heap.size gw p _ hp6 FN.out SL.out (hw.ext X6) (by have := tl k; omega)
      rw [List.cons_append, ← flat_snoc p cs k t] at C1
      have CP := hid C1
      unfold Entered at en1
      have KX := hid (hkept.trans (.of_ext X6))
      have t1 : (k : Int) < (cs.length : Int) := by omega
      have t2 : (0 : Int) ≤ (k : Int) := by omega
      clear hp ha hr fa fa6 hp6 g6 X6 C1 q1 q2 q3 q4 e6 hw hkept
      go_wp2_with (refine wpList_store_row rfl 64 _ _ rfl wr.heap.size #[.func (.func f1) #[] cap1, vg, vf, vd] rfl rfl 64 #[.nilFunc, .nilFunc, .nilFunc, .nilFunc] GZ.out cells_field rfl ON.out ?_; rw [SN.out])
      refine CP.out.mono ?_
      rintro e w7 ⟨rfl, h7, k7⟩
      have R7 := hid (And.intro h7 (KX.out.trans k7))
      clear h7 k7 CP en1 c1 c2 c3 c4 fp
      go_wp2_with fail
      go_roundw
      case rel => exact ⟨k + 1, by omega, by go_num, R7.1, R7.2⟩
      case measure => simp [intOf]; omega
    · obtain rfl : k = cs.length := by omega
      rw [List.take_length, ← TX.out] at hw
      obtain ⟨v, gv, ov, _⟩ := hw
      have cv : wr.cell? ⟨gw, 0, none⟩ = some v := by rw [cell_of_row _ _ _ _ _ _ gv]; rfl
      have CS := hid (seal_any v (text p) wr (owns_bytes ov).2 (by omega))
      have YR : Hid (Below w.heap.size w wr) := Y5.out.trans (hkept.below (by have := Below.size Y5.out; omega) KS.out)
      clear gv ov hkept tl
      go_wp2_with fail
      refine CS.out.mono ?_
      rintro e w8 ⟨g, rfl, hg, r8, X8⟩
      have YF : Hid (Ext w w8) := Below.trans YR.out (Below.mono X8 (Below.size YR.out))
      have R8 := hid r8
      have sz8 := Below.size YR.out
      clear X8 r8 CS cv
      go_wp2_with fail
      go_ret2
      exact ⟨g, rfl, by omega, R8.out, YF.out⟩

set_option maxHeartbeats 1000000 in
theorem size_yes (w : World) (v : Value) (p : Pk) (hv : PVal w v p) (hb : bnd p) (hl : slim p) (hr : right p = true) :
    Calls Try.prog 15 #[v] w fun e w' => e = .returned (.int .i64 ((text p).length + 4 : Nat)) ∧ Ext w w' := by
  have TL := text_length hr
  obtain ⟨ra, rg, da, rfl, pl⟩ := hv
  obtain ⟨w1, e1⟩ : ∃ w1, w1 = w.alloc (.cells (prow p ra rg da) 29) := ⟨_, rfl⟩
  have X1 : Ext w w1 := by rw [e1]; exact (Ext.refl w).alloc _
  have b1 : Hid (w1.heap[w.heap.size]? = some (.cells (prow p ra rg da) 29 (0, 0))) := by rw [e1]; exact heap_alloc_new w _
  have C := hid (bytes_yes w1 _ p ⟨ra, rg, da, rfl, pl.kept (.of_ext X1)⟩ hb hl hr)
  have E1 := hid e1
  have XX := hid X1
  clear e1 pl X1 hb hl hr
  generalize (text p).length = n at *
  go_enter Try.func15, Try.ntmps15
  go_wp2_with (first | rw [← E1.out] | refine wpList_load_row rfl 29 _ rfl w.heap.size rfl 29 (prow p ra rg da) (0, 0) _ b1.out Try.underlying29 rfl cells_packet ?_)
  refine C.out.mono ?_
  rintro e w2 ⟨g, rfl, _, _, X2⟩
  have Y := hid (XX.out.trans X2)
  clear C X2
  go_wp2_with fail
  go_ret
  exact ⟨rfl, Y.out⟩

set_option maxHeartbeats 1000000 in
theorem size_no (w : World) (v : Value) (p : Pk) (hv : PVal w v p) (hb : bnd p) (hl : slim p) (hr : right p = false) :
    Calls Try.prog 15 #[v] w fun e w' => e = .returned (.int .i64 0) ∧ Ext w w' := by
  obtain ⟨ra, rg, da, rfl, pl⟩ := hv
  obtain ⟨w1, e1⟩ : ∃ w1, w1 = w.alloc (.cells (prow p ra rg da) 29) := ⟨_, rfl⟩
  have X1 : Ext w w1 := by rw [e1]; exact (Ext.refl w).alloc _
  have b1 : Hid (w1.heap[w.heap.size]? = some (.cells (prow p ra rg da) 29 (0, 0))) := by rw [e1]; exact heap_alloc_new w _
  have C := hid (bytes_no w1 _ p ⟨ra, rg, da, rfl, pl.kept (.of_ext X1)⟩ hb hl hr)
  have E1 := hid e1
  have XX := hid X1
  clear e1 pl X1 hb hl hr
  go_enter Try.func15, Try.ntmps15
  go_wp2_with (first | rw [← E1.out] | refine wpList_load_row rfl 29 _ rfl w.heap.size rfl 29 (prow p ra rg da) (0, 0) _ b1.out Try.underlying29 rfl cells_packet ?_)
  refine C.out.mono ?_
  rintro e w2 ⟨rfl, X2⟩
  have Y := hid (XX.out.trans X2)
  clear C X2
  go_wp2_with fail
  go_ret
  exact ⟨rfl, Y.out⟩
end Go.Proofs.Ytlnjkjpllmfcaaa

/-
  Walks of fieldsOf: the fields of each Kind.
-/
import Derived.Test.YtlnjkjpllmfcaaaWireKind
import Derived.Great.BuildSlice
namespace Go.Proofs.Ytlnjkjpllmfcaaa
set_option linter.unusedVariables false
set_option maxRecDepth 100000
open Go.RowKit Go.Lib

/-- the four functions of a field -/
abbrev Four : Type := Value × Value × Value × Value
def fcells (fs : List Four) : List Value := fs.flatMap fun f => [f.1, f.2.1, f.2.2.1, f.2.2.2]
def AllFields (K : Nat → Prop) (w : World) : List Nat → List Four → Prop
  | [], [] => True
  | c :: cs, f :: fs => FieldAt K w c f.1 f.2.1 f.2.2.1 f.2.2.2 ∧ AllFields K w cs fs
  | _, _ => False
theorem AllFields.kept {K : Nat → Prop} {w w' : World} (k : Kept K w w') : ∀ {cs : List Nat} {fs : List Four}, AllFields K w cs fs → AllFields K w' cs fs
  | [], [], _ => trivial
  | _ :: _, _ :: _, h => ⟨h.1.kept k, AllFields.kept k h.2⟩
  | [], _ :: _, h => h.elim
  | _ :: _, [], h => h.elim
theorem AllFields.mono {K L : Nat → Prop} {w : World} (hL : ∀ i, i < w.heap.size → K i → L i) : ∀ {cs : List Nat} {fs : List Four}, AllFields K w cs fs → AllFields L w cs fs
  | [], [], _ => trivial
  | _ :: _, _ :: _, h => ⟨h.1.mono hL, AllFields.mono hL h.2⟩
  | [], _ :: _, h => h.elim
  | _ :: _, [], h => h.elim
theorem AllFields.length {K : Nat → Prop} {w : World} : ∀ {cs : List Nat} {fs : List Four}, AllFields K w cs fs → fs.length = cs.length
  | [], [], _ => rfl
  | _ :: _, _ :: _, h => by simp [AllFields.length h.2]
  | [], _ :: _, h => h.elim
  | _ :: _, [], h => h.elim
theorem AllFields.at {K : Nat → Prop} {w : World} : ∀ {cs : List Nat} {fs : List Four}, AllFields K w cs fs → ∀ k, k < cs.length → ∃ vp vg vf vd, FieldAt K w (cs.getD k 0) vp vg vf vd ∧ (fcells fs)[k * 4]? = some vp ∧ (fcells fs)[k * 4 + 1]? = some vg ∧ (fcells fs)[k * 4 + 2]? = some vf ∧ (fcells fs)[k * 4 + 3]? = some vd
  | [], [], _, k, hk => by simp at hk
  | c :: cs, f :: fs, h, 0, _ => ⟨f.1, f.2.1, f.2.2.1, f.2.2.2, h.1, by simp [fcells]⟩
  | c :: cs, f :: fs, h, k + 1, hk => by
    obtain ⟨vp, vg, vf, vd, h1, h2⟩ := AllFields.at h.2 k (by simpa using hk)
    refine ⟨vp, vg, vf, vd, by simpa using h1, ?_⟩
    have e : (k + 1) * 4 = k * 4 + 4 := by omega
    rw [e]
    simpa [fcells] using h2
  | [], _ :: _, h, _, _ => h.elim
  | _ :: _, [], h, _, _ => h.elim
/-- v is the fields cs -/
def Fields (K : Nat → Prop) (w : World) (v : Value) (cs : List Nat) : Prop :=
  ∃ fb fs, v = .slice (some ⟨fb, 0, none⟩) cs.length cs.length ∧ K fb ∧ w.heap[fb]? = some (.cells (fcells fs).toArray 64 (0, 0)) ∧ AllFields K w cs fs
theorem Fields.kept {K : Nat → Prop} {w w' : World} {v : Value} {cs : List Nat} (h : Fields K w v cs) (k : Kept K w w') : Fields K w' v cs := by
  obtain ⟨fb, fs, e, h1, h2, h3⟩ := h
  exact ⟨fb, fs, e, h1, k.row h1 h2, h3.kept k⟩
theorem Fields.mono {K L : Nat → Prop} {w : World} {v : Value} {cs : List Nat} (h : Fields K w v cs) (hL : ∀ i, i < w.heap.size → K i → L i) : Fields L w v cs := by
  obtain ⟨fb, fs, e, h1, h2, h3⟩ := h
  exact ⟨fb, fs, e, hL fb (lt_of_row h2) h1, h2, h3.mono hL⟩

theorem info_field : (Try.prog.info? 64).map (fun i => (i.zero, i.size, i.bytes)) = some (some (.agg #[.nilFunc, .nilFunc, .nilFunc, .nilFunc]), 4, 32) := by kernel_rfl
theorem build_fields (w : World) (n : Nat) (hn : 0 < n) (hn6 : n ≤ 6) (parts : Array (Nat × Value)) (cells : Array Value)
    (hf : Instr.fill (fun i => some (i * 4, 4)) ((Array.range (n * 4)).map ((Value.agg #[.nilFunc, .nilFunc, .nilFunc, .nilFunc]).cells[· % (Value.agg #[.nilFunc, .nilFunc, .nilFunc, .nilFunc]).cells.size]!)) parts.toList = some cells) :
    (Instr.buildSlice 57 n parts).run Try.prog w = .ok (.slice (some ⟨w.heap.size, 0, none⟩) n n) (w.alloc (.cells cells 64)) := by
  obtain ⟨j, e1, e2, e3, e4⟩ := info_three info_field
  refine run_buildSlice w 57 64 n parts cells j _ Try.underlying57 e1 e2 ?_ ?_ ?_
  · rw [e3]; omega
  · rw [e3]; omega
  · rw [e3]; exact hf
theorem fill_2 (v0p v0g v0f v0d v1p v1g v1f v1d : Value) : Instr.fill (fun i => some (i * 4, 4)) ((Array.range (2 * 4)).map ((Value.agg #[.nilFunc, .nilFunc, .nilFunc, .nilFunc]).cells[· % (Value.agg #[.nilFunc, .nilFunc, .nilFunc, .nilFunc]).cells.size]!)) (#[(0, .agg #[v0p, v0g, v0f, v0d]), (1, .agg #[v1p, v1g, v1f, v1d])] : Array (Nat × Value)).toList = some #[v0p, v0g, v0f, v0d, v1p, v1g, v1f, v1d] := by kernel_rfl
theorem fill_4 (v0p v0g v0f v0d v1p v1g v1f v1d v2p v2g v2f v2d v3p v3g v3f v3d : Value) : Instr.fill (fun i => some (i * 4, 4)) ((Array.range (4 * 4)).map ((Value.agg #[.nilFunc, .nilFunc, .nilFunc, .nilFunc]).cells[· % (Value.agg #[.nilFunc, .nilFunc, .nilFunc, .nilFunc]).cells.size]!)) (#[(0, .agg #[v0p, v0g, v0f, v0d]), (1, .agg #[v1p, v1g, v1f, v1d]), (2, .agg #[v2p, v2g, v2f, v2d]), (3, .agg #[v3p, v3g, v3f, v3d])] : Array (Nat × Value)).toList = some #[v0p, v0g, v0f, v0d, v1p, v1g, v1f, v1d, v2p, v2g, v2f, v2d, v3p, v3g, v3f, v3d] := by kernel_rfl
theorem fill_5 (v0p v0g v0f v0d v1p v1g v1f v1d v2p v2g v2f v2d v3p v3g v3f v3d v4p v4g v4f v4d : Value) : Instr.fill (fun i => some (i * 4, 4)) ((Array.range (5 * 4)).map ((Value.agg #[.nilFunc, .nilFunc, .nilFunc, .nilFunc]).cells[· % (Value.agg #[.nilFunc, .nilFunc, .nilFunc, .nilFunc]).cells.size]!)) (#[(0, .agg #[v0p, v0g, v0f, v0d]), (1, .agg #[v1p, v1g, v1f, v1d]), (2, .agg #[v2p, v2g, v2f, v2d]), (3, .agg #[v3p, v3g, v3f, v3d]), (4, .agg #[v4p, v4g, v4f, v4d])] : Array (Nat × Value)).toList = some #[v0p, v0g, v0f, v0d, v1p, v1g, v1f, v1d, v2p, v2g, v2f, v2d, v3p, v3g, v3f, v3d, v4p, v4g, v4f, v4d] := by kernel_rfl
theorem fill_6 (v0p v0g v0f v0d v1p v1g v1f v1d v2p v2g v2f v2d v3p v3g v3f v3d v4p v4g v4f v4d v5p v5g v5f v5d : Value) : Instr.fill (fun i => some (i * 4, 4)) ((Array.range (6 * 4)).map ((Value.agg #[.nilFunc, .nilFunc, .nilFunc, .nilFunc]).cells[· % (Value.agg #[.nilFunc, .nilFunc, .nilFunc, .nilFunc]).cells.size]!)) (#[(0, .agg #[v0p, v0g, v0f, v0d]), (1, .agg #[v1p, v1g, v1f, v1d]), (2, .agg #[v2p, v2g, v2f, v2d]), (3, .agg #[v3p, v3g, v3f, v3d]), (4, .agg #[v4p, v4g, v4f, v4d]), (5, .agg #[v5p, v5g, v5f, v5d])] : Array (Nat × Value)).toList = some #[v0p, v0g, v0f, v0d, v1p, v1g, v1f, v1d, v2p, v2g, v2f, v2d, v3p, v3g, v3f, v3d, v4p, v4g, v4f, v4d, v5p, v5g, v5f, v5d] := by kernel_rfl

set_option maxHeartbeats 4000000 in
theorem fieldsOf_1 (w : World) : Calls Try.prog 25 #[.int .i64 1] w fun e w' => ∃ v, e = .returned v ∧ Fields (fun i => w.heap.size ≤ i) w' v (kfields 1) ∧ Ext w w' := by
  go_enter Try.func25, Try.ntmps25
  go_wp2_with fail
  refine (make_layer w).mono ?_
  rintro e w0 ⟨v0p, v0g, v0f, v0d, rfl, F0, X0⟩
  have FF0 := hid F0
  have XX0 := hid X0
  clear F0 X0
  go_wp2_with fail
  refine (make_seq w0).mono ?_
  rintro e w1 ⟨v1p, v1g, v1f, v1d, rfl, F1, X1⟩
  have FF1 := hid F1
  have XX1 := hid X1
  clear F1 X1
  go_wp2_with fail
  refine (make_block w1).mono ?_
  rintro e w2 ⟨v2p, v2g, v2f, v2d, rfl, F2, X2⟩
  have FF2 := hid F2
  have XX2 := hid X2
  clear F2 X2
  go_wp2_with fail
  refine (make_tick w2).mono ?_
  rintro e w3 ⟨v3p, v3g, v3f, v3d, rfl, F3, X3⟩
  have FF3 := hid F3
  have XX3 := hid X3
  clear F3 X3
  go_wp2_with fail
  refine (make_data w3).mono ?_
  rintro e w4 ⟨v4p, v4g, v4f, v4d, rfl, F4, X4⟩
  have FF4 := hid F4
  have XX4 := hid X4
  clear F4 X4
  have B := build_fields w4 5 (by decide) (by decide) #[(0, .agg #[v0p, v0g, v0f, v0d]), (1, .agg #[v1p, v1g, v1f, v1d]), (2, .agg #[v2p, v2g, v2f, v2d]), (3, .agg #[v3p, v3g, v3f, v3d]), (4, .agg #[v4p, v4g, v4f, v4d])] #[v0p, v0g, v0f, v0d, v1p, v1g, v1f, v1d, v2p, v2g, v2f, v2d, v3p, v3g, v3f, v3d, v4p, v4g, v4f, v4d] (fill_5 v0p v0g v0f v0d v1p v1g v1f v1d v2p v2g v2f v2d v3p v3g v3f v3d v4p v4g v4f v4d)
  have FIN : Hid (Fields (fun i => w.heap.size ≤ i) (w4.alloc (.cells #[v0p, v0g, v0f, v0d, v1p, v1g, v1f, v1d, v2p, v2g, v2f, v2d, v3p, v3g, v3f, v3d, v4p, v4g, v4f, v4d] 64)) (.slice (some ⟨w4.heap.size, 0, none⟩) 5 5) (kfields 1) ∧ Ext w (w4.alloc (.cells #[v0p, v0g, v0f, v0d, v1p, v1g, v1f, v1d, v2p, v2g, v2f, v2d, v3p, v3g, v3f, v3d, v4p, v4g, v4f, v4d] 64))) := by
    have Y4 : Ext w4 (w4.alloc (.cells #[v0p, v0g, v0f, v0d, v1p, v1g, v1f, v1d, v2p, v2g, v2f, v2d, v3p, v3g, v3f, v3d, v4p, v4g, v4f, v4d] 64)) := (Ext.refl w4).alloc _
    have Y3 := XX4.out.trans Y4
    have Y2 := XX3.out.trans Y3
    have Y1 := XX2.out.trans Y2
    have Y0 := XX1.out.trans Y1
    have YY := XX0.out.trans Y0
    have S0 : w.heap.size ≤ w.heap.size := Nat.le_refl _
    have S1 : w.heap.size ≤ w0.heap.size := Nat.le_trans S0 XX0.out.size
    have S2 : w.heap.size ≤ w1.heap.size := Nat.le_trans S1 XX1.out.size
    have S3 : w.heap.size ≤ w2.heap.size := Nat.le_trans S2 XX2.out.size
    have S4 : w.heap.size ≤ w3.heap.size := Nat.le_trans S3 XX3.out.size
    have S5 : w.heap.size ≤ w4.heap.size := Nat.le_trans S4 XX4.out.size
    exact ⟨⟨w4.heap.size, [(v0p, v0g, v0f, v0d), (v1p, v1g, v1f, v1d), (v2p, v2g, v2f, v2d), (v3p, v3g, v3f, v3d), (v4p, v4g, v4f, v4d)], rfl, S5, heap_alloc_new w4 _, (FF0.out.kept (.of_ext Y0)).mono (fun i _ hi => Nat.le_trans S0 hi), (FF1.out.kept (.of_ext Y1)).mono (fun i _ hi => Nat.le_trans S1 hi), (FF2.out.kept (.of_ext Y2)).mono (fun i _ hi => Nat.le_trans S2 hi), (FF3.out.kept (.of_ext Y3)).mono (fun i _ hi => Nat.le_trans S3 hi), (FF4.out.kept (.of_ext Y4)).mono (fun i _ hi => Nat.le_trans S4 hi), trivial⟩, YY⟩
  clear FF0 XX0 FF1 XX1 FF2 XX2 FF3 XX3 FF4 XX4
  go_wp2_with fail
  go_ret
  exact ⟨_, rfl, FIN.1, FIN.2⟩

set_option maxHeartbeats 4000000 in
theorem fieldsOf_2 (w : World) : Calls Try.prog 25 #[.int .i64 2] w fun e w' => ∃ v, e = .returned v ∧ Fields (fun i => w.heap.size ≤ i) w' v (kfields 2) ∧ Ext w w' := by
  go_enter Try.func25, Try.ntmps25
  go_wp2_with fail
  refine (make_seq w).mono ?_
  rintro e w0 ⟨v0p, v0g, v0f, v0d, rfl, F0, X0⟩
  have FF0 := hid F0
  have XX0 := hid X0
  clear F0 X0
  go_wp2_with fail
  refine (make_block w0).mono ?_
  rintro e w1 ⟨v1p, v1g, v1f, v1d, rfl, F1, X1⟩
  have FF1 := hid F1
  have XX1 := hid X1
  clear F1 X1
  go_wp2_with fail
  refine (make_tick w1).mono ?_
  rintro e w2 ⟨v2p, v2g, v2f, v2d, rfl, F2, X2⟩
  have FF2 := hid F2
  have XX2 := hid X2
  clear F2 X2
  go_wp2_with fail
  refine (make_data w2).mono ?_
  rintro e w3 ⟨v3p, v3g, v3f, v3d, rfl, F3, X3⟩
  have FF3 := hid F3
  have XX3 := hid X3
  clear F3 X3
  have B := build_fields w3 4 (by decide) (by decide) #[(0, .agg #[v0p, v0g, v0f, v0d]), (1, .agg #[v1p, v1g, v1f, v1d]), (2, .agg #[v2p, v2g, v2f, v2d]), (3, .agg #[v3p, v3g, v3f, v3d])] #[v0p, v0g, v0f, v0d, v1p, v1g, v1f, v1d, v2p, v2g, v2f, v2d, v3p, v3g, v3f, v3d] (fill_4 v0p v0g v0f v0d v1p v1g v1f v1d v2p v2g v2f v2d v3p v3g v3f v3d)
  have FIN : Hid (Fields (fun i => w.heap.size ≤ i) (w3.alloc (.cells #[v0p, v0g, v0f, v0d, v1p, v1g, v1f, v1d, v2p, v2g, v2f, v2d, v3p, v3g, v3f, v3d] 64)) (.slice (some ⟨w3.heap.size, 0, none⟩) 4 4) (kfields 2) ∧ Ext w (w3.alloc (.cells #[v0p, v0g, v0f, v0d, v1p, v1g, v1f, v1d, v2p, v2g, v2f, v2d, v3p, v3g, v3f, v3d] 64))) := by
    have Y3 : Ext w3 (w3.alloc (.cells #[v0p, v0g, v0f, v0d, v1p, v1g, v1f, v1d, v2p, v2g, v2f, v2d, v3p, v3g, v3f, v3d] 64)) := (Ext.refl w3).alloc _
    have Y2 := XX3.out.trans Y3
    have Y1 := XX2.out.trans Y2
    have Y0 := XX1.out.trans Y1
    have YY := XX0.out.trans Y0
    have S0 : w.heap.size ≤ w.heap.size := Nat.le_refl _
    have S1 : w.heap.size ≤ w0.heap.size := Nat.le_trans S0 XX0.out.size
    have S2 : w.heap.size ≤ w1.heap.size := Nat.le_trans S1 XX1.out.size
    have S3 : w.heap.size ≤ w2.heap.size := Nat.le_trans S2 XX2.out.size
    have S4 : w.heap.size ≤ w3.heap.size := Nat.le_trans S3 XX3.out.size
    exact ⟨⟨w3.heap.size, [(v0p, v0g, v0f, v0d), (v1p, v1g, v1f, v1d), (v2p, v2g, v2f, v2d), (v3p, v3g, v3f, v3d)], rfl, S4, heap_alloc_new w3 _, (FF0.out.kept (.of_ext Y0)).mono (fun i _ hi => Nat.le_trans S0 hi), (FF1.out.kept (.of_ext Y1)).mono (fun i _ hi => Nat.le_trans S1 hi), (FF2.out.kept (.of_ext Y2)).mono (fun i _ hi => Nat.le_trans S2 hi), (FF3.out.kept (.of_ext Y3)).mono (fun i _ hi => Nat.le_trans S3 hi), trivial⟩, YY⟩
  clear FF0 XX0 FF1 XX1 FF2 XX2 FF3 XX3
  go_wp2_with fail
  go_ret
  exact ⟨_, rfl, FIN.1, FIN.2⟩

set_option maxHeartbeats 4000000 in
theorem fieldsOf_3 (w : World) : Calls Try.prog 25 #[.int .i64 3] w fun e w' => ∃ v, e = .returned v ∧ Fields (fun i => w.heap.size ≤ i) w' v (kfields 3) ∧ Ext w w' := by
  go_enter Try.func25, Try.ntmps25
  go_wp2_with fail
  refine (make_layer w).mono ?_
  rintro e w0 ⟨v0p, v0g, v0f, v0d, rfl, F0, X0⟩
  have FF0 := hid F0
  have XX0 := hid X0
  clear F0 X0
  go_wp2_with fail
  refine (make_seq w0).mono ?_
  rintro e w1 ⟨v1p, v1g, v1f, v1d, rfl, F1, X1⟩
  have FF1 := hid F1
  have XX1 := hid X1
  clear F1 X1
  go_wp2_with fail
  refine (make_tick w1).mono ?_
  rintro e w2 ⟨v2p, v2g, v2f, v2d, rfl, F2, X2⟩
  have FF2 := hid F2
  have XX2 := hid X2
  clear F2 X2
  go_wp2_with fail
  refine (make_rate w2).mono ?_
  rintro e w3 ⟨v3p, v3g, v3f, v3d, rfl, F3, X3⟩
  have FF3 := hid F3
  have XX3 := hid X3
  clear F3 X3
  go_wp2_with fail
  refine (make_rates w3).mono ?_
  rintro e w4 ⟨v4p, v4g, v4f, v4d, rfl, F4, X4⟩
  have FF4 := hid F4
  have XX4 := hid X4
  clear F4 X4
  go_wp2_with fail
  refine (make_from w4).mono ?_
  rintro e w5 ⟨v5p, v5g, v5f, v5d, rfl, F5, X5⟩
  have FF5 := hid F5
  have XX5 := hid X5
  clear F5 X5
  have B := build_fields w5 6 (by decide) (by decide) #[(0, .agg #[v0p, v0g, v0f, v0d]), (1, .agg #[v1p, v1g, v1f, v1d]), (2, .agg #[v2p, v2g, v2f, v2d]), (3, .agg #[v3p, v3g, v3f, v3d]), (4, .agg #[v4p, v4g, v4f, v4d]), (5, .agg #[v5p, v5g, v5f, v5d])] #[v0p, v0g, v0f, v0d, v1p, v1g, v1f, v1d, v2p, v2g, v2f, v2d, v3p, v3g, v3f, v3d, v4p, v4g, v4f, v4d, v5p, v5g, v5f, v5d] (fill_6 v0p v0g v0f v0d v1p v1g v1f v1d v2p v2g v2f v2d v3p v3g v3f v3d v4p v4g v4f v4d v5p v5g v5f v5d)
  have FIN : Hid (Fields (fun i => w.heap.size ≤ i) (w5.alloc (.cells #[v0p, v0g, v0f, v0d, v1p, v1g, v1f, v1d, v2p, v2g, v2f, v2d, v3p, v3g, v3f, v3d, v4p, v4g, v4f, v4d, v5p, v5g, v5f, v5d] 64)) (.slice (some ⟨w5.heap.size, 0, none⟩) 6 6) (kfields 3) ∧ Ext w (w5.alloc (.cells #[v0p, v0g, v0f, v0d, v1p, v1g, v1f, v1d, v2p, v2g, v2f, v2d, v3p, v3g, v3f, v3d, v4p, v4g, v4f, v4d, v5p, v5g, v5f, v5d] 64))) := by
    have Y5 : Ext w5 (w5.alloc (.cells #[v0p, v0g, v0f, v0d, v1p, v1g, v1f, v1d, v2p, v2g, v2f, v2d, v3p, v3g, v3f, v3d, v4p, v4g, v4f, v4d, v5p, v5g, v5f, v5d] 64)) := (Ext.refl w5).alloc _
    have Y4 := XX5.out.trans Y5
    have Y3 := XX4.out.trans Y4
    have Y2 := XX3.out.trans Y3
    have Y1 := XX2.out.trans Y2
    have Y0 := XX1.out.trans Y1
    have YY := XX0.out.trans Y0
    have S0 : w.heap.size ≤ w.heap.size := Nat.le_refl _
    have S1 : w.heap.size ≤ w0.heap.size := Nat.le_trans S0 XX0.out.size
    have S2 : w.heap.size ≤ w1.heap.size := Nat.le_trans S1 XX1.out.size
    have S3 : w.heap.size ≤ w2.heap.size := Nat.le_trans S2 XX2.out.size
    have S4 : w.heap.size ≤ w3.heap.size := Nat.le_trans S3 XX3.out.size
    have S5 : w.heap.size ≤ w4.heap.size := Nat.le_trans S4 XX4.out.size
    have S6 : w.heap.size ≤ w5.heap.size := Nat.le_trans S5 XX5.out.size
    exact ⟨⟨w5.heap.size, [(v0p, v0g, v0f, v0d), (v1p, v1g, v1f, v1d), (v2p, v2g, v2f, v2d), (v3p, v3g, v3f, v3d), (v4p, v4g, v4f, v4d), (v5p, v5g, v5f, v5d)], rfl, S6, heap_alloc_new w5 _, (FF0.out.kept (.of_ext Y0)).mono (fun i _ hi => Nat.le_trans S0 hi), (FF1.out.kept (.of_ext Y1)).mono (fun i _ hi => Nat.le_trans S1 hi), (FF2.out.kept (.of_ext Y2)).mono (fun i _ hi => Nat.le_trans S2 hi), (FF3.out.kept (.of_ext Y3)).mono (fun i _ hi => Nat.le_trans S3 hi), (FF4.out.kept (.of_ext Y4)).mono (fun i _ hi => Nat.le_trans S4 hi), (FF5.out.kept (.of_ext Y5)).mono (fun i _ hi => Nat.le_trans S5 hi), trivial⟩, YY⟩
  clear FF0 XX0 FF1 XX1 FF2 XX2 FF3 XX3 FF4 XX4 FF5 XX5
  go_wp2_with fail
  go_ret
  exact ⟨_, rfl, FIN.1, FIN.2⟩

set_option maxHeartbeats 4000000 in
theorem fieldsOf_4 (w : World) : Calls Try.prog 25 #[.int .i64 4] w fun e w' => ∃ v, e = .returned v ∧ Fields (fun i => w.heap.size ≤ i) w' v (kfields 4) ∧ Ext w w' := by
  go_enter Try.func25, Try.ntmps25
  go_wp2_with fail
  refine (make_from w).mono ?_
  rintro e w0 ⟨v0p, v0g, v0f, v0d, rfl, F0, X0⟩
  have FF0 := hid F0
  have XX0 := hid X0
  clear F0 X0
  go_wp2_with fail
  refine (make_level w0).mono ?_
  rintro e w1 ⟨v1p, v1g, v1f, v1d, rfl, F1, X1⟩
  have FF1 := hid F1
  have XX1 := hid X1
  clear F1 X1
  go_wp2_with fail
  refine (make_tick w1).mono ?_
  rintro e w2 ⟨v2p, v2g, v2f, v2d, rfl, F2, X2⟩
  have FF2 := hid F2
  have XX2 := hid X2
  clear F2 X2
  go_wp2_with fail
  refine (make_echo w2).mono ?_
  rintro e w3 ⟨v3p, v3g, v3f, v3d, rfl, F3, X3⟩
  have FF3 := hid F3
  have XX3 := hid X3
  clear F3 X3
  go_wp2_with fail
  refine (make_rate w3).mono ?_
  rintro e w4 ⟨v4p, v4g, v4f, v4d, rfl, F4, X4⟩
  have FF4 := hid F4
  have XX4 := hid X4
  clear F4 X4
  go_wp2_with fail
  refine (make_n w4).mono ?_
  rintro e w5 ⟨v5p, v5g, v5f, v5d, rfl, F5, X5⟩
  have FF5 := hid F5
  have XX5 := hid X5
  clear F5 X5
  have B := build_fields w5 6 (by decide) (by decide) #[(0, .agg #[v0p, v0g, v0f, v0d]), (1, .agg #[v1p, v1g, v1f, v1d]), (2, .agg #[v2p, v2g, v2f, v2d]), (3, .agg #[v3p, v3g, v3f, v3d]), (4, .agg #[v4p, v4g, v4f, v4d]), (5, .agg #[v5p, v5g, v5f, v5d])] #[v0p, v0g, v0f, v0d, v1p, v1g, v1f, v1d, v2p, v2g, v2f, v2d, v3p, v3g, v3f, v3d, v4p, v4g, v4f, v4d, v5p, v5g, v5f, v5d] (fill_6 v0p v0g v0f v0d v1p v1g v1f v1d v2p v2g v2f v2d v3p v3g v3f v3d v4p v4g v4f v4d v5p v5g v5f v5d)
  have FIN : Hid (Fields (fun i => w.heap.size ≤ i) (w5.alloc (.cells #[v0p, v0g, v0f, v0d, v1p, v1g, v1f, v1d, v2p, v2g, v2f, v2d, v3p, v3g, v3f, v3d, v4p, v4g, v4f, v4d, v5p, v5g, v5f, v5d] 64)) (.slice (some ⟨w5.heap.size, 0, none⟩) 6 6) (kfields 4) ∧ Ext w (w5.alloc (.cells #[v0p, v0g, v0f, v0d, v1p, v1g, v1f, v1d, v2p, v2g, v2f, v2d, v3p, v3g, v3f, v3d, v4p, v4g, v4f, v4d, v5p, v5g, v5f, v5d] 64))) := by
    have Y5 : Ext w5 (w5.alloc (.cells #[v0p, v0g, v0f, v0d, v1p, v1g, v1f, v1d, v2p, v2g, v2f, v2d, v3p, v3g, v3f, v3d, v4p, v4g, v4f, v4d, v5p, v5g, v5f, v5d] 64)) := (Ext.refl w5).alloc _
    have Y4 := XX5.out.trans Y5
    have Y3 := XX4.out.trans Y4
    have Y2 := XX3.out.trans Y3
    have Y1 := XX2.out.trans Y2
    have Y0 := XX1.out.trans Y1
    have YY := XX0.out.trans Y0
    have S0 : w.heap.size ≤ w.heap.size := Nat.le_refl _
    have S1 : w.heap.size ≤ w0.heap.size := Nat.le_trans S0 XX0.out.size
    have S2 : w.heap.size ≤ w1.heap.size := Nat.le_trans S1 XX1.out.size
    have S3 : w.heap.size ≤ w2.heap.size := Nat.le_trans S2 XX2.out.size
    have S4 : w.heap.size ≤ w3.heap.size := Nat.le_trans S3 XX3.out.size
    have S5 : w.heap.size ≤ w4.heap.size := Nat.le_trans S4 XX4.out.size
    have S6 : w.heap.size ≤ w5.heap.size := Nat.le_trans S5 XX5.out.size
    exact ⟨⟨w5.heap.size, [(v0p, v0g, v0f, v0d), (v1p, v1g, v1f, v1d), (v2p, v2g, v2f, v2d), (v3p, v3g, v3f, v3d), (v4p, v4g, v4f, v4d), (v5p, v5g, v5f, v5d)], rfl, S6, heap_alloc_new w5 _, (FF0.out.kept (.of_ext Y0)).mono (fun i _ hi => Nat.le_trans S0 hi), (FF1.out.kept (.of_ext Y1)).mono (fun i _ hi => Nat.le_trans S1 hi), (FF2.out.kept (.of_ext Y2)).mono (fun i _ hi => Nat.le_trans S2 hi), (FF3.out.kept (.of_ext Y3)).mono (fun i _ hi => Nat.le_trans S3 hi), (FF4.out.kept (.of_ext Y4)).mono (fun i _ hi => Nat.le_trans S4 hi), (FF5.out.kept (.of_ext Y5)).mono (fun i _ hi => Nat.le_trans S5 hi), trivial⟩, YY⟩
  clear FF0 XX0 FF1 XX1 FF2 XX2 FF3 XX3 FF4 XX4 FF5 XX5
  go_wp2_with fail
  go_ret
  exact ⟨_, rfl, FIN.1, FIN.2⟩

set_option maxHeartbeats 4000000 in
theorem fieldsOf_5 (w : World) : Calls Try.prog 25 #[.int .i64 5] w fun e w' => ∃ v, e = .returned v ∧ Fields (fun i => w.heap.size ≤ i) w' v (kfields 5) ∧ Ext w w' := by
  go_enter Try.func25, Try.ntmps25
  go_wp2_with fail
  refine (make_from w).mono ?_
  rintro e w0 ⟨v0p, v0g, v0f, v0d, rfl, F0, X0⟩
  have FF0 := hid F0
  have XX0 := hid X0
  clear F0 X0
  go_wp2_with fail
  refine (make_ranges w0).mono ?_
  rintro e w1 ⟨v1p, v1g, v1f, v1d, rfl, F1, X1⟩
  have FF1 := hid F1
  have XX1 := hid X1
  clear F1 X1
  have B := build_fields w1 2 (by decide) (by decide) #[(0, .agg #[v0p, v0g, v0f, v0d]), (1, .agg #[v1p, v1g, v1f, v1d])] #[v0p, v0g, v0f, v0d, v1p, v1g, v1f, v1d] (fill_2 v0p v0g v0f v0d v1p v1g v1f v1d)
  have FIN : Hid (Fields (fun i => w.heap.size ≤ i) (w1.alloc (.cells #[v0p, v0g, v0f, v0d, v1p, v1g, v1f, v1d] 64)) (.slice (some ⟨w1.heap.size, 0, none⟩) 2 2) (kfields 5) ∧ Ext w (w1.alloc (.cells #[v0p, v0g, v0f, v0d, v1p, v1g, v1f, v1d] 64))) := by
    have Y1 : Ext w1 (w1.alloc (.cells #[v0p, v0g, v0f, v0d, v1p, v1g, v1f, v1d] 64)) := (Ext.refl w1).alloc _
    have Y0 := XX1.out.trans Y1
    have YY := XX0.out.trans Y0
    have S0 : w.heap.size ≤ w.heap.size := Nat.le_refl _
    have S1 : w.heap.size ≤ w0.heap.size := Nat.le_trans S0 XX0.out.size
    have S2 : w.heap.size ≤ w1.heap.size := Nat.le_trans S1 XX1.out.size
    exact ⟨⟨w1.heap.size, [(v0p, v0g, v0f, v0d), (v1p, v1g, v1f, v1d)], rfl, S2, heap_alloc_new w1 _, (FF0.out.kept (.of_ext Y0)).mono (fun i _ hi => Nat.le_trans S0 hi), (FF1.out.kept (.of_ext Y1)).mono (fun i _ hi => Nat.le_trans S1 hi), trivial⟩, YY⟩
  clear FF0 XX0 FF1 XX1
  go_wp2_with fail
  go_ret
  exact ⟨_, rfl, FIN.1, FIN.2⟩

set_option maxHeartbeats 4000000 in
theorem fieldsOf_6 (w : World) : Calls Try.prog 25 #[.int .i64 6] w fun e w' => ∃ v, e = .returned v ∧ Fields (fun i => w.heap.size ≤ i) w' v (kfields 6) ∧ Ext w w' := by
  go_enter Try.func25, Try.ntmps25
  go_wp2_with fail
  refine (make_n w).mono ?_
  rintro e w0 ⟨v0p, v0g, v0f, v0d, rfl, F0, X0⟩
  have FF0 := hid F0
  have XX0 := hid X0
  clear F0 X0
  go_wp2_with fail
  refine (make_layer w0).mono ?_
  rintro e w1 ⟨v1p, v1g, v1f, v1d, rfl, F1, X1⟩
  have FF1 := hid F1
  have XX1 := hid X1
  clear F1 X1
  go_wp2_with fail
  refine (make_level w1).mono ?_
  rintro e w2 ⟨v2p, v2g, v2f, v2d, rfl, F2, X2⟩
  have FF2 := hid F2
  have XX2 := hid X2
  clear F2 X2
  go_wp2_with fail
  refine (make_tick w2).mono ?_
  rintro e w3 ⟨v3p, v3g, v3f, v3d, rfl, F3, X3⟩
  have FF3 := hid F3
  have XX3 := hid X3
  clear F3 X3
  have B := build_fields w3 4 (by decide) (by decide) #[(0, .agg #[v0p, v0g, v0f, v0d]), (1, .agg #[v1p, v1g, v1f, v1d]), (2, .agg #[v2p, v2g, v2f, v2d]), (3, .agg #[v3p, v3g, v3f, v3d])] #[v0p, v0g, v0f, v0d, v1p, v1g, v1f, v1d, v2p, v2g, v2f, v2d, v3p, v3g, v3f, v3d] (fill_4 v0p v0g v0f v0d v1p v1g v1f v1d v2p v2g v2f v2d v3p v3g v3f v3d)
  have FIN : Hid (Fields (fun i => w.heap.size ≤ i) (w3.alloc (.cells #[v0p, v0g, v0f, v0d, v1p, v1g, v1f, v1d, v2p, v2g, v2f, v2d, v3p, v3g, v3f, v3d] 64)) (.slice (some ⟨w3.heap.size, 0, none⟩) 4 4) (kfields 6) ∧ Ext w (w3.alloc (.cells #[v0p, v0g, v0f, v0d, v1p, v1g, v1f, v1d, v2p, v2g, v2f, v2d, v3p, v3g, v3f, v3d] 64))) := by
    have Y3 : Ext w3 (w3.alloc (.cells #[v0p, v0g, v0f, v0d, v1p, v1g, v1f, v1d, v2p, v2g, v2f, v2d, v3p, v3g, v3f, v3d] 64)) := (Ext.refl w3).alloc _
    have Y2 := XX3.out.trans Y3
    have Y1 := XX2.out.trans Y2
    have Y0 := XX1.out.trans Y1
    have YY := XX0.out.trans Y0
    have S0 : w.heap.size ≤ w.heap.size := Nat.le_refl _
    have S1 : w.heap.size ≤ w0.heap.size := Nat.le_trans S0 XX0.out.size
    have S2 : w.heap.size ≤ w1.heap.size := Nat.le_trans S1 XX1.out.size
    have S3 : w.heap.size ≤ w2.heap.size := Nat.le_trans S2 XX2.out.size
    have S4 : w.heap.size ≤ w3.heap.size := Nat.le_trans S3 XX3.out.size
    exact ⟨⟨w3.heap.size, [(v0p, v0g, v0f, v0d), (v1p, v1g, v1f, v1d), (v2p, v2g, v2f, v2d), (v3p, v3g, v3f, v3d)], rfl, S4, heap_alloc_new w3 _, (FF0.out.kept (.of_ext Y0)).mono (fun i _ hi => Nat.le_trans S0 hi), (FF1.out.kept (.of_ext Y1)).mono (fun i _ hi => Nat.le_trans S1 hi), (FF2.out.kept (.of_ext Y2)).mono (fun i _ hi => Nat.le_trans S2 hi), (FF3.out.kept (.of_ext Y3)).mono (fun i _ hi => Nat.le_trans S3 hi), trivial⟩, YY⟩
  clear FF0 XX0 FF1 XX1 FF2 XX2 FF3 XX3
  go_wp2_with fail
  go_ret
  exact ⟨_, rfl, FIN.1, FIN.2⟩

set_option maxHeartbeats 4000000 in
theorem fieldsOf_7 (w : World) : Calls Try.prog 25 #[.int .i64 7] w fun e w' => ∃ v, e = .returned v ∧ Fields (fun i => w.heap.size ≤ i) w' v (kfields 7) ∧ Ext w w' := by
  go_enter Try.func25, Try.ntmps25
  go_wp2_with fail
  refine (make_n w).mono ?_
  rintro e w0 ⟨v0p, v0g, v0f, v0d, rfl, F0, X0⟩
  have FF0 := hid F0
  have XX0 := hid X0
  clear F0 X0
  go_wp2_with fail
  refine (make_tick w0).mono ?_
  rintro e w1 ⟨v1p, v1g, v1f, v1d, rfl, F1, X1⟩
  have FF1 := hid F1
  have XX1 := hid X1
  clear F1 X1
  have B := build_fields w1 2 (by decide) (by decide) #[(0, .agg #[v0p, v0g, v0f, v0d]), (1, .agg #[v1p, v1g, v1f, v1d])] #[v0p, v0g, v0f, v0d, v1p, v1g, v1f, v1d] (fill_2 v0p v0g v0f v0d v1p v1g v1f v1d)
  have FIN : Hid (Fields (fun i => w.heap.size ≤ i) (w1.alloc (.cells #[v0p, v0g, v0f, v0d, v1p, v1g, v1f, v1d] 64)) (.slice (some ⟨w1.heap.size, 0, none⟩) 2 2) (kfields 7) ∧ Ext w (w1.alloc (.cells #[v0p, v0g, v0f, v0d, v1p, v1g, v1f, v1d] 64))) := by
    have Y1 : Ext w1 (w1.alloc (.cells #[v0p, v0g, v0f, v0d, v1p, v1g, v1f, v1d] 64)) := (Ext.refl w1).alloc _
    have Y0 := XX1.out.trans Y1
    have YY := XX0.out.trans Y0
    have S0 : w.heap.size ≤ w.heap.size := Nat.le_refl _
    have S1 : w.heap.size ≤ w0.heap.size := Nat.le_trans S0 XX0.out.size
    have S2 : w.heap.size ≤ w1.heap.size := Nat.le_trans S1 XX1.out.size
    exact ⟨⟨w1.heap.size, [(v0p, v0g, v0f, v0d), (v1p, v1g, v1f, v1d)], rfl, S2, heap_alloc_new w1 _, (FF0.out.kept (.of_ext Y0)).mono (fun i _ hi => Nat.le_trans S0 hi), (FF1.out.kept (.of_ext Y1)).mono (fun i _ hi => Nat.le_trans S1 hi), trivial⟩, YY⟩
  clear FF0 XX0 FF1 XX1
  go_wp2_with fail
  go_ret
  exact ⟨_, rfl, FIN.1, FIN.2⟩

set_option maxHeartbeats 1000000 in
theorem fieldsOf_none (w : World) (k : Int) (h : ¬ (1 ≤ k ∧ k ≤ 7)) : Calls Try.prog 25 #[.int .i64 k] w fun e w' => e = .returned (.slice none 0 0) ∧ w' = w := by
  have e1 : (k == 1) = false := by rw [beq_eq_false_iff_ne]; omega
  have e2 : (k == 2) = false := by rw [beq_eq_false_iff_ne]; omega
  have e3 : (k == 3) = false := by rw [beq_eq_false_iff_ne]; omega
  have e4 : (k == 4) = false := by rw [beq_eq_false_iff_ne]; omega
  have e5 : (k == 5) = false := by rw [beq_eq_false_iff_ne]; omega
  have e6 : (k == 6) = false := by rw [beq_eq_false_iff_ne]; omega
  have e7 : (k == 7) = false := by rw [beq_eq_false_iff_ne]; omega
  clear h
  go_enter Try.func25, Try.ntmps25
  go_wp2_with fail
  go_ret
  exact ⟨rfl, rfl⟩

theorem fieldsOf_any (w : World) (k : Int) (h : 1 ≤ k ∧ k ≤ 7) : Calls Try.prog 25 #[.int .i64 k] w fun e w' => ∃ v, e = .returned v ∧ Fields (fun i => w.heap.size ≤ i) w' v (kfields k.toNat) ∧ Ext w w' := by
  rcases kind_cases h with rfl | rfl | rfl | rfl | rfl | rfl | rfl
  · exact fieldsOf_1 w
  · exact fieldsOf_2 w
  · exact fieldsOf_3 w
  · exact fieldsOf_4 w
  · exact fieldsOf_5 w
  · exact fieldsOf_6 w
  · exact fieldsOf_7 w
end Go.Proofs.Ytlnjkjpllmfcaaa

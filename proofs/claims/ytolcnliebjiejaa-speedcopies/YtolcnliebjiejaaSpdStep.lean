/-
  The walk of the statements' step: one call of a speed and of the reference.
-/
import Derived.Test.YtolcnliebjiejaaSpdPlay
namespace Go.Proofs.Ytolcnliebjiejaa.Spd
set_option linter.unusedVariables false
set_option maxRecDepth 100000
open Go.RowKit Go.Lib

/-- a speed's rate behind a call -/
def nxt (s : SS) (o : OpS) : Int :=
  if o.1 = 1 then (if Ok o.2.1 o.2.2.1 then Spd.held s.1 s.2 o.2.2.2 o.2.1 o.2.2.1 else s.2)
  else if o.1 = 2 then (if o.2.1 = 0 then s.2 else Spd.free s.1 s.2 o.2.2.2)
  else if o.1 = 3 then Spd.left s.1 s.2 else s.2
theorem nxt_fit {s : SS} {o : OpS} (h : Fit s) (f : FitO o) : Fit (s.1, nxt s o) := by
  obtain ⟨h1, h2, h3⟩ := h
  unfold nxt
  split
  · split
    · rename_i ok
      have := held_room h1 h2 f ok.1.1 ok.1.2 ok.2.1
      exact ⟨h1, this.1, this.2⟩
    · exact ⟨h1, h2, h3⟩
  · split
    · split
      · exact ⟨h1, h2, h3⟩
      · have := free_room h1 h2 f
        exact ⟨h1, this.1, this.2⟩
    · split
      · have := left_room h1 h2
        exact ⟨h1, this.1, this.2⟩
      · exact ⟨h1, h2, h3⟩

/-- a step's box and its speed -/
def Sp (w0 w V : World) (b p : Nat) (s : SS) (o : OpS) : Prop := PlS w0 b V s ∧ V.heap[p]? = some (.cells (ocs o) 31 (0, 0)) ∧ Kept (fun q => q ≠ b) w V ∧ p ≠ b
theorem Sp.wrote {w0 w V V' : World} {b p : Nat} {s t : SS} {o : OpS} (h : Sp w0 w V b p s o) (r : PlS w0 b V' t) (k : Kept (fun q => q ≠ b) V V') : Sp w0 w V' b p t o :=
  ⟨r, k.row h.2.2.2 h.2.1, h.2.2.1.trans k, h.2.2.2⟩
theorem sbox (w0 w : World) (b : Nat) (s : SS) (k a c x : Int) (h : PlS w0 b w s) : ∃ (V : World) (p : Nat), V = w.alloc (.cells (ocs (k, a, c, x)) 31) ∧ p = w.heap.size ∧ Sp w0 w V b p s (k, a, c, x) := by
  have hb := h.1.lt
  exact ⟨_, _, rfl, rfl, h.ext ((Ext.refl w).alloc _), heap_alloc_new w _, Kept.of_ext ((Ext.refl w).alloc _), by omega⟩

set_option maxHeartbeats 4000000 in
theorem step_held (w0 w : World) (b : Nat) (fl r a c x : Int) (h : PlS w0 b w (fl, r)) (f : Wd x) (ok : Ok a c) :
    Calls Try.prog 9 #[.pointer (some ⟨b, 0, none⟩), .int .u64 fl, .int .u64 r, .agg (ocs (1, a, c, x))] w fun e w' => e = .returned (.tuple #[.int .u64 (Spd.held fl r x a c), .bool true]) ∧ PlS w0 b w' (fl, Spd.held fl r x a c) ∧ Kept (fun q => q ≠ b) w w' := by
  obtain ⟨V, p, e1, ep, SS⟩ := sbox w0 w b (fl, r) 1 a c x h
  have FT := h.1.1
  obtain ⟨hf, hr, hl⟩ := FT
  simp only at hf hr hl
  have E1 := hid e1
  have EP := hid ep
  obtain ⟨z0, z1, z2, z3⟩ := row_cells SS.2.1
  have S1 := hid SS
  clear e1 ep SS h
  have HL := hid (S1.out.1.held x a c f ok)
  have RS := hid (fun V => rheld_any fl r x a c V hf hr f ok)
  simp only at HL
  generalize Spd.held fl r x a c = z at *
  obtain ⟨⟨a1, a2⟩, c1, c2⟩ := ok
  clear hf hr hl f
  go_enter Try.func9, Try.ntmps9
  go_wp2_with (rw [← EP.out, ← E1.out])
  refine HL.out.mono ?_
  rintro e V2 ⟨rfl, t, k⟩
  have S2 := hid (S1.out.wrote t k)
  obtain ⟨y0, y1, y2, y3⟩ := row_cells S2.out.2.1
  clear t k S1 z0 z1 z2 z3
  clear HL
  go_wp2_with fail
  refine (RS.out V2).mono ?_
  rintro e w' ⟨rfl, ew⟩
  obtain rfl := ew.symm
  go_wp2_with fail
  go_ret2
  exact ⟨rfl, S2.out.1, S2.out.2.2.1⟩

set_option maxHeartbeats 4000000 in
theorem step_bad (w0 w : World) (b : Nat) (fl r a c x : Int) (h : PlS w0 b w (fl, r)) (f : Wd x) (ok : ¬ Ok a c) :
    Calls Try.prog 9 #[.pointer (some ⟨b, 0, none⟩), .int .u64 fl, .int .u64 r, .agg (ocs (1, a, c, x))] w fun e w' => e = .returned (.tuple #[.int .u64 r, .bool true]) ∧ PlS w0 b w' (fl, r) ∧ Kept (fun q => q ≠ b) w w' := by
  obtain ⟨V, p, e1, ep, SS⟩ := sbox w0 w b (fl, r) 1 a c x h
  have FT := h.1.1
  obtain ⟨hf, hr, hl⟩ := FT
  simp only at hf hr hl
  have E1 := hid e1
  have EP := hid ep
  obtain ⟨z0, z1, z2, z3⟩ := row_cells SS.2.1
  have S1 := hid SS
  clear e1 ep SS h
  have HL := hid (held_no b x a c V ok)
  have BAD : a < 1 ∨ 320 < a ∨ c < 1 ∨ 1048576 < c := by unfold Ok at ok; omega
  clear hf hr hl f ok
  by_cases q1 : a < 1
  case' pos => clear BAD
  case' neg =>
    by_cases q2 : 320 < a
    case' pos => clear BAD
    case' neg =>
      by_cases q3 : c < 1
      case' pos => clear BAD
      case' neg =>
        have q4 : 1048576 < c := by omega
        clear BAD
  all_goals
    go_enter Try.func9, Try.ntmps9
    go_wp2_with (rw [← EP.out, ← E1.out])
    refine HL.out.mono ?_
    rintro e w' ⟨rfl, ew⟩
    obtain rfl := ew.symm
    go_wp2_with fail
    go_ret2
    exact ⟨rfl, S1.out.1, S1.out.2.2.1⟩

set_option maxHeartbeats 4000000 in
theorem step_free (w0 w : World) (b : Nat) (fl r a c x : Int) (h : PlS w0 b w (fl, r)) (f : Wd x) :
    Calls Try.prog 9 #[.pointer (some ⟨b, 0, none⟩), .int .u64 fl, .int .u64 r, .agg (ocs (2, a, c, x))] w fun e w' => e = .returned (.tuple #[.int .u64 (if a = 0 then r else Spd.free fl r x), .bool true]) ∧ PlS w0 b w' (fl, if a = 0 then r else Spd.free fl r x) ∧ Kept (fun q => q ≠ b) w w' := by
  obtain ⟨V, p, e1, ep, SS⟩ := sbox w0 w b (fl, r) 2 a c x h
  have FT := h.1.1
  obtain ⟨hf, hr, hl⟩ := FT
  simp only at hf hr hl
  have E1 := hid e1
  have EP := hid ep
  obtain ⟨z0, z1, z2, z3⟩ := row_cells SS.2.1
  have S1 := hid SS
  clear e1 ep SS h
  have RS := hid (fun V => rfree_any fl r x a c V hf hr f hl)
  by_cases qa : a = 0
  case' pos =>
    subst qa
    rw [if_pos rfl] at RS ⊢
    have HL := hid (S1.out.1.free x false f)
    rw [if_neg (by decide)] at HL
    simp only at HL
    clear hf hr hl f
  case' neg =>
    rw [if_neg qa] at RS ⊢
    have HL := hid (S1.out.1.free x true f)
    rw [if_pos rfl] at HL
    simp only at HL
    have an : (a == 0) = false := by simp; omega
    have am : (a != 0) = true := by simp; omega
    clear hf hr hl f qa
    generalize Spd.free fl r x = z at *
  all_goals
    go_enter Try.func9, Try.ntmps9
    go_wp2_with (rw [← EP.out, ← E1.out])
    refine HL.out.mono ?_
    rintro e V2 ⟨rfl, t, k⟩
    have S2 := hid (S1.out.wrote t k)
    obtain ⟨y0, y1, y2, y3⟩ := row_cells S2.out.2.1
    clear t k S1 z0 z1 z2 z3
    clear HL
    go_wp2_with fail
    refine (RS.out V2).mono ?_
    rintro e w' ⟨rfl, ew⟩
    obtain rfl := ew.symm
    go_wp2_with fail
    go_ret2
    exact ⟨rfl, S2.out.1, S2.out.2.2.1⟩

set_option maxHeartbeats 4000000 in
theorem step_left (w0 w : World) (b : Nat) (fl r a c x : Int) (h : PlS w0 b w (fl, r)) (f : Wd x) :
    Calls Try.prog 9 #[.pointer (some ⟨b, 0, none⟩), .int .u64 fl, .int .u64 r, .agg (ocs (3, a, c, x))] w fun e w' => e = .returned (.tuple #[.int .u64 (Spd.left fl r), .bool true]) ∧ PlS w0 b w' (fl, Spd.left fl r) ∧ Kept (fun q => q ≠ b) w w' := by
  obtain ⟨V, p, e1, ep, SS⟩ := sbox w0 w b (fl, r) 3 a c x h
  have FT := h.1.1
  obtain ⟨hf, hr, hl⟩ := FT
  simp only at hf hr hl
  have E1 := hid e1
  have EP := hid ep
  obtain ⟨z0, z1, z2, z3⟩ := row_cells SS.2.1
  have S1 := hid SS
  clear e1 ep SS h
  have HL := hid S1.out.1.left
  have RS := hid (fun V => rleft_any fl r x a c V hf hr)
  simp only at HL
  generalize Spd.left fl r = z at *
  clear hf hr hl f
  go_enter Try.func9, Try.ntmps9
  go_wp2_with (rw [← EP.out, ← E1.out])
  refine HL.out.mono ?_
  rintro e V2 ⟨rfl, t, k⟩
  have S2 := hid (S1.out.wrote t k)
  obtain ⟨y0, y1, y2, y3⟩ := row_cells S2.out.2.1
  clear t k S1 z0 z1 z2 z3
  clear HL
  go_wp2_with fail
  refine (RS.out V2).mono ?_
  rintro e w' ⟨rfl, ew⟩
  obtain rfl := ew.symm
  go_wp2_with fail
  go_ret2
  exact ⟨rfl, S2.out.1, S2.out.2.2.1⟩

set_option maxHeartbeats 4000000 in
theorem step_none (w0 w : World) (b : Nat) (fl r k a c x : Int) (h : PlS w0 b w (fl, r)) (f : Wd x) (q1 : k ≠ 1) (q2 : k ≠ 2) (q3 : k ≠ 3) :
    Calls Try.prog 9 #[.pointer (some ⟨b, 0, none⟩), .int .u64 fl, .int .u64 r, .agg (ocs (k, a, c, x))] w fun e w' => e = .returned (.tuple #[.int .u64 r, .bool true]) ∧ PlS w0 b w' (fl, r) ∧ Kept (fun q => q ≠ b) w w' := by
  obtain ⟨V, p, e1, ep, SS⟩ := sbox w0 w b (fl, r) k a c x h
  have FT := h.1.1
  obtain ⟨hf, hr, hl⟩ := FT
  simp only at hf hr hl
  have E1 := hid e1
  have EP := hid ep
  obtain ⟨z0, z1, z2, z3⟩ := row_cells SS.2.1
  have S1 := hid SS
  clear e1 ep SS h
  have n1 : (k == 1) = false := by simp; omega
  have n2 : (k == 2) = false := by simp; omega
  have n3 : (k == 3) = false := by simp; omega
  clear hf hr hl f q1 q2 q3
  go_enter Try.func9, Try.ntmps9
  go_wp2_with (rw [← EP.out, ← E1.out])
  go_ret2
  exact ⟨rfl, S1.out.1, S1.out.2.2.1⟩

theorem step_any (w0 w : World) (b : Nat) (s : SS) (o : OpS) (h : PlS w0 b w s) (f : FitO o) :
    Calls Try.prog 9 #[.pointer (some ⟨b, 0, none⟩), .int .u64 s.1, .int .u64 s.2, .agg (ocs o)] w fun e w' => e = .returned (.tuple #[.int .u64 (nxt s o), .bool true]) ∧ PlS w0 b w' (s.1, nxt s o) ∧ Kept (fun q => q ≠ b) w w' := by
  obtain ⟨k, a, c, x⟩ := o
  obtain ⟨fl, r⟩ := s
  by_cases q1 : k = 1
  · subst q1
    by_cases ok : Ok a c
    · rw [show nxt (fl, r) (1, a, c, x) = Spd.held fl r x a c from by unfold nxt; rw [if_pos rfl, if_pos ok]]
      exact step_held w0 w b fl r a c x h f ok
    · rw [show nxt (fl, r) (1, a, c, x) = r from by unfold nxt; rw [if_pos rfl, if_neg ok]]
      exact step_bad w0 w b fl r a c x h f ok
  · by_cases q2 : k = 2
    · subst q2
      rw [show nxt (fl, r) (2, a, c, x) = if a = 0 then r else Spd.free fl r x from by unfold nxt; rw [if_neg q1, if_pos rfl]]
      exact step_free w0 w b fl r a c x h f
    · by_cases q3 : k = 3
      · subst q3
        rw [show nxt (fl, r) (3, a, c, x) = Spd.left fl r from by unfold nxt; rw [if_neg q1, if_neg q2, if_pos rfl]]
        exact step_left w0 w b fl r a c x h f
      · rw [show nxt (fl, r) (k, a, c, x) = r from by unfold nxt; rw [if_neg q1, if_neg q2, if_neg q3]]
        exact step_none w0 w b fl r k a c x h f q1 q2 q3
end Go.Proofs.Ytolcnliebjiejaa.Spd

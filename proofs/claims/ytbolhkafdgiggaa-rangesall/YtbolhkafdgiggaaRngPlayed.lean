/-
  The walk of played: a set behind some calls, beside the list of truths.
-/
import Derived.Test.YtbolhkafdgiggaaRngStep
import Derived.Deep.OwnRows
namespace Go.Proofs.Ytbolhkafdgiggaa
set_option linter.unusedVariables false
set_option maxRecDepth 100000
open Go.RowKit Go.Lib

/-- calls as they lie in cells -/
abbrev Ops := List (Int × Int × Int)
def ocells (l : Ops) : List Value := l.flatMap fun o => [.int .i64 o.1, .int .i64 o.2.1, .int .i64 o.2.2]
theorem ocells_length (l : Ops) : (ocells l).length = l.length * 3 := by
  induction l with
  | nil => rfl
  | cons g l ih => simp only [ocells, List.flatMap_cons, List.length_append, List.length_cons, List.length_nil] at ih ⊢; omega
theorem ocells_at (l : Ops) : ∀ k, k < l.length → (ocells l)[k * 3]? = some (.int .i64 (l.getD k (0, 0, 0)).1) ∧ (ocells l)[k * 3 + 1]? = some (.int .i64 (l.getD k (0, 0, 0)).2.1) ∧ (ocells l)[k * 3 + 2]? = some (.int .i64 (l.getD k (0, 0, 0)).2.2) := by
  induction l with
  | nil => intro k h; simp at h
  | cons g l ih =>
    intro k h
    cases k with
    | zero => simp [ocells]
    | succ k =>
      have := ih k (by simpa using h)
      rw [show (k + 1) * 3 = k * 3 + 1 + 1 + 1 by omega]
      simpa [ocells] using this

/-- noughts -/
theorem make_zeros (w : World) : ∃ Z : Array Value, (Instr.makeSlice 26 (.int .i64 16384) (.int .i64 16384)).run Try.prog w = .ok (.slice (some ⟨w.heap.size, 0, none⟩) 16384 16384) (w.alloc (.cells Z 3)) ∧
    ∀ k, k < 16384 → (w.alloc (.cells Z 3)).cell? ⟨w.heap.size, k, none⟩ = some (.int .i64 0) := by
  have h1 := run_make_row' (P := Try.prog) 26 3 (.int .i64 0) 8 Try.underlying26 info_int8 rfl .i64 .i64 16384 (by decide) (by decide) w
  exact ⟨madeCells #[.int .i64 0] 16384, h1, fun k hk => (World.rowIs_made w (.int .i64 0) 16384 3).cell hk⟩
theorem zero_at (k : Nat) : (List.replicate 16384 (0 : Int)).getD k 0 = 0 := by
  rw [List.getD_eq_getElem?_getD, List.getElem?_replicate]
  split <;> rfl
theorem tab_zero : Tab (List.replicate 16384 (0 : Int)) [] := fun i _ _ => by rw [zero_at, has_nil]; rfl

/-- a set that was just made, beside noughts -/
theorem both_zero (w : World) (Z : Array Value) (hz : ∀ k, k < 16384 → ((w.alloc (.cells #[.slice none 0 0] 57 (0, 0))).alloc (.cells Z 3)).cell? ⟨w.heap.size + 1, k, none⟩ = some (.int .i64 0)) :
    Both (fun i => i < w.heap.size ∨ i = w.heap.size + 1) ((w.alloc (.cells #[.slice none 0 0] 57 (0, 0))).alloc (.cells Z 3)) w.heap.size (.slice (some ⟨w.heap.size + 1, 0, none⟩) 16384 16384) [] (List.replicate 16384 0) := by
  have s := (new_set w).more ((Ext.refl _).alloc (.cells Z 3))
  refine ⟨⟨Good.nil, List.length_replicate⟩, s.less fun i hi => ?_, ?_⟩
  · rcases hi with q | q
    · exact .inl q
    · exact .inr (by simp; omega)
  · refine ⟨_, _, _, rfl, by rw [icells_length, List.length_replicate], Nat.le_refl _, by decide, fun _ => ⟨w.heap.size + 1, 0, rfl, .inr rfl, fun j u hu => ?_⟩⟩
    have hj : j < 16384 := by
      have := (List.getElem?_eq_some_iff.1 hu).1
      rwa [icells_length, List.length_replicate] at this
    rw [icells_at _ _ (by rw [List.length_replicate]; exact hj), zero_at] at hu
    rw [Nat.zero_add, hz j hj]
    exact hu

/-- where a set has come, behind some calls -/
def Played (w wr : World) (b : Nat) (xv : Value) : Prop := ∃ K l xs, Both K wr b xv l xs ∧ Tab xs l ∧ (∀ i, i < w.heap.size → K i) ∧ Ext w wr
theorem Played.ext {w wr wr' : World} {b : Nat} {xv : Value} (h : Played w wr b xv) (e : Ext wr wr') : Played w wr' b xv := by
  obtain ⟨K, l, xs, b1, t, hk, x⟩ := h
  exact ⟨K, l, xs, ⟨b1.1, b1.2.1.ext e, b1.2.2.kept (Kept.of_ext e)⟩, t, hk, x.trans e⟩
theorem Played.slice {w wr : World} {b : Nat} {xv : Value} (h : Played w wr b xv) : ∃ ao c, xv = .slice ao 16384 c ∧ 16384 ≤ c ∧ c ≤ maxLen := by
  obtain ⟨K, l, xs, b1, _⟩ := h
  obtain ⟨ao, n, c, e, h1, h2, h3, _⟩ := b1.2.2
  rw [icells_length, b1.len] at h1
  obtain rfl : n = 16384 := by omega
  exact ⟨ao, c, e, h2, h3⟩
theorem Played.step {w wr : World} {b : Nat} {xv : Value} (h : Played w wr b xv) (k x y : Int) :
    Calls Try.prog 10 #[.pointer (some ⟨b, 0, none⟩), xv, .agg #[.int .i64 k, .int .i64 x, .int .i64 y]] wr fun e w' => ∃ xv', e = .returned (.tuple #[xv', .bool true]) ∧ Played w w' b xv' := by
  obtain ⟨K, l, xs, b1, t, hk, x1⟩ := h
  refine (step_any K wr b xv l xs k x y b1).mono ?_
  rintro e w' ⟨xv', ok, rfl, kp, K', l', xs', hK, b2, ht⟩
  obtain ⟨rfl, t2⟩ := ht t
  exact ⟨xv', rfl, K', l', xs', b2, t2, fun i hi => hK i (hk i hi), Below.trans x1 (kp.below x1.size (fun i hi => hk i hi))⟩

set_option maxHeartbeats 4000000 in
theorem played_any (K : Nat → Prop) (w : World) (v : Value) (os : Ops) (hv : RowK K w v 3 (ocells os)) (hl : os.length ≤ 1000) :
    Calls Try.prog 15 #[v] w fun e w' => ∃ xv, e = .returned (.tuple #[.pointer (some ⟨w.heap.size, 0, none⟩), xv]) ∧ Played w w' w.heap.size xv := by
  obtain ⟨ao, n, c, rfl, h1, h2, h3, h4⟩ := hv
  have e : n = os.length := by rw [ocells_length] at h1; omega
  subst e
  have H4 := hid h4
  unfold maxLen at h3
  have C0 := hid (new_any w)
  have X1 := (Ext.refl w).alloc (.cells #[.slice none 0 0] 57 (0, 0))
  obtain ⟨Z, mk, hz⟩ := make_zeros (w.alloc (.cells #[.slice none 0 0] 57 (0, 0)))
  rw [World.size_alloc] at mk hz
  have P0 : Hid (Played w ((w.alloc (.cells #[.slice none 0 0] 57 (0, 0))).alloc (.cells Z 3)) w.heap.size (.slice (some ⟨w.heap.size + 1, 0, none⟩) 16384 16384)) :=
    ⟨_, [], _, both_zero w Z hz, tab_zero, fun i hi => .inl hi, X1.alloc _⟩
  clear h1 h4 hz X1
  obtain ⟨b, eb⟩ : ∃ b, b = w.heap.size := ⟨_, rfl⟩
  rw [← eb] at mk P0 C0 ⊢
  have EB := hid eb
  clear eb
  go_enter Try.func15, Try.ntmps15
  go_wp2_with fail
  refine C0.out.mono ?_
  rintro e w1 ⟨rfl, rfl⟩
  clear C0
  go_wp2_with fail
  go_loopw [5, 16] (fun xv i wr => ∃ k : Nat, k ≤ os.length ∧ i = .int .i64 (k : Int) ∧ Played w wr b xv) (fun _ i _ => (os.length - intOf i).toNat)
  case atStart => exact ⟨0, by omega, rfl, P0.out⟩
  case round =>
    obtain ⟨k, hk, rfl, P⟩ := hrel
    clear P0 mk
    obtain ⟨xa, xc, ex, x1, x2⟩ := P.slice
    subst ex
    by_cases q : k < os.length
    · obtain ⟨g, o, rfl, hg, hc⟩ := H4.out (by omega)
      obtain ⟨_, _, _, _, _, _, XR⟩ := id P
      have y1 := XR.cell (hc _ _ (ocells_at os k q).1)
      have y2 := XR.cell (hc _ _ (ocells_at os k q).2.1)
      have y3 := XR.cell (hc _ _ (ocells_at os k q).2.2)
      rw [← Nat.add_assoc] at y2 y3
      generalize (os.getD k (0, 0, 0)).1 = o1 at *
      generalize (os.getD k (0, 0, 0)).2.1 = o2 at *
      generalize (os.getD k (0, 0, 0)).2.2 = o3 at *
      have C := hid ((P.ext ((Ext.refl wr).alloc (.cells #[.int .i64 o1, .int .i64 o2, .int .i64 o3] 28))).step o1 o2 o3)
      have i1 : (k : Int) < (os.length : Int) := by omega
      have i2 : (0 : Int) ≤ (k : Int) := by omega
      clear P XR hc
      go_wp2_with fail
      refine C.out.mono ?_
      rintro e w2 ⟨xv', rfl, P2⟩
      obtain ⟨xa', xc', ex', _, _⟩ := P2.slice
      subst ex'
      have PP := hid P2
      clear C P2
      go_wp2_with fail
      go_roundw
      case rel => exact ⟨k + 1, by omega, by go_num, PP.out⟩
      case measure => simp [intOf]; omega
    · obtain rfl : k = os.length := by omega
      have PP := hid P
      clear P
      go_wp2_with fail
      go_ret2
      exact ⟨_, rfl, PP.out⟩
end Go.Proofs.Ytbolhkafdgiggaa

/-
  Calls as arguments; the walk of small.
-/
import Derived.Test.YtlpdffjbdekjeaaPipSame
namespace Go.Proofs.Ytlpdffjbdekjeaa
set_option linter.unusedVariables false
set_option maxRecDepth 100000
open Go.RowKit Go.Lib

abbrev OpsP := List (Int × Int × Int × Sl)
/-- calls as they lie in cells -/
def ocells (l : OpsP) : List Value := l.flatMap fun o => [.int .i64 o.1, .int .i64 o.2.1, .int .i64 o.2.2.1, sval o.2.2.2]
theorem ocells_length (l : OpsP) : (ocells l).length = l.length * 4 := by
  induction l with
  | nil => rfl
  | cons g l ih => simp only [ocells, List.flatMap_cons, List.length_append, List.length_cons, List.length_nil] at ih ⊢; omega
theorem ocells_at (l : OpsP) : ∀ k, k < l.length → (ocells l)[k * 4]? = some (.int .i64 (l.getD k (0, 0, 0, (none, 0, 0))).1) ∧ (ocells l)[k * 4 + 1]? = some (.int .i64 (l.getD k (0, 0, 0, (none, 0, 0))).2.1) ∧ (ocells l)[k * 4 + 2]? = some (.int .i64 (l.getD k (0, 0, 0, (none, 0, 0))).2.2.1) ∧ (ocells l)[k * 4 + 3]? = some (sval (l.getD k (0, 0, 0, (none, 0, 0))).2.2.2) := by
  induction l with
  | nil => intro k h; simp at h
  | cons g l ih =>
    intro k h
    cases k with
    | zero => simp [ocells]
    | succ k =>
      have := ih k (by simpa using h)
      have e1 : (k + 1) * 4 = k * 4 + 1 + 1 + 1 + 1 := by omega
      rw [e1]
      simpa [ocells] using this

/-- a call's cells, where the slice of calls came in -/
theorem ops_at {K : Nat → Prop} {w : World} {v : Value} {l : OpsP} (h : RowK K w v 4 (ocells l)) : ∃ ao c, v = .slice ao l.length c ∧ l.length ≤ c ∧ c ≤ maxLen ∧ ∀ k, k < l.length → ∃ g o, ao = some ⟨g, o, none⟩ ∧ K g ∧
    w.cell? ⟨g, o + k * 4, none⟩ = some (.int .i64 (l.getD k (0, 0, 0, (none, 0, 0))).1) ∧ w.cell? ⟨g, o + k * 4 + 1, none⟩ = some (.int .i64 (l.getD k (0, 0, 0, (none, 0, 0))).2.1) ∧ w.cell? ⟨g, o + k * 4 + 2, none⟩ = some (.int .i64 (l.getD k (0, 0, 0, (none, 0, 0))).2.2.1) ∧ w.cell? ⟨g, o + k * 4 + 3, none⟩ = some (sval (l.getD k (0, 0, 0, (none, 0, 0))).2.2.2) := by
  obtain ⟨ao, n, c, e, q1, q2, q3, q4⟩ := h
  rw [ocells_length] at q1
  obtain rfl : l.length = n := by omega
  refine ⟨ao, c, e, q2, q3, fun k hk => ?_⟩
  obtain ⟨g, o, ea, hg, hc⟩ := q4 (by omega)
  obtain ⟨c0, c1, c2, c3⟩ := ocells_at l k hk
  exact ⟨g, o, ea, hg, hc _ _ c0, by rw [Nat.add_assoc]; exact hc _ _ c1, by rw [Nat.add_assoc]; exact hc _ _ c2, by rw [Nat.add_assoc]; exact hc _ _ c3⟩

/-- a slice of calls, each with its bytes -/
def OpsIn (w : World) (v : Value) (l : OpsP) : Prop := RowK (fun _ => True) w v 4 (ocells l) ∧ ∀ o ∈ l, ∃ t, Bytes w (sval o.2.2.2) t ∧ Plain (sval o.2.2.2)
theorem OpsIn.view {w : World} {v : Value} {l : OpsP} (h : OpsIn w v l) : ∃ ao c, v = .slice ao l.length c ∧ l.length ≤ c ∧ c ≤ maxLen ∧ ∀ k, k < l.length → ∃ g o kind at_ N s t, ao = some ⟨g, o, none⟩ ∧
    w.cell? ⟨g, o + k * 4, none⟩ = some (.int .i64 kind) ∧ w.cell? ⟨g, o + k * 4 + 1, none⟩ = some (.int .i64 at_) ∧ w.cell? ⟨g, o + k * 4 + 2, none⟩ = some (.int .i64 N) ∧ w.cell? ⟨g, o + k * 4 + 3, none⟩ = some (sval s) ∧ Bytes w (sval s) t ∧ Plain (sval s) := by
  obtain ⟨ao, c, e, h1, h2, h3⟩ := ops_at h.1
  refine ⟨ao, c, e, h1, h2, fun k hk => ?_⟩
  obtain ⟨g, o, ea, _, x1, x2, x3, x4⟩ := h3 k hk
  have hm : l.getD k (0, 0, 0, (none, 0, 0)) ∈ l := by rw [List.getD_eq_getElem?_getD, List.getElem?_eq_getElem hk]; exact List.getElem_mem hk
  obtain ⟨t, y1, y2⟩ := h.2 _ hm
  exact ⟨g, o, _, _, _, _, t, ea, x1, x2, x3, x4, y1, y2⟩
theorem OpsIn.ext {w w' : World} {v : Value} {l : OpsP} (h : OpsIn w v l) (e : Ext w w') : OpsIn w' v l :=
  ⟨h.1.kept (Kept.of_ext e), fun o ho => by obtain ⟨t, a1, a2⟩ := h.2 o ho; exact ⟨t, a1.ext e, a2⟩⟩

set_option maxHeartbeats 1000000 in
theorem small_any (v : Value) (os : OpsP) (w : World) (hv : OpsIn w v os) :
    Calls Try.prog 7 #[v] w fun e w' => (∃ r : Bool, e = .returned (.bool r)) ∧ Ext w w' := by
  obtain ⟨ao, c, rfl, h1, h2, hc⟩ := hv.view
  have HC := hid hc
  unfold maxLen at h2
  clear hc hv
  generalize os.length = m at *
  go_enter Try.func7, Try.ntmps7
  go_wp2_with fail
  go_loopw [3, 5, 8] (fun z _ i wr => ∃ (k : Nat) (y : Int), k ≤ m ∧ i = .int .i64 (k : Int) ∧ z = .int .i64 y ∧ Hid (Ext w wr)) (fun _ _ i _ => (m - intOf i).toNat)
  case atStart => exact ⟨0, 0, by omega, rfl, rfl, Ext.refl w⟩
  case round =>
    obtain ⟨k, y, hk, rfl, rfl, X⟩ := hrel
    by_cases h : k < m
    · obtain ⟨g, o, kind, at_, N, s, t, eg, x1, x2, x3, x4, b1, b2⟩ := HC.out k h
      subst eg
      obtain ⟨s1, s2, s3⟩ := s
      simp only [sval] at x4
      have y1 := X.out.cell x1
      have y2 := X.out.cell x2
      have y3 := X.out.cell x3
      have y4 := X.out.cell x4
      have X1 : Hid (Ext w (wr.alloc (.cells #[.int .i64 kind, .int .i64 at_, .int .i64 N, .slice s1 s2 s3] 32))) := X.out.alloc _
      have i1 : (k : Int) < (m : Int) := by omega
      have i2 : (0 : Int) ≤ (k : Int) := by omega
      clear x1 x2 x3 x4 b1 b2
      go_wp2_with fail
      go_roundw
      case rel => exact ⟨k + 1, _, by omega, by go_num, rfl, X1⟩
      case measure => simp [intOf]; omega
    · obtain rfl : k = m := by omega
      go_wp2_with fail
      go_ret
      exact ⟨⟨_, rfl⟩, X.out⟩
end Go.Proofs.Ytlpdffjbdekjeaa

/-
  A meter beside the plain list of all that came: how both go on.
-/
import Derived.Test.YtjdcccienbahjaaAwake4
import Derived.OpenShut
import Derived.Lib.SmallJoins
namespace Go.Proofs.Ytjdcccienbahjaa
set_option linter.unusedVariables false
open Go.RowKit

theorem info_Amount : (Try.prog.info? 39).map (fun i => (i.zero, i.size, i.bytes)) = some (some (.agg #[.int .i64 0, .int .i64 0]), 2, 16) := by kernel_rfl

/-- the list of all that came lies in a row of the call's own -/
def Kept (w : World) (base : Nat) (v : Value) (x : Ams) : Prop := w.ownsRow base 39 2 v x.length (cells2 x)

theorem Kept.form {w : World} {base : Nat} {v : Value} {l : Ams} (h : Kept w base v l) : ∃ ao n c, v = .slice ao n c := by
  rcases h.2 with ⟨rfl, h0⟩ | ⟨g, cap, cur, rfl, _⟩
  · exact ⟨none, 0, 0, rfl⟩
  · exact ⟨_, _, _, rfl⟩
theorem Kept.ams {w : World} {base : Nat} {v : Value} {l : Ams} (h : Kept w base v l) : IsAms w v l := by
  have h' := h
  have hlt := World.ownsRow.lt h
  rcases h.2 with ⟨rfl, h0⟩ | ⟨g, cap, cur, rfl, hb, hg, _, _, _, ht⟩
  · exact ⟨none, 0, by rw [h0], fun k hk => by omega⟩
  · refine ⟨_, _, rfl, fun k hk => ⟨g, 0, rfl, (hlt g rfl).2, ?_, ?_⟩⟩
    · have := World.ownsRow.cells h' (g := g) rfl (k * 2) _ (cells2_tick l k hk)
      rwa [Addr.add_mid] at this
    · have := World.ownsRow.cells h' (g := g) rfl (k * 2 + 1) _ (cells2_n l k hk)
      rwa [Addr.add_mid, ← Nat.add_assoc] at this
theorem Kept.ext {w w' : World} {base : Nat} {v : Value} {l : Ams} (h : Kept w base v l) (e : Ext w w') : Kept w' base v l := by
  obtain ⟨h1, h2⟩ := h
  refine ⟨h1, ?_⟩
  rcases h2 with h2 | ⟨g, cap, cur, e1, hb, hg, r⟩
  · exact .inl h2
  · exact .inr ⟨g, cap, cur, e1, hb, e.row hg, r⟩
theorem Kept.stays {w w' : World} {base : Nat} {v : Value} {l : Ams} (h : Kept w base v l) (e : Stays w w') : Kept w' base v l := by
  obtain ⟨h1, h2⟩ := h
  refine ⟨h1, ?_⟩
  rcases h2 with h2 | ⟨g, cap, cur, e1, hb, hg, r⟩
  · exact .inl h2
  · exact .inr ⟨g, cap, cur, e1, hb, e g cur _ hg, r⟩
theorem Kept.snoc {w : World} {base : Nat} {v : Value} {l : Ams} {t n : Int} (h : w.ownsRow base 39 2 v (l.length + 1) (cells2 l ++ [.int .i64 t, .int .i64 n])) : Kept w base v (l ++ [(t, n)]) := by
  unfold Kept
  rw [cells2_append, List.length_append]
  exact h

/-- a meter is as it was where the list alone has grown -/
theorem MeterAt.beside {base base' b : Nat} {w w' : World} {win : Int} {x y : Ams} {v : Value} (h : MeterAt base w b win x) (k : Kept w base' v y) (g : w.grownBy w' v.ownBlock) : MeterAt base w' b win x := by
  obtain ⟨u, l, hb, hw, h1, h2, r⟩ := h
  have ne : ∀ (j : Nat) (cur : Array Value) (t : TypeId), t ≠ 39 → w.heap[j]? = some (.cells cur t (0, 0)) → w'.heap[j]? = some (.cells cur t (0, 0)) := by
    intro j cur t ht hj
    rw [g.block j (Array.getElem?_eq_some_iff.1 hj).1 (fun e => ?_), hj]
    rcases k.2 with ⟨rfl, _⟩ | ⟨q, cap, cu, rfl, _, hq, _⟩
    · simp [Value.ownBlock] at e
    · simp only [Value.ownBlock, Option.some.injEq] at e
      subst e
      rw [hj] at hq
      simp at hq
      exact ht hq.2
  refine ⟨u, l, ne _ _ _ (by decide) hb, ?_, h1, Nat.le_trans h2 g.size, r⟩
  obtain ⟨o1, o2⟩ := hw
  refine ⟨o1, ?_⟩
  rcases o2 with o2 | ⟨q, cap, cur, e1, hbq, hg, r'⟩
  · exact .inl o2
  · exact .inr ⟨q, cap, cur, e1, hbq, ne _ _ _ (by decide) hg, r'⟩

theorem lastFrom_ge (l : Ams) : ∀ n, n ≤ lastFrom n l ∧ ∀ p, p ∈ l → p.1 ≤ lastFrom n l := by
  induction l with
  | nil => intro n; exact ⟨Int.le_refl _, fun p hp => by simp at hp⟩
  | cons q r ih =>
    intro n
    have h := ih (if n < q.1 then q.1 else n)
    simp only [lastFrom]
    refine ⟨?_, fun p hp => ?_⟩
    · have := h.1
      split at this <;> split <;> omega
    · rcases List.mem_cons.1 hp with rfl | hp
      · have := h.1
        split at this <;> split <;> omega
      · exact h.2 p hp
theorem tally_after (x : Ams) (hi : Int) : tally x (lastOf x) hi = 0 := tally_none fun p hp => (lastFrom_ge x 0).2 p hp

theorem told_ok {x : Ams} {t n : Int} (h : toldErr x t n = 0) : played x t n = x ++ [(t, n)] := by
  unfold toldErr at h
  unfold played
  split
  · rw [if_pos (by assumption)] at h
    split
    · rw [if_pos (by assumption)] at h; simp at h
    · rfl
  · rw [if_neg (by assumption)] at h; simp at h
theorem told_bad {x : Ams} {t n : Int} (h : toldErr x t n ≠ 0) : played x t n = x := by
  unfold toldErr at h
  unfold played
  split
  · rw [if_pos (by assumption)] at h
    split
    · rfl
    · rw [if_neg (by assumption)] at h; simp at h
  · rfl

theorem MeterAt.block {base b : Nat} {w : World} {win : Int} {x : Ams} (h : MeterAt base w b win x) : ∃ v, Block w b win (lastOf x) v := by
  obtain ⟨v, l, hb, _⟩ := h; exact ⟨v, hb⟩

/-- both, side by side, behind k amounts -/
def Side (w wr : World) (win : Int) (k : Nat) (v : Value) (x : Ams) : Prop :=
  Ext w wr ∧ x.length ≤ k ∧ MeterAt w.heap.size wr w.heap.size win x ∧ Kept wr w.heap.size v x
theorem Side.ext {w wr : World} {win : Int} {k : Nat} {v : Value} {x : Ams} (h : Side w wr win k v x) : Ext w wr := h.1
theorem Side.len {w wr : World} {win : Int} {k : Nat} {v : Value} {x : Ams} (h : Side w wr win k v x) : x.length ≤ k := h.2.1
theorem Side.meter {w wr : World} {win : Int} {k : Nat} {v : Value} {x : Ams} (h : Side w wr win k v x) : MeterAt w.heap.size wr w.heap.size win x := h.2.2.1
theorem Side.kept {w wr : World} {win : Int} {k : Nat} {v : Value} {x : Ams} (h : Side w wr win k v x) : Kept wr w.heap.size v x := h.2.2.2

/-- the amount lies in a variable of its own, and is handed to the meter -/
theorem Side.add {w wr : World} {win : Int} {k : Nat} {v : Value} {x : Ams} (h : Side w wr win k v x) (hk : k ≤ 900) (t n : Int) :
    Calls Try.prog 15 #[.pointer (some ⟨w.heap.size, 0, none⟩), .int .i64 t, .int .i64 n] (wr.alloc (.cells #[.int .i64 t, .int .i64 n] 39)) fun e w' => e = .returned (.int .i64 (toldErr x t n)) ∧
      Ext w w' ∧ MeterAt w.heap.size w' w.heap.size win (played x t n) ∧ Kept w' w.heap.size v x ∧ w'.heap[wr.heap.size]? = some (.cells #[.int .i64 t, .int .i64 n] 39 (0, 0)) := by
  have e0 : Ext wr (wr.alloc (.cells #[.int .i64 t, .int .i64 n] 39)) := (Ext.refl wr).alloc _
  have hl := h.len
  refine (add_any' _ _ win t n x _ (h.meter.ext e0) (by omega)).mono ?_
  rintro e w' ⟨rfl, M, L, S⟩
  exact ⟨rfl, Below.trans (h.ext.trans e0) L, M, (h.kept.ext e0).stays S, S _ _ _ (heap_alloc_new wr _)⟩

/-- behind the list's own growth -/
theorem Side.grown {w w' w1 : World} {win t n : Int} {k : Nat} {v v1 : Value} {x : Ams} {o : Obj} (e : Ext w w') (hx : x.length ≤ k) (m : MeterAt w.heap.size w' w.heap.size win (x ++ [(t, n)])) (kp : Kept w' w.heap.size v x)
    (own : w1.ownsRow w.heap.size 39 2 v1 (x.length + 1) (cells2 x ++ [.int .i64 t, .int .i64 n])) (g : (w'.alloc o).grownBy w1 v.ownBlock) : Side w w1 win (k + 1) v1 (x ++ [(t, n)]) := by
  have e0 : Ext w' (w'.alloc o) := (Ext.refl w').alloc o
  have k0 := kp.ext e0
  refine ⟨?_, by simp; omega, (m.ext e0).beside k0 g, Kept.snoc own⟩
  exact Below.grown (e.trans e0) g (e.trans e0).size (fun j hj => (World.ownsRow.lt k0 j hj).1)

theorem Side.step {w wr w' : World} {win : Int} {k : Nat} {v : Value} {x : Ams} (h : Side w wr win k v x) (e : Ext wr w') : Side w w' win k v x :=
  ⟨h.ext.trans e, h.len, h.meter.ext e, h.kept.ext e⟩
end Go.Proofs.Ytjdcccienbahjaa

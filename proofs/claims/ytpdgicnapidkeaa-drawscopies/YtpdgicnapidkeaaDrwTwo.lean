/-
  Two draws and a list side by side, of which each is told by itself; a list that is written over.
-/
import Derived.Test.YtpdgicnapidkeaaDrwRef
import Derived.Laws.OwnMore
namespace Go.Proofs.Ytpdgicnapidkeaa
set_option linter.unusedVariables false
set_option maxRecDepth 100000
open Go.RowKit Go.Lib

theorem tells_grown (w : World) (b m : Nat) : w.grownBy (tells w b m) (some b) := ⟨rfl, rfl, rfl, by simp [tells], fun k _ hk => heap_setCell_other w ⟨b, 1, none⟩ k _ (fun e => hk (by simp [e]))⟩
theorem NewU.tells {w0 w : World} {v : Value} {l : List Int} {b : Nat} (h : NewU w0 w v l) (hb : w0.heap.size ≤ b) (hv : v.ownBlock ≠ some b) (m : Nat) : NewU w0 (tells w b m) v l :=
  ⟨h.1.kept (tells_grown w b m) (.inr hv), tells_ext h.2 hb m⟩
theorem NewU.ext {w0 w w' : World} {v : Value} {l : List Int} (h : NewU w0 w v l) (e : Ext w w') : NewU w0 w' v l := by
  refine ⟨⟨h.1.1, ?_⟩, h.2.trans e⟩
  rcases h.1.2 with h0 | ⟨g, cap, cur, h1, hb, hg, r⟩
  · exact .inl h0
  · exact .inr ⟨g, cap, cur, h1, hb, e.row hg, r⟩
theorem ucells_set (l : List Int) (k : Nat) (y : Int) : (ucells l).set k (.int .u32 y) = ucells (l.set k y) := by unfold ucells; rw [List.map_set]
/-- one of its numbers written anew -/
theorem NewU.put {w0 w : World} {v : Value} {l : List Int} (h : NewU w0 w v l) (k : Nat) (hk : k < l.length) :
    ∃ g cap, v = .slice (some ⟨g, 0, none⟩) l.length cap ∧ l.length ≤ cap ∧ cap ≤ maxLen ∧ v.ownBlock = some g ∧ w.cell? ⟨g, k, none⟩ = some (.int .u32 (l.getD k 0)) ∧ w.frozen? ⟨g, k, none⟩ = false ∧
      ∀ y, NewU w0 (w.setCell ⟨g, k, none⟩ (.int .u32 y)) v (l.set k y) := by
  rcases h.1.2 with ⟨_, h0⟩ | ⟨g, cap, cur, rfl, hb, hg, hnc, hcm, hcs, htake⟩
  · omega
  · refine ⟨g, cap, rfl, hnc, hcm, rfl, ?_, ?_, fun y => ⟨?_, h.2.setCell (p := ⟨g, k, none⟩) hb _⟩⟩
    · rw [h.1.cellAt k (by omega), ucells_at l k hk]
    · exact h.1.frozenAt k
    · have := (h.1.stored k (.int .u32 y)).1
      rw [ucells_set] at this
      rw [List.length_set]
      exact this

/-- two draws of the list l, in blocks b and c, of which i and j were told; a slice v of the first N; all else of w is as it was -/
def Two (w wr : World) (b c : Nat) (v : Value) (l : List Int) (i j N : Nat) : Prop :=
  Drw (fun k => k ≠ c) wr b l i ∧ Drw (fun k => k ≠ b) wr c l j ∧ RowK (fun k => k ≠ b ∧ k ≠ c) wr v 1 (ucells (drs l N)) ∧ Ext w wr ∧ w.heap.size ≤ b ∧ w.heap.size ≤ c
theorem Two.drew {w wr : World} {b c : Nat} {v : Value} {l : List Int} {i j N : Nat} (h : Two w wr b c v l i j N) : Two w wr.drew b c v l i j N := by
  obtain ⟨h1, h2, h3, h4, h5⟩ := h
  exact ⟨h1.ext (Below.drew (Ext.refl wr)), h2.ext (Below.drew (Ext.refl wr)), h3.kept (.of_ext (Below.drew (Ext.refl wr))), Below.drew h4, h5⟩
theorem Two.left {w wr : World} {b c : Nat} {v : Value} {l : List Int} {i j N : Nat} (h : Two w wr b c v l i j N) (m : Nat) : Two w (tells wr b m) b c v l m j N := by
  obtain ⟨h1, h2, h3, h4, h5, h6⟩ := h
  exact ⟨h1.tells m, h2.kept (tells_kept wr b m (fun k => k rfl)), h3.kept (tells_kept wr b m (fun k => k.1 rfl)), tells_ext h4 h5 m, h5, h6⟩
theorem Two.right {w wr : World} {b c : Nat} {v : Value} {l : List Int} {i j N : Nat} (h : Two w wr b c v l i j N) (m : Nat) : Two w (tells wr c m) b c v l i m N := by
  obtain ⟨h1, h2, h3, h4, h5, h6⟩ := h
  exact ⟨h1.kept (tells_kept wr c m (fun k => k rfl)), h2.tells m, h3.kept (tells_kept wr c m (fun k => k.2 rfl)), tells_ext h4 h6 m, h5, h6⟩
theorem Two.at {w wr : World} {b c : Nat} {v : Value} {l : List Int} {i j N : Nat} (h : Two w wr b c v l i j N) (k : Nat) (hk : k < N) :
    ∃ g o cap, v = .slice (some ⟨g, o, none⟩) N cap ∧ g ≠ b ∧ g ≠ c ∧ wr.cell? ⟨g, o + k, none⟩ = some (.int .u32 (dr l k)) := by
  obtain ⟨_, _, ⟨ao, n, cap, rfl, h1, h2, h3, h4⟩, _⟩ := h
  have en : n = N := by rw [ucells_length, drs_length] at h1; omega
  subst en
  obtain ⟨g, o, rfl, hg, hc⟩ := h4 (by omega)
  have x1 := hc k _ (by rw [ucells_at _ k (by rw [drs_length]; exact hk), List.getD_eq_getElem?_getD, drs_at _ _ _ hk])
  exact ⟨g, o, cap, rfl, hg.1, hg.2, by simpa using x1⟩
end Go.Proofs.Ytpdgicnapidkeaa

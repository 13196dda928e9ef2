/-
  A wheel in memory: its block, the rows of its spokes. Walks of New, Now, Len.
-/
import Derived.Test.YthokjkkhkcdceaaWhlOrd
namespace Go.Proofs.Ythokjkkhkcdceaa
set_option linter.unusedVariables false
set_option maxRecDepth 100000
open Go.RowKit Go.Lib

/-- a wheel lies at block b: its time, its spokes' slices, its timers -/
def WhV (w : World) (b : Nat) (t : Int) (v : Nat → Value) (l : Sts) : Prop :=
  ∃ cs : Array Value, w.heap[b]? = some (.cells cs 50 (0, 0)) ∧ cs.size = 65 ∧ cs[0]? = some (.int .i64 t) ∧ ∀ k, k < 64 → cs[k + 1]? = some (v k) ∧ OwnT w (v k) (sp l k)
theorem WhV.time {w : World} {b : Nat} {t : Int} {v : Nat → Value} {l : Sts} (h : WhV w b t v l) : w.cell? ⟨b, 0, none⟩ = some (.int .i64 t) := by
  obtain ⟨cs, h1, h2, h3, h4⟩ := h
  rw [cell_of_row w b 0 _ _ _ h1, h3]
theorem WhV.cell {w : World} {b : Nat} {t : Int} {v : Nat → Value} {l : Sts} (h : WhV w b t v l) {k : Nat} (hk : k < 64) : w.cell? ⟨b, 1 + k, none⟩ = some (v k) := by
  obtain ⟨cs, h1, h2, h3, h4⟩ := h
  rw [cell_of_row w b _ _ _ _ h1, Nat.add_comm, (h4 k hk).1]
theorem WhV.own {w : World} {b : Nat} {t : Int} {v : Nat → Value} {l : Sts} (h : WhV w b t v l) {k : Nat} (hk : k < 64) : OwnT w (v k) (sp l k) := (h.choose_spec.2.2.2 k hk).2
theorem WhV.ext {w w' : World} {b : Nat} {t : Int} {v : Nat → Value} {l : Sts} (h : WhV w b t v l) (e : Ext w w') : WhV w' b t v l := by
  obtain ⟨cs, h1, h2, h3, h4⟩ := h
  exact ⟨cs, e.row h1, h2, h3, fun k hk => ⟨(h4 k hk).1, (h4 k hk).2.ext e⟩⟩
theorem WhV.kept {K : Nat → Prop} {w w' : World} {b : Nat} {t : Int} {v : Nat → Value} {l : Sts} (h : WhV w b t v l) (e : Kept K w w') (hb : K b) (hk : ∀ k, k < 64 → ∀ g, (v k).ownBlock = some g → K g) : WhV w' b t v l := by
  obtain ⟨cs, h1, h2, h3, h4⟩ := h
  exact ⟨cs, e.row hb h1, h2, h3, fun k q => ⟨(h4 k q).1, (h4 k q).2.kept e (hk k q)⟩⟩
theorem WhV.lt {w : World} {b : Nat} {t : Int} {v : Nat → Value} {l : Sts} (h : WhV w b t v l) : b < w.heap.size := lt_of_row h.choose_spec.1

/-- .. and none of it lies in the blocks of K, which are all there -/
def WhK (K : Nat → Prop) (w : World) (b : Nat) (t : Int) (l : Sts) : Prop := Wl l ∧ (0 ≤ t ∧ t ≤ 2199023255552) ∧ ∃ v, WhV w b t v l ∧ ¬ K b ∧ (∀ k, k < 64 → ∀ g, (v k).ownBlock = some g → ¬ K g ∧ g ≠ b) ∧
  (∀ j k, j < 64 → k < 64 → j ≠ k → ∀ g, (v j).ownBlock = some g → (v k).ownBlock ≠ some g) ∧ ∀ i, K i → i < w.heap.size
theorem WhK.ext {K : Nat → Prop} {w w' : World} {b : Nat} {t : Int} {l : Sts} (h : WhK K w b t l) (e : Ext w w') : WhK K w' b t l := by
  obtain ⟨h0, ht, v, h1, h2, h3, h4, h5⟩ := h
  exact ⟨h0, ht, v, h1.ext e, h2, h3, h4, fun i hi => Nat.lt_of_lt_of_le (h5 i hi) e.size⟩
theorem WhK.less {K L : Nat → Prop} {w : World} {b : Nat} {t : Int} {l : Sts} (h : WhK K w b t l) (hL : ∀ i, L i → K i) : WhK L w b t l := by
  obtain ⟨h0, ht, v, h1, h2, h3, h4, h5⟩ := h
  exact ⟨h0, ht, v, h1, fun q => h2 (hL _ q), fun k hk g hg => ⟨fun q => (h3 k hk g hg).1 (hL _ q), (h3 k hk g hg).2⟩, h4, fun i hi => h5 i (hL i hi)⟩
/-- new memory is none of its own -/
theorem WhK.more {K : Nat → Prop} {w w' : World} {b : Nat} {t : Int} {l : Sts} (h : WhK K w b t l) (e : Ext w w') : WhK (fun i => K i ∨ (w.heap.size ≤ i ∧ i < w'.heap.size)) w' b t l := by
  obtain ⟨h0, ht, v, h1, h2, h3, h4, h5⟩ := h
  refine ⟨h0, ht, v, h1.ext e, ?_, fun k hk g hg => ⟨?_, (h3 k hk g hg).2⟩, h4, ?_⟩
  · have := h1.lt
    rintro (q | q)
    · exact h2 q
    · omega
  · have := (World.ownsRow.lt (h1.own hk) g hg).2
    rintro (q | q)
    · exact (h3 k hk g hg).1 q
    · omega
  · rintro i (q | q)
    · exact Nat.lt_of_lt_of_le (h5 i q) e.size
    · exact q.2

set_option maxHeartbeats 1000000 in
theorem len_any (b : Nat) (t : Int) (v : Nat → Value) (l : Sts) (w : World) (hw : WhV w b t v l) (hl : l.length ≤ 1024) :
    Calls Try.prog 17 #[.pointer (some ⟨b, 0, none⟩)] w fun e w' => e = .returned (.int .i64 (l.length : Int)) ∧ w' = w := by
  have HW := hid hw
  clear hw
  go_enter Try.func17, Try.ntmps17
  go_wp2
  go_loopw [3, 5] (fun n i wr => wr = w ∧ ∃ k : Nat, k ≤ 64 ∧ i = .int .i64 (k : Int) ∧ n = .int .i64 (cnt l k : Int)) (fun _ i _ => (64 - intOf i).toNat)
  case atStart => exact ⟨rfl, 0, by omega, rfl, by rw [cnt_zero]; rfl⟩
  case round =>
    obtain ⟨rfl, k, hk, rfl, rfl⟩ := hrel
    by_cases h : k < 64
    · have c := HW.out.cell h
      have s := cnt_succ l k
      have c1 := cnt_le l (k + 1)
      obtain ⟨ao, cp, e, k1, k2, _⟩ := (HW.out.own h).view
      rw [e] at c
      unfold maxLen at k2
      have h2 : (k : Int) < 64 := by omega
      have S := hid s
      generalize (sp l k).length = q at *
      generalize cnt l k = p at *
      have hpq : p + q ≤ 1024 := by omega
      clear e s
      go_wp2
      go_roundw
      case rel => exact ⟨trivial, k + 1, by omega, by go_num, by rw [S.out]; go_num⟩
      case measure => simp [intOf]; omega
    · obtain rfl : k = 64 := by omega
      have e := cnt_all l
      rw [e]
      clear e
      go_wp2
      go_ret
      exact ⟨rfl, rfl⟩

theorem now_any (b : Nat) (t : Int) (v : Nat → Value) (l : Sts) (w : World) (hw : WhV w b t v l) :
    Calls Try.prog 19 #[.pointer (some ⟨b, 0, none⟩)] w fun e w' => e = .returned (.int .i64 t) ∧ w' = w := by
  have c := hw.time
  clear hw
  go_enter Try.func19, Try.ntmps19
  go_wp2
  go_ret
  exact ⟨rfl, rfl⟩

/-- order, its world told as new memory alone -/
theorem grow_ext (w : World) (n : Nat) (os : Array Obj) : Ext w (Go.Sort.grow (w.drewN n) os) :=
  ⟨rfl, rfl, rfl, by rw [Go.Sort.size_grow]; exact Nat.le_add_right _ _, fun k hk => Go.Sort.heap_grow_old _ _ hk⟩
theorem order_ext (p q : Int × Int) (w : World) :
    Calls Try.prog 35 #[.agg #[.int .i64 p.1, .int .i64 p.2], .agg #[.int .i64 q.1, .int .i64 q.2]] w fun e w' => e = .returned (.int .i64 (ord p q)) ∧ Ext w w' :=
  (order_any p.1 p.2 q.1 q.2 w).mono fun e w' ⟨h1, n, os, h2⟩ => ⟨h1, by rw [h2]; exact grow_ext w n os⟩

/-- a wheel that is new: its cells -/
def newCells : Array Value := #[.int .i64 0] ++ Array.replicate 64 (.slice none 0 0)
theorem new_any (w : World) : Calls Try.prog 7 #[] w fun e w' => e = .returned (.pointer (some ⟨w.heap.size, 0, none⟩)) ∧ w' = w.alloc (.cells newCells 50 (0, 0)) := by
  go_enter Try.func7, Try.ntmps7
  go_wp2
  go_ret
  exact ⟨rfl, rfl⟩
theorem new_wheel (w : World) : WhK (fun i => i < w.heap.size) (w.alloc (.cells newCells 50 (0, 0))) w.heap.size 0 [] := by
  refine ⟨Wl.nil, ⟨by omega, by omega⟩, fun _ => .slice none 0 0, ⟨newCells, heap_alloc_new w _, rfl, rfl, fun k hk => ⟨?_, World.ownsRow_nil _ _ _ _⟩⟩, by omega, fun k hk g hg => by simp [Value.ownBlock] at hg, fun j k hj hk hjk g hg => by simp [Value.ownBlock] at hg, fun i hi => by simp; omega⟩
  unfold newCells
  rw [Array.getElem?_append_right (by simp)]
  simp [hk]
end Go.Proofs.Ythokjkkhkcdceaa

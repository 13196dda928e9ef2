/-
  Walks of a meter's own functions: New, Last, forget, count, Add.
-/
import Derived.Test.YtjdcccienbahjaaMeterDel
namespace Go.Proofs.Ytjdcccienbahjaa
set_option linter.unusedVariables false
open Go.RowKit

theorem below_drawn {B n : Nat} {w w' : World} (h : Below B (w.drewN n) w') : Below B w w' := ⟨h.os, h.tape, h.output, h.size, h.block⟩

/-- a meter's block -/
def Block (w : World) (b : Nat) (win last : Int) (v : Value) : Prop := w.heap[b]? = some (.cells #[.int .i64 win, .int .i64 last, v] 49 (0, 0))

theorem Block.c0 {w : World} {b : Nat} {win last : Int} {v : Value} (h : Block w b win last v) : w.cell? ⟨b, 0, none⟩ = some (.int .i64 win) := by rw [cell_of_row w b 0 _ _ _ h]; rfl
theorem Block.c1 {w : World} {b : Nat} {win last : Int} {v : Value} (h : Block w b win last v) : w.cell? ⟨b, 1, none⟩ = some (.int .i64 last) := by rw [cell_of_row w b 1 _ _ _ h]; rfl
theorem Block.c2 {w : World} {b : Nat} {win last : Int} {v : Value} (h : Block w b win last v) : w.cell? ⟨b, 2, none⟩ = some v := by rw [cell_of_row w b 2 _ _ _ h]; rfl
theorem Block.fr {w : World} {b : Nat} {win last : Int} {v : Value} (h : Block w b win last v) (k : Nat) : w.frozen? ⟨b, k, none⟩ = false := by
  unfold Block at h; simp [World.frozen?, h]
theorem Block.lt {w : World} {b : Nat} {win last : Int} {v : Value} (h : Block w b win last v) : b < w.heap.size := (Array.getElem?_eq_some_iff.1 h).1
theorem Block.drewN {w : World} {b : Nat} {win last : Int} {v : Value} (h : Block w b win last v) (n : Nat) : Block (w.drewN n) b win last v := h
theorem Block.set1 {w : World} {b : Nat} {win last : Int} {v : Value} (h : Block w b win last v) (t : Int) : Block (w.setCell ⟨b, 1, none⟩ (.int .i64 t)) b win t v := by
  unfold Block
  rw [setCell_eq_setRow w b 1 _ _ _ _ h, setRow_heap w b _ _ _ _ h]; rfl
theorem Block.set2 {w : World} {b : Nat} {win last : Int} {v : Value} (h : Block w b win last v) (u : Value) : Block (w.setCell ⟨b, 2, none⟩ u) b win last u := by
  unfold Block
  rw [setCell_eq_setRow w b 2 _ _ _ _ h, setRow_heap w b _ _ _ _ h]; rfl

/-- the amounts l lie in a row of the call's own -/
def Own (w : World) (base : Nat) (v : Value) (l : Ams) : Prop := w.ownsRow base 51 2 v l.length (cells2 l)

theorem Own.apart {w : World} {base b : Nat} {win last : Int} {u v : Value} {l : Ams} (h : Own w base v l) (hb : Block w b win last u) : some b ≠ v.ownBlock := by
  rcases h.2 with ⟨rfl, _⟩ | ⟨g, cap, cur, rfl, _, hg, _⟩
  · simp [Value.ownBlock]
  · simp only [Value.ownBlock, ne_eq, Option.some.injEq]
    rintro rfl
    unfold Block at hb
    rw [hg] at hb
    simp at hb
theorem Own.form {w : World} {base : Nat} {v : Value} {l : Ams} (h : Own w base v l) : ∃ ao n c, v = .slice ao n c := by
  rcases h.2 with ⟨rfl, h0⟩ | ⟨g, cap, cur, rfl, _⟩
  · exact ⟨none, 0, 0, rfl⟩
  · exact ⟨_, _, _, rfl⟩
theorem Own.view {w : World} {base : Nat} {v : Value} {l : Ams} (h : Own w base v l) :
    ∃ ao c, v = .slice ao l.length c ∧ ∀ k, k < l.length → ∃ g, ao = some ⟨g, 0, none⟩ ∧ base ≤ g ∧ (∃ cur, w.heap[g]? = some (.cells cur 51 (0, 0))) ∧ w.cell? ⟨g, k * 2, none⟩ = some (.int .i64 (l.getD k (0, 0)).1) ∧ w.cell? ⟨g, k * 2 + 1, none⟩ = some (.int .i64 (l.getD k (0, 0)).2) := by
  have h' := h
  rcases h.2 with ⟨rfl, h0⟩ | ⟨g, cap, cur, rfl, hb, hg, _, _, _, ht⟩
  · exact ⟨none, 0, by rw [h0], fun k hk => by omega⟩
  · refine ⟨_, _, rfl, fun k hk => ⟨g, rfl, hb, ⟨cur, hg⟩, ?_, ?_⟩⟩
    · have := World.ownsRow.cells h' (g := g) rfl (k * 2) _ (cells2_tick l k hk)
      rwa [Addr.add_mid, Nat.zero_add] at this
    · have := World.ownsRow.cells h' (g := g) rfl (k * 2 + 1) _ (cells2_n l k hk)
      rwa [Addr.add_mid, Nat.zero_add] at this
theorem Own.drewN {w : World} {base : Nat} {v : Value} {l : Ams} (h : Own w base v l) (n : Nat) : Own (w.drewN n) base v l := h
/-- a cell of the meter's own block is written: the row stays -/
theorem Own.other {w : World} {base b : Nat} {win last : Int} {u v : Value} {l : Ams} (h : Own w base v l) (hb : Block w b win last u) (o : Nat) (x : Value) : Own (w.setCell ⟨b, o, none⟩ x) base v l := by
  refine World.ownsRow.kept h (row := some b) ⟨rfl, rfl, rfl, by simp [World.setCell], fun k _ hk => Below.heap_setCell _ _ _ _ (fun e => hk (by rw [e]))⟩ ?_
  have := h.apart hb
  exact .inr (Ne.symm this)

/-- blocks of the reference's amounts are as they were -/
def Stays (w w' : World) : Prop := ∀ (k : Nat) (cur : Array Value) (fr : Nat × Nat), w.heap[k]? = some (.cells cur 39 fr) → w'.heap[k]? = some (.cells cur 39 fr)
theorem Stays.refl (w : World) : Stays w w := fun _ _ _ h => h
theorem Stays.trans {a b c : World} (h : Stays a b) (k : Stays b c) : Stays a c := fun i cur fr hi => k i cur fr (h i cur fr hi)
theorem Stays.drewN (w : World) (n : Nat) : Stays w (w.drewN n) := fun _ _ _ h => h
theorem Stays.ext {w w' : World} (h : Ext w w') : Stays w w' := fun _ _ _ hk => h.row hk
theorem Stays.setCell {w : World} {b : Nat} {win last : Int} {v : Value} (h : Block w b win last v) (o : Nat) (u : Value) : Stays w (w.setCell ⟨b, o, none⟩ u) := by
  intro k cur fr hk
  rw [Below.heap_setCell _ _ _ _ (fun e => ?_), hk]
  subst e
  unfold Block at h
  rw [hk] at h
  simp at h
theorem Stays.grown {w w' : World} {base : Nat} {v : Value} {l : Ams} (h : Own w base v l) (hg : w.grownBy w' v.ownBlock) : Stays w w' := by
  intro k cur fr hk
  rw [hg.block k (Array.getElem?_eq_some_iff.1 hk).1 (fun e => ?_), hk]
  rcases h.2 with ⟨rfl, _⟩ | ⟨g, cap, cu, rfl, _, hgg, _⟩
  · simp [Value.ownBlock] at e
  · simp only [Value.ownBlock, Option.some.injEq] at e
    subst e
    rw [hk] at hgg
    simp at hgg

theorem new_any (win : Int) (w : World) (h1 : 1 ≤ win) (h2 : win ≤ 64) :
    Calls Try.prog 14 #[.int .i64 win] w fun e w' => e = .returned (.tuple #[.pointer (some ⟨w.heap.size, 0, none⟩), .int .i64 0]) ∧ w' = w.alloc (.cells #[.int .i64 win, .int .i64 0, .slice none 0 0] 49 (0, 0)) := by
  have d1 : decide (win < 1) = false := by simp; omega
  have d2 : decide (64 < win) = false := by simp; omega
  go_enter Try.func14, Try.ntmps14
  go_wp2
  go_ret2
  exact ⟨rfl, rfl⟩

theorem new_none (win : Int) (w : World) (h : win < 1 ∨ 64 < win) :
    Calls Try.prog 14 #[.int .i64 win] w fun e w' => e = .returned (.tuple #[.pointer none, .int .i64 11]) ∧ w' = w := by
  by_cases h1 : win < 1
  · go_enter Try.func14, Try.ntmps14
    go_wp2
    go_ret2
    exact ⟨rfl, rfl⟩
  · have h2 : 64 < win := by omega
    go_enter Try.func14, Try.ntmps14
    go_wp2
    go_ret2
    exact ⟨rfl, rfl⟩

theorem last_any (b : Nat) (win last : Int) (v : Value) (w : World) (hb : Block w b win last v) :
    Calls Try.prog 9 #[.pointer (some ⟨b, 0, none⟩)] w fun e w' => e = .returned (.int .i64 last) ∧ w' = w := by
  have c1 := hb.c1
  clear hb
  go_enter Try.func9, Try.ntmps9
  go_wp2
  go_ret
  exact ⟨rfl, rfl⟩

theorem Block.grown {w w' : World} {base b : Nat} {win last : Int} {u v : Value} {l : Ams} (hb : Block w b win last u) (hw : Own w base v l) (hg : w.grownBy w' v.ownBlock) : Block w' b win last u := by
  have := hw.apart hb
  unfold Block at *
  rw [hg.block b (Array.getElem?_eq_some_iff.1 hb).1 this, hb]

/-- the row has turned, and the meter's block is told where it lies now -/
theorem turned {w w' : World} {base b : Nat} {win last : Int} {u v v' : Value} {l l' : Ams} (hb : Block w b win last u) (hbb : base ≤ b) (hbs : base ≤ w.heap.size) (hw : Own w base v l) (hg : w.grownBy w' v.ownBlock) (ho : Own w' base v' l') :
    Block (w'.setCell ⟨b, 2, none⟩ v') b win last v' ∧ Own (w'.setCell ⟨b, 2, none⟩ v') base v' l' ∧ Below base w (w'.setCell ⟨b, 2, none⟩ v') ∧ Stays w (w'.setCell ⟨b, 2, none⟩ v') := by
  have b1 := hb.grown hw hg
  refine ⟨b1.set2 v', ho.other b1 2 v', ?_, ?_⟩
  · exact (Below.grown (Below.refl base w) hg hbs (fun k hk => (World.ownsRow.lt hw k hk).1)).setCell hbb v'
  · exact (Stays.grown hw hg).trans (Stays.setCell b1 2 v')

set_option maxHeartbeats 1000000 in
theorem forget_any (base b : Nat) (win last : Int) (v : Value) (l : Ams) (w : World) (hb : Block w b win last v) (hw : Own w base v l) (hbb : base ≤ b) (hl : l.length ≤ 100000) (h1 : 1 ≤ win) (h2 : win ≤ 64) (h3 : 0 ≤ last) (h4 : last ≤ 1099511627776) (hbs : base ≤ w.heap.size) :
    Calls Try.prog 22 #[.pointer (some ⟨b, 0, none⟩)] w fun e w' => e = .returned (.tuple #[]) ∧
      ∃ v' k, k ≤ l.length ∧ (∀ i, i < k → i < l.length → (l.getD i (0, 0)).1 ≤ last - 64 - win) ∧ Block w' b win last v' ∧ Own w' base v' (l.drop k) ∧ Below base w w' ∧ Stays w w' := by
  have c0 := hb.c0
  have c1 := hb.c1
  have c2 := hb.c2
  have f2 := hb.fr 2
  obtain ⟨ao, cp, rfl, vw⟩ := hw.view
  have HB := hid hb
  have HW := hid hw
  clear hb hw
  have e1 : IntKind.i64.wrap (last - 64) = last - 64 := IntWalk.i64_in _ (by omega)
  have e2 : IntKind.i64.wrap (last - 64 - win) = last - 64 - win := IntWalk.i64_in _ (by omega)
  go_enter Try.func22, Try.ntmps22
  go_wp2
  go_quiet (fail)
  go_wp2
  clear e1 e2 c0 c1
  go_loop [3] (fun t => ∃ k : Nat, k ≤ l.length ∧ t = .int .i64 k ∧ Hid (∀ i, i < k → i < l.length → (l.getD i (0, 0)).1 ≤ last - 64 - win)) (fun t => (l.length - intOf t).toNat)
  case atStart => exact ⟨0, by omega, rfl, fun i hi => by omega⟩
  case round =>
    obtain ⟨k, hk, rfl, HK⟩ := hrel
    by_cases t1 : k < l.length
    · obtain ⟨g, rfl, hg, _, hx, _⟩ := vw k t1
      obtain ⟨d, ed⟩ : ∃ d, d = (l.getD k (0, 0)).1 := ⟨_, rfl⟩
      rw [← ed] at hx
      have i1 : (k : Int) < (l.length : Int) := by omega
      have i2 : (0 : Int) ≤ (k : Int) := by omega
      have D := hid ed
      clear vw ed
      by_cases t2 : d ≤ last - 64 - win
      · have HK2 : Hid (∀ i, i < k + 1 → i < l.length → (l.getD i (0, 0)).1 ≤ last - 64 - win) := by
          intro i hi hl2
          rcases Nat.lt_or_ge i k with h | h
          · exact HK.out i h hl2
          · rw [show i = k by omega, ← D.out]; exact t2
        go_wp2
        go_round
        case rel => exact ⟨k + 1, by omega, by go_num, HK2⟩
        case measure => simp [intOf]; omega
      · go_wp2_with fail
        refine (delete_any base _ l k _ (HW.out.drewN nq) hk).mono ?_
        rintro e w1 ⟨v', rfl, O1, G1, _⟩
        obtain ⟨T1, T2, T3, T4⟩ := turned (HB.out.drewN nq) hbb hbs (HW.out.drewN nq) G1 O1
        have B1 := (HB.out.drewN nq).grown (HW.out.drewN nq) G1
        have c2' := B1.c2
        have f2' := B1.fr 2
        obtain ⟨ao', n', cp', rfl⟩ := Own.form O1
        have R := hid (And.intro T1 (And.intro T2 (And.intro T3 T4)))
        clear T1 T2 T3 T4 B1 O1 G1 c2 f2
        go_wp2
        go_end0
        exact ⟨rfl, _, k, hk, HK, R.1, R.2.1, below_drawn R.2.2.1, R.2.2.2⟩
    · rw [show (k : Int) = (l.length : Int) by omega]
      have HK2 : Hid (∀ i, i < l.length → i < l.length → (l.getD i (0, 0)).1 ≤ last - 64 - win) := by
        intro i hi hl2
        exact HK.out i (by omega) hl2
      clear vw t1 hk HK
      go_wp2_with fail
      refine (delete_any base _ l l.length _ (HW.out.drewN nq) (Nat.le_refl _)).mono ?_
      rintro e w1 ⟨v', rfl, O1, G1, _⟩
      obtain ⟨T1, T2, T3, T4⟩ := turned (HB.out.drewN nq) hbb hbs (HW.out.drewN nq) G1 O1
      have B1 := (HB.out.drewN nq).grown (HW.out.drewN nq) G1
      have c2' := B1.c2
      have f2' := B1.fr 2
      obtain ⟨ao', n', cp', rfl⟩ := Own.form O1
      have R := hid (And.intro T1 (And.intro T2 (And.intro T3 T4)))
      clear T1 T2 T3 T4 B1 O1 G1 c2 f2
      go_wp2
      go_end0
      exact ⟨rfl, _, l.length, Nat.le_refl _, HK2, R.1, R.2.1, below_drawn R.2.2.1, R.2.2.2⟩
end Go.Proofs.Ytjdcccienbahjaa

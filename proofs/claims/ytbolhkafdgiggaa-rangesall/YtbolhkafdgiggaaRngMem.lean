/-
  A set in memory: its block, and the row of its stretches. Walks of within, the halving search, endsBehind, beginsBehind.
-/
import Derived.Test.YtbolhkafdgiggaaKeptCore
import Derived.Test.YtbolhkafdgiggaaRngSets
import Derived.WalkKit
import Derived.WalkSpells
import Derived.WalkLawsBesides
import Derived.Handy
import Derived.OwnWalk
import Derived.Maps.AppendAt
import Derived.Laws.ShiftsVarLaws
import Derived.Deep.QuietTactic
import Derived.BigQuiet
import Derived.BigRegion
namespace Go.Proofs.Ytbolhkafdgiggaa
set_option linter.unusedVariables false
set_option maxRecDepth 100000
open Go.RowKit Go.Lib

theorem info_pair : (Try.prog.info? 33).map (fun i => (i.zero, i.size, i.bytes)) = some (some (.agg #[.int .i64 0, .int .i64 0]), 2, 16) := by kernel_rfl

theorem gcells_append (a b : Sts) : gcells (a ++ b) = gcells a ++ gcells b := by simp [gcells]
theorem gcells_one (l : Sts) : ∀ u ∈ gcells l, u.oneCell' = true := by
  intro u hu
  simp only [gcells, List.mem_flatMap, List.mem_cons, List.not_mem_nil, or_false] at hu
  obtain ⟨p, _, rfl | rfl⟩ := hu <;> rfl
theorem gcells_take (l : Sts) : ∀ k, gcells (l.take k) = (gcells l).take (k * 2) := by
  induction l with
  | nil => intro k; simp [gcells]
  | cons p r ih =>
    intro k
    cases k with
    | zero => simp [gcells]
    | succ k =>
      have := ih k
      simp only [gcells] at this
      rw [show (k + 1) * 2 = k * 2 + 1 + 1 by omega]
      simp [gcells, this]
theorem gcells_drop (l : Sts) : ∀ k, gcells (l.drop k) = (gcells l).drop (k * 2) := by
  induction l with
  | nil => intro k; simp [gcells]
  | cons p r ih =>
    intro k
    cases k with
    | zero => simp
    | succ k =>
      have := ih k
      simp only [gcells] at this
      rw [show (k + 1) * 2 = k * 2 + 1 + 1 by omega]
      simp [gcells, this]

/-- the stretches l lie in a row of one's own -/
def OwnG (w : World) (v : Value) (l : Sts) : Prop := w.ownsRow 0 33 2 v l.length (gcells l)

theorem OwnG.view {w : World} {v : Value} {l : Sts} (h : OwnG w v l) :
    ∃ ao c, v = .slice ao l.length c ∧ l.length ≤ c ∧ c ≤ maxLen ∧ ∀ k, k < l.length → ∃ g, ao = some ⟨g, 0, none⟩ ∧ w.cell? ⟨g, k * 2, none⟩ = some (.int .i64 (l.getD k (0, 0)).1) ∧ w.cell? ⟨g, k * 2 + 1, none⟩ = some (.int .i64 (l.getD k (0, 0)).2) := by
  have h' := h
  rcases h.2 with ⟨rfl, h0⟩ | ⟨g, cap, cur, rfl, hb, hg, h1, h2, _, ht⟩
  · exact ⟨none, 0, by rw [h0], by omega, Nat.zero_le _, fun k hk => by omega⟩
  · refine ⟨_, _, rfl, h1, h2, fun k hk => ⟨g, rfl, ?_, ?_⟩⟩
    · have := World.ownsRow.cells h' (g := g) rfl (k * 2) _ (gcells_at l k hk).1
      rwa [Addr.add_mid, Nat.zero_add] at this
    · have := World.ownsRow.cells h' (g := g) rfl (k * 2 + 1) _ (gcells_at l k hk).2
      rwa [Addr.add_mid, Nat.zero_add] at this
theorem OwnG.kept {K : Nat → Prop} {w w' : World} {v : Value} {l : Sts} (h : OwnG w v l) (k : Kept K w w') (hk : ∀ g, v.ownBlock = some g → K g) : OwnG w' v l := by
  refine ⟨h.1, ?_⟩
  rcases h.2 with hn | ⟨g, cap, cur, rfl, hb, hgg, rest⟩
  · exact .inl hn
  · exact .inr ⟨g, cap, cur, rfl, hb, k.row (hk g rfl) hgg, rest⟩
theorem OwnG.ext {w w' : World} {v : Value} {l : Sts} (h : OwnG w v l) (e : Ext w w') : OwnG w' v l := h.kept (K := fun _ => True) (Kept.of_ext e) (fun _ _ => trivial)
theorem OwnG.row {w : World} {v : Value} {l : Sts} (h : OwnG w v l) : RowK (fun i => v.ownBlock = some i) w v 2 (gcells l) := by
  rcases h.2 with ⟨rfl, h0⟩ | ⟨g, cap, cur, rfl, hb, hg, h1, h2, _, ht⟩
  · have : l = [] := List.eq_nil_of_length_eq_zero h0
    subst this
    exact RowK.nil _ w 2
  · exact ⟨_, _, _, rfl, h.1, h1, h2, fun _ => ⟨g, 0, rfl, rfl, fun j u hu => by
      have := World.ownsRow.cells h (g := g) rfl j u hu
      rwa [Addr.add_mid] at this⟩⟩

/-- a set lies at block b; v is its slice, l its stretches -/
def SetV (w : World) (b : Nat) (v : Value) (l : Sts) : Prop := w.heap[b]? = some (.cells #[v] 57 (0, 0)) ∧ OwnG w v l
theorem SetV.ext {w w' : World} {b : Nat} {v : Value} {l : Sts} (h : SetV w b v l) (e : Ext w w') : SetV w' b v l := ⟨e.row h.1, h.2.ext e⟩
theorem SetV.cell {w : World} {b : Nat} {v : Value} {l : Sts} (h : SetV w b v l) : w.cell? ⟨b, 0, none⟩ = some v := by rw [cell_of_row w b 0 _ _ _ h.1]; rfl
theorem SetV.lt {w : World} {b : Nat} {v : Value} {l : Sts} (h : SetV w b v l) : b < w.heap.size := lt_of_row h.1

/-- .. and none of it lies in the blocks of K, which are all there -/
def SetK (K : Nat → Prop) (w : World) (b : Nat) (l : Sts) : Prop := ∃ v, SetV w b v l ∧ ¬ K b ∧ (∀ k, v.ownBlock = some k → ¬ K k ∧ k ≠ b) ∧ ∀ i, K i → i < w.heap.size
theorem SetK.ext {K : Nat → Prop} {w w' : World} {b : Nat} {l : Sts} (h : SetK K w b l) (e : Ext w w') : SetK K w' b l := by
  obtain ⟨v, h1, h2, h3, h4⟩ := h
  exact ⟨v, h1.ext e, h2, h3, fun i hi => Nat.lt_of_lt_of_le (h4 i hi) e.size⟩
theorem SetK.less {K L : Nat → Prop} {w : World} {b : Nat} {l : Sts} (h : SetK K w b l) (hL : ∀ i, L i → K i) : SetK L w b l := by
  obtain ⟨v, h1, h2, h3, h4⟩ := h
  exact ⟨v, h1, fun q => h2 (hL _ q), fun k hk => ⟨fun q => (h3 k hk).1 (hL _ q), (h3 k hk).2⟩, fun i hi => h4 i (hL i hi)⟩
/-- new memory is none of its own -/
theorem SetK.more {K : Nat → Prop} {w w' : World} {b : Nat} {l : Sts} (h : SetK K w b l) (e : Ext w w') : SetK (fun i => K i ∨ (w.heap.size ≤ i ∧ i < w'.heap.size)) w' b l := by
  obtain ⟨v, h1, h2, h3, h4⟩ := h
  refine ⟨v, h1.ext e, ?_, fun k hk => ⟨?_, (h3 k hk).2⟩, ?_⟩
  · have := h1.lt
    rintro (q | q)
    · exact h2 q
    · omega
  · have := (World.ownsRow.lt h1.2 k hk).2
    rintro (q | q)
    · exact (h3 k hk).1 q
    · omega
  · rintro i (q | q)
    · exact Nat.lt_of_lt_of_le (h4 i q) e.size
    · exact q.2

theorem within_any (a b : Int) (w : World) :
    Calls Try.prog 28 #[.int .i64 a, .int .i64 b] w fun e w' => e = .returned (.bool (decide (0 ≤ a ∧ a ≤ b ∧ b ≤ 16384))) ∧ w' = w := by
  by_cases h1 : 0 ≤ a
  · by_cases h2 : a ≤ b
    · by_cases h3 : b ≤ 16384
      · rw [show decide (0 ≤ a ∧ a ≤ b ∧ b ≤ 16384) = true by simp [h1, h2, h3]]
        go_enter Try.func28, Try.ntmps28
        go_wp2
        go_ret
        exact ⟨rfl, rfl⟩
      · rw [show decide (0 ≤ a ∧ a ≤ b ∧ b ≤ 16384) = false by simp [h3]]
        go_enter Try.func28, Try.ntmps28
        go_wp2
        go_ret
        exact ⟨rfl, rfl⟩
    · rw [show decide (0 ≤ a ∧ a ≤ b ∧ b ≤ 16384) = false by simp [h2]]
      go_enter Try.func28, Try.ntmps28
      go_wp2
      go_ret
      exact ⟨rfl, rfl⟩
  · rw [show decide (0 ≤ a ∧ a ≤ b ∧ b ≤ 16384) = false by simp [h1]]
    go_enter Try.func28, Try.ntmps28
    go_wp2
    go_ret
    exact ⟨rfl, rfl⟩

/-- the closures: is the end, the begin of the i-th stretch above n? -/
theorem endsOf_any (b g1 g2 i : Nat) (n : Int) (v : Value) (l : Sts) (w : World) (hs : SetV w b v l) (h1 : w.cell? ⟨g1, 0, none⟩ = some (.pointer (some ⟨b, 0, none⟩))) (h2 : w.cell? ⟨g2, 0, none⟩ = some (.int .i64 n)) (hi : i < l.length) :
    Calls Try.prog 34 #[.int .i64 i, .pointer (some ⟨g1, 0, none⟩), .pointer (some ⟨g2, 0, none⟩)] w fun e w' => e = .returned (.bool (decide (n < (l.getD i (0, 0)).2))) ∧ ∃ m, w' = w.drewN m := by
  have c := hs.cell
  obtain ⟨ao, cp, rfl, k1, k2, vw⟩ := hs.2.view
  obtain ⟨g, rfl, x1, x2⟩ := vw i hi
  have i1 : (i : Int) < (l.length : Int) := by omega
  have i2 : (0 : Int) ≤ (i : Int) := by omega
  clear vw hs x1
  generalize (l.getD i (0, 0)).2 = d at *
  go_enter Try.func34, Try.ntmps34
  go_wp2
  go_quiet (fail)
  go_wp2
  go_ret
  exact ⟨rfl, _, rfl⟩

theorem beginsOf_any (b g1 g2 i : Nat) (n : Int) (v : Value) (l : Sts) (w : World) (hs : SetV w b v l) (h1 : w.cell? ⟨g1, 0, none⟩ = some (.pointer (some ⟨b, 0, none⟩))) (h2 : w.cell? ⟨g2, 0, none⟩ = some (.int .i64 n)) (hi : i < l.length) :
    Calls Try.prog 36 #[.int .i64 i, .pointer (some ⟨g1, 0, none⟩), .pointer (some ⟨g2, 0, none⟩)] w fun e w' => e = .returned (.bool (decide (n < (l.getD i (0, 0)).1))) ∧ ∃ m, w' = w.drewN m := by
  have c := hs.cell
  obtain ⟨ao, cp, rfl, k1, k2, vw⟩ := hs.2.view
  obtain ⟨g, rfl, x1, x2⟩ := vw i hi
  have i1 : (i : Int) < (l.length : Int) := by omega
  have i2 : (0 : Int) ≤ (i : Int) := by omega
  clear vw hs x2
  generalize (l.getD i (0, 0)).1 = d at *
  go_enter Try.func36, Try.ntmps36
  go_wp2
  go_quiet (fail)
  go_wp2
  go_ret
  exact ⟨rfl, _, rfl⟩

set_option maxHeartbeats 1000000 in
/-- sort.Search, over a closure that only reads -/
theorem searchE_any (g1 g2 n : Nat) (p : Nat → Bool) (w : World) (hn : n ≤ 1000000)
    (hf : ∀ h m, h < n → Calls Try.prog 34 #[.int .i64 (h : Int), .pointer (some ⟨g1, 0, none⟩), .pointer (some ⟨g2, 0, none⟩)] (w.drewN m) fun e w' => e = .returned (.bool (p h)) ∧ ∃ m', w' = w.drewN m')
    (hm : ∀ i j, i < j → j < n → p i = true → p j = true) :
    Calls Try.prog 33 #[.int .i64 (n : Int), .func (.func 34) #[] #[.pointer (some ⟨g1, 0, none⟩), .pointer (some ⟨g2, 0, none⟩)]] w fun e w' =>
      ∃ k : Nat, e = .returned (.int .i64 (k : Int)) ∧ k ≤ n ∧ (∀ i, i < k → p i = false) ∧ (∀ i, k ≤ i → i < n → p i = true) ∧ ∃ m, w' = w.drewN m := by
  have HF := hid hf
  have HM := hid hm
  clear hf hm
  go_enter Try.func33, Try.ntmps33
  go_wp2
  go_loopw [5, 6] (fun i j wr => ∃ a b m : Nat, a ≤ b ∧ b ≤ n ∧ i = .int .i64 (a : Int) ∧ j = .int .i64 (b : Int) ∧ wr = w.drewN m ∧ (∀ q, q < a → p q = false) ∧ (∀ q, b ≤ q → q < n → p q = true)) (fun i j _ => (intOf j - intOf i).toNat)
  case atStart => exact ⟨0, n, 0, by omega, by omega, rfl, rfl, rfl, fun q hq => by omega, fun q h1 h2 => by omega⟩
  case round =>
    obtain ⟨a, b, m, hab, hb, rfl, rfl, rfl, L1, L2⟩ := hrel
    have LL := hid (And.intro L1 L2)
    clear L1 L2
    by_cases t : a < b
    · obtain ⟨h, eh, h1, h2⟩ : ∃ h : Nat, ((a : Int) + (b : Int)) / 2 = (h : Int) ∧ a ≤ h ∧ h < b := ⟨(a + b) / 2, by omega, by omega, by omega⟩
      have C := hid (HF.out h m (by omega))
      have t1 : (a : Int) < (b : Int) := by omega
      have P1 : Hid (p h = false → ∀ q, q < h + 1 → p q = false) := by
        intro e q hq
        cases ep : p q with
        | false => rfl
        | true =>
          rcases Nat.eq_or_lt_of_le (show q ≤ h by omega) with e2 | e2
          · rw [e2, e] at ep; cases ep
          · have := HM.out q h e2 (by omega) ep
            rw [e] at this; cases this
      have P2 : Hid (p h = true → ∀ q, h ≤ q → q < n → p q = true) := by
        intro e q h3 h4
        rcases Nat.eq_or_lt_of_le h3 with e2 | e2
        · rw [← e2]; exact e
        · exact HM.out h q e2 h4 e
      obtain ⟨y, ey⟩ : ∃ y, y = p h := ⟨_, rfl⟩
      rw [← ey] at C P1 P2
      clear ey
      go_wp2_with fail
      refine C.out.mono ?_
      rintro e w1 ⟨rfl, m', rfl⟩
      clear C eh
      cases y with
      | false =>
        have Q1 := hid (P1.out rfl)
        go_wp2_with fail
        go_roundw
        case rel => exact ⟨h + 1, b, m', by omega, hb, by go_num, rfl, rfl, Q1.out, LL.2⟩
        case measure => simp [intOf]; omega
      | true =>
        have Q1 := hid (P2.out rfl)
        go_wp2_with fail
        go_roundw
        case rel => exact ⟨a, h, m', by omega, by omega, rfl, rfl, rfl, LL.1, Q1.out⟩
        case measure => simp [intOf]; omega
    · obtain rfl : a = b := by omega
      go_wp2_with fail
      go_ret
      exact ⟨a, rfl, hb, LL.1, LL.2, m, rfl⟩

set_option maxHeartbeats 1000000 in
/-- sort.Search, over a closure that only reads -/
theorem searchB_any (g1 g2 n : Nat) (p : Nat → Bool) (w : World) (hn : n ≤ 1000000)
    (hf : ∀ h m, h < n → Calls Try.prog 36 #[.int .i64 (h : Int), .pointer (some ⟨g1, 0, none⟩), .pointer (some ⟨g2, 0, none⟩)] (w.drewN m) fun e w' => e = .returned (.bool (p h)) ∧ ∃ m', w' = w.drewN m')
    (hm : ∀ i j, i < j → j < n → p i = true → p j = true) :
    Calls Try.prog 33 #[.int .i64 (n : Int), .func (.func 36) #[] #[.pointer (some ⟨g1, 0, none⟩), .pointer (some ⟨g2, 0, none⟩)]] w fun e w' =>
      ∃ k : Nat, e = .returned (.int .i64 (k : Int)) ∧ k ≤ n ∧ (∀ i, i < k → p i = false) ∧ (∀ i, k ≤ i → i < n → p i = true) ∧ ∃ m, w' = w.drewN m := by
  have HF := hid hf
  have HM := hid hm
  clear hf hm
  go_enter Try.func33, Try.ntmps33
  go_wp2
  go_loopw [5, 6] (fun i j wr => ∃ a b m : Nat, a ≤ b ∧ b ≤ n ∧ i = .int .i64 (a : Int) ∧ j = .int .i64 (b : Int) ∧ wr = w.drewN m ∧ (∀ q, q < a → p q = false) ∧ (∀ q, b ≤ q → q < n → p q = true)) (fun i j _ => (intOf j - intOf i).toNat)
  case atStart => exact ⟨0, n, 0, by omega, by omega, rfl, rfl, rfl, fun q hq => by omega, fun q h1 h2 => by omega⟩
  case round =>
    obtain ⟨a, b, m, hab, hb, rfl, rfl, rfl, L1, L2⟩ := hrel
    have LL := hid (And.intro L1 L2)
    clear L1 L2
    by_cases t : a < b
    · obtain ⟨h, eh, h1, h2⟩ : ∃ h : Nat, ((a : Int) + (b : Int)) / 2 = (h : Int) ∧ a ≤ h ∧ h < b := ⟨(a + b) / 2, by omega, by omega, by omega⟩
      have C := hid (HF.out h m (by omega))
      have t1 : (a : Int) < (b : Int) := by omega
      have P1 : Hid (p h = false → ∀ q, q < h + 1 → p q = false) := by
        intro e q hq
        cases ep : p q with
        | false => rfl
        | true =>
          rcases Nat.eq_or_lt_of_le (show q ≤ h by omega) with e2 | e2
          · rw [e2, e] at ep; cases ep
          · have := HM.out q h e2 (by omega) ep
            rw [e] at this; cases this
      have P2 : Hid (p h = true → ∀ q, h ≤ q → q < n → p q = true) := by
        intro e q h3 h4
        rcases Nat.eq_or_lt_of_le h3 with e2 | e2
        · rw [← e2]; exact e
        · exact HM.out h q e2 h4 e
      obtain ⟨y, ey⟩ : ∃ y, y = p h := ⟨_, rfl⟩
      rw [← ey] at C P1 P2
      clear ey
      go_wp2_with fail
      refine C.out.mono ?_
      rintro e w1 ⟨rfl, m', rfl⟩
      clear C eh
      cases y with
      | false =>
        have Q1 := hid (P1.out rfl)
        go_wp2_with fail
        go_roundw
        case rel => exact ⟨h + 1, b, m', by omega, hb, by go_num, rfl, rfl, Q1.out, LL.2⟩
        case measure => simp [intOf]; omega
      | true =>
        have Q1 := hid (P2.out rfl)
        go_wp2_with fail
        go_roundw
        case rel => exact ⟨a, h, m', by omega, by omega, rfl, rfl, rfl, LL.1, Q1.out⟩
        case measure => simp [intOf]; omega
    · obtain rfl : a = b := by omega
      go_wp2_with fail
      go_ret
      exact ⟨a, rfl, hb, LL.1, LL.2, m, rfl⟩

set_option maxHeartbeats 1000000 in
theorem endsBehind_any (b : Nat) (n : Int) (v : Value) (l : Sts) (w : World) (hs : SetV w b v l) (hg : Good l) :
    Calls Try.prog 27 #[.pointer (some ⟨b, 0, none⟩), .int .i64 n] w fun e w' => ∃ k : Nat, e = .returned (.int .i64 (k : Int)) ∧ Parted l k (fun p => n < p.2) ∧ Ext w w' := by
  have X1 := (Ext.refl w).alloc (.cells #[.pointer (some ⟨b, 0, none⟩)] 24)
  have X2 := X1.alloc (.cells #[.int .i64 n] 3)
  obtain ⟨w2, e2⟩ : ∃ w2, w2 = (w.alloc (.cells #[.pointer (some ⟨b, 0, none⟩)] 24)).alloc (.cells #[.int .i64 n] 3) := ⟨_, rfl⟩
  rw [← e2] at X2
  have c1 : w2.cell? ⟨w.heap.size, 0, none⟩ = some (.pointer (some ⟨b, 0, none⟩)) := by rw [e2, cell_of_row _ _ 0 _ _ _ (heap_alloc2_old w _ _)]; rfl
  have c2 : w2.cell? ⟨w.heap.size + 1, 0, none⟩ = some (.int .i64 n) := by rw [e2, cell_of_row _ _ 0 _ _ _ (heap_alloc2_new w _ _)]; rfl
  have s2 := hs.ext X2
  have mono : ∀ i j, i < j → j < l.length → decide (n < (l.getD i (0, 0)).2) = true → decide (n < (l.getD j (0, 0)).2) = true := by
    intro i j h1 h2 h3
    have q1 := at_mono hg h1 h2
    have q2 := hg.1 _ (at_mem h2)
    have q3 := hg.1 _ (at_mem (show i < l.length by omega))
    simp only [decide_eq_true_eq] at h3 ⊢
    omega
  have C := hid (searchE_any w.heap.size (w.heap.size + 1) l.length (fun i => decide (n < (l.getD i (0, 0)).2)) w2 (by have := hg.len; omega)
    (fun h m hh => (endsOf_any b w.heap.size (w.heap.size + 1) h n v l (w2.drewN m) s2 c1 c2 hh).mono fun e w' ⟨e1, m', e3⟩ => ⟨e1, m + m', by rw [e3, World.drewN_drewN]⟩) mono)
  have c3 := s2.cell
  obtain ⟨ao, cp, rfl, k1, k2, _⟩ := hs.2.view
  have XX := hid X2
  clear mono s2 hs X1 X2 c1 c2
  subst e2
  go_enter Try.func27, Try.ntmps27
  go_wp2_with fail
  refine C.out.mono ?_
  rintro e w3 ⟨k, rfl, h1, h2, h3, m, rfl⟩
  have R := hid (parted_of (P := fun p => n < p.2) h1 (fun i hi => by have := h2 i hi; simpa using this) (fun i h4 h5 => by have := h3 i h4 h5; simpa using this))
  clear C h2 h3
  go_wp2_with fail
  go_ret
  exact ⟨k, rfl, R.out, XX.out.drewN m⟩

set_option maxHeartbeats 1000000 in
theorem beginsBehind_any (b : Nat) (n : Int) (v : Value) (l : Sts) (w : World) (hs : SetV w b v l) (hg : Good l) :
    Calls Try.prog 32 #[.pointer (some ⟨b, 0, none⟩), .int .i64 n] w fun e w' => ∃ k : Nat, e = .returned (.int .i64 (k : Int)) ∧ Parted l k (fun p => n < p.1) ∧ Ext w w' := by
  have X1 := (Ext.refl w).alloc (.cells #[.pointer (some ⟨b, 0, none⟩)] 24)
  have X2 := X1.alloc (.cells #[.int .i64 n] 3)
  obtain ⟨w2, e2⟩ : ∃ w2, w2 = (w.alloc (.cells #[.pointer (some ⟨b, 0, none⟩)] 24)).alloc (.cells #[.int .i64 n] 3) := ⟨_, rfl⟩
  rw [← e2] at X2
  have c1 : w2.cell? ⟨w.heap.size, 0, none⟩ = some (.pointer (some ⟨b, 0, none⟩)) := by rw [e2, cell_of_row _ _ 0 _ _ _ (heap_alloc2_old w _ _)]; rfl
  have c2 : w2.cell? ⟨w.heap.size + 1, 0, none⟩ = some (.int .i64 n) := by rw [e2, cell_of_row _ _ 0 _ _ _ (heap_alloc2_new w _ _)]; rfl
  have s2 := hs.ext X2
  have mono : ∀ i j, i < j → j < l.length → decide (n < (l.getD i (0, 0)).1) = true → decide (n < (l.getD j (0, 0)).1) = true := by
    intro i j h1 h2 h3
    have q1 := at_mono hg h1 h2
    have q2 := hg.1 _ (at_mem h2)
    have q3 := hg.1 _ (at_mem (show i < l.length by omega))
    simp only [decide_eq_true_eq] at h3 ⊢
    omega
  have C := hid (searchB_any w.heap.size (w.heap.size + 1) l.length (fun i => decide (n < (l.getD i (0, 0)).1)) w2 (by have := hg.len; omega)
    (fun h m hh => (beginsOf_any b w.heap.size (w.heap.size + 1) h n v l (w2.drewN m) s2 c1 c2 hh).mono fun e w' ⟨e1, m', e3⟩ => ⟨e1, m + m', by rw [e3, World.drewN_drewN]⟩) mono)
  have c3 := s2.cell
  obtain ⟨ao, cp, rfl, k1, k2, _⟩ := hs.2.view
  have XX := hid X2
  clear mono s2 hs X1 X2 c1 c2
  subst e2
  go_enter Try.func32, Try.ntmps32
  go_wp2_with fail
  refine C.out.mono ?_
  rintro e w3 ⟨k, rfl, h1, h2, h3, m, rfl⟩
  have R := hid (parted_of (P := fun p => n < p.1) h1 (fun i hi => by have := h2 i hi; simpa using this) (fun i h4 h5 => by have := h3 i h4 h5; simpa using this))
  clear C h2 h3
  go_wp2_with fail
  go_ret
  exact ⟨k, rfl, R.out, XX.out.drewN m⟩

end Go.Proofs.Ytbolhkafdgiggaa

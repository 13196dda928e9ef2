/-
  Walks of slices.IndexFunc with find's closure, of find, Get.
-/
import Derived.Test.YthokjkkhkcdceaaWhlMem
namespace Go.Proofs.Ythokjkkhkcdceaa
set_option linter.unusedVariables false
set_option maxRecDepth 100000
open Go.RowKit Go.Lib

theorem getD_mem {l : Sts} {k : Nat} (h : k < l.length) : l.getD k (0, 0) ∈ l := by
  rw [List.getD_eq_getElem?_getD, List.getElem?_eq_getElem h]
  exact List.getElem_mem h
theorem mem_getD {l : Sts} {p : Int × Int} (h : p ∈ l) : ∃ k, k < l.length ∧ l.getD k (0, 0) = p := by
  obtain ⟨k, hk, e⟩ := List.mem_iff_getElem.1 h
  exact ⟨k, hk, by rw [List.getD_eq_getElem?_getD, List.getElem?_eq_getElem hk]; exact e⟩

set_option maxHeartbeats 1000000 in
theorem index_any (id : Int) (g : Nat) (s : Value) (l : Sts) (w : World) (hs : OwnT w s l) (hc : w.cell? ⟨g, 0, none⟩ = some (.int .i64 id)) :
    Calls Try.prog 36 #[s, .func (.func 37) #[] #[.pointer (some ⟨g, 0, none⟩)]] w fun e w' =>
      ∃ r : Int, e = .returned (.int .i64 r) ∧ Ext w w' ∧ ((r = -1 ∧ ∀ p ∈ l, p.1 ≠ id) ∨ ∃ k : Nat, r = k ∧ k < l.length ∧ (l.getD k (0, 0)).1 = id) := by
  have hg := block_lt_of_cell hc
  obtain ⟨ao, cp, rfl, k1, k2, vw⟩ := hs.view
  have C : ∀ W a b, Ext w W → Calls Try.prog 37 #[.agg #[.int .i64 a, .int .i64 b], .pointer (some ⟨g, 0, none⟩)] W fun e w' => e = .returned (.bool (decide (a = id))) ∧ Ext w w' := fun W a b X =>
    (isid_any a b id g W (Nat.lt_of_lt_of_le hg X.size) (X.cell hc)).mono fun e w' ⟨h1, h2⟩ => ⟨h1, X.trans h2⟩
  have VW := hid vw
  have CC := hid C
  unfold maxLen at k2
  clear hs hc vw C hg
  obtain ⟨n, en⟩ : ∃ n, n = l.length := ⟨_, rfl⟩
  rw [← en] at k1 VW
  rw [← en]
  have EN := hid en
  clear en
  go_enter Try.func36, Try.ntmps36
  go_wp2
  go_loopw [5, 8] (fun _ i wr => ∃ k : Nat, k ≤ n ∧ i = .int .i64 (k : Int) ∧ Hid (Ext w wr) ∧ Hid (∀ j, j < k → (l.getD j (0, 0)).1 ≠ id)) (fun _ i _ => (n - intOf i).toNat)
  case atStart => exact ⟨0, by omega, rfl, Ext.refl w, fun j hj => by omega⟩
  case round =>
    obtain ⟨k, hk, rfl, X, A⟩ := hrel
    by_cases h : k < n
    · obtain ⟨gb, rfl, x1, x2⟩ := VW.out k h
      have y1 := X.out.cell x1
      have y2 := X.out.cell x2
      have D := hid (CC.out wr (l.getD k (0, 0)).1 (l.getD k (0, 0)).2 X.out)
      have AA : Hid ((l.getD k (0, 0)).1 ≠ id → ∀ j, j < k + 1 → (l.getD j (0, 0)).1 ≠ id) := fun h2 j hj => by
        rcases Nat.lt_or_eq_of_le (show j ≤ k by omega) with q | q
        · exact A.out j q
        · rw [q]; exact h2
      have BB : Hid ((l.getD k (0, 0)).1 = id → ∃ k' : Nat, (k : Int) = k' ∧ k' < n ∧ (l.getD k' (0, 0)).1 = id) := fun h2 => ⟨k, rfl, h, h2⟩
      have i1 : (k : Int) < (n : Int) := by omega
      have i2 : (0 : Int) ≤ (k : Int) := by omega
      clear x1 x2
      generalize (l.getD k (0, 0)).1 = a at *
      generalize (l.getD k (0, 0)).2 = b at *
      go_wp2_with fail
      refine D.out.mono ?_
      rintro e w1 ⟨rfl, x1⟩
      have X1 := hid x1
      clear x1 D y1 y2
      by_cases h2 : a = id
      · have BB2 := hid (BB.out h2)
        have e2 : decide (a = id) = true := by simp [h2]
        rw [e2]
        clear e2 h2
        go_wp2_with fail
        go_ret
        exact ⟨_, rfl, X1.out, .inr BB2.out⟩
      · have AA2 := hid (AA.out h2)
        have e2 : decide (a = id) = false := by simp [h2]
        rw [e2]
        clear e2
        go_wp2_with fail
        go_roundw
        case rel => exact ⟨k + 1, by omega, by go_num, X1, AA2⟩
        case measure => simp [intOf]; omega
    · obtain rfl : k = n := by omega
      have N : Hid (∀ p ∈ l, p.1 ≠ id) := fun p hp => by
        obtain ⟨j, hj, e⟩ := mem_getD hp
        rw [← e]
        exact A.out j (by rw [EN.out]; exact hj)
      go_wp2_with fail
      go_ret
      exact ⟨_, rfl, X.out, .inl ⟨rfl, N.out⟩⟩

/-- what find tells -/
def Found (l : Sts) (id : Int) (r : Value) : Prop := (r = .tuple #[.int .i64 0, .int .i64 0, .bool false] ∧ ∀ p ∈ l, p.1 ≠ id) ∨
  ∃ k j : Nat, r = .tuple #[.int .i64 (k : Int), .int .i64 (j : Int), .bool true] ∧ k < 64 ∧ j < (sp l k).length ∧ ((sp l k).getD j (0, 0)).1 = id

set_option maxHeartbeats 1000000 in
theorem find_any (b : Nat) (id t : Int) (v : Nat → Value) (l : Sts) (w : World) (hw : WhV w b t v l) :
    Calls Try.prog 24 #[.pointer (some ⟨b, 0, none⟩), .int .i64 id] w fun e w' => ∃ r, e = .returned r ∧ Found l id r ∧ Ext w w' := by
  have X1 := (Ext.refl w).alloc (.cells #[.int .i64 id] 3)
  have c0 : (w.alloc (.cells #[.int .i64 id] 3)).cell? ⟨w.heap.size, 0, none⟩ = some (.int .i64 id) := by rw [cell_of_row _ _ 0 _ _ _ (heap_alloc_new w _)]; rfl
  have I : ∀ W k, k < 64 → Ext (w.alloc (.cells #[.int .i64 id] 3)) W → Calls Try.prog 36 #[v k, .func (.func 37) #[] #[.pointer (some ⟨w.heap.size, 0, none⟩)]] W fun e w' =>
      ∃ r : Int, e = .returned (.int .i64 r) ∧ Ext W w' ∧ ((r = -1 ∧ ∀ p ∈ sp l k, p.1 ≠ id) ∨ ∃ j : Nat, r = j ∧ j < (sp l k).length ∧ ((sp l k).getD j (0, 0)).1 = id) := fun W k hk X =>
    index_any id w.heap.size (v k) (sp l k) W (((hw.own hk).ext X1).ext X) (X.cell c0)
  have HW := hid (hw.ext X1)
  have X11 := hid X1
  have II := hid I
  clear hw I c0
  go_enter Try.func24, Try.ntmps24
  go_wp2
  generalize w.alloc (.cells #[.int .i64 id] 3) = w1 at *
  go_loopw [7, 8, 9] (fun _ _ i wr => ∃ k : Nat, k ≤ 64 ∧ i = .int .i64 (k : Int) ∧ Hid (Ext w1 wr) ∧ Hid (∀ p ∈ l, p.2 % 64 < (k : Int) → p.1 ≠ id)) (fun _ _ i _ => (64 - intOf i).toNat)
  case atStart => exact ⟨0, by omega, rfl, Ext.refl w1, fun p hp h => by have := Int.emod_nonneg p.2 (show (64 : Int) ≠ 0 by decide); omega⟩
  case round =>
    obtain ⟨k, hk, rfl, X, A⟩ := hrel
    by_cases h : k < 64
    · have c := (HW.out.ext X.out).cell h
      have D := hid (II.out wr k h X.out)
      obtain ⟨ao, cp, e, k1, k2, _⟩ := (HW.out.own h).view
      rw [e] at c D
      have h2 : (k : Int) < 64 := by omega
      clear e
      go_wp2_with fail
      refine D.out.mono ?_
      rintro e w2 ⟨r, rfl, x2, hr⟩
      have X2 := hid (X.out.trans x2)
      clear x2 D c
      rcases hr with ⟨rfl, hr⟩ | ⟨j, rfl, hj, ej⟩
      · have A2 : Hid (∀ p ∈ l, p.2 % 64 < ((k + 1 : Nat) : Int) → p.1 ≠ id) := fun p hp hlt => by
          rcases Int.lt_or_eq_of_le (show p.2 % 64 ≤ (k : Int) by omega) with q | q
          · exact A.out p hp q
          · exact hr p (mem_sp.2 ⟨hp, q⟩)
        clear hr
        go_wp2_with fail
        go_roundw
        case rel => exact ⟨k + 1, by omega, by go_num, X2, A2⟩
        case measure => simp [intOf]; omega
      · have R : Hid (Found l id (.tuple #[.int .i64 (k : Int), .int .i64 (j : Int), .bool true])) := .inr ⟨k, j, rfl, h, hj, ej⟩
        have j0 : (0 : Int) ≤ (j : Int) := by omega
        clear hj ej
        go_wp2_with fail
        go_ret3
        exact ⟨_, rfl, R.out, X11.out.trans X2.out⟩
    · obtain rfl : k = 64 := by omega
      have R : Hid (Found l id (.tuple #[.int .i64 0, .int .i64 0, .bool false])) := .inl ⟨rfl, fun p hp => A.out p hp (by have := Int.emod_lt_of_pos p.2 (show (0 : Int) < 64 by decide); omega)⟩
      go_wp2_with fail
      go_ret3
      exact ⟨_, rfl, R.out, X11.out.trans X.out⟩

/-- what Get tells -/
def Got (l : Sts) (id : Int) (r : Value) : Prop := (r = .tuple #[.int .i64 0, .bool false] ∧ ∀ p ∈ l, p.1 ≠ id) ∨ ∃ p, p ∈ l ∧ p.1 = id ∧ r = .tuple #[.int .i64 p.2, .bool true]

set_option maxHeartbeats 1000000 in
theorem get_any (b : Nat) (id t : Int) (v : Nat → Value) (l : Sts) (w : World) (hw : WhV w b t v l) :
    Calls Try.prog 11 #[.pointer (some ⟨b, 0, none⟩), .int .i64 id] w fun e w' => ∃ r, e = .returned r ∧ Got l id r ∧ Ext w w' := by
  have F := hid (find_any b id t v l w hw)
  have HW := hid hw
  clear hw
  go_enter Try.func11, Try.ntmps11
  go_wp2_with fail
  refine F.out.mono ?_
  rintro e w1 ⟨r, rfl, hr, x1⟩
  have X1 := hid x1
  clear F
  rcases hr with ⟨rfl, hr⟩ | ⟨k, j, rfl, hk, hj, ej⟩
  · have R : Hid (Got l id (.tuple #[.int .i64 0, .bool false])) := .inl ⟨rfl, hr⟩
    clear hr x1
    go_wp2_with fail
    go_ret2
    exact ⟨_, rfl, R.out, X1.out⟩
  · have R : Hid (Got l id (.tuple #[.int .i64 ((sp l k).getD j (0, 0)).2, .bool true])) := .inr ⟨_, (mem_sp.1 (getD_mem hj)).1, ej, rfl⟩
    have c := (HW.out.ext x1).cell hk
    obtain ⟨ao, cp, e, k1, k2, vw⟩ := ((HW.out.ext x1).own hk).view
    rw [e] at c
    obtain ⟨gb, rfl, y1, y2⟩ := vw j hj
    clear vw e x1 y1 ej
    unfold maxLen at k2
    have i1 : (j : Int) < ((sp l k).length : Int) := by omega
    have i2 : (0 : Int) ≤ (j : Int) := by omega
    have i3 : (k : Int) < 64 := by omega
    have i4 : (0 : Int) ≤ (k : Int) := by omega
    generalize ((sp l k).getD j (0, 0)).2 = tk at *
    generalize (sp l k).length = n at *
    go_wp2_with fail
    go_ret2
    exact ⟨_, rfl, R.out, X1.out⟩
end Go.Proofs.Ythokjkkhkcdceaa

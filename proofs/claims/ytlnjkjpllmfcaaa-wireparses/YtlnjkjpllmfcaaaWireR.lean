/-
  A reader and the bytes that are left of it; walks of its methods.
-/
import Derived.Test.YtlnjkjpllmfcaaaWireList
namespace Go.Proofs.Ytlnjkjpllmfcaaa
set_option linter.unusedVariables false
set_option maxRecDepth 100000
open Go.RowKit Go.Lib

/-- a reader lies at block g; what is left of it are the bytes l in block b; the blocks of K are none of its own, and all there -/
def Rd (K : Nat → Prop) (w : World) (g b : Nat) (l : List UInt8) (s : Bool) : Prop :=
  ∃ ao c, w.heap[g]? = some (.cells #[.slice ao l.length c, .bool s] 84 (0, 0)) ∧ l.length ≤ c ∧ c ≤ maxLen ∧ (0 < l.length → ∃ o, ao = some ⟨b, o, none⟩ ∧ ∀ j, j < l.length → w.cell? ⟨b, o + j, none⟩ = some (.int .u8 ((l.getD j 0).toNat : Int))) ∧ K b ∧ ¬ K g ∧ ∀ i, K i → i < w.heap.size
theorem Rd.more {K L : Nat → Prop} {w : World} {g b : Nat} {l : List UInt8} {s : Bool} (h : Rd K w g b l s) (hL : ∀ i, K i → L i) (hg : ¬ L g) (hs : ∀ i, L i → i < w.heap.size) : Rd L w g b l s := by
  obtain ⟨ao, c, h1, h2, h3, h4, h5, h6, h7⟩ := h
  exact ⟨ao, c, h1, h2, h3, h4, hL b h5, hg, hs⟩
theorem Rd.less {K L : Nat → Prop} {w : World} {g b : Nat} {l : List UInt8} {s : Bool} (h : Rd K w g b l s) (hL : ∀ i, L i → K i) (hb : L b) : Rd L w g b l s := by
  obtain ⟨ao, c, h1, h2, h3, h4, h5, h6, h7⟩ := h
  exact ⟨ao, c, h1, h2, h3, h4, hb, fun hh => h6 (hL g hh), fun i hi => h7 i (hL i hi)⟩
/-- worlds that differ elsewhere -/
theorem Rd.other {K : Nat → Prop} {w w' : World} {g b : Nat} {l : List UInt8} {s : Bool} (h : Rd K w g b l s) (k : Kept K w w') (hg : w'.heap[g]? = w.heap[g]?) : Rd K w' g b l s := by
  obtain ⟨ao, c, h1, h2, h3, h4, h5, h6, h7⟩ := h
  refine ⟨ao, c, hg.trans h1, h2, h3, fun h0 => ?_, h5, h6, fun i hi => Nat.lt_of_lt_of_le (h7 i hi) k.size⟩
  obtain ⟨o, e, hc⟩ := h4 h0
  exact ⟨o, e, fun j hj => k.cell h5 (hc j hj)⟩
theorem Rd.lt {K : Nat → Prop} {w : World} {g b : Nat} {l : List UInt8} {s : Bool} (h : Rd K w g b l s) : g < w.heap.size := by
  obtain ⟨ao, c, h1, _⟩ := h
  exact lt_of_row h1
theorem Rd.parts {K : Nat → Prop} {w : World} {g b : Nat} {l : List UInt8} {s : Bool} (h : Rd K w g b l s) : K b ∧ ¬ K g ∧ ∀ i, K i → i < w.heap.size := by
  obtain ⟨ao, c, h1, h2, h3, h4, h5⟩ := h
  exact h5

/-- what taking n bytes tells, what is left, whether it fell short -/
def took (n : Nat) (x : List UInt8 × Bool) : Nat × List UInt8 × Bool := if x.1.length < n then (0, x.1, true) else (ofle (x.1.take n), x.1.drop n, x.2)

theorem ofle_snoc : ∀ (a : List UInt8) (x : UInt8), ofle (a ++ [x]) = ofle a + x.toNat * 256 ^ a.length
  | [], x => by simp [ofle]
  | b :: a, x => by
    have := ofle_snoc a x
    simp only [List.cons_append, ofle, this, List.length_cons, Nat.pow_succ]
    rw [Nat.mul_add, Nat.add_assoc, Nat.mul_comm (256 ^ a.length) 256, Nat.mul_left_comm]

theorem or_byte (a x k : Nat) (ha : a < 256 ^ k) (hx : x < 256) (hk : k < 8) : bits .or .u64 (a : Int) (IntKind.u64.wrap (IntKind.u64.wrap (x : Int) * 2 ^ (8 * k))) = ((a + x * 256 ^ k : Nat) : Int) := by
  have p8 : (256 : Nat) ^ k * 256 ≤ 256 ^ 7 * 256 := Nat.mul_le_mul_right _ (Nat.pow_le_pow_right (by decide) (by omega))
  have hp : x * 256 ^ k + 256 ^ k ≤ 256 ^ k * 256 := by
    rw [Nat.mul_comm (256 ^ k) 256, ← Nat.succ_mul]
    exact Nat.mul_le_mul_right _ hx
  have e1 : IntKind.u64.wrap (x : Int) = x := by show (x : Int) % 18446744073709551616 = _; omega
  have e2 : (x : Int) * 2 ^ (8 * k) = ((x * 256 ^ k : Nat) : Int) := by
    rw [show (256 : Nat) ^ k = 2 ^ (8 * k) by rw [Nat.pow_mul]]
    simp
  have b1 : x * 256 ^ k < 18446744073709551616 := by omega
  have e3 : IntKind.u64.wrap ((x * 256 ^ k : Nat) : Int) = ((x * 256 ^ k : Nat) : Int) := by show ((x * 256 ^ k : Nat) : Int) % 18446744073709551616 = _; omega
  rw [e1, e2, e3, bits_or_u64_nat _ _ (by omega) b1]
  congr 1
  have h2 : (256 : Nat) ^ k = 2 ^ (8 * k) := by rw [Nat.pow_mul]
  rw [h2] at ha ⊢
  rw [Nat.or_comm, Nat.mul_comm x, ← Nat.two_pow_add_eq_or_of_lt ha, Nat.add_comm]

theorem Rd.set {K : Nat → Prop} {w : World} {g b : Nat} {l : List UInt8} {s : Bool} (h : Rd K w g b l s) (ao : Option Addr) (c n : Nat) (hn : n ≤ l.length) (hc : (l.drop n).length ≤ c) (hm : c ≤ maxLen)
    (ha : 0 < (l.drop n).length → ∃ o, ao = some ⟨b, o, none⟩ ∧ ∀ j, j < (l.drop n).length → w.cell? ⟨b, o + j, none⟩ = some (.int .u8 (((l.drop n).getD j 0).toNat : Int))) :
    Rd K (w.setCell ⟨g, 0, none⟩ (.slice ao (l.length - n) c)) g b (l.drop n) s ∧ Kept K w (w.setCell ⟨g, 0, none⟩ (.slice ao (l.length - n) c)) := by
  obtain ⟨ao', c', h1, h2, h3, h4, h5, h6, h7⟩ := h
  have k := (Kept.refl K w).setCell (p := ⟨g, 0, none⟩) h6 (.slice ao (l.length - n) c)
  refine ⟨⟨ao, c, ?_, hc, hm, fun h0 => ?_, h5, h6, fun i hi => by have := h7 i hi; simp; omega⟩, k⟩
  · rw [setCell_eq_setRow _ _ _ _ _ _ _ h1, List.length_drop]
    exact setRow_heap _ _ _ _ _ _ h1
  · obtain ⟨o, e, hcell⟩ := ha h0
    exact ⟨o, e, fun j hj => k.cell h5 (hcell j hj)⟩

set_option maxHeartbeats 2000000 in
theorem take_ok (K : Nat → Prop) (w : World) (g b : Nat) (l : List UInt8) (s : Bool) (n : Nat) (h : Rd K w g b l s) (h0 : 0 < n) (h8 : n ≤ 8) (hn : n ≤ l.length) :
    Calls Try.prog 93 #[.pointer (some ⟨g, 0, none⟩), .int .i64 n] w fun e w' => e = .returned (.int .u64 (ofle (l.take n) : Int)) ∧ Rd K w' g b (l.drop n) s ∧ Kept K w w' := by
  have H := hid h
  obtain ⟨ao, c, hg, e2, e3, e4, hb, hk, hs⟩ := h
  obtain ⟨o, rfl, cb⟩ := e4 (by omega)
  have c1 : w.cell? ⟨g, 0, none⟩ = some (.slice (some ⟨b, o, none⟩) l.length c) := by rw [cell_of_row w g 0 _ _ _ hg]; rfl
  have f1 : w.frozen? ⟨g, 0, none⟩ = false := frozen_of_row _ _ _ _ _ hg
  have HB := hid hb
  have CB := hid cb
  have E3 := hid e3
  have dl : (l.drop n).length = l.length - n := List.length_drop ..
  have FIN : Hid (∀ ao' c', l.length - n ≤ c' → c' ≤ maxLen → (c' ≠ 0 → ao' = some ⟨b, o + n, none⟩) → Rd K (w.setCell ⟨g, 0, none⟩ (.slice ao' (l.length - n) c')) g b (l.drop n) s ∧ Kept K w (w.setCell ⟨g, 0, none⟩ (.slice ao' (l.length - n) c'))) := by
    intro ao' c' g1 g2 g3
    refine H.out.set ao' c' n hn (by omega) g2 (fun hl => ⟨o + n, g3 (by omega), fun j hj => ?_⟩)
    have := CB.out (n + j) (by omega)
    rw [Nat.add_assoc, this, List.getD_eq_getElem?_getD, List.getD_eq_getElem?_getD, List.getElem?_drop]
  unfold maxLen at e3
  have i1 : ¬ ((l.length : Int) < (n : Int)) := by omega
  have i2 : (0 : Int) ≤ (n : Int) := by omega
  have i3 : (n : Int) ≤ (c : Int) := by omega
  have i4 : (n : Int) ≤ (l.length : Int) := by omega
  clear hg e4 hk hs cb hb
  by_cases hcn : c = n
  · go_enter Try.func93, Try.ntmps93
    go_wp2_with fail
    go_loop [5, 25] (fun x i => ∃ k : Nat, k ≤ n ∧ i = .int .i64 k ∧ x = .int .u64 (ofle (l.take k) : Int)) (fun _ i => (n - intOf i).toNat)
    case atStart => exact ⟨0, by omega, rfl, rfl⟩
    case round =>
      obtain ⟨k, hk, rfl, rfl⟩ := hrel
      by_cases t : k < n
      · have x1 := CB.out k (by omega)
        have t1 : (k : Int) < (n : Int) := by omega
        have t2 : (0 : Int) ≤ (k : Int) := by omega
        have OB := hid (or_byte (ofle (l.take k)) (l.getD k 0).toNat k (ofle_take k l (by omega)) (byte_room _) (by omega))
        have SN : Hid (ofle (l.take (k + 1)) = ofle (l.take k) + (l.getD k 0).toNat * 256 ^ k) := by
          show _ = _
          rw [take_snoc l k (by omega), ofle_snoc, List.length_take, Nat.min_eq_left (by omega)]
        generalize (l.getD k 0).toNat = x at *
        go_wp2_with fail
        exact ⟨⟨k + 1, by omega, by go_num, by rw [OB.out, SN.out]⟩, by simp [intOf]; omega⟩
      · obtain rfl : k = n := by omega
        subst hcn
        go_wp2_with fail
        go_ret
        have := FIN.out (some ⟨b, o, none⟩) 0 (by omega) (Nat.zero_le _) (fun hh => absurd rfl hh)
        rw [show l.length - c = 0 by omega] at this
        exact ⟨rfl, this.1, this.2⟩
  · have i5 : ¬ c = n := hcn
    go_enter Try.func93, Try.ntmps93
    go_wp2_with fail
    go_loop [5, 25] (fun x i => ∃ k : Nat, k ≤ n ∧ i = .int .i64 k ∧ x = .int .u64 (ofle (l.take k) : Int)) (fun _ i => (n - intOf i).toNat)
    case atStart => exact ⟨0, by omega, rfl, rfl⟩
    case round =>
      obtain ⟨k, hk, rfl, rfl⟩ := hrel
      by_cases t : k < n
      · have x1 := CB.out k (by omega)
        have t1 : (k : Int) < (n : Int) := by omega
        have t2 : (0 : Int) ≤ (k : Int) := by omega
        have OB := hid (or_byte (ofle (l.take k)) (l.getD k 0).toNat k (ofle_take k l (by omega)) (byte_room _) (by omega))
        have SN : Hid (ofle (l.take (k + 1)) = ofle (l.take k) + (l.getD k 0).toNat * 256 ^ k) := by
          show _ = _
          rw [take_snoc l k (by omega), ofle_snoc, List.length_take, Nat.min_eq_left (by omega)]
        generalize (l.getD k 0).toNat = x at *
        go_wp2_with fail
        exact ⟨⟨k + 1, by omega, by go_num, by rw [OB.out, SN.out]⟩, by simp [intOf]; omega⟩
      · obtain rfl : k = n := by omega
        go_wp2_with fail
        go_ret
        have := FIN.out (some ⟨b, o + k, none⟩) (c - k) (by omega) (by have := E3.out; omega) (fun _ => rfl)
        exact ⟨rfl, this.1, this.2⟩

set_option maxHeartbeats 1000000 in
theorem take_short (K : Nat → Prop) (w : World) (g b : Nat) (l : List UInt8) (s : Bool) (n : Nat) (h : Rd K w g b l s) (h8 : n ≤ 8) (hn : l.length < n) :
    Calls Try.prog 93 #[.pointer (some ⟨g, 0, none⟩), .int .i64 n] w fun e w' => e = .returned (.int .u64 0) ∧ Rd K w' g b l true ∧ Kept K w w' := by
  obtain ⟨ao, c, hg, e2, e3, e4, hb, hk, hs⟩ := h
  have c1 : w.cell? ⟨g, 0, none⟩ = some (.slice ao l.length c) := by rw [cell_of_row w g 0 _ _ _ hg]; rfl
  have c2 : w.cell? ⟨g, 1, none⟩ = some (.bool s) := by rw [cell_of_row w g 1 _ _ _ hg]; rfl
  have f1 : w.frozen? ⟨g, 1, none⟩ = false := frozen_of_row _ _ _ _ _ hg
  have k := (Kept.refl K w).setCell (p := ⟨g, 1, none⟩) hk (.bool true)
  have R : Hid (Rd K (w.setCell ⟨g, 1, none⟩ (.bool true)) g b l true ∧ Kept K w (w.setCell ⟨g, 1, none⟩ (.bool true))) := by
    refine ⟨⟨ao, c, ?_, e2, e3, fun h0 => ?_, hb, hk, fun i hi => by have := hs i hi; simp; omega⟩, k⟩
    · rw [setCell_eq_setRow _ _ _ _ _ _ _ hg]
      exact setRow_heap _ _ _ _ _ _ hg
    · obtain ⟨o, e, hcell⟩ := e4 h0
      exact ⟨o, e, fun j hj => k.cell hb (hcell j hj)⟩
  unfold maxLen at e3
  have i1 : (l.length : Int) < (n : Int) := by omega
  clear hg e4 hk hs hb k
  go_enter Try.func93, Try.ntmps93
  go_wp2_with fail
  go_ret
  exact ⟨rfl, R.1, R.2⟩

theorem take_any (K : Nat → Prop) (w : World) (g b : Nat) (l : List UInt8) (s : Bool) (n : Nat) (h : Rd K w g b l s) (h0 : 0 < n) (h8 : n ≤ 8) :
    Calls Try.prog 93 #[.pointer (some ⟨g, 0, none⟩), .int .i64 n] w fun e w' => e = .returned (.int .u64 ((took n (l, s)).1 : Int)) ∧ Rd K w' g b (took n (l, s)).2.1 (took n (l, s)).2.2 ∧ Kept K w w' := by
  unfold took
  by_cases t : l.length < n
  · rw [if_pos t]; exact take_short K w g b l s n h h8 t
  · rw [if_neg t]; exact take_ok K w g b l s n h h0 h8 (by omega)

theorem took_lt (n : Nat) (x : List UInt8 × Bool) : (took n x).1 < 256 ^ n := by
  unfold took
  split
  · exact Nat.pow_pos (by decide)
  · exact ofle_take n x.1 (by omega)
end Go.Proofs.Ytlnjkjpllmfcaaa

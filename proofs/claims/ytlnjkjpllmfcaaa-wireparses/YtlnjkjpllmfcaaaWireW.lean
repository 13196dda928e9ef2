/-
  Walks of the writer's methods and of the lists that it puts.
-/
import Derived.Test.YtlnjkjpllmfcaaaWireMem
namespace Go.Proofs.Ytlnjkjpllmfcaaa
set_option linter.unusedVariables false
set_option maxRecDepth 100000
open Go.RowKit Go.Lib

theorem le_snoc (k : Nat) : ∀ x, le (k + 1) x = le k x ++ [UInt8.ofNat (x / 256 ^ k)] := by
  induction k with
  | zero => intro x; simp [le]
  | succ k ih =>
    intro x
    have h := ih (x / 256)
    have e : x / 256 / 256 ^ k = x / 256 ^ (k + 1) := by rw [Nat.div_div_eq_div_mul, Nat.pow_succ, Nat.mul_comm]
    conv => lhs; unfold le
    rw [h, e]
    rfl

theorem byte_nat (x k : Nat) : (x : Int) / 2 ^ (8 * k) % 256 = ((UInt8.ofNat (x / 256 ^ k)).toNat : Int) := by
  rw [shr_byte, UInt8.toNat_ofNat']

set_option maxHeartbeats 1000000 in
theorem lay_any (K : Nat → Prop) (w : World) (g : Nat) (l : List UInt8) (x n : Nat) (h : Wr K w g l) (hx : x < 18446744073709551616) (hn : n ≤ 8) (hl : l.length ≤ 90000) :
    Calls Try.prog 101 #[.pointer (some ⟨g, 0, none⟩), .int .u64 x, .int .i64 n] w fun e w' => e = .returned (.tuple #[]) ∧ Wr K w' g (l ++ le n x) ∧ Kept K w w' := by
  go_enter Try.func101, Try.ntmps101
  go_wp2_with fail
  go_loopw [8] (fun i wr => ∃ k : Nat, k ≤ n ∧ i = .int .i64 k ∧ Wr K wr g (l ++ le k x) ∧ Kept K w wr) (fun i _ => (n - intOf i).toNat)
  case atStart => exact ⟨0, by omega, rfl, by rw [show le 0 x = [] from rfl, List.append_nil]; exact h, Kept.refl _ _⟩
  case round =>
    obtain ⟨k, hk, rfl, hw, hkept⟩ := hrel
    by_cases t : k < n
    · have C := hid (octet_any K wr g (l ++ le k x) (UInt8.ofNat (x / 256 ^ k)) _ (byte_nat x k) hw (by rw [List.length_append, le_length]; omega))
      rw [List.append_assoc, ← le_snoc] at C
      have HK := hid hkept
      clear hw hkept h
      have t1 : (k : Int) < (n : Int) := by omega
      have t2 : (0 : Int) ≤ (k : Int) := by omega
      go_wp2_with fail
      refine C.out.mono ?_
      rintro e w2 ⟨rfl, h2, k2⟩
      have R := hid (And.intro h2 (HK.out.trans k2))
      clear h2 k2 C
      go_wp2_with fail
      go_roundw
      case rel => exact ⟨k + 1, by omega, by go_num, R.1, R.2⟩
      case measure => simp [intOf]; omega
    · obtain rfl : k = n := by omega
      have R := hid (And.intro hw hkept)
      clear hw hkept h
      go_wp2_with fail
      go_end0
      exact ⟨rfl, R.1, R.2⟩

set_option maxHeartbeats 400000 in
theorem seq_any (K : Nat → Prop) (w : World) (g : Nat) (l : List UInt8) (x : Int) (h : Wr K w g l) (h0 : 0 ≤ x) (hx : x < 4294967296) (hl : l.length ≤ 90000) :
    Calls Try.prog 54 #[.pointer (some ⟨g, 0, none⟩), .int .u32 x] w fun e w' => e = .returned (.tuple #[]) ∧ Wr K w' g (l ++ le 4 x.toNat) ∧ Kept K w w' := by
  obtain ⟨n, rfl⟩ := Int.eq_ofNat_of_zero_le h0
  have C := hid (lay_any K w g l n 4 h (by omega) (by omega) hl)
  clear h
  go_enter Try.func54, Try.ntmps54
  go_wp2_with fail
  refine C.out.mono ?_
  rintro e w2 ⟨rfl, h2, k2⟩
  have R := hid (And.intro h2 k2)
  clear h2 k2 C
  go_wp2_with fail
  go_end0
  exact ⟨rfl, R.1, R.2⟩

set_option maxHeartbeats 400000 in
theorem rate_any (K : Nat → Prop) (w : World) (g : Nat) (l : List UInt8) (n : Nat) (h : Wr K w g l) (hx : n < 18446744073709551616) (hl : l.length ≤ 90000) :
    Calls Try.prog 69 #[.pointer (some ⟨g, 0, none⟩), .int .u64 n] w fun e w' => e = .returned (.tuple #[]) ∧ Wr K w' g (l ++ le 8 n) ∧ Kept K w w' := by
  have C := hid (lay_any K w g l n 8 h (by omega) (by omega) hl)
  clear h
  go_enter Try.func69, Try.ntmps69
  go_wp2_with fail
  refine C.out.mono ?_
  rintro e w2 ⟨rfl, h2, k2⟩
  have R := hid (And.intro h2 k2)
  clear h2 k2 C
  go_wp2_with fail
  go_end0
  exact ⟨rfl, R.1, R.2⟩

theorem u64_val (x : Int) : IntKind.u64.wrap x = (u64 x : Int) := by
  show x % 18446744073709551616 = _
  unfold u64; omega

set_option maxHeartbeats 400000 in
theorem number_any (K : Nat → Prop) (w : World) (g : Nat) (l : List UInt8) (x : Int) (h : Wr K w g l) (hl : l.length ≤ 90000) :
    Calls Try.prog 96 #[.pointer (some ⟨g, 0, none⟩), .int .i64 x] w fun e w' => e = .returned (.tuple #[]) ∧ Wr K w' g (l ++ le 8 (u64 x)) ∧ Kept K w w' := by
  have C := hid (lay_any K w g l (u64 x) 8 h (u64_lt x) (by omega) hl)
  have U := u64_val x
  obtain ⟨u, hu⟩ : ∃ u, u = u64 x := ⟨_, rfl⟩
  rw [← hu] at U C ⊢
  have HU := hid hu
  clear h hu
  go_enter Try.func96, Try.ntmps96
  go_wp2_with fail
  refine C.out.mono ?_
  rintro e w2 ⟨rfl, h2, k2⟩
  have R := hid (And.intro h2 k2)
  clear h2 k2 C
  go_wp2_with fail
  go_end0
  exact ⟨rfl, R.1, R.2⟩

theorem Wr.ext {K : Nat → Prop} {w w' : World} {g : Nat} {l : List UInt8} (h : Wr K w g l) (e : Ext w w') : Wr K w' g l := by
  obtain ⟨v, hg, ho, hk, hb, hs⟩ := h
  refine ⟨v, e.row hg, ⟨ho.1, ?_⟩, hk, hb, fun i hi => Nat.lt_of_lt_of_le (hs i hi) e.size⟩
  rcases ho.2 with h0 | ⟨b, cap, cur, ev, hb0, hgb, r⟩
  · exact .inl h0
  · exact .inr ⟨b, cap, cur, ev, hb0, e.row hgb, r⟩

theorem Wr.box {K : Nat → Prop} {w w1 : World} {g : Nat} {l : List UInt8} (h : Wr K w g l) (e : Ext w w1) (b : Nat) (hb : w.heap.size ≤ b) (hb1 : b < w1.heap.size) : Wr (fun i => K i ∨ i = b) w1 g l := by
  obtain ⟨v, hg, ho, hk, hbk, hs⟩ := h
  have gl := lt_of_row hg
  refine ⟨v, e.row hg, ⟨ho.1, ?_⟩, fun h1 => h1.elim hk (by omega), fun k hv => ⟨fun h1 => h1.elim (hbk k hv).1 (by have := (ho.lt k hv).2; omega), (hbk k hv).2⟩, fun i hi => ?_⟩
  · rcases ho.2 with h0 | ⟨b', cap, cur, ev, hb0, hgb, r⟩
    · exact .inl h0
    · exact .inr ⟨b', cap, cur, ev, hb0, e.row hgb, r⟩
  · have := e.size
    rcases hi with hi | hi
    · have := hs i hi; omega
    · omega
theorem Wr.less {K L : Nat → Prop} {w : World} {g : Nat} {l : List UInt8} (h : Wr K w g l) (hL : ∀ i, L i → K i) : Wr L w g l := by
  obtain ⟨v, hg, ho, hk, hbk, hs⟩ := h
  exact ⟨v, hg, ho, fun h1 => hk (hL _ h1), fun k hv => ⟨fun h1 => (hbk k hv).1 (hL _ h1), (hbk k hv).2⟩, fun i hi => hs i (hL i hi)⟩

set_option maxHeartbeats 1000000 in
theorem pair_any (K : Nat → Prop) (w : World) (g : Nat) (l : List UInt8) (x y : Int) (h : Wr K w g l) (hl : l.length ≤ 80000) :
    Calls Try.prog 86 #[.pointer (some ⟨g, 0, none⟩), .agg #[.int .i64 x, .int .i64 y]] w fun e w' => e = .returned (.tuple #[]) ∧ Wr K w' g (l ++ (le 8 (u64 x) ++ le 8 (u64 y))) ∧ Kept K w w' := by
  obtain ⟨w1, e1⟩ : ∃ w1, w1 = w.alloc (.cells #[.int .i64 x, .int .i64 y] 53) := ⟨_, rfl⟩
  have X1 : Ext w w1 := by rw [e1]; exact (Ext.refl w).alloc _
  have hb : w1.heap[w.heap.size]? = some (.cells #[.int .i64 x, .int .i64 y] 53 (0, 0)) := by rw [e1]; exact heap_alloc_new w _
  have E1 := hid e1
  have W1 := h.box X1 w.heap.size (Nat.le_refl _) (lt_of_row hb)
  have C := hid (number_any _ w1 g l x W1 (by omega))
  have HB := hid hb
  have XX := hid X1
  have n0 : w1.cell? ⟨w.heap.size, 0, none⟩ = some (.int .i64 x) := by rw [cell_of_row _ _ _ _ _ _ hb]; rfl
  clear h W1 hb X1 e1
  go_enter Try.func86, Try.ntmps86
  go_wp2_with fail
  rw [← E1.out]
  go_wp2_with fail
  refine C.out.mono ?_
  rintro e w2 ⟨rfl, h2, k2⟩
  have C2 := hid (number_any _ w2 g _ y h2 (by rw [List.length_append, le_length]; omega))
  have n1 : w2.cell? ⟨w.heap.size, 1, none⟩ = some (.int .i64 y) := by rw [cell_of_row _ _ _ _ _ _ (k2.row (.inr rfl) HB.out)]; rfl
  have K2 := hid k2
  clear h2 k2 C n0
  go_wp2_with fail
  refine C2.out.mono ?_
  rintro e w3 ⟨rfl, h3, k3⟩
  rw [List.append_assoc] at h3
  have R := hid (And.intro (h3.less (L := K) (fun i hi => .inl hi)) ((Kept.of_ext XX.out).trans ((K2.out.trans k3).mono (fun i hi => .inl hi))))
  clear h3 k3 C2
  go_wp2_with fail
  go_end0
  exact ⟨rfl, R.1, R.2⟩
end Go.Proofs.Ytlnjkjpllmfcaaa

/-
  Lists in memory that stay as they are; walks of putList at bytes, rates and ranges.
-/
import Derived.Test.YtlnjkjpllmfcaaaWireW
namespace Go.Proofs.Ytlnjkjpllmfcaaa
set_option linter.unusedVariables false
set_option maxRecDepth 100000
open Go.RowKit Go.Lib

/-- v is a slice of elements of sz cells each, their cells are cs, and lie in a block of K -/
def RowK (K : Nat → Prop) (w : World) (v : Value) (sz : Nat) (cs : List Value) : Prop :=
  ∃ ao n c, v = .slice ao n c ∧ cs.length = n * sz ∧ n ≤ c ∧ c ≤ maxLen ∧ (0 < n → ∃ g o, ao = some ⟨g, o, none⟩ ∧ K g ∧ ∀ j u, cs[j]? = some u → w.cell? ⟨g, o + j, none⟩ = some u)
theorem RowK.kept {K : Nat → Prop} {w w' : World} {v : Value} {sz : Nat} {cs : List Value} (h : RowK K w v sz cs) (k : Kept K w w') : RowK K w' v sz cs := by
  obtain ⟨ao, n, c, e, h1, h2, h3, h4⟩ := h
  refine ⟨ao, n, c, e, h1, h2, h3, fun h0 => ?_⟩
  obtain ⟨g, o, ea, hg, hc⟩ := h4 h0
  exact ⟨g, o, ea, hg, fun j u hu => k.cell hg (hc j u hu)⟩
theorem RowK.mono {K L : Nat → Prop} {w : World} {v : Value} {sz : Nat} {cs : List Value} (h : RowK K w v sz cs) (hz : 0 < sz) (hL : ∀ i, i < w.heap.size → K i → L i) : RowK L w v sz cs := by
  obtain ⟨ao, n, c, e, h1, h2, h3, h4⟩ := h
  refine ⟨ao, n, c, e, h1, h2, h3, fun h0 => ?_⟩
  obtain ⟨g, o, ea, hg, hc⟩ := h4 h0
  have hl : 0 < cs.length := by rw [h1]; exact Nat.mul_pos h0 hz
  exact ⟨g, o, ea, hL g (block_lt_of_cell (hc 0 _ (List.getElem?_eq_getElem hl))) hg, hc⟩
theorem RowK.nil (K : Nat → Prop) (w : World) (sz : Nat) : RowK K w (.slice none 0 0) sz [] := ⟨none, 0, 0, rfl, by simp, Nat.le_refl _, Nat.zero_le _, fun h => absurd h (by decide)⟩

/-- rates, ranges as they lie in cells -/
def aval (x : UInt64) : Value := .int .u64 (x.toNat : Int)
def acells (l : List UInt64) : List Value := l.map aval
def gcells (l : List (Int × Int)) : List Value := l.flatMap fun g => [.int .i64 g.1, .int .i64 g.2]
theorem acells_length (l : List UInt64) : (acells l).length = l.length := List.length_map _
theorem gcells_length (l : List (Int × Int)) : (gcells l).length = l.length * 2 := by
  induction l with
  | nil => rfl
  | cons g l ih => simp only [gcells, List.flatMap_cons, List.length_append, List.length_cons, List.length_nil] at ih ⊢; omega
theorem acells_at (l : List UInt64) (k : Nat) (h : k < l.length) : (acells l)[k]? = some (.int .u64 ((l.getD k 0).toNat : Int)) := by
  unfold acells
  rw [List.getElem?_map, List.getD_eq_getElem?_getD, List.getElem?_eq_getElem h]
  rfl
theorem gcells_at (l : List (Int × Int)) : ∀ k, k < l.length → (gcells l)[k * 2]? = some (.int .i64 (l.getD k (0, 0)).1) ∧ (gcells l)[k * 2 + 1]? = some (.int .i64 (l.getD k (0, 0)).2) := by
  induction l with
  | nil => intro k h; simp at h
  | cons g l ih =>
    intro k h
    cases k with
    | zero => simp [gcells]
    | succ k =>
      have := ih k (by simpa using h)
      have e1 : (k + 1) * 2 = k * 2 + 1 + 1 := by omega
      rw [e1]
      simpa [gcells] using this
theorem take_snocA (l : List UInt64) (k : Nat) (h : k < l.length) : l.take (k + 1) = l.take k ++ [l.getD k 0] := by
  rw [List.take_succ_eq_append_getElem h, List.getD_eq_getElem?_getD, List.getElem?_eq_getElem h]
  rfl
theorem take_snocG (l : List (Int × Int)) (k : Nat) (h : k < l.length) : l.take (k + 1) = l.take k ++ [l.getD k (0, 0)] := by
  rw [List.take_succ_eq_append_getElem h, List.getD_eq_getElem?_getD, List.getElem?_eq_getElem h]
  rfl
theorem encA_snoc (l : List UInt64) (x : UInt64) : encA (l ++ [x]) = encA l ++ le 8 x.toNat := by simp [encA]
theorem encG_snoc (l : List (Int × Int)) (x : Int × Int) : encG (l ++ [x]) = encG l ++ (le 8 (u64 x.1) ++ le 8 (u64 x.2)) := by simp [encG]

theorem len_byte (n : Nat) : (n : Int) % 256 = ((UInt8.ofNat n).toNat : Int) := by rw [UInt8.toNat_ofNat']; simp

set_option maxHeartbeats 1000000 in
theorem putD_any (K : Nat → Prop) (w : World) (g : Nat) (l ds : List UInt8) (v : Value) (h : Wr K w g l) (hv : RowK K w v 1 (bcells ds)) (hl : l.length ≤ 1000) (hd : ds.length ≤ 1000) :
    Calls Try.prog 62 #[.pointer (some ⟨g, 0, none⟩), v, .func (.func 24) #[.pointer (some ⟨g, 0, none⟩)] #[]] w fun e w' => e = .returned (.tuple #[]) ∧ Wr K w' g (l ++ UInt8.ofNat ds.length :: ds) ∧ Kept K w w' := by
  have C := hid (octet_any K w g l (UInt8.ofNat ds.length) _ (len_byte ds.length) h (by omega))
  have HV := hid hv
  obtain ⟨ao, n, c, rfl, h1, h2, h3, h4⟩ := hv
  have e : n = ds.length := by rw [bcells_length] at h1; omega
  subst e
  unfold maxLen at h3
  have H4 := hid h4
  clear h h1 h4
  go_enter Try.func62, Try.ntmps62
  go_wp2_with fail
  refine C.out.mono ?_
  rintro e w1 ⟨rfl, W1, K1⟩
  clear C
  have KK := hid K1
  have WW := hid W1
  clear W1 K1
  go_wp2_with fail
  go_loopw [15] (fun i wr => ∃ k : Nat, k ≤ ds.length ∧ i = .int .i64 k ∧ Wr K wr g (l ++ UInt8.ofNat ds.length :: ds.take k) ∧ Kept K w wr) (fun i _ => (ds.length - intOf i).toNat)
  case atStart => exact ⟨0, by omega, rfl, WW.out, KK.out⟩
  case round =>
    obtain ⟨k, hk, rfl, hw, hkept⟩ := hrel
    clear WW KK
    by_cases t : k < ds.length
    · obtain ⟨b, o, rfl, hb, hc⟩ := H4.out (by omega)
      have x1 := hkept.cell (a := ⟨b, o + k, none⟩) hb (hc k _ (bcells_at ds k t))
      have C := hid (octet_any K wr g _ (ds.getD k 0) _ rfl hw (by simp; omega))
      rw [List.append_assoc, List.cons_append, ← take_snoc ds k t] at C
      have HK := hid hkept
      clear hw hkept hc
      generalize ds.getD k 0 = x at *
      have t1 : (k : Int) < (ds.length : Int) := by omega
      have t2 : (0 : Int) ≤ (k : Int) := by omega
      go_wp2_with fail
      refine C.out.mono ?_
      rintro e w2 ⟨rfl, h2, k2⟩
      have R := hid (And.intro h2 (HK.out.trans k2))
      clear h2 k2 C
      go_wp2_with fail
      go_roundw
      case rel => exact ⟨k + 1, by omega, by go_num, R.1, R.2⟩
      case measure => simp [intOf]; omega
    · obtain rfl : k = ds.length := by omega
      rw [List.take_length] at hw
      have R := hid (And.intro hw hkept)
      clear hw hkept
      go_wp2_with fail
      go_end0
      exact ⟨rfl, R.1, R.2⟩

set_option maxHeartbeats 1000000 in
theorem putA_any (K : Nat → Prop) (w : World) (g : Nat) (l : List UInt8) (rs : List UInt64) (v : Value) (h : Wr K w g l) (hv : RowK K w v 1 (acells rs)) (hl : l.length ≤ 1000) (hd : rs.length ≤ 1000) :
    Calls Try.prog 75 #[.pointer (some ⟨g, 0, none⟩), v, .func (.func 69) #[.pointer (some ⟨g, 0, none⟩)] #[]] w fun e w' => e = .returned (.tuple #[]) ∧ Wr K w' g (l ++ UInt8.ofNat rs.length :: encA rs) ∧ Kept K w w' := by
  have C := hid (octet_any K w g l (UInt8.ofNat rs.length) _ (len_byte rs.length) h (by omega))
  have HV := hid hv
  obtain ⟨ao, n, c, rfl, h1, h2, h3, h4⟩ := hv
  have e : n = rs.length := by rw [acells_length] at h1; omega
  subst e
  unfold maxLen at h3
  have H4 := hid h4
  clear h h1 h4
  go_enter Try.func75, Try.ntmps75
  go_wp2_with fail
  refine C.out.mono ?_
  rintro e w1 ⟨rfl, W1, K1⟩
  clear C
  have KK := hid K1
  have WW := hid W1
  clear W1 K1
  go_wp2_with fail
  go_loopw [15] (fun i wr => ∃ k : Nat, k ≤ rs.length ∧ i = .int .i64 k ∧ Wr K wr g (l ++ UInt8.ofNat rs.length :: encA (rs.take k)) ∧ Kept K w wr) (fun i _ => (rs.length - intOf i).toNat)
  case atStart => exact ⟨0, by omega, rfl, WW.out, KK.out⟩
  case round =>
    obtain ⟨k, hk, rfl, hw, hkept⟩ := hrel
    clear WW KK
    by_cases t : k < rs.length
    · obtain ⟨b, o, rfl, hb, hc⟩ := H4.out (by omega)
      have x1 := hkept.cell (a := ⟨b, o + k, none⟩) hb (hc k _ (acells_at rs k t))
      have C := hid (rate_any K wr g _ (rs.getD k 0).toNat hw (rs.getD k 0).toNat_lt (by simp [encA_length]; omega))
      rw [List.append_assoc, List.cons_append, ← encA_snoc, ← take_snocA rs k t] at C
      have HK := hid hkept
      clear hw hkept hc
      generalize (rs.getD k 0).toNat = x at *
      have t1 : (k : Int) < (rs.length : Int) := by omega
      have t2 : (0 : Int) ≤ (k : Int) := by omega
      go_wp2_with fail
      refine C.out.mono ?_
      rintro e w2 ⟨rfl, h2, k2⟩
      have R := hid (And.intro h2 (HK.out.trans k2))
      clear h2 k2 C
      go_wp2_with fail
      go_roundw
      case rel => exact ⟨k + 1, by omega, by go_num, R.1, R.2⟩
      case measure => simp [intOf]; omega
    · obtain rfl : k = rs.length := by omega
      rw [List.take_length] at hw
      have R := hid (And.intro hw hkept)
      clear hw hkept
      go_wp2_with fail
      go_end0
      exact ⟨rfl, R.1, R.2⟩

set_option maxHeartbeats 1000000 in
theorem putG_any (K : Nat → Prop) (w : World) (g : Nat) (l : List UInt8) (gs : List (Int × Int)) (v : Value) (h : Wr K w g l) (hv : RowK K w v 2 (gcells gs)) (hl : l.length ≤ 1000) (hd : gs.length ≤ 1000) :
    Calls Try.prog 85 #[.pointer (some ⟨g, 0, none⟩), v, .func (.func 86) #[.pointer (some ⟨g, 0, none⟩)] #[]] w fun e w' => e = .returned (.tuple #[]) ∧ Wr K w' g (l ++ UInt8.ofNat gs.length :: encG gs) ∧ Kept K w w' := by
  have C := hid (octet_any K w g l (UInt8.ofNat gs.length) _ (len_byte gs.length) h (by omega))
  have HV := hid hv
  obtain ⟨ao, n, c, rfl, h1, h2, h3, h4⟩ := hv
  have e : n = gs.length := by rw [gcells_length] at h1; omega
  subst e
  unfold maxLen at h3
  have H4 := hid h4
  clear h h1 h4
  go_enter Try.func85, Try.ntmps85
  go_wp2_with fail
  refine C.out.mono ?_
  rintro e w1 ⟨rfl, W1, K1⟩
  clear C
  have KK := hid K1
  have WW := hid W1
  clear W1 K1
  go_wp2_with fail
  go_loopw [15] (fun i wr => ∃ k : Nat, k ≤ gs.length ∧ i = .int .i64 k ∧ Wr K wr g (l ++ UInt8.ofNat gs.length :: encG (gs.take k)) ∧ Kept K w wr) (fun i _ => (gs.length - intOf i).toNat)
  case atStart => exact ⟨0, by omega, rfl, WW.out, KK.out⟩
  case round =>
    obtain ⟨k, hk, rfl, hw, hkept⟩ := hrel
    clear WW KK
    by_cases t : k < gs.length
    · obtain ⟨b, o, rfl, hb, hc⟩ := H4.out (by omega)
      have x1 := hkept.cell (a := ⟨b, o + k * 2, none⟩) hb (hc _ _ (gcells_at gs k t).1)
      have x2 := hkept.cell (a := ⟨b, o + (k * 2 + 1), none⟩) hb (hc _ _ (gcells_at gs k t).2)
      rw [← Nat.add_assoc] at x2
      have X1 : Ext wr (wr.alloc (.cells #[.int .i64 (gs.getD k (0, 0)).1, .int .i64 (gs.getD k (0, 0)).2] 53)) := (Ext.refl wr).alloc _
      have C := hid (pair_any K _ g _ (gs.getD k (0, 0)).1 (gs.getD k (0, 0)).2 (hw.ext X1) (by simp [encG_length]; omega))
      rw [List.append_assoc, List.cons_append, ← encG_snoc, ← take_snocG gs k t] at C
      have HK := hid (hkept.trans (Kept.of_ext (K := K) X1))
      clear hw hkept hc X1
      generalize (gs.getD k (0, 0)).1 = x at *
      generalize (gs.getD k (0, 0)).2 = y at *
      have t1 : (k : Int) < (gs.length : Int) := by omega
      have t2 : (0 : Int) ≤ (k : Int) := by omega
      go_wp2_with fail
      refine C.out.mono ?_
      rintro e w2 ⟨rfl, h2, k2⟩
      have R := hid (And.intro h2 (HK.out.trans k2))
      clear h2 k2 C
      go_wp2_with fail
      go_roundw
      case rel => exact ⟨k + 1, by omega, by go_num, R.1, R.2⟩
      case measure => simp [intOf]; omega
    · obtain rfl : k = gs.length := by omega
      rw [List.take_length] at hw
      have R := hid (And.intro hw hkept)
      clear hw hkept
      go_wp2_with fail
      go_end0
      exact ⟨rfl, R.1, R.2⟩
end Go.Proofs.Ytlnjkjpllmfcaaa

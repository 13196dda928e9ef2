/-
  Walks of the sums: shift, More, Sum and the reference's Sum, at any slice of bytes; the world is as it was but for draws.
  Rows of bytes that a call makes; walks of same, tailOf, Seal.
  A walk of Seal.
  Walks of Open.
  Walks of Turn and of the reference's Sealed.
-/
import Derived.Test.YtjmgigfaiaemeaaProg
import Derived.Test.YtjmgigfaiaemeaaMMath
import Derived.Test.YtjmgigfaiaemeaaMCore
import Derived.WalkKit
import Derived.WalkSpells
import Derived.WalkLawsBesides
import Derived.Handy
import Derived.Below
import Derived.Laws.Rows
import Derived.Laws.CopyOwn
import Derived.Laws.BytesArg
import Derived.Laws.ShiftsVarLaws
import Derived.Deep.QuietTactic
import Derived.BigQuiet
import Derived.BigRegion
import Derived.Deep.OwnRows
import Derived.Deep.RegionLaw
import Derived.OwnWalk
namespace Go.Proofs.Ytjmgigfaiaemeaa.Crc
set_option linter.unusedVariables false
open Go.RowKit Go.Lib

theorem ret_int {k : IntKind} {a b : Int} (h : a = b) : Ending.returned (.int k a) = .returned (.int k b) := by rw [h]

theorem and_one (y : Nat) (h : y < 4294967296) : bits .and .u32 (y : Int) 1 = ((y % 2 : Nat) : Int) := by
  have := u32_and_nat y 1 h (by decide)
  rw [Nat.and_one_is_mod] at this
  exact this
theorem xor_poly (y : Nat) (h : y < 4294967296) : bits .xor .u32 ((y : Int) / 2) 3988292384 = ((y / 2 ^^^ cpoly : Nat) : Int) :=
  u32_xor_nat (y / 2) 3988292384 (by omega) (by decide)

theorem not32 (s : Nat) (h : s < 4294967296) : bits .xor .u32 IntKind.u32.max (s : Int) = ((4294967295 - s : Nat) : Int) := by
  have e : 4294967295 ^^^ s = 4294967295 - s := by
    have h1 : (BitVec.allOnes 32 ^^^ BitVec.ofNat 32 s) = ~~~ BitVec.ofNat 32 s := BitVec.allOnes_xor ..
    have h2 := congrArg BitVec.toNat h1
    rw [BitVec.toNat_xor, BitVec.toNat_not, BitVec.toNat_allOnes, BitVec.toNat_ofNat, Nat.mod_eq_of_lt (show s < 2 ^ 32 by omega)] at h2
    exact h2
  rw [← e]
  exact u32_xor_nat 4294967295 s (by decide) h

theorem take_snoc (l : List UInt8) (k : Nat) (h : k < l.length) : l.take (k + 1) = l.take k ++ [l.getD k 0] := by
  rw [List.take_succ_eq_append_getElem h, List.getD_eq_getElem?_getD, List.getElem?_eq_getElem h]
  rfl

theorem _root_.Go.Proofs.Ytjmgigfaiaemeaa.Bytes.drewN {w : World} {v : Value} {l : List UInt8} (h : Bytes w v l) (n : Nat) : Bytes (w.drewN n) v l := h

end Go.Proofs.Ytjmgigfaiaemeaa.Crc


namespace Go.Proofs.Ytjmgigfaiaemeaa.Crc
set_option linter.unusedVariables false
open Go.RowKit Go.Lib

/-- noughts -/
def zeros (n : Nat) : List Value := (madeCells #[.int .u8 0] n).toList
theorem zeros_length (n : Nat) : (zeros n).length = n := by unfold zeros; rw [Array.length_toList, size_madeCells]
theorem make_bytes (n : Nat) (h : n ≤ 200000) (w : World) :
    (Instr.makeSlice 41 (.int .i64 (n : Int)) (.int .i64 (n : Int))).run Try.prog w = .ok (.slice (some ⟨w.heap.size, 0, none⟩) n n) (w.alloc (.cells (zeros n).toArray 5)) := by
  have := run_make_row' 41 5 (.int .u8 0) 1 Try.underlying41 info_byte rfl .i64 .i64 n (by omega) (by omega) w
  rw [this]
  unfold zeros
  rw [Array.toArray_toList]

set_option maxHeartbeats 1000000 in
theorem same_any (v : Value) (l : List UInt8) (w : World) (hv : Bytes w v l) (hl : l.length ≤ 100000) :
    Calls Try.prog 57 #[v] w fun e w' => e = .returned (.slice (some ⟨w.heap.size, 0, none⟩) l.length l.length) ∧ Row w' w.heap.size l ∧ Ext w w' := by
  have X := (Ext.refl w).alloc (.cells (zeros l.length).toArray 5)
  have hv1 := hv.ext X
  have hg : Hid ((w.alloc (.cells (zeros l.length).toArray 5)).heap[w.heap.size]? = some (.cells (zeros l.length).toArray 5 (0, 0))) := heap_alloc_new w _
  have zl := zeros_length l.length
  have mk := make_bytes l.length (by omega) w
  obtain ⟨ao, c, rfl, h1, h2, _⟩ := hv
  have SRC := hid hv1.src
  have XX := hid X
  clear X hv1
  unfold maxLen at h2
  obtain ⟨Z, eZ⟩ : ∃ Z, Z = zeros l.length := ⟨_, rfl⟩
  rw [← eZ] at zl mk hg XX SRC
  have CL := hid (bcells_length l)
  obtain ⟨B, eB⟩ : ∃ B, B = bcells l := ⟨_, rfl⟩
  have ON := hid (bcells_one l)
  rw [← eB] at CL ON SRC
  have EB := hid eB
  have ZL := hid zl
  clear eZ eB zl
  go_enter Try.func57, Try.ntmps57
  go_wp2_with (refine wpList_copy_splice rfl (.tmp 7) (.tmp 8) 41 41 rfl 5 Try.underlying41 size_byte _ _ _ _ _ _ rfl rfl w.heap.size 0 Z 5 hg.out B (by rw [CL.out]; exact (Nat.min_self _).symm) (fun h0 => ⟨rfl, SRC.out.2 h0⟩) (by rw [ZL.out, CL.out]; omega) ON.out w.heap.size w XX.out (Nat.le_refl _) ?_; intro w2 HG HB)
  go_ret
  refine ⟨rfl, ?_, HB⟩
  have e : splice Z 0 B = B := by
    unfold splice
    rw [List.take_zero, List.nil_append, List.drop_eq_nil_of_le (by rw [ZL.out, CL.out]; omega), List.append_nil]
  have := HG.out
  rw [e, EB.out] at this
  exact this

theorem shr_byte (s k : Nat) : (s : Int) / 2 ^ (8 * k) % 256 = ((s / 256 ^ k % 256 : Nat) : Int) := by
  rw [show (256 : Nat) ^ k = 2 ^ (8 * k) by rw [Nat.pow_mul]]
  simp

end Go.Proofs.Ytjmgigfaiaemeaa.Crc


namespace Go.Proofs.Ytjmgigfaiaemeaa.Crc
set_option linter.unusedVariables false
open Go.RowKit Go.Lib

theorem make_bytes4 (n : Nat) (h : n ≤ 100000) (w : World) :
    (Instr.makeSlice 41 (.int .i64 ((n : Int) + 4)) (.int .i64 ((n : Int) + 4))).run Try.prog w = .ok (.slice (some ⟨w.heap.size, 0, none⟩) (n + 4) (n + 4)) (w.alloc (.cells (zeros (n + 4)).toArray 5)) :=
  make_bytes (n + 4) (by omega) w

theorem splice_two {α : Type} (Z X Y : List α) (k : Nat) (hk : X.length = k) (h : Z.length = k + Y.length) : splice (splice Z 0 X) k Y = X ++ Y := by
  subst hk
  unfold splice
  rw [List.take_zero, List.nil_append, Nat.zero_add, List.take_left, List.drop_eq_nil_of_le (by simp; omega), List.append_nil]

end Go.Proofs.Ytjmgigfaiaemeaa.Crc


namespace Go.Proofs.Ytjmgigfaiaemeaa.Crc
set_option linter.unusedVariables false
open Go.RowKit Go.Lib

theorem byte_eq (a b : UInt8) : ((a.toNat : Int) == (b.toNat : Int)) = (a == b) := by
  rw [Bool.eq_iff_iff, beq_iff_eq, beq_iff_eq]
  constructor
  · intro h; exact UInt8.toNat_inj.1 (by omega)
  · intro h; rw [h]

/-- a slice of bytes at a place -/
def BytesAt (w : World) (g o c : Nat) (l : List UInt8) : Prop := ∀ k, k < l.length → g < w.heap.size ∧ w.cell? ⟨g, o + k, none⟩ = some (.int .u8 ((l.getD k 0).toNat : Int))
theorem _root_.Go.Proofs.Ytjmgigfaiaemeaa.Bytes.at {w : World} {v : Value} {l : List UInt8} (h : Bytes w v l) (h0 : 0 < l.length) : ∃ g o c, v = .slice (some ⟨g, o, none⟩) l.length c ∧ l.length ≤ c ∧ c ≤ maxLen ∧ BytesAt w g o c l := by
  obtain ⟨ao, c, rfl, h1, h2, h3⟩ := h
  obtain ⟨g, o, ha, _⟩ := h3 0 h0
  subst ha
  refine ⟨g, o, c, rfl, h1, h2, fun k hk => ?_⟩
  obtain ⟨g', o', ha', hg, hc⟩ := h3 k hk
  cases ha'
  exact ⟨hg, hc⟩
theorem BytesAt.take {w : World} {g o c : Nat} {l : List UInt8} (h : BytesAt w g o c l) (m : Nat) (hm : m ≤ l.length) (hc : l.length ≤ c) (hx : c ≤ maxLen) : Bytes w (.slice (some ⟨g, o, none⟩) m c) (l.take m) := by
  have e : (l.take m).length = m := by rw [List.length_take]; omega
  refine ⟨_, c, by rw [e], by rw [e]; omega, hx, fun k hk => ?_⟩
  rw [e] at hk
  obtain ⟨hg, hcell⟩ := h k (by omega)
  refine ⟨g, o, rfl, hg, ?_⟩
  rw [hcell, List.getD_eq_getElem?_getD, List.getD_eq_getElem?_getD, List.getElem?_take_of_lt hk]
theorem BytesAt.drop {w : World} {g o c : Nat} {l : List UInt8} (h : BytesAt w g o c l) (m n : Nat) (hm : m + n = l.length) (hc : l.length ≤ c) (hx : c ≤ maxLen) : Bytes w (.slice (some ⟨g, o + m, none⟩) n (c - m)) (l.drop m) := by
  have e : (l.drop m).length = n := by rw [List.length_drop]; omega
  refine ⟨_, c - m, by rw [e], by rw [e]; omega, by omega, fun k hk => ?_⟩
  rw [e] at hk
  obtain ⟨hg, hcell⟩ := h (m + k) (by omega)
  refine ⟨g, o + m, rfl, hg, ?_⟩
  rw [Nat.add_assoc, hcell, List.getD_eq_getElem?_getD, List.getD_eq_getElem?_getD, List.getElem?_drop]

end Go.Proofs.Ytjmgigfaiaemeaa.Crc


namespace Go.Proofs.Ytjmgigfaiaemeaa.Crc
set_option linter.unusedVariables false
open Go.RowKit Go.Lib

theorem and_seven (x : Int) : bits .and .i64 x 7 = ((x % 8).toNat : Int) := by
  show IntKind.i64.wrap ((BitVec.ofInt 64 x &&& BitVec.ofInt 64 7).toNat : Int) = _
  have h7 : (BitVec.ofInt 64 7).toNat = 2 ^ 3 - 1 := by decide
  rw [BitVec.toNat_and, h7, Nat.and_two_pow_sub_one_eq_mod, BitVec.toNat_ofInt, IntKind.wrap_i64]
  omega

/-- the place, as the program reckons it -/
theorem place_of (n : Nat) (bit : Int) (h : 0 < n) :
    (Int.tmod (bit / 8) (n : Int) = (cplace n bit : Int)) ∨ (Int.tmod (bit / 8) (n : Int) = (cplace n bit : Int) - n) := by
  unfold cplace
  generalize bit / 8 = q
  have h1 := Int.emod_nonneg q (show (n : Int) ≠ 0 by omega)
  have h2 := Int.emod_lt_of_pos q (show (0 : Int) < n by omega)
  rw [Int.toNat_of_nonneg h1]
  rw [Int.tmod_eq_emod]
  split
  · left; omega
  · right; simp

theorem cturn_row (l : List UInt8) (bit : Int) (h : 0 < l.length) : (bcells l).toArray.setIfInBounds (cplace l.length bit) (bval (l.getD (cplace l.length bit) 0 ^^^ cmask bit)) = (bcells (cturn l bit)).toArray := by
  unfold cturn bcells
  rw [List.map_set]
  simp

theorem row_turned {w : World} {g p : Nat} {l F : List UInt8} {x y : Int} (h : Row w g l) (e : x = y) (t : (bcells l).toArray.setIfInBounds p (.int .u8 y) = (bcells F).toArray) : Row (w.setCell ⟨g, p, none⟩ (.int .u8 x)).drew g F := by
  show (w.setCell ⟨g, p, none⟩ (.int .u8 x)).heap[g]? = _
  rw [setCell_eq_setRow _ _ _ _ _ _ _ h, setRow_heap _ _ _ _ _ _ h, e, t]

set_option maxHeartbeats 2000000 in
theorem turn_any (v : Value) (l : List UInt8) (bit : Int) (w : World) (hv : Bytes w v l) (hl : l.length ≤ 100000) (h0 : 0 < l.length) (b0 : -9223372036854775808 ≤ bit) (b1 : bit ≤ 9223372036854775807) :
    Calls Try.prog 50 #[v, .int .i64 bit] w fun e w' => e = .returned (.slice (some ⟨w.heap.size, 0, none⟩) l.length l.length) ∧ Row w' w.heap.size (cturn l bit) ∧ Ext w w' := by
  have CS := hid (same_any v l w hv hl)
  have PL := place_of l.length bit h0
  have pl := cplace_lt l.length bit h0
  have TR := hid (cturn_row l bit h0)
  obtain ⟨j, hj, hm, hj2⟩ := cmask_nat bit
  have a7 := and_seven bit
  rw [← hj2, Int.toNat_natCast] at a7
  have e1 : (2 : Int) ^ j % 256 = ((cmask bit).toNat : Int) := by
    have h1 : ((2 ^ j : Nat) : Int) = (2 : Int) ^ j := by simp
    have h2 := byte_room (cmask bit)
    rw [← h1, ← hm]; omega
  have xr : Hid (bits .xor .u8 ((l.getD (cplace l.length bit) 0).toNat : Int) ((cmask bit).toNat : Int) = ((l.getD (cplace l.length bit) 0 ^^^ cmask bit).toNat : Int)) := by
    show _ = _
    rw [UInt8.toNat_xor]
    exact u8_xor_nat _ _ (byte_room _) (byte_room _)
  have mr := byte_room (cmask bit)
  have RC : Hid (∀ W, Row W w.heap.size l → W.cell? ⟨w.heap.size, cplace l.length bit, none⟩ = some (.int .u8 ((l.getD (cplace l.length bit) 0).toNat : Int))) := fun W R => R.cell _ pl
  have br := byte_room (l.getD (cplace l.length bit) 0)
  unfold bval at TR
  generalize (l.getD (cplace l.length bit) 0 ^^^ cmask bit).toNat = Y at *
  generalize (l.getD (cplace l.length bit) 0).toNat = X at *
  generalize (cmask bit).toNat = M at *
  generalize cturn l bit = F at *
  have n0 : ((l.length : Int) == 0) = false := by rw [beq_eq_false_iff_ne]; omega
  have n1 : (0 : Int) < (l.length : Int) := by omega
  obtain ⟨ao, c, rfl, q1, q2, _⟩ := hv
  obtain ⟨p, ep⟩ : ∃ p, p = cplace l.length bit := ⟨_, rfl⟩
  rw [← ep] at PL pl TR RC
  have i1 : (p : Int) < (l.length : Int) := by omega
  have i2 : (0 : Int) ≤ (p : Int) := by omega
  unfold maxLen at q2
  clear hm hj2 ep
  rcases PL with PL | PL
  · have i3 : decide ((p : Int) < 0) = false := by simp
    go_enter Try.func50, Try.ntmps50
    go_wp2_with fail
    refine CS.out.mono ?_
    rintro e w1 ⟨rfl, R1, X1⟩
    have rc := RC.out w1 R1
    have fr : w1.frozen? ⟨w.heap.size, p, none⟩ = false := frozen_of_row _ _ _ _ _ R1
    have RR := hid R1
    have XX := hid X1
    clear R1 X1 CS
    go_wp2_with fail
    go_region
    go_wp2_with fail
    go_ret
    exact ⟨rfl, row_turned RR.out xr.out TR.out, Below.drew (XX.out.setCell (Nat.le_refl _) _)⟩
  · have i3 : (p : Int) - (l.length : Int) < 0 := by omega
    have i4 : (p : Int) - (l.length : Int) + (l.length : Int) = (p : Int) := by omega
    go_enter Try.func50, Try.ntmps50
    go_wp2_with fail
    refine CS.out.mono ?_
    rintro e w1 ⟨rfl, R1, X1⟩
    have rc := RC.out w1 R1
    have fr : w1.frozen? ⟨w.heap.size, p, none⟩ = false := frozen_of_row _ _ _ _ _ R1
    have RR := hid R1
    have XX := hid X1
    clear R1 X1 CS
    go_wp2_with fail
    go_region
    go_wp2_with fail
    go_ret
    exact ⟨rfl, row_turned RR.out xr.out TR.out, Below.drew (XX.out.setCell (Nat.le_refl _) _)⟩

set_option maxHeartbeats 400000 in
theorem turn_empty (v : Value) (l : List UInt8) (bit : Int) (w : World) (hv : Bytes w v l) (h0 : l.length = 0) :
    Calls Try.prog 50 #[v, .int .i64 bit] w fun e w' => e = .returned (.slice (some ⟨w.heap.size, 0, none⟩) 0 0) ∧ Row w' w.heap.size l ∧ Ext w w' := by
  have CS := same_any v l w hv (by omega)
  rw [h0] at CS
  have CC := hid CS
  clear CS
  obtain ⟨ao, c, rfl, q1, q2, _⟩ := hv
  rw [h0]
  rw [h0] at CC
  go_enter Try.func50, Try.ntmps50
  go_wp2_with fail
  refine CC.out.mono ?_
  rintro e w1 ⟨rfl, R1, X1⟩
  have RR := hid R1
  have XX := hid X1
  clear R1 X1
  go_wp2_with fail
  go_ret
  exact ⟨rfl, RR.out, XX.out⟩

theorem ctail_take (s k : Nat) (h : k < 4) : (ctail s).take (k + 1) = (ctail s).take k ++ [UInt8.ofNat (s / 256 ^ k)] := by
  match k, h with
  | 0, _ => unfold ctail; simp
  | 1, _ | 2, _ | 3, _ => rfl
  | n + 4, h => exact absurd h (by omega)

theorem new_string (w : World) (B : UInt8) : (convert 41 9 (.slice (some ⟨w.heap.size, 0, none⟩) 1 1)).run Try.prog (w.alloc (.cells #[.int .u8 (B.toNat : Int)] 5)) = .ok (.string (str [B])) (w.alloc (.cells #[.int .u8 (B.toNat : Int)] 5)) :=
  Bytes.str (Row.bytes (l := [B]) (show Row _ _ [B] from heap_alloc_new w _) (by simp))

end Go.Proofs.Ytjmgigfaiaemeaa.Crc

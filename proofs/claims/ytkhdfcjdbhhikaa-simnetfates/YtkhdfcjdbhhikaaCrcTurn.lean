/-
  Walks of Turn and of the reference's Sealed.
-/
import Derived.Test.YtkhdfcjdbhhikaaCrcOpen
namespace Go.Proofs.Ytkhdfcjdbhhikaa.Crc
set_option linter.unusedVariables false
open Go.RowKit Go.Lib

theorem and_seven (x : Int) : bits .and .i64 x 7 = ((x % 8).toNat : Int) := by
  show IntKind.i64.wrap ((BitVec.ofInt 64 x &&& BitVec.ofInt 64 7).toNat : Int) = _
  have h7 : (BitVec.ofInt 64 7).toNat = 2 ^ 3 - 1 := by decide
  rw [BitVec.toNat_and, h7, Nat.and_two_pow_sub_one_eq_mod, BitVec.toNat_ofInt, IntKind.wrap_i64]
  omega

/-- the place, as the program reckons it -/
theorem place_of (n : Nat) (bit : Int) (h : 0 < n) :
    (Int.tmod (bit / 8) (n : Int) = (cplace n bit : Int)) ∨ (Int.tmod (bit / 8) (n : Int) = (cplace n bit : Int) - n) := by
  unfold cplace
  generalize bit / 8 = q
  have h1 := Int.emod_nonneg q (show (n : Int) ≠ 0 by omega)
  have h2 := Int.emod_lt_of_pos q (show (0 : Int) < n by omega)
  rw [Int.toNat_of_nonneg h1]
  rw [Int.tmod_eq_emod]
  split
  · left; omega
  · right; simp

theorem cturn_row (l : List UInt8) (bit : Int) (h : 0 < l.length) : (bcells l).toArray.setIfInBounds (cplace l.length bit) (bval (l.getD (cplace l.length bit) 0 ^^^ cmask bit)) = (bcells (cturn l bit)).toArray := by
  unfold cturn bcells
  rw [List.map_set]
  simp

theorem row_turned {w : World} {g p : Nat} {l F : List UInt8} {x y : Int} (h : Row w g l) (e : x = y) (t : (bcells l).toArray.setIfInBounds p (.int .u8 y) = (bcells F).toArray) : Row (w.setCell ⟨g, p, none⟩ (.int .u8 x)).drew g F := by
  show (w.setCell ⟨g, p, none⟩ (.int .u8 x)).heap[g]? = _
  rw [setCell_eq_setRow _ _ _ _ _ _ _ h, setRow_heap _ _ _ _ _ _ h, e, t]

set_option maxHeartbeats 2000000 in
theorem turn_any (v : Value) (l : List UInt8) (bit : Int) (w : World) (hv : Bytes w v l) (hl : l.length ≤ 100000) (h0 : 0 < l.length) (b0 : -9223372036854775808 ≤ bit) (b1 : bit ≤ 9223372036854775807) :
    Calls Try.prog 53 #[v, .int .i64 bit] w fun e w' => e = .returned (.slice (some ⟨w.heap.size, 0, none⟩) l.length l.length) ∧ Row w' w.heap.size (cturn l bit) ∧ Ext w w' := by
  have CS := hid (same_any v l w hv hl)
  have PL := place_of l.length bit h0
  have pl := cplace_lt l.length bit h0
  have TR := hid (cturn_row l bit h0)
  obtain ⟨j, hj, hm, hj2⟩ := cmask_nat bit
  have a7 := and_seven bit
  rw [← hj2, Int.toNat_natCast] at a7
  have e1 : (2 : Int) ^ j % 256 = ((cmask bit).toNat : Int) := by
    have h1 : ((2 ^ j : Nat) : Int) = (2 : Int) ^ j := by simp
    have h2 := byte_room (cmask bit)
    rw [← h1, ← hm]; omega
  have xr : Hid (bits .xor .u8 ((l.getD (cplace l.length bit) 0).toNat : Int) ((cmask bit).toNat : Int) = ((l.getD (cplace l.length bit) 0 ^^^ cmask bit).toNat : Int)) := by
    show _ = _
    rw [UInt8.toNat_xor]
    exact u8_xor_nat _ _ (byte_room _) (byte_room _)
  have mr := byte_room (cmask bit)
  have RC : Hid (∀ W, Row W w.heap.size l → W.cell? ⟨w.heap.size, cplace l.length bit, none⟩ = some (.int .u8 ((l.getD (cplace l.length bit) 0).toNat : Int))) := fun W R => R.cell _ pl
  have br := byte_room (l.getD (cplace l.length bit) 0)
  unfold bval at TR
  generalize (l.getD (cplace l.length bit) 0 ^^^ cmask bit).toNat = Y at *
  generalize (l.getD (cplace l.length bit) 0).toNat = X at *
  generalize (cmask bit).toNat = M at *
  generalize cturn l bit = F at *
  have n0 : ((l.length : Int) == 0) = false := by rw [beq_eq_false_iff_ne]; omega
  have n1 : (0 : Int) < (l.length : Int) := by omega
  obtain ⟨ao, c, rfl, q1, q2, _⟩ := hv
  obtain ⟨p, ep⟩ : ∃ p, p = cplace l.length bit := ⟨_, rfl⟩
  rw [← ep] at PL pl TR RC
  have i1 : (p : Int) < (l.length : Int) := by omega
  have i2 : (0 : Int) ≤ (p : Int) := by omega
  unfold maxLen at q2
  clear hm hj2 ep
  rcases PL with PL | PL
  · have i3 : decide ((p : Int) < 0) = false := by simp
    go_enter Try.func53, Try.ntmps53
    go_wp2_with fail
    refine CS.out.mono ?_
    rintro e w1 ⟨rfl, R1, X1⟩
    have rc := RC.out w1 R1
    have fr : w1.frozen? ⟨w.heap.size, p, none⟩ = false := frozen_of_row _ _ _ _ _ R1
    have RR := hid R1
    have XX := hid X1
    clear R1 X1 CS
    go_wp2_with fail
    go_region
    go_wp2_with fail
    go_ret
    exact ⟨rfl, row_turned RR.out xr.out TR.out, Below.drew (XX.out.setCell (Nat.le_refl _) _)⟩
  · have i3 : (p : Int) - (l.length : Int) < 0 := by omega
    have i4 : (p : Int) - (l.length : Int) + (l.length : Int) = (p : Int) := by omega
    go_enter Try.func53, Try.ntmps53
    go_wp2_with fail
    refine CS.out.mono ?_
    rintro e w1 ⟨rfl, R1, X1⟩
    have rc := RC.out w1 R1
    have fr : w1.frozen? ⟨w.heap.size, p, none⟩ = false := frozen_of_row _ _ _ _ _ R1
    have RR := hid R1
    have XX := hid X1
    clear R1 X1 CS
    go_wp2_with fail
    go_region
    go_wp2_with fail
    go_ret
    exact ⟨rfl, row_turned RR.out xr.out TR.out, Below.drew (XX.out.setCell (Nat.le_refl _) _)⟩

set_option maxHeartbeats 400000 in
theorem turn_empty (v : Value) (l : List UInt8) (bit : Int) (w : World) (hv : Bytes w v l) (h0 : l.length = 0) :
    Calls Try.prog 53 #[v, .int .i64 bit] w fun e w' => e = .returned (.slice (some ⟨w.heap.size, 0, none⟩) 0 0) ∧ Row w' w.heap.size l ∧ Ext w w' := by
  have CS := same_any v l w hv (by omega)
  rw [h0] at CS
  have CC := hid CS
  clear CS
  obtain ⟨ao, c, rfl, q1, q2, _⟩ := hv
  rw [h0]
  rw [h0] at CC
  go_enter Try.func53, Try.ntmps53
  go_wp2_with fail
  refine CC.out.mono ?_
  rintro e w1 ⟨rfl, R1, X1⟩
  have RR := hid R1
  have XX := hid X1
  clear R1 X1
  go_wp2_with fail
  go_ret
  exact ⟨rfl, RR.out, XX.out⟩

theorem ctail_take (s k : Nat) (h : k < 4) : (ctail s).take (k + 1) = (ctail s).take k ++ [UInt8.ofNat (s / 256 ^ k)] := by
  match k, h with
  | 0, _ => unfold ctail; simp
  | 1, _ | 2, _ | 3, _ => rfl
  | n + 4, h => exact absurd h (by omega)

theorem new_string (w : World) (B : UInt8) : (convert 41 9 (.slice (some ⟨w.heap.size, 0, none⟩) 1 1)).run Try.prog (w.alloc (.cells #[.int .u8 (B.toNat : Int)] 5)) = .ok (.string (str [B])) (w.alloc (.cells #[.int .u8 (B.toNat : Int)] 5)) :=
  Bytes.str (Row.bytes (l := [B]) (show Row _ _ [B] from heap_alloc_new w _) (by simp))

end Go.Proofs.Ytkhdfcjdbhhikaa.Crc

/-
  Walks of the sums: shift, More, Sum and the reference's Sum, at any slice of bytes; the world is as it was but for draws.
-/
import Derived.Test.YtkhdfcjdbhhikaaProg
import Derived.Test.YtkhdfcjdbhhikaaCrcMath
import Derived.Test.YtkhdfcjdbhhikaaByteCore
import Derived.WalkKit
import Derived.WalkSpells
import Derived.WalkLawsBesides
import Derived.Handy
import Derived.Below
import Derived.Laws.Rows
import Derived.Laws.CopyOwn
import Derived.Laws.BytesArg
import Derived.Laws.ShiftsVarLaws
import Derived.Deep.QuietTactic
import Derived.BigQuiet
import Derived.BigRegion
namespace Go.Proofs.Ytkhdfcjdbhhikaa.Crc
set_option linter.unusedVariables false
open Go.RowKit Go.Lib

theorem ret_int {k : IntKind} {a b : Int} (h : a = b) : Ending.returned (.int k a) = .returned (.int k b) := by rw [h]

theorem and_one (y : Nat) (h : y < 4294967296) : bits .and .u32 (y : Int) 1 = ((y % 2 : Nat) : Int) := by
  have := u32_and_nat y 1 h (by decide)
  rw [Nat.and_one_is_mod] at this
  exact this
theorem xor_poly (y : Nat) (h : y < 4294967296) : bits .xor .u32 ((y : Int) / 2) 3988292384 = ((y / 2 ^^^ cpoly : Nat) : Int) :=
  u32_xor_nat (y / 2) 3988292384 (by omega) (by decide)

theorem not32 (s : Nat) (h : s < 4294967296) : bits .xor .u32 IntKind.u32.max (s : Int) = ((4294967295 - s : Nat) : Int) := by
  have e : 4294967295 ^^^ s = 4294967295 - s := by
    have h1 : (BitVec.allOnes 32 ^^^ BitVec.ofNat 32 s) = ~~~ BitVec.ofNat 32 s := BitVec.allOnes_xor ..
    have h2 := congrArg BitVec.toNat h1
    rw [BitVec.toNat_xor, BitVec.toNat_not, BitVec.toNat_allOnes, BitVec.toNat_ofNat, Nat.mod_eq_of_lt (show s < 2 ^ 32 by omega)] at h2
    exact h2
  rw [← e]
  exact u32_xor_nat 4294967295 s (by decide) h

theorem take_snoc (l : List UInt8) (k : Nat) (h : k < l.length) : l.take (k + 1) = l.take k ++ [l.getD k 0] := by
  rw [List.take_succ_eq_append_getElem h, List.getD_eq_getElem?_getD, List.getElem?_eq_getElem h]
  rfl

theorem _root_.Go.Proofs.Ytkhdfcjdbhhikaa.Bytes.drewN {w : World} {v : Value} {l : List UInt8} (h : Bytes w v l) (n : Nat) : Bytes (w.drewN n) v l := h

end Go.Proofs.Ytkhdfcjdbhhikaa.Crc

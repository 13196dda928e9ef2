/-
  A walk of the law's fixed answer.
-/
import Derived.Test.YtlnjkjpllmfcaaaCrcTurn
import Derived.Lib.SlBytesConst
namespace Go.Proofs.Ytlnjkjpllmfcaaa
set_option linter.unusedVariables false
open Go.RowKit Go.Lib

theorem block_bytes {w : World} {g : Nat} {l : List UInt8} {t : TypeId} {fr : Nat × Nat} (h : w.heap[g]? = some (.cells (bcells l).toArray t fr)) (hl : l.length ≤ 100000) : Bytes w (.slice (some ⟨g, 0, none⟩) l.length l.length) l :=
  ⟨_, _, rfl, Nat.le_refl _, by unfold maxLen; omega, fun k hk => ⟨g, 0, rfl, (Array.getElem?_eq_some_iff.1 h).1, by
    rw [Nat.zero_add, cell_of_row w g k _ _ _ h, List.getElem?_toArray, bcells_at l k hk]⟩⟩

end Go.Proofs.Ytlnjkjpllmfcaaa

/-
  The walk of math/bits' Div64: the quotient and the rest of a number of two words, where the quotient has one word.
-/
import Derived.Test.YtlglhggfhlpbjaaLeaf
import Derived.Test.YtlglhggfhlpbjaaLen
import Derived.Deep.QuietTactic
import Derived.BigQuiet
namespace Go.Proofs.Ytlglhggfhlpbjaa
set_option linter.unusedVariables false
open Go.RowKit

end Go.Proofs.Ytlglhggfhlpbjaa

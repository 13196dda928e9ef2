/-
  Walks of math/bits' Len64 and LeadingZeros64: how many bits a number has; the world is as it was.
-/
import Derived.Test.YtlglhggfhlpbjaaProg
import Derived.Test.YtlglhggfhlpbjaaFxMath
import Derived.Lib.Strings
import Derived.Lib.Slices
import Derived.Lib.Small
import Derived.Lib.Walk
import Derived.Lib.BitFns
namespace Go.Proofs.Ytlglhggfhlpbjaa
set_option linter.unusedVariables false

end Go.Proofs.Ytlglhggfhlpbjaa

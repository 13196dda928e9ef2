/-
  Walks of package fix's greater calls: Ratio, Div, Times, Mul, squareWithin, Root. What each returns, for every argument; the world is as it was, but for what was drawn.
-/
import Derived.Test.YtlglhggfhlpbjaaDiv
namespace Go.Proofs.Ytlglhggfhlpbjaa
set_option linter.unusedVariables false
open Go.RowKit

/-- a by b, rounded down, or the greatest word -/
def fratio (a b : Int) : Int := if b ≤ a / 4294967296 then 18446744073709551615 else a * 4294967296 / b
/-- a times n, the point's bits gone, or the greatest word -/
def ftimes (a n : Int) : Int := if 18446744073709551615 < a * n / 4294967296 then 18446744073709551615 else a * n / 4294967296

end Go.Proofs.Ytlglhggfhlpbjaa

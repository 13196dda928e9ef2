/-
  Worlds that differ by new memory alone (ExtCore), beside layer 1's calls.
-/
import Derived.Test.YtcjohgfmdnimjaaDoorFix
import Derived.Test.YtcjohgfmdnimjaaDoorExtCore

/-
  DERIVED. GIVEN WITH THE SEED: THE CARDS: each row of YtbbfblfgieobeaaDoorRows.lean that lists a variable, with what it lists TIED to the program's text (the seventh form; the later family's looks); each row that meets fmt, with fmt's text TOLD by the authors' own Lean function (tested against real Go, not proved from fmt's source: count such statements apart). THE CARD IS WHAT COUNTS. Prove the row's statement (the work); the ties are given (YtbbfblfgieobeaaDoorTie.lean); close each card by the builder's one call (the guide's Derived/Test/ToyasCard.lean, 'card_holds'). Laid BY PROGRAM, IN A SANDBOX (cutbox-door.mjs). By AI agents, Wed Nov 11 2026. No macro, syntax, notation, axiom, sorry.
-/
import Derived.Test.YtbbfblfgieobeaaDoorRows
import GoSem.ClaimSeven
namespace Go.Proofs.YtbbfblfgieobeaaDoor
namespace Rows

/-- THE TIED CARD OF 'terracelaw02.LogsTell'. -/
def logsTellCard : Claim7 := { stood := { row := logsTellRow, standIns := [], harness := (true, "ea22bd3611b6e889626f8cd58c7dba52f7d312a98ffa16576a0d4eeccbec77b3"), looks := false }, kinds := [], alts := [], laidByText := true, laidKinds := [.data], laidTests := true, laidLooks := .later }
def LogsTellCardSaid : Prop := Claim7.holds Tryd.pinned (.plain (OpenSpec.ofChange logsTellSpec)) logsTellCard

/-- THE TIED CARD OF 'terracelaw02.LogsRise'. -/
def logsRiseCard : Claim7 := { stood := { row := logsRiseRow, standIns := [], harness := (true, "ea22bd3611b6e889626f8cd58c7dba52f7d312a98ffa16576a0d4eeccbec77b3"), looks := false }, kinds := [], alts := [], laidByText := true, laidKinds := [.data], laidTests := true, laidLooks := .later }
def LogsRiseCardSaid : Prop := Claim7.holds Tryd.pinned (.plain (OpenSpec.ofChange logsRiseSpec)) logsRiseCard

/-- THE TIED CARD OF 'terracelaw02.LogsDouble'. -/
def logsDoubleCard : Claim7 := { stood := { row := logsDoubleRow, standIns := [], harness := (true, "ea22bd3611b6e889626f8cd58c7dba52f7d312a98ffa16576a0d4eeccbec77b3"), looks := false }, kinds := [], alts := [], laidByText := true, laidKinds := [.data], laidTests := true, laidLooks := .later }
def LogsDoubleCardSaid : Prop := Claim7.holds Tryd.pinned (.plain (OpenSpec.ofChange logsDoubleSpec)) logsDoubleCard

/-- THE TIED CARD OF 'terracelaw02.LogsOnce'. -/
def logsOnceCard : Claim7 := { stood := { row := logsOnceRow, standIns := [], harness := (true, "ea22bd3611b6e889626f8cd58c7dba52f7d312a98ffa16576a0d4eeccbec77b3"), looks := false }, kinds := [], alts := [], laidByText := true, laidKinds := [.data], laidTests := true, laidLooks := .later }
def LogsOnceCardSaid : Prop := Claim7.holds Tryd.pinned (.plain (OpenSpec.ofChange logsOnceSpec)) logsOnceCard

/-- THE SECOND FORM's CARD OF 'terracelaw02.LogsTell'. -/
def logsTellUptoCard : Claim7 := { stood := { row := logsTellUptoRow, standIns := [], harness := (true, "ea22bd3611b6e889626f8cd58c7dba52f7d312a98ffa16576a0d4eeccbec77b3"), looks := false }, kinds := [], alts := [], laidByText := true, laidKinds := [.data], laidTests := true, laidLooks := .later }
def LogsTellUptoCardSaid : Prop := Claim7.holds Tryd.pinned (.plain (OpenSpec.upto logsTellSpec)) logsTellUptoCard

/-- THE SECOND FORM's CARD OF 'terracelaw02.LogsRise'. -/
def logsRiseUptoCard : Claim7 := { stood := { row := logsRiseUptoRow, standIns := [], harness := (true, "ea22bd3611b6e889626f8cd58c7dba52f7d312a98ffa16576a0d4eeccbec77b3"), looks := false }, kinds := [], alts := [], laidByText := true, laidKinds := [.data], laidTests := true, laidLooks := .later }
def LogsRiseUptoCardSaid : Prop := Claim7.holds Tryd.pinned (.plain (OpenSpec.upto logsRiseSpec)) logsRiseUptoCard

/-- THE SECOND FORM's CARD OF 'terracelaw02.LogsDouble'. -/
def logsDoubleUptoCard : Claim7 := { stood := { row := logsDoubleUptoRow, standIns := [], harness := (true, "ea22bd3611b6e889626f8cd58c7dba52f7d312a98ffa16576a0d4eeccbec77b3"), looks := false }, kinds := [], alts := [], laidByText := true, laidKinds := [.data], laidTests := true, laidLooks := .later }
def LogsDoubleUptoCardSaid : Prop := Claim7.holds Tryd.pinned (.plain (OpenSpec.upto logsDoubleSpec)) logsDoubleUptoCard

/-- THE SECOND FORM's CARD OF 'terracelaw02.LogsOnce'. -/
def logsOnceUptoCard : Claim7 := { stood := { row := logsOnceUptoRow, standIns := [], harness := (true, "ea22bd3611b6e889626f8cd58c7dba52f7d312a98ffa16576a0d4eeccbec77b3"), looks := false }, kinds := [], alts := [], laidByText := true, laidKinds := [.data], laidTests := true, laidLooks := .later }
def LogsOnceUptoCardSaid : Prop := Claim7.holds Tryd.pinned (.plain (OpenSpec.upto logsOnceSpec)) logsOnceUptoCard
end Rows
end Go.Proofs.YtbbfblfgieobeaaDoor

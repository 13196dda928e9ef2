/-
  DERIVED. GIVEN WITH THE SEED: THE CARDS: each row of YtmkcgkmaabcjoaaDoorRows.lean that lists a variable, with what it lists TIED to the program's text (the seventh form; the later family's looks); each row that meets fmt, with fmt's text TOLD by the authors' own Lean function (tested against real Go, not proved from fmt's source: count such statements apart). THE CARD IS WHAT COUNTS. Prove the row's statement (the work); the ties are given (YtmkcgkmaabcjoaaDoorTie.lean); close each card by the builder's one call (the guide's Derived/Test/ToyasCard.lean, 'card_holds'). Laid BY PROGRAM, IN A SANDBOX (cutbox-door.mjs). By AI agents, Wed Nov 11 2026. No macro, syntax, notation, axiom, sorry.
-/
import Derived.Test.YtmkcgkmaabcjoaaDoorRows
import GoSem.ClaimSeven
namespace Go.Proofs.YtmkcgkmaabcjoaaDoor
namespace Rows

/-- THE TIED CARD OF 'terracelaw14.HistoryPlays'. -/
def historyPlaysCard : Claim7 := { stood := { row := historyPlaysRow, standIns := [], harness := (true, "7273a56d252fd79b5bdca5f0cb42427aea5089cc11bb4a630687aebb8ea5c4a1"), looks := false }, kinds := [], alts := [], laidByText := true, laidKinds := [.data], laidTests := true, laidLooks := .later }
def HistoryPlaysCardSaid : Prop := Claim7.holds Tryd.pinned (.plain (OpenSpec.ofChange historyPlaysSpec)) historyPlaysCard

/-- THE TIED CARD OF 'terracelaw14.HistoryMeans'. -/
def historyMeansCard : Claim7 := { stood := { row := historyMeansRow, standIns := [], harness := (true, "7273a56d252fd79b5bdca5f0cb42427aea5089cc11bb4a630687aebb8ea5c4a1"), looks := false }, kinds := [], alts := [], laidByText := true, laidKinds := [.data], laidTests := true, laidLooks := .later }
def HistoryMeansCardSaid : Prop := Claim7.holds Tryd.pinned (.plain (OpenSpec.ofChange historyMeansSpec)) historyMeansCard

/-- THE TIED CARD OF 'terracelaw14.HistoryRates'. -/
def historyRatesCard : Claim7 := { stood := { row := historyRatesRow, standIns := [], harness := (true, "7273a56d252fd79b5bdca5f0cb42427aea5089cc11bb4a630687aebb8ea5c4a1"), looks := false }, kinds := [], alts := [], laidByText := true, laidKinds := [.data], laidTests := true, laidLooks := .later }
def HistoryRatesCardSaid : Prop := Claim7.holds Tryd.pinned (.plain (OpenSpec.ofChange historyRatesSpec)) historyRatesCard

/-- THE TIED CARD OF 'terracelaw14.HistoryCopies'. -/
def historyCopiesCard : Claim7 := { stood := { row := historyCopiesRow, standIns := [], harness := (true, "7273a56d252fd79b5bdca5f0cb42427aea5089cc11bb4a630687aebb8ea5c4a1"), looks := false }, kinds := [], alts := [], laidByText := true, laidKinds := [.data], laidTests := true, laidLooks := .later }
def HistoryCopiesCardSaid : Prop := Claim7.holds Tryd.pinned (.plain (OpenSpec.ofChange historyCopiesSpec)) historyCopiesCard

/-- THE SECOND FORM's CARD OF 'terracelaw14.HistoryPlays'. -/
def historyPlaysUptoCard : Claim7 := { stood := { row := historyPlaysUptoRow, standIns := [], harness := (true, "7273a56d252fd79b5bdca5f0cb42427aea5089cc11bb4a630687aebb8ea5c4a1"), looks := false }, kinds := [], alts := [], laidByText := true, laidKinds := [.data], laidTests := true, laidLooks := .later }
def HistoryPlaysUptoCardSaid : Prop := Claim7.holds Tryd.pinned (.plain (OpenSpec.upto historyPlaysSpec)) historyPlaysUptoCard

/-- THE SECOND FORM's CARD OF 'terracelaw14.HistoryMeans'. -/
def historyMeansUptoCard : Claim7 := { stood := { row := historyMeansUptoRow, standIns := [], harness := (true, "7273a56d252fd79b5bdca5f0cb42427aea5089cc11bb4a630687aebb8ea5c4a1"), looks := false }, kinds := [], alts := [], laidByText := true, laidKinds := [.data], laidTests := true, laidLooks := .later }
def HistoryMeansUptoCardSaid : Prop := Claim7.holds Tryd.pinned (.plain (OpenSpec.upto historyMeansSpec)) historyMeansUptoCard

/-- THE SECOND FORM's CARD OF 'terracelaw14.HistoryRates'. -/
def historyRatesUptoCard : Claim7 := { stood := { row := historyRatesUptoRow, standIns := [], harness := (true, "7273a56d252fd79b5bdca5f0cb42427aea5089cc11bb4a630687aebb8ea5c4a1"), looks := false }, kinds := [], alts := [], laidByText := true, laidKinds := [.data], laidTests := true, laidLooks := .later }
def HistoryRatesUptoCardSaid : Prop := Claim7.holds Tryd.pinned (.plain (OpenSpec.upto historyRatesSpec)) historyRatesUptoCard

/-- THE SECOND FORM's CARD OF 'terracelaw14.HistoryCopies'. -/
def historyCopiesUptoCard : Claim7 := { stood := { row := historyCopiesUptoRow, standIns := [], harness := (true, "7273a56d252fd79b5bdca5f0cb42427aea5089cc11bb4a630687aebb8ea5c4a1"), looks := false }, kinds := [], alts := [], laidByText := true, laidKinds := [.data], laidTests := true, laidLooks := .later }
def HistoryCopiesUptoCardSaid : Prop := Claim7.holds Tryd.pinned (.plain (OpenSpec.upto historyCopiesSpec)) historyCopiesUptoCard
end Rows
end Go.Proofs.YtmkcgkmaabcjoaaDoor

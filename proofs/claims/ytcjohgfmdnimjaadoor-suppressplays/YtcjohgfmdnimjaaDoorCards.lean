/-
  DERIVED. GIVEN WITH THE SEED: THE CARDS: each row of YtcjohgfmdnimjaaDoorRows.lean that lists a variable, with what it lists TIED to the program's text (the seventh form; the later family's looks); each row that meets fmt, with fmt's text TOLD by the authors' own Lean function (tested against real Go, not proved from fmt's source: count such statements apart). THE CARD IS WHAT COUNTS. Prove the row's statement (the work); the ties are given (YtcjohgfmdnimjaaDoorTie.lean); close each card by the builder's one call (the guide's Derived/Test/ToyasCard.lean, 'card_holds'). Laid BY PROGRAM, IN A SANDBOX (cutbox-door.mjs). By AI agents, Wed Nov 11 2026. No macro, syntax, notation, axiom, sorry.
-/
import Derived.Test.YtcjohgfmdnimjaaDoorRows
import GoSem.ClaimSeven
namespace Go.Proofs.YtcjohgfmdnimjaaDoor
namespace Rows

/-- THE TIED CARD OF 'terracelaw17.SuppressWaits'. -/
def suppressWaitsCard : Claim7 := { stood := { row := suppressWaitsRow, standIns := [], harness := (true, "90331895fdc59a8a884b0e14d23c69adac779db0207bafbf2d39b649d3f86f56"), looks := false }, kinds := [], alts := [], laidByText := true, laidKinds := [.data], laidTests := true, laidLooks := .later }
def SuppressWaitsCardSaid : Prop := Claim7.holds Tryd.pinned (.plain (OpenSpec.ofChange suppressWaitsSpec)) suppressWaitsCard

/-- THE TIED CARD OF 'terracelaw17.SuppressRises'. -/
def suppressRisesCard : Claim7 := { stood := { row := suppressRisesRow, standIns := [], harness := (true, "90331895fdc59a8a884b0e14d23c69adac779db0207bafbf2d39b649d3f86f56"), looks := false }, kinds := [], alts := [], laidByText := true, laidKinds := [.data], laidTests := true, laidLooks := .later }
def SuppressRisesCardSaid : Prop := Claim7.holds Tryd.pinned (.plain (OpenSpec.ofChange suppressRisesSpec)) suppressRisesCard

/-- THE TIED CARD OF 'terracelaw17.SuppressPlays'. -/
def suppressPlaysCard : Claim7 := { stood := { row := suppressPlaysRow, standIns := [], harness := (true, "90331895fdc59a8a884b0e14d23c69adac779db0207bafbf2d39b649d3f86f56"), looks := false }, kinds := [], alts := [], laidByText := true, laidKinds := [.data], laidTests := true, laidLooks := .later }
def SuppressPlaysCardSaid : Prop := Claim7.holds Tryd.pinned (.plain (OpenSpec.ofChange suppressPlaysSpec)) suppressPlaysCard

/-- THE TIED CARD OF 'terracelaw17.SuppressOnce'. -/
def suppressOnceCard : Claim7 := { stood := { row := suppressOnceRow, standIns := [], harness := (true, "90331895fdc59a8a884b0e14d23c69adac779db0207bafbf2d39b649d3f86f56"), looks := false }, kinds := [], alts := [], laidByText := true, laidKinds := [.data], laidTests := true, laidLooks := .later }
def SuppressOnceCardSaid : Prop := Claim7.holds Tryd.pinned (.plain (OpenSpec.ofChange suppressOnceSpec)) suppressOnceCard

/-- THE TIED CARD OF 'terracelaw17.SuppressTwo'. -/
def suppressTwoCard : Claim7 := { stood := { row := suppressTwoRow, standIns := [], harness := (true, "90331895fdc59a8a884b0e14d23c69adac779db0207bafbf2d39b649d3f86f56"), looks := false }, kinds := [], alts := [], laidByText := true, laidKinds := [.data], laidTests := true, laidLooks := .later }
def SuppressTwoCardSaid : Prop := Claim7.holds Tryd.pinned (.plain (OpenSpec.ofChange suppressTwoSpec)) suppressTwoCard

/-- THE SECOND FORM's CARD OF 'terracelaw17.SuppressWaits'. -/
def suppressWaitsUptoCard : Claim7 := { stood := { row := suppressWaitsUptoRow, standIns := [], harness := (true, "90331895fdc59a8a884b0e14d23c69adac779db0207bafbf2d39b649d3f86f56"), looks := false }, kinds := [], alts := [], laidByText := true, laidKinds := [.data], laidTests := true, laidLooks := .later }
def SuppressWaitsUptoCardSaid : Prop := Claim7.holds Tryd.pinned (.plain (OpenSpec.upto suppressWaitsSpec)) suppressWaitsUptoCard

/-- THE SECOND FORM's CARD OF 'terracelaw17.SuppressRises'. -/
def suppressRisesUptoCard : Claim7 := { stood := { row := suppressRisesUptoRow, standIns := [], harness := (true, "90331895fdc59a8a884b0e14d23c69adac779db0207bafbf2d39b649d3f86f56"), looks := false }, kinds := [], alts := [], laidByText := true, laidKinds := [.data], laidTests := true, laidLooks := .later }
def SuppressRisesUptoCardSaid : Prop := Claim7.holds Tryd.pinned (.plain (OpenSpec.upto suppressRisesSpec)) suppressRisesUptoCard

/-- THE SECOND FORM's CARD OF 'terracelaw17.SuppressPlays'. -/
def suppressPlaysUptoCard : Claim7 := { stood := { row := suppressPlaysUptoRow, standIns := [], harness := (true, "90331895fdc59a8a884b0e14d23c69adac779db0207bafbf2d39b649d3f86f56"), looks := false }, kinds := [], alts := [], laidByText := true, laidKinds := [.data], laidTests := true, laidLooks := .later }
def SuppressPlaysUptoCardSaid : Prop := Claim7.holds Tryd.pinned (.plain (OpenSpec.upto suppressPlaysSpec)) suppressPlaysUptoCard

/-- THE SECOND FORM's CARD OF 'terracelaw17.SuppressOnce'. -/
def suppressOnceUptoCard : Claim7 := { stood := { row := suppressOnceUptoRow, standIns := [], harness := (true, "90331895fdc59a8a884b0e14d23c69adac779db0207bafbf2d39b649d3f86f56"), looks := false }, kinds := [], alts := [], laidByText := true, laidKinds := [.data], laidTests := true, laidLooks := .later }
def SuppressOnceUptoCardSaid : Prop := Claim7.holds Tryd.pinned (.plain (OpenSpec.upto suppressOnceSpec)) suppressOnceUptoCard

/-- THE SECOND FORM's CARD OF 'terracelaw17.SuppressTwo'. -/
def suppressTwoUptoCard : Claim7 := { stood := { row := suppressTwoUptoRow, standIns := [], harness := (true, "90331895fdc59a8a884b0e14d23c69adac779db0207bafbf2d39b649d3f86f56"), looks := false }, kinds := [], alts := [], laidByText := true, laidKinds := [.data], laidTests := true, laidLooks := .later }
def SuppressTwoUptoCardSaid : Prop := Claim7.holds Tryd.pinned (.plain (OpenSpec.upto suppressTwoSpec)) suppressTwoUptoCard
end Rows
end Go.Proofs.YtcjohgfmdnimjaaDoor

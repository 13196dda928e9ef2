/-
  NARROWER THAN 'FOR EVERY INPUT', by the rows' own cells (each row's printed sentence says how): SuppressWaits: laid · SuppressRises: laid · SuppressPlays: laid · SuppressOnce: laid · SuppressTwo: laid.
  DERIVED. THE GIVEN ROWS OF THIS SEAT. 5 by the template 'for every input the law returns true; each argument reads behind the call as it read before'; 0 by the template 'total and deterministic' (their statements: YtcjohgfmdnimjaaDoorTotals.lean).
  GIVEN WITH THE SEED: the statements are not yours to turn. If you find one false, say at which input.
  Laid BY PROGRAM, IN A SANDBOX (cutbox-rows.mjs): the forced cells as the released guide's own fill.sh prints them over the translation 7cedbf4c89e82f43… (all of the seat's roots in one cut). By AI agents, Wed Nov 11 2026. No macro, syntax, notation, axiom, sorry.
-/
import Derived.Test.YtcjohgfmdnimjaaDoorChecked
import GoSem.Claim
import GoSem.ClaimJoined
import GoSem.ClaimMapViews
import Derived.JoinedTies
import Derived.KernelRfl
namespace Go.Proofs.YtcjohgfmdnimjaaDoor
/- THE CELL 'sum', in the pinned program and in every row, IS THE sha256 OF THE DUMP (.gsa) THAT YtcjohgfmdnimjaaDoorProg.lean LOADS. Nothing in Lean hashes anything: it is a label: what it is worth is what the hold of that sum in a sandbox is worth. -/
noncomputable def Tryd.pinned : Pinned := { name := "ytcjohgfmdnimjaadoor", sum := "7cedbf4c89e82f43d251c53a95edd6cd431179f389e65f68d6d6d23ed0671f0b", checked := Tryd.checked }
namespace Rows
def none {H : Type} : Left H := { results := [], args := [] }

/- WHAT THE LISTED PACKAGE-LEVEL VARIABLES READ AS WHEN THE CALL BEGINS. Each datum BY PROGRAM (the guide's laid-datum.mjs) off the statement by which the dump's own 'gosem.cut.vars' lays the variable. In a bare row this is a premise. The card (YtcjohgfmdnimjaaDoorCards.lean) ties it to the program's text. -/
def laid_terrace_logs_steps {H : Type} : DataW H := .agg [.lit (.int .i64 0), .lit (.int .i64 5732), .lit (.int .i64 11136), .lit (.int .i64 16248), .lit (.int .i64 21098), .lit (.int .i64 25711), .lit (.int .i64 30109), .lit (.int .i64 34312), .lit (.int .i64 38336), .lit (.int .i64 42196), .lit (.int .i64 45904), .lit (.int .i64 49472), .lit (.int .i64 52911), .lit (.int .i64 56229), .lit (.int .i64 59434), .lit (.int .i64 62534), .lit (.int .i64 65536)]

/-- 'terracelaw17.SuppressWaits': WHATEVER THE INPUT: true; the input reads as it did. -/
def suppressWaitsSpec : ChangeSpec := { name := "suppressWaits", fn := fun _ => fun
  | [d1, d2, d3] => { results := [.lit (.bool true)], args := [d1, d2, d3] }
  | _ => none }
def suppressWaitsRow : OpenClaim := { program := "ytcjohgfmdnimjaadoor", sum := "7cedbf4c89e82f43d251c53a95edd6cd431179f389e65f68d6d6d23ed0671f0b", func := "terrace/terracelaw17.SuppressWaits", spec := "suppressWaits", named := ["terrace/logs.steps", "math/bits.divideError", "math/bits.overflowError"], apart := false, laid := [("terrace/logs.steps", laid_terrace_logs_steps)] }
def SuppressWaitsSaid : Prop := suppressWaitsRow.holds Tryd.pinned (OpenSpec.ofChange suppressWaitsSpec)

/-- ITS FALSE NEIGHBOUR: 'it returns false'. Refute it at one input. -/
def suppressWaitsWrong : ChangeSpec := { name := "suppressWaits", fn := fun _ => fun
  | [d1, d2, d3] => { results := [.lit (.bool false)], args := [d1, d2, d3] }
  | _ => none }
def SuppressWaitsWrongFalsely : Prop := suppressWaitsRow.holds Tryd.pinned (OpenSpec.ofChange suppressWaitsWrong)

/-- 'terracelaw17.SuppressRises': WHATEVER THE INPUT: true; the input reads as it did. -/
def suppressRisesSpec : ChangeSpec := { name := "suppressRises", fn := fun _ => fun
  | [d] => { results := [.lit (.bool true)], args := [d] }
  | _ => none }
def suppressRisesRow : OpenClaim := { program := "ytcjohgfmdnimjaadoor", sum := "7cedbf4c89e82f43d251c53a95edd6cd431179f389e65f68d6d6d23ed0671f0b", func := "terrace/terracelaw17.SuppressRises", spec := "suppressRises", named := ["terrace/logs.steps", "math/bits.divideError", "math/bits.overflowError"], apart := false, laid := [("terrace/logs.steps", laid_terrace_logs_steps)] }
def SuppressRisesSaid : Prop := suppressRisesRow.holds Tryd.pinned (OpenSpec.ofChange suppressRisesSpec)

/-- ITS FALSE NEIGHBOUR: 'it returns false'. Refute it at one input. -/
def suppressRisesWrong : ChangeSpec := { name := "suppressRises", fn := fun _ => fun
  | [d] => { results := [.lit (.bool false)], args := [d] }
  | _ => none }
def SuppressRisesWrongFalsely : Prop := suppressRisesRow.holds Tryd.pinned (OpenSpec.ofChange suppressRisesWrong)

/-- 'terracelaw17.SuppressPlays': WHATEVER THE INPUT: true; the input reads as it did. -/
def suppressPlaysSpec : ChangeSpec := { name := "suppressPlays", fn := fun _ => fun
  | [d] => { results := [.lit (.bool true)], args := [d] }
  | _ => none }
def suppressPlaysRow : OpenClaim := { program := "ytcjohgfmdnimjaadoor", sum := "7cedbf4c89e82f43d251c53a95edd6cd431179f389e65f68d6d6d23ed0671f0b", func := "terrace/terracelaw17.SuppressPlays", spec := "suppressPlays", named := ["terrace/logs.steps", "math/bits.divideError", "math/bits.overflowError"], apart := false, laid := [("terrace/logs.steps", laid_terrace_logs_steps)] }
def SuppressPlaysSaid : Prop := suppressPlaysRow.holds Tryd.pinned (OpenSpec.ofChange suppressPlaysSpec)

/-- ITS FALSE NEIGHBOUR: 'it returns false'. Refute it at one input. -/
def suppressPlaysWrong : ChangeSpec := { name := "suppressPlays", fn := fun _ => fun
  | [d] => { results := [.lit (.bool false)], args := [d] }
  | _ => none }
def SuppressPlaysWrongFalsely : Prop := suppressPlaysRow.holds Tryd.pinned (OpenSpec.ofChange suppressPlaysWrong)

/-- 'terracelaw17.SuppressOnce': WHATEVER THE INPUT: true; the input reads as it did. -/
def suppressOnceSpec : ChangeSpec := { name := "suppressOnce", fn := fun _ => fun
  | [d] => { results := [.lit (.bool true)], args := [d] }
  | _ => none }
def suppressOnceRow : OpenClaim := { program := "ytcjohgfmdnimjaadoor", sum := "7cedbf4c89e82f43d251c53a95edd6cd431179f389e65f68d6d6d23ed0671f0b", func := "terrace/terracelaw17.SuppressOnce", spec := "suppressOnce", named := ["terrace/logs.steps", "math/bits.divideError", "math/bits.overflowError"], apart := false, laid := [("terrace/logs.steps", laid_terrace_logs_steps)] }
def SuppressOnceSaid : Prop := suppressOnceRow.holds Tryd.pinned (OpenSpec.ofChange suppressOnceSpec)

/-- ITS FALSE NEIGHBOUR: 'it returns false'. Refute it at one input. -/
def suppressOnceWrong : ChangeSpec := { name := "suppressOnce", fn := fun _ => fun
  | [d] => { results := [.lit (.bool false)], args := [d] }
  | _ => none }
def SuppressOnceWrongFalsely : Prop := suppressOnceRow.holds Tryd.pinned (OpenSpec.ofChange suppressOnceWrong)

/-- 'terracelaw17.SuppressTwo': WHATEVER THE INPUT: true; the input reads as it did. -/
def suppressTwoSpec : ChangeSpec := { name := "suppressTwo", fn := fun _ => fun
  | [d] => { results := [.lit (.bool true)], args := [d] }
  | _ => none }
def suppressTwoRow : OpenClaim := { program := "ytcjohgfmdnimjaadoor", sum := "7cedbf4c89e82f43d251c53a95edd6cd431179f389e65f68d6d6d23ed0671f0b", func := "terrace/terracelaw17.SuppressTwo", spec := "suppressTwo", named := ["terrace/logs.steps", "math/bits.divideError", "math/bits.overflowError"], apart := false, laid := [("terrace/logs.steps", laid_terrace_logs_steps)] }
def SuppressTwoSaid : Prop := suppressTwoRow.holds Tryd.pinned (OpenSpec.ofChange suppressTwoSpec)

/-- ITS FALSE NEIGHBOUR: 'it returns false'. Refute it at one input. -/
def suppressTwoWrong : ChangeSpec := { name := "suppressTwo", fn := fun _ => fun
  | [d] => { results := [.lit (.bool false)], args := [d] }
  | _ => none }
def SuppressTwoWrongFalsely : Prop := suppressTwoRow.holds Tryd.pinned (OpenSpec.ofChange suppressTwoWrong)

/- THE SECOND FORM. 'bulk': how many values and letters a reading holds, each counted each time it is reached (what is shared counts as often as it is met; a slice's spare places count too). A statement '..UptoSaid' is the law's where the arguments, and the package variables that the reading takes, are together of bulk at most 1048576: NARROWER than '..Said'. Prove '..Said' where nothing that the law and all that it calls make is longer than what came in: it says more and counts as full. Else prove '..UptoSaid'. A law counts once. -/
mutual
def uptoBulk {H : Type} : DataW H → Nat
  | .lit (.string bytes) => bytes.length + 1
  | .lit _ => 1
  | .nil => 1
  | .ptr d => uptoBulk d + 1
  | .slice elems spare => uptoBulkAll elems + uptoBulkAll spare + 1
  | .agg parts => uptoBulkAll parts + 1
  | .iface _ d => uptoBulk d + 1
  | .map entries => uptoBulkEntries entries + 1
  | .held _ => 1
def uptoBulkAll {H : Type} : List (DataW H) → Nat
  | [] => 0
  | d :: r => uptoBulk d + uptoBulkAll r
def uptoBulkEntries {H : Type} : List (Lit × DataW H) → Nat
  | [] => 0
  | x :: r => uptoBulkEntry x + uptoBulkEntries r
def uptoBulkEntry {H : Type} : Lit × DataW H → Nat
  | (.string bytes, d) => bytes.length + uptoBulk d + 1
  | (_, d) => uptoBulk d + 1
 end
def uptoSmall : (H : Type) → List (DataW H) → Bool := fun _ ds => decide (uptoBulkAll ds ≤ 1048576)
def OpenSpec.upto (s : _root_.Go.ChangeSpec) : _root_.Go.OpenSpec := { _root_.Go.OpenSpec.ofChange s with cond := some uptoSmall }

/-- 'terracelaw17.SuppressWaits', WHERE WHAT IT READS IS OF BULK AT MOST 1048576: true; the input reads as it did. -/
def suppressWaitsUptoRow : OpenClaim := { program := "ytcjohgfmdnimjaadoor", sum := "7cedbf4c89e82f43d251c53a95edd6cd431179f389e65f68d6d6d23ed0671f0b", func := "terrace/terracelaw17.SuppressWaits", spec := "suppressWaits", named := ["terrace/logs.steps", "math/bits.divideError", "math/bits.overflowError"], apart := false, laid := [("terrace/logs.steps", laid_terrace_logs_steps)], narrowed := true }
def SuppressWaitsUptoSaid : Prop := suppressWaitsUptoRow.holds Tryd.pinned (OpenSpec.upto suppressWaitsSpec)

/-- 'terracelaw17.SuppressRises', WHERE WHAT IT READS IS OF BULK AT MOST 1048576: true; the input reads as it did. -/
def suppressRisesUptoRow : OpenClaim := { program := "ytcjohgfmdnimjaadoor", sum := "7cedbf4c89e82f43d251c53a95edd6cd431179f389e65f68d6d6d23ed0671f0b", func := "terrace/terracelaw17.SuppressRises", spec := "suppressRises", named := ["terrace/logs.steps", "math/bits.divideError", "math/bits.overflowError"], apart := false, laid := [("terrace/logs.steps", laid_terrace_logs_steps)], narrowed := true }
def SuppressRisesUptoSaid : Prop := suppressRisesUptoRow.holds Tryd.pinned (OpenSpec.upto suppressRisesSpec)

/-- 'terracelaw17.SuppressPlays', WHERE WHAT IT READS IS OF BULK AT MOST 1048576: true; the input reads as it did. -/
def suppressPlaysUptoRow : OpenClaim := { program := "ytcjohgfmdnimjaadoor", sum := "7cedbf4c89e82f43d251c53a95edd6cd431179f389e65f68d6d6d23ed0671f0b", func := "terrace/terracelaw17.SuppressPlays", spec := "suppressPlays", named := ["terrace/logs.steps", "math/bits.divideError", "math/bits.overflowError"], apart := false, laid := [("terrace/logs.steps", laid_terrace_logs_steps)], narrowed := true }
def SuppressPlaysUptoSaid : Prop := suppressPlaysUptoRow.holds Tryd.pinned (OpenSpec.upto suppressPlaysSpec)

/-- 'terracelaw17.SuppressOnce', WHERE WHAT IT READS IS OF BULK AT MOST 1048576: true; the input reads as it did. -/
def suppressOnceUptoRow : OpenClaim := { program := "ytcjohgfmdnimjaadoor", sum := "7cedbf4c89e82f43d251c53a95edd6cd431179f389e65f68d6d6d23ed0671f0b", func := "terrace/terracelaw17.SuppressOnce", spec := "suppressOnce", named := ["terrace/logs.steps", "math/bits.divideError", "math/bits.overflowError"], apart := false, laid := [("terrace/logs.steps", laid_terrace_logs_steps)], narrowed := true }
def SuppressOnceUptoSaid : Prop := suppressOnceUptoRow.holds Tryd.pinned (OpenSpec.upto suppressOnceSpec)

/-- 'terracelaw17.SuppressTwo', WHERE WHAT IT READS IS OF BULK AT MOST 1048576: true; the input reads as it did. -/
def suppressTwoUptoRow : OpenClaim := { program := "ytcjohgfmdnimjaadoor", sum := "7cedbf4c89e82f43d251c53a95edd6cd431179f389e65f68d6d6d23ed0671f0b", func := "terrace/terracelaw17.SuppressTwo", spec := "suppressTwo", named := ["terrace/logs.steps", "math/bits.divideError", "math/bits.overflowError"], apart := false, laid := [("terrace/logs.steps", laid_terrace_logs_steps)], narrowed := true }
def SuppressTwoUptoSaid : Prop := suppressTwoUptoRow.holds Tryd.pinned (OpenSpec.upto suppressTwoSpec)

end Rows
end Go.Proofs.YtcjohgfmdnimjaaDoor

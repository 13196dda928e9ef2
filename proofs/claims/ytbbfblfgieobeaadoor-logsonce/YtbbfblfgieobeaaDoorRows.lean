/-
  NARROWER THAN 'FOR EVERY INPUT', by the rows' own cells (each row's printed sentence says how): LogsTell: laid · LogsRise: laid · LogsDouble: laid · LogsOnce: laid.
  DERIVED. THE GIVEN ROWS OF THIS SEAT. 4 by the template 'for every input the law returns true; each argument reads behind the call as it read before'; 0 by the template 'total and deterministic' (their statements: YtbbfblfgieobeaaDoorTotals.lean).
  GIVEN WITH THE SEED: the statements are not yours to turn. If you find one false, say at which input.
  Laid BY PROGRAM, IN A SANDBOX (cutbox-rows.mjs): the forced cells as the released guide's own fill.sh prints them over the translation 3b0bf2ee485cf720… (all of the seat's roots in one cut). By AI agents, Wed Nov 11 2026. No macro, syntax, notation, axiom, sorry.
-/
import Derived.Test.YtbbfblfgieobeaaDoorChecked
import GoSem.Claim
import GoSem.ClaimJoined
import GoSem.ClaimMapViews
import Derived.JoinedTies
import Derived.KernelRfl
namespace Go.Proofs.YtbbfblfgieobeaaDoor
/- THE CELL 'sum', in the pinned program and in every row, IS THE sha256 OF THE DUMP (.gsa) THAT YtbbfblfgieobeaaDoorProg.lean LOADS. Nothing in Lean hashes anything: it is a label: what it is worth is what the hold of that sum in a sandbox is worth. -/
noncomputable def Tryd.pinned : Pinned := { name := "ytbbfblfgieobeaadoor", sum := "3b0bf2ee485cf72017890cfaa14d89f5bad44eff383628982a5a7fc7820b828a", checked := Tryd.checked }
namespace Rows
def none {H : Type} : Left H := { results := [], args := [] }

/- WHAT THE LISTED PACKAGE-LEVEL VARIABLES READ AS WHEN THE CALL BEGINS. Each datum BY PROGRAM (the guide's laid-datum.mjs) off the statement by which the dump's own 'gosem.cut.vars' lays the variable. In a bare row this is a premise. The card (YtbbfblfgieobeaaDoorCards.lean) ties it to the program's text. -/
def laid_terrace_logs_steps {H : Type} : DataW H := .agg [.lit (.int .i64 0), .lit (.int .i64 5732), .lit (.int .i64 11136), .lit (.int .i64 16248), .lit (.int .i64 21098), .lit (.int .i64 25711), .lit (.int .i64 30109), .lit (.int .i64 34312), .lit (.int .i64 38336), .lit (.int .i64 42196), .lit (.int .i64 45904), .lit (.int .i64 49472), .lit (.int .i64 52911), .lit (.int .i64 56229), .lit (.int .i64 59434), .lit (.int .i64 62534), .lit (.int .i64 65536)]

/-- 'terracelaw02.LogsTell': WHATEVER THE INPUT: true; the input reads as it did. -/
def logsTellSpec : ChangeSpec := { name := "logsTell", fn := fun _ => fun
  | [d] => { results := [.lit (.bool true)], args := [d] }
  | _ => none }
def logsTellRow : OpenClaim := { program := "ytbbfblfgieobeaadoor", sum := "3b0bf2ee485cf72017890cfaa14d89f5bad44eff383628982a5a7fc7820b828a", func := "terrace/terracelaw02.LogsTell", spec := "logsTell", named := ["terrace/logs.steps", "math/bits.divideError", "math/bits.overflowError"], apart := false, laid := [("terrace/logs.steps", laid_terrace_logs_steps)] }
def LogsTellSaid : Prop := logsTellRow.holds Tryd.pinned (OpenSpec.ofChange logsTellSpec)

/-- ITS FALSE NEIGHBOUR: 'it returns false'. Refute it at one input. -/
def logsTellWrong : ChangeSpec := { name := "logsTell", fn := fun _ => fun
  | [d] => { results := [.lit (.bool false)], args := [d] }
  | _ => none }
def LogsTellWrongFalsely : Prop := logsTellRow.holds Tryd.pinned (OpenSpec.ofChange logsTellWrong)

/-- 'terracelaw02.LogsRise': WHATEVER THE INPUT: true; the input reads as it did. -/
def logsRiseSpec : ChangeSpec := { name := "logsRise", fn := fun _ => fun
  | [d1, d2] => { results := [.lit (.bool true)], args := [d1, d2] }
  | _ => none }
def logsRiseRow : OpenClaim := { program := "ytbbfblfgieobeaadoor", sum := "3b0bf2ee485cf72017890cfaa14d89f5bad44eff383628982a5a7fc7820b828a", func := "terrace/terracelaw02.LogsRise", spec := "logsRise", named := ["terrace/logs.steps", "math/bits.divideError", "math/bits.overflowError"], apart := false, laid := [("terrace/logs.steps", laid_terrace_logs_steps)] }
def LogsRiseSaid : Prop := logsRiseRow.holds Tryd.pinned (OpenSpec.ofChange logsRiseSpec)

/-- ITS FALSE NEIGHBOUR: 'it returns false'. Refute it at one input. -/
def logsRiseWrong : ChangeSpec := { name := "logsRise", fn := fun _ => fun
  | [d1, d2] => { results := [.lit (.bool false)], args := [d1, d2] }
  | _ => none }
def LogsRiseWrongFalsely : Prop := logsRiseRow.holds Tryd.pinned (OpenSpec.ofChange logsRiseWrong)

/-- 'terracelaw02.LogsDouble': WHATEVER THE INPUT: true; the input reads as it did. -/
def logsDoubleSpec : ChangeSpec := { name := "logsDouble", fn := fun _ => fun
  | [d] => { results := [.lit (.bool true)], args := [d] }
  | _ => none }
def logsDoubleRow : OpenClaim := { program := "ytbbfblfgieobeaadoor", sum := "3b0bf2ee485cf72017890cfaa14d89f5bad44eff383628982a5a7fc7820b828a", func := "terrace/terracelaw02.LogsDouble", spec := "logsDouble", named := ["terrace/logs.steps", "math/bits.divideError", "math/bits.overflowError"], apart := false, laid := [("terrace/logs.steps", laid_terrace_logs_steps)] }
def LogsDoubleSaid : Prop := logsDoubleRow.holds Tryd.pinned (OpenSpec.ofChange logsDoubleSpec)

/-- ITS FALSE NEIGHBOUR: 'it returns false'. Refute it at one input. -/
def logsDoubleWrong : ChangeSpec := { name := "logsDouble", fn := fun _ => fun
  | [d] => { results := [.lit (.bool false)], args := [d] }
  | _ => none }
def LogsDoubleWrongFalsely : Prop := logsDoubleRow.holds Tryd.pinned (OpenSpec.ofChange logsDoubleWrong)

/-- 'terracelaw02.LogsOnce': WHATEVER THE INPUT: true; the input reads as it did. -/
def logsOnceSpec : ChangeSpec := { name := "logsOnce", fn := fun _ => fun
  | [d] => { results := [.lit (.bool true)], args := [d] }
  | _ => none }
def logsOnceRow : OpenClaim := { program := "ytbbfblfgieobeaadoor", sum := "3b0bf2ee485cf72017890cfaa14d89f5bad44eff383628982a5a7fc7820b828a", func := "terrace/terracelaw02.LogsOnce", spec := "logsOnce", inPlace := ["sync/atomic.LoadInt32", "sync/atomic.AddInt32", "sync/atomic.LoadUint32", "(*internal/sync.Mutex).Lock", "internal/race.Disable", "sync/atomic.CompareAndSwapInt32", "internal/race.Enable", "internal/race.Acquire", "(*internal/sync.Mutex).lockSlow", "internal/sync.runtime_canSpin", "internal/sync.runtime_doSpin", "internal/sync.throw", "internal/sync.runtime_nanotime", "internal/sync.runtime_SemacquireMutex", "(*internal/sync.Mutex).Unlock", "internal/race.ReleaseMerge", "(*internal/sync.Mutex).unlockSlow", "internal/sync.fatal", "internal/sync.runtime_Semrelease", "sync/atomic.StoreUint32"], unfollowed := true, recurses := true, named := ["terrace/logs.steps", "math/bits.divideError", "math/bits.overflowError"], apart := false, laid := [("terrace/logs.steps", laid_terrace_logs_steps)] }
def LogsOnceSaid : Prop := logsOnceRow.holds Tryd.pinned (OpenSpec.ofChange logsOnceSpec)

/-- ITS FALSE NEIGHBOUR: 'it returns false'. Refute it at one input. -/
def logsOnceWrong : ChangeSpec := { name := "logsOnce", fn := fun _ => fun
  | [d] => { results := [.lit (.bool false)], args := [d] }
  | _ => none }
def LogsOnceWrongFalsely : Prop := logsOnceRow.holds Tryd.pinned (OpenSpec.ofChange logsOnceWrong)

/- THE SECOND FORM. 'bulk': how many values and letters a reading holds, each counted each time it is reached (what is shared counts as often as it is met; a slice's spare places count too). A statement '..UptoSaid' is the law's where the arguments, and the package variables that the reading takes, are together of bulk at most 1048576: NARROWER than '..Said'. Prove '..Said' where nothing that the law and all that it calls make is longer than what came in: it says more and counts as full. Else prove '..UptoSaid'. A law counts once. -/
mutual
def uptoBulk {H : Type} : DataW H → Nat
  | .lit (.string bytes) => bytes.length + 1
  | .lit _ => 1
  | .nil => 1
  | .ptr d => uptoBulk d + 1
  | .slice elems spare => uptoBulkAll elems + uptoBulkAll spare + 1
  | .agg parts => uptoBulkAll parts + 1
  | .iface _ d => uptoBulk d + 1
  | .map entries => uptoBulkEntries entries + 1
  | .held _ => 1
def uptoBulkAll {H : Type} : List (DataW H) → Nat
  | [] => 0
  | d :: r => uptoBulk d + uptoBulkAll r
def uptoBulkEntries {H : Type} : List (Lit × DataW H) → Nat
  | [] => 0
  | x :: r => uptoBulkEntry x + uptoBulkEntries r
def uptoBulkEntry {H : Type} : Lit × DataW H → Nat
  | (.string bytes, d) => bytes.length + uptoBulk d + 1
  | (_, d) => uptoBulk d + 1
 end
def uptoSmall : (H : Type) → List (DataW H) → Bool := fun _ ds => decide (uptoBulkAll ds ≤ 1048576)
def OpenSpec.upto (s : _root_.Go.ChangeSpec) : _root_.Go.OpenSpec := { _root_.Go.OpenSpec.ofChange s with cond := some uptoSmall }

/-- 'terracelaw02.LogsTell', WHERE WHAT IT READS IS OF BULK AT MOST 1048576: true; the input reads as it did. -/
def logsTellUptoRow : OpenClaim := { program := "ytbbfblfgieobeaadoor", sum := "3b0bf2ee485cf72017890cfaa14d89f5bad44eff383628982a5a7fc7820b828a", func := "terrace/terracelaw02.LogsTell", spec := "logsTell", named := ["terrace/logs.steps", "math/bits.divideError", "math/bits.overflowError"], apart := false, laid := [("terrace/logs.steps", laid_terrace_logs_steps)], narrowed := true }
def LogsTellUptoSaid : Prop := logsTellUptoRow.holds Tryd.pinned (OpenSpec.upto logsTellSpec)

/-- 'terracelaw02.LogsRise', WHERE WHAT IT READS IS OF BULK AT MOST 1048576: true; the input reads as it did. -/
def logsRiseUptoRow : OpenClaim := { program := "ytbbfblfgieobeaadoor", sum := "3b0bf2ee485cf72017890cfaa14d89f5bad44eff383628982a5a7fc7820b828a", func := "terrace/terracelaw02.LogsRise", spec := "logsRise", named := ["terrace/logs.steps", "math/bits.divideError", "math/bits.overflowError"], apart := false, laid := [("terrace/logs.steps", laid_terrace_logs_steps)], narrowed := true }
def LogsRiseUptoSaid : Prop := logsRiseUptoRow.holds Tryd.pinned (OpenSpec.upto logsRiseSpec)

/-- 'terracelaw02.LogsDouble', WHERE WHAT IT READS IS OF BULK AT MOST 1048576: true; the input reads as it did. -/
def logsDoubleUptoRow : OpenClaim := { program := "ytbbfblfgieobeaadoor", sum := "3b0bf2ee485cf72017890cfaa14d89f5bad44eff383628982a5a7fc7820b828a", func := "terrace/terracelaw02.LogsDouble", spec := "logsDouble", named := ["terrace/logs.steps", "math/bits.divideError", "math/bits.overflowError"], apart := false, laid := [("terrace/logs.steps", laid_terrace_logs_steps)], narrowed := true }
def LogsDoubleUptoSaid : Prop := logsDoubleUptoRow.holds Tryd.pinned (OpenSpec.upto logsDoubleSpec)

/-- 'terracelaw02.LogsOnce', WHERE WHAT IT READS IS OF BULK AT MOST 1048576: true; the input reads as it did. -/
def logsOnceUptoRow : OpenClaim := { program := "ytbbfblfgieobeaadoor", sum := "3b0bf2ee485cf72017890cfaa14d89f5bad44eff383628982a5a7fc7820b828a", func := "terrace/terracelaw02.LogsOnce", spec := "logsOnce", inPlace := ["sync/atomic.LoadInt32", "sync/atomic.AddInt32", "sync/atomic.LoadUint32", "(*internal/sync.Mutex).Lock", "internal/race.Disable", "sync/atomic.CompareAndSwapInt32", "internal/race.Enable", "internal/race.Acquire", "(*internal/sync.Mutex).lockSlow", "internal/sync.runtime_canSpin", "internal/sync.runtime_doSpin", "internal/sync.throw", "internal/sync.runtime_nanotime", "internal/sync.runtime_SemacquireMutex", "(*internal/sync.Mutex).Unlock", "internal/race.ReleaseMerge", "(*internal/sync.Mutex).unlockSlow", "internal/sync.fatal", "internal/sync.runtime_Semrelease", "sync/atomic.StoreUint32"], unfollowed := true, recurses := true, named := ["terrace/logs.steps", "math/bits.divideError", "math/bits.overflowError"], apart := false, laid := [("terrace/logs.steps", laid_terrace_logs_steps)], narrowed := true }
def LogsOnceUptoSaid : Prop := logsOnceUptoRow.holds Tryd.pinned (OpenSpec.upto logsOnceSpec)

end Rows
end Go.Proofs.YtbbfblfgieobeaaDoor

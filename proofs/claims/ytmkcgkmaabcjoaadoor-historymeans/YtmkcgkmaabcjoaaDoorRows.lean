/-
  NARROWER THAN 'FOR EVERY INPUT', by the rows' own cells (each row's printed sentence says how): HistoryPlays: laid · HistoryMeans: laid · HistoryRates: laid · HistoryCopies: laid.
  DERIVED. THE GIVEN ROWS OF THIS SEAT. 4 by the template 'for every input the law returns true; each argument reads behind the call as it read before'; 0 by the template 'total and deterministic' (their statements: YtmkcgkmaabcjoaaDoorTotals.lean).
  GIVEN WITH THE SEED: the statements are not yours to turn. If you find one false, say at which input.
  Laid BY PROGRAM, IN A SANDBOX (cutbox-rows.mjs): the forced cells as the released guide's own fill.sh prints them over the translation 522ed6365ac65ae5… (all of the seat's roots in one cut). By AI agents, Wed Nov 11 2026. No macro, syntax, notation, axiom, sorry.
-/
import Derived.Test.YtmkcgkmaabcjoaaDoorChecked
import GoSem.Claim
import GoSem.ClaimJoined
import GoSem.ClaimMapViews
import Derived.JoinedTies
import Derived.KernelRfl
namespace Go.Proofs.YtmkcgkmaabcjoaaDoor
/- THE CELL 'sum', in the pinned program and in every row, IS THE sha256 OF THE DUMP (.gsa) THAT YtmkcgkmaabcjoaaDoorProg.lean LOADS. Nothing in Lean hashes anything: it is a label: what it is worth is what the hold of that sum in a sandbox is worth. -/
noncomputable def Tryd.pinned : Pinned := { name := "ytmkcgkmaabcjoaadoor", sum := "522ed6365ac65ae577451558ba935263b383f2ff8dfb022de011745a65f4fea8", checked := Tryd.checked }
namespace Rows
def none {H : Type} : Left H := { results := [], args := [] }

/- WHAT THE LISTED PACKAGE-LEVEL VARIABLES READ AS WHEN THE CALL BEGINS. Each datum BY PROGRAM (the guide's laid-datum.mjs) off the statement by which the dump's own 'gosem.cut.vars' lays the variable. In a bare row this is a premise. The card (YtmkcgkmaabcjoaaDoorCards.lean) ties it to the program's text. -/
def laid_terrace_history_weights {H : Type} : DataW H := .agg [.lit (.int .i64 5), .lit (.int .i64 5), .lit (.int .i64 5), .lit (.int .i64 5), .lit (.int .i64 4), .lit (.int .i64 3), .lit (.int .i64 2), .lit (.int .i64 1)]

/-- 'terracelaw14.HistoryPlays': WHATEVER THE INPUT: true; the input reads as it did. -/
def historyPlaysSpec : ChangeSpec := { name := "historyPlays", fn := fun _ => fun
  | [d] => { results := [.lit (.bool true)], args := [d] }
  | _ => none }
def historyPlaysRow : OpenClaim := { program := "ytmkcgkmaabcjoaadoor", sum := "522ed6365ac65ae577451558ba935263b383f2ff8dfb022de011745a65f4fea8", func := "terrace/terracelaw14.HistoryPlays", spec := "historyPlays", named := ["terrace/history.weights", "math/bits.divideError", "math/bits.overflowError"], apart := false, laid := [("terrace/history.weights", laid_terrace_history_weights)] }
def HistoryPlaysSaid : Prop := historyPlaysRow.holds Tryd.pinned (OpenSpec.ofChange historyPlaysSpec)

/-- ITS FALSE NEIGHBOUR: 'it returns false'. Refute it at one input. -/
def historyPlaysWrong : ChangeSpec := { name := "historyPlays", fn := fun _ => fun
  | [d] => { results := [.lit (.bool false)], args := [d] }
  | _ => none }
def HistoryPlaysWrongFalsely : Prop := historyPlaysRow.holds Tryd.pinned (OpenSpec.ofChange historyPlaysWrong)

/-- 'terracelaw14.HistoryMeans': WHATEVER THE INPUT: true; the input reads as it did. -/
def historyMeansSpec : ChangeSpec := { name := "historyMeans", fn := fun _ => fun
  | [d] => { results := [.lit (.bool true)], args := [d] }
  | _ => none }
def historyMeansRow : OpenClaim := { program := "ytmkcgkmaabcjoaadoor", sum := "522ed6365ac65ae577451558ba935263b383f2ff8dfb022de011745a65f4fea8", func := "terrace/terracelaw14.HistoryMeans", spec := "historyMeans", named := ["terrace/history.weights", "math/bits.divideError", "math/bits.overflowError"], apart := false, laid := [("terrace/history.weights", laid_terrace_history_weights)] }
def HistoryMeansSaid : Prop := historyMeansRow.holds Tryd.pinned (OpenSpec.ofChange historyMeansSpec)

/-- ITS FALSE NEIGHBOUR: 'it returns false'. Refute it at one input. -/
def historyMeansWrong : ChangeSpec := { name := "historyMeans", fn := fun _ => fun
  | [d] => { results := [.lit (.bool false)], args := [d] }
  | _ => none }
def HistoryMeansWrongFalsely : Prop := historyMeansRow.holds Tryd.pinned (OpenSpec.ofChange historyMeansWrong)

/-- 'terracelaw14.HistoryRates': WHATEVER THE INPUT: true; the input reads as it did. -/
def historyRatesSpec : ChangeSpec := { name := "historyRates", fn := fun _ => fun
  | [d1, d2] => { results := [.lit (.bool true)], args := [d1, d2] }
  | _ => none }
def historyRatesRow : OpenClaim := { program := "ytmkcgkmaabcjoaadoor", sum := "522ed6365ac65ae577451558ba935263b383f2ff8dfb022de011745a65f4fea8", func := "terrace/terracelaw14.HistoryRates", spec := "historyRates", named := ["terrace/history.weights", "math/bits.divideError", "math/bits.overflowError"], apart := false, laid := [("terrace/history.weights", laid_terrace_history_weights)] }
def HistoryRatesSaid : Prop := historyRatesRow.holds Tryd.pinned (OpenSpec.ofChange historyRatesSpec)

/-- ITS FALSE NEIGHBOUR: 'it returns false'. Refute it at one input. -/
def historyRatesWrong : ChangeSpec := { name := "historyRates", fn := fun _ => fun
  | [d1, d2] => { results := [.lit (.bool false)], args := [d1, d2] }
  | _ => none }
def HistoryRatesWrongFalsely : Prop := historyRatesRow.holds Tryd.pinned (OpenSpec.ofChange historyRatesWrong)

/-- 'terracelaw14.HistoryCopies': WHATEVER THE INPUT: true; the input reads as it did. -/
def historyCopiesSpec : ChangeSpec := { name := "historyCopies", fn := fun _ => fun
  | [d1, d2] => { results := [.lit (.bool true)], args := [d1, d2] }
  | _ => none }
def historyCopiesRow : OpenClaim := { program := "ytmkcgkmaabcjoaadoor", sum := "522ed6365ac65ae577451558ba935263b383f2ff8dfb022de011745a65f4fea8", func := "terrace/terracelaw14.HistoryCopies", spec := "historyCopies", named := ["terrace/history.weights", "math/bits.divideError", "math/bits.overflowError"], apart := false, laid := [("terrace/history.weights", laid_terrace_history_weights)] }
def HistoryCopiesSaid : Prop := historyCopiesRow.holds Tryd.pinned (OpenSpec.ofChange historyCopiesSpec)

/-- ITS FALSE NEIGHBOUR: 'it returns false'. Refute it at one input. -/
def historyCopiesWrong : ChangeSpec := { name := "historyCopies", fn := fun _ => fun
  | [d1, d2] => { results := [.lit (.bool false)], args := [d1, d2] }
  | _ => none }
def HistoryCopiesWrongFalsely : Prop := historyCopiesRow.holds Tryd.pinned (OpenSpec.ofChange historyCopiesWrong)

/- THE SECOND FORM. 'bulk': how many values and letters a reading holds, each counted each time it is reached (what is shared counts as often as it is met; a slice's spare places count too). A statement '..UptoSaid' is the law's where the arguments, and the package variables that the reading takes, are together of bulk at most 1048576: NARROWER than '..Said'. Prove '..Said' where nothing that the law and all that it calls make is longer than what came in: it says more and counts as full. Else prove '..UptoSaid'. A law counts once. -/
mutual
def uptoBulk {H : Type} : DataW H → Nat
  | .lit (.string bytes) => bytes.length + 1
  | .lit _ => 1
  | .nil => 1
  | .ptr d => uptoBulk d + 1
  | .slice elems spare => uptoBulkAll elems + uptoBulkAll spare + 1
  | .agg parts => uptoBulkAll parts + 1
  | .iface _ d => uptoBulk d + 1
  | .map entries => uptoBulkEntries entries + 1
  | .held _ => 1
def uptoBulkAll {H : Type} : List (DataW H) → Nat
  | [] => 0
  | d :: r => uptoBulk d + uptoBulkAll r
def uptoBulkEntries {H : Type} : List (Lit × DataW H) → Nat
  | [] => 0
  | x :: r => uptoBulkEntry x + uptoBulkEntries r
def uptoBulkEntry {H : Type} : Lit × DataW H → Nat
  | (.string bytes, d) => bytes.length + uptoBulk d + 1
  | (_, d) => uptoBulk d + 1
 end
def uptoSmall : (H : Type) → List (DataW H) → Bool := fun _ ds => decide (uptoBulkAll ds ≤ 1048576)
def OpenSpec.upto (s : _root_.Go.ChangeSpec) : _root_.Go.OpenSpec := { _root_.Go.OpenSpec.ofChange s with cond := some uptoSmall }

/-- 'terracelaw14.HistoryPlays', WHERE WHAT IT READS IS OF BULK AT MOST 1048576: true; the input reads as it did. -/
def historyPlaysUptoRow : OpenClaim := { program := "ytmkcgkmaabcjoaadoor", sum := "522ed6365ac65ae577451558ba935263b383f2ff8dfb022de011745a65f4fea8", func := "terrace/terracelaw14.HistoryPlays", spec := "historyPlays", named := ["terrace/history.weights", "math/bits.divideError", "math/bits.overflowError"], apart := false, laid := [("terrace/history.weights", laid_terrace_history_weights)], narrowed := true }
def HistoryPlaysUptoSaid : Prop := historyPlaysUptoRow.holds Tryd.pinned (OpenSpec.upto historyPlaysSpec)

/-- 'terracelaw14.HistoryMeans', WHERE WHAT IT READS IS OF BULK AT MOST 1048576: true; the input reads as it did. -/
def historyMeansUptoRow : OpenClaim := { program := "ytmkcgkmaabcjoaadoor", sum := "522ed6365ac65ae577451558ba935263b383f2ff8dfb022de011745a65f4fea8", func := "terrace/terracelaw14.HistoryMeans", spec := "historyMeans", named := ["terrace/history.weights", "math/bits.divideError", "math/bits.overflowError"], apart := false, laid := [("terrace/history.weights", laid_terrace_history_weights)], narrowed := true }
def HistoryMeansUptoSaid : Prop := historyMeansUptoRow.holds Tryd.pinned (OpenSpec.upto historyMeansSpec)

/-- 'terracelaw14.HistoryRates', WHERE WHAT IT READS IS OF BULK AT MOST 1048576: true; the input reads as it did. -/
def historyRatesUptoRow : OpenClaim := { program := "ytmkcgkmaabcjoaadoor", sum := "522ed6365ac65ae577451558ba935263b383f2ff8dfb022de011745a65f4fea8", func := "terrace/terracelaw14.HistoryRates", spec := "historyRates", named := ["terrace/history.weights", "math/bits.divideError", "math/bits.overflowError"], apart := false, laid := [("terrace/history.weights", laid_terrace_history_weights)], narrowed := true }
def HistoryRatesUptoSaid : Prop := historyRatesUptoRow.holds Tryd.pinned (OpenSpec.upto historyRatesSpec)

/-- 'terracelaw14.HistoryCopies', WHERE WHAT IT READS IS OF BULK AT MOST 1048576: true; the input reads as it did. -/
def historyCopiesUptoRow : OpenClaim := { program := "ytmkcgkmaabcjoaadoor", sum := "522ed6365ac65ae577451558ba935263b383f2ff8dfb022de011745a65f4fea8", func := "terrace/terracelaw14.HistoryCopies", spec := "historyCopies", named := ["terrace/history.weights", "math/bits.divideError", "math/bits.overflowError"], apart := false, laid := [("terrace/history.weights", laid_terrace_history_weights)], narrowed := true }
def HistoryCopiesUptoSaid : Prop := historyCopiesUptoRow.holds Tryd.pinned (OpenSpec.upto historyCopiesSpec)

end Rows
end Go.Proofs.YtmkcgkmaabcjoaaDoor

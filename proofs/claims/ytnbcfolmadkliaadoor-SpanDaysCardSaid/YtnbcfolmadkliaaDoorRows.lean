/-
  NARROWER THAN 'FOR EVERY INPUT', by the rows' own cells (each row's printed sentence says how): SpanDays: laid · SpanNormal: laid · SpanTerms: laid · SpanYears: laid.
  DERIVED. THE GIVEN ROWS OF THIS SEAT. 4 by the template 'for every input the law returns true; each argument reads behind the call as it read before'; 0 by the template 'total and deterministic' (their statements: YtnbcfolmadkliaaDoorTotals.lean).
  GIVEN WITH THE SEED: the statements are not yours to turn. If you find one false, say at which input.
  Laid BY PROGRAM, IN A SANDBOX (cutbox-rows.mjs): the forced cells as the released guide's own fill.sh prints them over the translation 30b4825c8dab2a0a… (all of the seat's roots in one cut). By AI agents, Wed Nov 11 2026. No macro, syntax, notation, axiom, sorry.
-/
import Derived.Test.YtnbcfolmadkliaaDoorChecked
import GoSem.Claim
import GoSem.ClaimJoined
import GoSem.ClaimMapViews
import Derived.JoinedTies
import Derived.KernelRfl
namespace Go.Proofs.YtnbcfolmadkliaaDoor
/- THE CELL 'sum', in the pinned program and in every row, IS THE sha256 OF THE DUMP (.gsa) THAT YtnbcfolmadkliaaDoorProg.lean LOADS. Nothing in Lean hashes anything: it is a label: what it is worth is what the hold of that sum in a sandbox is worth. -/
noncomputable def Tryd.pinned : Pinned := { name := "ytnbcfolmadkliaadoor", sum := "30b4825c8dab2a0ac1ebe45960720995e1334ad4a13240f2afa02bd6912a50e9", checked := Tryd.checked }
namespace Rows
def none {H : Type} : Left H := { results := [], args := [] }

/- WHAT THE LISTED PACKAGE-LEVEL VARIABLES READ AS WHEN THE CALL BEGINS. Each datum BY PROGRAM (the guide's laid-datum.mjs) off the statement by which the dump's own 'gosem.cut.vars' lays the variable. In a bare row this is a premise. The card (YtnbcfolmadkliaaDoorCards.lean) ties it to the program's text. -/
def laid_tithing_date_lengths {H : Type} : DataW H := .agg [.lit (.int .i64 31), .lit (.int .i64 28), .lit (.int .i64 31), .lit (.int .i64 30), .lit (.int .i64 31), .lit (.int .i64 30), .lit (.int .i64 31), .lit (.int .i64 31), .lit (.int .i64 30), .lit (.int .i64 31), .lit (.int .i64 30), .lit (.int .i64 31)]

/-- 'tithinglaw05.SpanDays': WHATEVER THE INPUT: true; the input reads as it did. -/
def spanDaysSpec : ChangeSpec := { name := "spanDays", fn := fun _ => fun
  | [d1, d2, d3] => { results := [.lit (.bool true)], args := [d1, d2, d3] }
  | _ => none }
def spanDaysRow : OpenClaim := { program := "ytnbcfolmadkliaadoor", sum := "30b4825c8dab2a0ac1ebe45960720995e1334ad4a13240f2afa02bd6912a50e9", func := "tithing/tithinglaw05.SpanDays", spec := "spanDays", unfollowed := true, recurses := true, named := ["tithing/date.lengths"], apart := false, laid := [("tithing/date.lengths", laid_tithing_date_lengths)] }
def SpanDaysSaid : Prop := spanDaysRow.holds Tryd.pinned (OpenSpec.ofChange spanDaysSpec)

/-- ITS FALSE NEIGHBOUR: 'it returns false'. Refute it at one input. -/
def spanDaysWrong : ChangeSpec := { name := "spanDays", fn := fun _ => fun
  | [d1, d2, d3] => { results := [.lit (.bool false)], args := [d1, d2, d3] }
  | _ => none }
def SpanDaysWrongFalsely : Prop := spanDaysRow.holds Tryd.pinned (OpenSpec.ofChange spanDaysWrong)

/-- 'tithinglaw05.SpanNormal': WHATEVER THE INPUT: true; the input reads as it did. -/
def spanNormalSpec : ChangeSpec := { name := "spanNormal", fn := fun _ => fun
  | [d1, d2] => { results := [.lit (.bool true)], args := [d1, d2] }
  | _ => none }
def spanNormalRow : OpenClaim := { program := "ytnbcfolmadkliaadoor", sum := "30b4825c8dab2a0ac1ebe45960720995e1334ad4a13240f2afa02bd6912a50e9", func := "tithing/tithinglaw05.SpanNormal", spec := "spanNormal", unfollowed := true, recurses := true, named := ["tithing/date.lengths"], apart := false, laid := [("tithing/date.lengths", laid_tithing_date_lengths)] }
def SpanNormalSaid : Prop := spanNormalRow.holds Tryd.pinned (OpenSpec.ofChange spanNormalSpec)

/-- ITS FALSE NEIGHBOUR: 'it returns false'. Refute it at one input. -/
def spanNormalWrong : ChangeSpec := { name := "spanNormal", fn := fun _ => fun
  | [d1, d2] => { results := [.lit (.bool false)], args := [d1, d2] }
  | _ => none }
def SpanNormalWrongFalsely : Prop := spanNormalRow.holds Tryd.pinned (OpenSpec.ofChange spanNormalWrong)

/-- 'tithinglaw05.SpanTerms': WHATEVER THE INPUT: true; the input reads as it did. -/
def spanTermsSpec : ChangeSpec := { name := "spanTerms", fn := fun _ => fun
  | [d1, d2, d3] => { results := [.lit (.bool true)], args := [d1, d2, d3] }
  | _ => none }
def spanTermsRow : OpenClaim := { program := "ytnbcfolmadkliaadoor", sum := "30b4825c8dab2a0ac1ebe45960720995e1334ad4a13240f2afa02bd6912a50e9", func := "tithing/tithinglaw05.SpanTerms", spec := "spanTerms", unfollowed := true, recurses := true, named := ["tithing/date.lengths"], apart := false, laid := [("tithing/date.lengths", laid_tithing_date_lengths)] }
def SpanTermsSaid : Prop := spanTermsRow.holds Tryd.pinned (OpenSpec.ofChange spanTermsSpec)

/-- ITS FALSE NEIGHBOUR: 'it returns false'. Refute it at one input. -/
def spanTermsWrong : ChangeSpec := { name := "spanTerms", fn := fun _ => fun
  | [d1, d2, d3] => { results := [.lit (.bool false)], args := [d1, d2, d3] }
  | _ => none }
def SpanTermsWrongFalsely : Prop := spanTermsRow.holds Tryd.pinned (OpenSpec.ofChange spanTermsWrong)

/-- 'tithinglaw05.SpanYears': WHATEVER THE INPUT: true; the input reads as it did. -/
def spanYearsSpec : ChangeSpec := { name := "spanYears", fn := fun _ => fun
  | [d1, d2] => { results := [.lit (.bool true)], args := [d1, d2] }
  | _ => none }
def spanYearsRow : OpenClaim := { program := "ytnbcfolmadkliaadoor", sum := "30b4825c8dab2a0ac1ebe45960720995e1334ad4a13240f2afa02bd6912a50e9", func := "tithing/tithinglaw05.SpanYears", spec := "spanYears", unfollowed := true, recurses := true, named := ["tithing/date.lengths"], apart := false, laid := [("tithing/date.lengths", laid_tithing_date_lengths)] }
def SpanYearsSaid : Prop := spanYearsRow.holds Tryd.pinned (OpenSpec.ofChange spanYearsSpec)

/-- ITS FALSE NEIGHBOUR: 'it returns false'. Refute it at one input. -/
def spanYearsWrong : ChangeSpec := { name := "spanYears", fn := fun _ => fun
  | [d1, d2] => { results := [.lit (.bool false)], args := [d1, d2] }
  | _ => none }
def SpanYearsWrongFalsely : Prop := spanYearsRow.holds Tryd.pinned (OpenSpec.ofChange spanYearsWrong)

/- THE SECOND FORM. 'bulk': how many values and letters a reading holds, each counted each time it is reached (what is shared counts as often as it is met; a slice's spare places count too). A statement '..UptoSaid' is the law's where the arguments, and the package variables that the reading takes, are together of bulk at most 1048576: NARROWER than '..Said'. Prove '..Said' where nothing that the law and all that it calls make is longer than what came in: it says more and counts as full. Else prove '..UptoSaid'. A law counts once. -/
mutual
def uptoBulk {H : Type} : DataW H → Nat
  | .lit (.string bytes) => bytes.length + 1
  | .lit _ => 1
  | .nil => 1
  | .ptr d => uptoBulk d + 1
  | .slice elems spare => uptoBulkAll elems + uptoBulkAll spare + 1
  | .agg parts => uptoBulkAll parts + 1
  | .iface _ d => uptoBulk d + 1
  | .map entries => uptoBulkEntries entries + 1
  | .held _ => 1
def uptoBulkAll {H : Type} : List (DataW H) → Nat
  | [] => 0
  | d :: r => uptoBulk d + uptoBulkAll r
def uptoBulkEntries {H : Type} : List (Lit × DataW H) → Nat
  | [] => 0
  | x :: r => uptoBulkEntry x + uptoBulkEntries r
def uptoBulkEntry {H : Type} : Lit × DataW H → Nat
  | (.string bytes, d) => bytes.length + uptoBulk d + 1
  | (_, d) => uptoBulk d + 1
 end
def uptoSmall : (H : Type) → List (DataW H) → Bool := fun _ ds => decide (uptoBulkAll ds ≤ 1048576)
def OpenSpec.upto (s : _root_.Go.ChangeSpec) : _root_.Go.OpenSpec := { _root_.Go.OpenSpec.ofChange s with cond := some uptoSmall }

/-- 'tithinglaw05.SpanDays', WHERE WHAT IT READS IS OF BULK AT MOST 1048576: true; the input reads as it did. -/
def spanDaysUptoRow : OpenClaim := { program := "ytnbcfolmadkliaadoor", sum := "30b4825c8dab2a0ac1ebe45960720995e1334ad4a13240f2afa02bd6912a50e9", func := "tithing/tithinglaw05.SpanDays", spec := "spanDays", unfollowed := true, recurses := true, named := ["tithing/date.lengths"], apart := false, laid := [("tithing/date.lengths", laid_tithing_date_lengths)], narrowed := true }
def SpanDaysUptoSaid : Prop := spanDaysUptoRow.holds Tryd.pinned (OpenSpec.upto spanDaysSpec)

/-- 'tithinglaw05.SpanNormal', WHERE WHAT IT READS IS OF BULK AT MOST 1048576: true; the input reads as it did. -/
def spanNormalUptoRow : OpenClaim := { program := "ytnbcfolmadkliaadoor", sum := "30b4825c8dab2a0ac1ebe45960720995e1334ad4a13240f2afa02bd6912a50e9", func := "tithing/tithinglaw05.SpanNormal", spec := "spanNormal", unfollowed := true, recurses := true, named := ["tithing/date.lengths"], apart := false, laid := [("tithing/date.lengths", laid_tithing_date_lengths)], narrowed := true }
def SpanNormalUptoSaid : Prop := spanNormalUptoRow.holds Tryd.pinned (OpenSpec.upto spanNormalSpec)

/-- 'tithinglaw05.SpanTerms', WHERE WHAT IT READS IS OF BULK AT MOST 1048576: true; the input reads as it did. -/
def spanTermsUptoRow : OpenClaim := { program := "ytnbcfolmadkliaadoor", sum := "30b4825c8dab2a0ac1ebe45960720995e1334ad4a13240f2afa02bd6912a50e9", func := "tithing/tithinglaw05.SpanTerms", spec := "spanTerms", unfollowed := true, recurses := true, named := ["tithing/date.lengths"], apart := false, laid := [("tithing/date.lengths", laid_tithing_date_lengths)], narrowed := true }
def SpanTermsUptoSaid : Prop := spanTermsUptoRow.holds Tryd.pinned (OpenSpec.upto spanTermsSpec)

/-- 'tithinglaw05.SpanYears', WHERE WHAT IT READS IS OF BULK AT MOST 1048576: true; the input reads as it did. -/
def spanYearsUptoRow : OpenClaim := { program := "ytnbcfolmadkliaadoor", sum := "30b4825c8dab2a0ac1ebe45960720995e1334ad4a13240f2afa02bd6912a50e9", func := "tithing/tithinglaw05.SpanYears", spec := "spanYears", unfollowed := true, recurses := true, named := ["tithing/date.lengths"], apart := false, laid := [("tithing/date.lengths", laid_tithing_date_lengths)], narrowed := true }
def SpanYearsUptoSaid : Prop := spanYearsUptoRow.holds Tryd.pinned (OpenSpec.upto spanYearsSpec)

end Rows
end Go.Proofs.YtnbcfolmadkliaaDoor

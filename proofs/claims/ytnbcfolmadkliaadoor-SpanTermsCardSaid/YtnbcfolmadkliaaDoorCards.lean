/-
  DERIVED. GIVEN WITH THE SEED: THE CARDS: each row of YtnbcfolmadkliaaDoorRows.lean that lists a variable, with what it lists TIED to the program's text (the seventh form; the later family's looks); each row that meets fmt, with fmt's text TOLD by the authors' own Lean function (tested against real Go, not proved from fmt's source: count such statements apart). THE CARD IS WHAT COUNTS. Prove the row's statement (the work); the ties are given (YtnbcfolmadkliaaDoorTie.lean); close each card by the builder's one call (the guide's Derived/Test/ToyasCard.lean, 'card_holds'). Laid BY PROGRAM, IN A SANDBOX (cutbox-door.mjs). By AI agents, Wed Nov 11 2026. No macro, syntax, notation, axiom, sorry.
-/
import Derived.Test.YtnbcfolmadkliaaDoorRows
import GoSem.ClaimSeven
namespace Go.Proofs.YtnbcfolmadkliaaDoor
namespace Rows

/-- THE TIED CARD OF 'tithinglaw05.SpanDays'. -/
def spanDaysCard : Claim7 := { stood := { row := spanDaysRow, standIns := [], harness := (true, "426e64c05774a5d8a14317309ac52e37884516bc9cd079eba4486249cf3a6c87"), looks := false }, kinds := [], alts := [], laidByText := true, laidKinds := [.data], laidTests := true, laidLooks := .later }
def SpanDaysCardSaid : Prop := Claim7.holds Tryd.pinned (.plain (OpenSpec.ofChange spanDaysSpec)) spanDaysCard

/-- THE TIED CARD OF 'tithinglaw05.SpanNormal'. -/
def spanNormalCard : Claim7 := { stood := { row := spanNormalRow, standIns := [], harness := (true, "426e64c05774a5d8a14317309ac52e37884516bc9cd079eba4486249cf3a6c87"), looks := false }, kinds := [], alts := [], laidByText := true, laidKinds := [.data], laidTests := true, laidLooks := .later }
def SpanNormalCardSaid : Prop := Claim7.holds Tryd.pinned (.plain (OpenSpec.ofChange spanNormalSpec)) spanNormalCard

/-- THE TIED CARD OF 'tithinglaw05.SpanTerms'. -/
def spanTermsCard : Claim7 := { stood := { row := spanTermsRow, standIns := [], harness := (true, "426e64c05774a5d8a14317309ac52e37884516bc9cd079eba4486249cf3a6c87"), looks := false }, kinds := [], alts := [], laidByText := true, laidKinds := [.data], laidTests := true, laidLooks := .later }
def SpanTermsCardSaid : Prop := Claim7.holds Tryd.pinned (.plain (OpenSpec.ofChange spanTermsSpec)) spanTermsCard

/-- THE TIED CARD OF 'tithinglaw05.SpanYears'. -/
def spanYearsCard : Claim7 := { stood := { row := spanYearsRow, standIns := [], harness := (true, "426e64c05774a5d8a14317309ac52e37884516bc9cd079eba4486249cf3a6c87"), looks := false }, kinds := [], alts := [], laidByText := true, laidKinds := [.data], laidTests := true, laidLooks := .later }
def SpanYearsCardSaid : Prop := Claim7.holds Tryd.pinned (.plain (OpenSpec.ofChange spanYearsSpec)) spanYearsCard

/-- THE SECOND FORM's CARD OF 'tithinglaw05.SpanDays'. -/
def spanDaysUptoCard : Claim7 := { stood := { row := spanDaysUptoRow, standIns := [], harness := (true, "426e64c05774a5d8a14317309ac52e37884516bc9cd079eba4486249cf3a6c87"), looks := false }, kinds := [], alts := [], laidByText := true, laidKinds := [.data], laidTests := true, laidLooks := .later }
def SpanDaysUptoCardSaid : Prop := Claim7.holds Tryd.pinned (.plain (OpenSpec.upto spanDaysSpec)) spanDaysUptoCard

/-- THE SECOND FORM's CARD OF 'tithinglaw05.SpanNormal'. -/
def spanNormalUptoCard : Claim7 := { stood := { row := spanNormalUptoRow, standIns := [], harness := (true, "426e64c05774a5d8a14317309ac52e37884516bc9cd079eba4486249cf3a6c87"), looks := false }, kinds := [], alts := [], laidByText := true, laidKinds := [.data], laidTests := true, laidLooks := .later }
def SpanNormalUptoCardSaid : Prop := Claim7.holds Tryd.pinned (.plain (OpenSpec.upto spanNormalSpec)) spanNormalUptoCard

/-- THE SECOND FORM's CARD OF 'tithinglaw05.SpanTerms'. -/
def spanTermsUptoCard : Claim7 := { stood := { row := spanTermsUptoRow, standIns := [], harness := (true, "426e64c05774a5d8a14317309ac52e37884516bc9cd079eba4486249cf3a6c87"), looks := false }, kinds := [], alts := [], laidByText := true, laidKinds := [.data], laidTests := true, laidLooks := .later }
def SpanTermsUptoCardSaid : Prop := Claim7.holds Tryd.pinned (.plain (OpenSpec.upto spanTermsSpec)) spanTermsUptoCard

/-- THE SECOND FORM's CARD OF 'tithinglaw05.SpanYears'. -/
def spanYearsUptoCard : Claim7 := { stood := { row := spanYearsUptoRow, standIns := [], harness := (true, "426e64c05774a5d8a14317309ac52e37884516bc9cd079eba4486249cf3a6c87"), looks := false }, kinds := [], alts := [], laidByText := true, laidKinds := [.data], laidTests := true, laidLooks := .later }
def SpanYearsUptoCardSaid : Prop := Claim7.holds Tryd.pinned (.plain (OpenSpec.upto spanYearsSpec)) spanYearsUptoCard
end Rows
end Go.Proofs.YtnbcfolmadkliaaDoor

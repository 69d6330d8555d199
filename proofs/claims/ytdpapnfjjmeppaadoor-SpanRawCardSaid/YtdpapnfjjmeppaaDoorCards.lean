/-
  DERIVED. GIVEN WITH THE SEED: THE CARDS: each row of YtdpapnfjjmeppaaDoorRows.lean that lists a variable, with what it lists TIED to the program's text (the seventh form; the later family's looks); each row that meets fmt, with fmt's text TOLD by the authors' own Lean function (tested against real Go, not proved from fmt's source: count such statements apart). THE CARD IS WHAT COUNTS. Prove the row's statement (the work); the ties are given (YtdpapnfjjmeppaaDoorTie.lean); close each card by the builder's one call (the guide's Derived/Test/ToyasCard.lean, 'card_holds'). Laid BY PROGRAM, IN A SANDBOX (cutbox-door.mjs). By AI agents, Wed Nov 11 2026. No macro, syntax, notation, axiom, sorry.
-/
import Derived.Test.YtdpapnfjjmeppaaDoorRows
import GoSem.ClaimSeven
namespace Go.Proofs.YtdpapnfjjmeppaaDoor
namespace Rows

/-- THE TIED CARD OF 'tithinglaw05.SpanSets'. -/
def spanSetsCard : Claim7 := { stood := { row := spanSetsRow, standIns := [], harness := (true, "4c81a00b52a93934a4564cd8923fe1941ef9c587a6353462a4d20863c351a75b"), looks := false }, kinds := [], alts := [], laidByText := true, laidKinds := [.data], laidTests := true, laidLooks := .later }
def SpanSetsCardSaid : Prop := Claim7.holds Tryd.pinned (.plain (OpenSpec.ofChange spanSetsSpec)) spanSetsCard

/-- THE TIED CARD OF 'tithinglaw05.SpanRaw'. -/
def spanRawCard : Claim7 := { stood := { row := spanRawRow, standIns := [], harness := (true, "4c81a00b52a93934a4564cd8923fe1941ef9c587a6353462a4d20863c351a75b"), looks := false }, kinds := [], alts := [], laidByText := true, laidKinds := [.data], laidTests := true, laidLooks := .later }
def SpanRawCardSaid : Prop := Claim7.holds Tryd.pinned (.plain (OpenSpec.ofChange spanRawSpec)) spanRawCard

/-- THE TIED CARD OF 'tithinglaw05.SpanDays'. -/
def spanDaysCard : Claim7 := { stood := { row := spanDaysRow, standIns := [], harness := (true, "4c81a00b52a93934a4564cd8923fe1941ef9c587a6353462a4d20863c351a75b"), looks := false }, kinds := [], alts := [], laidByText := true, laidKinds := [.data], laidTests := true, laidLooks := .later }
def SpanDaysCardSaid : Prop := Claim7.holds Tryd.pinned (.plain (OpenSpec.ofChange spanDaysSpec)) spanDaysCard

/-- THE TIED CARD OF 'tithinglaw05.SpanNormal'. -/
def spanNormalCard : Claim7 := { stood := { row := spanNormalRow, standIns := [], harness := (true, "4c81a00b52a93934a4564cd8923fe1941ef9c587a6353462a4d20863c351a75b"), looks := false }, kinds := [], alts := [], laidByText := true, laidKinds := [.data], laidTests := true, laidLooks := .later }
def SpanNormalCardSaid : Prop := Claim7.holds Tryd.pinned (.plain (OpenSpec.ofChange spanNormalSpec)) spanNormalCard

/-- THE TIED CARD OF 'tithinglaw05.SpanRules'. -/
def spanRulesCard : Claim7 := { stood := { row := spanRulesRow, standIns := [], harness := (true, "4c81a00b52a93934a4564cd8923fe1941ef9c587a6353462a4d20863c351a75b"), looks := false }, kinds := [], alts := [], laidByText := true, laidKinds := [.data], laidTests := true, laidLooks := .later }
def SpanRulesCardSaid : Prop := Claim7.holds Tryd.pinned (.plain (OpenSpec.ofChange spanRulesSpec)) spanRulesCard

/-- THE TIED CARD OF 'tithinglaw05.SpanMany'. -/
def spanManyCard : Claim7 := { stood := { row := spanManyRow, standIns := [], harness := (true, "4c81a00b52a93934a4564cd8923fe1941ef9c587a6353462a4d20863c351a75b"), looks := false }, kinds := [], alts := [], laidByText := true, laidKinds := [.data], laidTests := true, laidLooks := .later }
def SpanManyCardSaid : Prop := Claim7.holds Tryd.pinned (.plain (OpenSpec.ofChange spanManySpec)) spanManyCard

/-- THE TIED CARD OF 'tithinglaw05.SpanCounts'. -/
def spanCountsCard : Claim7 := { stood := { row := spanCountsRow, standIns := [], harness := (true, "4c81a00b52a93934a4564cd8923fe1941ef9c587a6353462a4d20863c351a75b"), looks := false }, kinds := [], alts := [], laidByText := true, laidKinds := [.data], laidTests := true, laidLooks := .later }
def SpanCountsCardSaid : Prop := Claim7.holds Tryd.pinned (.plain (OpenSpec.ofChange spanCountsSpec)) spanCountsCard

/-- THE TIED CARD OF 'tithinglaw05.SpanTerms'. -/
def spanTermsCard : Claim7 := { stood := { row := spanTermsRow, standIns := [], harness := (true, "4c81a00b52a93934a4564cd8923fe1941ef9c587a6353462a4d20863c351a75b"), looks := false }, kinds := [], alts := [], laidByText := true, laidKinds := [.data], laidTests := true, laidLooks := .later }
def SpanTermsCardSaid : Prop := Claim7.holds Tryd.pinned (.plain (OpenSpec.ofChange spanTermsSpec)) spanTermsCard

/-- THE TIED CARD OF 'tithinglaw05.SpanYears'. -/
def spanYearsCard : Claim7 := { stood := { row := spanYearsRow, standIns := [], harness := (true, "4c81a00b52a93934a4564cd8923fe1941ef9c587a6353462a4d20863c351a75b"), looks := false }, kinds := [], alts := [], laidByText := true, laidKinds := [.data], laidTests := true, laidLooks := .later }
def SpanYearsCardSaid : Prop := Claim7.holds Tryd.pinned (.plain (OpenSpec.ofChange spanYearsSpec)) spanYearsCard

/-- THE SECOND FORM's CARD OF 'tithinglaw05.SpanSets'. -/
def spanSetsUptoCard : Claim7 := { stood := { row := spanSetsUptoRow, standIns := [], harness := (true, "4c81a00b52a93934a4564cd8923fe1941ef9c587a6353462a4d20863c351a75b"), looks := false }, kinds := [], alts := [], laidByText := true, laidKinds := [.data], laidTests := true, laidLooks := .later }
def SpanSetsUptoCardSaid : Prop := Claim7.holds Tryd.pinned (.plain (OpenSpec.upto spanSetsSpec)) spanSetsUptoCard

/-- THE SECOND FORM's CARD OF 'tithinglaw05.SpanRaw'. -/
def spanRawUptoCard : Claim7 := { stood := { row := spanRawUptoRow, standIns := [], harness := (true, "4c81a00b52a93934a4564cd8923fe1941ef9c587a6353462a4d20863c351a75b"), looks := false }, kinds := [], alts := [], laidByText := true, laidKinds := [.data], laidTests := true, laidLooks := .later }
def SpanRawUptoCardSaid : Prop := Claim7.holds Tryd.pinned (.plain (OpenSpec.upto spanRawSpec)) spanRawUptoCard

/-- THE SECOND FORM's CARD OF 'tithinglaw05.SpanDays'. -/
def spanDaysUptoCard : Claim7 := { stood := { row := spanDaysUptoRow, standIns := [], harness := (true, "4c81a00b52a93934a4564cd8923fe1941ef9c587a6353462a4d20863c351a75b"), looks := false }, kinds := [], alts := [], laidByText := true, laidKinds := [.data], laidTests := true, laidLooks := .later }
def SpanDaysUptoCardSaid : Prop := Claim7.holds Tryd.pinned (.plain (OpenSpec.upto spanDaysSpec)) spanDaysUptoCard

/-- THE SECOND FORM's CARD OF 'tithinglaw05.SpanNormal'. -/
def spanNormalUptoCard : Claim7 := { stood := { row := spanNormalUptoRow, standIns := [], harness := (true, "4c81a00b52a93934a4564cd8923fe1941ef9c587a6353462a4d20863c351a75b"), looks := false }, kinds := [], alts := [], laidByText := true, laidKinds := [.data], laidTests := true, laidLooks := .later }
def SpanNormalUptoCardSaid : Prop := Claim7.holds Tryd.pinned (.plain (OpenSpec.upto spanNormalSpec)) spanNormalUptoCard

/-- THE SECOND FORM's CARD OF 'tithinglaw05.SpanRules'. -/
def spanRulesUptoCard : Claim7 := { stood := { row := spanRulesUptoRow, standIns := [], harness := (true, "4c81a00b52a93934a4564cd8923fe1941ef9c587a6353462a4d20863c351a75b"), looks := false }, kinds := [], alts := [], laidByText := true, laidKinds := [.data], laidTests := true, laidLooks := .later }
def SpanRulesUptoCardSaid : Prop := Claim7.holds Tryd.pinned (.plain (OpenSpec.upto spanRulesSpec)) spanRulesUptoCard

/-- THE SECOND FORM's CARD OF 'tithinglaw05.SpanMany'. -/
def spanManyUptoCard : Claim7 := { stood := { row := spanManyUptoRow, standIns := [], harness := (true, "4c81a00b52a93934a4564cd8923fe1941ef9c587a6353462a4d20863c351a75b"), looks := false }, kinds := [], alts := [], laidByText := true, laidKinds := [.data], laidTests := true, laidLooks := .later }
def SpanManyUptoCardSaid : Prop := Claim7.holds Tryd.pinned (.plain (OpenSpec.upto spanManySpec)) spanManyUptoCard

/-- THE SECOND FORM's CARD OF 'tithinglaw05.SpanCounts'. -/
def spanCountsUptoCard : Claim7 := { stood := { row := spanCountsUptoRow, standIns := [], harness := (true, "4c81a00b52a93934a4564cd8923fe1941ef9c587a6353462a4d20863c351a75b"), looks := false }, kinds := [], alts := [], laidByText := true, laidKinds := [.data], laidTests := true, laidLooks := .later }
def SpanCountsUptoCardSaid : Prop := Claim7.holds Tryd.pinned (.plain (OpenSpec.upto spanCountsSpec)) spanCountsUptoCard

/-- THE SECOND FORM's CARD OF 'tithinglaw05.SpanTerms'. -/
def spanTermsUptoCard : Claim7 := { stood := { row := spanTermsUptoRow, standIns := [], harness := (true, "4c81a00b52a93934a4564cd8923fe1941ef9c587a6353462a4d20863c351a75b"), looks := false }, kinds := [], alts := [], laidByText := true, laidKinds := [.data], laidTests := true, laidLooks := .later }
def SpanTermsUptoCardSaid : Prop := Claim7.holds Tryd.pinned (.plain (OpenSpec.upto spanTermsSpec)) spanTermsUptoCard

/-- THE SECOND FORM's CARD OF 'tithinglaw05.SpanYears'. -/
def spanYearsUptoCard : Claim7 := { stood := { row := spanYearsUptoRow, standIns := [], harness := (true, "4c81a00b52a93934a4564cd8923fe1941ef9c587a6353462a4d20863c351a75b"), looks := false }, kinds := [], alts := [], laidByText := true, laidKinds := [.data], laidTests := true, laidLooks := .later }
def SpanYearsUptoCardSaid : Prop := Claim7.holds Tryd.pinned (.plain (OpenSpec.upto spanYearsSpec)) spanYearsUptoCard
end Rows
end Go.Proofs.YtdpapnfjjmeppaaDoor

/-
  DERIVED. GIVEN WITH THE SEED: THE CARDS: each row of YtggphkpnjnpbaaaGreatDoorRows.lean that lists a variable, with what it lists TIED to the program's text (the seventh form; the later family's looks); each row that meets fmt, with fmt's text TOLD by the authors' own Lean function (tested against real Go, not proved from fmt's source: count such statements apart). THE CARD IS WHAT COUNTS. Prove the row's statement (the work); the ties are given (YtggphkpnjnpbaaaGreatDoorTie.lean); close each card by the builder's one call (the guide's Derived/Test/ToyasCard.lean, 'card_holds'). Laid BY PROGRAM, IN A SANDBOX (cutbox-door.mjs). By AI agents, Wed Nov 11 2026. No macro, syntax, notation, axiom, sorry.
-/
import Derived.Test.YtggphkpnjnpbaaaGreatDoorRows
import GoSem.ClaimSeven
namespace Go.Proofs.YtggphkpnjnpbaaaGreatDoor
namespace Rows

/-- THE TIED CARD OF 'tithinglaw02.RatioRaw'. -/
def ratioRawCard : Claim7 := { stood := { row := ratioRawRow, standIns := [], harness := (true, "a36baf127b73603ca3bd2a342e5bca1c6da150a94a439bfdb101c3cfc3780b7a"), looks := false }, kinds := [], alts := [], laidByText := true, laidKinds := [.data, .data, .data, .data], laidTests := true, laidLooks := .later }
def RatioRawCardSaid : Prop := Claim7.holds Tryz.pinned (.plain (OpenSpec.ofChange ratioRawSpec)) ratioRawCard

/-- THE TIED CARD OF 'tithinglaw02.RatioCommon'. -/
def ratioCommonCard : Claim7 := { stood := { row := ratioCommonRow, standIns := [], harness := (true, "a36baf127b73603ca3bd2a342e5bca1c6da150a94a439bfdb101c3cfc3780b7a"), looks := false }, kinds := [], alts := [], laidByText := true, laidKinds := [.data, .data, .data, .data], laidTests := true, laidLooks := .later }
def RatioCommonCardSaid : Prop := Claim7.holds Tryz.pinned (.plain (OpenSpec.ofChange ratioCommonSpec)) ratioCommonCard

/-- THE TIED CARD OF 'tithinglaw02.RatioTexts'. -/
def ratioTextsCard : Claim7 := { stood := { row := ratioTextsRow, standIns := [], harness := (true, "a36baf127b73603ca3bd2a342e5bca1c6da150a94a439bfdb101c3cfc3780b7a"), looks := false }, kinds := [], alts := [], laidByText := true, laidKinds := [.data, .data, .data, .data], laidTests := true, laidLooks := .later }
def RatioTextsCardSaid : Prop := Claim7.holds Tryz.pinned (.plain (OpenSpec.ofChange ratioTextsSpec)) ratioTextsCard

/-- THE SECOND FORM's CARD OF 'tithinglaw02.RatioRaw'. -/
def ratioRawUptoCard : Claim7 := { stood := { row := ratioRawUptoRow, standIns := [], harness := (true, "a36baf127b73603ca3bd2a342e5bca1c6da150a94a439bfdb101c3cfc3780b7a"), looks := false }, kinds := [], alts := [], laidByText := true, laidKinds := [.data, .data, .data, .data], laidTests := true, laidLooks := .later }
def RatioRawUptoCardSaid : Prop := Claim7.holds Tryz.pinned (.plain (OpenSpec.upto ratioRawSpec)) ratioRawUptoCard

/-- THE SECOND FORM's CARD OF 'tithinglaw02.RatioCommon'. -/
def ratioCommonUptoCard : Claim7 := { stood := { row := ratioCommonUptoRow, standIns := [], harness := (true, "a36baf127b73603ca3bd2a342e5bca1c6da150a94a439bfdb101c3cfc3780b7a"), looks := false }, kinds := [], alts := [], laidByText := true, laidKinds := [.data, .data, .data, .data], laidTests := true, laidLooks := .later }
def RatioCommonUptoCardSaid : Prop := Claim7.holds Tryz.pinned (.plain (OpenSpec.upto ratioCommonSpec)) ratioCommonUptoCard

/-- THE SECOND FORM's CARD OF 'tithinglaw02.RatioTexts'. -/
def ratioTextsUptoCard : Claim7 := { stood := { row := ratioTextsUptoRow, standIns := [], harness := (true, "a36baf127b73603ca3bd2a342e5bca1c6da150a94a439bfdb101c3cfc3780b7a"), looks := false }, kinds := [], alts := [], laidByText := true, laidKinds := [.data, .data, .data, .data], laidTests := true, laidLooks := .later }
def RatioTextsUptoCardSaid : Prop := Claim7.holds Tryz.pinned (.plain (OpenSpec.upto ratioTextsSpec)) ratioTextsUptoCard
end Rows
end Go.Proofs.YtggphkpnjnpbaaaGreatDoor

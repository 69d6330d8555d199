/-
  DERIVED. GIVEN WITH THE SEED: THE CARDS: each row of YtbpoghgokkpckaaGreatDoorRows.lean that lists a variable, with what it lists TIED to the program's text (the seventh form; the later family's looks); each row that meets fmt, with fmt's text TOLD by the authors' own Lean function (tested against real Go, not proved from fmt's source: count such statements apart). THE CARD IS WHAT COUNTS. Prove the row's statement (the work); the ties are given (YtbpoghgokkpckaaGreatDoorTie.lean); close each card by the builder's one call (the guide's Derived/Test/ToyasCard.lean, 'card_holds'). Laid BY PROGRAM, IN A SANDBOX (cutbox-door.mjs). By AI agents, Wed Nov 11 2026. No macro, syntax, notation, axiom, sorry.
-/
import Derived.Test.YtbpoghgokkpckaaGreatDoorRows
import GoSem.ClaimSeven
namespace Go.Proofs.YtbpoghgokkpckaaGreatDoor
namespace Rows

/-- THE TIED CARD OF 'tithinglaw02.RatioCommon'. -/
def ratioCommonCard : Claim7 := { stood := { row := ratioCommonRow, standIns := [], harness := (true, "ffb493f037db66fd8a902954851f88bad119e6dfffb46776a19b25f7f94397ff"), looks := false }, kinds := [], alts := [], laidByText := true, laidKinds := [.data, .data, .data, .data], laidTests := true, laidLooks := .later }
def RatioCommonCardSaid : Prop := Claim7.holds Tryz.pinned (.plain (OpenSpec.ofChange ratioCommonSpec)) ratioCommonCard

/-- THE SECOND FORM's CARD OF 'tithinglaw02.RatioCommon'. -/
def ratioCommonUptoCard : Claim7 := { stood := { row := ratioCommonUptoRow, standIns := [], harness := (true, "ffb493f037db66fd8a902954851f88bad119e6dfffb46776a19b25f7f94397ff"), looks := false }, kinds := [], alts := [], laidByText := true, laidKinds := [.data, .data, .data, .data], laidTests := true, laidLooks := .later }
def RatioCommonUptoCardSaid : Prop := Claim7.holds Tryz.pinned (.plain (OpenSpec.upto ratioCommonSpec)) ratioCommonUptoCard
end Rows
end Go.Proofs.YtbpoghgokkpckaaGreatDoor

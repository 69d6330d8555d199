/-
  DERIVED. GIVEN WITH THE SEED: THE CARDS: each row of YtcghnkdfhiancaaGreatDoorRows.lean that lists a variable, with what it lists TIED to the program's text (the seventh form; the later family's looks); each row that meets fmt, with fmt's text TOLD by the authors' own Lean function (tested against real Go, not proved from fmt's source: count such statements apart). THE CARD IS WHAT COUNTS. Prove the row's statement (the work); the ties are given (YtcghnkdfhiancaaGreatDoorTie.lean); close each card by the builder's one call (the guide's Derived/Test/ToyasCard.lean, 'card_holds'). Laid BY PROGRAM, IN A SANDBOX (cutbox-door.mjs). By AI agents, Wed Nov 11 2026. No macro, syntax, notation, axiom, sorry.
-/
import Derived.Test.YtcghnkdfhiancaaGreatDoorRows
import GoSem.ClaimSeven
namespace Go.Proofs.YtcghnkdfhiancaaGreatDoor
namespace Rows

/-- THE TIED CARD OF 'tithinglaw01.NatQuos'. -/
def natQuosCard : Claim7 := { stood := { row := natQuosRow, standIns := [], harness := (true, "3281680a8825e432312d9e8b2db3ffda408ff636e1f87d46800e6d830255c4f5"), looks := false }, kinds := [], alts := [], laidByText := true, laidKinds := [.data, .data, .data], laidTests := true, laidLooks := .later }
def NatQuosCardSaid : Prop := Claim7.holds Tryz.pinned (.plain (OpenSpec.ofChange natQuosSpec)) natQuosCard

/-- THE TIED CARD OF 'tithinglaw01.NatTexts'. -/
def natTextsCard : Claim7 := { stood := { row := natTextsRow, standIns := [], harness := (true, "3281680a8825e432312d9e8b2db3ffda408ff636e1f87d46800e6d830255c4f5"), looks := false }, kinds := [], alts := [], laidByText := true, laidKinds := [.data, .data, .data], laidTests := true, laidLooks := .later }
def NatTextsCardSaid : Prop := Claim7.holds Tryz.pinned (.plain (OpenSpec.ofChange natTextsSpec)) natTextsCard

/-- THE SECOND FORM's CARD OF 'tithinglaw01.NatQuos'. -/
def natQuosUptoCard : Claim7 := { stood := { row := natQuosUptoRow, standIns := [], harness := (true, "3281680a8825e432312d9e8b2db3ffda408ff636e1f87d46800e6d830255c4f5"), looks := false }, kinds := [], alts := [], laidByText := true, laidKinds := [.data, .data, .data], laidTests := true, laidLooks := .later }
def NatQuosUptoCardSaid : Prop := Claim7.holds Tryz.pinned (.plain (OpenSpec.upto natQuosSpec)) natQuosUptoCard

/-- THE SECOND FORM's CARD OF 'tithinglaw01.NatTexts'. -/
def natTextsUptoCard : Claim7 := { stood := { row := natTextsUptoRow, standIns := [], harness := (true, "3281680a8825e432312d9e8b2db3ffda408ff636e1f87d46800e6d830255c4f5"), looks := false }, kinds := [], alts := [], laidByText := true, laidKinds := [.data, .data, .data], laidTests := true, laidLooks := .later }
def NatTextsUptoCardSaid : Prop := Claim7.holds Tryz.pinned (.plain (OpenSpec.upto natTextsSpec)) natTextsUptoCard
end Rows
end Go.Proofs.YtcghnkdfhiancaaGreatDoor

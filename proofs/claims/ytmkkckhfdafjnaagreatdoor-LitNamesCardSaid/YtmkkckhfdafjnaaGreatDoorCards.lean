/-
  DERIVED. GIVEN WITH THE SEED: THE CARDS: each row of YtmkkckhfdafjnaaGreatDoorRows.lean that lists a variable, with what it lists TIED to the program's text (the seventh form; the later family's looks); each row that meets fmt, with fmt's text TOLD by the authors' own Lean function (tested against real Go, not proved from fmt's source: count such statements apart). THE CARD IS WHAT COUNTS. Prove the row's statement (the work); the ties are given (YtmkkckhfdafjnaaGreatDoorTie.lean); close each card by the builder's one call (the guide's Derived/Test/ToyasCard.lean, 'card_holds'). Laid BY PROGRAM, IN A SANDBOX (cutbox-door.mjs). By AI agents, Wed Nov 11 2026. No macro, syntax, notation, axiom, sorry.
-/
import Derived.Test.YtmkkckhfdafjnaaGreatDoorRows
import GoSem.ClaimSeven
namespace Go.Proofs.YtmkkckhfdafjnaaGreatDoor
namespace Rows

/-- THE TIED CARD OF 'provostlaw18.LitNames'. -/
def litNamesCard : Claim7 := { stood := { row := litNamesRow, standIns := [], harness := (true, "21750d01461a446b53fee56bcaa560cb9267e18daf60ae9275473ae71619ca4a"), looks := true }, kinds := [], alts := [], laidByText := true, laidKinds := [.data], laidTests := true, laidLooks := .later }
def LitNamesCardSaid : Prop := Claim7.holds Tryz.pinned (.plain (OpenSpec.ofChange litNamesSpec)) litNamesCard

/-- THE TIED CARD OF 'provostlaw18.LitBack'. -/
def litBackCard : Claim7 := { stood := { row := litBackRow, standIns := [], harness := (true, "21750d01461a446b53fee56bcaa560cb9267e18daf60ae9275473ae71619ca4a"), looks := true }, kinds := [], alts := [], laidByText := true, laidKinds := [.data, .data, .data, .data], laidTests := true, laidLooks := .later }
def LitBackCardSaid : Prop := Claim7.holds Tryz.pinned (.plain (OpenSpec.ofChange litBackSpec)) litBackCard

/-- THE TIED CARD OF 'provostlaw18.LitFixed'. -/
def litFixedCard : Claim7 := { stood := { row := litFixedRow, standIns := [], harness := (true, "21750d01461a446b53fee56bcaa560cb9267e18daf60ae9275473ae71619ca4a"), looks := true }, kinds := [], alts := [], laidByText := true, laidKinds := [.data, .data, .data, .data], laidTests := true, laidLooks := .later }
def LitFixedCardSaid : Prop := Claim7.holds Tryz.pinned (.plain (OpenSpec.ofChange litFixedSpec)) litFixedCard

/-- THE SECOND FORM's CARD OF 'provostlaw18.LitNames'. -/
def litNamesUptoCard : Claim7 := { stood := { row := litNamesUptoRow, standIns := [], harness := (true, "21750d01461a446b53fee56bcaa560cb9267e18daf60ae9275473ae71619ca4a"), looks := true }, kinds := [], alts := [], laidByText := true, laidKinds := [.data], laidTests := true, laidLooks := .later }
def LitNamesUptoCardSaid : Prop := Claim7.holds Tryz.pinned (.plain (OpenSpec.upto litNamesSpec)) litNamesUptoCard

/-- THE SECOND FORM's CARD OF 'provostlaw18.LitBack'. -/
def litBackUptoCard : Claim7 := { stood := { row := litBackUptoRow, standIns := [], harness := (true, "21750d01461a446b53fee56bcaa560cb9267e18daf60ae9275473ae71619ca4a"), looks := true }, kinds := [], alts := [], laidByText := true, laidKinds := [.data, .data, .data, .data], laidTests := true, laidLooks := .later }
def LitBackUptoCardSaid : Prop := Claim7.holds Tryz.pinned (.plain (OpenSpec.upto litBackSpec)) litBackUptoCard

/-- THE SECOND FORM's CARD OF 'provostlaw18.LitFixed'. -/
def litFixedUptoCard : Claim7 := { stood := { row := litFixedUptoRow, standIns := [], harness := (true, "21750d01461a446b53fee56bcaa560cb9267e18daf60ae9275473ae71619ca4a"), looks := true }, kinds := [], alts := [], laidByText := true, laidKinds := [.data, .data, .data, .data], laidTests := true, laidLooks := .later }
def LitFixedUptoCardSaid : Prop := Claim7.holds Tryz.pinned (.plain (OpenSpec.upto litFixedSpec)) litFixedUptoCard
end Rows
end Go.Proofs.YtmkkckhfdafjnaaGreatDoor

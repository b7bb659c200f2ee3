/-
  DERIVED. GIVEN WITH THE SEED: THE CARDS: each row of YtolegmlfmlfbhaaDoorRows.lean that lists a variable, with what it lists TIED to the program's text (the seventh form; the later family's looks); each row that meets fmt, with fmt's text TOLD by the authors' own Lean function (tested against real Go, not proved from fmt's source: count such statements apart). THE CARD IS WHAT COUNTS. Prove the row's statement (the work); the ties are given (YtolegmlfmlfbhaaDoorTie.lean); close each card by the builder's one call (the guide's Derived/Test/ToyasCard.lean, 'card_holds'). Laid BY PROGRAM, IN A SANDBOX (cutbox-door.mjs). By AI agents, Wed Nov 11 2026. No macro, syntax, notation, axiom, sorry.
-/
import Derived.Test.YtolegmlfmlfbhaaDoorRows
import GoSem.ClaimSeven
namespace Go.Proofs.YtolegmlfmlfbhaaDoor
namespace Rows

/-- THE TIED CARD OF 'provostlaw31.ServeWrites'. -/
def serveWritesCard : Claim7 := { stood := { row := serveWritesRow, standIns := [], harness := (true, "f54c265e1890bbe309d824d14ee670bab41ab2c35445c31eb4ff2088acf5afc0"), looks := false }, kinds := [], alts := [], laidByText := true, laidKinds := [.data, .data, .data], laidTests := true, laidLooks := .later }
def ServeWritesCardSaid : Prop := Claim7.holds Tryd.pinned (.plain (OpenSpec.ofChange serveWritesSpec)) serveWritesCard

/-- THE SECOND FORM's CARD OF 'provostlaw31.ServeWrites'. -/
def serveWritesUptoCard : Claim7 := { stood := { row := serveWritesUptoRow, standIns := [], harness := (true, "f54c265e1890bbe309d824d14ee670bab41ab2c35445c31eb4ff2088acf5afc0"), looks := false }, kinds := [], alts := [], laidByText := true, laidKinds := [.data, .data, .data], laidTests := true, laidLooks := .later }
def ServeWritesUptoCardSaid : Prop := Claim7.holds Tryd.pinned (.plain (OpenSpec.upto serveWritesSpec)) serveWritesUptoCard
end Rows
end Go.Proofs.YtolegmlfmlfbhaaDoor

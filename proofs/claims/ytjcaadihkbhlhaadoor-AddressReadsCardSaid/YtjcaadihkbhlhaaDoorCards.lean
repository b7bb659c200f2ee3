/-
  DERIVED. GIVEN WITH THE SEED: THE CARDS: each row of YtjcaadihkbhlhaaDoorRows.lean that lists a variable, with what it lists TIED to the program's text (the seventh form; the later family's looks); each row that meets fmt, with fmt's text TOLD by the authors' own Lean function (tested against real Go, not proved from fmt's source: count such statements apart). THE CARD IS WHAT COUNTS. Prove the row's statement (the work); the ties are given (YtjcaadihkbhlhaaDoorTie.lean); close each card by the builder's one call (the guide's Derived/Test/ToyasCard.lean, 'card_holds'). Laid BY PROGRAM, IN A SANDBOX (cutbox-door.mjs). By AI agents, Wed Nov 11 2026. No macro, syntax, notation, axiom, sorry.
-/
import Derived.Test.YtjcaadihkbhlhaaDoorRows
import GoSem.ClaimSeven
namespace Go.Proofs.YtjcaadihkbhlhaaDoor
namespace Rows

/-- THE TIED CARD OF 'provostlaw15.AddressNames'. -/
def addressNamesCard : Claim7 := { stood := { row := addressNamesRow, standIns := [], harness := (true, "12f1aa2e1da75317ebcff57eec0e836c0201ad5e26150add817f82441efa985a"), looks := false }, kinds := [], alts := [], laidByText := true, laidKinds := [.data, .pinned, .pinned], laidTests := true, laidLooks := .later }
def AddressNamesCardSaid : Prop := Claim7.holds Tryd.pinned (.plain (OpenSpec.ofChange addressNamesSpec)) addressNamesCard

/-- THE TIED CARD OF 'provostlaw15.AddressReads'. -/
def addressReadsCard : Claim7 := { stood := { row := addressReadsRow, standIns := [], harness := (true, "12f1aa2e1da75317ebcff57eec0e836c0201ad5e26150add817f82441efa985a"), looks := false }, kinds := [], alts := [], laidByText := true, laidKinds := [.data, .pinned, .pinned], laidTests := true, laidLooks := .later }
def AddressReadsCardSaid : Prop := Claim7.holds Tryd.pinned (.plain (OpenSpec.ofChange addressReadsSpec)) addressReadsCard

/-- THE TIED CARD OF 'provostlaw15.AddressBack'. -/
def addressBackCard : Claim7 := { stood := { row := addressBackRow, standIns := [], harness := (true, "12f1aa2e1da75317ebcff57eec0e836c0201ad5e26150add817f82441efa985a"), looks := false }, kinds := [], alts := [], laidByText := true, laidKinds := [.data, .pinned, .pinned], laidTests := true, laidLooks := .later }
def AddressBackCardSaid : Prop := Claim7.holds Tryd.pinned (.plain (OpenSpec.ofChange addressBackSpec)) addressBackCard

/-- THE TIED CARD OF 'provostlaw15.AddressOne'. -/
def addressOneCard : Claim7 := { stood := { row := addressOneRow, standIns := [], harness := (true, "12f1aa2e1da75317ebcff57eec0e836c0201ad5e26150add817f82441efa985a"), looks := false }, kinds := [], alts := [], laidByText := true, laidKinds := [.data, .pinned, .pinned], laidTests := true, laidLooks := .later }
def AddressOneCardSaid : Prop := Claim7.holds Tryd.pinned (.plain (OpenSpec.ofChange addressOneSpec)) addressOneCard

/-- THE SECOND FORM's CARD OF 'provostlaw15.AddressNames'. -/
def addressNamesUptoCard : Claim7 := { stood := { row := addressNamesUptoRow, standIns := [], harness := (true, "12f1aa2e1da75317ebcff57eec0e836c0201ad5e26150add817f82441efa985a"), looks := false }, kinds := [], alts := [], laidByText := true, laidKinds := [.data, .pinned, .pinned], laidTests := true, laidLooks := .later }
def AddressNamesUptoCardSaid : Prop := Claim7.holds Tryd.pinned (.plain (OpenSpec.upto addressNamesSpec)) addressNamesUptoCard

/-- THE SECOND FORM's CARD OF 'provostlaw15.AddressReads'. -/
def addressReadsUptoCard : Claim7 := { stood := { row := addressReadsUptoRow, standIns := [], harness := (true, "12f1aa2e1da75317ebcff57eec0e836c0201ad5e26150add817f82441efa985a"), looks := false }, kinds := [], alts := [], laidByText := true, laidKinds := [.data, .pinned, .pinned], laidTests := true, laidLooks := .later }
def AddressReadsUptoCardSaid : Prop := Claim7.holds Tryd.pinned (.plain (OpenSpec.upto addressReadsSpec)) addressReadsUptoCard

/-- THE SECOND FORM's CARD OF 'provostlaw15.AddressBack'. -/
def addressBackUptoCard : Claim7 := { stood := { row := addressBackUptoRow, standIns := [], harness := (true, "12f1aa2e1da75317ebcff57eec0e836c0201ad5e26150add817f82441efa985a"), looks := false }, kinds := [], alts := [], laidByText := true, laidKinds := [.data, .pinned, .pinned], laidTests := true, laidLooks := .later }
def AddressBackUptoCardSaid : Prop := Claim7.holds Tryd.pinned (.plain (OpenSpec.upto addressBackSpec)) addressBackUptoCard

/-- THE SECOND FORM's CARD OF 'provostlaw15.AddressOne'. -/
def addressOneUptoCard : Claim7 := { stood := { row := addressOneUptoRow, standIns := [], harness := (true, "12f1aa2e1da75317ebcff57eec0e836c0201ad5e26150add817f82441efa985a"), looks := false }, kinds := [], alts := [], laidByText := true, laidKinds := [.data, .pinned, .pinned], laidTests := true, laidLooks := .later }
def AddressOneUptoCardSaid : Prop := Claim7.holds Tryd.pinned (.plain (OpenSpec.upto addressOneSpec)) addressOneUptoCard
end Rows
end Go.Proofs.YtjcaadihkbhlhaaDoor

/-
  DERIVED. GIVEN WITH THE SEED: THE CARDS: each row of YtiikohbnfbpjeaaDoorRows.lean that lists a variable, with what it lists TIED to the program's text (the seventh form; the later family's looks); each row that meets fmt, with fmt's text TOLD by the authors' own Lean function (tested against real Go, not proved from fmt's source: count such statements apart). THE CARD IS WHAT COUNTS. Prove the row's statement (the work); the ties are given (YtiikohbnfbpjeaaDoorTie.lean); close each card by the builder's one call (the guide's Derived/Test/ToyasCard.lean, 'card_holds'). Laid BY PROGRAM, IN A SANDBOX (cutbox-door.mjs). By AI agents, Wed Nov 11 2026. No macro, syntax, notation, axiom, sorry.
-/
import Derived.Test.YtiikohbnfbpjeaaDoorRows
import GoSem.ClaimSeven
namespace Go.Proofs.YtiikohbnfbpjeaaDoor
namespace Rows

/-- THE TIED CARD OF 'provostlaw14.MoneyNames'. -/
def moneyNamesCard : Claim7 := { stood := { row := moneyNamesRow, standIns := [], harness := (true, "94094200a96e769812c03a7f8c2a500421510dcafd917745316bed3148f1c1f2"), looks := true }, kinds := [], alts := [], laidByText := true, laidKinds := [.data, .data, .data, .data, .data, .pinned], laidTests := true, laidLooks := .later }
def MoneyNamesCardSaid : Prop := Claim7.holds Tryd.pinned (.plain (OpenSpec.ofChange moneyNamesSpec)) moneyNamesCard

/-- THE TIED CARD OF 'provostlaw14.MoneyReads'. -/
def moneyReadsCard : Claim7 := { stood := { row := moneyReadsRow, standIns := [], harness := (true, "94094200a96e769812c03a7f8c2a500421510dcafd917745316bed3148f1c1f2"), looks := true }, kinds := [], alts := [], laidByText := true, laidKinds := [.data, .data, .pinned], laidTests := true, laidLooks := .later }
def MoneyReadsCardSaid : Prop := Claim7.holds Tryd.pinned (.plain (OpenSpec.ofChange moneyReadsSpec)) moneyReadsCard

/-- THE TIED CARD OF 'provostlaw14.MoneyDoes'. -/
def moneyDoesCard : Claim7 := { stood := { row := moneyDoesRow, standIns := [], harness := (true, "94094200a96e769812c03a7f8c2a500421510dcafd917745316bed3148f1c1f2"), looks := true }, kinds := [], alts := [], laidByText := true, laidKinds := [.data, .data, .data], laidTests := true, laidLooks := .later }
def MoneyDoesCardSaid : Prop := Claim7.holds Tryd.pinned (.plain (OpenSpec.ofChange moneyDoesSpec)) moneyDoesCard

/-- THE TIED CARD OF 'provostlaw14.MoneyBack'. -/
def moneyBackCard : Claim7 := { stood := { row := moneyBackRow, standIns := [], harness := (true, "94094200a96e769812c03a7f8c2a500421510dcafd917745316bed3148f1c1f2"), looks := true }, kinds := [], alts := [], laidByText := true, laidKinds := [.data, .data, .data, .data, .data, .pinned], laidTests := true, laidLooks := .later }
def MoneyBackCardSaid : Prop := Claim7.holds Tryd.pinned (.plain (OpenSpec.ofChange moneyBackSpec)) moneyBackCard

/-- THE TIED CARD OF 'provostlaw14.MoneyNoughts'. -/
def moneyNoughtsCard : Claim7 := { stood := { row := moneyNoughtsRow, standIns := [], harness := (true, "94094200a96e769812c03a7f8c2a500421510dcafd917745316bed3148f1c1f2"), looks := true }, kinds := [], alts := [], laidByText := true, laidKinds := [.data, .data, .data, .data, .data, .pinned], laidTests := true, laidLooks := .later }
def MoneyNoughtsCardSaid : Prop := Claim7.holds Tryd.pinned (.plain (OpenSpec.ofChange moneyNoughtsSpec)) moneyNoughtsCard

/-- THE TIED CARD OF 'provostlaw14.MoneySums'. -/
def moneySumsCard : Claim7 := { stood := { row := moneySumsRow, standIns := [], harness := (true, "94094200a96e769812c03a7f8c2a500421510dcafd917745316bed3148f1c1f2"), looks := true }, kinds := [], alts := [], laidByText := true, laidKinds := [.data, .data, .pinned], laidTests := true, laidLooks := .later }
def MoneySumsCardSaid : Prop := Claim7.holds Tryd.pinned (.plain (OpenSpec.ofChange moneySumsSpec)) moneySumsCard

/-- THE TIED CARD OF 'provostlaw14.MoneyOrder'. -/
def moneyOrderCard : Claim7 := { stood := { row := moneyOrderRow, standIns := [], harness := (true, "94094200a96e769812c03a7f8c2a500421510dcafd917745316bed3148f1c1f2"), looks := true }, kinds := [], alts := [], laidByText := true, laidKinds := [.data, .data, .pinned], laidTests := true, laidLooks := .later }
def MoneyOrderCardSaid : Prop := Claim7.holds Tryd.pinned (.plain (OpenSpec.ofChange moneyOrderSpec)) moneyOrderCard

/-- THE SECOND FORM's CARD OF 'provostlaw14.MoneyNames'. -/
def moneyNamesUptoCard : Claim7 := { stood := { row := moneyNamesUptoRow, standIns := [], harness := (true, "94094200a96e769812c03a7f8c2a500421510dcafd917745316bed3148f1c1f2"), looks := true }, kinds := [], alts := [], laidByText := true, laidKinds := [.data, .data, .data, .data, .data, .pinned], laidTests := true, laidLooks := .later }
def MoneyNamesUptoCardSaid : Prop := Claim7.holds Tryd.pinned (.plain (OpenSpec.upto moneyNamesSpec)) moneyNamesUptoCard

/-- THE SECOND FORM's CARD OF 'provostlaw14.MoneyReads'. -/
def moneyReadsUptoCard : Claim7 := { stood := { row := moneyReadsUptoRow, standIns := [], harness := (true, "94094200a96e769812c03a7f8c2a500421510dcafd917745316bed3148f1c1f2"), looks := true }, kinds := [], alts := [], laidByText := true, laidKinds := [.data, .data, .pinned], laidTests := true, laidLooks := .later }
def MoneyReadsUptoCardSaid : Prop := Claim7.holds Tryd.pinned (.plain (OpenSpec.upto moneyReadsSpec)) moneyReadsUptoCard

/-- THE SECOND FORM's CARD OF 'provostlaw14.MoneyDoes'. -/
def moneyDoesUptoCard : Claim7 := { stood := { row := moneyDoesUptoRow, standIns := [], harness := (true, "94094200a96e769812c03a7f8c2a500421510dcafd917745316bed3148f1c1f2"), looks := true }, kinds := [], alts := [], laidByText := true, laidKinds := [.data, .data, .data], laidTests := true, laidLooks := .later }
def MoneyDoesUptoCardSaid : Prop := Claim7.holds Tryd.pinned (.plain (OpenSpec.upto moneyDoesSpec)) moneyDoesUptoCard

/-- THE SECOND FORM's CARD OF 'provostlaw14.MoneyBack'. -/
def moneyBackUptoCard : Claim7 := { stood := { row := moneyBackUptoRow, standIns := [], harness := (true, "94094200a96e769812c03a7f8c2a500421510dcafd917745316bed3148f1c1f2"), looks := true }, kinds := [], alts := [], laidByText := true, laidKinds := [.data, .data, .data, .data, .data, .pinned], laidTests := true, laidLooks := .later }
def MoneyBackUptoCardSaid : Prop := Claim7.holds Tryd.pinned (.plain (OpenSpec.upto moneyBackSpec)) moneyBackUptoCard

/-- THE SECOND FORM's CARD OF 'provostlaw14.MoneyNoughts'. -/
def moneyNoughtsUptoCard : Claim7 := { stood := { row := moneyNoughtsUptoRow, standIns := [], harness := (true, "94094200a96e769812c03a7f8c2a500421510dcafd917745316bed3148f1c1f2"), looks := true }, kinds := [], alts := [], laidByText := true, laidKinds := [.data, .data, .data, .data, .data, .pinned], laidTests := true, laidLooks := .later }
def MoneyNoughtsUptoCardSaid : Prop := Claim7.holds Tryd.pinned (.plain (OpenSpec.upto moneyNoughtsSpec)) moneyNoughtsUptoCard

/-- THE SECOND FORM's CARD OF 'provostlaw14.MoneySums'. -/
def moneySumsUptoCard : Claim7 := { stood := { row := moneySumsUptoRow, standIns := [], harness := (true, "94094200a96e769812c03a7f8c2a500421510dcafd917745316bed3148f1c1f2"), looks := true }, kinds := [], alts := [], laidByText := true, laidKinds := [.data, .data, .pinned], laidTests := true, laidLooks := .later }
def MoneySumsUptoCardSaid : Prop := Claim7.holds Tryd.pinned (.plain (OpenSpec.upto moneySumsSpec)) moneySumsUptoCard

/-- THE SECOND FORM's CARD OF 'provostlaw14.MoneyOrder'. -/
def moneyOrderUptoCard : Claim7 := { stood := { row := moneyOrderUptoRow, standIns := [], harness := (true, "94094200a96e769812c03a7f8c2a500421510dcafd917745316bed3148f1c1f2"), looks := true }, kinds := [], alts := [], laidByText := true, laidKinds := [.data, .data, .pinned], laidTests := true, laidLooks := .later }
def MoneyOrderUptoCardSaid : Prop := Claim7.holds Tryd.pinned (.plain (OpenSpec.upto moneyOrderSpec)) moneyOrderUptoCard
end Rows
end Go.Proofs.YtiikohbnfbpjeaaDoor

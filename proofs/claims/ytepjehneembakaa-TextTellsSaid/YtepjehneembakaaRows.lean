/-
  No cell of these rows narrows 'for every input' (looked for: loops, veiled, ifaces, maps, wideKeys, modest, calm, conditions, laid).
  DERIVED. THE GIVEN ROWS OF THIS SEAT. 6 by the template 'for every input the law returns true; each argument reads behind the call as it read before'; 0 by the template 'total and deterministic' (their statements: YtepjehneembakaaTotals.lean).
  GIVEN WITH THE SEED: the statements are not yours to turn. If you find one false, say at which input.
  Laid BY PROGRAM, IN A SANDBOX (cutbox-rows.mjs): the forced cells as the released guide's own fill.sh prints them over the translation a22647a98187e1ae… (all of the seat's roots in one cut). By AI agents, Wed Nov 11 2026. No macro, syntax, notation, axiom, sorry.
-/
import Derived.Test.YtepjehneembakaaChecked
import GoSem.Claim
import GoSem.ClaimJoined
import GoSem.ClaimMapViews
import Derived.JoinedTies
import Derived.KernelRfl
namespace Go.Proofs.Ytepjehneembakaa
/- THE CELL 'sum', in the pinned program and in every row, IS THE sha256 OF THE DUMP (.gsa) THAT YtepjehneembakaaProg.lean LOADS. Nothing in Lean hashes anything: it is a label: what it is worth is what the hold of that sum in a sandbox is worth. -/
noncomputable def Try.pinned : Pinned := { name := "ytepjehneembakaa", sum := "a22647a98187e1aeeb773ff54d92a2122493e05bc4d7f22e095915c65f442faa", checked := Try.checked }
namespace Rows
def none {H : Type} : Left H := { results := [], args := [] }

/-- 'provostlaw01.TextNames': WHATEVER THE INPUT: true; the input reads as it did. -/
def textNamesSpec : ChangeSpec := { name := "textNames", fn := fun _ => fun
  | [] => { results := [.lit (.bool true)], args := [] }
  | _ => none }
def textNamesRow : OpenClaim := { program := "ytepjehneembakaa", sum := "a22647a98187e1aeeb773ff54d92a2122493e05bc4d7f22e095915c65f442faa", func := "provost/provostlaw01.TextNames", spec := "textNames", unfollowed := true, recurses := true, apart := false }
def TextNamesSaid : Prop := textNamesRow.holds Try.pinned (OpenSpec.ofChange textNamesSpec)

/-- ITS FALSE NEIGHBOUR: 'it returns false'. Refute it at one input. -/
def textNamesWrong : ChangeSpec := { name := "textNames", fn := fun _ => fun
  | [] => { results := [.lit (.bool false)], args := [] }
  | _ => none }
def TextNamesWrongFalsely : Prop := textNamesRow.holds Try.pinned (OpenSpec.ofChange textNamesWrong)

/-- 'provostlaw01.TextTells': WHATEVER THE INPUT: true; the input reads as it did. -/
def textTellsSpec : ChangeSpec := { name := "textTells", fn := fun _ => fun
  | [d1, d2] => { results := [.lit (.bool true)], args := [d1, d2] }
  | _ => none }
def textTellsRow : OpenClaim := { program := "ytepjehneembakaa", sum := "a22647a98187e1aeeb773ff54d92a2122493e05bc4d7f22e095915c65f442faa", func := "provost/provostlaw01.TextTells", spec := "textTells", unfollowed := true, recurses := true, apart := false }
def TextTellsSaid : Prop := textTellsRow.holds Try.pinned (OpenSpec.ofChange textTellsSpec)

/-- ITS FALSE NEIGHBOUR: 'it returns false'. Refute it at one input. -/
def textTellsWrong : ChangeSpec := { name := "textTells", fn := fun _ => fun
  | [d1, d2] => { results := [.lit (.bool false)], args := [d1, d2] }
  | _ => none }
def TextTellsWrongFalsely : Prop := textTellsRow.holds Try.pinned (OpenSpec.ofChange textTellsWrong)

/-- 'provostlaw01.TextPuts': WHATEVER THE INPUT: true; the input reads as it did. -/
def textPutsSpec : ChangeSpec := { name := "textPuts", fn := fun _ => fun
  | [d] => { results := [.lit (.bool true)], args := [d] }
  | _ => none }
def textPutsRow : OpenClaim := { program := "ytepjehneembakaa", sum := "a22647a98187e1aeeb773ff54d92a2122493e05bc4d7f22e095915c65f442faa", func := "provost/provostlaw01.TextPuts", spec := "textPuts", apart := false }
def TextPutsSaid : Prop := textPutsRow.holds Try.pinned (OpenSpec.ofChange textPutsSpec)

/-- ITS FALSE NEIGHBOUR: 'it returns false'. Refute it at one input. -/
def textPutsWrong : ChangeSpec := { name := "textPuts", fn := fun _ => fun
  | [d] => { results := [.lit (.bool false)], args := [d] }
  | _ => none }
def TextPutsWrongFalsely : Prop := textPutsRow.holds Try.pinned (OpenSpec.ofChange textPutsWrong)

/-- 'provostlaw01.TextThere': WHATEVER THE INPUT: true; the input reads as it did. -/
def textThereSpec : ChangeSpec := { name := "textThere", fn := fun _ => fun
  | [d] => { results := [.lit (.bool true)], args := [d] }
  | _ => none }
def textThereRow : OpenClaim := { program := "ytepjehneembakaa", sum := "a22647a98187e1aeeb773ff54d92a2122493e05bc4d7f22e095915c65f442faa", func := "provost/provostlaw01.TextThere", spec := "textThere", unfollowed := true, recurses := true, apart := false }
def TextThereSaid : Prop := textThereRow.holds Try.pinned (OpenSpec.ofChange textThereSpec)

/-- ITS FALSE NEIGHBOUR: 'it returns false'. Refute it at one input. -/
def textThereWrong : ChangeSpec := { name := "textThere", fn := fun _ => fun
  | [d] => { results := [.lit (.bool false)], args := [d] }
  | _ => none }
def TextThereWrongFalsely : Prop := textThereRow.holds Try.pinned (OpenSpec.ofChange textThereWrong)

/-- 'provostlaw01.TextBoth': WHATEVER THE INPUT: true; the input reads as it did. -/
def textBothSpec : ChangeSpec := { name := "textBoth", fn := fun _ => fun
  | [d1, d2] => { results := [.lit (.bool true)], args := [d1, d2] }
  | _ => none }
def textBothRow : OpenClaim := { program := "ytepjehneembakaa", sum := "a22647a98187e1aeeb773ff54d92a2122493e05bc4d7f22e095915c65f442faa", func := "provost/provostlaw01.TextBoth", spec := "textBoth", unfollowed := true, recurses := true, apart := false }
def TextBothSaid : Prop := textBothRow.holds Try.pinned (OpenSpec.ofChange textBothSpec)

/-- ITS FALSE NEIGHBOUR: 'it returns false'. Refute it at one input. -/
def textBothWrong : ChangeSpec := { name := "textBoth", fn := fun _ => fun
  | [d1, d2] => { results := [.lit (.bool false)], args := [d1, d2] }
  | _ => none }
def TextBothWrongFalsely : Prop := textBothRow.holds Try.pinned (OpenSpec.ofChange textBothWrong)

/-- 'provostlaw01.TextWhere': WHATEVER THE INPUT: true; the input reads as it did. -/
def textWhereSpec : ChangeSpec := { name := "textWhere", fn := fun _ => fun
  | [d1, d2] => { results := [.lit (.bool true)], args := [d1, d2] }
  | _ => none }
def textWhereRow : OpenClaim := { program := "ytepjehneembakaa", sum := "a22647a98187e1aeeb773ff54d92a2122493e05bc4d7f22e095915c65f442faa", func := "provost/provostlaw01.TextWhere", spec := "textWhere", unfollowed := true, recurses := true, apart := false }
def TextWhereSaid : Prop := textWhereRow.holds Try.pinned (OpenSpec.ofChange textWhereSpec)

/-- ITS FALSE NEIGHBOUR: 'it returns false'. Refute it at one input. -/
def textWhereWrong : ChangeSpec := { name := "textWhere", fn := fun _ => fun
  | [d1, d2] => { results := [.lit (.bool false)], args := [d1, d2] }
  | _ => none }
def TextWhereWrongFalsely : Prop := textWhereRow.holds Try.pinned (OpenSpec.ofChange textWhereWrong)

/- THE SECOND FORM. 'bulk': how many values and letters a reading holds, each counted each time it is reached (what is shared counts as often as it is met; a slice's spare places count too). A statement '..UptoSaid' is the law's where the arguments, and the package variables that the reading takes, are together of bulk at most 1048576: NARROWER than '..Said'. Prove '..Said' where nothing that the law and all that it calls make is longer than what came in: it says more and counts as full. Else prove '..UptoSaid'. A law counts once. -/
mutual
def uptoBulk {H : Type} : DataW H → Nat
  | .lit (.string bytes) => bytes.length + 1
  | .lit _ => 1
  | .nil => 1
  | .ptr d => uptoBulk d + 1
  | .slice elems spare => uptoBulkAll elems + uptoBulkAll spare + 1
  | .agg parts => uptoBulkAll parts + 1
  | .iface _ d => uptoBulk d + 1
  | .map entries => uptoBulkEntries entries + 1
  | .held _ => 1
def uptoBulkAll {H : Type} : List (DataW H) → Nat
  | [] => 0
  | d :: r => uptoBulk d + uptoBulkAll r
def uptoBulkEntries {H : Type} : List (Lit × DataW H) → Nat
  | [] => 0
  | x :: r => uptoBulkEntry x + uptoBulkEntries r
def uptoBulkEntry {H : Type} : Lit × DataW H → Nat
  | (.string bytes, d) => bytes.length + uptoBulk d + 1
  | (_, d) => uptoBulk d + 1
 end
def uptoSmall : (H : Type) → List (DataW H) → Bool := fun _ ds => decide (uptoBulkAll ds ≤ 1048576)
def OpenSpec.upto (s : _root_.Go.ChangeSpec) : _root_.Go.OpenSpec := { _root_.Go.OpenSpec.ofChange s with cond := some uptoSmall }

/-- 'provostlaw01.TextNames', WHERE WHAT IT READS IS OF BULK AT MOST 1048576: true; the input reads as it did. -/
def textNamesUptoRow : OpenClaim := { program := "ytepjehneembakaa", sum := "a22647a98187e1aeeb773ff54d92a2122493e05bc4d7f22e095915c65f442faa", func := "provost/provostlaw01.TextNames", spec := "textNames", unfollowed := true, recurses := true, apart := false, narrowed := true }
def TextNamesUptoSaid : Prop := textNamesUptoRow.holds Try.pinned (OpenSpec.upto textNamesSpec)

/-- 'provostlaw01.TextTells', WHERE WHAT IT READS IS OF BULK AT MOST 1048576: true; the input reads as it did. -/
def textTellsUptoRow : OpenClaim := { program := "ytepjehneembakaa", sum := "a22647a98187e1aeeb773ff54d92a2122493e05bc4d7f22e095915c65f442faa", func := "provost/provostlaw01.TextTells", spec := "textTells", unfollowed := true, recurses := true, apart := false, narrowed := true }
def TextTellsUptoSaid : Prop := textTellsUptoRow.holds Try.pinned (OpenSpec.upto textTellsSpec)

/-- 'provostlaw01.TextPuts', WHERE WHAT IT READS IS OF BULK AT MOST 1048576: true; the input reads as it did. -/
def textPutsUptoRow : OpenClaim := { program := "ytepjehneembakaa", sum := "a22647a98187e1aeeb773ff54d92a2122493e05bc4d7f22e095915c65f442faa", func := "provost/provostlaw01.TextPuts", spec := "textPuts", apart := false, narrowed := true }
def TextPutsUptoSaid : Prop := textPutsUptoRow.holds Try.pinned (OpenSpec.upto textPutsSpec)

/-- 'provostlaw01.TextThere', WHERE WHAT IT READS IS OF BULK AT MOST 1048576: true; the input reads as it did. -/
def textThereUptoRow : OpenClaim := { program := "ytepjehneembakaa", sum := "a22647a98187e1aeeb773ff54d92a2122493e05bc4d7f22e095915c65f442faa", func := "provost/provostlaw01.TextThere", spec := "textThere", unfollowed := true, recurses := true, apart := false, narrowed := true }
def TextThereUptoSaid : Prop := textThereUptoRow.holds Try.pinned (OpenSpec.upto textThereSpec)

/-- 'provostlaw01.TextBoth', WHERE WHAT IT READS IS OF BULK AT MOST 1048576: true; the input reads as it did. -/
def textBothUptoRow : OpenClaim := { program := "ytepjehneembakaa", sum := "a22647a98187e1aeeb773ff54d92a2122493e05bc4d7f22e095915c65f442faa", func := "provost/provostlaw01.TextBoth", spec := "textBoth", unfollowed := true, recurses := true, apart := false, narrowed := true }
def TextBothUptoSaid : Prop := textBothUptoRow.holds Try.pinned (OpenSpec.upto textBothSpec)

/-- 'provostlaw01.TextWhere', WHERE WHAT IT READS IS OF BULK AT MOST 1048576: true; the input reads as it did. -/
def textWhereUptoRow : OpenClaim := { program := "ytepjehneembakaa", sum := "a22647a98187e1aeeb773ff54d92a2122493e05bc4d7f22e095915c65f442faa", func := "provost/provostlaw01.TextWhere", spec := "textWhere", unfollowed := true, recurses := true, apart := false, narrowed := true }
def TextWhereUptoSaid : Prop := textWhereUptoRow.holds Try.pinned (OpenSpec.upto textWhereSpec)

end Rows
end Go.Proofs.Ytepjehneembakaa

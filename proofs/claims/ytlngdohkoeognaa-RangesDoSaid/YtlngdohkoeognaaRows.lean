/-
  No cell of these rows narrows 'for every input' (looked for: loops, veiled, ifaces, maps, wideKeys, modest, calm, conditions, laid).
  DERIVED. THE GIVEN ROWS OF THIS SEAT. 6 by the template 'for every input the law returns true; each argument reads behind the call as it read before'; 0 by the template 'total and deterministic' (their statements: YtlngdohkoeognaaTotals.lean).
  GIVEN WITH THE SEED: the statements are not yours to turn. If you find one false, say at which input.
  Laid BY PROGRAM, IN A SANDBOX (cutbox-rows.mjs): the forced cells as the released guide's own fill.sh prints them over the translation 6046fa255b4fd4c7… (all of the seat's roots in one cut). By AI agents, Wed Nov 11 2026. No macro, syntax, notation, axiom, sorry.
-/
import Derived.Test.YtlngdohkoeognaaChecked
import GoSem.Claim
import GoSem.ClaimJoined
import GoSem.ClaimMapViews
import Derived.JoinedTies
import Derived.KernelRfl
namespace Go.Proofs.Ytlngdohkoeognaa
/- THE CELL 'sum', in the pinned program and in every row, IS THE sha256 OF THE DUMP (.gsa) THAT YtlngdohkoeognaaProg.lean LOADS. Nothing in Lean hashes anything: it is a label: what it is worth is what the hold of that sum in a sandbox is worth. -/
noncomputable def Try.pinned : Pinned := { name := "ytlngdohkoeognaa", sum := "6046fa255b4fd4c7d59fa5a342adf581a58bc25a7f649ec749c8627bd6bee777", checked := Try.checked }
namespace Rows
def none {H : Type} : Left H := { results := [], args := [] }

/-- 'provostlaw06.RangesNames': WHATEVER THE INPUT: true; the input reads as it did. -/
def rangesNamesSpec : ChangeSpec := { name := "rangesNames", fn := fun _ => fun
  | [] => { results := [.lit (.bool true)], args := [] }
  | _ => none }
def rangesNamesRow : OpenClaim := { program := "ytlngdohkoeognaa", sum := "6046fa255b4fd4c7d59fa5a342adf581a58bc25a7f649ec749c8627bd6bee777", func := "provost/provostlaw06.RangesNames", spec := "rangesNames", unfollowed := true, recurses := true, apart := false }
def RangesNamesSaid : Prop := rangesNamesRow.holds Try.pinned (OpenSpec.ofChange rangesNamesSpec)

/-- ITS FALSE NEIGHBOUR: 'it returns false'. Refute it at one input. -/
def rangesNamesWrong : ChangeSpec := { name := "rangesNames", fn := fun _ => fun
  | [] => { results := [.lit (.bool false)], args := [] }
  | _ => none }
def RangesNamesWrongFalsely : Prop := rangesNamesRow.holds Try.pinned (OpenSpec.ofChange rangesNamesWrong)

/-- 'provostlaw06.RangesDo': WHATEVER THE INPUT: true; the input reads as it did. -/
def rangesDoSpec : ChangeSpec := { name := "rangesDo", fn := fun _ => fun
  | [d1, d2, d3] => { results := [.lit (.bool true)], args := [d1, d2, d3] }
  | _ => none }
def rangesDoRow : OpenClaim := { program := "ytlngdohkoeognaa", sum := "6046fa255b4fd4c7d59fa5a342adf581a58bc25a7f649ec749c8627bd6bee777", func := "provost/provostlaw06.RangesDo", spec := "rangesDo", unfollowed := true, recurses := true, apart := false }
def RangesDoSaid : Prop := rangesDoRow.holds Try.pinned (OpenSpec.ofChange rangesDoSpec)

/-- ITS FALSE NEIGHBOUR: 'it returns false'. Refute it at one input. -/
def rangesDoWrong : ChangeSpec := { name := "rangesDo", fn := fun _ => fun
  | [d1, d2, d3] => { results := [.lit (.bool false)], args := [d1, d2, d3] }
  | _ => none }
def RangesDoWrongFalsely : Prop := rangesDoRow.holds Try.pinned (OpenSpec.ofChange rangesDoWrong)

/-- 'provostlaw06.RangesCut': WHATEVER THE INPUT: true; the input reads as it did. -/
def rangesCutSpec : ChangeSpec := { name := "rangesCut", fn := fun _ => fun
  | [d] => { results := [.lit (.bool true)], args := [d] }
  | _ => none }
def rangesCutRow : OpenClaim := { program := "ytlngdohkoeognaa", sum := "6046fa255b4fd4c7d59fa5a342adf581a58bc25a7f649ec749c8627bd6bee777", func := "provost/provostlaw06.RangesCut", spec := "rangesCut", unfollowed := true, recurses := true, apart := false }
def RangesCutSaid : Prop := rangesCutRow.holds Try.pinned (OpenSpec.ofChange rangesCutSpec)

/-- ITS FALSE NEIGHBOUR: 'it returns false'. Refute it at one input. -/
def rangesCutWrong : ChangeSpec := { name := "rangesCut", fn := fun _ => fun
  | [d] => { results := [.lit (.bool false)], args := [d] }
  | _ => none }
def RangesCutWrongFalsely : Prop := rangesCutRow.holds Try.pinned (OpenSpec.ofChange rangesCutWrong)

/-- 'provostlaw06.RangesHave': WHATEVER THE INPUT: true; the input reads as it did. -/
def rangesHaveSpec : ChangeSpec := { name := "rangesHave", fn := fun _ => fun
  | [d1, d2, d3] => { results := [.lit (.bool true)], args := [d1, d2, d3] }
  | _ => none }
def rangesHaveRow : OpenClaim := { program := "ytlngdohkoeognaa", sum := "6046fa255b4fd4c7d59fa5a342adf581a58bc25a7f649ec749c8627bd6bee777", func := "provost/provostlaw06.RangesHave", spec := "rangesHave", unfollowed := true, recurses := true, apart := false }
def RangesHaveSaid : Prop := rangesHaveRow.holds Try.pinned (OpenSpec.ofChange rangesHaveSpec)

/-- ITS FALSE NEIGHBOUR: 'it returns false'. Refute it at one input. -/
def rangesHaveWrong : ChangeSpec := { name := "rangesHave", fn := fun _ => fun
  | [d1, d2, d3] => { results := [.lit (.bool false)], args := [d1, d2, d3] }
  | _ => none }
def RangesHaveWrongFalsely : Prop := rangesHaveRow.holds Try.pinned (OpenSpec.ofChange rangesHaveWrong)

/-- 'provostlaw06.RangesSame': WHATEVER THE INPUT: true; the input reads as it did. -/
def rangesSameSpec : ChangeSpec := { name := "rangesSame", fn := fun _ => fun
  | [d1, d2] => { results := [.lit (.bool true)], args := [d1, d2] }
  | _ => none }
def rangesSameRow : OpenClaim := { program := "ytlngdohkoeognaa", sum := "6046fa255b4fd4c7d59fa5a342adf581a58bc25a7f649ec749c8627bd6bee777", func := "provost/provostlaw06.RangesSame", spec := "rangesSame", unfollowed := true, recurses := true, apart := false }
def RangesSameSaid : Prop := rangesSameRow.holds Try.pinned (OpenSpec.ofChange rangesSameSpec)

/-- ITS FALSE NEIGHBOUR: 'it returns false'. Refute it at one input. -/
def rangesSameWrong : ChangeSpec := { name := "rangesSame", fn := fun _ => fun
  | [d1, d2] => { results := [.lit (.bool false)], args := [d1, d2] }
  | _ => none }
def RangesSameWrongFalsely : Prop := rangesSameRow.holds Try.pinned (OpenSpec.ofChange rangesSameWrong)

/-- 'provostlaw06.RangesClasses': WHATEVER THE INPUT: true; the input reads as it did. -/
def rangesClassesSpec : ChangeSpec := { name := "rangesClasses", fn := fun _ => fun
  | [d1, d2] => { results := [.lit (.bool true)], args := [d1, d2] }
  | _ => none }
def rangesClassesRow : OpenClaim := { program := "ytlngdohkoeognaa", sum := "6046fa255b4fd4c7d59fa5a342adf581a58bc25a7f649ec749c8627bd6bee777", func := "provost/provostlaw06.RangesClasses", spec := "rangesClasses", unfollowed := true, recurses := true, apart := false }
def RangesClassesSaid : Prop := rangesClassesRow.holds Try.pinned (OpenSpec.ofChange rangesClassesSpec)

/-- ITS FALSE NEIGHBOUR: 'it returns false'. Refute it at one input. -/
def rangesClassesWrong : ChangeSpec := { name := "rangesClasses", fn := fun _ => fun
  | [d1, d2] => { results := [.lit (.bool false)], args := [d1, d2] }
  | _ => none }
def RangesClassesWrongFalsely : Prop := rangesClassesRow.holds Try.pinned (OpenSpec.ofChange rangesClassesWrong)

/- THE SECOND FORM. 'bulk': how many values and letters a reading holds, each counted each time it is reached (what is shared counts as often as it is met; a slice's spare places count too). A statement '..UptoSaid' is the law's where the arguments, and the package variables that the reading takes, are together of bulk at most 1048576: NARROWER than '..Said'. Prove '..Said' where nothing that the law and all that it calls make is longer than what came in: it says more and counts as full. Else prove '..UptoSaid'. A law counts once. -/
mutual
def uptoBulk {H : Type} : DataW H → Nat
  | .lit (.string bytes) => bytes.length + 1
  | .lit _ => 1
  | .nil => 1
  | .ptr d => uptoBulk d + 1
  | .slice elems spare => uptoBulkAll elems + uptoBulkAll spare + 1
  | .agg parts => uptoBulkAll parts + 1
  | .iface _ d => uptoBulk d + 1
  | .map entries => uptoBulkEntries entries + 1
  | .held _ => 1
def uptoBulkAll {H : Type} : List (DataW H) → Nat
  | [] => 0
  | d :: r => uptoBulk d + uptoBulkAll r
def uptoBulkEntries {H : Type} : List (Lit × DataW H) → Nat
  | [] => 0
  | x :: r => uptoBulkEntry x + uptoBulkEntries r
def uptoBulkEntry {H : Type} : Lit × DataW H → Nat
  | (.string bytes, d) => bytes.length + uptoBulk d + 1
  | (_, d) => uptoBulk d + 1
 end
def uptoSmall : (H : Type) → List (DataW H) → Bool := fun _ ds => decide (uptoBulkAll ds ≤ 1048576)
def OpenSpec.upto (s : _root_.Go.ChangeSpec) : _root_.Go.OpenSpec := { _root_.Go.OpenSpec.ofChange s with cond := some uptoSmall }

/-- 'provostlaw06.RangesNames', WHERE WHAT IT READS IS OF BULK AT MOST 1048576: true; the input reads as it did. -/
def rangesNamesUptoRow : OpenClaim := { program := "ytlngdohkoeognaa", sum := "6046fa255b4fd4c7d59fa5a342adf581a58bc25a7f649ec749c8627bd6bee777", func := "provost/provostlaw06.RangesNames", spec := "rangesNames", unfollowed := true, recurses := true, apart := false, narrowed := true }
def RangesNamesUptoSaid : Prop := rangesNamesUptoRow.holds Try.pinned (OpenSpec.upto rangesNamesSpec)

/-- 'provostlaw06.RangesDo', WHERE WHAT IT READS IS OF BULK AT MOST 1048576: true; the input reads as it did. -/
def rangesDoUptoRow : OpenClaim := { program := "ytlngdohkoeognaa", sum := "6046fa255b4fd4c7d59fa5a342adf581a58bc25a7f649ec749c8627bd6bee777", func := "provost/provostlaw06.RangesDo", spec := "rangesDo", unfollowed := true, recurses := true, apart := false, narrowed := true }
def RangesDoUptoSaid : Prop := rangesDoUptoRow.holds Try.pinned (OpenSpec.upto rangesDoSpec)

/-- 'provostlaw06.RangesCut', WHERE WHAT IT READS IS OF BULK AT MOST 1048576: true; the input reads as it did. -/
def rangesCutUptoRow : OpenClaim := { program := "ytlngdohkoeognaa", sum := "6046fa255b4fd4c7d59fa5a342adf581a58bc25a7f649ec749c8627bd6bee777", func := "provost/provostlaw06.RangesCut", spec := "rangesCut", unfollowed := true, recurses := true, apart := false, narrowed := true }
def RangesCutUptoSaid : Prop := rangesCutUptoRow.holds Try.pinned (OpenSpec.upto rangesCutSpec)

/-- 'provostlaw06.RangesHave', WHERE WHAT IT READS IS OF BULK AT MOST 1048576: true; the input reads as it did. -/
def rangesHaveUptoRow : OpenClaim := { program := "ytlngdohkoeognaa", sum := "6046fa255b4fd4c7d59fa5a342adf581a58bc25a7f649ec749c8627bd6bee777", func := "provost/provostlaw06.RangesHave", spec := "rangesHave", unfollowed := true, recurses := true, apart := false, narrowed := true }
def RangesHaveUptoSaid : Prop := rangesHaveUptoRow.holds Try.pinned (OpenSpec.upto rangesHaveSpec)

/-- 'provostlaw06.RangesSame', WHERE WHAT IT READS IS OF BULK AT MOST 1048576: true; the input reads as it did. -/
def rangesSameUptoRow : OpenClaim := { program := "ytlngdohkoeognaa", sum := "6046fa255b4fd4c7d59fa5a342adf581a58bc25a7f649ec749c8627bd6bee777", func := "provost/provostlaw06.RangesSame", spec := "rangesSame", unfollowed := true, recurses := true, apart := false, narrowed := true }
def RangesSameUptoSaid : Prop := rangesSameUptoRow.holds Try.pinned (OpenSpec.upto rangesSameSpec)

/-- 'provostlaw06.RangesClasses', WHERE WHAT IT READS IS OF BULK AT MOST 1048576: true; the input reads as it did. -/
def rangesClassesUptoRow : OpenClaim := { program := "ytlngdohkoeognaa", sum := "6046fa255b4fd4c7d59fa5a342adf581a58bc25a7f649ec749c8627bd6bee777", func := "provost/provostlaw06.RangesClasses", spec := "rangesClasses", unfollowed := true, recurses := true, apart := false, narrowed := true }
def RangesClassesUptoSaid : Prop := rangesClassesUptoRow.holds Try.pinned (OpenSpec.upto rangesClassesSpec)

end Rows
end Go.Proofs.Ytlngdohkoeognaa

/-
  NARROWER THAN 'FOR EVERY INPUT', by the rows' own cells (each row's printed sentence says how): WholeNames: laid · WholeDoes: laid · WholeReads: laid · WholeBack: laid · WholeRings: laid · WholeBounds: laid.
  DERIVED. THE GIVEN ROWS OF THIS SEAT. 6 by the template 'for every input the law returns true; each argument reads behind the call as it read before'; 0 by the template 'total and deterministic' (their statements: YtcoennncgconmaaDoorTotals.lean).
  GIVEN WITH THE SEED: the statements are not yours to turn. If you find one false, say at which input.
  Laid BY PROGRAM, IN A SANDBOX (cutbox-rows.mjs): the forced cells as the released guide's own fill.sh prints them over the translation ffbca20dbc464169… (all of the seat's roots in one cut). By AI agents, Wed Nov 11 2026. No macro, syntax, notation, axiom, sorry.
-/
import Derived.Test.YtcoennncgconmaaDoorChecked
import GoSem.Claim
import GoSem.ClaimJoined
import GoSem.ClaimMapViews
import Derived.JoinedTies
import Derived.KernelRfl
namespace Go.Proofs.YtcoennncgconmaaDoor
/- THE CELL 'sum', in the pinned program and in every row, IS THE sha256 OF THE DUMP (.gsa) THAT YtcoennncgconmaaDoorProg.lean LOADS. Nothing in Lean hashes anything: it is a label: what it is worth is what the hold of that sum in a sandbox is worth. -/
noncomputable def Tryd.pinned : Pinned := { name := "ytcoennncgconmaadoor", sum := "ffbca20dbc464169bb3d970294d2fae01ad6a3bb0fbf9c8c4895117ccff1b7ce", checked := Tryd.checked }
namespace Rows
def none {H : Type} : Left H := { results := [], args := [] }

/- WHAT THE LISTED PACKAGE-LEVEL VARIABLES READ AS WHEN THE CALL BEGINS. Each datum BY PROGRAM (the guide's laid-datum.mjs) off the statement by which the dump's own 'gosem.cut.vars' lays the variable. In a bare row this is a premise. The card (YtcoennncgconmaaDoorCards.lean) ties it to the program's text. -/
def laid_provost_whole_limits {H : Type} : DataW H := .agg [.lit (.int .u64 9223372036854775808), .lit (.int .u64 9223372036854775807)]
def laid_math_bits_deBruijn32tab {H : Type} : DataW H := .agg [.lit (.int .u8 0), .lit (.int .u8 1), .lit (.int .u8 28), .lit (.int .u8 2), .lit (.int .u8 29), .lit (.int .u8 14), .lit (.int .u8 24), .lit (.int .u8 3), .lit (.int .u8 30), .lit (.int .u8 22), .lit (.int .u8 20), .lit (.int .u8 15), .lit (.int .u8 25), .lit (.int .u8 17), .lit (.int .u8 4), .lit (.int .u8 8), .lit (.int .u8 31), .lit (.int .u8 27), .lit (.int .u8 13), .lit (.int .u8 23), .lit (.int .u8 21), .lit (.int .u8 19), .lit (.int .u8 16), .lit (.int .u8 7), .lit (.int .u8 26), .lit (.int .u8 12), .lit (.int .u8 18), .lit (.int .u8 6), .lit (.int .u8 11), .lit (.int .u8 5), .lit (.int .u8 10), .lit (.int .u8 9)]
def laid_math_bits_deBruijn64tab {H : Type} : DataW H := .agg [.lit (.int .u8 0), .lit (.int .u8 1), .lit (.int .u8 56), .lit (.int .u8 2), .lit (.int .u8 57), .lit (.int .u8 49), .lit (.int .u8 28), .lit (.int .u8 3), .lit (.int .u8 61), .lit (.int .u8 58), .lit (.int .u8 42), .lit (.int .u8 50), .lit (.int .u8 38), .lit (.int .u8 29), .lit (.int .u8 17), .lit (.int .u8 4), .lit (.int .u8 62), .lit (.int .u8 47), .lit (.int .u8 59), .lit (.int .u8 36), .lit (.int .u8 45), .lit (.int .u8 43), .lit (.int .u8 51), .lit (.int .u8 22), .lit (.int .u8 53), .lit (.int .u8 39), .lit (.int .u8 33), .lit (.int .u8 30), .lit (.int .u8 24), .lit (.int .u8 18), .lit (.int .u8 12), .lit (.int .u8 5), .lit (.int .u8 63), .lit (.int .u8 55), .lit (.int .u8 48), .lit (.int .u8 27), .lit (.int .u8 60), .lit (.int .u8 41), .lit (.int .u8 37), .lit (.int .u8 16), .lit (.int .u8 46), .lit (.int .u8 35), .lit (.int .u8 44), .lit (.int .u8 21), .lit (.int .u8 52), .lit (.int .u8 32), .lit (.int .u8 23), .lit (.int .u8 11), .lit (.int .u8 54), .lit (.int .u8 26), .lit (.int .u8 40), .lit (.int .u8 15), .lit (.int .u8 34), .lit (.int .u8 20), .lit (.int .u8 31), .lit (.int .u8 10), .lit (.int .u8 25), .lit (.int .u8 14), .lit (.int .u8 19), .lit (.int .u8 9), .lit (.int .u8 13), .lit (.int .u8 8), .lit (.int .u8 7), .lit (.int .u8 6)]
def laid_internal_strconv_uint64pow10 {H : Type} : DataW H := .agg [.lit (.int .u64 1), .lit (.int .u64 10), .lit (.int .u64 100), .lit (.int .u64 1000), .lit (.int .u64 10000), .lit (.int .u64 100000), .lit (.int .u64 1000000), .lit (.int .u64 10000000), .lit (.int .u64 100000000), .lit (.int .u64 1000000000), .lit (.int .u64 10000000000), .lit (.int .u64 100000000000), .lit (.int .u64 1000000000000), .lit (.int .u64 10000000000000), .lit (.int .u64 100000000000000), .lit (.int .u64 1000000000000000), .lit (.int .u64 10000000000000000), .lit (.int .u64 100000000000000000), .lit (.int .u64 1000000000000000000), .lit (.int .u64 10000000000000000000)]

/-- 'provostlaw02.WholeNames': WHATEVER THE INPUT: true; the input reads as it did. -/
def wholeNamesSpec : ChangeSpec := { name := "wholeNames", fn := fun _ => fun
  | [] => { results := [.lit (.bool true)], args := [] }
  | _ => none }
def wholeNamesRow : OpenClaim := { program := "ytcoennncgconmaadoor", sum := "ffbca20dbc464169bb3d970294d2fae01ad6a3bb0fbf9c8c4895117ccff1b7ce", func := "provost/provostlaw02.WholeNames", spec := "wholeNames", inPlace := ["math/bits.Add64"], unfollowed := true, recurses := true, named := ["provost/whole.limits"], apart := false, laid := [("provost/whole.limits", laid_provost_whole_limits)] }
def WholeNamesSaid : Prop := wholeNamesRow.holds Tryd.pinned (OpenSpec.ofChange wholeNamesSpec)

/-- ITS FALSE NEIGHBOUR: 'it returns false'. Refute it at one input. -/
def wholeNamesWrong : ChangeSpec := { name := "wholeNames", fn := fun _ => fun
  | [] => { results := [.lit (.bool false)], args := [] }
  | _ => none }
def WholeNamesWrongFalsely : Prop := wholeNamesRow.holds Tryd.pinned (OpenSpec.ofChange wholeNamesWrong)

/-- 'provostlaw02.WholeDoes': WHATEVER THE INPUT: true; the input reads as it did. -/
def wholeDoesSpec : ChangeSpec := { name := "wholeDoes", fn := fun _ => fun
  | [d1, d2] => { results := [.lit (.bool true)], args := [d1, d2] }
  | _ => none }
def wholeDoesRow : OpenClaim := { program := "ytcoennncgconmaadoor", sum := "ffbca20dbc464169bb3d970294d2fae01ad6a3bb0fbf9c8c4895117ccff1b7ce", func := "provost/provostlaw02.WholeDoes", spec := "wholeDoes", inPlace := ["math/bits.Add64"], unfollowed := true, recurses := true, named := ["provost/whole.limits"], apart := false, laid := [("provost/whole.limits", laid_provost_whole_limits)] }
def WholeDoesSaid : Prop := wholeDoesRow.holds Tryd.pinned (OpenSpec.ofChange wholeDoesSpec)

/-- ITS FALSE NEIGHBOUR: 'it returns false'. Refute it at one input. -/
def wholeDoesWrong : ChangeSpec := { name := "wholeDoes", fn := fun _ => fun
  | [d1, d2] => { results := [.lit (.bool false)], args := [d1, d2] }
  | _ => none }
def WholeDoesWrongFalsely : Prop := wholeDoesRow.holds Tryd.pinned (OpenSpec.ofChange wholeDoesWrong)

/-- 'provostlaw02.WholeReads': WHATEVER THE INPUT: true; the input reads as it did. -/
def wholeReadsSpec : ChangeSpec := { name := "wholeReads", fn := fun _ => fun
  | [d1, d2] => { results := [.lit (.bool true)], args := [d1, d2] }
  | _ => none }
def wholeReadsRow : OpenClaim := { program := "ytcoennncgconmaadoor", sum := "ffbca20dbc464169bb3d970294d2fae01ad6a3bb0fbf9c8c4895117ccff1b7ce", func := "provost/provostlaw02.WholeReads", spec := "wholeReads", inPlace := ["math/bits.Add64"], unfollowed := true, recurses := true, named := ["provost/whole.limits", "internal/strconv.uint64pow10", "math/bits.deBruijn32tab", "math/bits.deBruijn64tab"], apart := false, laid := [("math/bits.deBruijn32tab", laid_math_bits_deBruijn32tab), ("math/bits.deBruijn64tab", laid_math_bits_deBruijn64tab), ("internal/strconv.uint64pow10", laid_internal_strconv_uint64pow10), ("provost/whole.limits", laid_provost_whole_limits)] }
def WholeReadsSaid : Prop := wholeReadsRow.holds Tryd.pinned (OpenSpec.ofChange wholeReadsSpec)

/-- ITS FALSE NEIGHBOUR: 'it returns false'. Refute it at one input. -/
def wholeReadsWrong : ChangeSpec := { name := "wholeReads", fn := fun _ => fun
  | [d1, d2] => { results := [.lit (.bool false)], args := [d1, d2] }
  | _ => none }
def WholeReadsWrongFalsely : Prop := wholeReadsRow.holds Tryd.pinned (OpenSpec.ofChange wholeReadsWrong)

/-- 'provostlaw02.WholeBack': WHATEVER THE INPUT: true; the input reads as it did. -/
def wholeBackSpec : ChangeSpec := { name := "wholeBack", fn := fun _ => fun
  | [d1, d2] => { results := [.lit (.bool true)], args := [d1, d2] }
  | _ => none }
def wholeBackRow : OpenClaim := { program := "ytcoennncgconmaadoor", sum := "ffbca20dbc464169bb3d970294d2fae01ad6a3bb0fbf9c8c4895117ccff1b7ce", func := "provost/provostlaw02.WholeBack", spec := "wholeBack", inPlace := ["math/bits.Add64"], unfollowed := true, recurses := true, named := ["provost/whole.limits", "internal/strconv.uint64pow10", "math/bits.deBruijn32tab", "math/bits.deBruijn64tab"], apart := false, laid := [("math/bits.deBruijn32tab", laid_math_bits_deBruijn32tab), ("math/bits.deBruijn64tab", laid_math_bits_deBruijn64tab), ("internal/strconv.uint64pow10", laid_internal_strconv_uint64pow10), ("provost/whole.limits", laid_provost_whole_limits)] }
def WholeBackSaid : Prop := wholeBackRow.holds Tryd.pinned (OpenSpec.ofChange wholeBackSpec)

/-- ITS FALSE NEIGHBOUR: 'it returns false'. Refute it at one input. -/
def wholeBackWrong : ChangeSpec := { name := "wholeBack", fn := fun _ => fun
  | [d1, d2] => { results := [.lit (.bool false)], args := [d1, d2] }
  | _ => none }
def WholeBackWrongFalsely : Prop := wholeBackRow.holds Tryd.pinned (OpenSpec.ofChange wholeBackWrong)

/-- 'provostlaw02.WholeRings': WHATEVER THE INPUT: true; the input reads as it did. -/
def wholeRingsSpec : ChangeSpec := { name := "wholeRings", fn := fun _ => fun
  | [d1, d2] => { results := [.lit (.bool true)], args := [d1, d2] }
  | _ => none }
def wholeRingsRow : OpenClaim := { program := "ytcoennncgconmaadoor", sum := "ffbca20dbc464169bb3d970294d2fae01ad6a3bb0fbf9c8c4895117ccff1b7ce", func := "provost/provostlaw02.WholeRings", spec := "wholeRings", inPlace := ["math/bits.Add64"], unfollowed := true, recurses := true, named := ["provost/whole.limits"], apart := false, laid := [("provost/whole.limits", laid_provost_whole_limits)] }
def WholeRingsSaid : Prop := wholeRingsRow.holds Tryd.pinned (OpenSpec.ofChange wholeRingsSpec)

/-- ITS FALSE NEIGHBOUR: 'it returns false'. Refute it at one input. -/
def wholeRingsWrong : ChangeSpec := { name := "wholeRings", fn := fun _ => fun
  | [d1, d2] => { results := [.lit (.bool false)], args := [d1, d2] }
  | _ => none }
def WholeRingsWrongFalsely : Prop := wholeRingsRow.holds Tryd.pinned (OpenSpec.ofChange wholeRingsWrong)

/-- 'provostlaw02.WholeBounds': WHATEVER THE INPUT: true; the input reads as it did. -/
def wholeBoundsSpec : ChangeSpec := { name := "wholeBounds", fn := fun _ => fun
  | [d1, d2] => { results := [.lit (.bool true)], args := [d1, d2] }
  | _ => none }
def wholeBoundsRow : OpenClaim := { program := "ytcoennncgconmaadoor", sum := "ffbca20dbc464169bb3d970294d2fae01ad6a3bb0fbf9c8c4895117ccff1b7ce", func := "provost/provostlaw02.WholeBounds", spec := "wholeBounds", inPlace := ["math/bits.Add64"], unfollowed := true, recurses := true, named := ["provost/whole.limits"], apart := false, laid := [("provost/whole.limits", laid_provost_whole_limits)] }
def WholeBoundsSaid : Prop := wholeBoundsRow.holds Tryd.pinned (OpenSpec.ofChange wholeBoundsSpec)

/-- ITS FALSE NEIGHBOUR: 'it returns false'. Refute it at one input. -/
def wholeBoundsWrong : ChangeSpec := { name := "wholeBounds", fn := fun _ => fun
  | [d1, d2] => { results := [.lit (.bool false)], args := [d1, d2] }
  | _ => none }
def WholeBoundsWrongFalsely : Prop := wholeBoundsRow.holds Tryd.pinned (OpenSpec.ofChange wholeBoundsWrong)

/- THE SECOND FORM. 'bulk': how many values and letters a reading holds, each counted each time it is reached (what is shared counts as often as it is met; a slice's spare places count too). A statement '..UptoSaid' is the law's where the arguments, and the package variables that the reading takes, are together of bulk at most 1048576: NARROWER than '..Said'. Prove '..Said' where nothing that the law and all that it calls make is longer than what came in: it says more and counts as full. Else prove '..UptoSaid'. A law counts once. -/
mutual
def uptoBulk {H : Type} : DataW H → Nat
  | .lit (.string bytes) => bytes.length + 1
  | .lit _ => 1
  | .nil => 1
  | .ptr d => uptoBulk d + 1
  | .slice elems spare => uptoBulkAll elems + uptoBulkAll spare + 1
  | .agg parts => uptoBulkAll parts + 1
  | .iface _ d => uptoBulk d + 1
  | .map entries => uptoBulkEntries entries + 1
  | .held _ => 1
def uptoBulkAll {H : Type} : List (DataW H) → Nat
  | [] => 0
  | d :: r => uptoBulk d + uptoBulkAll r
def uptoBulkEntries {H : Type} : List (Lit × DataW H) → Nat
  | [] => 0
  | x :: r => uptoBulkEntry x + uptoBulkEntries r
def uptoBulkEntry {H : Type} : Lit × DataW H → Nat
  | (.string bytes, d) => bytes.length + uptoBulk d + 1
  | (_, d) => uptoBulk d + 1
 end
def uptoSmall : (H : Type) → List (DataW H) → Bool := fun _ ds => decide (uptoBulkAll ds ≤ 1048576)
def OpenSpec.upto (s : _root_.Go.ChangeSpec) : _root_.Go.OpenSpec := { _root_.Go.OpenSpec.ofChange s with cond := some uptoSmall }

/-- 'provostlaw02.WholeNames', WHERE WHAT IT READS IS OF BULK AT MOST 1048576: true; the input reads as it did. -/
def wholeNamesUptoRow : OpenClaim := { program := "ytcoennncgconmaadoor", sum := "ffbca20dbc464169bb3d970294d2fae01ad6a3bb0fbf9c8c4895117ccff1b7ce", func := "provost/provostlaw02.WholeNames", spec := "wholeNames", inPlace := ["math/bits.Add64"], unfollowed := true, recurses := true, named := ["provost/whole.limits"], apart := false, laid := [("provost/whole.limits", laid_provost_whole_limits)], narrowed := true }
def WholeNamesUptoSaid : Prop := wholeNamesUptoRow.holds Tryd.pinned (OpenSpec.upto wholeNamesSpec)

/-- 'provostlaw02.WholeDoes', WHERE WHAT IT READS IS OF BULK AT MOST 1048576: true; the input reads as it did. -/
def wholeDoesUptoRow : OpenClaim := { program := "ytcoennncgconmaadoor", sum := "ffbca20dbc464169bb3d970294d2fae01ad6a3bb0fbf9c8c4895117ccff1b7ce", func := "provost/provostlaw02.WholeDoes", spec := "wholeDoes", inPlace := ["math/bits.Add64"], unfollowed := true, recurses := true, named := ["provost/whole.limits"], apart := false, laid := [("provost/whole.limits", laid_provost_whole_limits)], narrowed := true }
def WholeDoesUptoSaid : Prop := wholeDoesUptoRow.holds Tryd.pinned (OpenSpec.upto wholeDoesSpec)

/-- 'provostlaw02.WholeReads', WHERE WHAT IT READS IS OF BULK AT MOST 1048576: true; the input reads as it did. -/
def wholeReadsUptoRow : OpenClaim := { program := "ytcoennncgconmaadoor", sum := "ffbca20dbc464169bb3d970294d2fae01ad6a3bb0fbf9c8c4895117ccff1b7ce", func := "provost/provostlaw02.WholeReads", spec := "wholeReads", inPlace := ["math/bits.Add64"], unfollowed := true, recurses := true, named := ["provost/whole.limits", "internal/strconv.uint64pow10", "math/bits.deBruijn32tab", "math/bits.deBruijn64tab"], apart := false, laid := [("math/bits.deBruijn32tab", laid_math_bits_deBruijn32tab), ("math/bits.deBruijn64tab", laid_math_bits_deBruijn64tab), ("internal/strconv.uint64pow10", laid_internal_strconv_uint64pow10), ("provost/whole.limits", laid_provost_whole_limits)], narrowed := true }
def WholeReadsUptoSaid : Prop := wholeReadsUptoRow.holds Tryd.pinned (OpenSpec.upto wholeReadsSpec)

/-- 'provostlaw02.WholeBack', WHERE WHAT IT READS IS OF BULK AT MOST 1048576: true; the input reads as it did. -/
def wholeBackUptoRow : OpenClaim := { program := "ytcoennncgconmaadoor", sum := "ffbca20dbc464169bb3d970294d2fae01ad6a3bb0fbf9c8c4895117ccff1b7ce", func := "provost/provostlaw02.WholeBack", spec := "wholeBack", inPlace := ["math/bits.Add64"], unfollowed := true, recurses := true, named := ["provost/whole.limits", "internal/strconv.uint64pow10", "math/bits.deBruijn32tab", "math/bits.deBruijn64tab"], apart := false, laid := [("math/bits.deBruijn32tab", laid_math_bits_deBruijn32tab), ("math/bits.deBruijn64tab", laid_math_bits_deBruijn64tab), ("internal/strconv.uint64pow10", laid_internal_strconv_uint64pow10), ("provost/whole.limits", laid_provost_whole_limits)], narrowed := true }
def WholeBackUptoSaid : Prop := wholeBackUptoRow.holds Tryd.pinned (OpenSpec.upto wholeBackSpec)

/-- 'provostlaw02.WholeRings', WHERE WHAT IT READS IS OF BULK AT MOST 1048576: true; the input reads as it did. -/
def wholeRingsUptoRow : OpenClaim := { program := "ytcoennncgconmaadoor", sum := "ffbca20dbc464169bb3d970294d2fae01ad6a3bb0fbf9c8c4895117ccff1b7ce", func := "provost/provostlaw02.WholeRings", spec := "wholeRings", inPlace := ["math/bits.Add64"], unfollowed := true, recurses := true, named := ["provost/whole.limits"], apart := false, laid := [("provost/whole.limits", laid_provost_whole_limits)], narrowed := true }
def WholeRingsUptoSaid : Prop := wholeRingsUptoRow.holds Tryd.pinned (OpenSpec.upto wholeRingsSpec)

/-- 'provostlaw02.WholeBounds', WHERE WHAT IT READS IS OF BULK AT MOST 1048576: true; the input reads as it did. -/
def wholeBoundsUptoRow : OpenClaim := { program := "ytcoennncgconmaadoor", sum := "ffbca20dbc464169bb3d970294d2fae01ad6a3bb0fbf9c8c4895117ccff1b7ce", func := "provost/provostlaw02.WholeBounds", spec := "wholeBounds", inPlace := ["math/bits.Add64"], unfollowed := true, recurses := true, named := ["provost/whole.limits"], apart := false, laid := [("provost/whole.limits", laid_provost_whole_limits)], narrowed := true }
def WholeBoundsUptoSaid : Prop := wholeBoundsUptoRow.holds Tryd.pinned (OpenSpec.upto wholeBoundsSpec)

end Rows
end Go.Proofs.YtcoennncgconmaaDoor

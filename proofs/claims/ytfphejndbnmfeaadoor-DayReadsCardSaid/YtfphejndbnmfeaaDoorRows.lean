/-
  NARROWER THAN 'FOR EVERY INPUT', by the rows' own cells (each row's printed sentence says how): DayNames: laid · DayReads: laid · DayTells: laid · DayBack: laid · DayOffsets: laid · DayOrder: laid · DayNext: laid · UuidNames: laid · UuidTells: laid · UuidBack: laid · UuidOrder: laid.
  DERIVED. THE GIVEN ROWS OF THIS SEAT. 11 by the template 'for every input the law returns true; each argument reads behind the call as it read before'; 0 by the template 'total and deterministic' (their statements: YtfphejndbnmfeaaDoorTotals.lean).
  GIVEN WITH THE SEED: the statements are not yours to turn. If you find one false, say at which input.
  Laid BY PROGRAM, IN A SANDBOX (cutbox-rows.mjs): the forced cells as the released guide's own fill.sh prints them over the translation 1b1fd7d2c092ac3e… (all of the seat's roots in one cut). By AI agents, Wed Nov 11 2026. No macro, syntax, notation, axiom, sorry.
-/
import Derived.Test.YtfphejndbnmfeaaDoorChecked
import GoSem.PinnedTables
import GoSem.Claim
import GoSem.ClaimJoined
import GoSem.ClaimMapViews
import Derived.JoinedTies
import Derived.KernelRfl
namespace Go.Proofs.YtfphejndbnmfeaaDoor
/- THE CELL 'sum', in the pinned program and in every row, IS THE sha256 OF THE DUMP (.gsa) THAT YtfphejndbnmfeaaDoorProg.lean LOADS. Nothing in Lean hashes anything: it is a label: what it is worth is what the hold of that sum in a sandbox is worth. -/
noncomputable def Tryd.pinned : Pinned := { name := "ytfphejndbnmfeaadoor", sum := "1b1fd7d2c092ac3e43c4e0bb2af953a422eafd50e1452bb0c70948cad3b22493", checked := Tryd.checked }
namespace Rows
def none {H : Type} : Left H := { results := [], args := [] }

/- WHAT THE LISTED PACKAGE-LEVEL VARIABLES READ AS WHEN THE CALL BEGINS. Each datum BY PROGRAM (the guide's laid-datum.mjs) off the statement by which the dump's own 'gosem.cut.vars' lays the variable. In a bare row this is a premise. The card (YtfphejndbnmfeaaDoorCards.lean) ties it to the program's text. -/
def laid_math_bits_deBruijn32tab {H : Type} : DataW H := .agg [.lit (.int .u8 0), .lit (.int .u8 1), .lit (.int .u8 28), .lit (.int .u8 2), .lit (.int .u8 29), .lit (.int .u8 14), .lit (.int .u8 24), .lit (.int .u8 3), .lit (.int .u8 30), .lit (.int .u8 22), .lit (.int .u8 20), .lit (.int .u8 15), .lit (.int .u8 25), .lit (.int .u8 17), .lit (.int .u8 4), .lit (.int .u8 8), .lit (.int .u8 31), .lit (.int .u8 27), .lit (.int .u8 13), .lit (.int .u8 23), .lit (.int .u8 21), .lit (.int .u8 19), .lit (.int .u8 16), .lit (.int .u8 7), .lit (.int .u8 26), .lit (.int .u8 12), .lit (.int .u8 18), .lit (.int .u8 6), .lit (.int .u8 11), .lit (.int .u8 5), .lit (.int .u8 10), .lit (.int .u8 9)]
def laid_math_bits_deBruijn64tab {H : Type} : DataW H := .agg [.lit (.int .u8 0), .lit (.int .u8 1), .lit (.int .u8 56), .lit (.int .u8 2), .lit (.int .u8 57), .lit (.int .u8 49), .lit (.int .u8 28), .lit (.int .u8 3), .lit (.int .u8 61), .lit (.int .u8 58), .lit (.int .u8 42), .lit (.int .u8 50), .lit (.int .u8 38), .lit (.int .u8 29), .lit (.int .u8 17), .lit (.int .u8 4), .lit (.int .u8 62), .lit (.int .u8 47), .lit (.int .u8 59), .lit (.int .u8 36), .lit (.int .u8 45), .lit (.int .u8 43), .lit (.int .u8 51), .lit (.int .u8 22), .lit (.int .u8 53), .lit (.int .u8 39), .lit (.int .u8 33), .lit (.int .u8 30), .lit (.int .u8 24), .lit (.int .u8 18), .lit (.int .u8 12), .lit (.int .u8 5), .lit (.int .u8 63), .lit (.int .u8 55), .lit (.int .u8 48), .lit (.int .u8 27), .lit (.int .u8 60), .lit (.int .u8 41), .lit (.int .u8 37), .lit (.int .u8 16), .lit (.int .u8 46), .lit (.int .u8 35), .lit (.int .u8 44), .lit (.int .u8 21), .lit (.int .u8 52), .lit (.int .u8 32), .lit (.int .u8 23), .lit (.int .u8 11), .lit (.int .u8 54), .lit (.int .u8 26), .lit (.int .u8 40), .lit (.int .u8 15), .lit (.int .u8 34), .lit (.int .u8 20), .lit (.int .u8 31), .lit (.int .u8 10), .lit (.int .u8 25), .lit (.int .u8 14), .lit (.int .u8 19), .lit (.int .u8 9), .lit (.int .u8 13), .lit (.int .u8 8), .lit (.int .u8 7), .lit (.int .u8 6)]
def laid_internal_strconv_uint64pow10 {H : Type} : DataW H := .agg [.lit (.int .u64 1), .lit (.int .u64 10), .lit (.int .u64 100), .lit (.int .u64 1000), .lit (.int .u64 10000), .lit (.int .u64 100000), .lit (.int .u64 1000000), .lit (.int .u64 10000000), .lit (.int .u64 100000000), .lit (.int .u64 1000000000), .lit (.int .u64 10000000000), .lit (.int .u64 100000000000), .lit (.int .u64 1000000000000), .lit (.int .u64 10000000000000), .lit (.int .u64 100000000000000), .lit (.int .u64 1000000000000000), .lit (.int .u64 10000000000000000), .lit (.int .u64 100000000000000000), .lit (.int .u64 1000000000000000000), .lit (.int .u64 10000000000000000000)]
def laid_unicode_utf8_acceptRanges {H : Type} : DataW H := .agg [.agg [.lit (.int .u8 128), .lit (.int .u8 191)], .agg [.lit (.int .u8 160), .lit (.int .u8 191)], .agg [.lit (.int .u8 128), .lit (.int .u8 159)], .agg [.lit (.int .u8 144), .lit (.int .u8 191)], .agg [.lit (.int .u8 128), .lit (.int .u8 143)], .agg [.lit (.int .u8 0), .lit (.int .u8 0)], .agg [.lit (.int .u8 0), .lit (.int .u8 0)], .agg [.lit (.int .u8 0), .lit (.int .u8 0)], .agg [.lit (.int .u8 0), .lit (.int .u8 0)], .agg [.lit (.int .u8 0), .lit (.int .u8 0)], .agg [.lit (.int .u8 0), .lit (.int .u8 0)], .agg [.lit (.int .u8 0), .lit (.int .u8 0)], .agg [.lit (.int .u8 0), .lit (.int .u8 0)], .agg [.lit (.int .u8 0), .lit (.int .u8 0)], .agg [.lit (.int .u8 0), .lit (.int .u8 0)], .agg [.lit (.int .u8 0), .lit (.int .u8 0)]]
def laid_provost_day_monthDays {H : Type} : DataW H := .agg [.lit (.int .i64 31), .lit (.int .i64 28), .lit (.int .i64 31), .lit (.int .i64 30), .lit (.int .i64 31), .lit (.int .i64 30), .lit (.int .i64 31), .lit (.int .i64 31), .lit (.int .i64 30), .lit (.int .i64 31), .lit (.int .i64 30), .lit (.int .i64 31)]
/-- One of Go's own tables, pinned by name: the form's constant. -/
def laid_unicode_utf8_first : DataW Unit := Go.Pinned.utf8First
def laid_provost_uuid_parts {H : Type} : DataW H := .agg [.lit (.int .i64 4), .lit (.int .i64 2), .lit (.int .i64 2), .lit (.int .i64 2), .lit (.int .i64 6)]

/-- 'provostlaw12.DayNames': WHATEVER THE INPUT: true; the input reads as it did. -/
def dayNamesSpec : ChangeSpec := { name := "dayNames", fn := fun _ => fun
  | [] => { results := [.lit (.bool true)], args := [] }
  | _ => none }
def dayNamesRow : OpenClaim := { program := "ytfphejndbnmfeaadoor", sum := "1b1fd7d2c092ac3e43c4e0bb2af953a422eafd50e1452bb0c70948cad3b22493", func := "provost/provostlaw12.DayNames", spec := "dayNames", inPlace := ["internal/bytealg.IndexByteString", "internal/bytealg.IndexString", "internal/abi.NoEscape", "internal/bytealg.MakeNoZero"], unfollowed := true, recurses := true, named := ["internal/bytealg.MaxLen", "provost/day.monthDays", "internal/strconv.uint64pow10", "math/bits.deBruijn32tab", "math/bits.deBruijn64tab", "unicode/utf8.first", "unicode/utf8.acceptRanges"], apart := false, laid := [("math/bits.deBruijn32tab", laid_math_bits_deBruijn32tab), ("math/bits.deBruijn64tab", laid_math_bits_deBruijn64tab), ("internal/strconv.uint64pow10", laid_internal_strconv_uint64pow10), ("unicode/utf8.acceptRanges", laid_unicode_utf8_acceptRanges), ("provost/day.monthDays", laid_provost_day_monthDays), ("unicode/utf8.first", laid_unicode_utf8_first)] }
def DayNamesSaid : Prop := dayNamesRow.holds Tryd.pinned (OpenSpec.ofChange dayNamesSpec)

/-- ITS FALSE NEIGHBOUR: 'it returns false'. Refute it at one input. -/
def dayNamesWrong : ChangeSpec := { name := "dayNames", fn := fun _ => fun
  | [] => { results := [.lit (.bool false)], args := [] }
  | _ => none }
def DayNamesWrongFalsely : Prop := dayNamesRow.holds Tryd.pinned (OpenSpec.ofChange dayNamesWrong)

/-- 'provostlaw12.DayReads': WHATEVER THE INPUT: true; the input reads as it did. -/
def dayReadsSpec : ChangeSpec := { name := "dayReads", fn := fun _ => fun
  | [d] => { results := [.lit (.bool true)], args := [d] }
  | _ => none }
def dayReadsRow : OpenClaim := { program := "ytfphejndbnmfeaadoor", sum := "1b1fd7d2c092ac3e43c4e0bb2af953a422eafd50e1452bb0c70948cad3b22493", func := "provost/provostlaw12.DayReads", spec := "dayReads", inPlace := ["internal/bytealg.IndexByteString", "internal/bytealg.IndexString"], unfollowed := true, recurses := true, named := ["internal/bytealg.MaxLen", "provost/day.monthDays"], apart := false, laid := [("provost/day.monthDays", laid_provost_day_monthDays)] }
def DayReadsSaid : Prop := dayReadsRow.holds Tryd.pinned (OpenSpec.ofChange dayReadsSpec)

/-- ITS FALSE NEIGHBOUR: 'it returns false'. Refute it at one input. -/
def dayReadsWrong : ChangeSpec := { name := "dayReads", fn := fun _ => fun
  | [d] => { results := [.lit (.bool false)], args := [d] }
  | _ => none }
def DayReadsWrongFalsely : Prop := dayReadsRow.holds Tryd.pinned (OpenSpec.ofChange dayReadsWrong)

/-- 'provostlaw12.DayTells': WHATEVER THE INPUT: true; the input reads as it did. -/
def dayTellsSpec : ChangeSpec := { name := "dayTells", fn := fun _ => fun
  | [d1, d2] => { results := [.lit (.bool true)], args := [d1, d2] }
  | _ => none }
def dayTellsRow : OpenClaim := { program := "ytfphejndbnmfeaadoor", sum := "1b1fd7d2c092ac3e43c4e0bb2af953a422eafd50e1452bb0c70948cad3b22493", func := "provost/provostlaw12.DayTells", spec := "dayTells", inPlace := ["internal/abi.NoEscape", "internal/bytealg.MakeNoZero", "internal/bytealg.IndexByteString", "internal/bytealg.IndexString"], named := ["provost/day.monthDays", "internal/strconv.uint64pow10", "math/bits.deBruijn32tab", "math/bits.deBruijn64tab", "unicode/utf8.first", "unicode/utf8.acceptRanges", "internal/bytealg.MaxLen"], apart := false, laid := [("math/bits.deBruijn32tab", laid_math_bits_deBruijn32tab), ("math/bits.deBruijn64tab", laid_math_bits_deBruijn64tab), ("internal/strconv.uint64pow10", laid_internal_strconv_uint64pow10), ("unicode/utf8.acceptRanges", laid_unicode_utf8_acceptRanges), ("provost/day.monthDays", laid_provost_day_monthDays), ("unicode/utf8.first", laid_unicode_utf8_first)] }
def DayTellsSaid : Prop := dayTellsRow.holds Tryd.pinned (OpenSpec.ofChange dayTellsSpec)

/-- ITS FALSE NEIGHBOUR: 'it returns false'. Refute it at one input. -/
def dayTellsWrong : ChangeSpec := { name := "dayTells", fn := fun _ => fun
  | [d1, d2] => { results := [.lit (.bool false)], args := [d1, d2] }
  | _ => none }
def DayTellsWrongFalsely : Prop := dayTellsRow.holds Tryd.pinned (OpenSpec.ofChange dayTellsWrong)

/-- 'provostlaw12.DayBack': WHATEVER THE INPUT: true; the input reads as it did. -/
def dayBackSpec : ChangeSpec := { name := "dayBack", fn := fun _ => fun
  | [d1, d2] => { results := [.lit (.bool true)], args := [d1, d2] }
  | _ => none }
def dayBackRow : OpenClaim := { program := "ytfphejndbnmfeaadoor", sum := "1b1fd7d2c092ac3e43c4e0bb2af953a422eafd50e1452bb0c70948cad3b22493", func := "provost/provostlaw12.DayBack", spec := "dayBack", inPlace := ["internal/bytealg.IndexByteString", "internal/bytealg.IndexString", "internal/abi.NoEscape", "internal/bytealg.MakeNoZero"], unfollowed := true, recurses := true, named := ["internal/bytealg.MaxLen", "provost/day.monthDays", "internal/strconv.uint64pow10", "math/bits.deBruijn32tab", "math/bits.deBruijn64tab", "unicode/utf8.first", "unicode/utf8.acceptRanges"], apart := false, laid := [("math/bits.deBruijn32tab", laid_math_bits_deBruijn32tab), ("math/bits.deBruijn64tab", laid_math_bits_deBruijn64tab), ("internal/strconv.uint64pow10", laid_internal_strconv_uint64pow10), ("unicode/utf8.acceptRanges", laid_unicode_utf8_acceptRanges), ("provost/day.monthDays", laid_provost_day_monthDays), ("unicode/utf8.first", laid_unicode_utf8_first)] }
def DayBackSaid : Prop := dayBackRow.holds Tryd.pinned (OpenSpec.ofChange dayBackSpec)

/-- ITS FALSE NEIGHBOUR: 'it returns false'. Refute it at one input. -/
def dayBackWrong : ChangeSpec := { name := "dayBack", fn := fun _ => fun
  | [d1, d2] => { results := [.lit (.bool false)], args := [d1, d2] }
  | _ => none }
def DayBackWrongFalsely : Prop := dayBackRow.holds Tryd.pinned (OpenSpec.ofChange dayBackWrong)

/-- 'provostlaw12.DayOffsets': WHATEVER THE INPUT: true; the input reads as it did. -/
def dayOffsetsSpec : ChangeSpec := { name := "dayOffsets", fn := fun _ => fun
  | [d1, d2, d3, d4] => { results := [.lit (.bool true)], args := [d1, d2, d3, d4] }
  | _ => none }
def dayOffsetsRow : OpenClaim := { program := "ytfphejndbnmfeaadoor", sum := "1b1fd7d2c092ac3e43c4e0bb2af953a422eafd50e1452bb0c70948cad3b22493", func := "provost/provostlaw12.DayOffsets", spec := "dayOffsets", inPlace := ["internal/bytealg.IndexByteString", "internal/bytealg.IndexString", "internal/abi.NoEscape", "internal/bytealg.MakeNoZero"], unfollowed := true, recurses := true, named := ["internal/bytealg.MaxLen", "provost/day.monthDays", "internal/strconv.uint64pow10", "math/bits.deBruijn32tab", "math/bits.deBruijn64tab", "unicode/utf8.first", "unicode/utf8.acceptRanges"], apart := false, laid := [("math/bits.deBruijn32tab", laid_math_bits_deBruijn32tab), ("math/bits.deBruijn64tab", laid_math_bits_deBruijn64tab), ("internal/strconv.uint64pow10", laid_internal_strconv_uint64pow10), ("unicode/utf8.acceptRanges", laid_unicode_utf8_acceptRanges), ("provost/day.monthDays", laid_provost_day_monthDays), ("unicode/utf8.first", laid_unicode_utf8_first)] }
def DayOffsetsSaid : Prop := dayOffsetsRow.holds Tryd.pinned (OpenSpec.ofChange dayOffsetsSpec)

/-- ITS FALSE NEIGHBOUR: 'it returns false'. Refute it at one input. -/
def dayOffsetsWrong : ChangeSpec := { name := "dayOffsets", fn := fun _ => fun
  | [d1, d2, d3, d4] => { results := [.lit (.bool false)], args := [d1, d2, d3, d4] }
  | _ => none }
def DayOffsetsWrongFalsely : Prop := dayOffsetsRow.holds Tryd.pinned (OpenSpec.ofChange dayOffsetsWrong)

/-- 'provostlaw12.DayOrder': WHATEVER THE INPUT: true; the input reads as it did. -/
def dayOrderSpec : ChangeSpec := { name := "dayOrder", fn := fun _ => fun
  | [d1, d2] => { results := [.lit (.bool true)], args := [d1, d2] }
  | _ => none }
def dayOrderRow : OpenClaim := { program := "ytfphejndbnmfeaadoor", sum := "1b1fd7d2c092ac3e43c4e0bb2af953a422eafd50e1452bb0c70948cad3b22493", func := "provost/provostlaw12.DayOrder", spec := "dayOrder", inPlace := ["internal/bytealg.IndexByteString", "internal/bytealg.IndexString", "internal/abi.NoEscape", "internal/bytealg.MakeNoZero"], unfollowed := true, recurses := true, named := ["internal/bytealg.MaxLen", "provost/day.monthDays", "internal/strconv.uint64pow10", "math/bits.deBruijn32tab", "math/bits.deBruijn64tab", "unicode/utf8.first", "unicode/utf8.acceptRanges"], apart := false, laid := [("math/bits.deBruijn32tab", laid_math_bits_deBruijn32tab), ("math/bits.deBruijn64tab", laid_math_bits_deBruijn64tab), ("internal/strconv.uint64pow10", laid_internal_strconv_uint64pow10), ("unicode/utf8.acceptRanges", laid_unicode_utf8_acceptRanges), ("provost/day.monthDays", laid_provost_day_monthDays), ("unicode/utf8.first", laid_unicode_utf8_first)] }
def DayOrderSaid : Prop := dayOrderRow.holds Tryd.pinned (OpenSpec.ofChange dayOrderSpec)

/-- ITS FALSE NEIGHBOUR: 'it returns false'. Refute it at one input. -/
def dayOrderWrong : ChangeSpec := { name := "dayOrder", fn := fun _ => fun
  | [d1, d2] => { results := [.lit (.bool false)], args := [d1, d2] }
  | _ => none }
def DayOrderWrongFalsely : Prop := dayOrderRow.holds Tryd.pinned (OpenSpec.ofChange dayOrderWrong)

/-- 'provostlaw12.DayNext': WHATEVER THE INPUT: true; the input reads as it did. -/
def dayNextSpec : ChangeSpec := { name := "dayNext", fn := fun _ => fun
  | [d] => { results := [.lit (.bool true)], args := [d] }
  | _ => none }
def dayNextRow : OpenClaim := { program := "ytfphejndbnmfeaadoor", sum := "1b1fd7d2c092ac3e43c4e0bb2af953a422eafd50e1452bb0c70948cad3b22493", func := "provost/provostlaw12.DayNext", spec := "dayNext", inPlace := ["internal/bytealg.IndexByteString", "internal/bytealg.IndexString", "internal/abi.NoEscape", "internal/bytealg.MakeNoZero"], unfollowed := true, recurses := true, named := ["internal/bytealg.MaxLen", "provost/day.monthDays", "internal/strconv.uint64pow10", "math/bits.deBruijn32tab", "math/bits.deBruijn64tab", "unicode/utf8.first", "unicode/utf8.acceptRanges"], apart := false, laid := [("math/bits.deBruijn32tab", laid_math_bits_deBruijn32tab), ("math/bits.deBruijn64tab", laid_math_bits_deBruijn64tab), ("internal/strconv.uint64pow10", laid_internal_strconv_uint64pow10), ("unicode/utf8.acceptRanges", laid_unicode_utf8_acceptRanges), ("provost/day.monthDays", laid_provost_day_monthDays), ("unicode/utf8.first", laid_unicode_utf8_first)] }
def DayNextSaid : Prop := dayNextRow.holds Tryd.pinned (OpenSpec.ofChange dayNextSpec)

/-- ITS FALSE NEIGHBOUR: 'it returns false'. Refute it at one input. -/
def dayNextWrong : ChangeSpec := { name := "dayNext", fn := fun _ => fun
  | [d] => { results := [.lit (.bool false)], args := [d] }
  | _ => none }
def DayNextWrongFalsely : Prop := dayNextRow.holds Tryd.pinned (OpenSpec.ofChange dayNextWrong)

/-- 'provostlaw13.UuidNames': WHATEVER THE INPUT: true; the input reads as it did. -/
def uuidNamesSpec : ChangeSpec := { name := "uuidNames", fn := fun _ => fun
  | [] => { results := [.lit (.bool true)], args := [] }
  | _ => none }
def uuidNamesRow : OpenClaim := { program := "ytfphejndbnmfeaadoor", sum := "1b1fd7d2c092ac3e43c4e0bb2af953a422eafd50e1452bb0c70948cad3b22493", func := "provost/provostlaw13.UuidNames", spec := "uuidNames", named := ["provost/uuid.parts"], apart := false, laid := [("provost/uuid.parts", laid_provost_uuid_parts)] }
def UuidNamesSaid : Prop := uuidNamesRow.holds Tryd.pinned (OpenSpec.ofChange uuidNamesSpec)

/-- ITS FALSE NEIGHBOUR: 'it returns false'. Refute it at one input. -/
def uuidNamesWrong : ChangeSpec := { name := "uuidNames", fn := fun _ => fun
  | [] => { results := [.lit (.bool false)], args := [] }
  | _ => none }
def UuidNamesWrongFalsely : Prop := uuidNamesRow.holds Tryd.pinned (OpenSpec.ofChange uuidNamesWrong)

/-- 'provostlaw13.UuidTells': WHATEVER THE INPUT: true; the input reads as it did. -/
def uuidTellsSpec : ChangeSpec := { name := "uuidTells", fn := fun _ => fun
  | [d1, d2, d3] => { results := [.lit (.bool true)], args := [d1, d2, d3] }
  | _ => none }
def uuidTellsRow : OpenClaim := { program := "ytfphejndbnmfeaadoor", sum := "1b1fd7d2c092ac3e43c4e0bb2af953a422eafd50e1452bb0c70948cad3b22493", func := "provost/provostlaw13.UuidTells", spec := "uuidTells", named := ["provost/uuid.parts"], apart := false, laid := [("provost/uuid.parts", laid_provost_uuid_parts)] }
def UuidTellsSaid : Prop := uuidTellsRow.holds Tryd.pinned (OpenSpec.ofChange uuidTellsSpec)

/-- ITS FALSE NEIGHBOUR: 'it returns false'. Refute it at one input. -/
def uuidTellsWrong : ChangeSpec := { name := "uuidTells", fn := fun _ => fun
  | [d1, d2, d3] => { results := [.lit (.bool false)], args := [d1, d2, d3] }
  | _ => none }
def UuidTellsWrongFalsely : Prop := uuidTellsRow.holds Tryd.pinned (OpenSpec.ofChange uuidTellsWrong)

/-- 'provostlaw13.UuidBack': WHATEVER THE INPUT: true; the input reads as it did. -/
def uuidBackSpec : ChangeSpec := { name := "uuidBack", fn := fun _ => fun
  | [d1, d2] => { results := [.lit (.bool true)], args := [d1, d2] }
  | _ => none }
def uuidBackRow : OpenClaim := { program := "ytfphejndbnmfeaadoor", sum := "1b1fd7d2c092ac3e43c4e0bb2af953a422eafd50e1452bb0c70948cad3b22493", func := "provost/provostlaw13.UuidBack", spec := "uuidBack", named := ["provost/uuid.parts"], apart := false, laid := [("provost/uuid.parts", laid_provost_uuid_parts)] }
def UuidBackSaid : Prop := uuidBackRow.holds Tryd.pinned (OpenSpec.ofChange uuidBackSpec)

/-- ITS FALSE NEIGHBOUR: 'it returns false'. Refute it at one input. -/
def uuidBackWrong : ChangeSpec := { name := "uuidBack", fn := fun _ => fun
  | [d1, d2] => { results := [.lit (.bool false)], args := [d1, d2] }
  | _ => none }
def UuidBackWrongFalsely : Prop := uuidBackRow.holds Tryd.pinned (OpenSpec.ofChange uuidBackWrong)

/-- 'provostlaw13.UuidOrder': WHATEVER THE INPUT: true; the input reads as it did. -/
def uuidOrderSpec : ChangeSpec := { name := "uuidOrder", fn := fun _ => fun
  | [d1, d2, d3] => { results := [.lit (.bool true)], args := [d1, d2, d3] }
  | _ => none }
def uuidOrderRow : OpenClaim := { program := "ytfphejndbnmfeaadoor", sum := "1b1fd7d2c092ac3e43c4e0bb2af953a422eafd50e1452bb0c70948cad3b22493", func := "provost/provostlaw13.UuidOrder", spec := "uuidOrder", named := ["provost/uuid.parts"], apart := false, laid := [("provost/uuid.parts", laid_provost_uuid_parts)] }
def UuidOrderSaid : Prop := uuidOrderRow.holds Tryd.pinned (OpenSpec.ofChange uuidOrderSpec)

/-- ITS FALSE NEIGHBOUR: 'it returns false'. Refute it at one input. -/
def uuidOrderWrong : ChangeSpec := { name := "uuidOrder", fn := fun _ => fun
  | [d1, d2, d3] => { results := [.lit (.bool false)], args := [d1, d2, d3] }
  | _ => none }
def UuidOrderWrongFalsely : Prop := uuidOrderRow.holds Tryd.pinned (OpenSpec.ofChange uuidOrderWrong)

/- THE SECOND FORM. 'bulk': how many values and letters a reading holds, each counted each time it is reached (what is shared counts as often as it is met; a slice's spare places count too). A statement '..UptoSaid' is the law's where the arguments, and the package variables that the reading takes, are together of bulk at most 1048576: NARROWER than '..Said'. Prove '..Said' where nothing that the law and all that it calls make is longer than what came in: it says more and counts as full. Else prove '..UptoSaid'. A law counts once. -/
mutual
def uptoBulk {H : Type} : DataW H → Nat
  | .lit (.string bytes) => bytes.length + 1
  | .lit _ => 1
  | .nil => 1
  | .ptr d => uptoBulk d + 1
  | .slice elems spare => uptoBulkAll elems + uptoBulkAll spare + 1
  | .agg parts => uptoBulkAll parts + 1
  | .iface _ d => uptoBulk d + 1
  | .map entries => uptoBulkEntries entries + 1
  | .held _ => 1
def uptoBulkAll {H : Type} : List (DataW H) → Nat
  | [] => 0
  | d :: r => uptoBulk d + uptoBulkAll r
def uptoBulkEntries {H : Type} : List (Lit × DataW H) → Nat
  | [] => 0
  | x :: r => uptoBulkEntry x + uptoBulkEntries r
def uptoBulkEntry {H : Type} : Lit × DataW H → Nat
  | (.string bytes, d) => bytes.length + uptoBulk d + 1
  | (_, d) => uptoBulk d + 1
 end
def uptoSmall : (H : Type) → List (DataW H) → Bool := fun _ ds => decide (uptoBulkAll ds ≤ 1048576)
def OpenSpec.upto (s : _root_.Go.ChangeSpec) : _root_.Go.OpenSpec := { _root_.Go.OpenSpec.ofChange s with cond := some uptoSmall }

/-- 'provostlaw12.DayNames', WHERE WHAT IT READS IS OF BULK AT MOST 1048576: true; the input reads as it did. -/
def dayNamesUptoRow : OpenClaim := { program := "ytfphejndbnmfeaadoor", sum := "1b1fd7d2c092ac3e43c4e0bb2af953a422eafd50e1452bb0c70948cad3b22493", func := "provost/provostlaw12.DayNames", spec := "dayNames", inPlace := ["internal/bytealg.IndexByteString", "internal/bytealg.IndexString", "internal/abi.NoEscape", "internal/bytealg.MakeNoZero"], unfollowed := true, recurses := true, named := ["internal/bytealg.MaxLen", "provost/day.monthDays", "internal/strconv.uint64pow10", "math/bits.deBruijn32tab", "math/bits.deBruijn64tab", "unicode/utf8.first", "unicode/utf8.acceptRanges"], apart := false, laid := [("math/bits.deBruijn32tab", laid_math_bits_deBruijn32tab), ("math/bits.deBruijn64tab", laid_math_bits_deBruijn64tab), ("internal/strconv.uint64pow10", laid_internal_strconv_uint64pow10), ("unicode/utf8.acceptRanges", laid_unicode_utf8_acceptRanges), ("provost/day.monthDays", laid_provost_day_monthDays), ("unicode/utf8.first", laid_unicode_utf8_first)], narrowed := true }
def DayNamesUptoSaid : Prop := dayNamesUptoRow.holds Tryd.pinned (OpenSpec.upto dayNamesSpec)

/-- 'provostlaw12.DayReads', WHERE WHAT IT READS IS OF BULK AT MOST 1048576: true; the input reads as it did. -/
def dayReadsUptoRow : OpenClaim := { program := "ytfphejndbnmfeaadoor", sum := "1b1fd7d2c092ac3e43c4e0bb2af953a422eafd50e1452bb0c70948cad3b22493", func := "provost/provostlaw12.DayReads", spec := "dayReads", inPlace := ["internal/bytealg.IndexByteString", "internal/bytealg.IndexString"], unfollowed := true, recurses := true, named := ["internal/bytealg.MaxLen", "provost/day.monthDays"], apart := false, laid := [("provost/day.monthDays", laid_provost_day_monthDays)], narrowed := true }
def DayReadsUptoSaid : Prop := dayReadsUptoRow.holds Tryd.pinned (OpenSpec.upto dayReadsSpec)

/-- 'provostlaw12.DayTells', WHERE WHAT IT READS IS OF BULK AT MOST 1048576: true; the input reads as it did. -/
def dayTellsUptoRow : OpenClaim := { program := "ytfphejndbnmfeaadoor", sum := "1b1fd7d2c092ac3e43c4e0bb2af953a422eafd50e1452bb0c70948cad3b22493", func := "provost/provostlaw12.DayTells", spec := "dayTells", inPlace := ["internal/abi.NoEscape", "internal/bytealg.MakeNoZero", "internal/bytealg.IndexByteString", "internal/bytealg.IndexString"], named := ["provost/day.monthDays", "internal/strconv.uint64pow10", "math/bits.deBruijn32tab", "math/bits.deBruijn64tab", "unicode/utf8.first", "unicode/utf8.acceptRanges", "internal/bytealg.MaxLen"], apart := false, laid := [("math/bits.deBruijn32tab", laid_math_bits_deBruijn32tab), ("math/bits.deBruijn64tab", laid_math_bits_deBruijn64tab), ("internal/strconv.uint64pow10", laid_internal_strconv_uint64pow10), ("unicode/utf8.acceptRanges", laid_unicode_utf8_acceptRanges), ("provost/day.monthDays", laid_provost_day_monthDays), ("unicode/utf8.first", laid_unicode_utf8_first)], narrowed := true }
def DayTellsUptoSaid : Prop := dayTellsUptoRow.holds Tryd.pinned (OpenSpec.upto dayTellsSpec)

/-- 'provostlaw12.DayBack', WHERE WHAT IT READS IS OF BULK AT MOST 1048576: true; the input reads as it did. -/
def dayBackUptoRow : OpenClaim := { program := "ytfphejndbnmfeaadoor", sum := "1b1fd7d2c092ac3e43c4e0bb2af953a422eafd50e1452bb0c70948cad3b22493", func := "provost/provostlaw12.DayBack", spec := "dayBack", inPlace := ["internal/bytealg.IndexByteString", "internal/bytealg.IndexString", "internal/abi.NoEscape", "internal/bytealg.MakeNoZero"], unfollowed := true, recurses := true, named := ["internal/bytealg.MaxLen", "provost/day.monthDays", "internal/strconv.uint64pow10", "math/bits.deBruijn32tab", "math/bits.deBruijn64tab", "unicode/utf8.first", "unicode/utf8.acceptRanges"], apart := false, laid := [("math/bits.deBruijn32tab", laid_math_bits_deBruijn32tab), ("math/bits.deBruijn64tab", laid_math_bits_deBruijn64tab), ("internal/strconv.uint64pow10", laid_internal_strconv_uint64pow10), ("unicode/utf8.acceptRanges", laid_unicode_utf8_acceptRanges), ("provost/day.monthDays", laid_provost_day_monthDays), ("unicode/utf8.first", laid_unicode_utf8_first)], narrowed := true }
def DayBackUptoSaid : Prop := dayBackUptoRow.holds Tryd.pinned (OpenSpec.upto dayBackSpec)

/-- 'provostlaw12.DayOffsets', WHERE WHAT IT READS IS OF BULK AT MOST 1048576: true; the input reads as it did. -/
def dayOffsetsUptoRow : OpenClaim := { program := "ytfphejndbnmfeaadoor", sum := "1b1fd7d2c092ac3e43c4e0bb2af953a422eafd50e1452bb0c70948cad3b22493", func := "provost/provostlaw12.DayOffsets", spec := "dayOffsets", inPlace := ["internal/bytealg.IndexByteString", "internal/bytealg.IndexString", "internal/abi.NoEscape", "internal/bytealg.MakeNoZero"], unfollowed := true, recurses := true, named := ["internal/bytealg.MaxLen", "provost/day.monthDays", "internal/strconv.uint64pow10", "math/bits.deBruijn32tab", "math/bits.deBruijn64tab", "unicode/utf8.first", "unicode/utf8.acceptRanges"], apart := false, laid := [("math/bits.deBruijn32tab", laid_math_bits_deBruijn32tab), ("math/bits.deBruijn64tab", laid_math_bits_deBruijn64tab), ("internal/strconv.uint64pow10", laid_internal_strconv_uint64pow10), ("unicode/utf8.acceptRanges", laid_unicode_utf8_acceptRanges), ("provost/day.monthDays", laid_provost_day_monthDays), ("unicode/utf8.first", laid_unicode_utf8_first)], narrowed := true }
def DayOffsetsUptoSaid : Prop := dayOffsetsUptoRow.holds Tryd.pinned (OpenSpec.upto dayOffsetsSpec)

/-- 'provostlaw12.DayOrder', WHERE WHAT IT READS IS OF BULK AT MOST 1048576: true; the input reads as it did. -/
def dayOrderUptoRow : OpenClaim := { program := "ytfphejndbnmfeaadoor", sum := "1b1fd7d2c092ac3e43c4e0bb2af953a422eafd50e1452bb0c70948cad3b22493", func := "provost/provostlaw12.DayOrder", spec := "dayOrder", inPlace := ["internal/bytealg.IndexByteString", "internal/bytealg.IndexString", "internal/abi.NoEscape", "internal/bytealg.MakeNoZero"], unfollowed := true, recurses := true, named := ["internal/bytealg.MaxLen", "provost/day.monthDays", "internal/strconv.uint64pow10", "math/bits.deBruijn32tab", "math/bits.deBruijn64tab", "unicode/utf8.first", "unicode/utf8.acceptRanges"], apart := false, laid := [("math/bits.deBruijn32tab", laid_math_bits_deBruijn32tab), ("math/bits.deBruijn64tab", laid_math_bits_deBruijn64tab), ("internal/strconv.uint64pow10", laid_internal_strconv_uint64pow10), ("unicode/utf8.acceptRanges", laid_unicode_utf8_acceptRanges), ("provost/day.monthDays", laid_provost_day_monthDays), ("unicode/utf8.first", laid_unicode_utf8_first)], narrowed := true }
def DayOrderUptoSaid : Prop := dayOrderUptoRow.holds Tryd.pinned (OpenSpec.upto dayOrderSpec)

/-- 'provostlaw12.DayNext', WHERE WHAT IT READS IS OF BULK AT MOST 1048576: true; the input reads as it did. -/
def dayNextUptoRow : OpenClaim := { program := "ytfphejndbnmfeaadoor", sum := "1b1fd7d2c092ac3e43c4e0bb2af953a422eafd50e1452bb0c70948cad3b22493", func := "provost/provostlaw12.DayNext", spec := "dayNext", inPlace := ["internal/bytealg.IndexByteString", "internal/bytealg.IndexString", "internal/abi.NoEscape", "internal/bytealg.MakeNoZero"], unfollowed := true, recurses := true, named := ["internal/bytealg.MaxLen", "provost/day.monthDays", "internal/strconv.uint64pow10", "math/bits.deBruijn32tab", "math/bits.deBruijn64tab", "unicode/utf8.first", "unicode/utf8.acceptRanges"], apart := false, laid := [("math/bits.deBruijn32tab", laid_math_bits_deBruijn32tab), ("math/bits.deBruijn64tab", laid_math_bits_deBruijn64tab), ("internal/strconv.uint64pow10", laid_internal_strconv_uint64pow10), ("unicode/utf8.acceptRanges", laid_unicode_utf8_acceptRanges), ("provost/day.monthDays", laid_provost_day_monthDays), ("unicode/utf8.first", laid_unicode_utf8_first)], narrowed := true }
def DayNextUptoSaid : Prop := dayNextUptoRow.holds Tryd.pinned (OpenSpec.upto dayNextSpec)

/-- 'provostlaw13.UuidNames', WHERE WHAT IT READS IS OF BULK AT MOST 1048576: true; the input reads as it did. -/
def uuidNamesUptoRow : OpenClaim := { program := "ytfphejndbnmfeaadoor", sum := "1b1fd7d2c092ac3e43c4e0bb2af953a422eafd50e1452bb0c70948cad3b22493", func := "provost/provostlaw13.UuidNames", spec := "uuidNames", named := ["provost/uuid.parts"], apart := false, laid := [("provost/uuid.parts", laid_provost_uuid_parts)], narrowed := true }
def UuidNamesUptoSaid : Prop := uuidNamesUptoRow.holds Tryd.pinned (OpenSpec.upto uuidNamesSpec)

/-- 'provostlaw13.UuidTells', WHERE WHAT IT READS IS OF BULK AT MOST 1048576: true; the input reads as it did. -/
def uuidTellsUptoRow : OpenClaim := { program := "ytfphejndbnmfeaadoor", sum := "1b1fd7d2c092ac3e43c4e0bb2af953a422eafd50e1452bb0c70948cad3b22493", func := "provost/provostlaw13.UuidTells", spec := "uuidTells", named := ["provost/uuid.parts"], apart := false, laid := [("provost/uuid.parts", laid_provost_uuid_parts)], narrowed := true }
def UuidTellsUptoSaid : Prop := uuidTellsUptoRow.holds Tryd.pinned (OpenSpec.upto uuidTellsSpec)

/-- 'provostlaw13.UuidBack', WHERE WHAT IT READS IS OF BULK AT MOST 1048576: true; the input reads as it did. -/
def uuidBackUptoRow : OpenClaim := { program := "ytfphejndbnmfeaadoor", sum := "1b1fd7d2c092ac3e43c4e0bb2af953a422eafd50e1452bb0c70948cad3b22493", func := "provost/provostlaw13.UuidBack", spec := "uuidBack", named := ["provost/uuid.parts"], apart := false, laid := [("provost/uuid.parts", laid_provost_uuid_parts)], narrowed := true }
def UuidBackUptoSaid : Prop := uuidBackUptoRow.holds Tryd.pinned (OpenSpec.upto uuidBackSpec)

/-- 'provostlaw13.UuidOrder', WHERE WHAT IT READS IS OF BULK AT MOST 1048576: true; the input reads as it did. -/
def uuidOrderUptoRow : OpenClaim := { program := "ytfphejndbnmfeaadoor", sum := "1b1fd7d2c092ac3e43c4e0bb2af953a422eafd50e1452bb0c70948cad3b22493", func := "provost/provostlaw13.UuidOrder", spec := "uuidOrder", named := ["provost/uuid.parts"], apart := false, laid := [("provost/uuid.parts", laid_provost_uuid_parts)], narrowed := true }
def UuidOrderUptoSaid : Prop := uuidOrderUptoRow.holds Tryd.pinned (OpenSpec.upto uuidOrderSpec)

end Rows
end Go.Proofs.YtfphejndbnmfeaaDoor

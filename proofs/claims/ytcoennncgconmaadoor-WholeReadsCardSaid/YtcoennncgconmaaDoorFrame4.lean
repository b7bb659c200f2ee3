/- What the four listed tables give the walks: the limits, and the powers of ten. -/
import Derived.Test.YtcoennncgconmaaDoorFrame
import Derived.Test.YtcoennncgconmaaDoorW8
import Derived.Stop.LaidErr
import Derived.ShutString
import Derived.ChangeOld
namespace Go.Proofs.YtcoennncgconmaaDoor
open Go.RowKit
def laid4 : List (String × DataW Unit) := [("math/bits.deBruijn32tab", Rows.laid_math_bits_deBruijn32tab), ("math/bits.deBruijn64tab", Rows.laid_math_bits_deBruijn64tab), ("internal/strconv.uint64pow10", Rows.laid_internal_strconv_uint64pow10), ("provost/whole.limits", Rows.laid_provost_whole_limits)]
theorem door_met4 (os : Os) (args : Array Value) : laidMetH Tryd.prog laid4 ((World.doorLaid Tryd.prog 400 os).forCall (fun _ _ => 0) ⟨#[], args, []⟩).memory :=
  laidMetH_of_parts3 (fuel := 8) (laidMet_of_run' 8 (by kernel_rfl) (by kernel_rfl)) (by kernel_rfl) (by kernel_rfl)
theorem tPow : (Tryd.prog.globals[1]?).map (·.type) = some 63 := by kernel_rfl
theorem facts4 {W : World} (h : laidMetH Tryd.prog laid4 W) : Tabs W := by
  rw [MakeChecks.laidMetH_plain _ _ _ (by kernel_rfl)] at h
  have h2 := laidMet.tail (laidMet.tail h)
  have hP := Lib.tabIs_of_head (k := .u64) (zs := Lib.pow10Tab) gPow tPow (by kernel_rfl : Tryd.prog.underlying 63 = some (.array 20 40)) Tryd.underlying40 (by kernel_rfl) (by kernel_rfl) h2
  have h3 := laidMet.tail h2
  have hT := Lib.tabIs_of_head (k := .u64) (zs := [9223372036854775808, 9223372036854775807]) gLimits tLimits (by kernel_rfl : Tryd.prog.underlying 53 = some (.array 2 40)) Tryd.underlying40 (by kernel_rfl) (by kernel_rfl) h3
  exact ⟨⟨hT.cell gLimits 0 (by decide), hT.cell gLimits 1 (by decide)⟩, hP⟩
end Go.Proofs.YtcoennncgconmaaDoor

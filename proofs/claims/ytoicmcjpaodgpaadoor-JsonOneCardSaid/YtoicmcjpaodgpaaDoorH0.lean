import Derived.Test.YtoicmcjpaodgpaaDoorK6
import Derived.Test.YtoicmcjpaodgpaaDoorK10
/- Layer 4: the frame of the laws of json. -/
namespace Go.Proofs.YtoicmcjpaodgpaaDoor
open Go.ChangeShapes Go.WideShapes Go.ChangeAt Go.RowKit
theorem gLimits : Tryd.prog.globalNamed "provost/whole.limits" = some 1 := by kernel_rfl
def laid4 : List (String × DataW Unit) := [("math/bits.deBruijn32tab", Rows.laid_math_bits_deBruijn32tab), ("math/bits.deBruijn64tab", Rows.laid_math_bits_deBruijn64tab), ("internal/strconv.uint64pow10", Rows.laid_internal_strconv_uint64pow10), ("provost/whole.limits", Rows.laid_provost_whole_limits)]
theorem door_met4 (os : Os) (args : Array Value) : laidMetH Tryd.prog laid4 ((World.doorLaid Tryd.prog 400 os).forCall (fun _ _ => 0) ⟨#[], args, []⟩).memory :=
  laidMetH_of_parts3 (fuel := 8) (laidMet_of_run' 8 (by kernel_rfl) (by kernel_rfl)) (by kernel_rfl) (by kernel_rfl)
theorem limP_of {W : World} (h : Nm.Lim W) : LimP W.heap.size W := ⟨World.block_lt_of_cell? _ _ h.1, h⟩
theorem facts4 {W : World} (h : laidMetH Tryd.prog laid4 W) : JF W := by
  rw [MakeChecks.laidMetH_plain _ _ _ (by kernel_rfl)] at h
  have h2 := laidMet.tail (laidMet.tail h)
  have hT := Lib.tabIs_of_head (k := .u64) (zs := [9223372036854775808, 9223372036854775807]) gLimits (by kernel_rfl : (Tryd.prog.globals[(1 : Nat)]?).map (·.type) = some 129) (by kernel_rfl : Tryd.prog.underlying 129 = some (.array 2 110)) Tryd.underlying110 (by kernel_rfl) (by kernel_rfl) (laidMet.tail h2)
  exact ⟨limP_of ⟨hT.cell gLimits 0 (by decide), hT.cell gLimits 1 (by decide)⟩, Lib.tabIs_of_head (k := .u64) (zs := Lib.pow10Tab) gPow (by kernel_rfl : (Tryd.prog.globals[0]?).map (·.type) = some 124) (by kernel_rfl : Tryd.prog.underlying 124 = some (.array 20 110)) Tryd.underlying110 (by kernel_rfl) (by kernel_rfl) h2⟩
def laid1 : List (String × DataW Unit) := [("provost/whole.limits", Rows.laid_provost_whole_limits)]
theorem door_met1 (os : Os) (args : Array Value) : laidMetH Tryd.prog laid1 ((World.doorLaid Tryd.prog 400 os).forCall (fun _ _ => 0) ⟨#[], args, []⟩).memory :=
  laidMetH_of_parts3 (fuel := 8) (laidMet_of_run' 8 (by kernel_rfl) (by kernel_rfl)) (by kernel_rfl) (by kernel_rfl)
theorem facts1 {W : World} (h : laidMetH Tryd.prog laid1 W) : LimP W.heap.size W := by
  rw [MakeChecks.laidMetH_plain _ _ _ (by kernel_rfl)] at h
  have hT := Lib.tabIs_of_head (k := .u64) (zs := [9223372036854775808, 9223372036854775807]) gLimits (by kernel_rfl : (Tryd.prog.globals[(1 : Nat)]?).map (·.type) = some 129) (by kernel_rfl : Tryd.prog.underlying 129 = some (.array 2 110)) Tryd.underlying110 (by kernel_rfl) (by kernel_rfl) h
  exact limP_of ⟨hT.cell gLimits 0 (by decide), hT.cell gLimits 1 (by decide)⟩
end Go.Proofs.YtoicmcjpaodgpaaDoor

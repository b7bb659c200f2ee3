/- The frame of a tied row over two numbers: from a walk that says 'it returns true and nothing has turned' to the row, and to its card; what the table of limits gives the walk. -/
import Derived.Test.YtcoennncgconmaaDoorRows
import Derived.Test.YtcoennncgconmaaDoorTie
import Derived.Test.YtcoennncgconmaaDoorCards
import Derived.Test.YtcoennncgconmaaDoorW0
import Derived.WalkKit
import Derived.ProofKit
import Derived.OpenShut
import Derived.LaidMore
import Derived.Stop.Joined
import Derived.SevenTiedAt
import Derived.Lib.LaidTab
namespace Go.Proofs.YtcoennncgconmaaDoor
open Go.ChangeShapes Go.WideShapes Go.ChangeAt Go.RowKit

theorem own : ownKnob Tryd.prog.godebug = none := by kernel_rfl
theorem gLimits : Tryd.prog.globalNamed "provost/whole.limits" = some 0 := by kernel_rfl
theorem tLimits : (Tryd.prog.globals[0]?).map (·.type) = some 53 := by kernel_rfl

/-- The one listed variable: the table of limits. -/
def laid1 : List (String × DataW Unit) := [("provost/whole.limits", Rows.laid_provost_whole_limits)]

theorem door_met (os : Os) (args : Array Value) : laidMetH Tryd.prog laid1 ((World.doorLaid Tryd.prog 400 os).forCall (fun _ _ => 0) ⟨#[], args, []⟩).memory :=
  laidMetH_of_parts3 (fuel := 8) (laidMet_of_run' 8 (by kernel_rfl) (by kernel_rfl)) (by kernel_rfl) (by kernel_rfl)

theorem lim_of_laid {W : World} (h : laidMetH Tryd.prog laid1 W) : Lim W := by
  rw [MakeChecks.laidMetH_plain _ _ _ (by kernel_rfl)] at h
  have hT := Lib.tabIs_of_head (k := .u64) (zs := [9223372036854775808, 9223372036854775807]) gLimits tLimits (by kernel_rfl : Tryd.prog.underlying 53 = some (.array 2 40)) Tryd.underlying40 (by kernel_rfl) (by kernel_rfl) h
  exact ⟨hT.cell gLimits 0 (by decide), hT.cell gLimits 1 (by decide)⟩

end Go.Proofs.YtcoennncgconmaaDoor

/- Names for the frames of the laws over the table of limits. -/
import Derived.Test.YtcoennncgconmaaDoorFrame
namespace Go.Proofs.YtcoennncgconmaaDoor
open Go.RowKit
theorem door_met1 (os : Os) (args : Array Value) : laidMetH Tryd.prog laid1 ((World.doorLaid Tryd.prog 400 os).forCall (fun _ _ => 0) ⟨#[], args, []⟩).memory := door_met os args
theorem facts1 {W : World} (h : laidMetH Tryd.prog laid1 W) : Lim W := lim_of_laid h
end Go.Proofs.YtcoennncgconmaaDoor

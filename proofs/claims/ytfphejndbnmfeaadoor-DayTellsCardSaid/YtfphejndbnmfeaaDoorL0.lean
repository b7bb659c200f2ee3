import Derived.Test.YtfphejndbnmfeaaDoorDFrame
import Derived.Test.YtfphejndbnmfeaaDoorD14
namespace Go.Proofs.YtfphejndbnmfeaaDoor
open Go.RowKit
theorem tells_law (s n t m : Int) (W : World) (h : Tabs W) (_ : -9223372036854775808 ≤ s) (_ : s ≤ 9223372036854775807) (_ : -9223372036854775808 ≤ n) (_ : n ≤ 9223372036854775807) (_ : -9223372036854775808 ≤ t) (_ : t ≤ 9223372036854775807) (_ : -9223372036854775808 ≤ m) (_ : m ≤ 9223372036854775807) :
    Calls Tryd.prog 5 #[.agg #[.int .i64 s, .int .i64 n], .agg #[.int .i64 t, .int .i64 m]] W fun e w' => e = .returned (.bool true) ∧ Below W.heap.size W w' := tells_walkD s n t m W h.1 h.2.1
end Go.Proofs.YtfphejndbnmfeaaDoor

/- Layer 6: RangesClasses' walk, in the frame's words. -/
import Derived.Test.YtlngdohkoeognaaBF
import Derived.Test.YtlngdohkoeognaaBU
namespace Go.Proofs.Ytlngdohkoeognaa
open Go.RowKit Go.Maps
theorem rcl_law (a : Option Addr) (n c : Nat) (S : List (List Rg)) (k : Int) (w : World) (hl : S.length = n) (hv : SV w a S) (_ : n ≤ c) (_ : c ≤ maxLen) (_ : -9223372036854775808 ≤ k) (_ : k ≤ 9223372036854775807) : Calls Try.prog 8 #[.slice a n c, .int .i64 k] w fun e w' => e = .returned (.bool true) ∧ Below w.heap.size w w' := by
  subst hl
  exact rcl_all a c S k w hv
end Go.Proofs.Ytlngdohkoeognaa

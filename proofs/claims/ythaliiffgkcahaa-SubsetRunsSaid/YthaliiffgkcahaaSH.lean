/- Layer 10: SubsetRuns, as it is called. -/
import Derived.Test.YthaliiffgkcahaaSF
import Derived.Test.YthaliiffgkcahaaSG
namespace Go.Proofs.Ythaliiffgkcahaa
open Go.RowKit
theorem runs_call (a : DA) (d : DF) (b : DA) (e : DF) (s n : Int) (ap : Option Addr) (cp : Nat) (P : List Int) (w : World) (hv : DV w a d) (hu : DV w b e) (_ : -9223372036854775808 ≤ s) (_ : s ≤ 9223372036854775807) (_ : -9223372036854775808 ≤ n) (_ : n ≤ 9223372036854775807) (hp : IV w ap P) (hpl : P.length ≤ cp) (hpm : cp ≤ maxLen) (hpn : ap = none → P.length = 0 ∧ cp = 0) :
    Calls Try.prog 3 #[dv a d, dv b e, .int .i64 s, .int .i64 n, .slice ap P.length cp] w fun r w' => r = .returned (.bool true) ∧ Below w.heap.size w w' := runs_law a b d e s n ap cp P w hv hu hp hpl hpm hpn
end Go.Proofs.Ythaliiffgkcahaa

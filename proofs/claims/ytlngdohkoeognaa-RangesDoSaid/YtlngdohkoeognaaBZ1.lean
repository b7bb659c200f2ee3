/- Layer 6: RangesDo's walk, in the frame's words. -/
import Derived.Test.YtlngdohkoeognaaBF
import Derived.Test.YtlngdohkoeognaaBZ
namespace Go.Proofs.Ytlngdohkoeognaa
open Go.RowKit Go.Maps
theorem slr_of2 {w : World} {a : Option Addr} {n c : Nat} {L : List Rg} (hl : L.length = n) (hv : RV w a L) (hlc : n ≤ c) (hcm : c ≤ maxLen) (hnn : a = none → n = 0 ∧ c = 0) : SlR w (.slice a n c) L := by
  subst hl
  exact ⟨a, c, rfl, hv, hlc, hcm, hnn⟩
theorem do_law (a1 : Option Addr) (n1 c1 : Nat) (A : List Rg) (a2 : Option Addr) (n2 c2 : Nat) (B : List Rg) (n : Int) (w : World) (l1 : A.length = n1) (v1 : RV w a1 A) (e1 : n1 ≤ c1) (m1 : c1 ≤ maxLen) (z1 : a1 = none → n1 = 0 ∧ c1 = 0) (l2 : B.length = n2) (v2 : RV w a2 B) (e2 : n2 ≤ c2) (m2 : c2 ≤ maxLen) (z2 : a2 = none → n2 = 0 ∧ c2 = 0) (_ : -9223372036854775808 ≤ n) (_ : n ≤ 9223372036854775807) :
    Calls Try.prog 4 #[.slice a1 n1 c1, .slice a2 n2 c2, .int .i64 n] w fun e w' => e = .returned (.bool true) ∧ Below w.heap.size w w' :=
  do_any _ _ A B n w (slr_of2 l1 v1 e1 m1 z1) (slr_of2 l2 v2 e2 m2 z2)
end Go.Proofs.Ytlngdohkoeognaa

/- Layer 6: RangesSame's and RangesHave's walks, in the frame's words. -/
import Derived.Test.YtlngdohkoeognaaBF
import Derived.Test.YtlngdohkoeognaaBR
import Derived.Test.YtlngdohkoeognaaBS
namespace Go.Proofs.Ytlngdohkoeognaa
open Go.RowKit Go.Maps
theorem same_all (v1 v2 : Value) (A B : List Rg) (w : World) (h1 : SlR w v1 A) (h2 : SlR w v2 B) :
    Calls Try.prog 7 #[v1, v2] w fun e w' => e = .returned (.bool true) ∧ Below w.heap.size w w' := by
  have H1 := h1
  have H2 := h2
  obtain ⟨a1, c1, rfl, _⟩ := h1
  obtain ⟨a2, c2, rfl, _⟩ := h2
  by_cases k1 : 100 < A.length
  · exact same_big1 a1 a2 c1 c2 _ _ A B w (Lib.hid H1) (Lib.hid H2) (by omega)
  by_cases k2 : 100 < B.length
  · exact same_big2 a1 a2 c1 c2 _ _ A B w (Lib.hid H1) (Lib.hid H2) (by omega) (by omega)
  have e1 : ¬ (100 : Int) < (A.length : Int) := by omega
  have e2 : ¬ (100 : Int) < (B.length : Int) := by omega
  cases c1' : ckL A with
  | false => exact same_ck1 a1 a2 c1 c2 _ _ A B w (Lib.hid H1) (Lib.hid H2) e1 e2 (Lib.hid (by rw [c1']; rfl))
  | true =>
    cases c2' : ckL B with
    | false => exact same_ck2 a1 a2 c1 c2 _ _ A B w (Lib.hid H1) (Lib.hid H2) e1 e2 (Lib.hid (by rw [c1']; rfl)) (Lib.hid (by rw [c2']; rfl))
    | true =>
      have d1 := (ck_cn c1').2
      have d2 := (ck_cn c2').2
      exact same_ok a1 a2 c1 c2 _ _ A B w (Lib.hid H1) (Lib.hid H2) e1 e2 (Lib.hid rfl) (Lib.hid rfl) (Lib.hid (by rw [c1']; rfl)) (Lib.hid (by rw [c2']; rfl)) (Lib.hid (app_ok (cn_ok (Int.le_refl _) d1) (cn_ok (Int.le_refl _) d2))) (Lib.hid (same_als d1 d2)) (Lib.hid ⟨by omega, by omega⟩)
theorem slr_of {w : World} {a : Option Addr} {n c : Nat} {L : List Rg} (hl : L.length = n) (hv : RV w a L) (hlc : n ≤ c) (hcm : c ≤ maxLen) (hnn : a = none → n = 0 ∧ c = 0) : SlR w (.slice a n c) L := by
  subst hl
  exact ⟨a, c, rfl, hv, hlc, hcm, hnn⟩
theorem same_law (a1 : Option Addr) (n1 c1 : Nat) (A : List Rg) (a2 : Option Addr) (n2 c2 : Nat) (B : List Rg) (w : World) (l1 : A.length = n1) (v1 : RV w a1 A) (e1 : n1 ≤ c1) (m1 : c1 ≤ maxLen) (z1 : a1 = none → n1 = 0 ∧ c1 = 0) (l2 : B.length = n2) (v2 : RV w a2 B) (e2 : n2 ≤ c2) (m2 : c2 ≤ maxLen) (z2 : a2 = none → n2 = 0 ∧ c2 = 0) :
    Calls Try.prog 7 #[.slice a1 n1 c1, .slice a2 n2 c2] w fun e w' => e = .returned (.bool true) ∧ Below w.heap.size w w' :=
  same_all _ _ A B w (slr_of l1 v1 e1 m1 z1) (slr_of l2 v2 e2 m2 z2)
theorem have_law (a1 : Option Addr) (n1 c1 : Nat) (A : List Rg) (a2 : Option Addr) (n2 c2 : Nat) (B : List Rg) (n : Int) (w : World) (l1 : A.length = n1) (v1 : RV w a1 A) (e1 : n1 ≤ c1) (m1 : c1 ≤ maxLen) (z1 : a1 = none → n1 = 0 ∧ c1 = 0) (l2 : B.length = n2) (v2 : RV w a2 B) (e2 : n2 ≤ c2) (m2 : c2 ≤ maxLen) (z2 : a2 = none → n2 = 0 ∧ c2 = 0) (_ : -9223372036854775808 ≤ n) (_ : n ≤ 9223372036854775807) :
    Calls Try.prog 6 #[.slice a1 n1 c1, .slice a2 n2 c2, .int .i64 n] w fun e w' => e = .returned (.bool true) ∧ Below w.heap.size w w' :=
  have_any _ _ A B n w (slr_of l1 v1 e1 m1 z1) (slr_of l2 v2 e2 m2 z2)
end Go.Proofs.Ytlngdohkoeognaa

/- Plain facts on numbers for layer 2: what fits 64 bits, with its sign. No program in sight. -/
import Derived.WalkKit
namespace Go.Proofs.YtiikohbnfbpjeaaDoor
open Go.RowKit

/-- Does a number fit an int64? -/
def fits (z : Int) : Bool := decide (-9223372036854775808 ≤ z ∧ z ≤ 9223372036854775807)
/-- What comes of a number: itself or 0. -/
def val (z : Int) : Int := if fits z then z else 0
/-- Its error: none or 20. -/
def err (z : Int) : Int := if fits z then 0 else 20
/-- A sign and a size. -/
def sv (s m : Int) : Int := if s = 0 then -m else m

theorem fits_yes {z : Int} (h0 : -9223372036854775808 ≤ z) (h1 : z ≤ 9223372036854775807) : fits z = true := by unfold fits; simp; omega
theorem fits_no {z : Int} (h : z < -9223372036854775808 ∨ 9223372036854775807 < z) : fits z = false := by unfold fits; simp; omega
theorem val_yes {z : Int} (h0 : -9223372036854775808 ≤ z) (h1 : z ≤ 9223372036854775807) : val z = z := by unfold val; rw [fits_yes h0 h1]; rfl
theorem err_yes {z : Int} (h0 : -9223372036854775808 ≤ z) (h1 : z ≤ 9223372036854775807) : err z = 0 := by unfold err; rw [fits_yes h0 h1]; rfl
theorem val_no {z : Int} (h : z < -9223372036854775808 ∨ 9223372036854775807 < z) : val z = 0 := by unfold val; rw [fits_no h]; rfl
theorem err_no {z : Int} (h : z < -9223372036854775808 ∨ 9223372036854775807 < z) : err z = 20 := by unfold err; rw [fits_no h]; rfl
theorem fits_cases (z : Int) : (-9223372036854775808 ≤ z ∧ z ≤ 9223372036854775807 ∧ val z = z ∧ err z = 0) ∨ ((z < -9223372036854775808 ∨ 9223372036854775807 < z) ∧ val z = 0 ∧ err z = 20) := by
  by_cases h : -9223372036854775808 ≤ z ∧ z ≤ 9223372036854775807
  · exact .inl ⟨h.1, h.2, val_yes h.1 h.2, err_yes h.1 h.2⟩
  · have h' : z < -9223372036854775808 ∨ 9223372036854775807 < z := by omega
    exact .inr ⟨h', val_no h', err_no h'⟩
theorem val_range (z : Int) : -9223372036854775808 ≤ val z ∧ val z ≤ 9223372036854775807 := by
  rcases fits_cases z with ⟨h0, h1, h2, _⟩ | ⟨_, h2, _⟩ <;> rw [h2] <;> omega
theorem err_two (z : Int) : err z = 0 ∨ err z = 20 := by rcases fits_cases z with ⟨_, _, _, h⟩ | ⟨_, _, h⟩ <;> simp [h]

theorem ret2 {k l : IntKind} {a b c d : Int} (h : a = b) (g : c = d) : Ending.returned (.tuple #[.int k a, .int l c]) = .returned (.tuple #[.int k b, .int l d]) := by rw [h, g]
theorem ret_bool {a b : Bool} (h : a = b) : Ending.returned (.bool a) = .returned (.bool b) := by rw [h]
theorem neg_wrap (n : Int) (h : -9223372036854775808 ≤ n) (hn : n < 0) : IntKind.u64.wrap (-IntKind.u64.wrap n) = -n := by
  rw [IntKind.wrap_u64, IntKind.wrap_u64]; omega
theorem back_wrap (m : Int) (h0 : 0 ≤ m) (h1 : m ≤ 9223372036854775808) : wrap64 (IntKind.u64.wrap (-m)) = -m := by
  rw [IntKind.wrap_u64]; unfold wrap64; omega
end Go.Proofs.YtiikohbnfbpjeaaDoor

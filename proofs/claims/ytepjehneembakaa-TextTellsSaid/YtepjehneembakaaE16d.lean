import Derived.Test.YtepjehneembakaaE16c
namespace Go.Proofs.Ytepjehneembakaa
open Go.RowKit

theorem one_any (s : ByteArray) (i : Int) (z : Nat) (zv : Int) (w : World) (hzv : zv = z) (hz1 : 1 ≤ z) (hz4 : z ≤ 4) (hs : s.size ≤ maxLen) (_i0 : -9223372036854775808 ≤ i) (i1 : i ≤ 9223372036854775800) :
    Calls Try.prog 29 #[.string s, .int .i64 i, .int .i64 zv] w fun e w' => e = .returned (.tuple #[.int .i64 (oneP s i z), .bool (oneI s i z)]) ∧ Below w.heap.size w w' := by
  subst hzv
  by_cases hin : 0 ≤ i ∧ i + z ≤ s.size
  · have hP : oneP s i z = numN s i.toNat z := by unfold oneP; rw [if_pos hin]
    have hI : oneI s i z = oneB s i.toNat z := by unfold oneI; rw [if_pos hin]
    rw [hP, hI]
    obtain ⟨a, rfl⟩ := Int.eq_ofNat_of_zero_le hin.1
    rw [Int.toNat_natCast]
    cases hp : isPt (numN s a z)
    · exact one_no s a z w hz1 hz4 hs (by omega) hp
    · exact one_yes s a z w hz1 hz4 hs (by omega) hp
  · have hP : oneP s i z = 0 := by unfold oneP; rw [if_neg hin]
    have hI : oneI s i z = false := by unfold oneI; rw [if_neg hin]
    rw [hP, hI]
    exact one_out s i z w hz1 hz4 hs i1 hin
end Go.Proofs.Ytepjehneembakaa

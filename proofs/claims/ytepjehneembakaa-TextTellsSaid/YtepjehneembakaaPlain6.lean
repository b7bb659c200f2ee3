/- Plain facts for layer 1: the document's search for a code point that begins at a place. No program in sight. -/
import Derived.Test.YtepjehneembakaaPlain5
import Derived.Test.YtepjehneembakaaE2
namespace Go.Proofs.Ytepjehneembakaa
open Go.RowKit

def oneP (s : ByteArray) (i : Int) (z : Nat) : Int := if 0 ≤ i ∧ i + z ≤ s.size then numN s i.toNat z else 0
def oneI (s : ByteArray) (i : Int) (z : Nat) : Bool := if 0 ≤ i ∧ i + z ≤ s.size then oneB s i.toNat z else false
theorem oneI_at {s : ByteArray} {a z : Nat} (ha : a < s.size) (hz : 1 ≤ z) : oneI s (a : Int) z = (decIs s a && decide (leadN (byt s a) = z)) := by
  unfold oneI
  by_cases h : a + z ≤ s.size
  · rw [if_pos (by omega), Int.toNat_natCast, one_iff hz h]
  · rw [if_neg (by omega)]
    cases hd : decIs s a
    · rfl
    · have := dec_in ha hd
      have : leadN (byt s a) ≠ z := by omega
      simp [this]
theorem oneP_at {s : ByteArray} {a z : Nat} (ha : a < s.size) (hz : 1 ≤ z) (h : oneI s (a : Int) z = true) : oneP s (a : Int) z = decP s a ∧ decIs s a = true ∧ leadN (byt s a) = z := by
  have h2 := h
  rw [oneI_at ha hz, Bool.and_eq_true, decide_eq_true_eq] at h2
  obtain ⟨hd, rfl⟩ := h2
  have := dec_in ha hd
  refine ⟨?_, hd, rfl⟩
  unfold oneP
  rw [if_pos (by omega), Int.toNat_natCast, m0_lead hd]
/-- What the search answers where one begins, and where none does. -/
theorem nx_found {s : ByteArray} {a z : Nat} (ha : a < s.size) (hz : 1 ≤ z) (h : oneI s (a : Int) z = true) : nxP s a = oneP s a z ∧ nxN s a = z ∧ nxE s a = 0 := by
  have := oneP_at ha hz h
  have hN := decN_eq s a
  rw [this.2.1] at hN
  simp at hN
  unfold nxP nxN nxE
  rw [if_pos (by omega), if_pos (by omega), if_pos (by omega), Int.toNat_natCast, this.2.1, this.1, hN.1, this.2.2]
  exact ⟨rfl, rfl, rfl⟩
theorem nx_lost {s : ByteArray} {a : Nat} (ha : a < s.size) (h : ∀ z, 1 ≤ z → z ≤ 4 → oneI s (a : Int) z = false) : nxP s a = 0 ∧ nxN s a = 0 ∧ nxE s a = 10 := by
  have hd : decIs s a = false := by
    cases hd : decIs s a
    · rfl
    · have h0 := (decIs_lead hd).1
      have h4 := leadN_le (byt s a)
      have := h (leadN (byt s a)) (by omega) h4
      rw [oneI_at ha (by omega), hd] at this
      simp at this
  have hn := dec_no hd
  unfold nxP nxN nxE
  rw [if_pos (by omega), if_pos (by omega), if_pos (by omega), Int.toNat_natCast, hd, hn.1, hn.2]
  exact ⟨rfl, rfl, rfl⟩
end Go.Proofs.Ytepjehneembakaa

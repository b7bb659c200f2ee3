/- Plain facts for layer 1: the document's search for a code point that ends at a place, and its walk over a text. No program in sight. -/
import Derived.Test.YtepjehneembakaaPlain6
namespace Go.Proofs.Ytepjehneembakaa
open Go.RowKit

theorem oneI_bk {s : ByteArray} {e z : Nat} (hz : 1 ≤ z) (he : e ≤ s.size) (hze : z ≤ e) : oneI s ((e : Int) - z) z = decide (decN (s.extract 0 e) (e - z) = z) := by
  have hc : ((e : Int) - z) = ((e - z : Nat) : Int) := by omega
  rw [hc, oneI_at (by omega) hz, Bool.eq_iff_iff]
  have hb := byt_cut s e (e - z) he (by omega)
  have hN := decN_eq (s.extract 0 e) (e - z)
  rw [hb] at hN
  simp only [Bool.and_eq_true, decide_eq_true_eq]
  constructor
  · rintro ⟨hd, hl⟩
    have h := dec_cut (s := s) (a := e - z) (e := e) he (by omega) (by omega)
    rw [h, hd] at hN
    simp at hN
    omega
  · intro h
    rcases hN with ⟨h1, h2, h3⟩ | ⟨_, h2, _⟩
    · have h4 := dec_cut (s := s) (a := e - z) (e := e) he (by omega) h3
      exact ⟨by rw [← h4]; exact h1, by omega⟩
    · omega
theorem oneI_far {s : ByteArray} {e z : Nat} (hze : ¬ z ≤ e) : oneI s ((e : Int) - z) z = false := by
  unfold oneI; rw [if_neg (by omega)]
theorem bk_found {s : ByteArray} {e z : Nat} (h1 : 1 ≤ e) (he : e ≤ s.size) (hz : 1 ≤ z) (hz4 : z ≤ 4) (h : oneI s ((e : Int) - z) z = true) (hno : ∀ y : Nat, 1 ≤ y → y < z → oneI s ((e : Int) - y) y = false) :
    bkP s e = oneP s ((e : Int) - z) z ∧ bkN s e = z ∧ bkE s e = 0 := by
  have hze : z ≤ e := by
    by_cases hh : z ≤ e
    · exact hh
    · rw [oneI_far hh] at h; cases h
  have h2 := h
  rw [oneI_bk hz he hze, decide_eq_true_eq] at h2
  have hk : bkK s e = z := bkF_first (s.extract 0 e) e z hze h2 4 1 hz (by omega) (fun j j1 j2 => by
    have := hno j j1 j2
    rw [oneI_bk j1 he (by omega), decide_eq_false_iff_not] at this
    exact this)
  have hc : ((e : Int) - z) = ((e - z : Nat) : Int) := by omega
  have h3 : oneI s ((e - z : Nat) : Int) z = true := by rw [← hc]; exact h
  have h4 := oneP_at (by omega) hz h3
  have h5 := decP_cut (s := s) (a := e - z) (e := e) he (by omega) (by omega)
  unfold bkP bkN bkE
  rw [if_pos ⟨by omega, by omega, by rw [Int.toNat_natCast, hk]; omega⟩, if_pos (by omega), if_pos (by omega), Int.toNat_natCast, hk, if_neg (by omega), hc, h4.1, h5.1]
  exact ⟨rfl, rfl, rfl⟩
theorem bk_lost {s : ByteArray} {e : Nat} (h1 : 1 ≤ e) (he : e ≤ s.size) (hno : ∀ y : Nat, 1 ≤ y → y ≤ 4 → oneI s ((e : Int) - y) y = false) :
    bkP s e = 0 ∧ bkN s e = 0 ∧ bkE s e = 10 := by
  have hk : bkK s e = 0 := by
    rcases bkF_spec (s.extract 0 e) e 4 1 with h | ⟨a1, a2, a3, a4⟩
    · exact h
    · have h5 := hno (bkF (s.extract 0 e) e 4 1) a1 (by omega)
      rw [oneI_bk a1 he a3, decide_eq_false_iff_not] at h5
      exact absurd a4 h5
  unfold bkP bkN bkE
  rw [if_neg (by rw [Int.toNat_natCast, hk]; omega), if_pos (by omega), if_pos (by omega), Int.toNat_natCast, hk, if_pos rfl]
  exact ⟨rfl, rfl, rfl⟩
end Go.Proofs.Ytepjehneembakaa

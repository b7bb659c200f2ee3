/- Layer 2: what is read is written as the same digits, but -0 (as in whole's Plain3). -/
import Derived.Test.YtoicmcjpaodgpaaDoorN5
namespace Go.Proofs.YtoicmcjpaodgpaaDoor.Nm
open Go.RowKit Go.Lib
/-- What is read is written as the same digits, but -0. -/
theorem itoa_read (s : ByteArray) (h : rdE s = 0) : itoa (rdV s) = s.data.toList ∨ (s.data.toList = [45, 48] ∧ rdV s = 0) := by
  have hd : areD (bare s) = true := by
    cases hh : areD (bare s)
    · unfold rdE at h; rw [hh] at h; simp at h
    · rfl
  unfold rdE at h
  rw [hd] at h
  simp only [if_true] at h
  have hv : rdV s = rdZ s ∧ -9223372036854775808 ≤ rdZ s ∧ rdZ s ≤ 9223372036854775807 := by
    unfold rdV; rw [hd]
    rcases fits_cases (rdZ s) with ⟨a, b, c, _⟩ | ⟨_, _, c⟩
    · exact ⟨by simpa using c, a, b⟩
    · rw [c] at h; omega
  obtain ⟨p1, p2, p3⟩ := areD_parts hd
  have hl : (bare s).data.toList.length = (bare s).size := rfl
  have hb := dec_back ((bare s).size - 1) (bare s).data.toList (by rw [hl]; omega) p3 (fun h => by rw [hl]; exact p2 h)
  have hnn : 0 ≤ valL (bare s).data.toList := valD_nonneg _ _ p3
  rw [hv.1]
  cases hn : isNeg s
  · have h1 : bare s = s := by unfold bare; rw [hn]; rfl
    have h2 : sgn s = 1 := by unfold sgn; rw [hn]; rfl
    have hz : rdZ s = valL s.data.toList := by unfold rdZ; rw [h1, h2]; rfl
    rw [h1] at hb hnn
    left
    rw [hz]; unfold itoa
    rw [if_neg (by omega), hb]
  · have h2 : sgn s = 0 := by unfold sgn; rw [hn]; rfl
    have hz : rdZ s = -(valL (bare s).data.toList) := by unfold rdZ; rw [h2]; rfl
    have hbs : bare s = s.extract 1 s.size := by unfold bare; rw [hn]; rfl
    unfold isNeg at hn
    simp only [Bool.and_eq_true, decide_eq_true_eq] at hn
    have hs : s.data.toList = 45 :: (bare s).data.toList := by
      rw [hbs, Lib.extract_data]
      have hpos := hn.1
      have hv45 := hn.2
      have hb0 := byt_eq s 0 hpos
      rw [hv45] at hb0
      have hc : s[0]'hpos = 45 := UInt8.toNat_inj.1 (by have h45 : (45 : UInt8).toNat = 45 := rfl; omega)
      have hdr : s.data.toList = s[0]'hpos :: s.data.toList.drop 1 := by
        have := List.drop_eq_getElem_cons (l := s.data.toList) (i := 0) (by exact hpos)
        have h3 : s[0]'hpos = s.data[0]'hpos := rfl
        rw [h3]
        simpa using this
      rw [hc] at hdr
      have hlen : s.data.toList.length = s.size := rfl
      have ht : (s.data.toList.drop 1).take (s.size - 1) = s.data.toList.drop 1 := List.take_of_length_le (by simp [hlen])
      rw [ht]; exact hdr
    by_cases h0 : valL (bare s).data.toList = 0
    · right
      rw [hz, h0]
      have hb2 := hb
      rw [h0] at hb2
      rw [hs, ← hb2]
      refine ⟨?_, rfl⟩
      rw [show ((0 : Int).toNat) = 0 from rfl, decDigits, dif_pos (by decide)]; rfl
    · left
      rw [hz, hs]
      unfold itoa
      rw [if_pos (by omega)]
      congr 1
      rw [show (-(valL (bare s).data.toList)).natAbs = (valL (bare s).data.toList).toNat from by omega]
      exact hb
theorem read_range (s : ByteArray) (h : rdE s = 0) : -9223372036854775808 ≤ rdV s ∧ rdV s ≤ 9223372036854775807 := by
  have hd : areD (bare s) = true := by
    cases hh : areD (bare s)
    · unfold rdE at h; rw [hh] at h; simp at h
    · rfl
  unfold rdE at h
  rw [hd] at h
  simp only [if_true] at h
  unfold rdV; rw [hd]
  rcases fits_cases (rdZ s) with ⟨a, b, c, _⟩ | ⟨_, _, c⟩
  · simp only [if_true]
    rw [c]
    exact ⟨a, b⟩
  · rw [c] at h; omega
end Go.Proofs.YtoicmcjpaodgpaaDoor.Nm

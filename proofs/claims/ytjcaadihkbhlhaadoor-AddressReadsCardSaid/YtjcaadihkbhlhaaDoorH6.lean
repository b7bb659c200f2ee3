import Derived.Test.YtjcaadihkbhlhaaDoorHH
import Derived.Test.YtjcaadihkbhlhaaDoorG8
namespace Go.Proofs.YtjcaadihkbhlhaaDoor
open Go.RowKit
theorem of_ascii (may : UInt8 → Bool) (hm : ∀ b, may b = true → b.toNat < 128) : ∀ (n : Nat) (l : List UInt8), l.length ≤ n → ofP may l = true → ∀ b ∈ l, b.toNat < 128
  | 0, l, hn, _ => by
    cases l with
    | nil => intro b hb; cases hb
    | cons _ _ => simp at hn
  | n + 1, [], _, _ => by intro b hb; cases hb
  | n + 1, x :: r, hn, h => by
    rw [ofP] at h
    cases hx : may x with
    | true =>
      rw [hx] at h
      intro b hb
      rcases List.mem_cons.1 hb with rfl | hb
      · exact hm _ hx
      · exact of_ascii may hm n r (by simpa using hn) (by simpa using h) b hb
    | false =>
      rw [hx] at h
      simp at h
      obtain ⟨he, hr⟩ := h
      match r, he, hr, hn with
      | a :: c :: r2, he, hr, hn =>
        unfold esc at he
        simp only [Bool.and_eq_true, beq_iff_eq] at he
        have hexA : ∀ z : UInt8, hexB z = true → z.toNat < 128 := fun z hz => by
          have := by256 (P := fun z => !hexB z || decide (z.toNat < 128)) (by decide +kernel) z
          rw [hz] at this
          simpa using this
        intro b hb
        simp only [List.mem_cons] at hb
        rcases hb with rfl | rfl | rfl | hb
        · rw [he.1]; decide
        · exact hexA _ he.2.1
        · exact hexA _ he.2.2
        · exact of_ascii may hm n r2 (by simp at hn ⊢; omega) (by simpa using hr) b hb
theorem ascii_of (m : List UInt8) (h : (List.range 256).all (fun n => !mayB m (UInt8.ofNat n) || decide ((UInt8.ofNat n).toNat < 128)) = true) (s : ByteArray) (hs : ofP (mayB m) s.data.toList = true) : ∀ i, (h : i < s.size) → s[i].toNat < 128 := by
  have hm : ∀ b, mayB m b = true → b.toNat < 128 := fun b hb => by
    have := by256 (P := fun z => !mayB m z || decide (z.toNat < 128)) h b
    rw [hb] at this
    simpa using this
  intro i hi
  refine of_ascii _ hm _ _ (Nat.le_refl _) hs _ ?_
  have := Lib.data_getElem? s i hi
  exact List.mem_of_getElem? this
theorem scheme_ascii (l : List UInt8) (h : schemeP l = true) : ∀ b ∈ l, b.toNat < 128 := by
  have hs : ∀ b, schemeB b = true → b.toNat < 128 := fun b hb => by
    have := by256 (P := fun z => !schemeB z || decide (z.toNat < 128)) (by decide +kernel) b
    rw [hb] at this
    simpa using this
  match l, h with
  | x :: r, h =>
    unfold schemeP at h
    simp only [Bool.and_eq_true, List.all_eq_true] at h
    intro b hb
    rcases List.mem_cons.1 hb with rfl | hb
    · exact hs _ (by unfold schemeB; rw [h.1]; rfl)
    · exact hs _ (h.2 b hb)
theorem may_parts {s u h p a q : ByteArray} {hu hq : Bool} (H : mayP s u h p a q hu hq = true) : schemeP s.data.toList = true ∧ ofP (mayB [58]) u.data.toList = true ∧ ofP (mayB []) h.data.toList = true ∧ ofP (mayB [58, 64, 47]) a.data.toList = true ∧ ofP (mayB [58, 64, 47, 63]) q.data.toList = true := by
  unfold mayP ok1 at H
  simp only [Bool.and_eq_true] at H
  exact ⟨H.1.1.1.1.1.1.1, H.1.1.1.1.1.1.2, H.1.1.1.1.1.2, H.1.1.1.2, H.1.1.2⟩
end Go.Proofs.YtjcaadihkbhlhaaDoor

/- Plain facts for layer 5: a string put in its place, and dropped again. No program in sight. -/
import Derived.Test.YtcnafgelfkfekaaPlain
namespace Go.Proofs.Ytcnafgelfkfekaa
open Go.RowKit

def insL (L : List ByteArray) (s : ByteArray) (k : Nat) : List ByteArray := L.take k ++ (s :: L.drop k)
def del (L : List ByteArray) (k : Nat) : List ByteArray := L.take k ++ L.drop (k + 1)
theorem chOk {L : List ByteArray} (h : chE L = 0) : L.length ≤ 4096 ∧ rises L (L.length - 1) = true := by
  unfold chE at h
  by_cases h1 : 4096 < L.length
  · rw [if_pos h1] at h; omega
  · rw [if_neg h1] at h
    refine ⟨by omega, ?_⟩
    cases hr : rises L (L.length - 1)
    · rw [hr] at h; simp at h
    · rfl
theorem rises_of {L : List ByteArray} : ∀ n, (∀ j, j < n → cmpB (nth L j) (nth L (j + 1)) < 0) → rises L n = true := by
  intro n
  induction n with
  | zero => intro _; rfl
  | succ n ih =>
    intro h
    simp only [rises, Bool.and_eq_true, decide_eq_true_eq]
    exact ⟨ih (fun j hj => h j (by omega)), h n (by omega)⟩
theorem rises_at {L : List ByteArray} {n j : Nat} (h : rises L n = true) (hj : j < n) : cmpB (nth L j) (nth L (j + 1)) < 0 := rises_lt (j + 1) (by omega) (rises_le (by omega) h)
theorem insL_len {L : List ByteArray} {s : ByteArray} {k : Nat} (hk : k ≤ L.length) : (insL L s k).length = L.length + 1 := by simp [insL]; omega
theorem insL_nth {L : List ByteArray} {s : ByteArray} {k : Nat} (hk : k ≤ L.length) (j : Nat) : nth (insL L s k) j = if j < k then nth L j else if j = k then s else nth L (j - 1) := by
  unfold nth insL
  have ht : (L.take k).length = k := by rw [List.length_take]; omega
  by_cases h1 : j < k
  · rw [if_pos h1]
    simp only [List.getD, List.getElem?_append_left (show j < (L.take k).length by omega)]
    simp [h1]
  · rw [if_neg h1]
    simp only [List.getD, List.getElem?_append_right (show (L.take k).length ≤ j by omega), ht]
    by_cases h2 : j = k
    · subst h2; simp
    · rw [if_neg h2]
      obtain ⟨d, hd⟩ : ∃ d, j - k = d + 1 := ⟨j - k - 1, by omega⟩
      rw [hd, List.getElem?_cons_succ, List.getElem?_drop]
      rw [show k + d = j - 1 by omega]
theorem insL_ok {L : List ByteArray} {s : ByteArray} {k : Nat} (hc : chE L = 0) (hl : L.length < 4096) (ha : At L s k false) : chE (insL L s k) = 0 := by
  obtain ⟨h1, h2, _, h4⟩ := ha
  have h4 := h4 rfl
  have hr := (chOk hc).2
  have hlen := insL_len (s := s) h1
  unfold chE
  rw [if_neg (by omega), rises_of]
  · rfl
  · intro j hj
    rw [insL_nth h1, insL_nth h1]
    by_cases c1 : j + 1 < k
    · rw [if_pos (by omega), if_pos c1]
      exact rises_at hr (by omega)
    · by_cases c2 : j + 1 = k
      · rw [if_pos (by omega), if_neg (by omega), if_pos c2]
        exact h2 j (by omega)
      · rw [if_neg (by omega)]
        rw [if_neg (show ¬ (j + 1 < k) from c1), if_neg c2]
        by_cases c3 : j = k
        · rw [if_pos c3, show j + 1 - 1 = j by omega]
          have := h4 j (by omega) (by omega)
          have := cmp_swap s (nth L j)
          omega
        · rw [if_neg c3]
          have := rises_at hr (j := j - 1) (by omega)
          rw [show j - 1 + 1 = j by omega] at this
          rw [show j + 1 - 1 = j by omega]
          exact this
/-- What is found is there. -/
theorem at_iff {L : List ByteArray} {s : ByteArray} {k : Nat} {is : Bool} (h : At L s k is) : is = true ↔ ∃ j, j < L.length ∧ nth L j = s := by
  obtain ⟨h1, h2, h3, h4⟩ := h
  constructor
  · intro hi; exact ⟨k, h3 hi⟩
  · rintro ⟨j, hj, he⟩
    cases is
    · exfalso
      have hz := (cmp_zero (nth L j) s).2 he
      by_cases hjk : j < k
      · have := h2 j hjk; omega
      · have := h4 rfl j (by omega) hj; omega
    · rfl
theorem insL_has {L : List ByteArray} {s o : ByteArray} {k : Nat} (hk : k ≤ L.length) (ho : o ≠ s) : (∃ j, j < (insL L s k).length ∧ nth (insL L s k) j = o) ↔ ∃ j, j < L.length ∧ nth L j = o := by
  rw [insL_len hk]
  constructor
  · rintro ⟨j, hj, he⟩
    rw [insL_nth hk] at he
    by_cases c1 : j < k
    · rw [if_pos c1] at he; exact ⟨j, by omega, he⟩
    · rw [if_neg c1] at he
      by_cases c2 : j = k
      · rw [if_pos c2] at he; exact absurd he.symm ho
      · rw [if_neg c2] at he; exact ⟨j - 1, by omega, he⟩
  · rintro ⟨j, hj, he⟩
    by_cases c1 : j < k
    · exact ⟨j, by omega, by rw [insL_nth hk, if_pos c1]; exact he⟩
    · exact ⟨j + 1, by omega, by rw [insL_nth hk, if_neg (by omega), if_neg (by omega)]; exact he⟩
theorem insL_at {L : List ByteArray} {s : ByteArray} {k : Nat} (hk : k ≤ L.length) : k < (insL L s k).length ∧ nth (insL L s k) k = s := by
  rw [insL_len hk, insL_nth hk, if_neg (by omega), if_pos rfl]
  exact ⟨by omega, rfl⟩
/-- Each stands once. -/
theorem rises_inj {L : List ByteArray} {i j : Nat} (hc : chE L = 0) (hi : i < L.length) (hj : j < L.length) (he : nth L i = nth L j) : i = j := by
  have hr := (chOk hc).2
  have hz := (cmp_zero (nth L i) (nth L j)).2 he
  have hz' := (cmp_zero (nth L j) (nth L i)).2 he.symm
  rcases Nat.lt_trichotomy i j with h | h | h
  · have := rises_lt j h (rises_le (by omega) hr); omega
  · exact h
  · have := rises_lt i h (rises_le (by omega) hr); omega
theorem del_insL {L : List ByteArray} {s : ByteArray} {k : Nat} (hk : k ≤ L.length) : del (insL L s k) k = L := by
  unfold del insL
  have ht : (L.take k).length = k := by rw [List.length_take]; omega
  rw [List.take_append_of_le_length (by omega), List.take_of_length_le (by omega)]
  rw [List.drop_append, List.drop_of_length_le (by omega), ht, show k + 1 - k = 1 by omega]
  simp
/-- Where a string is, or would be: there is such a place, and one. -/
theorem at_some {L : List ByteArray} (hc : chE L = 0) (s : ByteArray) : ∃ k is, At L s k is := by
  have hr := (chOk hc).2
  have key : ∀ n, n ≤ L.length → (∀ j, j < n → cmpB (nth L j) s < 0) ∨ ∃ k, k < n ∧ (∀ j, j < k → cmpB (nth L j) s < 0) ∧ 0 ≤ cmpB (nth L k) s := by
    intro n
    induction n with
    | zero => intro _; exact .inl (fun j hj => by omega)
    | succ n ih =>
      intro hn
      rcases ih (by omega) with h | ⟨k, hk, h1, h2⟩
      · by_cases hz : cmpB (nth L n) s < 0
        · refine .inl (fun j hj => ?_)
          by_cases e : j = n
          · rw [e]; exact hz
          · exact h j (by omega)
        · exact .inr ⟨n, by omega, h, by omega⟩
      · exact .inr ⟨k, by omega, h1, h2⟩
  rcases key L.length (Nat.le_refl _) with h | ⟨k, hk, h1, h2⟩
  · exact ⟨L.length, false, Nat.le_refl _, h, fun h => by simp at h, fun _ j h1 h2 => by omega⟩
  · by_cases hz : cmpB (nth L k) s = 0
    · exact ⟨k, true, by omega, h1, fun _ => ⟨hk, (cmp_zero _ _).1 hz⟩, fun h => by simp at h⟩
    · exact ⟨k, false, by omega, h1, fun h => by simp at h, fun _ => high_step hr (by omega)⟩
theorem at_uniq {L : List ByteArray} {s : ByteArray} {k k' : Nat} {is is' : Bool} (h : At L s k is) (h' : At L s k' is') : k' = k ∧ is' = is := by
  have hi : is' = is := by rw [Bool.eq_iff_iff, at_iff h, at_iff h']
  refine ⟨?_, hi⟩
  subst hi
  have up : ∀ {a b : Nat}, At L s a is' → At L s b is' → ¬ a < b := by
    intro a b ha hb hab
    have h1 := hb.2.1 a hab
    have hbl := hb.1
    cases is'
    · have := ha.2.2.2 rfl a (Nat.le_refl _) (by omega); omega
    · have hz := (cmp_zero (nth L a) s).2 (ha.2.2.1 rfl).2; omega
  have := up h h'
  have := up h' h
  omega
theorem at_insL {L : List ByteArray} {s : ByteArray} {k : Nat} (h : At L s k false) : At (insL L s k) s k true := by
  have hk := h.1
  refine ⟨by rw [insL_len hk]; omega, fun j hj => ?_, fun _ => insL_at hk, fun h => by simp at h⟩
  rw [insL_nth hk, if_pos hj]
  exact h.2.1 j hj
theorem at_same {L M : List ByteArray} {o : ByteArray} {k k' : Nat} {is is' : Bool} (h : At L o k is) (h' : At M o k' is') (hh : (∃ j, j < M.length ∧ nth M j = o) ↔ ∃ j, j < L.length ∧ nth L j = o) : is' = is := by
  rw [Bool.eq_iff_iff, at_iff h, at_iff h', hh]
end Go.Proofs.Ytcnafgelfkfekaa

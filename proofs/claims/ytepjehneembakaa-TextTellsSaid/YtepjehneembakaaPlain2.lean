/- Plain facts for layer 1: a code point's bytes are what they are in a longer text; the one that ends ahead of a place. No program in sight. -/
import Derived.Test.YtepjehneembakaaPlain
namespace Go.Proofs.Ytepjehneembakaa
open Go.RowKit

theorem size_cut (s : ByteArray) (e : Nat) (h : e ≤ s.size) : (s.extract 0 e).size = e := by simp; omega
theorem byt_cut (s : ByteArray) (e i : Nat) (h : e ≤ s.size) (hi : i < e) : byt (s.extract 0 e) i = byt s i := by
  have hs := size_cut s e h
  unfold byt
  rw [dif_pos (by omega), dif_pos (by omega)]
  simp [ByteArray.getElem_extract]
theorem conts_size (s : ByteArray) (a : Nat) : ∀ k, 0 < k → conts s a k = true → a + k ≤ s.size := by
  intro k hk h
  match k, hk with
  | k + 1, _ =>
    simp only [conts, Bool.and_eq_true, decide_eq_true_eq] at h
    omega
theorem conts_cut (s : ByteArray) (e a : Nat) (h : e ≤ s.size) : ∀ k, a + k ≤ e → conts (s.extract 0 e) a k = conts s a k := by
  intro k
  induction k with
  | zero => intro _; rfl
  | succ k ih =>
    intro hk
    simp only [conts]
    rw [ih (by omega), byt_cut s e (a + k) h (by omega), size_cut s e h]
    congr 1
    rw [Bool.eq_iff_iff]; simp only [decide_eq_true_eq]; omega
theorem acc_cut (s : ByteArray) (e a : Nat) (p : Int) (h : e ≤ s.size) : ∀ k, a + k ≤ e → acc (s.extract 0 e) a p k = acc s a p k := by
  intro k
  induction k with
  | zero => intro _; rfl
  | succ k ih =>
    intro hk
    simp only [acc]
    rw [ih (by omega), byt_cut s e (a + k) h (by omega)]
theorem decIs_lead {s : ByteArray} {a : Nat} (h : decIs s a = true) : leadN (byt s a) ≠ 0 ∧ conts s (a + 1) (leadN (byt s a) - 1) = true := by
  simp only [decIs, Bool.and_eq_true, decide_eq_true_eq] at h
  exact ⟨h.1.1.1, h.1.1.2⟩
/-- It lies in the text. -/
theorem dec_in {s : ByteArray} {a : Nat} (ha : a < s.size) (h : decIs s a = true) : a + leadN (byt s a) ≤ s.size := by
  have h1 := (decIs_lead h).1
  have h2 := (decIs_lead h).2
  by_cases e : leadN (byt s a) = 1
  · omega
  · have := conts_size s (a + 1) _ (by omega) h2
    omega
theorem dec_cut {s : ByteArray} {a e : Nat} (h : e ≤ s.size) (ha : a + leadN (byt s a) ≤ e) (h0 : leadN (byt s a) ≠ 0) : decIs (s.extract 0 e) a = decIs s a := by
  unfold decIs
  rw [byt_cut s e a h (by omega), conts_cut s e (a + 1) h _ (by omega), acc_cut s e (a + 1) _ h _ (by omega)]
theorem decP_cut {s : ByteArray} {a e : Nat} (h : e ≤ s.size) (ha : a + leadN (byt s a) ≤ e) (h0 : leadN (byt s a) ≠ 0) : decP (s.extract 0 e) a = decP s a ∧ decN (s.extract 0 e) a = decN s a := by
  unfold decP decN
  rw [dec_cut h ha h0, byt_cut s e a h (by omega), acc_cut s e (a + 1) _ h _ (by omega)]
  exact ⟨rfl, rfl⟩
theorem decN_eq (s : ByteArray) (a : Nat) : (decIs s a = true ∧ decN s a = leadN (byt s a) ∧ leadN (byt s a) ≠ 0) ∨ (decIs s a = false ∧ decN s a = 0 ∧ decP s a = 0) := by
  cases h : decIs s a
  · exact .inr ⟨rfl, by simp [decN, h], by simp [decP, h]⟩
  · exact .inl ⟨rfl, by simp [decN, h], (decIs_lead h).1⟩
/-- What is read ahead of an end is read in the whole. -/
theorem dec_whole {s : ByteArray} {a e : Nat} (h : e ≤ s.size) (ha : a < e) (hd : decIs (s.extract 0 e) a = true) :
    a + leadN (byt s a) ≤ e ∧ decIs s a = true ∧ decP (s.extract 0 e) a = decP s a ∧ decN (s.extract 0 e) a = decN s a := by
  have h1 := dec_in (by rw [size_cut s e h]; exact ha) hd
  have h0 := (decIs_lead hd).1
  rw [byt_cut s e a h ha] at h1 h0
  rw [size_cut s e h] at h1
  have h2 := decP_cut h h1 h0
  exact ⟨h1, by rw [← dec_cut h h1 h0]; exact hd, h2.1, h2.2⟩
theorem conts_byte (s : ByteArray) (a : Nat) : ∀ k j, j < k → conts s a k = true → 128 ≤ byt s (a + j) ∧ byt s (a + j) < 192 := by
  intro k
  induction k with
  | zero => intro j hj; omega
  | succ k ih =>
    intro j hj h
    simp only [conts, Bool.and_eq_true, decide_eq_true_eq] at h
    by_cases e : j = k
    · subst e; exact ⟨h.2.2.1, h.2.2.2⟩
    · exact ih j (by omega) h.1
/-- Among its bytes none but the first begins a code point. -/
theorem dec_inner {s : ByteArray} {a j : Nat} (h : decIs s a = true) (h0 : 0 < j) (h1 : j < leadN (byt s a)) : leadN (byt s (a + j)) = 0 := by
  have h2 := (decIs_lead h).2
  have := conts_byte s (a + 1) _ (j - 1) (by omega) h2
  rw [show a + 1 + (j - 1) = a + j from by omega] at this
  unfold leadN
  rw [if_neg (by omega), if_pos (by omega)]

/-- How many bytes the code point has that ends at the end of t: by trying; 0: none. -/
def bkF (t : ByteArray) (e : Nat) : Nat → Nat → Nat
  | 0, _ => 0
  | f + 1, k => if k ≤ e ∧ decN t (e - k) = k then k else bkF t e f (k + 1)
theorem bkF_spec (t : ByteArray) (e : Nat) : ∀ f k, bkF t e f k = 0 ∨ (k ≤ bkF t e f k ∧ bkF t e f k < k + f ∧ bkF t e f k ≤ e ∧ decN t (e - bkF t e f k) = bkF t e f k) := by
  intro f
  induction f with
  | zero => intro k; exact .inl rfl
  | succ f ih =>
    intro k
    unfold bkF
    by_cases h : k ≤ e ∧ decN t (e - k) = k
    · rw [if_pos h]; exact .inr ⟨by omega, by omega, h.1, h.2⟩
    · rw [if_neg h]
      rcases ih (k + 1) with g | ⟨g1, g2, g3, g4⟩
      · exact .inl g
      · exact .inr ⟨by omega, by omega, g3, g4⟩
/-- The first that fits. -/
theorem bkF_first (t : ByteArray) (e n : Nat) (hn : n ≤ e) (h : decN t (e - n) = n) : ∀ f k, k ≤ n → n < k + f → (∀ j, k ≤ j → j < n → decN t (e - j) ≠ j) → bkF t e f k = n := by
  intro f
  induction f with
  | zero => intro k h1 h2; omega
  | succ f ih =>
    intro k h1 h2 h3
    unfold bkF
    by_cases hk : k = n
    · subst hk; rw [if_pos ⟨hn, h⟩]
    · rw [if_neg (fun hc => h3 k (Nat.le_refl _) (by omega) hc.2)]
      exact ih (k + 1) (by omega) (by omega) (fun j a b => h3 j (by omega) b)

/-- The code point ahead of a place. -/
def bkK (s : ByteArray) (e : Nat) : Nat := bkF (s.extract 0 e) e 4 1
/-- Forth and back. -/
theorem back_of_next {s : ByteArray} {a : Nat} (ha : a < s.size) (h : decIs s a = true) :
    bkK s (a + leadN (byt s a)) = leadN (byt s a) ∧ decP (s.extract 0 (a + leadN (byt s a))) a = decP s a := by
  have h1 := dec_in ha h
  have h0 := (decIs_lead h).1
  have h4 := leadN_le (byt s a)
  have hc := decP_cut h1 (Nat.le_refl _) h0
  have hN : decN s a = leadN (byt s a) := by simp [decN, h]
  refine ⟨?_, hc.1⟩
  refine bkF_first _ _ _ (by omega) ?_ 4 1 (by omega) (by omega) ?_
  · rw [show a + leadN (byt s a) - leadN (byt s a) = a from by omega, hc.2, hN]
  · intro j hj1 hj2 hc2
    have hi := dec_inner (j := leadN (byt s a) - j) h (by omega) (by omega)
    rw [show a + leadN (byt s a) - j = a + (leadN (byt s a) - j) from by omega] at hc2
    have hb := byt_cut s (a + leadN (byt s a)) (a + (leadN (byt s a) - j)) h1 (by omega)
    rcases decN_eq (s.extract 0 (a + leadN (byt s a))) (a + (leadN (byt s a) - j)) with ⟨_, _, hz⟩ | ⟨_, hz, _⟩
    · rw [hb] at hz; exact hz hi
    · rw [hz] at hc2; omega
/-- Back and forth. -/
theorem next_of_back {s : ByteArray} {e : Nat} (he : e ≤ s.size) (h : bkK s e ≠ 0) :
    1 ≤ bkK s e ∧ bkK s e ≤ 4 ∧ bkK s e ≤ e ∧ decIs s (e - bkK s e) = true ∧ decN s (e - bkK s e) = bkK s e ∧ decP (s.extract 0 e) (e - bkK s e) = decP s (e - bkK s e) := by
  rcases bkF_spec (s.extract 0 e) e 4 1 with g | ⟨g1, g2, g3, g4⟩
  · exact absurd g h
  · have hk : bkF (s.extract 0 e) e 4 1 = bkK s e := rfl
    rw [hk] at g1 g2 g3 g4
    have hd : decIs (s.extract 0 e) (e - bkK s e) = true := by
      rcases decN_eq (s.extract 0 e) (e - bkK s e) with ⟨hz, _⟩ | ⟨_, hz, _⟩
      · exact hz
      · rw [hz] at g4; omega
    obtain ⟨_, w2, w3, w4⟩ := dec_whole he (by omega) hd
    exact ⟨g1, by omega, g3, w2, by rw [← w4, g4], w3⟩

/-- Next, as numbers. -/
def nxE (s : ByteArray) (i : Int) : Int := if 0 ≤ i ∧ i < s.size then (if decIs s i.toNat then 0 else 10) else 2
def nxP (s : ByteArray) (i : Int) : Int := if 0 ≤ i ∧ i < s.size then decP s i.toNat else 0
def nxN (s : ByteArray) (i : Int) : Int := if 0 ≤ i ∧ i < s.size then decN s i.toNat else 0
/-- Back, as numbers. -/
def bkE (s : ByteArray) (i : Int) : Int := if 1 ≤ i ∧ i ≤ s.size then (if bkK s i.toNat = 0 then 10 else 0) else 2
def bkP (s : ByteArray) (i : Int) : Int := if 1 ≤ i ∧ i ≤ s.size ∧ bkK s i.toNat ≠ 0 then decP (s.extract 0 i.toNat) (i.toNat - bkK s i.toNat) else 0
def bkN (s : ByteArray) (i : Int) : Int := if 1 ≤ i ∧ i ≤ s.size then bkK s i.toNat else 0

theorem nx_two (s : ByteArray) (i : Int) : nxE s i = 0 ∨ nxE s i = 10 ∨ nxE s i = 2 := by unfold nxE; (repeat' split) <;> simp
theorem bk_two (s : ByteArray) (i : Int) : bkE s i = 0 ∨ bkE s i = 10 ∨ bkE s i = 2 := by unfold bkE; (repeat' split) <;> simp
theorem nx_ok {s : ByteArray} {i : Int} (h : nxE s i = 0) : 0 ≤ i ∧ i < s.size ∧ decIs s i.toNat = true ∧ nxP s i = decP s i.toNat ∧ nxN s i = leadN (byt s i.toNat) ∧ 1 ≤ nxN s i ∧ nxN s i ≤ 4 ∧ i + nxN s i ≤ s.size := by
  by_cases hi : 0 ≤ i ∧ i < s.size
  · unfold nxE at h
    rw [if_pos hi] at h
    cases hd : decIs s i.toNat
    · rw [hd] at h; simp at h
    · have hN : decN s i.toNat = leadN (byt s i.toNat) := by simp [decN, hd]
      have h0 := (decIs_lead hd).1
      have h4 := leadN_le (byt s i.toNat)
      have h5 := dec_in (by omega) hd
      unfold nxP nxN
      rw [if_pos hi, if_pos hi, hN]
      exact ⟨hi.1, hi.2, rfl, rfl, rfl, by omega, by omega, by omega⟩
  · unfold nxE at h; rw [if_neg hi] at h; omega
theorem bk_ok {s : ByteArray} {i : Int} (h : bkE s i = 0) : 1 ≤ i ∧ i ≤ s.size ∧ bkK s i.toNat ≠ 0 ∧ bkN s i = bkK s i.toNat ∧ bkP s i = decP (s.extract 0 i.toNat) (i.toNat - bkK s i.toNat) := by
  by_cases hi : 1 ≤ i ∧ i ≤ s.size
  · unfold bkE at h
    rw [if_pos hi] at h
    by_cases hk : bkK s i.toNat = 0
    · rw [if_pos hk] at h; omega
    · unfold bkN bkP
      rw [if_pos hi, if_pos ⟨hi.1, hi.2, hk⟩]
      exact ⟨hi.1, hi.2, hk, rfl, rfl⟩
  · unfold bkE at h; rw [if_neg hi] at h; omega
/-- What Next takes in, Back takes in. -/
theorem both_forth {s : ByteArray} {i : Int} (h : nxE s i = 0) : bkP s (i + nxN s i) = nxP s i ∧ bkN s (i + nxN s i) = nxN s i ∧ bkE s (i + nxN s i) = 0 := by
  obtain ⟨h0, h1, h2, h3, h4, h5, h6, h7⟩ := nx_ok h
  have hb := back_of_next (by omega) h2
  have ht : (i + nxN s i).toNat = i.toNat + leadN (byt s i.toNat) := by omega
  have hk : bkK s (i + nxN s i).toNat = leadN (byt s i.toNat) := by rw [ht]; exact hb.1
  unfold bkP bkN bkE
  rw [if_pos (by rw [hk]; omega), if_pos (by omega), if_pos (by omega), if_neg (by rw [hk]; omega), hk, ht]
  rw [show i.toNat + leadN (byt s i.toNat) - leadN (byt s i.toNat) = i.toNat from by omega, hb.2]
  exact ⟨h3.symm, h4.symm, rfl⟩
theorem both_back {s : ByteArray} {i : Int} (h : bkE s i = 0) : nxP s (i - bkN s i) = bkP s i ∧ nxN s (i - bkN s i) = bkN s i ∧ nxE s (i - bkN s i) = 0 ∧ 0 ≤ i - bkN s i := by
  obtain ⟨h0, h1, h2, h3, h4⟩ := bk_ok h
  obtain ⟨g1, g2, g3, g4, g5, g6⟩ := next_of_back (by omega) h2
  have ht : (i - bkN s i).toNat = i.toNat - bkK s i.toNat := by omega
  unfold nxP nxN nxE
  rw [if_pos (by omega), if_pos (by omega), if_pos (by omega), ht, g4, h4, g6, g5]
  exact ⟨rfl, h3.symm, rfl, by omega⟩
end Go.Proofs.Ytepjehneembakaa

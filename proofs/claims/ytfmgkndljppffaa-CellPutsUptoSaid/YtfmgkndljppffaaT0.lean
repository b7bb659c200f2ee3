/- Plain facts of texts: what code point begins at a byte, whether bytes are a text (as in layer 1). -/
import Derived.WalkKit
import Derived.Laws.BitsLemmas
namespace Go.Proofs.Ytfmgkndljppffaa
open Go.RowKit

/-- The byte at a place; 0 behind the end. -/
def byt (s : ByteArray) (i : Nat) : Int := if h : i < s.size then (s[i].toNat : Int) else 0
theorem byt_range (s : ByteArray) (i : Nat) : 0 ≤ byt s i ∧ byt s i < 256 := by
  unfold byt; split
  · have := UInt8.toNat_lt s[i]; omega
  · omega
theorem byt_eq (s : ByteArray) (i : Nat) (h : i < s.size) : (s[i].toNat : Int) = byt s i := by simp [byt, h]

/-- Is a number a code point? -/
def isPt (p : Int) : Bool := decide (0 ≤ p ∧ p ≤ 1114111 ∧ (p < 55296 ∨ 57343 < p))
/-- How many bytes a code point has. -/
def szOf (p : Int) : Int := if p < 128 then 1 else if p < 2048 then 2 else if p < 65536 then 3 else 4
/-- What a first byte asks for. -/
def leadN (b : Int) : Nat := if b < 128 then 1 else if b < 192 then 0 else if b < 224 then 2 else if b < 240 then 3 else if b < 248 then 4 else 0
def leadB (b : Int) : Int := if b < 128 then b else if b < 192 then 0 else if b < 224 then b % 32 else if b < 240 then b % 16 else if b < 248 then b % 8 else 0
/-- The number behind k bytes more. -/
def acc (s : ByteArray) (a : Nat) (p : Int) : Nat → Int
  | 0 => p
  | k + 1 => acc s a p k * 64 + byt s (a + k) % 64
/-- Are the next k bytes continuing ones? -/
def conts (s : ByteArray) (a : Nat) : Nat → Bool
  | 0 => true
  | k + 1 => conts s a k && decide (a + k < s.size ∧ 128 ≤ byt s (a + k) ∧ byt s (a + k) < 192)
/-- Is there a code point at a place? -/
def decIs (s : ByteArray) (a : Nat) : Bool :=
  decide (leadN (byt s a) ≠ 0) && conts s (a + 1) (leadN (byt s a) - 1) && isPt (acc s (a + 1) (leadB (byt s a)) (leadN (byt s a) - 1)) && decide (szOf (acc s (a + 1) (leadB (byt s a)) (leadN (byt s a) - 1)) = leadN (byt s a))
/-- Its size; 0: none. -/
def decN (s : ByteArray) (a : Nat) : Int := if decIs s a then (leadN (byt s a) : Int) else 0
/-- The code point at a place. -/
def decP (s : ByteArray) (a : Nat) : Int := if decIs s a then acc s (a + 1) (leadB (byt s a)) (leadN (byt s a) - 1) else 0

theorem leadN_le (b : Int) : leadN b ≤ 4 := by unfold leadN; (repeat' split) <;> omega
theorem leadB_range (b : Int) (h0 : 0 ≤ b) (h : b < 256) : 0 ≤ leadB b ∧ leadB b < 128 := by unfold leadB; (repeat' split) <;> omega
theorem acc_range (s : ByteArray) (a : Nat) (p : Int) (h0 : 0 ≤ p) (h1 : p < 128) : ∀ k, k ≤ 3 → 0 ≤ acc s a p k ∧ acc s a p k < 33554432 := by
  intro k hk
  match k, hk with
  | 0, _ => simp [acc]; omega
  | 1, _ => simp only [acc]; omega
  | 2, _ => simp only [acc]; omega
  | 3, _ => simp only [acc]; omega

theorem wraps_i64 (n : Int) (h₀ : 0 ≤ n) (h₁ : n < 2 ^ 63) : IntKind.i64.wrap n = n := by rw [IntKind.wrap_i64]; omega
theorem and31 (x : Int) (h0 : 0 ≤ x) (h1 : x < 256) : bits .and .i64 x 31 = x % 32 := bits_mask .i64 63 (by decide) wraps_i64 5 (by decide) x h0 (by omega)
theorem and15 (x : Int) (h0 : 0 ≤ x) (h1 : x < 256) : bits .and .i64 x 15 = x % 16 := bits_mask .i64 63 (by decide) wraps_i64 4 (by decide) x h0 (by omega)
theorem and7 (x : Int) (h0 : 0 ≤ x) (h1 : x < 256) : bits .and .i64 x 7 = x % 8 := bits_mask .i64 63 (by decide) wraps_i64 3 (by decide) x h0 (by omega)
theorem and63 (x : Int) (h0 : 0 ≤ x) (h1 : x < 2 ^ 63) : bits .and .i64 x 63 = x % 64 := bits_mask .i64 63 (by decide) wraps_i64 6 (by decide) x h0 h1
theorem or6 (x y : Int) (h0 : 0 ≤ x) (h1 : x < 2 ^ 57) (h2 : 0 ≤ y) (h3 : y < 64) : bits .or .i64 (x * 64) y = x * 64 + y :=
  bits_join .i64 63 (by decide) wraps_i64 6 (x * 64) y (by omega) (by omega) (by omega) h2 h3 (by omega)
/-- b & 192 is 128 just for continuing bytes. -/
theorem and192_cont : ∀ b : Nat, b < 256 → ((b &&& 192 = 128) ↔ (128 ≤ b ∧ b < 192)) := by decide +kernel
theorem cont_test (x : Int) (h0 : 0 ≤ x) (h : x < 256) : (bits .and .i64 x 192 != 128) = !decide (128 ≤ x ∧ x < 192) := by
  obtain ⟨b, rfl⟩ := Int.eq_ofNat_of_zero_le h0
  have e : bits .and .i64 (b : Int) 192 = ((b &&& 192 : Nat) : Int) := (bits_nat .i64 63 (by decide) wraps_i64 b 192 (by omega) (by omega)).1
  rw [e]
  have := and192_cont b (by omega)
  by_cases hc : 128 ≤ b ∧ b < 192
  · have e := this.2 hc
    rw [e]; simp; omega
  · have e : ¬ (b &&& 192 = 128) := fun h => hc (this.1 h)
    have d : decide (128 ≤ (b : Int) ∧ (b : Int) < 192) = false := by simp; omega
    rw [d]
    simp only [Bool.not_false, bne_iff_ne, ne_eq]
    omega

theorem size_cut (s : ByteArray) (e : Nat) (h : e ≤ s.size) : (s.extract 0 e).size = e := by simp; omega
theorem byt_cut (s : ByteArray) (e i : Nat) (h : e ≤ s.size) (hi : i < e) : byt (s.extract 0 e) i = byt s i := by
  have hs := size_cut s e h
  unfold byt
  rw [dif_pos (by omega), dif_pos (by omega)]
  simp [ByteArray.getElem_extract]
theorem conts_size (s : ByteArray) (a : Nat) : ∀ k, 0 < k → conts s a k = true → a + k ≤ s.size := by
  intro k hk h
  match k, hk with
  | k + 1, _ =>
    simp only [conts, Bool.and_eq_true, decide_eq_true_eq] at h
    omega
theorem conts_cut (s : ByteArray) (e a : Nat) (h : e ≤ s.size) : ∀ k, a + k ≤ e → conts (s.extract 0 e) a k = conts s a k := by
  intro k
  induction k with
  | zero => intro _; rfl
  | succ k ih =>
    intro hk
    simp only [conts]
    rw [ih (by omega), byt_cut s e (a + k) h (by omega), size_cut s e h]
    congr 1
    rw [Bool.eq_iff_iff]; simp only [decide_eq_true_eq]; omega
theorem acc_cut (s : ByteArray) (e a : Nat) (p : Int) (h : e ≤ s.size) : ∀ k, a + k ≤ e → acc (s.extract 0 e) a p k = acc s a p k := by
  intro k
  induction k with
  | zero => intro _; rfl
  | succ k ih =>
    intro hk
    simp only [acc]
    rw [ih (by omega), byt_cut s e (a + k) h (by omega)]
theorem decIs_lead {s : ByteArray} {a : Nat} (h : decIs s a = true) : leadN (byt s a) ≠ 0 ∧ conts s (a + 1) (leadN (byt s a) - 1) = true := by
  simp only [decIs, Bool.and_eq_true, decide_eq_true_eq] at h
  exact ⟨h.1.1.1, h.1.1.2⟩
/-- It lies in the text. -/
theorem dec_in {s : ByteArray} {a : Nat} (ha : a < s.size) (h : decIs s a = true) : a + leadN (byt s a) ≤ s.size := by
  have h1 := (decIs_lead h).1
  have h2 := (decIs_lead h).2
  by_cases e : leadN (byt s a) = 1
  · omega
  · have := conts_size s (a + 1) _ (by omega) h2
    omega
theorem dec_cut {s : ByteArray} {a e : Nat} (h : e ≤ s.size) (ha : a + leadN (byt s a) ≤ e) (h0 : leadN (byt s a) ≠ 0) : decIs (s.extract 0 e) a = decIs s a := by
  unfold decIs
  rw [byt_cut s e a h (by omega), conts_cut s e (a + 1) h _ (by omega), acc_cut s e (a + 1) _ h _ (by omega)]
theorem decP_cut {s : ByteArray} {a e : Nat} (h : e ≤ s.size) (ha : a + leadN (byt s a) ≤ e) (h0 : leadN (byt s a) ≠ 0) : decP (s.extract 0 e) a = decP s a ∧ decN (s.extract 0 e) a = decN s a := by
  unfold decP decN
  rw [dec_cut h ha h0, byt_cut s e a h (by omega), acc_cut s e (a + 1) _ h _ (by omega)]
  exact ⟨rfl, rfl⟩
theorem decN_eq (s : ByteArray) (a : Nat) : (decIs s a = true ∧ decN s a = leadN (byt s a) ∧ leadN (byt s a) ≠ 0) ∨ (decIs s a = false ∧ decN s a = 0 ∧ decP s a = 0) := by
  cases h : decIs s a
  · exact .inr ⟨rfl, by simp [decN, h], by simp [decP, h]⟩
  · exact .inl ⟨rfl, by simp [decN, h], (decIs_lead h).1⟩
/-- Are the bytes from a place on a text? -/
def txF (s : ByteArray) : Nat → Nat → Bool
  | 0, _ => true
  | f + 1, a => if a < s.size then decIs s a && txF s f (a + leadN (byt s a)) else true
def isTx (s : ByteArray) : Bool := txF s s.size 0
theorem txF_step {s : ByteArray} {f a : Nat} (h : a < s.size) (hf : s.size - a ≤ f) : txF s f a = (decIs s a && txF s (f - 1) (a + leadN (byt s a))) := by
  match f, hf with
  | 0, hf => exact absurd hf (by omega)
  | f + 1, _ => simp only [txF]; rw [if_pos h]; rfl
theorem txF_end {s : ByteArray} {f a : Nat} (h : s.size ≤ a) : txF s f a = true := by
  match f with
  | 0 => rfl
  | f + 1 => simp only [txF]; rw [if_neg (by omega)]
/-- What Check tells. -/
def ckE (s : ByteArray) : Int := if 16384 < s.size then 4 else if isTx s then 0 else 10
end Go.Proofs.Ytfmgkndljppffaa

/- Plain facts for layer 1: a text's code points one by one, its lines and columns; the model's own decoding. No program in sight. -/
import Derived.Test.YtepjehneembakaaPlain2
import Derived.Laws.RangeString
namespace Go.Proofs.Ytepjehneembakaa
open Go.RowKit

theorem get_byt (s : ByteArray) (i : Nat) : ((s.get! i).toNat : Int) = byt s i := by
  unfold byt
  by_cases h : i < s.size
  · rw [dif_pos h]
    have e : s.get! i = s[i] := by
      simp [ByteArray.get!, getElem!_pos, h]
      rfl
    rw [e]
  · rw [dif_neg h]
    have e : s.get! i = default := by
      simp only [ByteArray.get!]
      exact getElem!_neg s.data i (by simpa using h)
    rw [e]; rfl
theorem valid_isPt (c : Nat) : Utf8.valid (c : Int) = isPt (c : Int) := by
  unfold Utf8.valid isPt
  rw [Bool.eq_iff_iff]
  simp only [Bool.or_eq_true, Bool.and_eq_true, decide_eq_true_eq]
  omega
/-- The model's decoding, over the four bytes. -/
def decB (n i b0 b1 b2 b3 : Nat) : Nat × Nat :=
  if b0 < 0x80 then (b0, 1)
  else if (b0 / 32 == 6 && (decide (i + 1 < n) && b1 / 64 == 2)) = true then
    if b0 % 32 * 64 + b1 % 64 ≥ 0x80 then (b0 % 32 * 64 + b1 % 64, 2) else (Utf8.runeError, 1)
  else if (b0 / 16 == 14 && (decide (i + 1 < n) && b1 / 64 == 2) && (decide (i + 2 < n) && b2 / 64 == 2)) = true then
    if (decide (b0 % 16 * 4096 + b1 % 64 * 64 + b2 % 64 ≥ 0x800) && Utf8.valid (b0 % 16 * 4096 + b1 % 64 * 64 + b2 % 64 : Nat)) = true then (b0 % 16 * 4096 + b1 % 64 * 64 + b2 % 64, 3) else (Utf8.runeError, 1)
  else if (b0 / 8 == 30 && (decide (i + 1 < n) && b1 / 64 == 2) && (decide (i + 2 < n) && b2 / 64 == 2) && (decide (i + 3 < n) && b3 / 64 == 2)) = true then
    if (decide (b0 % 8 * 262144 + b1 % 64 * 4096 + b2 % 64 * 64 + b3 % 64 ≥ 0x10000) && Utf8.valid (b0 % 8 * 262144 + b1 % 64 * 4096 + b2 % 64 * 64 + b3 % 64 : Nat)) = true then (b0 % 8 * 262144 + b1 % 64 * 4096 + b2 % 64 * 64 + b3 % 64, 4) else (Utf8.runeError, 1)
  else (Utf8.runeError, 1)
theorem decode_decB (s : ByteArray) (i : Nat) : Utf8.decode s i = decB s.size i (s.get! i).toNat (s.get! (i + 1)).toNat (s.get! (i + 2)).toNat (s.get! (i + 3)).toNat := rfl
theorem decB1 (n i b0 b1 b2 b3 : Nat) (h : b0 < 128) : decB n i b0 b1 b2 b3 = (b0, 1) := by unfold decB; rw [if_pos h]
theorem decB2 (n i b0 b1 b2 b3 : Nat) (h0 : 192 ≤ b0) (h1 : b0 < 224) (hc1 : i + 1 < n ∧ 128 ≤ b1 ∧ b1 < 192) (hg : 128 ≤ b0 % 32 * 64 + b1 % 64) : decB n i b0 b1 b2 b3 = (b0 % 32 * 64 + b1 % 64, 2) := by
  unfold decB
  rw [if_neg (by omega), if_pos (by simp only [Bool.and_eq_true, beq_iff_eq, decide_eq_true_eq]; omega), if_pos (by omega)]
theorem decB3 (n i b0 b1 b2 b3 : Nat) (h0 : 224 ≤ b0) (h1 : b0 < 240) (hc1 : i + 1 < n ∧ 128 ≤ b1 ∧ b1 < 192) (hc2 : i + 2 < n ∧ 128 ≤ b2 ∧ b2 < 192) (hg : 2048 ≤ b0 % 16 * 4096 + b1 % 64 * 64 + b2 % 64) (hv : isPt ((b0 % 16 * 4096 + b1 % 64 * 64 + b2 % 64 : Nat) : Int) = true) : decB n i b0 b1 b2 b3 = (b0 % 16 * 4096 + b1 % 64 * 64 + b2 % 64, 3) := by
  unfold decB
  rw [valid_isPt, hv]
  rw [if_neg (by omega), if_neg (by simp only [Bool.and_eq_true, beq_iff_eq, decide_eq_true_eq]; omega), if_pos (by simp only [Bool.and_eq_true, beq_iff_eq, decide_eq_true_eq]; omega), if_pos (by simp only [Bool.and_eq_true, decide_eq_true_eq, and_true]; omega)]
theorem decB4 (n i b0 b1 b2 b3 : Nat) (h0 : 240 ≤ b0) (h1 : b0 < 248) (hc1 : i + 1 < n ∧ 128 ≤ b1 ∧ b1 < 192) (hc2 : i + 2 < n ∧ 128 ≤ b2 ∧ b2 < 192) (hc3 : i + 3 < n ∧ 128 ≤ b3 ∧ b3 < 192) (hg : 65536 ≤ b0 % 8 * 262144 + b1 % 64 * 4096 + b2 % 64 * 64 + b3 % 64) (hv : isPt ((b0 % 8 * 262144 + b1 % 64 * 4096 + b2 % 64 * 64 + b3 % 64 : Nat) : Int) = true) : decB n i b0 b1 b2 b3 = (b0 % 8 * 262144 + b1 % 64 * 4096 + b2 % 64 * 64 + b3 % 64, 4) := by
  unfold decB
  rw [valid_isPt, valid_isPt, hv]
  rw [if_neg (by omega), if_neg (by simp only [Bool.and_eq_true, beq_iff_eq, decide_eq_true_eq]; omega), if_neg (by simp only [Bool.and_eq_true, beq_iff_eq, decide_eq_true_eq]; omega), if_pos (by simp only [Bool.and_eq_true, beq_iff_eq, decide_eq_true_eq]; omega), if_pos (by simp only [Bool.and_eq_true, decide_eq_true_eq, and_true]; omega)]
theorem lead_cases (b : Int) (h0 : leadN b ≠ 0) : leadN b = 1 ∧ leadB b = b ∧ b < 128 ∨ leadN b = 2 ∧ leadB b = b % 32 ∧ 192 ≤ b ∧ b < 224 ∨ leadN b = 3 ∧ leadB b = b % 16 ∧ 224 ≤ b ∧ b < 240 ∨ leadN b = 4 ∧ leadB b = b % 8 ∧ 240 ≤ b ∧ b < 248 := by
  unfold leadN leadB at *
  by_cases h1 : b < 128
  · simp [h1]
  by_cases h2 : b < 192
  · simp [h1, h2] at h0
  by_cases h3 : b < 224
  · simp [h1, h2, h3]; omega
  by_cases h4 : b < 240
  · simp [h1, h2, h3, h4]; omega
  by_cases h5 : b < 248
  · simp [h1, h2, h3, h4, h5]; omega
  · simp [h1, h2, h3, h4, h5] at h0
theorem szOf_lo {p : Int} : (szOf p = 2 → 128 ≤ p) ∧ (szOf p = 3 → 2048 ≤ p) ∧ (szOf p = 4 → 65536 ≤ p) := by
  unfold szOf
  refine ⟨fun h => ?_, fun h => ?_, fun h => ?_⟩
  all_goals (split at h <;> first | omega | (split at h <;> first | omega | (split at h <;> omega)))
/-- Where a code point begins, the model decodes it. -/
theorem decode_eq {s : ByteArray} {a : Nat} (h : decIs s a = true) : Utf8.decode s a = ((decP s a).toNat, leadN (byt s a)) := by
  have hP : decP s a = acc s (a + 1) (leadB (byt s a)) (leadN (byt s a) - 1) := by simp [decP, h]
  rw [hP, decode_decB]
  clear hP
  simp only [decIs, Bool.and_eq_true, decide_eq_true_eq] at h
  obtain ⟨⟨⟨h0, hc⟩, hp⟩, hz⟩ := h
  have hb := byt_range s a
  have g0 := get_byt s a
  have g1 := get_byt s (a + 1)
  have g2 := get_byt s (a + 2)
  have g3 := get_byt s (a + 3)
  obtain ⟨b0, e0⟩ : ∃ b, b = (s.get! a).toNat := ⟨_, rfl⟩
  obtain ⟨b1, e1⟩ : ∃ b, b = (s.get! (a + 1)).toNat := ⟨_, rfl⟩
  obtain ⟨b2, e2⟩ : ∃ b, b = (s.get! (a + 2)).toNat := ⟨_, rfl⟩
  obtain ⟨b3, e3⟩ : ∃ b, b = (s.get! (a + 3)).toNat := ⟨_, rfl⟩
  rw [← e0] at g0 ⊢
  rw [← e1] at g1 ⊢
  rw [← e2] at g2 ⊢
  rw [← e3] at g3 ⊢
  clear e0 e1 e2 e3
  rcases lead_cases _ h0 with ⟨hn, hB, hr⟩ | ⟨hn, hB, hr⟩ | ⟨hn, hB, hr⟩ | ⟨hn, hB, hr⟩
  · rw [hn, hB, decB1 _ _ _ _ _ _ (by omega)]
    simp only [Nat.sub_self, acc]
    rw [← g0]; rfl
  · rw [hn] at hc hz hp ⊢
    rw [hB] at hz hp ⊢
    simp only [Nat.reduceSub, conts, acc, Bool.true_and, decide_eq_true_eq, Nat.add_zero] at hc hz hp ⊢
    have hg := szOf_lo.1 hz
    rw [← g0, ← g1] at *
    rw [decB2 _ _ _ _ _ _ (by omega) (by omega) (by omega) (by omega)]
    congr 1
  · rw [hn] at hc hz hp ⊢
    rw [hB] at hz hp ⊢
    simp only [Nat.reduceSub, conts, acc, Bool.true_and, Bool.and_eq_true, decide_eq_true_eq, Nat.add_zero] at hc hz hp ⊢
    rw [show a + 1 + 1 = a + 2 from by omega] at hc hz hp ⊢
    have hg := szOf_lo.2.1 hz
    rw [← g0, ← g1, ← g2] at *
    have e : ((b0 % 16 * 4096 + b1 % 64 * 64 + b2 % 64 : Nat) : Int) = ((b0 : Int) % 16 * 64 + (b1 : Int) % 64) * 64 + (b2 : Int) % 64 := by omega
    rw [decB3 _ _ _ _ _ _ (by omega) (by omega) (by omega) (by omega) (by omega) (by rw [e]; exact hp), ← e]
    rfl
  · rw [hn] at hc hz hp ⊢
    rw [hB] at hz hp ⊢
    simp only [Nat.reduceSub, conts, acc, Bool.true_and, Bool.and_eq_true, decide_eq_true_eq, Nat.add_zero] at hc hz hp ⊢
    rw [show a + 1 + 1 = a + 2 from by omega, show a + 1 + 2 = a + 3 from by omega] at hc hz hp ⊢
    have hg := szOf_lo.2.2 hz
    rw [← g0, ← g1, ← g2, ← g3] at *
    have e : ((b0 % 8 * 262144 + b1 % 64 * 4096 + b2 % 64 * 64 + b3 % 64 : Nat) : Int) = (((b0 : Int) % 8 * 64 + (b1 : Int) % 64) * 64 + (b2 : Int) % 64) * 64 + (b3 : Int) % 64 := by omega
    rw [decB4 _ _ _ _ _ _ (by omega) (by omega) (by omega) (by omega) (by omega) (by omega) (by rw [e]; exact hp), ← e]
    rfl

/-- Are the bytes from a place on a text? -/
def txF (s : ByteArray) : Nat → Nat → Bool
  | 0, _ => true
  | f + 1, a => if a < s.size then decIs s a && txF s f (a + leadN (byt s a)) else true
def isTx (s : ByteArray) : Bool := txF s s.size 0
theorem txF_step {s : ByteArray} {f a : Nat} (h : a < s.size) (hf : s.size - a ≤ f) : txF s f a = (decIs s a && txF s (f - 1) (a + leadN (byt s a))) := by
  match f, hf with
  | 0, hf => exact absurd hf (by omega)
  | f + 1, _ => simp only [txF]; rw [if_pos h]; rfl
theorem txF_end {s : ByteArray} {f a : Nat} (h : s.size ≤ a) : txF s f a = true := by
  match f with
  | 0 => rfl
  | f + 1 => simp only [txF]; rw [if_neg (by omega)]
/-- What Check tells. -/
def ckE (s : ByteArray) : Int := if 16384 < s.size then 4 else if isTx s then 0 else 10

/-- Does a line end with the code point p, whose bytes end ahead of place e? -/
def ends (s : ByteArray) (p : Int) (e : Nat) : Bool := if p = 13 then decide (e = s.size) || decide (byt s e ≠ 10) else decide (p = 10)
def stL (s : ByteArray) (p : Int) (e : Nat) (l : Int) : Int := if ends s p e then l + 1 else l
def stC (s : ByteArray) (p : Int) (e : Nat) (c : Int) : Int := if ends s p e then 1 else c + 1
/-- Line and column of a place, gone on from place a. -/
structure LC where
  l : Int
  c : Int
  ok : Bool
def whF (s : ByteArray) (t : Int) : Nat → Nat → Int → Int → LC
  | 0, _, l, c => ⟨l, c, decide (t = s.size)⟩
  | f + 1, a, l, c => if a < s.size then (if t ≤ a then ⟨l, c, decide ((a : Int) = t)⟩ else whF s t f (a + leadN (byt s a)) (stL s (decP s a) (a + leadN (byt s a)) l) (stC s (decP s a) (a + leadN (byt s a)) c)) else ⟨l, c, decide (t = s.size)⟩
def wh (s : ByteArray) (t : Int) : LC := whF s t s.size 0 1 1
def whL (s : ByteArray) (t : Int) : Int := if ckE s = 0 ∧ (wh s t).ok = true then (wh s t).l else 0
def whC (s : ByteArray) (t : Int) : Int := if ckE s = 0 ∧ (wh s t).ok = true then (wh s t).c else 0
def whE (s : ByteArray) (t : Int) : Int := if ckE s = 0 then (if (wh s t).ok then 0 else 2) else ckE s

theorem whF_step {s : ByteArray} {t : Int} {f a : Nat} {l c : Int} (h : a < s.size) (hf : s.size - a ≤ f) :
    whF s t f a l c = if t ≤ a then ⟨l, c, decide ((a : Int) = t)⟩ else whF s t (f - 1) (a + leadN (byt s a)) (stL s (decP s a) (a + leadN (byt s a)) l) (stC s (decP s a) (a + leadN (byt s a)) c) := by
  match f, hf with
  | 0, hf => exact absurd hf (by omega)
  | f + 1, _ => simp only [whF]; rw [if_pos h]; rfl
theorem whF_end {s : ByteArray} {t : Int} {f a : Nat} {l c : Int} (h : s.size ≤ a) : whF s t f a l c = ⟨l, c, decide (t = s.size)⟩ := by
  match f with
  | 0 => rfl
  | f + 1 => simp only [whF]; rw [if_neg (by omega)]

/-- Lines and columns go on from code point to code point. -/
theorem whF_next (s : ByteArray) (t : Nat) (ht : t < s.size) : ∀ (f a : Nat) (l c : Int), s.size - a ≤ f → txF s f a = true → 1 ≤ l → 1 ≤ c → (whF s t f a l c).ok = true → a ≤ t →
    decIs s t = true ∧ 1 ≤ (whF s t f a l c).l ∧ 1 ≤ (whF s t f a l c).c ∧
    (whF s ((t + leadN (byt s t) : Nat) : Int) f a l c).ok = true ∧
    (whF s ((t + leadN (byt s t) : Nat) : Int) f a l c).l = stL s (decP s t) (t + leadN (byt s t)) (whF s t f a l c).l ∧
    (whF s ((t + leadN (byt s t) : Nat) : Int) f a l c).c = stC s (decP s t) (t + leadN (byt s t)) (whF s t f a l c).c := by
  intro f
  induction f with
  | zero =>
    intro a l c hf _ _ _ hok hat
    omega
  | succ f ih =>
    intro a l c hf htx hl hc hok hat
    have ha : a < s.size := by omega
    rw [txF_step ha hf] at htx
    simp only [Bool.and_eq_true, Nat.add_sub_cancel] at htx
    have h0 := (decIs_lead htx.1).1
    have hin := dec_in ha htx.1
    by_cases e : a = t
    · subst e
      refine ⟨htx.1, ?_⟩
      rw [whF_step ha hf, if_pos (Int.le_refl _)]
      rw [whF_step ha hf, if_neg (by omega)]
      simp only [Nat.add_sub_cancel]
      by_cases hend : a + leadN (byt s a) < s.size
      · rw [whF_step hend (by omega), if_pos (Int.le_refl _)]
        exact ⟨hl, hc, by simp, rfl, rfl⟩
      · rw [whF_end (by omega)]
        refine ⟨hl, hc, ?_, rfl, rfl⟩
        simp; omega
    · have hlt : a < t := by omega
      rw [whF_step ha hf, if_neg (by omega)] at hok ⊢
      simp only [Nat.add_sub_cancel] at hok ⊢
      have hle : a + leadN (byt s a) ≤ t := by
        apply Classical.byContradiction
        intro hgt
        by_cases hend : a + leadN (byt s a) < s.size
        · rw [whF_step hend (by omega), if_pos (by omega)] at hok
          simp at hok; omega
        · rw [whF_end (by omega)] at hok
          simp at hok; omega
      have hl' : 1 ≤ stL s (decP s a) (a + leadN (byt s a)) l := by unfold stL; split <;> omega
      have hc' : 1 ≤ stC s (decP s a) (a + leadN (byt s a)) c := by unfold stC; split <;> omega
      have := ih (a + leadN (byt s a)) _ _ (by omega) htx.2 hl' hc' hok hle
      rw [whF_step (t := ((t + leadN (byt s t) : Nat) : Int)) ha hf, if_neg (by omega)]
      simp only [Nat.add_sub_cancel]
      exact this
end Go.Proofs.Ytepjehneembakaa

import Derived.WalkKit
import Derived.Laws.BitsLemmas
import Derived.Test.YtpiaofpglagfmaaShelf
import Derived.WalkSpells
import Derived.WalkLawsBesides
import Derived.Outline
import Derived.Laws.Externs
import Derived.BigQuiet
import Derived.Lib.Hide
import Derived.Deep.QuietTactic
import Derived.Lib.Strings
import Derived.Below
import Derived.Test.YtpiaofpglagfmaaProg
import Derived.Deep.LoopGhost
import Derived.Deep.RegionHeld3
import Derived.Deep.DeepCutAuto
import Derived.LoopTactic
import Derived.Maps.OwnSet
import Derived.Maps.AppendAt
import Derived.Laws.ResultCell
import Derived.Laws.EntriesVeiled
import Derived.StringKeys
/- Plain facts of texts: what code point begins at a byte, whether bytes are a text (as in layer 1). -/
namespace Go.Proofs.Ytpiaofpglagfmaa
open Go.RowKit

/-- The byte at a place; 0 behind the end. -/
def byt (s : ByteArray) (i : Nat) : Int := if h : i < s.size then (s[i].toNat : Int) else 0
theorem byt_range (s : ByteArray) (i : Nat) : 0 ≤ byt s i ∧ byt s i < 256 := by
  unfold byt; split
  · have := UInt8.toNat_lt s[i]; omega
  · omega
theorem byt_eq (s : ByteArray) (i : Nat) (h : i < s.size) : (s[i].toNat : Int) = byt s i := by simp [byt, h]

/-- Is a number a code point? -/
def isPt (p : Int) : Bool := decide (0 ≤ p ∧ p ≤ 1114111 ∧ (p < 55296 ∨ 57343 < p))
/-- How many bytes a code point has. -/
def szOf (p : Int) : Int := if p < 128 then 1 else if p < 2048 then 2 else if p < 65536 then 3 else 4
/-- What a first byte asks for. -/
def leadN (b : Int) : Nat := if b < 128 then 1 else if b < 192 then 0 else if b < 224 then 2 else if b < 240 then 3 else if b < 248 then 4 else 0
def leadB (b : Int) : Int := if b < 128 then b else if b < 192 then 0 else if b < 224 then b % 32 else if b < 240 then b % 16 else if b < 248 then b % 8 else 0
/-- The number behind k bytes more. -/
def acc (s : ByteArray) (a : Nat) (p : Int) : Nat → Int
  | 0 => p
  | k + 1 => acc s a p k * 64 + byt s (a + k) % 64
/-- Are the next k bytes continuing ones? -/
def conts (s : ByteArray) (a : Nat) : Nat → Bool
  | 0 => true
  | k + 1 => conts s a k && decide (a + k < s.size ∧ 128 ≤ byt s (a + k) ∧ byt s (a + k) < 192)
/-- Is there a code point at a place? -/
def decIs (s : ByteArray) (a : Nat) : Bool :=
  decide (leadN (byt s a) ≠ 0) && conts s (a + 1) (leadN (byt s a) - 1) && isPt (acc s (a + 1) (leadB (byt s a)) (leadN (byt s a) - 1)) && decide (szOf (acc s (a + 1) (leadB (byt s a)) (leadN (byt s a) - 1)) = leadN (byt s a))
/-- Its size; 0: none. -/
def decN (s : ByteArray) (a : Nat) : Int := if decIs s a then (leadN (byt s a) : Int) else 0
/-- The code point at a place. -/
def decP (s : ByteArray) (a : Nat) : Int := if decIs s a then acc s (a + 1) (leadB (byt s a)) (leadN (byt s a) - 1) else 0

theorem leadN_le (b : Int) : leadN b ≤ 4 := by unfold leadN; (repeat' split) <;> omega
theorem leadB_range (b : Int) (h0 : 0 ≤ b) (h : b < 256) : 0 ≤ leadB b ∧ leadB b < 128 := by unfold leadB; (repeat' split) <;> omega
theorem acc_range (s : ByteArray) (a : Nat) (p : Int) (h0 : 0 ≤ p) (h1 : p < 128) : ∀ k, k ≤ 3 → 0 ≤ acc s a p k ∧ acc s a p k < 33554432 := by
  intro k hk
  match k, hk with
  | 0, _ => simp [acc]; omega
  | 1, _ => simp only [acc]; omega
  | 2, _ => simp only [acc]; omega
  | 3, _ => simp only [acc]; omega

theorem wraps_i64 (n : Int) (h₀ : 0 ≤ n) (h₁ : n < 2 ^ 63) : IntKind.i64.wrap n = n := by rw [IntKind.wrap_i64]; omega
theorem and31 (x : Int) (h0 : 0 ≤ x) (h1 : x < 256) : bits .and .i64 x 31 = x % 32 := bits_mask .i64 63 (by decide) wraps_i64 5 (by decide) x h0 (by omega)
theorem and15 (x : Int) (h0 : 0 ≤ x) (h1 : x < 256) : bits .and .i64 x 15 = x % 16 := bits_mask .i64 63 (by decide) wraps_i64 4 (by decide) x h0 (by omega)
theorem and7 (x : Int) (h0 : 0 ≤ x) (h1 : x < 256) : bits .and .i64 x 7 = x % 8 := bits_mask .i64 63 (by decide) wraps_i64 3 (by decide) x h0 (by omega)
theorem and63 (x : Int) (h0 : 0 ≤ x) (h1 : x < 2 ^ 63) : bits .and .i64 x 63 = x % 64 := bits_mask .i64 63 (by decide) wraps_i64 6 (by decide) x h0 h1
theorem or6 (x y : Int) (h0 : 0 ≤ x) (h1 : x < 2 ^ 57) (h2 : 0 ≤ y) (h3 : y < 64) : bits .or .i64 (x * 64) y = x * 64 + y :=
  bits_join .i64 63 (by decide) wraps_i64 6 (x * 64) y (by omega) (by omega) (by omega) h2 h3 (by omega)
/-- b & 192 is 128 just for continuing bytes. -/
theorem and192_cont : ∀ b : Nat, b < 256 → ((b &&& 192 = 128) ↔ (128 ≤ b ∧ b < 192)) := by decide +kernel
theorem cont_test (x : Int) (h0 : 0 ≤ x) (h : x < 256) : (bits .and .i64 x 192 != 128) = !decide (128 ≤ x ∧ x < 192) := by
  obtain ⟨b, rfl⟩ := Int.eq_ofNat_of_zero_le h0
  have e : bits .and .i64 (b : Int) 192 = ((b &&& 192 : Nat) : Int) := (bits_nat .i64 63 (by decide) wraps_i64 b 192 (by omega) (by omega)).1
  rw [e]
  have := and192_cont b (by omega)
  by_cases hc : 128 ≤ b ∧ b < 192
  · have e := this.2 hc
    rw [e]; simp; omega
  · have e : ¬ (b &&& 192 = 128) := fun h => hc (this.1 h)
    have d : decide (128 ≤ (b : Int) ∧ (b : Int) < 192) = false := by simp; omega
    rw [d]
    simp only [Bool.not_false, bne_iff_ne, ne_eq]
    omega

theorem size_cut (s : ByteArray) (e : Nat) (h : e ≤ s.size) : (s.extract 0 e).size = e := by simp; omega
theorem byt_cut (s : ByteArray) (e i : Nat) (h : e ≤ s.size) (hi : i < e) : byt (s.extract 0 e) i = byt s i := by
  have hs := size_cut s e h
  unfold byt
  rw [dif_pos (by omega), dif_pos (by omega)]
  simp [ByteArray.getElem_extract]
theorem conts_size (s : ByteArray) (a : Nat) : ∀ k, 0 < k → conts s a k = true → a + k ≤ s.size := by
  intro k hk h
  match k, hk with
  | k + 1, _ =>
    simp only [conts, Bool.and_eq_true, decide_eq_true_eq] at h
    omega
theorem conts_cut (s : ByteArray) (e a : Nat) (h : e ≤ s.size) : ∀ k, a + k ≤ e → conts (s.extract 0 e) a k = conts s a k := by
  intro k
  induction k with
  | zero => intro _; rfl
  | succ k ih =>
    intro hk
    simp only [conts]
    rw [ih (by omega), byt_cut s e (a + k) h (by omega), size_cut s e h]
    congr 1
    rw [Bool.eq_iff_iff]; simp only [decide_eq_true_eq]; omega
theorem acc_cut (s : ByteArray) (e a : Nat) (p : Int) (h : e ≤ s.size) : ∀ k, a + k ≤ e → acc (s.extract 0 e) a p k = acc s a p k := by
  intro k
  induction k with
  | zero => intro _; rfl
  | succ k ih =>
    intro hk
    simp only [acc]
    rw [ih (by omega), byt_cut s e (a + k) h (by omega)]
theorem decIs_lead {s : ByteArray} {a : Nat} (h : decIs s a = true) : leadN (byt s a) ≠ 0 ∧ conts s (a + 1) (leadN (byt s a) - 1) = true := by
  simp only [decIs, Bool.and_eq_true, decide_eq_true_eq] at h
  exact ⟨h.1.1.1, h.1.1.2⟩
/-- It lies in the text. -/
theorem dec_in {s : ByteArray} {a : Nat} (ha : a < s.size) (h : decIs s a = true) : a + leadN (byt s a) ≤ s.size := by
  have h1 := (decIs_lead h).1
  have h2 := (decIs_lead h).2
  by_cases e : leadN (byt s a) = 1
  · omega
  · have := conts_size s (a + 1) _ (by omega) h2
    omega
theorem dec_cut {s : ByteArray} {a e : Nat} (h : e ≤ s.size) (ha : a + leadN (byt s a) ≤ e) (h0 : leadN (byt s a) ≠ 0) : decIs (s.extract 0 e) a = decIs s a := by
  unfold decIs
  rw [byt_cut s e a h (by omega), conts_cut s e (a + 1) h _ (by omega), acc_cut s e (a + 1) _ h _ (by omega)]
theorem decP_cut {s : ByteArray} {a e : Nat} (h : e ≤ s.size) (ha : a + leadN (byt s a) ≤ e) (h0 : leadN (byt s a) ≠ 0) : decP (s.extract 0 e) a = decP s a ∧ decN (s.extract 0 e) a = decN s a := by
  unfold decP decN
  rw [dec_cut h ha h0, byt_cut s e a h (by omega), acc_cut s e (a + 1) _ h _ (by omega)]
  exact ⟨rfl, rfl⟩
theorem decN_eq (s : ByteArray) (a : Nat) : (decIs s a = true ∧ decN s a = leadN (byt s a) ∧ leadN (byt s a) ≠ 0) ∨ (decIs s a = false ∧ decN s a = 0 ∧ decP s a = 0) := by
  cases h : decIs s a
  · exact .inr ⟨rfl, by simp [decN, h], by simp [decP, h]⟩
  · exact .inl ⟨rfl, by simp [decN, h], (decIs_lead h).1⟩
/-- Are the bytes from a place on a text? -/
def txF (s : ByteArray) : Nat → Nat → Bool
  | 0, _ => true
  | f + 1, a => if a < s.size then decIs s a && txF s f (a + leadN (byt s a)) else true
def isTx (s : ByteArray) : Bool := txF s s.size 0
theorem txF_step {s : ByteArray} {f a : Nat} (h : a < s.size) (hf : s.size - a ≤ f) : txF s f a = (decIs s a && txF s (f - 1) (a + leadN (byt s a))) := by
  match f, hf with
  | 0, hf => exact absurd hf (by omega)
  | f + 1, _ => simp only [txF]; rw [if_pos h]; rfl
theorem txF_end {s : ByteArray} {f a : Nat} (h : s.size ≤ a) : txF s f a = true := by
  match f with
  | 0 => rfl
  | f + 1 => simp only [txF]; rw [if_neg (by omega)]
/-- What Check tells. -/
def ckE (s : ByteArray) : Int := if 16384 < s.size then 4 else if isTx s then 0 else 10
end Go.Proofs.Ytpiaofpglagfmaa
/- Plain facts on numbers for layer 2: what fits 64 bits, with its sign. No program in sight. -/
namespace Go.Proofs.Ytpiaofpglagfmaa.Nm
open Go.RowKit

/-- Does a number fit an int64? -/
def fits (z : Int) : Bool := decide (-9223372036854775808 ≤ z ∧ z ≤ 9223372036854775807)
/-- What comes of a number: itself or 0. -/
def val (z : Int) : Int := if fits z then z else 0
/-- Its error: none or 20. -/
def err (z : Int) : Int := if fits z then 0 else 20
/-- A sign and a size. -/
def sv (s m : Int) : Int := if s = 0 then -m else m

theorem fits_yes {z : Int} (h0 : -9223372036854775808 ≤ z) (h1 : z ≤ 9223372036854775807) : fits z = true := by unfold fits; simp; omega
theorem fits_no {z : Int} (h : z < -9223372036854775808 ∨ 9223372036854775807 < z) : fits z = false := by unfold fits; simp; omega
theorem val_yes {z : Int} (h0 : -9223372036854775808 ≤ z) (h1 : z ≤ 9223372036854775807) : val z = z := by unfold val; rw [fits_yes h0 h1]; rfl
theorem err_yes {z : Int} (h0 : -9223372036854775808 ≤ z) (h1 : z ≤ 9223372036854775807) : err z = 0 := by unfold err; rw [fits_yes h0 h1]; rfl
theorem val_no {z : Int} (h : z < -9223372036854775808 ∨ 9223372036854775807 < z) : val z = 0 := by unfold val; rw [fits_no h]; rfl
theorem err_no {z : Int} (h : z < -9223372036854775808 ∨ 9223372036854775807 < z) : err z = 20 := by unfold err; rw [fits_no h]; rfl
theorem fits_cases (z : Int) : (-9223372036854775808 ≤ z ∧ z ≤ 9223372036854775807 ∧ val z = z ∧ err z = 0) ∨ ((z < -9223372036854775808 ∨ 9223372036854775807 < z) ∧ val z = 0 ∧ err z = 20) := by
  by_cases h : -9223372036854775808 ≤ z ∧ z ≤ 9223372036854775807
  · exact .inl ⟨h.1, h.2, val_yes h.1 h.2, err_yes h.1 h.2⟩
  · have h' : z < -9223372036854775808 ∨ 9223372036854775807 < z := by omega
    exact .inr ⟨h', val_no h', err_no h'⟩
theorem val_range (z : Int) : -9223372036854775808 ≤ val z ∧ val z ≤ 9223372036854775807 := by
  rcases fits_cases z with ⟨h0, h1, h2, _⟩ | ⟨_, h2, _⟩ <;> rw [h2] <;> omega
theorem err_two (z : Int) : err z = 0 ∨ err z = 20 := by rcases fits_cases z with ⟨_, _, _, h⟩ | ⟨_, _, h⟩ <;> simp [h]

theorem ret2 {k l : IntKind} {a b c d : Int} (h : a = b) (g : c = d) : Ending.returned (.tuple #[.int k a, .int l c]) = .returned (.tuple #[.int k b, .int l d]) := by rw [h, g]
theorem ret_bool {a b : Bool} (h : a = b) : Ending.returned (.bool a) = .returned (.bool b) := by rw [h]
theorem neg_wrap (n : Int) (h : -9223372036854775808 ≤ n) (hn : n < 0) : IntKind.u64.wrap (-IntKind.u64.wrap n) = -n := by
  rw [IntKind.wrap_u64, IntKind.wrap_u64]; omega
theorem back_wrap (m : Int) (h0 : 0 ≤ m) (h1 : m ≤ 9223372036854775808) : wrap64 (IntKind.u64.wrap (-m)) = -m := by
  rw [IntKind.wrap_u64]; unfold wrap64; omega
end Go.Proofs.Ytpiaofpglagfmaa.Nm
namespace Go.Proofs.Ytpiaofpglagfmaa.Nm
open Go.RowKit

/-- What the table of limits holds. -/
def Lim (w : World) : Prop := w.cell? ⟨0, 0, none⟩ = some (.int .u64 9223372036854775808) ∧ w.cell? ⟨0, 1, none⟩ = some (.int .u64 9223372036854775807)

theorem limit0 (w : World) (l : Lim w) : Calls Try.prog 56 #[.int .u8 0] w fun e w' => e = .returned (.int .u64 9223372036854775808) ∧ w = w' := by
  obtain ⟨l0, _⟩ := l
  go_enter Try.func56, Try.ntmps56
  go_wp2
  go_ret
  exact ⟨rfl, rfl⟩
theorem limit1 (w : World) (l : Lim w) : Calls Try.prog 56 #[.int .u8 1] w fun e w' => e = .returned (.int .u64 9223372036854775807) ∧ w = w' := by
  obtain ⟨_, l1⟩ := l
  go_enter Try.func56, Try.ntmps56
  go_wp2
  go_ret
  exact ⟨rfl, rfl⟩
theorem add64_run (x y : Int) (hx : 0 ≤ x) (hy : 0 ≤ y) (w : World) : (callFunc 54 #[.int .u64 x, .int .u64 y, .int .u64 0]).run Try.prog w = .ok (.value (.tuple #[.int .u64 ((x + y) % 18446744073709551616), .int .u64 ((x + y) / 18446744073709551616)])) w := by
  rw [run_callFunc_extern Try.func54 (by kernel_rfl) (by kernel_rfl) (by kernel_rfl) (e := add64Entry) (by kernel_rfl), run_add64 x y 0 hx hy (by omega) (by omega)]
  simp only [Result.andThen, Int.add_zero]

theorem join_any (s m : Int) (w : World) (l : Lim w) (hs : s = 0 ∨ s = 1) (h0 : 0 ≤ m) (h1 : m < 18446744073709551616) :
    Calls Try.prog 55 #[.int .u8 s, .int .u64 m] w fun e w' => e = .returned (.tuple #[.int .i64 (val (sv s m)), .int .i64 (err (sv s m))]) ∧ w = w' := by
  rcases hs with rfl | rfl
  · by_cases h : m ≤ 9223372036854775808
    · go_enter Try.func55, Try.ntmps55
      go_wp2_with (go_at_call 56; refine (limit0 _ l).mono ?_; rintro e w' ⟨rfl, rfl⟩)
      go_ret2
      have hz : sv 0 m = -m := by simp [sv]
      exact ⟨ret2 (by rw [hz, back_wrap m h0 h, val_yes (by omega) (by omega)]) (by rw [hz, err_yes (by omega) (by omega)]), rfl⟩
    · go_enter Try.func55, Try.ntmps55
      go_wp2_with (go_at_call 56; refine (limit0 _ l).mono ?_; rintro e w' ⟨rfl, rfl⟩)
      go_ret2
      have hz : sv 0 m = -m := by simp [sv]
      exact ⟨ret2 (by rw [hz, val_no (by omega)]) (by rw [hz, err_no (by omega)]), rfl⟩
  · by_cases h : m ≤ 9223372036854775807
    · go_enter Try.func55, Try.ntmps55
      go_wp2_with (go_at_call 56; refine (limit1 _ l).mono ?_; rintro e w' ⟨rfl, rfl⟩)
      go_ret2
      have hz : sv 1 m = m := by simp [sv]
      exact ⟨ret2 (by rw [hz, val_yes (by omega) (by omega)]) (by rw [hz, err_yes (by omega) (by omega)]), rfl⟩
    · go_enter Try.func55, Try.ntmps55
      go_wp2_with (go_at_call 56; refine (limit1 _ l).mono ?_; rintro e w' ⟨rfl, rfl⟩)
      go_ret2
      have hz : sv 1 m = m := by simp [sv]
      exact ⟨ret2 (by rw [hz, val_no (by omega)]) (by rw [hz, err_no (by omega)]), rfl⟩

end Go.Proofs.Ytpiaofpglagfmaa.Nm
/- Plain facts for layer 2: digits and what they tell. No program in sight. -/
namespace Go.Proofs.Ytpiaofpglagfmaa.Nm
open Go.RowKit

/-- The byte at a place; 0 behind the end. -/
def byt (s : ByteArray) (i : Nat) : Int := if h : i < s.size then (s[i].toNat : Int) else 0
theorem byt_range (s : ByteArray) (i : Nat) : 0 ≤ byt s i ∧ byt s i < 256 := by
  unfold byt; split
  · have := UInt8.toNat_lt s[i]; omega
  · omega
theorem byt_eq (s : ByteArray) (i : Nat) (h : i < s.size) : (s[i].toNat : Int) = byt s i := by simp [byt, h]
/-- Are the first k bytes digits? -/
def allD (s : ByteArray) : Nat → Bool
  | 0 => true
  | k + 1 => allD s k && decide (48 ≤ byt s k ∧ byt s k ≤ 57)
/-- Are they 0, or digits the first of which is not 0? -/
def areD (s : ByteArray) : Bool := decide (0 < s.size) && !(decide (byt s 0 = 48) && decide (s.size ≠ 1)) && allD s s.size
/-- What the first k digits tell. -/
def valD (s : ByteArray) : Nat → Int
  | 0 => 0
  | k + 1 => valD s k * 10 + (byt s k - 48)
theorem allD_mono (s : ByteArray) : ∀ k j, j ≤ k → allD s k = true → allD s j = true := by
  intro k
  induction k with
  | zero => intro j hj h; rw [Nat.le_zero.1 hj]; exact h
  | succ k ih =>
    intro j hj h
    by_cases e : j = k + 1
    · rw [e]; exact h
    · simp only [allD, Bool.and_eq_true] at h
      exact ih j (by omega) h.1
theorem allD_byte (s : ByteArray) (k j : Nat) (hj : j < k) (h : allD s k = true) : 48 ≤ byt s j ∧ byt s j ≤ 57 := by
  have := allD_mono s k (j + 1) hj h
  simp only [allD, Bool.and_eq_true, decide_eq_true_eq] at this
  exact this.2
theorem valD_nonneg (s : ByteArray) : ∀ k, allD s k = true → 0 ≤ valD s k := by
  intro k
  induction k with
  | zero => intro _; exact Int.le_refl _
  | succ k ih =>
    intro h
    simp only [allD, Bool.and_eq_true, decide_eq_true_eq] at h
    have := ih h.1
    simp only [valD]; omega
theorem valD_mono (s : ByteArray) : ∀ k j, j ≤ k → allD s k = true → valD s j ≤ valD s k := by
  intro k
  induction k with
  | zero => intro j hj _; rw [Nat.le_zero.1 hj]; exact Int.le_refl _
  | succ k ih =>
    intro j hj h
    by_cases e : j = k + 1
    · rw [e]; exact Int.le_refl _
    · have h' := h
      simp only [allD, Bool.and_eq_true, decide_eq_true_eq] at h'
      have h1 := ih j (by omega) h'.1
      have h2 := valD_nonneg s k h'.1
      simp only [valD]; omega
theorem areD_parts {s : ByteArray} (h : areD s = true) : 0 < s.size ∧ (byt s 0 = 48 → s.size = 1) ∧ allD s s.size = true := by
  simp only [areD, Bool.and_eq_true, decide_eq_true_eq, Bool.not_eq_true', Bool.and_eq_false_iff, decide_eq_false_iff_not] at h
  refine ⟨h.1.1, fun hb => ?_, h.2⟩
  rcases h.1.2 with g | g
  · exact absurd hb g
  · exact Classical.not_not.1 g
theorem list_one (s : ByteArray) (h0 : 0 < s.size) (hb : byt s 0 = 48) : (s.toList == [48]) = decide (s.size = 1) := by
  rw [Lib.toList_data, Bool.eq_iff_iff, beq_iff_eq, decide_eq_true_eq, Lib.size_eq]
  constructor
  · intro h; rw [h]; rfl
  · intro h
    have h1 : 0 < s.data.toList.length := by omega
    obtain ⟨x, hx⟩ := List.length_eq_one_iff.1 h
    have e0 : s[0]'h0 = x := by
      have : s.data.toList[0]'h1 = x := by simp [hx]
      rw [← this]; rfl
    rw [hx]
    have := byt_eq s 0 h0
    rw [hb, e0] at this
    have hx : x = 48 := UInt8.toNat_inj.1 (by have h48 : (48 : UInt8).toNat = 48 := rfl; omega)
    rw [hx]
theorem list_empty (s : ByteArray) : s.toList.isEmpty = decide (s.size = 0) := by
  rw [Lib.toList_data, Bool.eq_iff_iff, decide_eq_true_eq, Lib.size_eq, List.isEmpty_iff, List.length_eq_zero_iff]
/-- The text without a leading '-', and whether it has one. -/
def isNeg (s : ByteArray) : Bool := decide (0 < s.size) && decide (byt s 0 = 45)
def bare (s : ByteArray) : ByteArray := if isNeg s then s.extract 1 s.size else s
def sgn (s : ByteArray) : Int := if isNeg s then 0 else 1
/-- What Read tells: a number, and an error. -/
def rdZ (s : ByteArray) : Int := sv (sgn s) (valD (bare s) (bare s).size)
def rdV (s : ByteArray) : Int := if areD (bare s) then val (rdZ s) else 0
def rdE (s : ByteArray) : Int := if areD (bare s) then err (rdZ s) else 21
end Go.Proofs.Ytpiaofpglagfmaa.Nm
namespace Go.Proofs.Ytpiaofpglagfmaa.Nm
open Go.RowKit

theorem digits_any (s : ByteArray) (w : World) (hs : s.size ≤ maxLen) :
    Calls Try.prog 52 #[.string s] w fun e w' => e = .returned (.bool (areD s)) ∧ w = w' := by
  unfold maxLen at hs
  by_cases h0 : s.size = 0
  · have he : s.toList.isEmpty = true := by rw [list_empty]; simp [h0]
    have hr : Hid (areD s = false) := Lib.hid (by unfold areD; simp [h0])
    clear h0
    go_enter Try.func52, Try.ntmps52
    go_wp2_with fail
    go_ret
    exact ⟨ret_bool hr.out.symm, rfl⟩
  · have he : s.toList.isEmpty = false := by rw [list_empty]; simp [h0]
    have hpos : 0 < s.size := by omega
    have hb0 := byt_eq s 0 hpos
    by_cases hz : byt s 0 = 48 ∧ s.size ≠ 1
    · have hr : Hid (areD s = false) := Lib.hid (by unfold areD; simp [hz.1, hz.2])
      have hl : (s.toList == [48]) = false := by rw [list_one s hpos hz.1]; simp [hz.2]
      have ht : ((s[0].toNat : Int) == 48) = true := by rw [hb0, hz.1]; rfl
      clear h0 hz hb0
      go_enter Try.func52, Try.ntmps52
      go_wp2_with fail
      go_ret
      exact ⟨ret_bool hr.out.symm, rfl⟩
    · have hr : areD s = allD s s.size := by
        unfold areD
        by_cases hb : byt s 0 = 48
        · have : s.size = 1 := by omega
          simp [hb, this]
        · simp [hb, hpos]
      have HR := Lib.hid hr
      clear hr
      have htest : ((s[0].toNat : Int) == 48) = false ∨ ((s[0].toNat : Int) == 48) = true ∧ (s.toList == [48]) = true := by
        rw [hb0]
        by_cases hb : byt s 0 = 48
        · right; rw [list_one s hpos hb, hb]; simp; omega
        · left; simp [hb]
      clear h0 hz hb0
      rcases htest with ht | ⟨ht, hl⟩
      all_goals
        go_enter Try.func52, Try.ntmps52
        go_wp2_with fail
        go_loopw [2, 3] (fun b i wr => ∃ k : Nat, k ≤ s.size ∧ i = .int .i64 k ∧ b = .bool false ∧ allD s k = true ∧ w = wr) (fun _ i _ => s.size - (intOf i).toNat)
        case atStart => exact ⟨0, by omega, rfl, rfl, rfl, rfl⟩
        case round =>
          obtain ⟨k, hk, rfl, rfl, ha, rfl⟩ := hrel
          by_cases hlt : k < s.size
          · have hbk := byt_eq s k hlt
            by_cases h1 : byt s k < 48
            · have hf : Hid (allD s s.size = false) := Lib.hid (by
                cases hh : allD s s.size
                · rfl
                · have := allD_byte s _ k hlt hh; omega)
              have ht1 : (s[k].toNat : Int) < 48 := by omega
              clear ha hbk h1
              go_wp2_with fail
              go_ret
              exact ⟨ret_bool (by rw [HR.out, hf.out]), rfl⟩
            · by_cases h2 : 57 < byt s k
              · have hf : Hid (allD s s.size = false) := Lib.hid (by
                  cases hh : allD s s.size
                  · rfl
                  · have := allD_byte s _ k hlt hh; omega)
                have ht1 : ¬ (s[k].toNat : Int) < 48 := by omega
                have ht2 : 57 < (s[k].toNat : Int) := by omega
                clear ha hbk h1 h2
                go_wp2_with fail
                go_ret
                exact ⟨ret_bool (by rw [HR.out, hf.out]), rfl⟩
              · have hf : Hid (allD s (k + 1) = true) := Lib.hid (by simp only [allD, ha, Bool.true_and, decide_eq_true_eq]; omega)
                have ht1 : ¬ (s[k].toNat : Int) < 48 := by omega
                have ht2 : ¬ 57 < (s[k].toNat : Int) := by omega
                clear ha hbk h1 h2
                go_wp2_with fail
                go_roundw
                case rel => exact ⟨k + 1, by omega, by go_num, rfl, hf.out, trivial⟩
                case measure => simp [intOf]; omega
          · obtain rfl : k = s.size := by omega
            have HA := Lib.hid ha
            clear ha
            go_wp2_with fail
            go_ret
            exact ⟨ret_bool (by rw [HR.out, HA.out]), rfl⟩
end Go.Proofs.Ytpiaofpglagfmaa.Nm
namespace Go.Proofs.Ytpiaofpglagfmaa.Nm
open Go.RowKit

theorem mul10 (n : Int) (w : World) (h0 : 0 ≤ n) (h1 : n < 18446744073709551616) :
    Calls Try.prog 53 #[.int .u64 n, .int .u64 10] w fun e w' => e = .returned (.tuple #[.int .u64 (n * 10 / 18446744073709551616), .int .u64 (n * 10 % 18446744073709551616)]) ∧ w = w' := by
  obtain ⟨m, rfl⟩ := Int.eq_ofNat_of_zero_le h0
  refine (Try.bits_Mul64 m 10 (by omega) (by omega) w).mono ?_
  rintro e w' ⟨rfl, rfl⟩
  exact ⟨ret2 (by omega) (by omega), rfl⟩

theorem size_tail (s : ByteArray) (_h : 0 < s.size) : (s.extract 1 s.size).size = s.size - 1 := by simp

set_option maxHeartbeats 1000000 in
/-- From the digits on: what stands behind a sign. -/
theorem read_rest (s : ByteArray) (w : World) (l : Lim w) (hs : s.size ≤ maxLen) :
    Calls Try.prog 51 #[.string s] w fun e w' => e = .returned (.tuple #[.int .i64 (rdV s), .int .i64 (rdE s)]) ∧ Below w.heap.size w w' := by
  have hm := hs
  unfold maxLen at hm
  cases hn : isNeg s
  · have ht : bare s = s := by unfold bare; rw [hn]; rfl
    have hsg : sgn s = 1 := by unfold sgn; rw [hn]; rfl
    have HT := Lib.hid ht
    have HS := Lib.hid hsg
    by_cases h0 : s.size = 0
    · have he : s.toList.isEmpty = true := by rw [list_empty]; simp [h0]
      have hD : Hid (areD s = false) := Lib.hid (by unfold areD; simp [h0])
      clear h0 hn ht hsg
      go_enter Try.func51, Try.ntmps51
      go_wp2_with fail
      refine (digits_any s _ hs).mono ?_
      rintro e w' ⟨rfl, rfl⟩
      rw [hD.out]
      go_wp2_with fail
      go_ret2
      exact ⟨ret2 (by unfold rdV; rw [HT.out, hD.out]; rfl) (by unfold rdE; rw [HT.out, hD.out]; rfl), Below.refl _ _⟩
    · have he : s.toList.isEmpty = false := by rw [list_empty]; simp [h0]
      have hpos : 0 < s.size := by omega
      have hb0 := byt_eq s 0 hpos
      have h45 : ((s[0].toNat : Int) == 45) = false := by
        rw [hb0]
        unfold isNeg at hn
        simp only [hpos, decide_true, Bool.true_and, decide_eq_false_iff_not] at hn
        simp [hn]
      clear h0 hn ht hsg hb0
      go_enter Try.func51, Try.ntmps51
      go_wp2_with fail
      refine (digits_any s _ hs).mono ?_
      rintro e w' ⟨rfl, rfl⟩
      cases hd : areD s
      · have hD := Lib.hid hd
        clear hd
        go_wp2_with fail
        go_ret2
        exact ⟨ret2 (by unfold rdV; rw [HT.out, hD.out]; rfl) (by unfold rdE; rw [HT.out, hD.out]; rfl), Below.refl _ _⟩
      · have hD := Lib.hid hd
        have hall := (areD_parts hd).2.2
        have hV : rdV s = val (sv 1 (valD s (s).size)) := by unfold rdV rdZ; rw [HT.out, HS.out, hd]; rfl
        have hE : rdE s = err (sv 1 (valD s (s).size)) := by unfold rdE rdZ; rw [HT.out, HS.out, hd]; rfl
        have HV := Lib.hid hV
        have HE := Lib.hid hE
        have HA := Lib.hid hall
        clear hd hall hV hE
        go_wp2_with fail
        go_loopw [6, 7] (fun z i wr => ∃ k : Nat, k ≤ (s).size ∧ i = .int .i64 k ∧ z = .int .u64 (valD s k) ∧ valD s k < 18446744073709551616 ∧ w = wr) (fun _ i _ => (s).size - (intOf i).toNat)
        case atStart => exact ⟨0, Nat.zero_le _, rfl, rfl, (by decide : (0 : Int) < 18446744073709551616), rfl⟩
        case round =>
          obtain ⟨k, hk, rfl, rfl, hb, rfl⟩ := hrel
          have hnn : 0 ≤ valD s k := valD_nonneg _ k (allD_mono _ _ k hk HA.out)
          by_cases hlt : k < (s).size
          · have hby := allD_byte _ _ k hlt HA.out
            have hbe := byt_eq _ k hlt
            have hmo := valD_mono _ _ (k + 1) hlt HA.out
            have hst : valD s (k + 1) = valD s k * 10 + (byt s k - 48) := rfl
            rw [hst] at hmo
            rw [← hbe] at hby hmo hst
            have hbig : 9223372036854775808 < valD s (s).size → val (sv 1 (valD s (s).size)) = 0 ∧ err (sv 1 (valD s (s).size)) = 20 := by
              intro h
              have : sv 1 (valD s (s).size) < -9223372036854775808 ∨ 9223372036854775807 < sv 1 (valD s (s).size) := by simp [sv]; omega
              exact ⟨val_no this, err_no this⟩
            have HB := Lib.hid hbig
            have HST := Lib.hid hst
            have hw : IntKind.u8.wrap (((s)[k].toNat : Int) - 48) = ((s)[k].toNat : Int) - 48 := by rw [IntKind.wrap_u8]; omega
            have b0 := hby.1
            have b1 := hby.2
            clear hst hbe hbig hby hw
            by_cases hc1 : valD s k * 10 < 18446744073709551616
            · have ha := add64_run (valD s k * 10) (((s)[k].toNat : Int) - 48) (by omega) (by omega) w
              by_cases hc2 : valD s k * 10 + (((s)[k].toNat : Int) - 48) < 18446744073709551616
              · rw [Int.emod_eq_of_lt (by omega) hc2, Int.ediv_eq_zero_of_lt (by omega) hc2] at ha
                go_wp2_with fail
                refine (mul10 _ _ hnn hb).mono ?_
                rintro e w' ⟨rfl, rfl⟩
                rw [Int.emod_eq_of_lt (by omega) hc1, Int.ediv_eq_zero_of_lt (by omega) hc1]
                go_wp2_with fail
                go_roundw
                case rel => exact ⟨k + 1, hlt, by go_num, by rw [HST.out], by rw [HST.out]; exact hc2, trivial⟩
                case measure => simp [intOf]; omega
              · have e1 : (valD s k * 10 + (((s)[k].toNat : Int) - 48)) / 18446744073709551616 = 1 := by omega
                rw [e1] at ha
                have hz := Lib.hid (HB.out (by omega))
                clear e1
                go_wp2_with fail
                refine (mul10 _ _ hnn hb).mono ?_
                rintro e w' ⟨rfl, rfl⟩
                rw [Int.emod_eq_of_lt (by omega) hc1, Int.ediv_eq_zero_of_lt (by omega) hc1]
                go_wp2_with fail
                go_ret2
                exact ⟨ret2 (by rw [HV.out, hz.out.1]) (by rw [HE.out, hz.out.2]), Below.refl _ _⟩
            · have hz := Lib.hid (HB.out (by omega))
              have hq : ((valD s k * 10 / 18446744073709551616) != 0) = true := by simp; omega
              have r0 : 0 ≤ valD s k * 10 % 18446744073709551616 := by omega
              have ha := add64_run (valD s k * 10 % 18446744073709551616) (((s)[k].toNat : Int) - 48) r0 (by omega) w
              go_wp2_with fail
              refine (mul10 _ _ hnn hb).mono ?_
              rintro e w' ⟨rfl, rfl⟩
              go_wp2_with fail
              go_ret2
              exact ⟨ret2 (by rw [HV.out, hz.out.1]) (by rw [HE.out, hz.out.2]), Below.refl _ _⟩
          · obtain rfl : k = (s).size := by omega
            go_wp2_with fail
            refine (join_any 1 _ _ l (by omega) hnn hb).mono ?_
            rintro e w' ⟨rfl, rfl⟩
            go_wp2_with fail
            go_ret2
            exact ⟨ret2 HV.out.symm HE.out.symm, Below.refl _ _⟩
  · have ht : bare s = s.extract 1 s.size := by unfold bare; rw [hn]; rfl
    have hsg : sgn s = 0 := by unfold sgn; rw [hn]; rfl
    have hpos : 0 < s.size := by
      unfold isNeg at hn
      simp only [Bool.and_eq_true, decide_eq_true_eq] at hn
      exact hn.1
    have hb0 := byt_eq s 0 hpos
    have h45 : ((s[0].toNat : Int) == 45) = true := by
      rw [hb0]
      unfold isNeg at hn
      simp only [Bool.and_eq_true, decide_eq_true_eq] at hn
      rw [hn.2]; rfl
    have he : s.toList.isEmpty = false := by rw [list_empty, decide_eq_false_iff_not]; omega
    have HT := Lib.hid ht
    have HS := Lib.hid hsg
    clear hn ht hsg hb0
    go_enter Try.func51, Try.ntmps51
    go_wp2_with fail
    go_quiet (fail)
    go_wp2_with fail
    have ld : Lim (w.drewN nq) := by obtain ⟨l0, l1⟩ := l; exact ⟨by simpa using l0, by simpa using l1⟩
    have hts : (s.extract 1 s.size).size ≤ maxLen := by rw [size_tail s hpos]; omega
    have htm : (s.extract 1 s.size).size ≤ 9223372036854775807 := by rw [size_tail s hpos]; omega
    generalize s.extract 1 s.size = t at *
    refine (digits_any t _ hts).mono ?_
    rintro e w' ⟨rfl, rfl⟩
    cases hd : areD t
    · have hD := Lib.hid hd
      clear hd
      go_wp2_with fail
      go_ret2
      exact ⟨ret2 (by unfold rdV; rw [HT.out, hD.out]; rfl) (by unfold rdE; rw [HT.out, hD.out]; rfl), below_drewN (Below.refl _ _) _⟩
    · have hD := Lib.hid hd
      have hall := (areD_parts hd).2.2
      have hV : rdV s = val (sv 0 (valD t (t).size)) := by unfold rdV rdZ; rw [HT.out, HS.out, hd]; rfl
      have hE : rdE s = err (sv 0 (valD t (t).size)) := by unfold rdE rdZ; rw [HT.out, HS.out, hd]; rfl
      have HV := Lib.hid hV
      have HE := Lib.hid hE
      have HA := Lib.hid hall
      clear hd hall hV hE
      go_wp2_with fail
      go_loopw [6, 7] (fun z i wr => ∃ k : Nat, k ≤ (t).size ∧ i = .int .i64 k ∧ z = .int .u64 (valD t k) ∧ valD t k < 18446744073709551616 ∧ (w.drewN nq) = wr) (fun _ i _ => (t).size - (intOf i).toNat)
      case atStart => exact ⟨0, Nat.zero_le _, rfl, rfl, (by decide : (0 : Int) < 18446744073709551616), rfl⟩
      case round =>
        obtain ⟨k, hk, rfl, rfl, hb, rfl⟩ := hrel
        have hnn : 0 ≤ valD t k := valD_nonneg _ k (allD_mono _ _ k hk HA.out)
        by_cases hlt : k < (t).size
        · have hby := allD_byte _ _ k hlt HA.out
          have hbe := byt_eq _ k hlt
          have hmo := valD_mono _ _ (k + 1) hlt HA.out
          have hst : valD t (k + 1) = valD t k * 10 + (byt t k - 48) := rfl
          rw [hst] at hmo
          rw [← hbe] at hby hmo hst
          have hbig : 9223372036854775808 < valD t (t).size → val (sv 0 (valD t (t).size)) = 0 ∧ err (sv 0 (valD t (t).size)) = 20 := by
            intro h
            have : sv 0 (valD t (t).size) < -9223372036854775808 ∨ 9223372036854775807 < sv 0 (valD t (t).size) := by simp [sv]; omega
            exact ⟨val_no this, err_no this⟩
          have HB := Lib.hid hbig
          have HST := Lib.hid hst
          have hw : IntKind.u8.wrap (((t)[k].toNat : Int) - 48) = ((t)[k].toNat : Int) - 48 := by rw [IntKind.wrap_u8]; omega
          have b0 := hby.1
          have b1 := hby.2
          clear hst hbe hbig hby hw
          by_cases hc1 : valD t k * 10 < 18446744073709551616
          · have ha := add64_run (valD t k * 10) (((t)[k].toNat : Int) - 48) (by omega) (by omega) (w.drewN nq)
            by_cases hc2 : valD t k * 10 + (((t)[k].toNat : Int) - 48) < 18446744073709551616
            · rw [Int.emod_eq_of_lt (by omega) hc2, Int.ediv_eq_zero_of_lt (by omega) hc2] at ha
              go_wp2_with fail
              refine (mul10 _ _ hnn hb).mono ?_
              rintro e w' ⟨rfl, rfl⟩
              rw [Int.emod_eq_of_lt (by omega) hc1, Int.ediv_eq_zero_of_lt (by omega) hc1]
              go_wp2_with fail
              go_roundw
              case rel => exact ⟨k + 1, hlt, by go_num, by rw [HST.out], by rw [HST.out]; exact hc2, trivial⟩
              case measure => simp [intOf]; omega
            · have e1 : (valD t k * 10 + (((t)[k].toNat : Int) - 48)) / 18446744073709551616 = 1 := by omega
              rw [e1] at ha
              have hz := Lib.hid (HB.out (by omega))
              clear e1
              go_wp2_with fail
              refine (mul10 _ _ hnn hb).mono ?_
              rintro e w' ⟨rfl, rfl⟩
              rw [Int.emod_eq_of_lt (by omega) hc1, Int.ediv_eq_zero_of_lt (by omega) hc1]
              go_wp2_with fail
              go_ret2
              exact ⟨ret2 (by rw [HV.out, hz.out.1]) (by rw [HE.out, hz.out.2]), below_drewN (Below.refl _ _) _⟩
          · have hz := Lib.hid (HB.out (by omega))
            have hq : ((valD t k * 10 / 18446744073709551616) != 0) = true := by simp; omega
            have r0 : 0 ≤ valD t k * 10 % 18446744073709551616 := by omega
            have ha := add64_run (valD t k * 10 % 18446744073709551616) (((t)[k].toNat : Int) - 48) r0 (by omega) (w.drewN nq)
            go_wp2_with fail
            refine (mul10 _ _ hnn hb).mono ?_
            rintro e w' ⟨rfl, rfl⟩
            go_wp2_with fail
            go_ret2
            exact ⟨ret2 (by rw [HV.out, hz.out.1]) (by rw [HE.out, hz.out.2]), below_drewN (Below.refl _ _) _⟩
        · obtain rfl : k = (t).size := by omega
          go_wp2_with fail
          refine (join_any 0 _ _ ld (by omega) hnn hb).mono ?_
          rintro e w' ⟨rfl, rfl⟩
          go_wp2_with fail
          go_ret2
          exact ⟨ret2 HV.out.symm HE.out.symm, below_drewN (Below.refl _ _) _⟩

end Go.Proofs.Ytpiaofpglagfmaa.Nm
namespace Go.Proofs.Ytpiaofpglagfmaa
open Go.RowKit

theorem ret2 {k l : IntKind} {a b c d : Int} (h : a = b) (g : c = d) : Ending.returned (.tuple #[.int k a, .int l c]) = .returned (.tuple #[.int k b, .int l d]) := by rw [h, g]
theorem ret_int {k : IntKind} {a b : Int} (h : a = b) : Ending.returned (.int k a) = .returned (.int k b) := by rw [h]
theorem ret_bool {a b : Bool} (h : a = b) : Ending.returned (.bool a) = .returned (.bool b) := by rw [h]
theorem ret_ib {a b : Int} {c d : Bool} (h : a = b) (g : c = d) : Ending.returned (.tuple #[.int .i64 a, .bool c]) = .returned (.tuple #[.int .i64 b, .bool d]) := by rw [h, g]

theorem lead_any (b : Int) (w : World) (h0 : 0 ≤ b) (hb : b < 256) :
    Calls Try.prog 26 #[.int .i64 b] w fun e w' => e = .returned (.tuple #[.int .i64 (leadN b), .int .i64 (leadB b)]) ∧ w = w' := by
  by_cases h1 : b < 128
  · go_enter Try.func26, Try.ntmps26
    go_wp2
    go_ret2
    exact ⟨ret2 (by unfold leadN; rw [if_pos (by omega)]; rfl) (by unfold leadB; rw [if_pos (by omega)]), rfl⟩
  by_cases h2 : b < 192
  · go_enter Try.func26, Try.ntmps26
    go_wp2
    go_ret2
    exact ⟨ret2 (by unfold leadN; rw [if_neg (by omega)]; rw [if_pos (by omega)]; rfl) (by unfold leadB; rw [if_neg (by omega)]; rw [if_pos (by omega)]), rfl⟩
  by_cases h3 : b < 224
  · go_enter Try.func26, Try.ntmps26
    go_wp2
    go_ret2
    exact ⟨ret2 (by unfold leadN; rw [if_neg (by omega)]; rw [if_neg (by omega)]; rw [if_pos (by omega)]; rfl) (by rw [and31 _ (by omega) (by omega)]; unfold leadB; rw [if_neg (by omega)]; rw [if_neg (by omega)]; rw [if_pos (by omega)]), rfl⟩
  by_cases h4 : b < 240
  · go_enter Try.func26, Try.ntmps26
    go_wp2
    go_ret2
    exact ⟨ret2 (by unfold leadN; rw [if_neg (by omega)]; rw [if_neg (by omega)]; rw [if_neg (by omega)]; rw [if_pos (by omega)]; rfl) (by rw [and15 _ (by omega) (by omega)]; unfold leadB; rw [if_neg (by omega)]; rw [if_neg (by omega)]; rw [if_neg (by omega)]; rw [if_pos (by omega)]), rfl⟩
  by_cases h5 : b < 248
  · go_enter Try.func26, Try.ntmps26
    go_wp2
    go_ret2
    exact ⟨ret2 (by unfold leadN; rw [if_neg (by omega)]; rw [if_neg (by omega)]; rw [if_neg (by omega)]; rw [if_neg (by omega)]; rw [if_pos (by omega)]; rfl) (by rw [and7 _ (by omega) (by omega)]; unfold leadB; rw [if_neg (by omega)]; rw [if_neg (by omega)]; rw [if_neg (by omega)]; rw [if_neg (by omega)]; rw [if_pos (by omega)]), rfl⟩
  · go_enter Try.func26, Try.ntmps26
    go_wp2
    go_ret2
    exact ⟨ret2 (by unfold leadN; rw [if_neg (by omega), if_neg (by omega), if_neg (by omega), if_neg (by omega), if_neg (by omega)]; rfl) (by unfold leadB; rw [if_neg (by omega), if_neg (by omega), if_neg (by omega), if_neg (by omega), if_neg (by omega)]), rfl⟩

theorem isPoint_any (p : Int) (w : World) :
    Calls Try.prog 27 #[.int .i64 p] w fun e w' => e = .returned (.bool (isPt p)) ∧ w = w' := by
  go_enter Try.func27, Try.ntmps27
  go_wp2
  all_goals
    go_ret
    refine ⟨ret_bool ?_, rfl⟩
    unfold isPt
    rw [Bool.eq_iff_iff]
    simp only [Bool.or_eq_true, decide_eq_true_eq, true_iff, Bool.false_eq_true, false_iff]
    omega
theorem sizeOf_any (p : Int) (w : World) :
    Calls Try.prog 28 #[.int .i64 p] w fun e w' => e = .returned (.int .i64 (szOf p)) ∧ w = w' := by
  by_cases h1 : p < 128
  · go_enter Try.func28, Try.ntmps28
    go_wp2
    go_ret
    exact ⟨ret_int (by unfold szOf; rw [if_pos h1]), rfl⟩
  by_cases h2 : p < 2048
  · go_enter Try.func28, Try.ntmps28
    go_wp2
    go_ret
    exact ⟨ret_int (by unfold szOf; rw [if_neg (by omega), if_pos h2]), rfl⟩
  by_cases h3 : p < 65536
  · go_enter Try.func28, Try.ntmps28
    go_wp2
    go_ret
    exact ⟨ret_int (by unfold szOf; rw [if_neg (by omega), if_neg (by omega), if_pos h3]), rfl⟩
  · go_enter Try.func28, Try.ntmps28
    go_wp2
    go_ret
    exact ⟨ret_int (by unfold szOf; rw [if_neg (by omega), if_neg (by omega), if_neg (by omega)]), rfl⟩

theorem next_yes (s : ByteArray) (i : Nat) (v : Int) (w : World) (pa ps : Addr) (hv : v = i) (ha : w.cell? pa = some (.int .i64 v)) (hs : w.cell? ps = some (.string s)) (hf : w.frozen? pa = false) (hlt : i < s.size) (hm : s.size ≤ maxLen) :
    Calls Try.prog 30 #[.pointer (some pa), .pointer (some ps)] w fun e w' => e = .returned (.tuple #[.int .i64 (byt s i), .bool true]) ∧ w.setCell pa (.int .i64 (v + 1)) = w' := by
  subst hv
  unfold maxLen at hm
  go_enter Try.func30, Try.ntmps30
  go_wp2
  go_ret2
  exact ⟨ret_ib (by rw [byt_eq]; have := byt_range s i; unfold wrap64; omega) rfl, rfl⟩
theorem next_no (s : ByteArray) (i : Nat) (v : Int) (w : World) (pa ps : Addr) (hv : v = i) (ha : w.cell? pa = some (.int .i64 v)) (hs : w.cell? ps = some (.string s)) (hlt : s.size ≤ i) :
    Calls Try.prog 30 #[.pointer (some pa), .pointer (some ps)] w fun e w' => e = .returned (.tuple #[.int .i64 0, .bool false]) ∧ w = w' := by
  subst hv
  go_enter Try.func30, Try.ntmps30
  go_wp2
  go_ret2
  exact ⟨rfl, rfl⟩
theorem walk_any (s : ByteArray) (i : Nat) (w : World) :
    Calls Try.prog 25 #[.string s, .int .i64 i] w fun e w' => e = .returned (.func (.func 30) #[] #[.pointer (some ⟨w.heap.size + 1, 0, none⟩), .pointer (some ⟨w.heap.size, 0, none⟩)]) ∧ (w.alloc (.cells #[.string s] 9)).alloc (.cells #[.int .i64 i] 3) = w' := by
  go_enter Try.func25, Try.ntmps25
  go_wp2
  go_ret
  exact ⟨rfl, rfl⟩

/-- A step of the loop: the new number, as the walk has it. -/
theorem acc_step (s : ByteArray) (a : Nat) (p : Int) (k : Nat) (h0 : 0 ≤ acc s a p k) (h1 : acc s a p k < 33554432) :
    bits .or .i64 (acc s a p k * 64) (bits .and .i64 (byt s (a + k)) 63) = acc s a p (k + 1) := by
  have hb := byt_range s (a + k)
  rw [and63 _ hb.1 (by omega), or6 _ _ h0 (by omega) (by omega) (by omega)]
  rfl
theorem dec_no {s : ByteArray} {a : Nat} (h : decIs s a = false) : decP s a = 0 ∧ decN s a = 0 := by simp [decP, decN, h]
theorem dec_yes {s : ByteArray} {a : Nat} (h : decIs s a = true) : decP s a = acc s (a + 1) (leadB (byt s a)) (leadN (byt s a) - 1) ∧ decN s a = leadN (byt s a) := by simp [decP, decN, h]
theorem conts_mono (s : ByteArray) (a : Nat) : ∀ k j, j ≤ k → conts s a k = true → conts s a j = true := by
  intro k
  induction k with
  | zero => intro j hj h; rw [Nat.le_zero.1 hj]; exact h
  | succ k ih =>
    intro j hj h
    by_cases e : j = k + 1
    · rw [e]; exact h
    · simp only [conts, Bool.and_eq_true] at h
      exact ih j (by omega) h.1
/-- A byte among the continuing ones that continues nothing: none begins. -/
theorem dec_bad {s : ByteArray} {a j : Nat} (hj : j + 1 < leadN (byt s a)) (h : ¬ (a + 1 + j < s.size ∧ 128 ≤ byt s (a + 1 + j) ∧ byt s (a + 1 + j) < 192)) : decIs s a = false := by
  by_cases hc : conts s (a + 1) (leadN (byt s a) - 1) = true
  · have := conts_mono s (a + 1) _ (j + 1) (by omega) hc
    simp only [conts, Bool.and_eq_true, decide_eq_true_eq] at this
    exact absurd this.2 h
  · simp [decIs, hc]

set_option maxHeartbeats 1000000 in
theorem decode_any (s : ByteArray) (a : Nat) (w : World) (hs : s.size ≤ maxLen) (ha : a < s.size) :
    Calls Try.prog 20 #[.string s, .int .i64 a] w fun e w' => e = .returned (.tuple #[.int .i64 (decP s a), .int .i64 (decN s a)]) ∧ Below w.heap.size w w' := by
  have hm := hs
  unfold maxLen at hm
  have hb := byt_range s a
  have hL := leadN_le (byt s a)
  have hB := leadB_range (byt s a) hb.1 hb.2
  obtain ⟨n, hn⟩ : ∃ n, n = leadN (byt s a) := ⟨_, rfl⟩
  obtain ⟨q, hq⟩ : ∃ q, q = leadB (byt s a) := ⟨_, rfl⟩
  have Hn := Lib.hid hn
  have Hq := Lib.hid hq
  have hrng := Lib.hid (acc_range s (a + 1) (leadB (byt s a)) hB.1 hB.2)
  clear hB
  rw [← hn] at hL
  have hbad : ∀ j, j + 1 < n → ¬ (a + 1 + j < s.size ∧ 128 ≤ byt s (a + 1 + j) ∧ byt s (a + 1 + j) < 192) → decIs s a = false := fun j h1 h2 => dec_bad (by rw [← hn]; exact h1) h2
  have Hbad := Lib.hid hbad
  clear hn hq hbad
  go_enter Try.func20, Try.ntmps20
  go_wp2_with fail
  refine (walk_any s a _).mono ?_
  rintro e w' ⟨rfl, rfl⟩
  go_wp2_with fail
  refine (next_yes s a _ _ ⟨w.heap.size + 1, 0, none⟩ ⟨w.heap.size, 0, none⟩ rfl (by simp) (by simp) (by simp) ha hs).mono ?_
  rintro e w' ⟨rfl, rfl⟩
  go_wp2_with fail
  refine (lead_any _ _ hb.1 hb.2).mono ?_
  rintro e w' ⟨rfl, rfl⟩
  rw [← Hn.out, ← Hq.out]
  go_wp2_with fail
  go_loopw [4, 5, 9] (fun p z i wr => ∃ j : Nat, j ≤ n - 1 ∧ z = .int .i64 n ∧ i = .int .i64 ((j : Int) + 1) ∧ p = .int .i64 (acc s (a + 1) q j) ∧ conts s (a + 1) j = true ∧ wr = (w.alloc (.cells #[.string s] 9)).alloc (.cells #[.int .i64 ((a : Int) + 1 + j)] 3)) (fun _ _ i _ => 5 - (intOf i).toNat)
  case atStart => exact ⟨0, by omega, rfl, rfl, rfl, rfl, by simp⟩
  case round =>
    obtain ⟨j, hj, rfl, rfl, rfl, hc, rfl⟩ := hrel
    have Hc := Lib.hid hc
    clear hc
    by_cases hlt : j + 1 < n
    · by_cases hin : a + 1 + j < s.size
      · have hbj := byt_range s (a + 1 + j)
        go_wp2_with fail
        refine (next_yes s (a + 1 + j) ((a : Int) + 1 + j) _ ⟨w.heap.size + 1, 0, none⟩ ⟨w.heap.size, 0, none⟩ (by omega) (by simp) (by simp) (by simp) hin hs).mono ?_
        rintro e w' ⟨rfl, rfl⟩
        have ht := cont_test _ hbj.1 hbj.2
        by_cases hcc : 128 ≤ byt s (a + 1 + j) ∧ byt s (a + 1 + j) < 192
        · rw [decide_eq_true hcc] at ht
          simp only [Bool.not_true] at ht
          have Hcc := Lib.hid hcc
          clear hcc
          have hr := (hrng.out j (by omega))
          rw [← Hq.out] at hr
          have hr0 := hr.1
          have hr1 := hr.2
          clear hr
          have hst := Lib.hid (acc_step s (a + 1) q j hr0 hr1)
          go_wp2_with fail
          go_roundw
          case rel =>
            refine ⟨j + 1, by omega, rfl, by go_num, ?_, ?_, ?_⟩
            · rw [← hst.out]
            · simp only [conts, Hc.out, Bool.true_and, decide_eq_true_eq]; exact ⟨hin, Hcc.out⟩
            · rw [show ((a : Int) + 1 + ((j + 1 : Nat) : Int)) = (a : Int) + 1 + j + 1 from by omega]
          case measure => simp [intOf]; omega
        · rw [decide_eq_false hcc] at ht
          simp only [Bool.not_false] at ht
          have hz := Hbad.out j hlt (fun h => hcc ⟨h.2.1, h.2.2⟩)
          have Hz := Lib.hid (dec_no hz)
          clear hz hcc
          go_wp2_with fail
          go_ret2
          exact ⟨ret2 Hz.out.1.symm Hz.out.2.symm, ((Below.refl _ _).alloc (Nat.le_refl _) _).alloc (by simp) _⟩
      · have hz := Hbad.out j hlt (fun h => hin h.1)
        have Hz := Lib.hid (dec_no hz)
        clear hz
        go_wp2_with fail
        refine (next_no s (a + 1 + j) ((a : Int) + 1 + j) _ ⟨w.heap.size + 1, 0, none⟩ ⟨w.heap.size, 0, none⟩ (by omega) (by simp) (by simp) (by omega)).mono ?_
        rintro e w' ⟨rfl, rfl⟩
        go_wp2_with fail
        go_ret2
        exact ⟨ret2 Hz.out.1.symm Hz.out.2.symm, ((Below.refl _ _).alloc (Nat.le_refl _) _).alloc (by simp) _⟩
    · by_cases hn0 : n = 0
      · subst hn0
        have hz : decIs s a = false := by unfold decIs; rw [← Hn.out]; rfl
        have Hz := Lib.hid (dec_no hz)
        clear hz
        go_wp2_with fail
        go_ret2
        exact ⟨ret2 Hz.out.1.symm Hz.out.2.symm, ((Below.refl _ _).alloc (Nat.le_refl _) _).alloc (by simp) _⟩
      · have ej : j = n - 1 := by omega
        have hd : decIs s a = (isPt (acc s (a + 1) q j) && decide (szOf (acc s (a + 1) q j) = (n : Int))) := by
          unfold decIs
          rw [← Hn.out, ← Hq.out, ← ej, Hc.out]
          simp [hn0]
        have HD := Lib.hid hd
        have EJ := Lib.hid ej
        have z0 : ((n : Int) == 0) = false := by simp; omega
        clear hd ej
        cases hp : isPt (acc s (a + 1) q j)
        · have HP := Lib.hid hp
          have Hz := Lib.hid (dec_no (s := s) (a := a) (by rw [HD.out, hp]; rfl))
          clear hp
          go_wp2_with fail
          refine (isPoint_any _ _).mono ?_
          rintro e w' ⟨rfl, rfl⟩
          rw [HP.out]
          go_wp2_with fail
          go_ret2
          exact ⟨ret2 Hz.out.1.symm Hz.out.2.symm, ((Below.refl _ _).alloc (Nat.le_refl _) _).alloc (by simp) _⟩
        · by_cases hsz : szOf (acc s (a + 1) q j) = (n : Int)
          · have HP := Lib.hid hp
            have Hy := Lib.hid (dec_yes (s := s) (a := a) (by rw [HD.out, hp, hsz]; simp))
            have hsz2 : (szOf (acc s (a + 1) q j) != (n : Int)) = false := by simp [hsz]
            clear hp hsz
            go_wp2_with fail
            refine (isPoint_any _ _).mono ?_
            rintro e w' ⟨rfl, rfl⟩
            rw [HP.out]
            go_wp2_with fail
            refine (sizeOf_any _ _).mono ?_
            rintro e w' ⟨rfl, rfl⟩
            go_wp2_with fail
            go_ret2
            exact ⟨ret2 (by rw [Hy.out.1, ← Hn.out, ← Hq.out, ← EJ.out]) (by rw [Hy.out.2, ← Hn.out]), ((Below.refl _ _).alloc (Nat.le_refl _) _).alloc (by simp) _⟩
          · have HP := Lib.hid hp
            have Hz := Lib.hid (dec_no (s := s) (a := a) (by rw [HD.out, hp]; simp [hsz]))
            have hsz2 : (szOf (acc s (a + 1) q j) != (n : Int)) = true := by simp [hsz]
            clear hp hsz
            go_wp2_with fail
            refine (isPoint_any _ _).mono ?_
            rintro e w' ⟨rfl, rfl⟩
            rw [HP.out]
            go_wp2_with fail
            refine (sizeOf_any _ _).mono ?_
            rintro e w' ⟨rfl, rfl⟩
            go_wp2_with fail
            go_ret2
            exact ⟨ret2 Hz.out.1.symm Hz.out.2.symm, ((Below.refl _ _).alloc (Nat.le_refl _) _).alloc (by simp) _⟩
theorem check_any (s : ByteArray) (w : World) (hs : s.size ≤ maxLen) :
    Calls Try.prog 13 #[.string s] w fun e w' => e = .returned (.int .i64 (ckE s)) ∧ Below w.heap.size w w' := by
  have hm := hs
  unfold maxLen at hm
  by_cases hbig : 16384 < s.size
  · have hc := Lib.hid (show ckE s = 4 by unfold ckE; rw [if_pos hbig])
    go_enter Try.func13, Try.ntmps13
    go_wp2_with fail
    go_ret
    exact ⟨ret_int hc.out.symm, Below.refl _ _⟩
  · have hc := Lib.hid (show ckE s = if isTx s then 0 else 10 by unfold ckE; rw [if_neg hbig])
    go_enter Try.func13, Try.ntmps13
    go_wp2_with fail
    go_loopw [2, 3] (fun _ i wr => ∃ f a : Nat, s.size - a ≤ f ∧ a ≤ s.size ∧ i = .int .i64 a ∧ txF s f a = isTx s ∧ Below w.heap.size w wr) (fun _ i _ => s.size - (intOf i).toNat)
    case atStart => exact ⟨s.size, 0, by omega, by omega, rfl, rfl, Below.refl _ _⟩
    case round =>
      obtain ⟨f, a, hf, ha, rfl, ht, hb⟩ := hrel
      by_cases hlt : a < s.size
      · rw [txF_step hlt hf] at ht
        rcases decN_eq s a with ⟨hd, hN, h0⟩ | ⟨hd, hN, _⟩
        · have hin := dec_in hlt hd
          rw [hd, Bool.true_and] at ht
          have HT := Lib.hid ht
          have HN := Lib.hid hN
          have hz : ((leadN (byt s a) : Int) == 0) = false := by simp; omega
          clear ht hN hd
          go_wp2_with fail
          refine (decode_any s a _ hs hlt).mono ?_
          rintro e w' ⟨rfl, hb'⟩
          rw [HN.out]
          go_wp2_with fail
          go_roundw
          case rel => exact ⟨f - 1, a + leadN (byt s a), by omega, hin, by go_num, HT.out, hb.trans (hb'.mono hb.size)⟩
          case measure => simp [intOf]; omega
        · rw [hd, Bool.false_and] at ht
          have HC : Hid (ckE s = 10) := Lib.hid (by rw [hc.out, ← ht]; rfl)
          have HN := Lib.hid hN
          clear ht hN hd
          go_wp2_with fail
          refine (decode_any s a _ hs hlt).mono ?_
          rintro e w' ⟨rfl, hb'⟩
          rw [HN.out]
          go_wp2_with fail
          go_ret
          exact ⟨ret_int HC.out.symm, hb.trans (hb'.mono hb.size)⟩
      · rw [txF_end (by omega)] at ht
        have HC : Hid (ckE s = 0) := Lib.hid (by rw [hc.out, ← ht]; rfl)
        clear ht
        go_wp2_with fail
        go_ret
        exact ⟨ret_int HC.out.symm, hb⟩

end Go.Proofs.Ytpiaofpglagfmaa
/- Plain facts of layer 3: which cells are a value. No program in sight. -/
namespace Go.Proofs.Ytpiaofpglagfmaa
open Go.RowKit
/-- A cell. -/
structure CR where
  k : Nat
  nm : ByteArray
  tx : ByteArray
  n : Int
  m : Int
instance : Inhabited CR := ⟨⟨0, ⟨#[]⟩, ⟨#[]⟩, 0, 0⟩⟩
def em (s : ByteArray) : Bool := decide (s.size = 0)
def letB (b : UInt8) : Bool := b == 95 || (97 ≤ b && b ≤ 122) || (65 ≤ b && b ≤ 90)
def dgB (b : UInt8) : Bool := 48 ≤ b && b ≤ 57
def nmL : List UInt8 → Bool
  | [] => false
  | b :: r => letB b && r.all fun c => letB c || dgB c
def nmB (s : ByteArray) : Bool := nmL s.data.toList
def ckB (s : ByteArray) : Bool := decide (ckE s = 0)
/-- May a cell be, but for its name? -/
def oneP (c : CR) : Bool :=
  if c.k = 0 then em c.tx && decide (c.m = 0) && decide (c.n = 0)
  else if c.k = 1 then em c.tx && decide (c.m = 0) && (decide (c.n = 0) || decide (c.n = 1))
  else if c.k = 2 then em c.tx && decide (c.m = 0)
  else if c.k = 3 then decide (c.n = 0) && decide (c.m = 0) && ckB c.tx
  else if c.k = 4 ∨ c.k = 5 then decide (c.n = 0) && decide (c.m = 0) && nmB c.tx
  else if c.k = 6 ∨ c.k = 7 then decide (c.n = 0) && em c.tx && decide (0 ≤ c.m)
  else false
def headP (c : CR) : Bool := decide (c.k = 6) || decide (c.k = 7)
/-- May an item, a member have that name? -/
def namedP (obj : Bool) (names : List ByteArray) (s : ByteArray) : Bool :=
  if obj then !names.any (fun x => decide (x = s)) && !em s && ckB s else em s
/-- Behind so many values, one behind the other. -/
def kidsF (w : Nat → Option Nat) (g : Nat → CR) (n : Nat) (obj : Bool) : Nat → List ByteArray → Nat → Option Nat
  | 0, _, a => some a
  | m + 1, names, a =>
    if n ≤ a then none else if namedP obj names (g a).nm then
      match w a with
      | none => none
      | some a' => kidsF w g n obj m (if obj then (g a).nm :: names else names) a'
    else none
/-- Behind the value that begins at a place, with at most so many in each other. -/
def wk (g : Nat → CR) (n : Nat) : Nat → Nat → Option Nat
  | 0, a => if n ≤ a then none else if oneP (g a) && !headP (g a) then some (a + 1) else none
  | r + 1, a => if n ≤ a then none else if oneP (g a) then
      if headP (g a) then kidsF (wk g n r) g n (decide ((g a).k = 7)) (g a).m.toNat [] (a + 1) else some (a + 1)
    else none
/-- Are cells a value? -/
def ckC (g : Nat → CR) (n : Nat) : Bool := decide (0 < n) && decide (n ≤ 2048) && em (g 0).nm && decide (wk g n 16 0 = some n)
theorem wk_z (g : Nat → CR) (n a : Nat) : wk g n 0 a = if n ≤ a then none else if oneP (g a) && !headP (g a) then some (a + 1) else none := rfl
theorem wk_s (g : Nat → CR) (n r a : Nat) : wk g n (r + 1) a = if n ≤ a then none else if oneP (g a) then
      if headP (g a) then kidsF (wk g n r) g n (decide ((g a).k = 7)) (g a).m.toNat [] (a + 1) else some (a + 1)
    else none := rfl
theorem kidsF_lt {w : Nat → Option Nat} {g : Nat → CR} {n : Nat} {obj : Bool} (hw : ∀ a e, w a = some e → a < e ∧ e ≤ n) : ∀ (m : Nat) (names : List ByteArray) (a e : Nat), a ≤ n → kidsF w g n obj m names a = some e → a + m ≤ e ∧ e ≤ n
  | 0, _, a, e, ha, h => by simp [kidsF] at h; omega
  | m + 1, names, a, e, ha, h => by
    rw [kidsF] at h
    split at h
    · cases h
    · split at h
      · cases hx : w a with
        | none => rw [hx] at h; cases h
        | some a' =>
          rw [hx] at h
          have h1 := hw a a' hx
          have h2 := kidsF_lt hw m _ a' e h1.2 h
          omega
      · cases h
theorem wk_lt {g : Nat → CR} {n : Nat} : ∀ (r a e : Nat), wk g n r a = some e → a < e ∧ e ≤ n
  | 0, a, e, h => by
    rw [wk] at h
    split at h
    · cases h
    · split at h
      · cases h; omega
      · cases h
  | r + 1, a, e, h => by
    rw [wk] at h
    split at h
    · cases h
    · split at h
      · split at h
        · have := kidsF_lt (wk_lt r) _ _ _ _ (by omega) h
          omega
        · cases h; omega
      · cases h
theorem kidsF_mono {w w' : Nat → Option Nat} {g : Nat → CR} {n : Nat} {obj : Bool} (hw : ∀ a e, w a = some e → w' a = some e) : ∀ (m : Nat) (names : List ByteArray) (a e : Nat), kidsF w g n obj m names a = some e → kidsF w' g n obj m names a = some e
  | 0, _, a, e, h => h
  | m + 1, names, a, e, h => by
    rw [kidsF] at h ⊢
    split at h
    · cases h
    · rename_i h1
      rw [if_neg h1]
      split at h
      · rename_i h2
        rw [if_pos h2]
        cases hx : w a with
        | none => rw [hx] at h; cases h
        | some a' =>
          rw [hx] at h
          rw [hw a a' hx]
          exact kidsF_mono hw m _ a' e h
      · cases h
theorem wk_succ {g : Nat → CR} {n : Nat} : ∀ (r a e : Nat), wk g n r a = some e → wk g n (r + 1) a = some e
  | 0, a, e, h => by
    rw [wk_z] at h
    rw [wk_s]
    split at h
    · cases h
    · rename_i h1
      rw [if_neg h1]
      split at h
      · rename_i h2
        simp only [Bool.and_eq_true, Bool.not_eq_true'] at h2
        rw [if_pos h2.1, if_neg (by rw [h2.2]; simp)]
        exact h
      · cases h
  | r + 1, a, e, h => by
    rw [wk_s] at h
    rw [wk_s]
    split at h
    · cases h
    · rename_i h1
      rw [if_neg h1]
      split at h
      · rename_i h2
        rw [if_pos h2]
        split at h
        · rename_i h3
          rw [if_pos h3]
          exact kidsF_mono (wk_succ r) _ _ _ _ h
        · rename_i h3
          rw [if_neg h3]
          exact h
      · cases h
theorem wk_up {g : Nat → CR} {n : Nat} {r r' a e : Nat} (hr : r ≤ r') (h : wk g n r a = some e) : wk g n r' a = some e := by
  obtain ⟨d, rfl⟩ : ∃ d, r' = r + d := ⟨r' - r, by omega⟩
  clear hr
  induction d with
  | zero => exact h
  | succ d ih => exact wk_succ _ _ _ ih
/-- So many values, one behind the other. -/
def Chain (g : Nat → CR) (n : Nat) : Nat → Nat → Nat → Prop
  | 0, a, e => a = e
  | o + 1, a, e => ∃ a', wk g n 16 a = some a' ∧ Chain g n o a' e
theorem Chain.le {g : Nat → CR} {n : Nat} : ∀ (o a e : Nat), Chain g n o a e → a + o ≤ e ∧ (e = a ∨ e ≤ n)
  | 0, a, e, h => by have : a = e := h; omega
  | o + 1, a, e, h => by
    obtain ⟨a', h1, h2⟩ := h
    have h3 := wk_lt _ _ _ h1
    have h4 := Chain.le o a' e h2
    omega
theorem Chain.add {g : Nat → CR} {n : Nat} : ∀ (o p a b e : Nat), Chain g n o a b → Chain g n p b e → Chain g n (o + p) a e
  | 0, p, a, b, e, h, k => by have : a = b := h; subst this; simpa using k
  | o + 1, p, a, b, e, h, k => by
    obtain ⟨a', h1, h2⟩ := h
    rw [show o + 1 + p = (o + p) + 1 by omega]
    exact ⟨a', h1, Chain.add o p a' b e h2 k⟩
theorem kidsF_chain {g : Nat → CR} {n r : Nat} {obj : Bool} (hr : r ≤ 16) : ∀ (m : Nat) (names : List ByteArray) (a e : Nat), kidsF (wk g n r) g n obj m names a = some e → Chain g n m a e
  | 0, _, a, e, h => by simp [kidsF] at h; exact h
  | m + 1, names, a, e, h => by
    rw [kidsF] at h
    split at h
    · cases h
    · split at h
      · cases hx : wk g n r a with
        | none => rw [hx] at h; cases h
        | some a' =>
          rw [hx] at h
          exact ⟨a', wk_up hr hx, kidsF_chain hr m _ a' e h⟩
      · cases h
theorem one_leaf {c : CR} (h1 : oneP c = true) (h2 : headP c = false) : c.m = 0 := by
  unfold oneP at h1
  simp only [headP, Bool.or_eq_false_iff, decide_eq_false_iff_not] at h2
  repeat' split at h1
  all_goals first
    | cases h1
    | (simp only [Bool.and_eq_true, decide_eq_true_eq] at h1; first | exact h1.1.2 | exact h1.2 | (exfalso; omega))
theorem one_head {c : CR} (h1 : oneP c = true) (h2 : headP c = true) : c.n = 0 ∧ em c.tx = true ∧ 0 ≤ c.m ∧ (c.k = 6 ∨ c.k = 7) := by
  simp only [headP, Bool.or_eq_true, decide_eq_true_eq] at h2
  unfold oneP at h1
  rw [if_neg (by omega), if_neg (by omega), if_neg (by omega), if_neg (by omega), if_neg (by omega), if_pos h2] at h1
  simp only [Bool.and_eq_true, decide_eq_true_eq] at h1
  exact ⟨h1.1.1, h1.1.2, h1.2, h2⟩
/-- What stands at the head of a value: the values in it, one behind the other. -/
theorem wk_open {g : Nat → CR} {n r a e : Nat} (hr : r ≤ 16) (h : wk g n r a = some e) : a < n ∧ oneP (g a) = true ∧ 0 ≤ (g a).m ∧ Chain g n (g a).m.toNat (a + 1) e := by
  cases r with
  | zero =>
    rw [wk] at h
    split at h
    · cases h
    · split at h
      · rename_i h2
        simp only [Bool.and_eq_true, Bool.not_eq_true'] at h2
        have := one_leaf h2.1 h2.2
        cases h
        refine ⟨by omega, h2.1, by omega, ?_⟩
        rw [this]; rfl
      · cases h
  | succ r =>
    rw [wk] at h
    split at h
    · cases h
    · split at h
      · rename_i h2
        split at h
        · rename_i h3
          exact ⟨by omega, h2, (one_head h2 h3).2.2.1, kidsF_chain (by omega) _ _ _ _ h⟩
        · rename_i h3
          have := one_leaf h2 (by simpa using h3)
          cases h
          refine ⟨by omega, h2, by omega, ?_⟩
          rw [this]; rfl
      · cases h
/-- One round of skip. -/
theorem Chain.step {g : Nat → CR} {n o a e : Nat} (h : Chain g n (o + 1) a e) : a < n ∧ a < e ∧ 0 ≤ (g a).m ∧ Chain g n (o + (g a).m.toNat) (a + 1) e := by
  obtain ⟨a', h1, h2⟩ := h
  obtain ⟨h3, _, h4, h5⟩ := wk_open (Nat.le_refl _) h1
  have := Chain.le _ _ _ h2
  have := wk_lt _ _ _ h1
  refine ⟨h3, by omega, h4, ?_⟩
  rw [Nat.add_comm]
  exact Chain.add _ _ _ _ _ h5 h2
theorem kidsF_at {g : Nat → CR} {n r : Nat} {obj : Bool} (hw : ∀ a e, wk g n r a = some e → ∀ b, a ≤ b → b < e → ∃ e', wk g n r b = some e' ∧ e' ≤ e) : ∀ (m : Nat) (names : List ByteArray) (a e : Nat), kidsF (wk g n r) g n obj m names a = some e → ∀ b, a ≤ b → b < e → ∃ e', wk g n r b = some e' ∧ e' ≤ e
  | 0, _, a, e, h, b, h1, h2 => by simp [kidsF] at h; omega
  | m + 1, names, a, e, h, b, h1, h2 => by
    rw [kidsF] at h
    split at h
    · cases h
    · split at h
      · cases hx : wk g n r a with
        | none => rw [hx] at h; cases h
        | some a' =>
          rw [hx] at h
          have h3 := (kidsF_lt (wk_lt r) _ _ _ _ (wk_lt _ _ _ hx).2 h).1
          by_cases hb : b < a'
          · obtain ⟨e', g1, g2⟩ := hw a a' hx b h1 hb
            exact ⟨e', g1, by omega⟩
          · exact kidsF_at hw m _ a' e h b (by omega) h2
      · cases h
theorem wk_at {g : Nat → CR} {n : Nat} : ∀ (r a e : Nat), wk g n r a = some e → ∀ b, a ≤ b → b < e → ∃ e', wk g n r b = some e' ∧ e' ≤ e
  | 0, a, e, h, b, h1, h2 => by
    have hh := h
    rw [wk] at h
    split at h
    · cases h
    · split at h
      · cases h
        obtain rfl : a = b := by omega
        exact ⟨_, hh, Nat.le_refl _⟩
      · cases h
  | r + 1, a, e, h, b, h1, h2 => by
    have hh := h
    rw [wk] at h
    split at h
    · cases h
    · split at h
      · split at h
        · by_cases hb : b = a
          · subst hb; exact ⟨_, hh, Nat.le_refl _⟩
          · obtain ⟨e', g1, g2⟩ := kidsF_at (wk_at r) _ _ _ _ h b (by omega) h2
            exact ⟨e', wk_succ _ _ _ g1, g2⟩
        · cases h
          obtain rfl : a = b := by omega
          exact ⟨_, hh, Nat.le_refl _⟩
      · cases h
end Go.Proofs.Ytpiaofpglagfmaa
/- Plain facts of layer 3: values in other cells. No program in sight. -/
namespace Go.Proofs.Ytpiaofpglagfmaa
open Go.RowKit
/-- From i to j two rows of cells read the same, but for the first one's name (b: that, too). -/
def Alk (b : Bool) (g1 : Nat → CR) (s1 : Nat) (g2 : Nat → CR) (s2 i j : Nat) : Prop :=
  ∀ t, i ≤ t → t < j → (g1 (t + s1)).k = (g2 (t + s2)).k ∧ (g1 (t + s1)).tx = (g2 (t + s2)).tx ∧ (g1 (t + s1)).n = (g2 (t + s2)).n ∧ (g1 (t + s1)).m = (g2 (t + s2)).m ∧ ((b = true ∨ i < t) → (g1 (t + s1)).nm = (g2 (t + s2)).nm)
theorem Alk.part {b : Bool} {g1 g2 : Nat → CR} {s1 s2 i j i' j' : Nat} (h : Alk b g1 s1 g2 s2 i j) (hi : b = true ∨ i < i') (hi' : i ≤ i') (hj : j' ≤ j) (c : Bool) : Alk c g1 s1 g2 s2 i' j' := fun t h1 h2 =>
  have q := h t (by omega) (by omega)
  ⟨q.1, q.2.1, q.2.2.1, q.2.2.2.1, fun _ => q.2.2.2.2 (by rcases hi with e | e; exact .inl e; exact .inr (by omega))⟩
theorem one_alk {c d : CR} (h1 : c.k = d.k) (h2 : c.tx = d.tx) (h3 : c.n = d.n) (h4 : c.m = d.m) : oneP c = oneP d := by
  unfold oneP; rw [h1, h2, h3, h4]
theorem kidsF_shift {g1 g2 : Nat → CR} {n1 n2 s1 s2 r : Nat} {obj : Bool} (ih : ∀ i j, wk g1 n1 r (i + s1) = some (j + s1) → Alk false g1 s1 g2 s2 i j → j + s2 ≤ n2 → wk g2 n2 r (i + s2) = some (j + s2)) :
    ∀ (m : Nat) (names : List ByteArray) (i j : Nat), i + s1 ≤ n1 → kidsF (wk g1 n1 r) g1 n1 obj m names (i + s1) = some (j + s1) → Alk true g1 s1 g2 s2 i j → j + s2 ≤ n2 → kidsF (wk g2 n2 r) g2 n2 obj m names (i + s2) = some (j + s2)
  | 0, _, i, j, _, h, _, _ => by
    simp only [kidsF, Option.some.injEq] at h ⊢
    omega
  | m + 1, names, i, j, hi, h, ha, hj => by
    rw [kidsF] at h
    split at h
    · cases h
    · rename_i h1
      split at h
      · rename_i h2
        cases hx : wk g1 n1 r (i + s1) with
        | none => rw [hx] at h; cases h
        | some a' =>
          rw [hx] at h
          have h3 := wk_lt _ _ _ hx
          obtain ⟨i', rfl⟩ : ∃ i', a' = i' + s1 := ⟨a' - s1, by omega⟩
          have h4 := kidsF_lt (wk_lt r) _ _ _ _ h3.2 h
          have hn := (ha i (Nat.le_refl _) (by omega)).2.2.2.2 (.inl rfl)
          have e := ih i i' hx (ha.part (.inl rfl) (Nat.le_refl _) (by omega) false) (by omega)
          rw [kidsF, if_neg (by have := wk_lt _ _ _ hx; omega), ← hn, if_pos h2, e]
          exact kidsF_shift ih m _ i' j h3.2 h (ha.part (.inl rfl) (by omega) (Nat.le_refl _) true) hj
      · cases h
theorem wk_shift {g1 g2 : Nat → CR} {n1 n2 s1 s2 : Nat} : ∀ (r i j : Nat), wk g1 n1 r (i + s1) = some (j + s1) → Alk false g1 s1 g2 s2 i j → j + s2 ≤ n2 → wk g2 n2 r (i + s2) = some (j + s2)
  | 0, i, j, h, ha, hj => by
    have hl := wk_lt _ _ _ h
    have q := ha i (Nat.le_refl _) (by omega)
    rw [wk_z] at h ⊢
    rw [if_neg (by omega)] at h ⊢
    rw [one_alk q.1 q.2.1 q.2.2.1 q.2.2.2.1, show headP (g1 (i + s1)) = headP (g2 (i + s2)) by unfold headP; rw [q.1]] at h
    split at h
    · rename_i h2
      rw [if_pos h2]
      simp only [Option.some.injEq] at h ⊢
      omega
    · cases h
  | r + 1, i, j, h, ha, hj => by
    have hl := wk_lt _ _ _ h
    have q := ha i (Nat.le_refl _) (by omega)
    rw [wk_s] at h ⊢
    rw [if_neg (by omega)] at h ⊢
    rw [one_alk q.1 q.2.1 q.2.2.1 q.2.2.2.1, show headP (g1 (i + s1)) = headP (g2 (i + s2)) by unfold headP; rw [q.1], q.1, q.2.2.2.1] at h
    split at h
    · rename_i h2
      rw [if_pos h2]
      split at h
      · rename_i h3
        rw [if_pos h3]
        rw [show i + s1 + 1 = (i + 1) + s1 by omega] at h
        rw [show i + s2 + 1 = (i + 1) + s2 by omega]
        exact kidsF_shift (wk_shift r) _ _ _ _ (by omega) h (ha.part (.inr (by omega)) (by omega) (Nat.le_refl _) true) hj
      · rename_i h3
        rw [if_neg h3]
        simp only [Option.some.injEq] at h ⊢
        omega
    · cases h
/-- The names of an object's members are apart, and none is empty; those of items are empty. -/
theorem kidsF_names {g : Nat → CR} {n r : Nat} {obj : Bool} : ∀ (m : Nat) (names : List ByteArray) (b : Nat → Nat), kidsF (wk g n r) g n obj m names (b 0) ≠ none → (∀ i, i < m → wk g n r (b i) = some (b (i + 1))) →
    ∀ i, i < m → namedP obj [] (g (b i)).nm = true ∧ (obj = true → (∀ s ∈ names, s ≠ (g (b i)).nm) ∧ ∀ j, j < i → (g (b j)).nm ≠ (g (b i)).nm)
  | 0, _, _, _, _, i, hi => by omega
  | m + 1, names, b, h, hb, i, hi => by
    rw [kidsF] at h
    split at h
    · exact absurd rfl h
    · split at h
      · rename_i h2
        rw [hb 0 (by omega)] at h
        simp only [] at h
        have h0 : namedP obj [] (g (b 0)).nm = true ∧ (obj = true → ∀ s ∈ names, s ≠ (g (b 0)).nm) := by
          unfold namedP at h2 ⊢
          cases obj with
          | false => exact ⟨h2, fun q => by cases q⟩
          | true =>
            simp only [if_true, Bool.and_eq_true, Bool.not_eq_true', List.any_eq_false, decide_eq_true_eq] at h2
            simp only [if_true, Bool.and_eq_true, Bool.not_eq_true', List.any_nil]
            exact ⟨⟨⟨by trivial, h2.1.2⟩, h2.2⟩, fun _ s hs => h2.1.1 s hs⟩
        cases i with
        | zero => exact ⟨h0.1, fun q => ⟨h0.2 q, fun j hj => by omega⟩⟩
        | succ i =>
          have k := kidsF_names m _ (fun t => b (t + 1)) h (fun t ht => hb (t + 1) (by omega)) i (by omega)
          refine ⟨k.1, fun q => ?_⟩
          obtain ⟨k1, k2⟩ := k.2 q
          subst q
          simp only [if_true, List.mem_cons, forall_eq_or_imp] at k1
          refine ⟨k1.2, fun j hj => ?_⟩
          cases j with
          | zero => exact k1.1
          | succ j => exact k2 j (by omega)
      · exact absurd rfl h
end Go.Proofs.Ytpiaofpglagfmaa
/- Plain facts of layer 3: where items and members begin; values put together. No program in sight. -/
namespace Go.Proofs.Ytpiaofpglagfmaa
open Go.RowKit
theorem ckC_parts {g : Nat → CR} {n : Nat} (h : ckC g n = true) : 0 < n ∧ n ≤ 2048 ∧ em (g 0).nm = true ∧ wk g n 16 0 = some n := by
  unfold ckC at h
  simp only [Bool.and_eq_true, decide_eq_true_eq] at h
  exact ⟨h.1.1.1, h.1.1.2, h.1.2, h.2⟩
theorem ckC_mk {g : Nat → CR} {n : Nat} (h1 : 0 < n) (h2 : n ≤ 2048) (h3 : em (g 0).nm = true) (h4 : wk g n 16 0 = some n) : ckC g n = true := by
  unfold ckC
  simp only [Bool.and_eq_true, decide_eq_true_eq]
  exact ⟨⟨⟨h1, h2⟩, h3⟩, h4⟩
/-- Behind the value that begins at a place. -/
def nx (g : Nat → CR) (n a : Nat) : Nat := (wk g n 16 a).getD a
/-- Where the i-th value from a place on begins. -/
def bd (g : Nat → CR) (n a : Nat) : Nat → Nat
  | 0 => a
  | i + 1 => nx g n (bd g n a i)
theorem bd_next (g : Nat → CR) (n a : Nat) : ∀ i, bd g n a (i + 1) = bd g n (nx g n a) i
  | 0 => rfl
  | i + 1 => by show nx g n (bd g n a (i + 1)) = nx g n (bd g n (nx g n a) i); rw [bd_next g n a i]
theorem nx_some {g : Nat → CR} {n a e : Nat} (h : wk g n 16 a = some e) : nx g n a = e := by unfold nx; rw [h]; rfl
theorem bd_chain {g : Nat → CR} {n : Nat} : ∀ (m a e : Nat), Chain g n m a e → (∀ i, i < m → wk g n 16 (bd g n a i) = some (bd g n a (i + 1))) ∧ bd g n a m = e
  | 0, a, e, h => ⟨fun i hi => by omega, h⟩
  | m + 1, a, e, h => by
    obtain ⟨a', h1, h2⟩ := h
    have hn := nx_some h1
    obtain ⟨k1, k2⟩ := bd_chain m a' e h2
    refine ⟨fun i hi => ?_, by rw [bd_next, hn]; exact k2⟩
    cases i with
    | zero => show wk g n 16 a = some (nx g n a); rw [hn]; exact h1
    | succ i =>
      rw [bd_next, bd_next, hn]
      exact k1 i (by omega)
theorem chain_bd {g : Nat → CR} {n : Nat} (a : Nat) (b : Nat → Nat) : ∀ (m : Nat), (∀ i, i < m → wk g n 16 (b i) = some (b (i + 1))) → b 0 = a → ∀ i, i ≤ m → bd g n a i = b i
  | m, h, h0, 0, _ => h0.symm
  | m, h, h0, i + 1, hi => by
    show nx g n (bd g n a i) = _
    rw [chain_bd a b m h h0 i (by omega)]
    exact nx_some (h i (by omega))
/-- The members' names of an object are apart. -/
theorem names_apart {g : Nat → CR} {n r a e : Nat} (hr : r ≤ 16) (h : wk g n r a = some e) (hk : (g a).k = 7) : ∀ i, i < (g a).m.toNat → namedP true [] (g (bd g n (a + 1) i)).nm = true ∧ ∀ j, j < i → (g (bd g n (a + 1) j)).nm ≠ (g (bd g n (a + 1) i)).nm := by
  have hc := (wk_open hr h).2.2.2
  have hb := (bd_chain _ _ _ hc).1
  cases r with
  | zero =>
    rw [wk_z] at h
    have : headP (g a) = true := by simp [headP, hk]
    rw [this] at h
    simp at h
  | succ r =>
    rw [wk_s] at h
    split at h
    · cases h
    · split at h
      · rw [if_pos (by simp [headP, hk]), hk] at h
        intro i hi
        have hbr : ∀ i, i < (g a).m.toNat → wk g n r (bd g n (a + 1) i) = some (bd g n (a + 1) (i + 1)) := by
          have K : ∀ (m : Nat) (names : List ByteArray) (b : Nat → Nat), kidsF (wk g n r) g n true m names (b 0) = some e → (∀ i, i < m → wk g n 16 (b i) = some (b (i + 1))) → ∀ i, i < m → wk g n r (b i) = some (b (i + 1)) := by
            intro m
            induction m with
            | zero => intro _ _ _ _ i hi; omega
            | succ m ih =>
              intro names b hk hb i hi
              rw [kidsF] at hk
              split at hk
              · cases hk
              · split at hk
                · cases hx : wk g n r (b 0) with
                  | none => rw [hx] at hk; cases hk
                  | some a' =>
                    rw [hx] at hk
                    have e1 := wk_up (r' := 16) (by omega) hx
                    rw [hb 0 (by omega)] at e1
                    simp only [Option.some.injEq] at e1
                    cases i with
                    | zero => rw [hx, e1]
                    | succ i =>
                      rw [← e1] at hk
                      exact ih _ (fun t => b (t + 1)) hk (fun t ht => hb (t + 1) (by omega)) i (by omega)
                · cases hk
          exact K _ _ (bd g n (a + 1)) h hb
        have k := kidsF_names _ [] (bd g n (a + 1)) (by rw [show bd g n (a + 1) 0 = a + 1 from rfl, show decide ((7 : Nat) = 7) = true from rfl] at *; rw [h]; simp) hbr i hi
        exact ⟨k.1, (k.2 rfl).2⟩
      · cases h
end Go.Proofs.Ytpiaofpglagfmaa
/- Plain facts of layer 3: lists of cells; values put together under a head; a value cut out. No program in sight. -/
namespace Go.Proofs.Ytpiaofpglagfmaa
open Go.RowKit
def gl (L : List CR) (i : Nat) : CR := L.getD i default
def ckL (L : List CR) : Bool := ckC (gl L) L.length
/-- The cells, the first one's name aside. -/
def ren (s : ByteArray) : List CR → List CR
  | [] => []
  | c :: r => { c with nm := s } :: r
theorem ren_len (s : ByteArray) (l : List CR) : (ren s l).length = l.length := by cases l <;> rfl
theorem ren_at (s : ByteArray) (l : List CR) (t : Nat) (h : t < l.length) : (gl (ren s l) t).k = (gl l t).k ∧ (gl (ren s l) t).tx = (gl l t).tx ∧ (gl (ren s l) t).n = (gl l t).n ∧ (gl (ren s l) t).m = (gl l t).m ∧ (0 < t → (gl (ren s l) t).nm = (gl l t).nm) := by
  cases l with
  | nil => simp at h
  | cons c r =>
    cases t with
    | zero => exact ⟨rfl, rfl, rfl, rfl, fun h => by omega⟩
    | succ t => exact ⟨rfl, rfl, rfl, rfl, fun _ => rfl⟩
theorem ren_nm (s : ByteArray) (l : List CR) (h : 0 < l.length) : (gl (ren s l) 0).nm = s := by
  cases l with
  | nil => simp at h
  | cons c r => rfl
/-- Where the i-th of some lists begins, put one behind the other from a place on. -/
def st (a : Nat) (ls : List (List CR)) (i : Nat) : Nat := a + ((ls.take i).map List.length).sum
theorem st_zero (a : Nat) (ls : List (List CR)) : st a ls 0 = a := by simp [st]
theorem st_succ (a : Nat) (ls : List (List CR)) (i : Nat) (h : i < ls.length) : st a ls (i + 1) = st a ls i + ls[i].length := by
  unfold st
  rw [List.take_succ_eq_append_getElem h, List.map_append, List.sum_append]
  show a + (_ + (ls[i].length + 0)) = _
  omega
theorem st_all (a : Nat) (ls : List (List CR)) : st a ls ls.length = a + ls.flatten.length := by
  unfold st
  rw [List.take_length, List.length_flatten]
theorem flat_at : ∀ (ls : List (List CR)) (i t : Nat) (h : i < ls.length), t < ls[i].length → gl ls.flatten (st 0 ls i + t) = gl ls[i] t
  | [], i, t, h, _ => by simp at h
  | l :: ls, 0, t, h, ht => by
    have ht' : t < l.length := ht
    unfold gl st
    simp only [List.take_zero, List.map_nil, List.sum_nil, Nat.zero_add, List.flatten_cons, List.getElem_cons_zero]
    rw [List.getD_eq_getElem?_getD, List.getD_eq_getElem?_getD, List.getElem?_append_left ht']
  | l :: ls, i + 1, t, h, ht => by
    have h' : i < ls.length := by simpa using h
    have ht' : t < ls[i].length := by simpa using ht
    have ih := flat_at ls i t h' ht'
    have e : st 0 (l :: ls) (i + 1) = l.length + st 0 ls i := by simp [st]
    rw [e]
    unfold gl at ih ⊢
    simp only [List.flatten_cons, List.getElem_cons_succ]
    rw [← ih, List.getD_eq_getElem?_getD, List.getD_eq_getElem?_getD, List.getElem?_append_right (by omega)]
    congr 2
    omega
/-- Values (renamed) under a head. -/
def under (h : CR) (ls : List (List CR)) : List CR := h :: ls.flatten
theorem under_at (h : CR) (ls : List (List CR)) (i t : Nat) (hi : i < ls.length) (ht : t < ls[i].length) : gl (under h ls) (st 1 ls i + t) = gl ls[i] t := by
  rw [← flat_at ls i t hi ht]
  unfold under gl
  rw [show st 1 ls i + t = (st 0 ls i + t) + 1 by unfold st; omega]
  rfl
theorem under_len (h : CR) (ls : List (List CR)) : (under h ls).length = st 1 ls ls.length := by
  rw [st_all]; simp [under]; omega
theorem st_le (a : Nat) (ls : List (List CR)) : ∀ (d i : Nat), i + d ≤ ls.length → st a ls i ≤ st a ls (i + d)
  | 0, _, _ => Nat.le_refl _
  | d + 1, i, h => by
    have := st_le a ls d i (by omega)
    have := st_succ a ls (i + d) (by omega)
    rw [show i + (d + 1) = i + d + 1 by omega]
    omega
/-- Each of the values that were put together begins one where it stands. -/
theorem under_wk (h : CR) (vs ls : List (List CR)) (hl : ls.length = vs.length) (hr : ∀ i (h1 : i < ls.length) (h2 : i < vs.length), ∃ s, ls[i] = ren s vs[i]) (hv : ∀ i (h2 : i < vs.length), ckL vs[i] = true) :
    ∀ i, i < ls.length → wk (gl (under h ls)) (under h ls).length 16 (st 1 ls i) = some (st 1 ls (i + 1)) := by
  intro i hi
  have h2 : i < vs.length := by omega
  obtain ⟨s, es⟩ := hr i hi h2
  obtain ⟨k1, _, _, k4⟩ := ckC_parts (hv i h2)
  have el : ls[i].length = vs[i].length := by rw [es, ren_len]
  have e1 := st_succ 1 ls i hi
  have e2 := st_le 1 ls (ls.length - (i + 1)) (i + 1) (by omega)
  rw [show i + 1 + (ls.length - (i + 1)) = ls.length by omega] at e2
  have k := wk_shift (g1 := gl vs[i]) (n1 := vs[i].length) (s1 := 0) (g2 := gl (under h ls)) (n2 := (under h ls).length) (s2 := st 1 ls i) 16 0 vs[i].length (by simpa using k4) ?_ (by rw [under_len]; omega)
  · rw [Nat.zero_add] at k
    rw [k, e1, el, Nat.add_comm]
  · intro t _ ht
    have q := ren_at s vs[i] t ht
    rw [← es] at q
    have u := under_at h ls i t hi (by omega)
    rw [Nat.add_comm t (st 1 ls i), u, Nat.add_zero]
    exact ⟨q.1.symm, q.2.1.symm, q.2.2.1.symm, q.2.2.2.1.symm, fun hh => (q.2.2.2.2 (by rcases hh with e | e; cases e; exact e)).symm⟩
theorem under_bd (h : CR) (vs ls : List (List CR)) (hl : ls.length = vs.length) (hr : ∀ i (h1 : i < ls.length) (h2 : i < vs.length), ∃ s, ls[i] = ren s vs[i]) (hv : ∀ i (h2 : i < vs.length), ckL vs[i] = true) :
    ∀ i, i ≤ ls.length → bd (gl (under h ls)) (under h ls).length 1 i = st 1 ls i :=
  chain_bd 1 (st 1 ls) ls.length (under_wk h vs ls hl hr hv) (st_zero 1 ls)
/-- Cells from a place to another one. -/
def cut (g : Nat → CR) (a e : Nat) : List CR := (List.range (e - a)).map fun i => g (a + i)
theorem cut_len (g : Nat → CR) (a e : Nat) : (cut g a e).length = e - a := by simp [cut]
theorem cut_at (g : Nat → CR) (a e t : Nat) (h : t < e - a) : gl (cut g a e) t = g (a + t) := by
  unfold gl cut
  rw [List.getD_eq_getElem?_getD, List.getElem?_map, List.getElem?_range h]
  rfl
theorem em_eq {s : ByteArray} (h : em s = true) : s = ⟨#[]⟩ := by
  unfold em at h
  simp only [decide_eq_true_eq] at h
  exact ByteArray.ext (Array.eq_empty_of_size_eq_zero h)
/-- What is cut out of a value, without its name, is a value. -/
theorem sub_ck {g : Nat → CR} {n a e : Nat} (h : wk g n 16 a = some e) (hn : n ≤ 2048) : ckL (ren ⟨#[]⟩ (cut g a e)) = true := by
  have hl := wk_lt _ _ _ h
  have e1 : (ren ⟨#[]⟩ (cut g a e)).length = e - a := by rw [ren_len, cut_len]
  refine ckC_mk (by omega) (by omega) (by rw [ren_nm _ _ (by rw [cut_len]; omega)]; rfl) ?_
  rw [e1]
  have k := wk_shift (g1 := g) (n1 := n) (s1 := a) (g2 := gl (ren ⟨#[]⟩ (cut g a e))) (n2 := e - a) (s2 := 0) 16 0 (e - a) (by rw [Nat.zero_add, Nat.sub_add_cancel (by omega)]; exact h) ?_ (by omega)
  · simpa using k
  · intro t _ ht
    have q := ren_at ⟨#[]⟩ (cut g a e) t (by rw [cut_len]; exact ht)
    rw [cut_at g a e t ht, Nat.add_comm] at q
    rw [Nat.add_zero]
    exact ⟨q.1.symm, q.2.1.symm, q.2.2.1.symm, q.2.2.2.1.symm, fun hh => (q.2.2.2.2 (by rcases hh with w | w; cases w; exact w)).symm⟩
theorem ren_self {l : List CR} {s : ByteArray} (h : (gl l 0).nm = s) : ren s l = l := by
  cases l with
  | nil => rfl
  | cons c r =>
    have : c.nm = s := h
    unfold ren; rw [← this]
theorem ren_ren (s t : ByteArray) (l : List CR) : ren s (ren t l) = ren s l := by cases l <;> rfl
theorem gl_ext {L M : List CR} (h : L.length = M.length) (k : ∀ i, i < L.length → gl L i = gl M i) : L = M := by
  apply List.ext_getElem h
  intro i h1 h2
  have := k i h1
  unfold gl at this
  rw [List.getD_eq_getElem?_getD, List.getD_eq_getElem?_getD, List.getElem?_eq_getElem h1, List.getElem?_eq_getElem h2] at this
  exact this
/-- Sub of a value that was put in, where it stands, is that value. -/
theorem under_sub (h : CR) (vs ls : List (List CR)) (hl : ls.length = vs.length) (hr : ∀ i (h1 : i < ls.length) (h2 : i < vs.length), ∃ s, ls[i] = ren s vs[i]) (hv : ∀ i (h2 : i < vs.length), ckL vs[i] = true) (i : Nat) (hi : i < ls.length) (h2 : i < vs.length) :
    ren ⟨#[]⟩ (cut (gl (under h ls)) (st 1 ls i) (st 1 ls (i + 1))) = vs[i] := by
  obtain ⟨s, es⟩ := hr i hi h2
  obtain ⟨k1, _, k3, _⟩ := ckC_parts (hv i h2)
  have el : ls[i].length = vs[i].length := by rw [es, ren_len]
  have e1 := st_succ 1 ls i hi
  have ec : cut (gl (under h ls)) (st 1 ls i) (st 1 ls (i + 1)) = ls[i] := by
    refine gl_ext (by rw [cut_len]; omega) fun t ht => ?_
    rw [cut_len] at ht
    rw [cut_at _ _ _ _ ht, under_at h ls i t hi (by omega)]
  rw [ec, es, ren_ren]
  exact ren_self (em_eq k3)
/-- What is put together of a value's subs (renamed) is that value. -/
theorem parts_under {g : Nat → CR} {n a e : Nat} (h : wk g n 16 a = some e) (ls : List (List CR)) (hl : ls.length = (g a).m.toNat) (hs : ∀ i (h1 : i < ls.length), ls[i] = cut g (bd g n (a + 1) i) (bd g n (a + 1) (i + 1))) :
    under (g a) ls = cut g a e := by
  have hc := (wk_open (Nat.le_refl _) h).2.2.2
  obtain ⟨b1, b2⟩ := bd_chain _ _ _ hc
  have hl2 := wk_lt _ _ _ h
  have hst : ∀ i, i ≤ ls.length → st (a + 1) ls i = bd g n (a + 1) i := by
    intro i
    induction i with
    | zero => intro _; rw [st_zero]; rfl
    | succ i ih =>
      intro hi
      have q := ih (by omega)
      have w := wk_lt _ _ _ (b1 i (by omega))
      rw [st_succ _ _ _ (by omega), q, hs i (by omega), cut_len]
      omega
  have e0 : ls.flatten.length = e - (a + 1) := by
    have := hst ls.length (Nat.le_refl _)
    rw [st_all, hl, b2] at this
    omega
  have e3 : (under (g a) ls).length = ls.flatten.length + 1 := rfl
  refine gl_ext (by rw [cut_len, e3]; omega) fun t ht => ?_
  have ht' : t < e - a := by rw [e3] at ht; omega
  rw [cut_at _ _ _ _ ht']
  cases t with
  | zero => rfl
  | succ t =>
    -- which of them
    have key : ∀ (i : Nat), i ≤ ls.length → ∀ t, a + 1 + t < bd g n (a + 1) i → gl ls.flatten t = g (a + 1 + t) := by
      intro i
      induction i with
      | zero => intro _ t hq; exact absurd hq (by show ¬ (a + 1 + t < a + 1); omega)
      | succ i ih =>
        intro hi t hq
        by_cases hlt : a + 1 + t < bd g n (a + 1) i
        · exact ih (by omega) t hlt
        · have q := hst i (by omega)
          have q0 : st 0 ls i + (a + 1) = bd g n (a + 1) i := by rw [← q]; unfold st; omega
          have lt : t - st 0 ls i < ls[i].length := by rw [hs i (by omega), cut_len]; omega
          have f := flat_at ls i (t - st 0 ls i) (by omega) lt
          rw [show st 0 ls i + (t - st 0 ls i) = t by omega] at f
          rw [f, hs i (by omega), cut_at _ _ _ _ (by omega)]
          congr 1
          omega
    have := key ls.length (Nat.le_refl _) t (by rw [hl, b2]; omega)
    show gl ls.flatten t = _
    rw [this]
    congr 1
    omega
end Go.Proofs.Ytpiaofpglagfmaa
/- Layer 3: what a cell's checks tell. -/
namespace Go.Proofs.Ytpiaofpglagfmaa
open Go.RowKit
def cv (c : CR) : Value := .agg #[.int .u8 c.k, .string c.nm, .string c.tx, .int .i64 c.n, .int .i64 c.m]
def ccells (c : CR) : Array Value := #[.int .u8 c.k, .string c.nm, .string c.tx, .int .i64 c.n, .int .i64 c.m]
theorem size_nil {s : ByteArray} (h : s.toList = []) : s.size = 0 := by
  rw [ByteArray.toList_eq] at h
  have : s.data = #[] := by simpa using h
  show s.data.size = 0
  rw [this]; rfl
theorem em_yes {s : ByteArray} (h : em s = true) : s = ⟨#[]⟩ := em_eq h
theorem em_no {s : ByteArray} (h : em s = false) : s.toList.isEmpty = false := by
  unfold em at h
  simp only [decide_eq_false_iff_not] at h
  cases hs : s.toList with
  | nil =>
    exfalso
    apply h
    exact size_nil hs
  | cons _ _ => rfl
end Go.Proofs.Ytpiaofpglagfmaa
/- Layer 3: names, and the checks of the kinds by their numbers. -/
namespace Go.Proofs.Ytpiaofpglagfmaa
open Go.RowKit
/-- What a name may have at a place. -/
def okAt (b : UInt8) (j : Nat) : Bool := letB b || (decide (j ≠ 0) && dgB b)
theorem all_from : ∀ (l : List UInt8) (j : Nat), (∀ i (h : i < l.length), okAt l[i] (j + 1 + i) = true) ↔ l.all (fun c => letB c || dgB c) = true
  | [], _ => by simp
  | b :: r, j => by
    have ih := all_from r (j + 1)
    rw [List.all_cons, Bool.and_eq_true, ← ih]
    constructor
    · intro h
      refine ⟨?_, fun i hi => ?_⟩
      · have := h 0 (by simp)
        simpa [okAt] using this
      · have := h (i + 1) (by simpa using hi)
        rw [show j + 1 + (i + 1) = j + 1 + 1 + i by omega] at this
        exact this
    · rintro ⟨h1, h2⟩ i hi
      cases i with
      | zero => simpa [okAt] using h1
      | succ i =>
        have := h2 i (by simpa using hi)
        rw [show j + 1 + (i + 1) = j + 1 + 1 + i by omega]
        exact this
theorem nm_iff (s : ByteArray) : nmB s = true ↔ s.size ≠ 0 ∧ ∀ i (h : i < s.size), okAt s[i] i = true := by
  have e : s.size = s.data.toList.length := by rw [Array.length_toList]; rfl
  have hget : ∀ i (h : i < s.size), s[i] = s.data.toList[i]'(by rw [← e]; exact h) := fun i h => rfl
  have key : (∀ i (h : i < s.size), okAt s[i] i = true) ↔ ∀ i (h : i < s.data.toList.length), okAt s.data.toList[i] i = true :=
    ⟨fun k i h => by have := k i (by rw [e]; exact h); rw [hget] at this; exact this, fun k i h => by rw [hget]; exact k i _⟩
  rw [key, e]
  unfold nmB
  generalize s.data.toList = l
  cases l with
  | nil => simp [nmL]
  | cons b r =>
    have := all_from r 0
    unfold nmL
    rw [Bool.and_eq_true, ← this]
    constructor
    · rintro ⟨h1, h2⟩
      refine ⟨by simp, fun i hi => ?_⟩
      cases i with
      | zero => simpa [okAt] using h1
      | succ i =>
        have := h2 i (by simpa using hi)
        rw [show 0 + 1 + i = i + 1 by omega] at this
        exact this
    · rintro ⟨_, h⟩
      refine ⟨?_, fun i hi => ?_⟩
      · have := h 0 (by simp)
        simpa [okAt] using this
      · have := h (i + 1) (by simpa using hi)
        rw [show 0 + 1 + i = i + 1 by omega]
        exact this
theorem nm_bad {s : ByteArray} {i : Nat} (h : i < s.size) (hb : okAt s[i] i = false) : nmB s = false := by
  cases hn : nmB s with
  | false => rfl
  | true => rw [((nm_iff s).1 hn).2 i h] at hb; cases hb
theorem by256c {P : UInt8 → Bool} (h : (List.range 256).all (fun n => P (UInt8.ofNat n)) = true) (b : UInt8) : P b = true := by
  have := List.all_eq_true.1 h b.toNat (List.mem_range.2 (UInt8.toNat_lt b))
  simpa using this
theorem let_val (b : UInt8) : letB b = (decide (b.toNat = 95) || (decide (97 ≤ b.toNat) && decide (b.toNat ≤ 122)) || (decide (65 ≤ b.toNat) && decide (b.toNat ≤ 90))) := by
  have := by256c (P := fun b => letB b == (decide (b.toNat = 95) || (decide (97 ≤ b.toNat) && decide (b.toNat ≤ 122)) || (decide (65 ≤ b.toNat) && decide (b.toNat ≤ 90)))) (by decide +kernel) b
  simpa using this
theorem dg_val (b : UInt8) : dgB b = (decide (48 ≤ b.toNat) && decide (b.toNat ≤ 57)) := by
  have := by256c (P := fun b => dgB b == (decide (48 ≤ b.toNat) && decide (b.toNat ≤ 57))) (by decide +kernel) b
  simpa using this
end Go.Proofs.Ytpiaofpglagfmaa
/- Layer 3: the checks of the kinds, by the kind's number; the array of them. -/
namespace Go.Proofs.Ytpiaofpglagfmaa
open Go.RowKit
theorem ck_yes {s : ByteArray} (h : ckB s = true) : ckE s = 0 := by unfold ckB at h; simpa using h
theorem ck_no {s : ByteArray} (h : ckB s = false) : ckE s ≠ 0 := by unfold ckB at h; simpa using h
end Go.Proofs.Ytpiaofpglagfmaa
/- Layer 3: the array of the checks; the names that an object's members have had. -/
namespace Go.Proofs.Ytpiaofpglagfmaa
open Go.RowKit Go.Maps Go.WideMaps
theorem law9 : Keyed Try.prog 9 := string_keyed Try.underlying9
theorem zeroU (w : World) : (zeroValue 36).run Try.prog w = .ok (.agg #[]) w := by kernel_rfl
def keyL (s : ByteArray) : Lit := .string s.data.toList
def setN (names : List ByteArray) : DataW Unit := setOf (.agg []) (names.reverse.map keyL)
theorem setN_cons (s : ByteArray) (names : List ByteArray) : setN (s :: names) = (setN names).put (keyL s) (.agg []) := by
  unfold setN
  rw [List.reverse_cons, List.map_append]
  exact setOf_snoc _ _ _
theorem has_setN (names : List ByteArray) (s : ByteArray) : Maps.has (setN names) (keyL s) = names.any (fun x => decide (x = s)) := by
  unfold setN
  rw [has_setOf _ _ _ (fun x hx => by obtain ⟨y, _, rfl⟩ := List.mem_map.1 hx; trivial)]
  rw [List.any_map, Bool.eq_iff_iff, List.any_eq_true, List.any_eq_true]
  have e : ∀ x : ByteArray, ((fun x => x.sameKey (keyL s)) ∘ keyL) x = decide (x = s) := fun x => by
    rw [Bool.eq_iff_iff, decide_eq_true_eq]
    show (x.data.toList == s.data.toList) = true ↔ _
    rw [beq_iff_eq, Array.toList_inj]
    exact ⟨fun h => ByteArray.ext h, fun h => by rw [h]⟩
  constructor
  · rintro ⟨x, hx, h⟩
    rw [e] at h
    exact ⟨x, List.mem_reverse.1 hx, h⟩
  · rintro ⟨x, hx, h⟩
    exact ⟨x, List.mem_reverse.2 hx, by rw [e]; exact h⟩
/-- A map that holds the names met. -/
def Met (w : World) (b n : Nat) (names : List ByteArray) : Prop := w.ownsMap Try.prog 9 (unitElem (H := Unit)) b n (setN names)
end Go.Proofs.Ytpiaofpglagfmaa

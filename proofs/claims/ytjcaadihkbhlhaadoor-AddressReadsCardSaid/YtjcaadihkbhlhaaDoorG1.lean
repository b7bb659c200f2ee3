import Derived.Test.YtjcaadihkbhlhaaDoorShelf
import Derived.WalkKit
import Derived.Lib.Hide
import Derived.Lib.DecodeN
import Derived.Laws.RangeAny
import Derived.Laws.Runes
import Derived.Deep.LoopGhost
import Derived.Deep.QuietTactic
import Derived.BigQuiet
import Derived.Below
namespace Go.Proofs.YtjcaadihkbhlhaaDoor
open Go.RowKit
theorem below_dr {B : Nat} {w w1 : World} (h : Below B w w1) (n : Nat) : Below B w (w1.drewN n) :=
  ⟨h.os, h.tape, h.output, h.size, h.block⟩
/-- The two marks that end an authority. -/
def twoM : ByteArray := ⟨#[47, 63]⟩
theorem enc_shape (r : Int) (h : 128 ≤ r) : (∃ x0 x1 : UInt8, Utf8.encode r = ⟨#[x0, x1]⟩ ∧ 128 ≤ x1.toNat) ∨ (∃ x0 x1 x2 : UInt8, Utf8.encode r = ⟨#[x0, x1, x2]⟩) ∨ (∃ x0 x1 x2 x3 : UInt8, Utf8.encode r = ⟨#[x0, x1, x2, x3]⟩) := by
  obtain ⟨c, hc⟩ : ∃ c, c = (if Utf8.valid r = true then r.toNat else Utf8.runeError) := ⟨_, rfl⟩
  have hc1 : ¬ c < 128 := by
    rw [hc]; split
    · omega
    · decide
  by_cases h2 : c < 2048
  · left
    refine ⟨UInt8.ofNat (0xC0 + c / 64), UInt8.ofNat (0x80 + c % 64), ?_, ?_⟩
    · unfold Utf8.encode
      simp only [← hc, if_neg hc1, if_pos h2]
    · simp; omega
  · by_cases h3 : c < 65536
    · right; left
      refine ⟨UInt8.ofNat (0xE0 + c / 4096), UInt8.ofNat (0x80 + c / 64 % 64), UInt8.ofNat (0x80 + c % 64), ?_⟩
      unfold Utf8.encode
      simp only [← hc, if_neg hc1, if_neg h2, if_pos h3]
    · right; right
      refine ⟨UInt8.ofNat (0xF0 + c / 262144), UInt8.ofNat (0x80 + c / 4096 % 64), UInt8.ofNat (0x80 + c / 64 % 64), UInt8.ofNat (0x80 + c % 64), ?_⟩
      unfold Utf8.encode
      simp only [← hc, if_neg hc1, if_neg h2, if_neg h3]
theorem dec_range (s : ByteArray) (i : Nat) (h : 128 ≤ (s.get! i).toNat) : 128 ≤ (Utf8.decode s i).1 ∧ ((Utf8.decode s i).1 < 55296 ∨ (57344 ≤ (Utf8.decode s i).1 ∧ (Utf8.decode s i).1 ≤ 1114111)) := by
  rw [Lib.decode_at]
  have hb := (s.get! i).toNat_lt
  unfold Lib.decodeN
  repeat' split
  all_goals first | (exfalso; omega) | (simp only; omega)
theorem dec_width (s : ByteArray) (i : Nat) (hi : i < s.size) : 1 ≤ (Utf8.decode s i).2 ∧ i + (Utf8.decode s i).2 ≤ s.size ∧ ∀ k, 1 ≤ k → k < (Utf8.decode s i).2 → (s.get! (i + k)).toNat / 64 = 2 := by
  rw [Lib.decode_at]
  have hb := (s.get! i).toNat_lt
  generalize s.get! i = b0 at *
  generalize h1 : s.get! (i + 1) = b1
  generalize h2 : s.get! (i + 2) = b2
  generalize h3 : s.get! (i + 3) = b3
  unfold Lib.decodeN
  repeat' split
  all_goals refine ⟨by simp only; omega, by simp only; omega, fun k hk1 hk2 => ?_⟩
  all_goals simp only at hk2
  all_goals first | (exfalso; omega) | skip
  · obtain rfl : k = 1 := by omega
    rw [h1]; omega
  · rcases (by omega : k = 1 ∨ k = 2) with rfl | rfl
    · rw [h1]; omega
    · rw [h2]; omega
  · rcases (by omega : k = 1 ∨ k = 2 ∨ k = 3) with rfl | rfl | rfl
    · rw [h1]; omega
    · rw [h2]; omega
    · rw [h3]; omega
theorem get_of (s : ByteArray) (i : Nat) (h : i < s.size) : s.get! i = s[i] := get_at s i h
theorem list_of (s : ByteArray) (i : Nat) (h : i < s.size) : s.data.toList[i]? = some (s.get! i) := by
  rw [get_of s i h, Lib.data_getElem? s i h]
theorem noany_dec (s : ByteArray) (i : Nat) (hi : i < s.size) (h128 : 128 ≤ (s.get! i).toNat) (hno : Lib.NoAny s.data.toList [47, 63] i) : Lib.NoAny s.data.toList [47, 63] (i + (Utf8.decode s i).2) := by
  obtain ⟨h1, h2, h3⟩ := dec_width s i hi
  intro j b hj hb
  by_cases hlt : j < i
  · exact hno j b hlt hb
  · have hjs : j < s.size := by omega
    rw [list_of s j hjs] at hb
    have e := Option.some.inj hb
    have hb128 : 128 ≤ b.toNat := by
      rw [← e]
      by_cases hji : j = i
      · rw [hji]; exact h128
      · have := h3 (j - i) (by omega) (by omega)
        rw [show i + (j - i) = j by omega] at this
        omega
    have n1 : b ≠ 47 := fun q => by rw [q] at hb128; exact absurd hb128 (by decide)
    have n2 : b ≠ 63 := fun q => by rw [q] at hb128; exact absurd hb128 (by decide)
    simp [n1, n2]
set_option maxRecDepth 20000 in
set_option maxHeartbeats 1000000 in
theorem irune_err (w : World) : Calls Tryd.prog 30 #[.string twoM, .int .i32 65533] w fun e w' => e = .returned (.int .i64 (-1)) ∧ Below w.heap.size w w' := by
  unfold twoM
  have hn0 := fun ty => run_next_ascii (P := Tryd.prog) w ⟨#[47, 63]⟩ 0 ty (by decide) (by decide)
  have hn1 := fun ty => run_next_ascii (P := Tryd.prog) w ⟨#[47, 63]⟩ 1 ty (by decide) (by decide)
  have hn2 := fun ty => run_next_end (P := Tryd.prog) w ⟨#[47, 63]⟩ 2 ty (by decide)
  go_enter Tryd.func30, Tryd.ntmps30
  go_wp2_with fail
  go_loopg [5, 6] 2 (fun g _ _ wx => ∃ i : Nat, i + g = 2 ∧ wx = w.iter ⟨#[47, 63]⟩ i)
  case atStart => exact ⟨0, by omega, rfl⟩
  case round =>
    obtain ⟨i, hig, rfl⟩ := hrel
    rcases (by omega : i = 0 ∨ i = 1 ∨ i = 2) with rfl | rfl | rfl
    · obtain rfl : gk = 2 := by omega
      go_wp2_with fail
      go_roundg 1
      case measure => omega
      case rel => exact ⟨1, by omega, rfl⟩
    · obtain rfl : gk = 1 := by omega
      go_wp2_with fail
      go_roundg 0
      case measure => omega
      case rel => exact ⟨2, by omega, rfl⟩
    · obtain rfl : gk = 0 := by omega
      go_wp2_with fail
      go_ret
      exact ⟨rfl, (Below.refl _ w).alloc (Nat.le_refl _) _⟩
end Go.Proofs.YtjcaadihkbhlhaaDoor

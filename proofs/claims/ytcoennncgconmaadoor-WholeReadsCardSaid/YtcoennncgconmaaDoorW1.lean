import Derived.Test.YtcoennncgconmaaDoorW0
namespace Go.Proofs.YtcoennncgconmaaDoor
open Go.RowKit

theorem sub_any (a b : Int) (w : World) (l : Lim w) (ha : -9223372036854775808 ≤ a) (ha' : a ≤ 9223372036854775807) (hb : -9223372036854775808 ≤ b) (hb' : b ≤ 9223372036854775807) :
    Calls Tryd.prog 17 #[.int .i64 a, .int .i64 b] w fun e w' => e = .returned (.tuple #[.int .i64 (val (a - b)), .int .i64 (err (a - b))]) ∧ w = w' := by
  go_enter Tryd.func17, Tryd.ntmps17
  go_wp2_with fail
  refine (split_any a _ ha ha').mono ?_
  rintro e w' ⟨⟨s, m, rfl, hs, m0, m1, hm⟩, rfl⟩
  have Hm := Lib.hid hm; clear hm
  go_wp2_with fail
  refine (split_any b _ hb hb').mono ?_
  rintro e w' ⟨⟨t, n, rfl, ht, n0, n1, hn⟩, rfl⟩
  have hz : sv s m + sv (1 - t) n = a - b := by
    rw [Hm.out]; rw [← hn]; rcases ht with rfl | rfl <;> simp [sv]; omega
  clear hn
  have Hz := Lib.hid hz; clear hz
  go_wp2_with fail
  refine (other_any t _ ht).mono ?_
  rintro e w' ⟨rfl, rfl⟩
  go_wp2_with fail
  refine (sum_any s (1 - t) m n _ l hs (by omega) m0 m1 n0 n1).mono ?_
  rintro e w' ⟨rfl, rfl⟩
  go_wp2_with fail
  go_ret2
  exact ⟨ret2 (by rw [Hz.out]) (by rw [Hz.out]), rfl⟩

theorem neg_any (a : Int) (w : World) (l : Lim w) (ha : -9223372036854775808 ≤ a) (ha' : a ≤ 9223372036854775807) :
    Calls Tryd.prog 10 #[.int .i64 a] w fun e w' => e = .returned (.tuple #[.int .i64 (val (-a)), .int .i64 (err (-a))]) ∧ w = w' := by
  go_enter Tryd.func10, Tryd.ntmps10
  go_wp2_with fail
  refine (split_any a _ ha ha').mono ?_
  rintro e w' ⟨⟨s, m, rfl, hs, m0, m1, hm⟩, rfl⟩
  have hz : sv (1 - s) m = -a := by
    rw [← hm]; rcases hs with rfl | rfl <;> simp [sv]
  clear hm
  have Hz := Lib.hid hz; clear hz
  go_wp2_with fail
  refine (other_any s _ hs).mono ?_
  rintro e w' ⟨rfl, rfl⟩
  go_wp2_with fail
  refine (join_any (1 - s) m _ l (by omega) (by omega) (by omega)).mono ?_
  rintro e w' ⟨rfl, rfl⟩
  go_wp2_with fail
  go_ret2
  exact ⟨ret2 (by rw [Hz.out]) (by rw [Hz.out]), rfl⟩

theorem hi_lo (m n : Nat) : (m * n / 18446744073709551616 = 0 ∧ m * n % 18446744073709551616 = m * n) ∨ (m * n / 18446744073709551616 ≠ 0 ∧ 18446744073709551616 ≤ m * n) := by omega
theorem sv_mul (s t m n : Int) (hs : s = 0 ∨ s = 1) (ht : t = 0 ∨ t = 1) : (s = t → sv s m * sv t n = sv 1 (m * n)) ∧ (s ≠ t → sv s m * sv t n = sv 0 (m * n)) := by
  rcases hs with rfl | rfl <;> rcases ht with rfl | rfl <;> simp [sv, Int.neg_mul, Int.mul_neg]

theorem mul_any (a b : Int) (w : World) (l : Lim w) (ha : -9223372036854775808 ≤ a) (ha' : a ≤ 9223372036854775807) (hb : -9223372036854775808 ≤ b) (hb' : b ≤ 9223372036854775807) :
    Calls Tryd.prog 9 #[.int .i64 a, .int .i64 b] w fun e w' => e = .returned (.tuple #[.int .i64 (val (a * b)), .int .i64 (err (a * b))]) ∧ w = w' := by
  go_enter Tryd.func9, Tryd.ntmps9
  go_wp2_with fail
  refine (split_any a _ ha ha').mono ?_
  rintro e w' ⟨⟨s, m, rfl, hs, m0, m1, hm⟩, rfl⟩
  have Hm := Lib.hid hm; clear hm
  go_wp2_with fail
  refine (split_any b _ hb hb').mono ?_
  rintro e w' ⟨⟨t, n, rfl, ht, n0, n1, hn⟩, rfl⟩
  have Hn := Lib.hid hn; clear hn
  obtain ⟨m, rfl⟩ := Int.eq_ofNat_of_zero_le m0
  obtain ⟨n, rfl⟩ := Int.eq_ofNat_of_zero_le n0
  have sm := sv_mul s t m n hs ht
  rw [Hm.out, Hn.out] at sm
  have Sm := Lib.hid sm; clear sm
  go_wp2_with fail
  refine (Tryd.bits_Mul64 m n (by omega) (by omega) _).mono ?_
  rintro e w' ⟨rfl, rfl⟩
  rcases hi_lo m n with ⟨h1, h2⟩ | ⟨h1, h2⟩
  · rw [h1, h2]
    have hb : (m : Int) * n < 18446744073709551616 := by rw [← Int.natCast_mul]; omega
    have hp : (0 : Int) ≤ (m : Int) * n := by rw [← Int.natCast_mul]; omega
    rw [Int.natCast_mul]
    generalize (m : Int) * n = p at *
    clear h1 h2
    rcases hs with rfl | rfl <;> rcases ht with rfl | rfl
    all_goals
      go_wp2_with fail
      refine (join_any _ p _ l (by omega) (by omega) (by omega)).mono ?_
      rintro e w' ⟨rfl, rfl⟩
      go_wp2_with fail
      go_ret2
      refine ⟨ret2 ?_ ?_, rfl⟩ <;> (have q := Sm.out; simp at q; rw [q])
  · have hb : (18446744073709551616 : Int) ≤ (m : Int) * n := by rw [← Int.natCast_mul]; omega
    have hno : a * b < -9223372036854775808 ∨ 9223372036854775807 < a * b := by
      by_cases hst : s = t
      · rw [Sm.out.1 hst]; simp [sv]; omega
      · rw [Sm.out.2 hst]; simp [sv]; omega
    have e1 := val_no hno
    have e2 := err_no hno
    have E1 := Lib.hid e1
    have E2 := Lib.hid e2
    have hq : (((m * n / 18446744073709551616 : Nat) : Int) != 0) = true := by simp; omega
    generalize ((m * n / 18446744073709551616 : Nat) : Int) = q at *
    generalize ((m * n % 18446744073709551616 : Nat) : Int) = r at *
    clear h1 h2 e1 e2 hno hb
    go_wp2_with fail
    go_ret2
    exact ⟨ret2 E1.out.symm E2.out.symm, rfl⟩
end Go.Proofs.YtcoennncgconmaaDoor

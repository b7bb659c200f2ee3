import Derived.Test.YtcoennncgconmaaDoorPlain
import Derived.Test.YtcoennncgconmaaDoorShelf
import Derived.WalkKit
import Derived.WalkSpells
import Derived.WalkLawsBesides
import Derived.Outline
import Derived.Laws.Externs
import Derived.BigQuiet
import Derived.Lib.Hide
import Derived.Deep.QuietTactic
namespace Go.Proofs.YtcoennncgconmaaDoor
open Go.RowKit

theorem split_any (n : Int) (w : World) (h0 : -9223372036854775808 ≤ n) (h1 : n ≤ 9223372036854775807) :
    Calls Tryd.prog 26 #[.int .i64 n] w fun e w' => (∃ s m : Int, e = .returned (.tuple #[.int .u8 s, .int .u64 m]) ∧ (s = 0 ∨ s = 1) ∧ 0 ≤ m ∧ m ≤ 9223372036854775808 ∧ sv s m = n) ∧ w = w' := by
  by_cases hn : n < 0
  · go_enter Tryd.func26, Tryd.ntmps26
    go_wp2
    go_ret2
    exact ⟨⟨0, -n, ret2 rfl (neg_wrap n h0 hn), .inl rfl, by omega, by omega, by simp [sv]⟩, rfl⟩
  · go_enter Tryd.func26, Tryd.ntmps26
    go_wp2
    go_ret2
    exact ⟨⟨1, n, rfl, .inr rfl, by omega, by omega, by simp [sv]⟩, rfl⟩

/-- What the table of limits holds. -/
def Lim (w : World) : Prop := w.cell? ⟨0, 0, none⟩ = some (.int .u64 9223372036854775808) ∧ w.cell? ⟨0, 1, none⟩ = some (.int .u64 9223372036854775807)

theorem limit0 (w : World) (l : Lim w) : Calls Tryd.prog 37 #[.int .u8 0] w fun e w' => e = .returned (.int .u64 9223372036854775808) ∧ w = w' := by
  obtain ⟨l0, _⟩ := l
  go_enter Tryd.func37, Tryd.ntmps37
  go_wp2
  go_ret
  exact ⟨rfl, rfl⟩
theorem limit1 (w : World) (l : Lim w) : Calls Tryd.prog 37 #[.int .u8 1] w fun e w' => e = .returned (.int .u64 9223372036854775807) ∧ w = w' := by
  obtain ⟨_, l1⟩ := l
  go_enter Tryd.func37, Tryd.ntmps37
  go_wp2
  go_ret
  exact ⟨rfl, rfl⟩
theorem add64_run (x y : Int) (hx : 0 ≤ x) (hy : 0 ≤ y) (w : World) : (callFunc 34 #[.int .u64 x, .int .u64 y, .int .u64 0]).run Tryd.prog w = .ok (.value (.tuple #[.int .u64 ((x + y) % 18446744073709551616), .int .u64 ((x + y) / 18446744073709551616)])) w := by
  rw [run_callFunc_extern Tryd.func34 (by kernel_rfl) (by kernel_rfl) (by kernel_rfl) (e := add64Entry) (by kernel_rfl), run_add64 x y 0 hx hy (by omega) (by omega)]
  simp only [Result.andThen, Int.add_zero]

theorem join_any (s m : Int) (w : World) (l : Lim w) (hs : s = 0 ∨ s = 1) (h0 : 0 ≤ m) (h1 : m < 18446744073709551616) :
    Calls Tryd.prog 28 #[.int .u8 s, .int .u64 m] w fun e w' => e = .returned (.tuple #[.int .i64 (val (sv s m)), .int .i64 (err (sv s m))]) ∧ w = w' := by
  rcases hs with rfl | rfl
  · by_cases h : m ≤ 9223372036854775808
    · go_enter Tryd.func28, Tryd.ntmps28
      go_wp2_with (go_at_call 37; refine (limit0 _ l).mono ?_; rintro e w' ⟨rfl, rfl⟩)
      go_ret2
      have hz : sv 0 m = -m := by simp [sv]
      exact ⟨ret2 (by rw [hz, back_wrap m h0 h, val_yes (by omega) (by omega)]) (by rw [hz, err_yes (by omega) (by omega)]), rfl⟩
    · go_enter Tryd.func28, Tryd.ntmps28
      go_wp2_with (go_at_call 37; refine (limit0 _ l).mono ?_; rintro e w' ⟨rfl, rfl⟩)
      go_ret2
      have hz : sv 0 m = -m := by simp [sv]
      exact ⟨ret2 (by rw [hz, val_no (by omega)]) (by rw [hz, err_no (by omega)]), rfl⟩
  · by_cases h : m ≤ 9223372036854775807
    · go_enter Tryd.func28, Tryd.ntmps28
      go_wp2_with (go_at_call 37; refine (limit1 _ l).mono ?_; rintro e w' ⟨rfl, rfl⟩)
      go_ret2
      have hz : sv 1 m = m := by simp [sv]
      exact ⟨ret2 (by rw [hz, val_yes (by omega) (by omega)]) (by rw [hz, err_yes (by omega) (by omega)]), rfl⟩
    · go_enter Tryd.func28, Tryd.ntmps28
      go_wp2_with (go_at_call 37; refine (limit1 _ l).mono ?_; rintro e w' ⟨rfl, rfl⟩)
      go_ret2
      have hz : sv 1 m = m := by simp [sv]
      exact ⟨ret2 (by rw [hz, val_no (by omega)]) (by rw [hz, err_no (by omega)]), rfl⟩

theorem sum_same (s m n : Int) (w : World) (l : Lim w) (hs : s = 0 ∨ s = 1) (h0 : 0 ≤ m) (h1 : m ≤ 9223372036854775808) (h2 : 0 ≤ n) (h3 : n ≤ 9223372036854775808) :
    Calls Tryd.prog 30 #[.int .u8 s, .int .u64 m, .int .u8 s, .int .u64 n] w fun e w' => e = .returned (.tuple #[.int .i64 (val (sv s m + sv s n)), .int .i64 (err (sv s m + sv s n))]) ∧ w = w' := by
  have ha := add64_run m n h0 h2 w
  have hz : sv s m + sv s n = sv s (m + n) := by rcases hs with rfl | rfl <;> simp [sv]; omega
  rw [hz]; clear hz
  by_cases hlt : m + n < 18446744073709551616
  · rw [Int.emod_eq_of_lt (by omega) hlt, Int.ediv_eq_zero_of_lt (by omega) hlt] at ha
    rcases hs with rfl | rfl
    all_goals
      go_enter Tryd.func30, Tryd.ntmps30
      go_wp2_with (go_at_call 28; refine (join_any _ _ _ l (by omega) (by omega) (by omega)).mono ?_; rintro e w' ⟨rfl, rfl⟩)
      go_ret2
      exact ⟨rfl, rfl⟩
  · have hm : m = 9223372036854775808 ∧ n = 9223372036854775808 := by omega
    obtain ⟨rfl, rfl⟩ := hm
    clear hlt h0 h1 h2 h3
    have e1 : ((9223372036854775808 : Int) + 9223372036854775808) % 18446744073709551616 = 0 := by decide
    have e2 : ((9223372036854775808 : Int) + 9223372036854775808) / 18446744073709551616 = 1 := by decide
    rw [e1, e2] at ha
    clear e1 e2
    rcases hs with rfl | rfl
    all_goals
      go_enter Tryd.func30, Tryd.ntmps30
      go_wp2_with (go_at_call 28; refine (join_any _ _ _ l (by omega) (by omega) (by omega)).mono ?_; rintro e w' ⟨rfl, rfl⟩)
      go_ret2
      exact ⟨ret2 (by rw [val_no (by simp [sv])]) (by rw [err_no (by simp [sv])]), rfl⟩

theorem sum_diff (s t m n : Int) (w : World) (l : Lim w) (hs : s = 0 ∧ t = 1 ∨ s = 1 ∧ t = 0) (h0 : 0 ≤ m) (h1 : m ≤ 9223372036854775808) (h2 : 0 ≤ n) (h3 : n ≤ 9223372036854775808) :
    Calls Tryd.prog 30 #[.int .u8 s, .int .u64 m, .int .u8 t, .int .u64 n] w fun e w' => e = .returned (.tuple #[.int .i64 (val (sv s m + sv t n)), .int .i64 (err (sv s m + sv t n))]) ∧ w = w' := by
  by_cases hge : n ≤ m
  · have hz : sv s m + sv t n = sv s (m - n) := by rcases hs with ⟨rfl, rfl⟩ | ⟨rfl, rfl⟩ <;> simp [sv] <;> omega
    rw [hz]; clear hz
    rcases hs with ⟨rfl, rfl⟩ | ⟨rfl, rfl⟩
    all_goals
      go_enter Tryd.func30, Tryd.ntmps30
      go_wp2_with (go_at_call 28; refine (join_any _ _ _ l (by omega) (by omega) (by omega)).mono ?_; rintro e w' ⟨rfl, rfl⟩)
      go_ret2
      exact ⟨rfl, rfl⟩
  · have hz : sv s m + sv t n = sv t (n - m) := by rcases hs with ⟨rfl, rfl⟩ | ⟨rfl, rfl⟩ <;> simp [sv] <;> omega
    rw [hz]; clear hz
    rcases hs with ⟨rfl, rfl⟩ | ⟨rfl, rfl⟩
    all_goals
      go_enter Tryd.func30, Tryd.ntmps30
      go_wp2_with (go_at_call 28; refine (join_any _ _ _ l (by omega) (by omega) (by omega)).mono ?_; rintro e w' ⟨rfl, rfl⟩)
      go_ret2
      exact ⟨rfl, rfl⟩

theorem sum_any (s t m n : Int) (w : World) (l : Lim w) (hs : s = 0 ∨ s = 1) (ht : t = 0 ∨ t = 1) (h0 : 0 ≤ m) (h1 : m ≤ 9223372036854775808) (h2 : 0 ≤ n) (h3 : n ≤ 9223372036854775808) :
    Calls Tryd.prog 30 #[.int .u8 s, .int .u64 m, .int .u8 t, .int .u64 n] w fun e w' => e = .returned (.tuple #[.int .i64 (val (sv s m + sv t n)), .int .i64 (err (sv s m + sv t n))]) ∧ w = w' := by
  by_cases h : s = t
  · subst h; exact sum_same s m n w l hs h0 h1 h2 h3
  · exact sum_diff s t m n w l (by omega) h0 h1 h2 h3

theorem other_any (s : Int) (w : World) (hs : s = 0 ∨ s = 1) :
    Calls Tryd.prog 29 #[.int .u8 s] w fun e w' => e = .returned (.int .u8 (1 - s)) ∧ w = w' := by
  rcases hs with rfl | rfl
  all_goals
    go_enter Tryd.func29, Tryd.ntmps29
    go_wp2
    go_ret
    exact ⟨rfl, rfl⟩

theorem add_any (a b : Int) (w : World) (l : Lim w) (ha : -9223372036854775808 ≤ a) (ha' : a ≤ 9223372036854775807) (hb : -9223372036854775808 ≤ b) (hb' : b ≤ 9223372036854775807) :
    Calls Tryd.prog 15 #[.int .i64 a, .int .i64 b] w fun e w' => e = .returned (.tuple #[.int .i64 (val (a + b)), .int .i64 (err (a + b))]) ∧ w = w' := by
  go_enter Tryd.func15, Tryd.ntmps15
  go_wp2_with fail
  refine (split_any a _ ha ha').mono ?_
  rintro e w' ⟨⟨s, m, rfl, hs, m0, m1, hm⟩, rfl⟩
  have Hm := Lib.hid hm; clear hm
  go_wp2_with fail
  refine (split_any b _ hb hb').mono ?_
  rintro e w' ⟨⟨t, n, rfl, ht, n0, n1, hn⟩, rfl⟩
  have Hn := Lib.hid hn; clear hn
  go_wp2_with fail
  refine (sum_any s t m n _ l hs ht m0 m1 n0 n1).mono ?_
  rintro e w' ⟨rfl, rfl⟩
  go_wp2_with fail
  go_ret2
  exact ⟨ret2 (by rw [Hm.out, Hn.out]) (by rw [Hm.out, Hn.out]), rfl⟩
end Go.Proofs.YtcoennncgconmaaDoor

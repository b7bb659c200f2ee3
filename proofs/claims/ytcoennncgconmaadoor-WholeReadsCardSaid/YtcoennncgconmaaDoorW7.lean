import Derived.Test.YtcoennncgconmaaDoorW6
namespace Go.Proofs.YtcoennncgconmaaDoor
open Go.RowKit

theorem lim_later {w w' : World} (h : Below w.heap.size w w') (l : Lim w) : Lim w' := ⟨cell_later h l.1, cell_later h l.2⟩

theorem reads_yes (s : ByteArray) (a b : Int) (w : World) (l : Lim w) (hs : s.size ≤ maxLen) (h1 : rdV s = a) (h2 : rdE s = b) :
    Calls Tryd.prog 11 #[.string s, .int .i64 a, .int .i64 b] w fun e w' => e = .returned (.bool true) ∧ Below w.heap.size w w' := by
  have H1 := Lib.hid h1
  have H2 := Lib.hid h2
  clear h1 h2
  go_enter Tryd.func11, Tryd.ntmps11
  go_wp2_with fail
  refine (read_rest s _ l hs).mono ?_
  rintro e w1 ⟨rfl, b1⟩
  rw [H1.out, H2.out]
  go_wp2_with fail
  refine (is_yes _ _ _).mono ?_
  rintro e w' ⟨rfl, rfl⟩
  go_wp2_with fail
  go_ret
  exact ⟨rfl, b1⟩
theorem small_any (n : Int) (w : World) :
    Calls Tryd.prog 14 #[.int .i64 n] w fun e w' => e = .returned (.bool (decide (-2147483648 ≤ n ∧ n ≤ 2147483647))) ∧ w = w' := by
  by_cases h1 : -2147483648 ≤ n
  · by_cases h2 : n ≤ 2147483647
    · go_enter Tryd.func14, Tryd.ntmps14
      go_wp2
      go_ret
      exact ⟨ret_bool (by simp; omega), rfl⟩
    · go_enter Tryd.func14, Tryd.ntmps14
      go_wp2
      go_ret
      exact ⟨ret_bool (by simp; omega), rfl⟩
  · go_enter Tryd.func14, Tryd.ntmps14
    go_wp2
    go_ret
    exact ⟨ret_bool (by simp; omega), rfl⟩

set_option maxHeartbeats 1000000 in
theorem names_walk (w : World) (l : Lim w) :
    Calls Tryd.prog 3 #[] w fun e w' => e = .returned (.bool true) ∧ Below w.heap.size w w' := by
  go_enter Tryd.func3, Tryd.ntmps3
  go_wp2_with fail
  refine (mul_any _ _ _ l (by omega) (by omega) (by omega) (by omega)).mono ?_
  rintro e w' ⟨rfl, rfl⟩
  rw [show val (-9223372036854775808 * -1) = 0 from by decide, show err (-9223372036854775808 * -1) = 20 from by decide]
  go_wp2_with fail
  refine (neg_any _ _ l (by omega) (by omega)).mono ?_
  rintro e w' ⟨rfl, rfl⟩
  rw [show val (- -9223372036854775808) = 0 from by decide, show err (- -9223372036854775808) = 20 from by decide]
  go_wp2_with fail
  refine (mul_any _ _ _ l (by omega) (by omega) (by omega) (by omega)).mono ?_
  rintro e w' ⟨rfl, rfl⟩
  rw [show val (3037000500 * 3037000500) = 0 from by decide, show err (3037000500 * 3037000500) = 20 from by decide]
  go_wp2_with fail
  refine (reads_yes _ _ _ _ l (by decide) (by decide +kernel) (by decide +kernel)).mono ?_
  rintro e w1 ⟨rfl, b1⟩
  have l1 := lim_later b1 l
  go_wp2_with fail
  refine (reads_yes _ _ _ _ l1 (by decide) (by decide +kernel) (by decide +kernel)).mono ?_
  rintro e w2 ⟨rfl, b2⟩
  have l2 := lim_later b2 l1
  replace b2 := b1.trans (b2.mono b1.size)
  clear b1 l1
  go_wp2_with fail
  refine (reads_yes _ _ _ _ l2 (by decide) (by decide +kernel) (by decide +kernel)).mono ?_
  rintro e w3 ⟨rfl, b3⟩
  have l3 := lim_later b3 l2
  replace b3 := b2.trans (b3.mono b2.size)
  clear b2 l2
  go_wp2_with fail
  refine (reads_yes _ _ _ _ l3 (by decide) (by decide +kernel) (by decide +kernel)).mono ?_
  rintro e w4 ⟨rfl, b4⟩
  have l4 := lim_later b4 l3
  replace b4 := b3.trans (b4.mono b3.size)
  clear b3 l3
  go_wp2_with fail
  refine (reads_yes _ _ _ _ l4 (by decide) (by decide +kernel) (by decide +kernel)).mono ?_
  rintro e w5 ⟨rfl, b5⟩
  have l5 := lim_later b5 l4
  replace b5 := b4.trans (b5.mono b4.size)
  clear b4 l4
  go_wp2_with fail
  refine (reads_yes _ _ _ _ l5 (by decide) (by decide +kernel) (by decide +kernel)).mono ?_
  rintro e w6 ⟨rfl, b6⟩
  have l6 := lim_later b6 l5
  replace b6 := b5.trans (b6.mono b5.size)
  clear b5 l5
  go_wp2_with fail
  refine (reads_yes _ _ _ _ l6 (by decide) (by decide +kernel) (by decide +kernel)).mono ?_
  rintro e w7 ⟨rfl, b7⟩
  have l7 := lim_later b7 l6
  replace b7 := b6.trans (b7.mono b6.size)
  clear b6 l6
  go_wp2_with fail
  refine (alive_true _ l7).mono ?_
  rintro e w' ⟨rfl, rfl⟩
  go_wp2_with fail
  refine (is_yes _ _ _).mono ?_
  rintro e w' ⟨rfl, rfl⟩
  go_wp2_with fail
  refine (is_yes _ _ _).mono ?_
  rintro e w' ⟨rfl, rfl⟩
  go_wp2_with fail
  refine (is_yes _ _ _).mono ?_
  rintro e w' ⟨rfl, rfl⟩
  go_wp2_with fail
  refine (small_any _ _).mono ?_
  rintro e w' ⟨rfl, rfl⟩
  go_wp2_with fail
  refine (small_any _ _).mono ?_
  rintro e w' ⟨rfl, rfl⟩
  go_wp2_with fail
  go_ret
  exact ⟨rfl, b7⟩
end Go.Proofs.YtcoennncgconmaaDoor

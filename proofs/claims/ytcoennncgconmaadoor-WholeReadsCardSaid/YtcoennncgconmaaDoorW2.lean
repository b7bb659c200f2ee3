import Derived.Test.YtcoennncgconmaaDoorW1
namespace Go.Proofs.YtcoennncgconmaaDoor
open Go.RowKit

theorem is_yes (a b : Int) (w : World) :
    Calls Tryd.prog 13 #[.int .i64 a, .int .i64 b, .int .i64 a, .int .i64 b] w fun e w' => e = .returned (.bool true) ∧ w = w' := by
  go_enter Tryd.func13, Tryd.ntmps13
  go_wp2_with fail
  go_ret
  exact ⟨rfl, rfl⟩

theorem alive_true (w : World) (l : Lim w) :
    Calls Tryd.prog 12 #[] w fun e w' => e = .returned (.bool true) ∧ w = w' := by
  have hi0 := is_yes 0 20 w
  go_enter Tryd.func12, Tryd.ntmps12
  go_wp2_with fail
  refine (add_any _ _ _ l (by omega) (by omega) (by omega) (by omega)).mono ?_
  rintro e w' ⟨rfl, rfl⟩
  rw [show val (9223372036854775807 + 1) = 0 from by decide, show err (9223372036854775807 + 1) = 20 from by decide]
  go_wp2_with fail
  refine (add_any _ _ _ l (by omega) (by omega) (by omega) (by omega)).mono ?_
  rintro e w' ⟨rfl, rfl⟩
  rw [show val (9223372036854775807 + -1) = 9223372036854775806 from by decide, show err (9223372036854775807 + -1) = 0 from by decide]
  go_wp2_with fail
  refine (mul_any _ _ _ l (by omega) (by omega) (by omega) (by omega)).mono ?_
  rintro e w' ⟨rfl, rfl⟩
  rw [show val (-4611686018427387904 * 2) = -9223372036854775808 from by decide, show err (-4611686018427387904 * 2) = 0 from by decide]
  go_wp2_with fail
  refine (is_yes _ _ _).mono ?_
  rintro e w' ⟨rfl, rfl⟩
  go_wp2_with fail
  refine (is_yes _ _ _).mono ?_
  rintro e w' ⟨rfl, rfl⟩
  go_wp2_with fail
  refine (is_yes _ _ _).mono ?_
  rintro e w' ⟨rfl, rfl⟩
  go_wp2_with fail
  go_ret
  exact ⟨rfl, rfl⟩

theorem rings_walk (a b : Int) (w : World) (l : Lim w) (ha : -9223372036854775808 ≤ a) (ha' : a ≤ 9223372036854775807) (hb : -9223372036854775808 ≤ b) (hb' : b ≤ 9223372036854775807) :
    Calls Tryd.prog 7 #[.int .i64 a, .int .i64 b] w fun e w' => e = .returned (.bool true) ∧ w = w' := by
  have hs := fits_cases (a + b)
  have hm := fits_cases (a * b)
  have hv : val (a + b - b) = a ∧ err (a + b - b) = 0 := by
    rw [Int.add_sub_cancel]; exact ⟨val_yes ha ha', err_yes ha ha'⟩
  have hd : a * (b + 1) = a * b + a := by rw [Int.mul_add, Int.mul_one]
  have r0 := (val_range (a * b)).1
  have r1 := (val_range (a * b)).2
  have Hv := Lib.hid hv
  have Hd := Lib.hid hd
  have HA := Lib.hid (Int.add_comm b a)
  have HM := Lib.hid (Int.mul_comm b a)
  clear hv hd
  rcases hs with ⟨s0, s1, s2, s3⟩ | ⟨s0, s2, s3⟩
  all_goals
    have S2 := Lib.hid s2
    have S3 := Lib.hid s3
    clear s2 s3
    rcases hm with ⟨m0, m1, m2, m3⟩ | ⟨m0, m2, m3⟩
  all_goals
    have M2 := Lib.hid m2
    have M3 := Lib.hid m3
    clear m2 m3
    by_cases hb2 : 9223372036854775807 ≤ b
  all_goals
    go_enter Tryd.func7, Tryd.ntmps7
    go_wp2_with fail
    refine (alive_true _ l).mono ?_
    rintro e w' ⟨rfl, rfl⟩
    go_wp2_with fail
    refine (add_any _ _ _ l ha ha' hb hb').mono ?_
    rintro e w' ⟨rfl, rfl⟩
    rw [S2.out, S3.out]
    go_wp2_with fail
    refine (add_any _ _ _ l hb hb' ha ha').mono ?_
    rintro e w' ⟨rfl, rfl⟩
    rw [HA.out, S2.out, S3.out]
    go_wp2_with fail
    refine (mul_any _ _ _ l ha ha' hb hb').mono ?_
    rintro e w' ⟨rfl, rfl⟩
    rw [M2.out, M3.out]
    go_wp2_with fail
    refine (mul_any _ _ _ l hb hb' ha ha').mono ?_
    rintro e w' ⟨rfl, rfl⟩
    rw [HM.out, M2.out, M3.out]
    go_wp2_with fail
  all_goals first
    | (go_at_call 17; refine (sub_any _ _ _ l (by omega) (by omega) hb hb').mono ?_; rintro e w' ⟨rfl, rfl⟩; rw [Hv.out.1, Hv.out.2]; go_wp2_with fail)
    | skip
  all_goals first
    | (go_ret; exact ⟨rfl, rfl⟩)
    | skip
  all_goals
    refine (mul_any _ _ _ l ha ha' (by omega) (by omega)).mono ?_
    rintro e w' ⟨rfl, rfl⟩
    rw [Hd.out]
    go_wp2_with fail
    refine (add_any _ _ _ l (by omega) (by omega) ha ha').mono ?_
    rintro e w' ⟨rfl, rfl⟩
    go_wp2_with fail
    go_ret
    exact ⟨rfl, rfl⟩
end Go.Proofs.YtcoennncgconmaaDoor

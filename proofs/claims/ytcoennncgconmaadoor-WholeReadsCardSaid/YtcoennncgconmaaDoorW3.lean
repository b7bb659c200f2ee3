import Derived.Test.YtcoennncgconmaaDoorW2
namespace Go.Proofs.YtcoennncgconmaaDoor
open Go.RowKit

/-! ### WholeBounds -/
theorem tdiv_two (x : Int) : 2 * (x.tdiv 2) + x.tmod 2 = x ∧ -1 ≤ x.tmod 2 ∧ x.tmod 2 ≤ 1 ∧ (0 ≤ x → 0 ≤ x.tmod 2) ∧ (x ≤ 0 → x.tmod 2 ≤ 0) := by
  have h0 := Int.mul_tdiv_add_tmod x 2
  by_cases h : 0 ≤ x
  · have h1 := Int.tmod_lt_of_pos x (by omega : (0 : Int) < 2)
    have h2 := Int.tmod_nonneg 2 h
    refine ⟨h0, by omega, by omega, fun _ => h2, fun hx => ?_⟩
    have : x = 0 := by omega
    subst this; decide
  · have e : (-x).tmod 2 = -(x.tmod 2) := Int.neg_tmod x 2
    have h1 := Int.tmod_lt_of_pos (-x) (by omega : (0 : Int) < 2)
    have h2 := Int.tmod_nonneg 2 (by omega : 0 ≤ -x)
    exact ⟨h0, by omega, by omega, fun hx => absurd hx h, fun _ => by omega⟩

theorem half_facts (a b T : Int) (ha : -9223372036854775808 ≤ a) (ha' : a ≤ 9223372036854775807) (hb : -9223372036854775808 ≤ b) (hb' : b ≤ 9223372036854775807)
    (hT : wrap64 (wrap64 (a.tdiv 2 + b.tdiv 2) + wrap64 ((wrap64 (a.tmod 2 + b.tmod 2)).tdiv 2)) = T) :
    (-9223372036854775808 ≤ a + b → a + b ≤ 9223372036854775807 → -4611686018427387904 ≤ T ∧ T ≤ 4611686018427387903) ∧
    (9223372036854775807 < a + b → 4611686018427387903 < T) ∧ (a + b < -9223372036854775808 → T ≤ -4611686018427387904) := by
  obtain ⟨a1, a2, a3, a4, a5⟩ := tdiv_two a
  obtain ⟨b1, b2, b3, b4, b5⟩ := tdiv_two b
  generalize a.tdiv 2 = p at *
  generalize a.tmod 2 = u at *
  generalize b.tdiv 2 = q at *
  generalize b.tmod 2 = v at *
  have e1 : wrap64 (u + v) = u + v := IntWalk.wrap64_in _ (by omega)
  rw [e1] at hT
  obtain ⟨c1, c2, c3, c4, c5⟩ := tdiv_two (u + v)
  generalize (u + v).tdiv 2 = r at *
  generalize (u + v).tmod 2 = t at *
  have e2 : wrap64 (p + q) = p + q := IntWalk.wrap64_in _ (by omega)
  have e3 : wrap64 r = r := IntWalk.wrap64_in _ (by omega)
  have e4 : wrap64 (p + q + r) = p + q + r := IntWalk.wrap64_in _ (by omega)
  rw [e2, e3, e4] at hT
  subst hT
  clear e1 e2 e3 e4
  refine ⟨fun _ _ => ?_, fun _ => ?_, fun _ => ?_⟩
  · constructor <;> omega
  · omega
  · omega

theorem bounds_walk (a b : Int) (w : World) (l : Lim w) (ha : -9223372036854775808 ≤ a) (ha' : a ≤ 9223372036854775807) (hb : -9223372036854775808 ≤ b) (hb' : b ≤ 9223372036854775807) :
    Calls Tryd.prog 8 #[.int .i64 a, .int .i64 b] w fun e w' => e = .returned (.bool true) ∧ w = w' := by
  have hs := fits_cases (a + b)
  have hh := Lib.hid (half_facts a b _ ha ha' hb hb' rfl)
  rcases hs with ⟨s0, s1, s2, s3⟩ | ⟨s0, s2, s3⟩
  · have S2 := Lib.hid s2
    have S3 := Lib.hid s3
    clear s2 s3
    have hin := hh.out.1 s0 s1
    have h1 := hin.1
    have h2 := hin.2
    clear hin hh
    go_enter Tryd.func8, Tryd.ntmps8
    go_wp2_with fail
    refine (alive_true _ l).mono ?_
    rintro e w' ⟨rfl, rfl⟩
    go_wp2_with fail
    refine (add_any _ _ _ l ha ha' hb hb').mono ?_
    rintro e w' ⟨rfl, rfl⟩
    rw [S2.out, S3.out]
    go_wp2_with fail
    all_goals (go_ret; exact ⟨rfl, rfl⟩)
  · have S2 := Lib.hid s2
    have S3 := Lib.hid s3
    have SO := Lib.hid s0
    clear s2 s3 s0
    go_enter Tryd.func8, Tryd.ntmps8
    go_wp2_with fail
    refine (alive_true _ l).mono ?_
    rintro e w' ⟨rfl, rfl⟩
    go_wp2_with fail
    refine (add_any _ _ _ l ha ha' hb hb').mono ?_
    rintro e w' ⟨rfl, rfl⟩
    rw [S2.out, S3.out]
    go_wp2_with fail
    all_goals
      go_ret
      refine ⟨ret_bool ?_, rfl⟩
      have hx := hh.out
      have hy := SO.out
      generalize wrap64 (wrap64 (a.tdiv 2 + b.tdiv 2) + wrap64 ((wrap64 (a.tmod 2 + b.tmod 2)).tdiv 2)) = T at *
      first | rfl | (simp; omega)
end Go.Proofs.YtcoennncgconmaaDoor

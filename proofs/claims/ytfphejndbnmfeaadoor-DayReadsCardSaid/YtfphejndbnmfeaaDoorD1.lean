import Derived.Test.YtfphejndbnmfeaaDoorD0
namespace Go.Proofs.YtfphejndbnmfeaaDoor
open Go.RowKit

/-- A DateTime's value. -/
def dayV (s n : Int) : Value := .agg #[.int .i64 s, .int .i64 n]
/-- May a DateTime be? -/
def may (s n : Int) : Bool := decide (0 ≤ s ∧ s ≤ 315569519999 ∧ 0 ≤ n ∧ n ≤ 999999999)
theorem may_any (s n : Int) (w : World) : Calls Tryd.prog 49 #[.agg #[.int .i64 s, .int .i64 n]] w fun e w' => e = .returned (.bool (may s n)) ∧ Below w.heap.size w w' := by
  by_cases h1 : 0 ≤ s
  · by_cases h2 : s ≤ 315569519999
    · by_cases h3 : 0 ≤ n
      · by_cases h4 : n ≤ 999999999
        · have hr := Lib.hid (show may s n = true by unfold may; exact decide_eq_true ⟨h1, h2, h3, h4⟩)
          go_enter Tryd.func49, Tryd.ntmps49
          go_wp2_with fail
          go_ret
          exact ⟨rbool (by rw [hr.out]), (Below.refl _ w).alloc (Nat.le_refl _) _⟩
        · have hr := Lib.hid (show may s n = false by unfold may; exact decide_eq_false (fun h => h4 h.2.2.2))
          go_enter Tryd.func49, Tryd.ntmps49
          go_wp2_with fail
          go_ret
          exact ⟨rbool (by rw [hr.out]), (Below.refl _ w).alloc (Nat.le_refl _) _⟩
      · have hr := Lib.hid (show may s n = false by unfold may; exact decide_eq_false (fun h => h3 h.2.2.1))
        go_enter Tryd.func49, Tryd.ntmps49
        go_wp2_with fail
        go_ret
        exact ⟨rbool (by rw [hr.out]), (Below.refl _ w).alloc (Nat.le_refl _) _⟩
    · have hr := Lib.hid (show may s n = false by unfold may; exact decide_eq_false (fun h => h2 h.2.1))
      go_enter Tryd.func49, Tryd.ntmps49
      go_wp2_with fail
      go_ret
      exact ⟨rbool (by rw [hr.out]), (Below.refl _ w).alloc (Nat.le_refl _) _⟩
  · have hr := Lib.hid (show may s n = false by unfold may; exact decide_eq_false (fun h => h1 h.1))
    go_enter Tryd.func49, Tryd.ntmps49
    go_wp2_with fail
    go_ret
    exact ⟨rbool (by rw [hr.out]), (Below.refl _ w).alloc (Nat.le_refl _) _⟩
/-- The error of a DateTime. -/
def chD (s n : Int) : Int := if may s n = true then 0 else 120
theorem rcheck_any (s n : Int) (w : World) : Calls Tryd.prog 24 #[.agg #[.int .i64 s, .int .i64 n]] w fun e w' => e = .returned (.int .i64 (chD s n)) ∧ Below w.heap.size w w' := by
  have H := Lib.hid (fun W => may_any s n W)
  have hd : chD s n = if may s n = true then 0 else 120 := rfl
  obtain ⟨b, hb⟩ : ∃ b, b = may s n := ⟨_, rfl⟩
  rw [← hb] at H hd
  clear hb
  cases b
  · have HD := Lib.hid (show chD s n = 120 from hd)
    clear hd
    go_enter Tryd.func24, Tryd.ntmps24
    go_wp2_with fail
    refine (H.out _).mono ?_
    rintro e w1 ⟨rfl, b1⟩
    have B1 : Hid (Below w.heap.size w w1) := Lib.hid (((Below.refl _ w).alloc (Nat.le_refl _) _).trans (b1.mono (by simp)))
    clear b1
    go_wp2_with fail
    go_ret
    exact ⟨rint HD.out.symm, B1.out⟩
  · have HD := Lib.hid (show chD s n = 0 from hd)
    clear hd
    go_enter Tryd.func24, Tryd.ntmps24
    go_wp2_with fail
    refine (H.out _).mono ?_
    rintro e w1 ⟨rfl, b1⟩
    have B1 : Hid (Below w.heap.size w w1) := Lib.hid (((Below.refl _ w).alloc (Nat.le_refl _) _).trans (b1.mono (by simp)))
    clear b1
    go_wp2_with fail
    go_ret
    exact ⟨rint HD.out.symm, B1.out⟩
theorem check_any (s n : Int) (w : World) : Calls Tryd.prog 23 #[.agg #[.int .i64 s, .int .i64 n]] w fun e w' => e = .returned (.int .i64 (chD s n)) ∧ Below w.heap.size w w' := by
  by_cases h1 : s < 0
  · have hr := Lib.hid (show chD s n = 120 by unfold chD may; rw [if_neg (by simp; omega)])
    go_enter Tryd.func23, Tryd.ntmps23
    go_wp2_with fail
    go_ret
    exact ⟨rint hr.out.symm, (Below.refl _ w).alloc (Nat.le_refl _) _⟩
  by_cases h2 : 315569519999 < s
  · have hr := Lib.hid (show chD s n = 120 by unfold chD may; rw [if_neg (by simp; omega)])
    go_enter Tryd.func23, Tryd.ntmps23
    go_wp2_with fail
    go_ret
    exact ⟨rint hr.out.symm, (Below.refl _ w).alloc (Nat.le_refl _) _⟩
  by_cases h3 : n < 0
  · have hr := Lib.hid (show chD s n = 120 by unfold chD may; rw [if_neg (by simp; omega)])
    go_enter Tryd.func23, Tryd.ntmps23
    go_wp2_with fail
    go_ret
    exact ⟨rint hr.out.symm, (Below.refl _ w).alloc (Nat.le_refl _) _⟩
  by_cases h4 : 999999999 < n
  · have hr := Lib.hid (show chD s n = 120 by unfold chD may; rw [if_neg (by simp; omega)])
    go_enter Tryd.func23, Tryd.ntmps23
    go_wp2_with fail
    go_ret
    exact ⟨rint hr.out.symm, (Below.refl _ w).alloc (Nat.le_refl _) _⟩
  · have hr := Lib.hid (show chD s n = 0 by unfold chD may; rw [if_pos (by simp; omega)])
    go_enter Tryd.func23, Tryd.ntmps23
    go_wp2_with fail
    go_ret
    exact ⟨rint hr.out.symm, (Below.refl _ w).alloc (Nat.le_refl _) _⟩
theorem nan64_any (x : Int) (w : World) : Calls Tryd.prog 74 #[.int .i64 x] w fun e w' => e = .returned (.bool false) ∧ w = w' := by
  go_enter Tryd.func74, Tryd.ntmps74
  go_wp2_with fail
  go_ret
  exact ⟨by simp, rfl⟩
theorem nan55_any (x : Int) (w : World) : Calls Tryd.prog 75 #[.int .i64 x] w fun e w' => e = .returned (.bool false) ∧ w = w' := by
  go_enter Tryd.func75, Tryd.ntmps75
  go_wp2_with fail
  go_ret
  exact ⟨by simp, rfl⟩
def cmpI (x y : Int) : Int := if x < y then -1 else if y < x then 1 else 0
theorem cmpI54_any (x y : Int) (w : World) : Calls Tryd.prog 54 #[.int .i64 x, .int .i64 y] w fun e w' => e = .returned (.int .i64 (cmpI x y)) ∧ w = w' := by
  by_cases h : x < y
  · have hr := Lib.hid (show cmpI x y = -1 by unfold cmpI; rw [if_pos h])
    go_enter Tryd.func54, Tryd.ntmps54
    go_wp2_with fail
    refine (nan64_any _ _).mono ?_
    rintro e w' ⟨rfl, rfl⟩
    go_wp2_with fail
    refine (nan64_any _ _).mono ?_
    rintro e w' ⟨rfl, rfl⟩
    go_wp2_with fail
    go_ret
    exact ⟨rint hr.out.symm, rfl⟩
  by_cases h2 : y < x
  · have hr := Lib.hid (show cmpI x y = 1 by unfold cmpI; rw [if_neg h, if_pos h2])
    go_enter Tryd.func54, Tryd.ntmps54
    go_wp2_with fail
    refine (nan64_any _ _).mono ?_
    rintro e w' ⟨rfl, rfl⟩
    go_wp2_with fail
    refine (nan64_any _ _).mono ?_
    rintro e w' ⟨rfl, rfl⟩
    go_wp2_with fail
    go_ret
    exact ⟨rint hr.out.symm, rfl⟩
  · have hr := Lib.hid (show cmpI x y = 0 by unfold cmpI; rw [if_neg h, if_neg h2])
    go_enter Tryd.func54, Tryd.ntmps54
    go_wp2_with fail
    refine (nan64_any _ _).mono ?_
    rintro e w' ⟨rfl, rfl⟩
    go_wp2_with fail
    refine (nan64_any _ _).mono ?_
    rintro e w' ⟨rfl, rfl⟩
    go_wp2_with fail
    go_ret
    exact ⟨rint hr.out.symm, rfl⟩
theorem cmpI55_any (x y : Int) (w : World) : Calls Tryd.prog 55 #[.int .i64 x, .int .i64 y] w fun e w' => e = .returned (.int .i64 (cmpI x y)) ∧ w = w' := by
  by_cases h : x < y
  · have hr := Lib.hid (show cmpI x y = -1 by unfold cmpI; rw [if_pos h])
    go_enter Tryd.func55, Tryd.ntmps55
    go_wp2_with fail
    refine (nan55_any _ _).mono ?_
    rintro e w' ⟨rfl, rfl⟩
    go_wp2_with fail
    refine (nan55_any _ _).mono ?_
    rintro e w' ⟨rfl, rfl⟩
    go_wp2_with fail
    go_ret
    exact ⟨rint hr.out.symm, rfl⟩
  by_cases h2 : y < x
  · have hr := Lib.hid (show cmpI x y = 1 by unfold cmpI; rw [if_neg h, if_pos h2])
    go_enter Tryd.func55, Tryd.ntmps55
    go_wp2_with fail
    refine (nan55_any _ _).mono ?_
    rintro e w' ⟨rfl, rfl⟩
    go_wp2_with fail
    refine (nan55_any _ _).mono ?_
    rintro e w' ⟨rfl, rfl⟩
    go_wp2_with fail
    go_ret
    exact ⟨rint hr.out.symm, rfl⟩
  · have hr := Lib.hid (show cmpI x y = 0 by unfold cmpI; rw [if_neg h, if_neg h2])
    go_enter Tryd.func55, Tryd.ntmps55
    go_wp2_with fail
    refine (nan55_any _ _).mono ?_
    rintro e w' ⟨rfl, rfl⟩
    go_wp2_with fail
    refine (nan55_any _ _).mono ?_
    rintro e w' ⟨rfl, rfl⟩
    go_wp2_with fail
    go_ret
    exact ⟨rint hr.out.symm, rfl⟩
/-- The order of two DateTimes. -/
def cmpD (s n t m : Int) : Int := if cmpI s t ≠ 0 then cmpI s t else cmpI n m
theorem compare_any (s n t m : Int) (w : World) : Calls Tryd.prog 25 #[.agg #[.int .i64 s, .int .i64 n], .agg #[.int .i64 t, .int .i64 m]] w fun e w' => e = .returned (.int .i64 (cmpD s n t m)) ∧ Below w.heap.size w w' := by
  have HB : Hid (Below w.heap.size w ((w.alloc (.cells #[.int .i64 s, .int .i64 n] 23)).alloc (.cells #[.int .i64 t, .int .i64 m] 23))) := Lib.hid (((Below.refl _ w).alloc (Nat.le_refl _) _).alloc (by simp) _)
  have H54 := Lib.hid (fun W => cmpI54_any s t W)
  have H55 := Lib.hid (fun W => cmpI55_any n m W)
  obtain ⟨c, hc⟩ : ∃ c, c = cmpI s t := ⟨_, rfl⟩
  obtain ⟨d, hd⟩ : ∃ d, d = cmpI n m := ⟨_, rfl⟩
  have hr : cmpD s n t m = if c ≠ 0 then c else d := by unfold cmpD; rw [hc, hd]
  rw [← hc] at H54
  rw [← hd] at H55
  clear hc hd
  by_cases h : c = 0
  · subst h
    have HR := Lib.hid (show cmpD s n t m = d by rw [hr]; simp)
    clear hr
    go_enter Tryd.func25, Tryd.ntmps25
    go_wp2_with fail
    refine (H54.out _).mono ?_
    rintro e w' ⟨rfl, rfl⟩
    go_wp2_with fail
    refine (H55.out _).mono ?_
    rintro e w' ⟨rfl, rfl⟩
    go_wp2_with fail
    go_ret
    exact ⟨rint HR.out.symm, HB.out⟩
  · have HR := Lib.hid (show cmpD s n t m = c by rw [hr, if_pos h])
    have g : (c == 0) = false := by simpa using h
    have g2 : (c != 0) = true := by simpa using h
    clear hr
    go_enter Tryd.func25, Tryd.ntmps25
    go_wp2_with fail
    refine (H54.out _).mono ?_
    rintro e w' ⟨rfl, rfl⟩
    go_wp2_with fail
    go_ret
    exact ⟨rint HR.out.symm, HB.out⟩
end Go.Proofs.YtfphejndbnmfeaaDoor

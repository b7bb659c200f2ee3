import Derived.Test.YtfphejndbnmfeaaDoorProg
import Derived.WalkKit
import Derived.WalkSpells
import Derived.WalkLawsBesides
import Derived.BigQuiet
import Derived.Lib.Hide
import Derived.Below
import Derived.Deep.LoopGhost
namespace Go.Proofs.YtfphejndbnmfeaaDoor
open Go.RowKit

theorem rint {k : IntKind} {a b : Int} (h : a = b) : Ending.returned (.int k a) = .returned (.int k b) := by rw [h]
theorem rbool {a b : Bool} (h : a = b) : Ending.returned (.bool a) = .returned (.bool b) := by rw [h]
/-- Has a year 366 days? -/
def leap (y : Nat) : Bool := y % 4 == 0 && (y % 100 != 0 || y % 400 == 0)
theorem long_any (y : Nat) (w : World) (hy : y ≤ 1000000) : Calls Tryd.prog 73 #[.int .i64 y] w fun e w' => e = .returned (.bool (leap y)) ∧ w = w' := by
  by_cases h4 : y % 4 = 0
  · by_cases h100 : y % 100 = 0
    · by_cases h400 : y % 400 = 0
      · have hr := Lib.hid (show leap y = true by unfold leap; simp [h4, h100, h400])
        have g4 : ((y : Int) % 4) = 0 := by omega
        have g100 : ((y : Int) % 100) = 0 := by omega
        have g400 : ((y : Int) % 400) = 0 := by omega
        clear h4 h100 h400
        go_enter Tryd.func73, Tryd.ntmps73
        go_wp2_with fail
        go_ret
        exact ⟨rbool hr.out.symm, rfl⟩
      · have hr := Lib.hid (show leap y = false by unfold leap; simp [h4, h100, h400])
        have g4 : ((y : Int) % 4) = 0 := by omega
        have g100 : ((y : Int) % 100) = 0 := by omega
        have g400 : (((y : Int) % 400) == 0) = false := by simp; omega
        clear h4 h100 h400
        go_enter Tryd.func73, Tryd.ntmps73
        go_wp2_with fail
        go_ret
        exact ⟨rbool hr.out.symm, rfl⟩
    · have hr := Lib.hid (show leap y = true by unfold leap; simp [h4, h100])
      have g4 : ((y : Int) % 4) = 0 := by omega
      have g100 : ¬ ((y : Int) % 100 = 0) := by omega
      have g100b : ((y : Int) % 100 == 0) = false := by simp; omega
      have g100c : ((y : Int) % 100 != 0) = true := by simp; omega
      clear h4 h100
      go_enter Tryd.func73, Tryd.ntmps73
      go_wp2_with fail
      go_ret
      exact ⟨rbool hr.out.symm, rfl⟩
  · have hr := Lib.hid (show leap y = false by unfold leap; simp [h4])
    have g4 : (((y : Int) % 4) == 0) = false := by simp; omega
    clear h4
    go_enter Tryd.func73, Tryd.ntmps73
    go_wp2_with fail
    go_ret
    exact ⟨rbool hr.out.symm, rfl⟩
theorem leap_any (y : Nat) (w : World) (hy : y ≤ 1000000) : Calls Tryd.prog 71 #[.int .i64 y] w fun e w' => e = .returned (.bool (leap y)) ∧ w = w' := by
  by_cases h4 : y % 4 = 0
  · by_cases h100 : y % 100 = 0
    · by_cases h400 : y % 400 = 0
      · have hr := Lib.hid (show leap y = true by unfold leap; simp [h4, h100, h400])
        have g4 : ((y : Int) % 4) = 0 := by omega
        have g100 : ((y : Int) % 100) = 0 := by omega
        have g400 : ((y : Int) % 400) = 0 := by omega
        clear h4 h100 h400
        go_enter Tryd.func71, Tryd.ntmps71
        go_wp2_with fail
        go_ret
        exact ⟨rbool hr.out.symm, rfl⟩
      · have hr := Lib.hid (show leap y = false by unfold leap; simp [h4, h100, h400])
        have g4 : ((y : Int) % 4) = 0 := by omega
        have g100 : ((y : Int) % 100) = 0 := by omega
        have g400 : (((y : Int) % 400) == 0) = false := by simp; omega
        clear h4 h100 h400
        go_enter Tryd.func71, Tryd.ntmps71
        go_wp2_with fail
        go_ret
        exact ⟨rbool hr.out.symm, rfl⟩
    · have hr := Lib.hid (show leap y = true by unfold leap; simp [h4, h100])
      have g4 : ((y : Int) % 4) = 0 := by omega
      have g100 : ¬ ((y : Int) % 100 = 0) := by omega
      have g100b : ((y : Int) % 100 == 0) = false := by simp; omega
      have g100c : ((y : Int) % 100 != 0) = true := by simp; omega
      clear h4 h100
      go_enter Tryd.func71, Tryd.ntmps71
      go_wp2_with fail
      go_ret
      exact ⟨rbool hr.out.symm, rfl⟩
  · have hr := Lib.hid (show leap y = false by unfold leap; simp [h4])
    have g4 : (((y : Int) % 4) == 0) = false := by simp; omega
    clear h4
    go_enter Tryd.func71, Tryd.ntmps71
    go_wp2_with fail
    go_ret
    exact ⟨rbool hr.out.symm, rfl⟩
theorem yearDays_any (y : Nat) (w : World) (hy : y ≤ 1000000) : Calls Tryd.prog 51 #[.int .i64 y] w fun e w' => e = .returned (.int .i64 ((if leap y then 366 else 365 : Nat) : Int)) ∧ w = w' := by
  have H := Lib.hid (long_any y w hy)
  obtain ⟨b, hb⟩ : ∃ b, b = leap y := ⟨_, rfl⟩
  rw [← hb] at H ⊢
  clear hb
  cases b
  · go_enter Tryd.func51, Tryd.ntmps51
    go_wp2_with fail
    refine H.out.mono ?_
    rintro e w1 ⟨rfl, rfl⟩
    go_wp2_with fail
    go_ret
    exact ⟨rfl, rfl⟩
  · go_enter Tryd.func51, Tryd.ntmps51
    go_wp2_with fail
    refine H.out.mono ?_
    rintro e w1 ⟨rfl, rfl⟩
    go_wp2_with fail
    go_ret
    exact ⟨rfl, rfl⟩
/-- How many days the month m + 1 has, in a year of 365 days. -/
def mdays (m : Nat) : Nat := [31, 28, 31, 30, 31, 30, 31, 31, 30, 31, 30, 31].getD m 0
/-- How many days a month of a year has. -/
def dim (y m : Nat) : Nat := if m = 2 ∧ leap y = true then 29 else mdays (m - 1)
/-- The program's table of months. -/
def MD (w : World) : Prop := 1 < w.heap.size ∧ ∀ m, m < 12 → w.cell? ⟨1, m, none⟩ = some (.int .i64 (mdays m : Nat))
theorem MD.below {w w' : World} {B : Nat} (h : MD w) (hb : Below B w w') (hB : 1 < B) : MD w' :=
  ⟨by have := hb.size; have := h.1; omega, fun m hm => (hb.cell (p := ⟨1, m, none⟩) hB).trans (h.2 m hm)⟩
theorem daysOf_any (y m : Nat) (w : World) (hy : y ≤ 1000000) (h1 : 1 ≤ m) (h12 : m ≤ 12) (hT : MD w) : Calls Tryd.prog 52 #[.int .i64 y, .int .i64 m] w fun e w' => e = .returned (.int .i64 ((dim y m : Nat) : Int)) ∧ w = w' := by
  have H := Lib.hid (long_any y w hy)
  obtain ⟨q, rfl⟩ : ∃ q, m = q + 1 := ⟨m - 1, by omega⟩
  have hc := hT.2 q (by omega)
  clear hT
  obtain ⟨b, hb⟩ : ∃ b, b = leap y := ⟨_, rfl⟩
  have hd : dim y (q + 1) = if q = 1 ∧ b = true then 29 else mdays q := by
    unfold dim; rw [hb, Nat.add_sub_cancel]
    by_cases h : q = 1 <;> simp [h]
  rw [← hb] at H
  clear hb
  by_cases hq : q = 1
  · subst hq
    have hc28 : w.cell? ⟨1, 1, none⟩ = some (.int .i64 28) := hc
    cases b
    · have HD := Lib.hid (show dim y (1 + 1) = 28 by rw [hd]; rfl)
      clear hd hc
      go_enter Tryd.func52, Tryd.ntmps52
      go_wp2_with fail
      refine H.out.mono ?_
      rintro e w1 ⟨rfl, rfl⟩
      go_wp2_with fail
      go_ret
      exact ⟨rint (by rw [HD.out]; rfl), rfl⟩
    · have HD := Lib.hid (show dim y (1 + 1) = 29 by rw [hd]; rfl)
      clear hd hc
      go_enter Tryd.func52, Tryd.ntmps52
      go_wp2_with fail
      refine H.out.mono ?_
      rintro e w1 ⟨rfl, rfl⟩
      go_wp2_with fail
      go_ret
      exact ⟨rint (by rw [HD.out]; rfl), rfl⟩
  · have HD := Lib.hid (show dim y (q + 1) = mdays q by rw [hd, if_neg (fun h => hq h.1)])
    obtain ⟨n, hn⟩ : ∃ n, n = mdays q := ⟨_, rfl⟩
    rw [← hn] at HD hc
    have g2 : ((q : Int) + 1 == 2) = false := by simp; omega
    have g3 : ¬ ((q : Int) + 1 = 2) := by omega
    have hq12 : (q : Int) < 12 := by omega
    clear hd hn hq H
    go_enter Tryd.func52, Tryd.ntmps52
    go_wp2_with fail
    go_ret
    exact ⟨rint (by rw [HD.out]), rfl⟩
end Go.Proofs.YtfphejndbnmfeaaDoor

import Derived.Test.YtfphejndbnmfeaaDoorPlain
import Derived.Test.YtfphejndbnmfeaaDoorProg
import Derived.WalkKit
import Derived.WalkSpells
import Derived.WalkLawsBesides
import Derived.BigQuiet
import Derived.Lib.Hide
import Derived.Below
import Derived.Deep.LoopGhost
import Derived.Deep.WholeRow
import Derived.Deep.MidRow
namespace Go.Proofs.YtfphejndbnmfeaaDoor
open Go.RowKit

theorem ret_int {k : IntKind} {a b : Int} (h : a = b) : Ending.returned (.int k a) = .returned (.int k b) := by rw [h]
theorem ret_bool {a b : Bool} (h : a = b) : Ending.returned (.bool a) = .returned (.bool b) := by rw [h]

theorem mark_any (k : Nat) (w : World) :
    Calls Tryd.prog 56 #[.int .i64 (k : Int)] w fun e w' => e = .returned (.bool (mk k)) ∧ w = w' := by
  by_cases h1 : k = 8
  · subst h1
    go_enter Tryd.func56, Tryd.ntmps56
    go_wp2_with fail
    go_ret
    exact ⟨rfl, rfl⟩
  by_cases h2 : k = 13
  · subst h2
    go_enter Tryd.func56, Tryd.ntmps56
    go_wp2_with fail
    go_ret
    exact ⟨rfl, rfl⟩
  by_cases h3 : k = 18
  · subst h3
    go_enter Tryd.func56, Tryd.ntmps56
    go_wp2_with fail
    go_ret
    exact ⟨rfl, rfl⟩
  · have hr := Lib.hid (show mk k = decide ((k : Int) = 23) by unfold mk; rw [Bool.eq_iff_iff]; simp [h1, h2, h3]; omega)
    have g1 : ((k : Int) == 8) = false := by simp; omega
    have g2 : ((k : Int) == 13) = false := by simp; omega
    have g3 : ((k : Int) == 18) = false := by simp; omega
    clear h1 h2 h3
    go_enter Tryd.func56, Tryd.ntmps56
    go_wp2_with fail
    go_ret
    exact ⟨ret_bool (by rw [hr.out]; rfl), rfl⟩

theorem digit_any (c : Int) (w : World) (h0 : 0 ≤ c) (h1 : c ≤ 2097152) :
    Calls Tryd.prog 57 #[.int .i32 c] w fun e w' => e = .returned (.int .i64 (hx c)) ∧ w = w' := by
  by_cases c1 : 48 ≤ c ∧ c ≤ 57
  · have hr := Lib.hid (show hx c = c - 48 by unfold hx; rw [if_pos c1])
    obtain ⟨c2, c3⟩ := c1
    go_enter Tryd.func57, Tryd.ntmps57
    go_wp2_with fail
    go_ret
    exact ⟨ret_int (by rw [hr.out]), rfl⟩
  by_cases c2 : 97 ≤ c ∧ c ≤ 102
  · have hr := Lib.hid (show hx c = c - 97 + 10 by unfold hx; rw [if_neg c1, if_pos c2])
    obtain ⟨c3, c4⟩ := c2
    have g1 : 48 ≤ c := by omega
    have g2 : ¬ c ≤ 57 := by omega
    clear c1
    go_enter Tryd.func57, Tryd.ntmps57
    go_wp2_with fail
    go_ret
    exact ⟨ret_int (by rw [hr.out]), rfl⟩
  by_cases c3 : 65 ≤ c ∧ c ≤ 70
  · have hr := Lib.hid (show hx c = c - 65 + 10 by unfold hx; rw [if_neg c1, if_neg c2, if_pos c3])
    obtain ⟨c4, c5⟩ := c3
    have g1 : 48 ≤ c := by omega
    have g2 : ¬ c ≤ 57 := by omega
    have g3 : ¬ 97 ≤ c := by omega
    clear c1 c2
    go_enter Tryd.func57, Tryd.ntmps57
    go_wp2_with fail
    go_ret
    exact ⟨ret_int (by rw [hr.out]), rfl⟩
  · have hr := Lib.hid (show hx c = -1 by unfold hx; rw [if_neg c1, if_neg c2, if_neg c3])
    by_cases b1 : c < 48
    · have g1 : ¬ 48 ≤ c := by omega
      have g2 : ¬ 97 ≤ c := by omega
      have g3 : ¬ 65 ≤ c := by omega
      clear c1 c2 c3
      go_enter Tryd.func57, Tryd.ntmps57
      go_wp2_with fail
      go_ret
      exact ⟨ret_int hr.out.symm, rfl⟩
    by_cases b2 : c < 65
    · have g1 : ¬ c ≤ 57 := by omega
      have g2 : ¬ 97 ≤ c := by omega
      have g3 : ¬ 65 ≤ c := by omega
      have g4 : 48 ≤ c := by omega
      clear c1 c2 c3
      go_enter Tryd.func57, Tryd.ntmps57
      go_wp2_with fail
      go_ret
      exact ⟨ret_int hr.out.symm, rfl⟩
    by_cases b3 : c < 97
    · have g1 : ¬ c ≤ 57 := by omega
      have g2 : ¬ 97 ≤ c := by omega
      have g3 : ¬ c ≤ 70 := by omega
      have g4 : 48 ≤ c := by omega
      have g5 : 65 ≤ c := by omega
      clear c1 c2 c3
      go_enter Tryd.func57, Tryd.ntmps57
      go_wp2_with fail
      go_ret
      exact ⟨ret_int hr.out.symm, rfl⟩
    · have g1 : ¬ c ≤ 57 := by omega
      have g2 : ¬ c ≤ 102 := by omega
      have g3 : ¬ c ≤ 70 := by omega
      have g4 : 48 ≤ c := by omega
      have g5 : 65 ≤ c := by omega
      have g6 : 97 ≤ c := by omega
      clear c1 c2 c3
      go_enter Tryd.func57, Tryd.ntmps57
      go_wp2_with fail
      go_ret
      exact ⟨ret_int hr.out.symm, rfl⟩
end Go.Proofs.YtfphejndbnmfeaaDoor

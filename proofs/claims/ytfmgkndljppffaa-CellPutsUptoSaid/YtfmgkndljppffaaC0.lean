/- Layer 3: what a cell's checks tell. -/
import Derived.Test.YtfmgkndljppffaaT1
import Derived.Test.YtfmgkndljppffaaP3
import Derived.BigQuiet
import Derived.Deep.RegionHeld3
import Derived.Deep.DeepCutAuto
import Derived.Deep.QuietTactic
namespace Go.Proofs.Ytfmgkndljppffaa
open Go.RowKit
def cv (c : CR) : Value := .agg #[.int .u8 c.k, .string c.nm, .string c.tx, .int .i64 c.n, .int .i64 c.m]
def ccells (c : CR) : Array Value := #[.int .u8 c.k, .string c.nm, .string c.tx, .int .i64 c.n, .int .i64 c.m]
theorem size_nil {s : ByteArray} (h : s.toList = []) : s.size = 0 := by
  rw [ByteArray.toList_eq] at h
  have : s.data = #[] := by simpa using h
  show s.data.size = 0
  rw [this]; rfl
theorem em_yes {s : ByteArray} (h : em s = true) : s = ⟨#[]⟩ := em_eq h
theorem em_no {s : ByteArray} (h : em s = false) : s.toList.isEmpty = false := by
  unfold em at h
  simp only [decide_eq_false_iff_not] at h
  cases hs : s.toList with
  | nil =>
    exfalso
    apply h
    exact size_nil hs
  | cons _ _ => rfl
set_option maxRecDepth 20000 in
theorem bare_any (c : CR) (w : World) : Calls Try.prog 50 #[cv c] w fun e w' => e = .returned (.bool (em c.tx && decide (c.m = 0))) ∧ Below w.heap.size w w' := by
  obtain ⟨k, nm, tx, n, m⟩ := c
  show Calls Try.prog 50 #[cv ⟨k, nm, tx, n, m⟩] w fun e w' => e = .returned (.bool (em tx && decide (m = 0))) ∧ Below w.heap.size w w'
  unfold cv
  obtain ⟨r, hr⟩ : ∃ r, r = (em tx && decide (m = 0)) := ⟨_, rfl⟩
  rw [← hr]
  by_cases he : em tx = true
  · by_cases hm : m = 0
    · have HB := Lib.hid (show r = true by rw [hr, he, hm]; rfl)
      obtain rfl := em_yes he
      subst hm
      clear he
      clear hr
      go_enter Try.func50, Try.ntmps50
      go_wp2_with fail
      go_ret
      exact ⟨ret_bool HB.out.symm, (Below.refl _ _).alloc (Nat.le_refl _) _⟩
    · have HB := Lib.hid (show r = false by rw [hr, decide_eq_false hm, Bool.and_false])
      obtain rfl := em_yes he
      have g : (m == 0) = false := by rw [beq_eq_false_iff_ne]; exact hm
      clear he hm
      clear hr
      go_enter Try.func50, Try.ntmps50
      go_wp2_with fail
      go_ret
      exact ⟨ret_bool HB.out.symm, (Below.refl _ _).alloc (Nat.le_refl _) _⟩
  · replace he : em tx = false := by simpa using he
    have HB := Lib.hid (show r = false by rw [hr, he, Bool.false_and])
    have g := em_no he
    clear he
    clear hr
    go_enter Try.func50, Try.ntmps50
    go_wp2_with fail
    go_ret
    exact ⟨ret_bool HB.out.symm, (Below.refl _ _).alloc (Nat.le_refl _) _⟩
set_option maxRecDepth 20000 in
theorem only_any (c : CR) (w : World) : Calls Try.prog 53 #[cv c] w fun e w' => e = .returned (.bool (decide (c.n = 0) && decide (c.m = 0))) ∧ Below w.heap.size w w' := by
  obtain ⟨k, nm, tx, n, m⟩ := c
  show Calls Try.prog 53 #[cv ⟨k, nm, tx, n, m⟩] w fun e w' => e = .returned (.bool (decide (n = 0) && decide (m = 0))) ∧ Below w.heap.size w w'
  unfold cv
  obtain ⟨r, hr⟩ : ∃ r, r = (decide (n = 0) && decide (m = 0)) := ⟨_, rfl⟩
  rw [← hr]
  by_cases he : n = 0
  · by_cases hm : m = 0
    · have HB := Lib.hid (show r = true by rw [hr, he, hm]; rfl)
      subst he
      subst hm
      clear hr
      go_enter Try.func53, Try.ntmps53
      go_wp2_with fail
      go_ret
      exact ⟨ret_bool HB.out.symm, (Below.refl _ _).alloc (Nat.le_refl _) _⟩
    · have HB := Lib.hid (show r = false by rw [hr, decide_eq_false hm, Bool.and_false])
      subst he
      have g : (m == 0) = false := by rw [beq_eq_false_iff_ne]; exact hm
      clear hm
      clear hr
      go_enter Try.func53, Try.ntmps53
      go_wp2_with fail
      go_ret
      exact ⟨ret_bool HB.out.symm, (Below.refl _ _).alloc (Nat.le_refl _) _⟩
  · have HB := Lib.hid (show r = false by rw [hr, decide_eq_false he, Bool.false_and])
    have g : (n == 0) = false := by rw [beq_eq_false_iff_ne]; exact he
    clear he
    clear hr
    go_enter Try.func53, Try.ntmps53
    go_wp2_with fail
    go_ret
    exact ⟨ret_bool HB.out.symm, (Below.refl _ _).alloc (Nat.le_refl _) _⟩
set_option maxRecDepth 20000 in
theorem head_any (c : CR) (w : World) : Calls Try.prog 58 #[cv c] w fun e w' => e = .returned (.bool (decide (c.n = 0) && em c.tx && decide (0 ≤ c.m))) ∧ Below w.heap.size w w' := by
  obtain ⟨k, nm, tx, n, m⟩ := c
  show Calls Try.prog 58 #[cv ⟨k, nm, tx, n, m⟩] w fun e w' => e = .returned (.bool (decide (n = 0) && em tx && decide (0 ≤ m))) ∧ Below w.heap.size w w'
  unfold cv
  obtain ⟨r, hr⟩ : ∃ r, r = (decide (n = 0) && em tx && decide (0 ≤ m)) := ⟨_, rfl⟩
  rw [← hr]
  by_cases he : n = 0
  · cases ht : em tx with
    | true =>
      obtain rfl := em_yes ht
      by_cases hm : 0 ≤ m
      · have HB := Lib.hid (show r = true by rw [hr, he, ht, decide_eq_true hm]; rfl)
        subst he
        clear ht
        clear hr
        go_enter Try.func58, Try.ntmps58
        go_wp2_with fail
        go_ret
        exact ⟨ret_bool HB.out.symm, (Below.refl _ _).alloc (Nat.le_refl _) _⟩
      · have HB := Lib.hid (show r = false by rw [hr, decide_eq_false hm, Bool.and_false])
        subst he
        clear ht
        have g : ¬ (0 : Int) ≤ m := hm
        clear hm
        clear hr
        go_enter Try.func58, Try.ntmps58
        go_wp2_with fail
        go_ret
        exact ⟨ret_bool HB.out.symm, (Below.refl _ _).alloc (Nat.le_refl _) _⟩
    | false =>
      have HB := Lib.hid (show r = false by rw [hr, ht, Bool.and_false, Bool.false_and])
      have g := em_no ht
      subst he
      clear ht
      clear hr
      go_enter Try.func58, Try.ntmps58
      go_wp2_with fail
      go_ret
      exact ⟨ret_bool HB.out.symm, (Below.refl _ _).alloc (Nat.le_refl _) _⟩
  · have HB := Lib.hid (show r = false by rw [hr, decide_eq_false he, Bool.false_and, Bool.false_and])
    have g : (n == 0) = false := by rw [beq_eq_false_iff_ne]; exact he
    clear he
    clear hr
    go_enter Try.func58, Try.ntmps58
    go_wp2_with fail
    go_ret
    exact ⟨ret_bool HB.out.symm, (Below.refl _ _).alloc (Nat.le_refl _) _⟩
set_option maxRecDepth 20000 in
theorem more_any (c : CR) (w : World) : Calls Try.prog 37 #[cv c] w fun e w' => e = .returned (.bool (decide (c.k = 6) || decide (c.k = 7))) ∧ Below w.heap.size w w' := by
  obtain ⟨k, nm, tx, n, m⟩ := c
  show Calls Try.prog 37 #[cv ⟨k, nm, tx, n, m⟩] w fun e w' => e = .returned (.bool (decide (k = 6) || decide (k = 7))) ∧ Below w.heap.size w w'
  unfold cv
  obtain ⟨r, hr⟩ : ∃ r, r = (decide (k = 6) || decide (k = 7)) := ⟨_, rfl⟩
  rw [← hr]
  by_cases he : k = 6
  · have HB := Lib.hid (show r = true by rw [hr, he]; rfl)
    subst he
    clear hr
    go_enter Try.func37, Try.ntmps37
    go_wp2_with fail
    go_ret
    exact ⟨ret_bool HB.out.symm, (Below.refl _ _).alloc (Nat.le_refl _) _⟩
  · have g1 : ((k : Int) == 6) = false := by rw [beq_eq_false_iff_ne]; omega
    by_cases hm : k = 7
    · have HB := Lib.hid (show r = true by rw [hr, hm]; rfl)
      subst hm
      clear he g1
      clear hr
      go_enter Try.func37, Try.ntmps37
      go_wp2_with fail
      go_ret
      exact ⟨ret_bool HB.out.symm, (Below.refl _ _).alloc (Nat.le_refl _) _⟩
    · have HB := Lib.hid (show r = false by rw [hr, decide_eq_false he, decide_eq_false hm]; rfl)
      have g2 : ((k : Int) == 7) = false := by rw [beq_eq_false_iff_ne]; omega
      clear he hm
      clear hr
      go_enter Try.func37, Try.ntmps37
      go_wp2_with fail
      go_ret
      exact ⟨ret_bool HB.out.symm, (Below.refl _ _).alloc (Nat.le_refl _) _⟩
end Go.Proofs.Ytfmgkndljppffaa

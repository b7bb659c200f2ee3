/- Layer 3: how large cells are; whether two rows are the same. -/
import Derived.Test.YtfmgkndljppffaaD3
namespace Go.Proofs.Ytfmgkndljppffaa
open Go.RowKit Go.Maps
def bigC (c : CR) : Bool := decide (300 < c.nm.size) || decide (3000 < c.tx.size)
def grP (g : Nat → CR) (n most : Nat) : Bool := decide (most < n) || (List.range n).any fun i => bigC (g i)
theorem gr_big {g : Nat → CR} {n most i : Nat} (hi : i < n) (h : bigC (g i) = true) : grP g n most = true := by
  unfold grP
  rw [Bool.or_eq_true]
  exact .inr (List.any_eq_true.2 ⟨i, List.mem_range.2 hi, h⟩)
theorem gr_no {g : Nat → CR} {n most : Nat} (hn : n ≤ most) (h : ∀ j, j < n → bigC (g j) = false) : grP g n most = false := by
  unfold grP
  rw [Bool.or_eq_false_iff]
  refine ⟨by simpa using hn, ?_⟩
  rw [List.any_eq_false]
  intro i hi
  rw [h i (List.mem_range.1 hi)]
  simp
theorem gr_small {g : Nat → CR} {n most : Nat} (h : grP g n most = false) : n ≤ most ∧ ∀ i, i < n → (g i).nm.size ≤ 300 ∧ (g i).tx.size ≤ 3000 := by
  unfold grP at h
  rw [Bool.or_eq_false_iff] at h
  refine ⟨by simpa using h.1, fun i hi => ?_⟩
  have := (List.any_eq_false.1 h.2) i (List.mem_range.2 hi)
  unfold bigC at this
  simp only [Bool.or_eq_true, decide_eq_true_eq, not_or, Nat.not_lt] at this
  exact this
set_option maxRecDepth 20000 in
set_option maxHeartbeats 1000000 in
theorem great_any (a : Option Addr) (n cap most : Nat) (mv : Int) (hmv : mv = (most : Nat)) (g : Nat → CR) (w : World) (hv : CV w a n g) (hn : n ≤ maxLen) (hm : most ≤ 1000000) : Calls Try.prog 13 #[.slice a n cap, .int .i64 mv] w fun r w' => r = .returned (.bool (grP g n most)) ∧ w' = w := by
  subst hmv
  unfold maxLen at hn
  obtain ⟨x, hx⟩ : ∃ x, x = grP g n most := ⟨_, rfl⟩
  rw [← hx]
  replace hx := Lib.hid hx
  have HV := Lib.hid hv
  clear hv
  have hn' : (n : Int) ≤ 9223372036854775807 := by omega
  have hm' : (most : Int) ≤ 1000000 := by omega
  go_enter Try.func13, Try.ntmps13
  go_wp2_with fail
  go_loop [5] (fun v5 => ∃ i : Nat, i ≤ n ∧ i ≤ most ∧ v5 = .int .i64 i ∧ Hid (∀ j, j < i → bigC (g j) = false)) (fun v5 => n - (intOf v5).toNat)
  case atStart => exact ⟨0, Nat.zero_le _, Nat.zero_le _, rfl, Lib.hid (fun j hj => by omega)⟩
  case round =>
    obtain ⟨i, hi, him, rfl, HN⟩ := hrel
    by_cases h1 : i < n
    · by_cases h2 : i < most
      · obtain ⟨b, off, rfl⟩ := HV.out.addr (by omega)
        obtain ⟨_, _, c1, c2, _, _⟩ := HV.out.at_ h1
        have hg1 : (i : Int) < n := by omega
        have hg0 : (0 : Int) ≤ i := by omega
        have hg2 : (i : Int) < most := by omega
        obtain ⟨nm, hnm⟩ : ∃ s, s = (g i).nm := ⟨_, rfl⟩
        obtain ⟨tx, htx⟩ : ∃ s, s = (g i).tx := ⟨_, rfl⟩
        rw [← hnm] at c1
        rw [← htx] at c2
        have hbc : Hid (bigC (g i) = (decide (300 < nm.size) || decide (3000 < tx.size))) := Lib.hid (by rw [hnm, htx]; rfl)
        clear hnm htx
        by_cases k1 : (300 : Int) < nm.size
        · have HX : Hid (x = true) := Lib.hid (by rw [hx.out]; exact gr_big h1 (by rw [hbc.out, decide_eq_true (show 300 < nm.size by omega)]; rfl))
          clear HN hbc
          go_wp2_with fail
          go_ret
          exact ⟨ret_bool HX.out.symm, rfl⟩
        · by_cases k2 : (3000 : Int) < tx.size
          · have HX : Hid (x = true) := Lib.hid (by rw [hx.out]; exact gr_big h1 (by rw [hbc.out, decide_eq_true (show 3000 < tx.size by omega)]; simp))
            clear HN hbc
            go_wp2_with fail
            go_ret
            exact ⟨ret_bool HX.out.symm, rfl⟩
          · have HN2 : Hid (∀ j, j < i + 1 → bigC (g j) = false) := Lib.hid (fun j hj => by
              by_cases e : j = i
              · subst e; rw [hbc.out, decide_eq_false (show ¬ 300 < nm.size by omega), decide_eq_false (show ¬ 3000 < tx.size by omega)]; rfl
              · exact HN.out j (by omega))
            clear HN hbc
            go_wp2_with fail
            go_round
            case rel => exact ⟨i + 1, by omega, by omega, by go_num, HN2⟩
            case measure => simp [intOf]; omega
      · have e2 : i = most := by omega
        subst e2
        have HX : Hid (x = true) := Lib.hid (by rw [hx.out]; unfold grP; rw [decide_eq_true h1]; rfl)
        have hg1 : (i : Int) < n := by omega
        have hg2 : ¬ (i : Int) < i := by omega
        clear HN
        go_wp2_with fail
        go_ret
        exact ⟨ret_bool HX.out.symm, rfl⟩
    · have e1 : i = n := by omega
      subst e1
      have HX : Hid (x = false) := Lib.hid (by rw [hx.out]; exact gr_no him HN.out)
      have hg1 : ¬ (i : Int) < i := by omega
      have hg2 : ¬ (most : Int) < i := by omega
      clear HN
      go_wp2_with fail
      go_ret
      exact ⟨ret_bool HX.out.symm, rfl⟩
end Go.Proofs.Ytfmgkndljppffaa

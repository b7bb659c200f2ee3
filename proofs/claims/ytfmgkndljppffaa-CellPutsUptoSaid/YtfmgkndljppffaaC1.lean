/- Layer 3: names, and the checks of the kinds by their numbers. -/
import Derived.Test.YtfmgkndljppffaaC0
import Derived.LoopTactic
namespace Go.Proofs.Ytfmgkndljppffaa
open Go.RowKit
/-- What a name may have at a place. -/
def okAt (b : UInt8) (j : Nat) : Bool := letB b || (decide (j ≠ 0) && dgB b)
theorem all_from : ∀ (l : List UInt8) (j : Nat), (∀ i (h : i < l.length), okAt l[i] (j + 1 + i) = true) ↔ l.all (fun c => letB c || dgB c) = true
  | [], _ => by simp
  | b :: r, j => by
    have ih := all_from r (j + 1)
    rw [List.all_cons, Bool.and_eq_true, ← ih]
    constructor
    · intro h
      refine ⟨?_, fun i hi => ?_⟩
      · have := h 0 (by simp)
        simpa [okAt] using this
      · have := h (i + 1) (by simpa using hi)
        rw [show j + 1 + (i + 1) = j + 1 + 1 + i by omega] at this
        exact this
    · rintro ⟨h1, h2⟩ i hi
      cases i with
      | zero => simpa [okAt] using h1
      | succ i =>
        have := h2 i (by simpa using hi)
        rw [show j + 1 + (i + 1) = j + 1 + 1 + i by omega]
        exact this
theorem nm_iff (s : ByteArray) : nmB s = true ↔ s.size ≠ 0 ∧ ∀ i (h : i < s.size), okAt s[i] i = true := by
  have e : s.size = s.data.toList.length := by rw [Array.length_toList]; rfl
  have hget : ∀ i (h : i < s.size), s[i] = s.data.toList[i]'(by rw [← e]; exact h) := fun i h => rfl
  have key : (∀ i (h : i < s.size), okAt s[i] i = true) ↔ ∀ i (h : i < s.data.toList.length), okAt s.data.toList[i] i = true :=
    ⟨fun k i h => by have := k i (by rw [e]; exact h); rw [hget] at this; exact this, fun k i h => by rw [hget]; exact k i _⟩
  rw [key, e]
  unfold nmB
  generalize s.data.toList = l
  cases l with
  | nil => simp [nmL]
  | cons b r =>
    have := all_from r 0
    unfold nmL
    rw [Bool.and_eq_true, ← this]
    constructor
    · rintro ⟨h1, h2⟩
      refine ⟨by simp, fun i hi => ?_⟩
      cases i with
      | zero => simpa [okAt] using h1
      | succ i =>
        have := h2 i (by simpa using hi)
        rw [show 0 + 1 + i = i + 1 by omega] at this
        exact this
    · rintro ⟨_, h⟩
      refine ⟨?_, fun i hi => ?_⟩
      · have := h 0 (by simp)
        simpa [okAt] using this
      · have := h (i + 1) (by simpa using hi)
        rw [show 0 + 1 + i = i + 1 by omega]
        exact this
theorem nm_bad {s : ByteArray} {i : Nat} (h : i < s.size) (hb : okAt s[i] i = false) : nmB s = false := by
  cases hn : nmB s with
  | false => rfl
  | true => rw [((nm_iff s).1 hn).2 i h] at hb; cases hb
theorem by256c {P : UInt8 → Bool} (h : (List.range 256).all (fun n => P (UInt8.ofNat n)) = true) (b : UInt8) : P b = true := by
  have := List.all_eq_true.1 h b.toNat (List.mem_range.2 (UInt8.toNat_lt b))
  simpa using this
theorem let_val (b : UInt8) : letB b = (decide (b.toNat = 95) || (decide (97 ≤ b.toNat) && decide (b.toNat ≤ 122)) || (decide (65 ≤ b.toNat) && decide (b.toNat ≤ 90))) := by
  have := by256c (P := fun b => letB b == (decide (b.toNat = 95) || (decide (97 ≤ b.toNat) && decide (b.toNat ≤ 122)) || (decide (65 ≤ b.toNat) && decide (b.toNat ≤ 90)))) (by decide +kernel) b
  simpa using this
theorem dg_val (b : UInt8) : dgB b = (decide (48 ≤ b.toNat) && decide (b.toNat ≤ 57)) := by
  have := by256c (P := fun b => dgB b == (decide (48 ≤ b.toNat) && decide (b.toNat ≤ 57))) (by decide +kernel) b
  simpa using this
set_option maxRecDepth 20000 in
set_option maxHeartbeats 2000000 in
theorem name_any (s : ByteArray) (w : World) (hs : s.size ≤ 1000000) : Calls Try.prog 56 #[.string s] w fun e w' => e = .returned (.bool (nmB s)) ∧ w' = w := by
  obtain ⟨r, hr⟩ : ∃ r, r = nmB s := ⟨_, rfl⟩
  rw [← hr]
  have HR := Lib.hid hr
  clear hr
  go_enter Try.func56, Try.ntmps56
  go_wp2_with fail
  go_loop [3] (fun v => ∃ i : Nat, i ≤ s.size ∧ v = .int .i64 i ∧ Hid (∀ j (h : j < s.size), j < i → okAt s[j] j = true)) (fun v => s.size - (intOf v).toNat)
  case atStart => exact ⟨0, Nat.zero_le _, rfl, Lib.hid (fun j _ hj => absurd hj (Nat.not_lt_zero j))⟩
  case round =>
    obtain ⟨i, hi, rfl, HP⟩ := hrel
    by_cases hlt : i < s.size
    · obtain ⟨b, hb⟩ : ∃ b, b = s[i].toNat := ⟨_, rfl⟩
      have k0 : ∀ q : i < s.size, (s[i].toNat : Int) = (b : Nat) := fun q => by rw [hb]
      have HL := Lib.hid (let_val s[i])
      have HD := Lib.hid (dg_val s[i])
      have hb2 : b < 256 := by rw [hb]; exact UInt8.toNat_lt _
      rw [← hb] at HL HD
      clear hb
      have HN : Hid (okAt s[i] i = true → ∀ j (h : j < s.size), j < i + 1 → okAt s[j] j = true) := Lib.hid (fun ho j h hj => by
        by_cases e : j = i
        · subst e; exact ho
        · exact HP.out j h (by omega))
      have HB : Hid (okAt s[i] i = false → r = false) := Lib.hid (fun ho => HR.out.trans (nm_bad hlt ho))
      clear HP HR
      have hi0 : (0 : Int) ≤ (i : Int) := by omega
      rcases (by omega : (0 ≤ b ∧ b ≤ 47) ∨ (48 ≤ b ∧ b ≤ 57) ∨ (58 ≤ b ∧ b ≤ 64) ∨ (65 ≤ b ∧ b ≤ 90) ∨ (91 ≤ b ∧ b ≤ 94) ∨ (95 ≤ b ∧ b ≤ 95) ∨ (96 ≤ b ∧ b ≤ 96) ∨ (97 ≤ b ∧ b ≤ 122) ∨ (123 ≤ b ∧ b ≤ 255)) with ⟨r1, r2⟩ | ⟨r1, r2⟩ | ⟨r1, r2⟩ | ⟨r1, r2⟩ | ⟨r1, r2⟩ | ⟨r1, r2⟩ | ⟨r1, r2⟩ | ⟨r1, r2⟩ | ⟨r1, r2⟩
      · have hL : letB s[i] = false := by rw [HL.out]; simp; omega
        have hD : dgB s[i] = false := by rw [HD.out]; simp; omega
        have g95 : ((b : Int) == 95) = false := by rw [beq_eq_false_iff_ne]; omega
        have g97 : ¬ (97 : Int) ≤ b := by omega
        have g122 : (b : Int) ≤ 122 := by omega
        have g65 : ¬ (65 : Int) ≤ b := by omega
        have g90 : (b : Int) ≤ 90 := by omega
        have g48 : (b : Int) < 48 := by omega
        have g57 : ¬ (57 : Int) < b := by omega
        clear r1 r2 HL HD
        by_cases h0 : i = 0
        · subst h0
          have z0 : (((0 : Nat) : Int) == 0) = true := rfl
          have HO := Lib.hid (HB.out (by unfold okAt; rw [hL, hD]; rfl))
          clear HN HB hL hD
          go_wp2_with fail
          go_ret
          exact ⟨ret_bool HO.out.symm, rfl⟩
        · have z0 : ((i : Int) == 0) = false := by rw [beq_eq_false_iff_ne]; omega
          have HO := Lib.hid (HB.out (by unfold okAt; rw [hL, hD]; simp))
          clear HN HB hL hD h0
          go_wp2_with fail
          go_ret
          exact ⟨ret_bool HO.out.symm, rfl⟩
      · have hL : letB s[i] = false := by rw [HL.out]; simp; omega
        have hD : dgB s[i] = true := by rw [HD.out]; simp; omega
        have g95 : ((b : Int) == 95) = false := by rw [beq_eq_false_iff_ne]; omega
        have g97 : ¬ (97 : Int) ≤ b := by omega
        have g122 : (b : Int) ≤ 122 := by omega
        have g65 : ¬ (65 : Int) ≤ b := by omega
        have g90 : (b : Int) ≤ 90 := by omega
        have g48 : ¬ (b : Int) < 48 := by omega
        have g57 : ¬ (57 : Int) < b := by omega
        clear r1 r2 HL HD
        by_cases h0 : i = 0
        · subst h0
          have z0 : (((0 : Nat) : Int) == 0) = true := rfl
          have HO := Lib.hid (HB.out (by unfold okAt; rw [hL, hD]; rfl))
          clear HN HB hL hD
          go_wp2_with fail
          go_ret
          exact ⟨ret_bool HO.out.symm, rfl⟩
        · have z0 : ((i : Int) == 0) = false := by rw [beq_eq_false_iff_ne]; omega
          have HO := Lib.hid (HN.out (by unfold okAt; rw [hL, hD]; simp [h0]))
          clear HN HB hL hD h0
          go_wp2_with fail
          go_round
          case rel => exact ⟨i + 1, by omega, by go_num, HO⟩
          case measure => simp [intOf]; omega
      · have hL : letB s[i] = false := by rw [HL.out]; simp; omega
        have hD : dgB s[i] = false := by rw [HD.out]; simp; omega
        have g95 : ((b : Int) == 95) = false := by rw [beq_eq_false_iff_ne]; omega
        have g97 : ¬ (97 : Int) ≤ b := by omega
        have g122 : (b : Int) ≤ 122 := by omega
        have g65 : ¬ (65 : Int) ≤ b := by omega
        have g90 : (b : Int) ≤ 90 := by omega
        have g48 : ¬ (b : Int) < 48 := by omega
        have g57 : (57 : Int) < b := by omega
        clear r1 r2 HL HD
        by_cases h0 : i = 0
        · subst h0
          have z0 : (((0 : Nat) : Int) == 0) = true := rfl
          have HO := Lib.hid (HB.out (by unfold okAt; rw [hL, hD]; rfl))
          clear HN HB hL hD
          go_wp2_with fail
          go_ret
          exact ⟨ret_bool HO.out.symm, rfl⟩
        · have z0 : ((i : Int) == 0) = false := by rw [beq_eq_false_iff_ne]; omega
          have HO := Lib.hid (HB.out (by unfold okAt; rw [hL, hD]; simp))
          clear HN HB hL hD h0
          go_wp2_with fail
          go_ret
          exact ⟨ret_bool HO.out.symm, rfl⟩
      · have hL : letB s[i] = true := by rw [HL.out]; simp; omega
        have hD : dgB s[i] = false := by rw [HD.out]; simp; omega
        have g95 : ((b : Int) == 95) = false := by rw [beq_eq_false_iff_ne]; omega
        have g97 : ¬ (97 : Int) ≤ b := by omega
        have g122 : (b : Int) ≤ 122 := by omega
        have g65 : (65 : Int) ≤ b := by omega
        have g90 : (b : Int) ≤ 90 := by omega
        have g48 : ¬ (b : Int) < 48 := by omega
        have g57 : (57 : Int) < b := by omega
        clear r1 r2 HL HD
        have HO := Lib.hid (HN.out (by unfold okAt; rw [hL, hD]; rfl))
        clear HN HB hL hD
        go_wp2_with fail
        go_round
        case rel => exact ⟨i + 1, by omega, by go_num, HO⟩
        case measure => simp [intOf]; omega
      · have hL : letB s[i] = false := by rw [HL.out]; simp; omega
        have hD : dgB s[i] = false := by rw [HD.out]; simp; omega
        have g95 : ((b : Int) == 95) = false := by rw [beq_eq_false_iff_ne]; omega
        have g97 : ¬ (97 : Int) ≤ b := by omega
        have g122 : (b : Int) ≤ 122 := by omega
        have g65 : (65 : Int) ≤ b := by omega
        have g90 : ¬ (b : Int) ≤ 90 := by omega
        have g48 : ¬ (b : Int) < 48 := by omega
        have g57 : (57 : Int) < b := by omega
        clear r1 r2 HL HD
        by_cases h0 : i = 0
        · subst h0
          have z0 : (((0 : Nat) : Int) == 0) = true := rfl
          have HO := Lib.hid (HB.out (by unfold okAt; rw [hL, hD]; rfl))
          clear HN HB hL hD
          go_wp2_with fail
          go_ret
          exact ⟨ret_bool HO.out.symm, rfl⟩
        · have z0 : ((i : Int) == 0) = false := by rw [beq_eq_false_iff_ne]; omega
          have HO := Lib.hid (HB.out (by unfold okAt; rw [hL, hD]; simp))
          clear HN HB hL hD h0
          go_wp2_with fail
          go_ret
          exact ⟨ret_bool HO.out.symm, rfl⟩
      · have hL : letB s[i] = true := by rw [HL.out]; simp; omega
        have hD : dgB s[i] = false := by rw [HD.out]; simp; omega
        have g95 : ((b : Int) == 95) = true := by rw [beq_iff_eq]; omega
        have g97 : ¬ (97 : Int) ≤ b := by omega
        have g122 : (b : Int) ≤ 122 := by omega
        have g65 : (65 : Int) ≤ b := by omega
        have g90 : ¬ (b : Int) ≤ 90 := by omega
        have g48 : ¬ (b : Int) < 48 := by omega
        have g57 : (57 : Int) < b := by omega
        clear r1 r2 HL HD
        have HO := Lib.hid (HN.out (by unfold okAt; rw [hL, hD]; rfl))
        clear HN HB hL hD
        go_wp2_with fail
        go_round
        case rel => exact ⟨i + 1, by omega, by go_num, HO⟩
        case measure => simp [intOf]; omega
      · have hL : letB s[i] = false := by rw [HL.out]; simp; omega
        have hD : dgB s[i] = false := by rw [HD.out]; simp; omega
        have g95 : ((b : Int) == 95) = false := by rw [beq_eq_false_iff_ne]; omega
        have g97 : ¬ (97 : Int) ≤ b := by omega
        have g122 : (b : Int) ≤ 122 := by omega
        have g65 : (65 : Int) ≤ b := by omega
        have g90 : ¬ (b : Int) ≤ 90 := by omega
        have g48 : ¬ (b : Int) < 48 := by omega
        have g57 : (57 : Int) < b := by omega
        clear r1 r2 HL HD
        by_cases h0 : i = 0
        · subst h0
          have z0 : (((0 : Nat) : Int) == 0) = true := rfl
          have HO := Lib.hid (HB.out (by unfold okAt; rw [hL, hD]; rfl))
          clear HN HB hL hD
          go_wp2_with fail
          go_ret
          exact ⟨ret_bool HO.out.symm, rfl⟩
        · have z0 : ((i : Int) == 0) = false := by rw [beq_eq_false_iff_ne]; omega
          have HO := Lib.hid (HB.out (by unfold okAt; rw [hL, hD]; simp))
          clear HN HB hL hD h0
          go_wp2_with fail
          go_ret
          exact ⟨ret_bool HO.out.symm, rfl⟩
      · have hL : letB s[i] = true := by rw [HL.out]; simp; omega
        have hD : dgB s[i] = false := by rw [HD.out]; simp; omega
        have g95 : ((b : Int) == 95) = false := by rw [beq_eq_false_iff_ne]; omega
        have g97 : (97 : Int) ≤ b := by omega
        have g122 : (b : Int) ≤ 122 := by omega
        have g65 : (65 : Int) ≤ b := by omega
        have g90 : ¬ (b : Int) ≤ 90 := by omega
        have g48 : ¬ (b : Int) < 48 := by omega
        have g57 : (57 : Int) < b := by omega
        clear r1 r2 HL HD
        have HO := Lib.hid (HN.out (by unfold okAt; rw [hL, hD]; rfl))
        clear HN HB hL hD
        go_wp2_with fail
        go_round
        case rel => exact ⟨i + 1, by omega, by go_num, HO⟩
        case measure => simp [intOf]; omega
      · have hL : letB s[i] = false := by rw [HL.out]; simp; omega
        have hD : dgB s[i] = false := by rw [HD.out]; simp; omega
        have g95 : ((b : Int) == 95) = false := by rw [beq_eq_false_iff_ne]; omega
        have g97 : (97 : Int) ≤ b := by omega
        have g122 : ¬ (b : Int) ≤ 122 := by omega
        have g65 : (65 : Int) ≤ b := by omega
        have g90 : ¬ (b : Int) ≤ 90 := by omega
        have g48 : ¬ (b : Int) < 48 := by omega
        have g57 : (57 : Int) < b := by omega
        clear r1 r2 HL HD
        by_cases h0 : i = 0
        · subst h0
          have z0 : (((0 : Nat) : Int) == 0) = true := rfl
          have HO := Lib.hid (HB.out (by unfold okAt; rw [hL, hD]; rfl))
          clear HN HB hL hD
          go_wp2_with fail
          go_ret
          exact ⟨ret_bool HO.out.symm, rfl⟩
        · have z0 : ((i : Int) == 0) = false := by rw [beq_eq_false_iff_ne]; omega
          have HO := Lib.hid (HB.out (by unfold okAt; rw [hL, hD]; simp))
          clear HN HB hL hD h0
          go_wp2_with fail
          go_ret
          exact ⟨ret_bool HO.out.symm, rfl⟩
    · have hge : ¬ ((i : Int) < s.size) := by omega
      cases he : em s with
      | true =>
        obtain rfl := em_yes he
        have HO := Lib.hid (HR.out.trans (show nmB ⟨#[]⟩ = false from rfl))
        clear he HP HR
        go_wp2_with fail
        go_ret
        exact ⟨ret_bool HO.out.symm, rfl⟩
      | false =>
        have g := em_no he
        have HO := Lib.hid (HR.out.trans ((nm_iff s).2 ⟨by unfold em at he; simpa using he, fun j h => HP.out j h (by omega)⟩))
        clear he HP HR
        go_wp2_with fail
        go_ret
        exact ⟨ret_bool HO.out.symm, rfl⟩
end Go.Proofs.Ytfmgkndljppffaa

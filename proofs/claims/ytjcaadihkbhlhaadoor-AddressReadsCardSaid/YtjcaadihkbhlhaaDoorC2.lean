import Derived.Test.YtjcaadihkbhlhaaDoorC1
namespace Go.Proofs.YtjcaadihkbhlhaaDoor
open Go.RowKit
/-- The reference's digits. -/
def dig (j : Nat) : Nat := if j < 10 then 48 + j else 55 + j
theorem dig_at : ∀ i, (h : i < 16) → (((⟨#[48, 49, 50, 51, 52, 53, 54, 55, 56, 57, 65, 66, 67, 68, 69, 70]⟩ : ByteArray)[i]'h).toNat = dig i) := by
  intro i h
  match i, h with
  | 0, _ => rfl
  | 1, _ => rfl
  | 2, _ => rfl
  | 3, _ => rfl
  | 4, _ => rfl
  | 5, _ => rfl
  | 6, _ => rfl
  | 7, _ => rfl
  | 8, _ => rfl
  | 9, _ => rfl
  | 10, _ => rfl
  | 11, _ => rfl
  | 12, _ => rfl
  | 13, _ => rfl
  | 14, _ => rfl
  | 15, _ => rfl
  | (k + 16), h => exact absurd h (by omega)
def digB (j n : Nat) : Prop := dig j = n ∨ (9 < j ∧ dig j + 32 = n)
theorem hex_dig {j n : Nat} (hj : j < 16) (h : digB j n) : hexV n = j := by
  unfold digB dig at h
  unfold hexV
  repeat' split
  all_goals (split at h <;> omega)
theorem hex_none {n : Nat} (h : ∀ j, j < 16 → ¬ digB j n) : hexV n = -1 := by
  unfold hexV
  split
  · exact absurd (by unfold digB dig; rw [if_pos (by omega)]; omega) (h (n - 48) (by omega))
  · split
    · exact absurd (by unfold digB dig; rw [if_neg (by omega)]; omega) (h (n - 87) (by omega))
    · split
      · exact absurd (by unfold digB dig; rw [if_neg (by omega)]; omega) (h (n - 55) (by omega))
      · rfl
def ValAt (w : World) (n : Nat) (v : Value) (W : World) : Prop := ∃ i : Nat, i ≤ 16 ∧ v = .int .i64 i ∧ W = w ∧ ∀ j, j < i → ¬ digB j n
set_option maxRecDepth 20000 in
set_option maxHeartbeats 1000000 in
theorem value_any (b : UInt8) (w : World) : Calls Tryd.prog 68 #[.int .u8 (b.toNat : Nat)] w fun e w' => e = .returned (.int .i64 (hexV b.toNat)) ∧ w' = w := by
  have hn := UInt8.toNat_lt b
  obtain ⟨n, hn0⟩ : ∃ n, n = b.toNat := ⟨_, rfl⟩
  rw [← hn0] at hn ⊢
  clear hn0
  go_enter Tryd.func68, Tryd.ntmps68
  go_wp2_with fail
  go_loopw [3] (fun s3 wr => ValAt w n s3 wr) (fun s3 _ => 16 - (intOf s3).toNat)
  case atStart => exact ⟨0, Nat.zero_le _, rfl, rfl, by intro j hj; omega⟩
  case round =>
    obtain ⟨i, hi, rfl, hw, hno⟩ := hrel
    subst hw
    have HN := Lib.hid hno
    clear hno
    by_cases hlt : i < 16
    · have hlt' : (i : Int) < 16 := by omega
      have kd := fun q : i < 16 => congrArg (fun z : Nat => (z : Int)) (dig_at i q)
      have hd : dig i ≤ 70 := by unfold dig; split <;> omega
      have hd2 : 48 ≤ dig i := by unfold dig; split <;> omega
      obtain ⟨d, hdd⟩ : ∃ d, d = dig i := ⟨_, rfl⟩
      rw [← hdd] at hd hd2
      have HDD := Lib.hid hdd
      simp only [← hdd] at kd
      clear hdd
      have step : ¬ digB i n → ∀ j, j < i + 1 → ¬ digB j n := fun q j hj => by
        by_cases e : j = i
        · rw [e]; exact q
        · exact HN.out j (by omega)
      have ST := Lib.hid step
      clear step
      by_cases h1 : d = n
      · have H1 : Hid (digB i n) := Lib.hid (.inl (by rw [← HDD.out]; exact h1))
        have g1 : (d : Int) = n := by omega
        clear h1
        go_wp2_with fail
        go_ret
        exact ⟨rint (hex_dig hlt H1.out).symm, rfl⟩
      · have g1 : ¬ ((d : Int) = n) := by omega
        have ga : ((d : Int) == (n : Int)) = false := beq_eq_false_iff_ne.2 g1
        by_cases h2 : 9 < i
        · have g2 : (9 : Int) < i := by omega
          by_cases h3 : d + 32 = n
          · have H1 : Hid (digB i n) := Lib.hid (.inr ⟨h2, by rw [← HDD.out]; exact h3⟩)
            have g3 : (d : Int) + 32 = n := by omega
            clear h1 h2 h3
            go_wp2_with fail
            go_ret
            exact ⟨rint (hex_dig hlt H1.out).symm, rfl⟩
          · have H1 : Hid (¬ digB i n) := Lib.hid (by unfold digB; rw [← HDD.out]; omega)
            have g3 : ¬ ((d : Int) + 32 = n) := by omega
            have gb : ((d : Int) + 32 == (n : Int)) = false := beq_eq_false_iff_ne.2 g3
            clear h1 h2 h3
            go_wp2_with fail
            go_roundw
            case rel => exact ⟨i + 1, by omega, by go_num, rfl, ST.out H1.out⟩
            case measure => simp [intOf]; omega
        · have g2 : ¬ ((9 : Int) < i) := by omega
          have H1 : Hid (¬ digB i n) := Lib.hid (by unfold digB; rw [← HDD.out]; omega)
          clear h1 h2
          go_wp2_with fail
          go_roundw
          case rel => exact ⟨i + 1, by omega, by go_num, rfl, ST.out H1.out⟩
          case measure => simp [intOf]; omega
    · obtain rfl : i = 16 := by omega
      go_wp2_with fail
      go_ret
      exact ⟨rint (hex_none HN.out).symm, rfl⟩
set_option maxRecDepth 20000 in
set_option maxHeartbeats 1000000 in
theorem escape_any (s : ByteArray) (i : Nat) (hi : i < s.size) (hs : s.size ≤ 1000000) (w : World) : Calls Tryd.prog 60 #[.string s, .int .i64 i] w fun e w' => e = .returned (.bool (esc (s.data.toList.drop i))) ∧ w' = w := by
  have HE := Lib.hid (esc_at s i)
  by_cases h2 : i + 2 < s.size
  · rw [dif_pos h2] at HE
    obtain ⟨a, ha⟩ : ∃ a, a = s[i] := ⟨_, rfl⟩
    obtain ⟨b, hb⟩ : ∃ a, a = s[i + 1] := ⟨_, rfl⟩
    obtain ⟨c, hc⟩ : ∃ a, a = s[i + 2] := ⟨_, rfl⟩
    rw [← ha, ← hb, ← hc] at HE
    have k0 : ∀ q : i < s.size, (s[i].toNat : Int) = (a.toNat : Nat) := fun q => by rw [ha]
    have k1 : ∀ q : i + 1 < s.size, (s[i + 1].toNat : Int) = (b.toNat : Nat) := fun q => by rw [hb]
    have k2 : ∀ q : i + 2 < s.size, (s[i + 2].toNat : Int) = (c.toNat : Nat) := fun q => by rw [hc]
    have g1 : (i : Int) + 2 < s.size := by omega
    have g2 : (i : Int) < s.size := by omega
    have g3 : (i : Int) + 1 < s.size := by omega
    have t1 : ((i : Int) + 1).toNat = i + 1 := by omega
    have t2 : ((i : Int) + 2).toNat = i + 2 := by omega
    by_cases h37 : a.toNat = 37
    · have h37' : (a.toNat : Int) = 37 := by omega
      have HX := Lib.hid (fun (b : UInt8) w => value_any b w)
      have a37 : (a == 37) = true := by
        rw [beq_iff_eq]; exact UInt8.toNat_inj.1 h37
      rw [a37, Bool.true_and] at HE
      unfold hexB at HE
      by_cases s1 : 0 ≤ hexV b.toNat
      · have d1 : decide (0 ≤ hexV b.toNat) = true := by rw [decide_eq_true_eq]; exact s1
        rw [d1, Bool.true_and] at HE
        clear ha hb hc
        go_enter Tryd.func60, Tryd.ntmps60
        go_wp2_with fail
        refine (HX.out _ _).mono ?_
        rintro e w1 ⟨rfl, rfl⟩
        go_wp2_with fail
        refine (HX.out _ _).mono ?_
        rintro e w2 ⟨rfl, rfl⟩
        go_wp2_with fail
        go_ret
        exact ⟨rbool HE.out.symm, rfl⟩
      · have d1 : decide (0 ≤ hexV b.toNat) = false := by rw [decide_eq_false_iff_not]; exact s1
        rw [d1, Bool.false_and] at HE
        clear ha hb hc
        go_enter Tryd.func60, Tryd.ntmps60
        go_wp2_with fail
        refine (HX.out _ _).mono ?_
        rintro e w1 ⟨rfl, rfl⟩
        go_wp2_with fail
        go_ret
        exact ⟨rbool HE.out.symm, rfl⟩
    · have h37' : ¬ (a.toNat : Int) = 37 := by omega
      have a37 : (a == 37) = false := by
        rw [beq_eq_false_iff_ne]; intro e; exact h37 (by rw [e]; rfl)
      rw [a37, Bool.false_and] at HE
      clear ha hb hc
      go_enter Tryd.func60, Tryd.ntmps60
      go_wp2_with fail
      go_ret
      exact ⟨rbool HE.out.symm, rfl⟩
  · rw [dif_neg h2] at HE
    have g1 : ¬ ((i : Int) + 2 < s.size) := by omega
    go_enter Tryd.func60, Tryd.ntmps60
    go_wp2_with fail
    go_ret
    exact ⟨rbool HE.out.symm, rfl⟩
end Go.Proofs.YtjcaadihkbhlhaaDoor

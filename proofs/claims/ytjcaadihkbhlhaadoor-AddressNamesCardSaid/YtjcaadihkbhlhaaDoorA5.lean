import Derived.Test.YtjcaadihkbhlhaaDoorA4
namespace Go.Proofs.YtjcaadihkbhlhaaDoor
open Go.RowKit
/-- A byte, whatever, and whether an escape stands there. -/
def EscPost (g : Bool) (e : Ending) : Prop := ∃ x : Int, 0 ≤ x ∧ x ≤ 255 ∧ e = .returned (.tuple #[.int .u8 x, .bool g])
theorem hexV_range (n : Nat) : hexV n = -1 ∨ (0 ≤ hexV n ∧ hexV n < 16) := by
  unfold hexV
  repeat' split
  all_goals omega
set_option maxRecDepth 20000 in
set_option maxHeartbeats 1000000 in
theorem escaped_any (s : ByteArray) (i : Nat) (hi : i < s.size) (hs : s.size ≤ 1000000) (w : World) : Calls Tryd.prog 47 #[.string s, .int .i64 i] w fun e w' => EscPost (esc (s.data.toList.drop i)) e ∧ Below w.heap.size w w' := by
  have HE := Lib.hid (esc_at s i)
  by_cases h2 : i + 2 < s.size
  · rw [dif_pos h2] at HE
    obtain ⟨a, ha⟩ : ∃ a, a = s[i] := ⟨_, rfl⟩
    obtain ⟨b, hb⟩ : ∃ a, a = s[i + 1] := ⟨_, rfl⟩
    obtain ⟨c, hc⟩ : ∃ a, a = s[i + 2] := ⟨_, rfl⟩
    rw [← ha, ← hb, ← hc] at HE
    have ha1 := UInt8.toNat_lt a
    have hb1 := UInt8.toNat_lt b
    have hc1 := UInt8.toNat_lt c
    have k0 : ∀ q : i < s.size, (s[i].toNat : Int) = (a.toNat : Nat) := fun q => by rw [ha]
    have k1 : ∀ q : i + 1 < s.size, (s[i + 1].toNat : Int) = (b.toNat : Nat) := fun q => by rw [hb]
    have k2 : ∀ q : i + 2 < s.size, (s[i + 2].toNat : Int) = (c.toNat : Nat) := fun q => by rw [hc]
    have g1 : ¬ ((s.size : Int) ≤ i + 2) := by omega
    have g2 : (i : Int) < s.size := by omega
    have g3 : (i : Int) + 1 < s.size := by omega
    have g4 : (i : Int) + 2 < s.size := by omega
    have t1 : ((i : Int) + 1).toNat = i + 1 := by omega
    have t2 : ((i : Int) + 2).toNat = i + 2 := by omega
    by_cases h37 : a.toNat = 37
    · have h37' : (a.toNat : Int) = 37 := by omega
      have HX := Lib.hid (fun (b : UInt8) w => hex_any b.toNat (UInt8.toNat_lt b) w)
      have a37 : (a == 37) = true := by
        rw [beq_iff_eq]; exact UInt8.toNat_inj.1 h37
      rw [a37, Bool.true_and] at HE
      unfold hexB at HE
      have R1 := Lib.hid (hexV_range b.toNat)
      have R2 := Lib.hid (hexV_range c.toNat)
      by_cases s1 : hexV b.toNat < 0
      · have d1 : decide (0 ≤ hexV b.toNat) = false := by rw [decide_eq_false_iff_not]; omega
        rw [d1, Bool.false_and] at HE
        clear ha hb hc ha1 hb1 hc1
        go_enter Tryd.func47, Tryd.ntmps47
        go_wp2_with (go_quiet (first | (go_at_call 66; exact Calls.quiet_of_same (HX.out _ _))))
        go_ret2
        exact ⟨⟨_, (Int.le_refl 0), (by decide), by rw [HE.out]; rfl⟩, below_dr (Below.refl _ _) _⟩
      · have d1 : decide (0 ≤ hexV b.toNat) = true := by rw [decide_eq_true_eq]; omega
        rw [d1, Bool.true_and] at HE
        by_cases s2 : hexV c.toNat < 0
        · have d2 : decide (0 ≤ hexV c.toNat) = false := by rw [decide_eq_false_iff_not]; omega
          rw [d2] at HE
          clear ha hb hc ha1 hb1 hc1
          go_enter Tryd.func47, Tryd.ntmps47
          go_wp2_with (go_quiet (first | (go_at_call 66; exact Calls.quiet_of_same (HX.out _ _))))
          go_ret2
          exact ⟨⟨_, (Int.le_refl 0), (by decide), by rw [HE.out]; rfl⟩, below_dr (Below.refl _ _) _⟩
        · have d2 : decide (0 ≤ hexV c.toNat) = true := by rw [decide_eq_true_eq]; omega
          rw [d2] at HE
          clear ha hb hc ha1 hb1 hc1
          go_enter Tryd.func47, Tryd.ntmps47
          go_wp2_with (go_quiet (first | (go_at_call 66; exact Calls.quiet_of_same (HX.out _ _))))
          go_ret2
          exact ⟨⟨_, Int.emod_nonneg _ (by decide), Int.le_of_lt_add_one (Int.emod_lt_of_pos _ (by decide)), by rw [HE.out]; rfl⟩, below_dr (Below.refl _ _) _⟩
    · have h37' : ¬ (a.toNat : Int) = 37 := by omega
      have a37 : (a == 37) = false := by
        rw [beq_eq_false_iff_ne]; intro e; exact h37 (by rw [e]; rfl)
      rw [a37, Bool.false_and] at HE
      clear ha hb hc ha1 hb1 hc1
      go_enter Tryd.func47, Tryd.ntmps47
      go_wp2_with fail
      go_ret2
      exact ⟨⟨0, by omega, by omega, by rw [HE.out]; rfl⟩, Below.refl _ _⟩
  · rw [dif_neg h2] at HE
    have g1 : (s.size : Int) ≤ i + 2 := by omega
    go_enter Tryd.func47, Tryd.ntmps47
    go_wp2_with fail
    go_ret2
    exact ⟨⟨0, by omega, by omega, by rw [HE.out]; rfl⟩, Below.refl _ _⟩
end Go.Proofs.YtjcaadihkbhlhaaDoor

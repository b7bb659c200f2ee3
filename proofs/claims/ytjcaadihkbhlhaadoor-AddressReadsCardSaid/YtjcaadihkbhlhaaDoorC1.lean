import Derived.Test.YtjcaadihkbhlhaaDoorBB
namespace Go.Proofs.YtjcaadihkbhlhaaDoor
open Go.RowKit
set_option maxRecDepth 20000 in
set_option maxHeartbeats 2000000 in
theorem letter_any (b : UInt8) (w : World) : Calls Tryd.prog 58 #[.int .u8 (b.toNat : Nat)] w fun e w' => e = .returned (.bool (letterB b)) ∧ w' = w := by
  have HV : Hid (letterB b = ((decide (97 ≤ b.toNat) && decide (b.toNat ≤ 122)) || (decide (65 ≤ b.toNat) && decide (b.toNat ≤ 90)))) := Lib.hid rfl
  have h := UInt8.toNat_lt b
  obtain ⟨n, hn⟩ : ∃ n, n = b.toNat := ⟨_, rfl⟩
  rw [← hn] at h HV ⊢
  clear hn
  rcases (by omega : (0 ≤ n ∧ n ≤ 64) ∨ (65 ≤ n ∧ n ≤ 90) ∨ (91 ≤ n ∧ n ≤ 96) ∨ (97 ≤ n ∧ n ≤ 122) ∨ (123 ≤ n ∧ n ≤ 255)) with ⟨r1, r2⟩ | ⟨r1, r2⟩ | ⟨r1, r2⟩ | ⟨r1, r2⟩ | ⟨r1, r2⟩
  · have hv : Hid (letterB b = false) := Lib.hid (by rw [HV.out]; simp; omega)
    have g97 : ¬ ((97 : Int) ≤ n) := by omega
    have g122 : ((n : Int) ≤ 122) := by omega
    have g65 : ¬ ((65 : Int) ≤ n) := by omega
    have g90 : ((n : Int) ≤ 90) := by omega
    clear r1 r2
    go_enter Tryd.func58, Tryd.ntmps58
    go_wp2_with fail
    go_ret
    exact ⟨rbool hv.out.symm, rfl⟩
  · have hv : Hid (letterB b = true) := Lib.hid (by rw [HV.out]; simp; omega)
    have g97 : ¬ ((97 : Int) ≤ n) := by omega
    have g122 : ((n : Int) ≤ 122) := by omega
    have g65 : ((65 : Int) ≤ n) := by omega
    have g90 : ((n : Int) ≤ 90) := by omega
    clear r1 r2
    go_enter Tryd.func58, Tryd.ntmps58
    go_wp2_with fail
    go_ret
    exact ⟨rbool hv.out.symm, rfl⟩
  · have hv : Hid (letterB b = false) := Lib.hid (by rw [HV.out]; simp; omega)
    have g97 : ¬ ((97 : Int) ≤ n) := by omega
    have g122 : ((n : Int) ≤ 122) := by omega
    have g65 : ((65 : Int) ≤ n) := by omega
    have g90 : ¬ ((n : Int) ≤ 90) := by omega
    clear r1 r2
    go_enter Tryd.func58, Tryd.ntmps58
    go_wp2_with fail
    go_ret
    exact ⟨rbool hv.out.symm, rfl⟩
  · have hv : Hid (letterB b = true) := Lib.hid (by rw [HV.out]; simp; omega)
    have g97 : ((97 : Int) ≤ n) := by omega
    have g122 : ((n : Int) ≤ 122) := by omega
    have g65 : ((65 : Int) ≤ n) := by omega
    have g90 : ¬ ((n : Int) ≤ 90) := by omega
    clear r1 r2
    go_enter Tryd.func58, Tryd.ntmps58
    go_wp2_with fail
    go_ret
    exact ⟨rbool hv.out.symm, rfl⟩
  · have hv : Hid (letterB b = false) := Lib.hid (by rw [HV.out]; simp; omega)
    have g97 : ((97 : Int) ≤ n) := by omega
    have g122 : ¬ ((n : Int) ≤ 122) := by omega
    have g65 : ((65 : Int) ≤ n) := by omega
    have g90 : ¬ ((n : Int) ≤ 90) := by omega
    clear r1 r2
    go_enter Tryd.func58, Tryd.ntmps58
    go_wp2_with fail
    go_ret
    exact ⟨rbool hv.out.symm, rfl⟩
set_option maxRecDepth 20000 in
set_option maxHeartbeats 2000000 in
theorem digit_any (b : UInt8) (w : World) : Calls Tryd.prog 59 #[.int .u8 (b.toNat : Nat)] w fun e w' => e = .returned (.bool (digitB b)) ∧ w' = w := by
  have HV : Hid (digitB b = (decide (48 ≤ b.toNat) && decide (b.toNat ≤ 57))) := Lib.hid rfl
  have h := UInt8.toNat_lt b
  obtain ⟨n, hn⟩ : ∃ n, n = b.toNat := ⟨_, rfl⟩
  rw [← hn] at h HV ⊢
  clear hn
  rcases (by omega : (0 ≤ n ∧ n ≤ 47) ∨ (48 ≤ n ∧ n ≤ 57) ∨ (58 ≤ n ∧ n ≤ 255)) with ⟨r1, r2⟩ | ⟨r1, r2⟩ | ⟨r1, r2⟩
  · have hv : Hid (digitB b = false) := Lib.hid (by rw [HV.out]; simp; omega)
    have g48 : ¬ ((48 : Int) ≤ n) := by omega
    have g57 : ((n : Int) ≤ 57) := by omega
    clear r1 r2
    go_enter Tryd.func59, Tryd.ntmps59
    go_wp2_with fail
    go_ret
    exact ⟨rbool hv.out.symm, rfl⟩
  · have hv : Hid (digitB b = true) := Lib.hid (by rw [HV.out]; simp; omega)
    have g48 : ((48 : Int) ≤ n) := by omega
    have g57 : ((n : Int) ≤ 57) := by omega
    clear r1 r2
    go_enter Tryd.func59, Tryd.ntmps59
    go_wp2_with fail
    go_ret
    exact ⟨rbool hv.out.symm, rfl⟩
  · have hv : Hid (digitB b = false) := Lib.hid (by rw [HV.out]; simp; omega)
    have g48 : ((48 : Int) ≤ n) := by omega
    have g57 : ¬ ((n : Int) ≤ 57) := by omega
    clear r1 r2
    go_enter Tryd.func59, Tryd.ntmps59
    go_wp2_with fail
    go_ret
    exact ⟨rbool hv.out.symm, rfl⟩
theorem contains_at (s : ByteArray) (b : UInt8) (i : Nat) (h : i < s.size) : (s.data.toList.drop i).contains b = (s[i] == b || (s.data.toList.drop (i + 1)).contains b) := by
  rw [drop_at s i h, List.contains_cons]
  congr 1
  exact Bool.eq_iff_iff.2 ⟨fun e => by rw [beq_iff_eq] at e ⊢; exact e.symm, fun e => by rw [beq_iff_eq] at e ⊢; exact e.symm⟩
def AmongAt (w : World) (t : ByteArray) (b : UInt8) (v : Value) (W : World) : Prop := ∃ i : Nat, i ≤ t.size ∧ v = .int .i64 i ∧ W = w ∧ (t.data.toList.drop i).contains b = t.data.toList.contains b
set_option maxRecDepth 20000 in
set_option maxHeartbeats 1000000 in
theorem among_any (b : UInt8) (t : ByteArray) (hs : t.size ≤ 1000000) (w : World) : Calls Tryd.prog 41 #[.int .u8 (b.toNat : Nat), .string t] w fun e w' => e = .returned (.bool (t.data.toList.contains b)) ∧ w' = w := by
  go_enter Tryd.func41, Tryd.ntmps41
  go_wp2_with fail
  go_loopw [5] (fun s5 wr => AmongAt w t b s5 wr) (fun s5 _ => t.size - (intOf s5).toNat)
  case atStart => exact ⟨0, Nat.zero_le _, rfl, rfl, by rw [List.drop_zero]⟩
  case round =>
    obtain ⟨i, hi, rfl, hw, hall⟩ := hrel
    subst hw
    have HA := Lib.hid hall
    clear hall
    by_cases hlt : i < t.size
    · have hlt' : (i : Int) < t.size := by omega
      have HAT := Lib.hid (contains_at t b i hlt)
      obtain ⟨c, hc⟩ : ∃ b, b = t[i] := ⟨_, rfl⟩
      rw [← hc] at HAT
      have k0 : ∀ q : i < t.size, (t[i].toNat : Int) = (c.toNat : Nat) := fun q => by rw [hc]
      clear hc
      by_cases hcb : c.toNat = b.toNat
      · have hcb' : (c.toNat : Int) = b.toNat := by omega
        have e : (c == b) = true := by rw [beq_iff_eq]; exact UInt8.toNat_inj.1 hcb
        rw [e, Bool.true_or] at HAT
        clear hcb e
        go_wp2_with fail
        go_ret
        exact ⟨rbool (by rw [← HA.out, HAT.out]), rfl⟩
      · have hcb' : ¬ (c.toNat : Int) = b.toNat := by omega
        have e : (c == b) = false := by rw [beq_eq_false_iff_ne]; intro e; exact hcb (by rw [e])
        rw [e, Bool.false_or] at HAT
        clear hcb e
        go_wp2_with fail
        go_roundw
        case rel => exact ⟨i + 1, by omega, by go_num, rfl, by rw [← HA.out, HAT.out]⟩
        case measure => simp [intOf]; omega
    · obtain rfl : i = t.size := by omega
      go_wp2_with fail
      go_ret
      exact ⟨rbool (by rw [← HA.out, drop_end]; rfl), rfl⟩
set_option maxRecDepth 20000 in
set_option maxHeartbeats 1000000 in
theorem free_any (b : UInt8) (w : World) : Calls Tryd.prog 61 #[.int .u8 (b.toNat : Nat)] w fun e w' => e = .returned (.bool (freeB b)) ∧ w' = w := by
  have HF : Hid (freeB b = (letterB b || digitB b || ([45, 46, 95, 126] : List UInt8).contains b)) := Lib.hid rfl
  have HL := Lib.hid (letter_any b)
  have HD := Lib.hid (digit_any b)
  have HA := Lib.hid (among_any b ⟨#[45, 46, 95, 126]⟩ (by decide))
  rw [show (⟨#[45, 46, 95, 126]⟩ : ByteArray).data.toList = [45, 46, 95, 126] from rfl] at HA
  obtain ⟨f, hf⟩ : ∃ g, g = freeB b := ⟨_, rfl⟩
  obtain ⟨g1, h1⟩ : ∃ g, g = letterB b := ⟨_, rfl⟩
  obtain ⟨g2, h2⟩ : ∃ g, g = digitB b := ⟨_, rfl⟩
  obtain ⟨g3, h3⟩ : ∃ g, g = ([45, 46, 95, 126] : List UInt8).contains b := ⟨_, rfl⟩
  rw [← hf, ← h1, ← h2, ← h3] at HF
  rw [← h1] at HL
  rw [← h2] at HD
  rw [← h3] at HA
  rw [← hf]
  clear hf h1 h2 h3
  cases g1 with
  | true =>
    go_enter Tryd.func61, Tryd.ntmps61
    go_wp2_with fail
    refine (HL.out _).mono ?_
    rintro e w1 ⟨rfl, rfl⟩
    go_wp2_with fail
    go_ret
    exact ⟨rbool (by rw [HF.out]; rfl), rfl⟩
  | false =>
    cases g2 with
    | true =>
      go_enter Tryd.func61, Tryd.ntmps61
      go_wp2_with fail
      refine (HL.out _).mono ?_
      rintro e w1 ⟨rfl, rfl⟩
      go_wp2_with fail
      refine (HD.out _).mono ?_
      rintro e w2 ⟨rfl, rfl⟩
      go_wp2_with fail
      go_ret
      exact ⟨rbool (by rw [HF.out]; rfl), rfl⟩
    | false =>
      go_enter Tryd.func61, Tryd.ntmps61
      go_wp2_with fail
      refine (HL.out _).mono ?_
      rintro e w1 ⟨rfl, rfl⟩
      go_wp2_with fail
      refine (HD.out _).mono ?_
      rintro e w2 ⟨rfl, rfl⟩
      go_wp2_with fail
      refine (HA.out _).mono ?_
      rintro e w3 ⟨rfl, rfl⟩
      go_wp2_with fail
      go_ret
      exact ⟨rbool (by rw [HF.out]; rfl), rfl⟩
def PortAt (w : World) (s : ByteArray) (v : Value) (W : World) : Prop := ∃ i : Nat, i ≤ s.size ∧ v = .int .i64 i ∧ W = w ∧ (s.data.toList.drop i).all digitB = s.data.toList.all digitB
set_option maxRecDepth 20000 in
set_option maxHeartbeats 1000000 in
theorem port_any (s : ByteArray) (hs : s.size ≤ 1000000) (w : World) : Calls Tryd.prog 44 #[.string s] w fun e w' => e = .returned (.bool (s.data.toList.all digitB)) ∧ w' = w := by
  go_enter Tryd.func44, Tryd.ntmps44
  go_wp2_with fail
  go_loopw [3] (fun s3 wr => PortAt w s s3 wr) (fun s3 _ => s.size - (intOf s3).toNat)
  case atStart => exact ⟨0, Nat.zero_le _, rfl, rfl, by rw [List.drop_zero]⟩
  case round =>
    obtain ⟨i, hi, rfl, hw, hall⟩ := hrel
    subst hw
    have HA := Lib.hid hall
    clear hall
    by_cases hlt : i < s.size
    · have hlt' : (i : Int) < s.size := by omega
      have HAT := Lib.hid (all_at digitB s i hlt)
      obtain ⟨c, hc⟩ : ∃ b, b = s[i] := ⟨_, rfl⟩
      rw [← hc] at HAT
      have k0 : ∀ q : i < s.size, (s[i].toNat : Int) = (c.toNat : Nat) := fun q => by rw [hc]
      clear hc
      have HD := Lib.hid (digit_any c)
      obtain ⟨g, hg⟩ : ∃ g, g = digitB c := ⟨_, rfl⟩
      rw [← hg] at HD HAT
      clear hg
      cases g with
      | true =>
        go_wp2_with fail
        refine (HD.out _).mono ?_
        rintro e w1 ⟨rfl, rfl⟩
        go_wp2_with fail
        go_roundw
        case rel => exact ⟨i + 1, by omega, by go_num, rfl, by rw [← HA.out, HAT.out, Bool.true_and]⟩
        case measure => simp [intOf]; omega
      | false =>
        go_wp2_with fail
        refine (HD.out _).mono ?_
        rintro e w1 ⟨rfl, rfl⟩
        go_wp2_with fail
        go_ret
        exact ⟨rbool (by rw [← HA.out, HAT.out]; rfl), rfl⟩
    · obtain rfl : i = s.size := by omega
      go_wp2_with fail
      go_ret
      exact ⟨rbool (by rw [← HA.out, drop_end]; rfl), rfl⟩
end Go.Proofs.YtjcaadihkbhlhaaDoor

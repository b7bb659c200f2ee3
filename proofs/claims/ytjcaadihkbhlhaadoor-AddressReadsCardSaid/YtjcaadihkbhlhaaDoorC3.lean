import Derived.Test.YtjcaadihkbhlhaaDoorC2
namespace Go.Proofs.YtjcaadihkbhlhaaDoor
open Go.RowKit
def MadeAt (w : World) (s : ByteArray) (may : UInt8 → Bool) (v : Value) (W : World) : Prop := ∃ i : Nat, i ≤ s.size ∧ v = .int .i64 i ∧ W = w ∧ ofP may (s.data.toList.drop i) = ofP may s.data.toList
theorem may37 (L : List UInt8) (h : L.contains 37 = false) : mayB L 37 = false := by unfold mayB; rw [h]; decide
set_option maxRecDepth 20000 in
set_option maxHeartbeats 2000000 in
theorem made_any (s m : ByteArray) (hs : s.size ≤ 1000000) (hm : m.size ≤ 1000000) (h37 : m.data.toList.contains 37 = false) (w : World) : Calls Tryd.prog 43 #[.string s, .string m] w fun e w' => e = .returned (.bool (ofP (mayB m.data.toList) s.data.toList)) ∧ w' = w := by
  have H37 := Lib.hid (may37 _ h37)
  clear h37
  go_enter Tryd.func43, Tryd.ntmps43
  go_wp2_with fail
  go_loopw [5] (fun s5 wr => MadeAt w s (mayB m.data.toList) s5 wr) (fun s5 _ => s.size - (intOf s5).toNat)
  case atStart => exact ⟨0, Nat.zero_le _, rfl, rfl, by rw [List.drop_zero]⟩
  case round =>
    obtain ⟨i, hi, rfl, hw, hall⟩ := hrel
    subst hw
    have HA := Lib.hid hall
    clear hall
    by_cases hlt : i < s.size
    · have hlt' : (i : Int) < s.size := by omega
      have HAT := Lib.hid (ofP_first _ H37.out s i hlt)
      have CE := Lib.hid (escape_any s i hlt hs wr)
      have HZ := Lib.hid (fun (q : esc (s.data.toList.drop i) = true) => (esc_first hlt q).2)
      obtain ⟨z, hz⟩ : ∃ z, z = esc (s.data.toList.drop i) := ⟨_, rfl⟩
      rw [← hz] at CE HAT HZ
      clear hz
      cases z with
      | true =>
        have hi3 := HZ.out rfl
        go_wp2_with fail
        refine (CE.out).mono ?_
        rintro e w1 ⟨rfl, rfl⟩
        go_wp2_with fail
        go_roundw
        case rel => exact ⟨i + 3, by omega, by go_num, rfl, by rw [← HA.out, HAT.out]; rfl⟩
        case measure => simp [intOf]; omega
      | false =>
        obtain ⟨c, hc⟩ : ∃ b, b = s[i] := ⟨_, rfl⟩
        rw [← hc] at HAT
        have k0 : ∀ q : i < s.size, (s[i].toNat : Int) = (c.toNat : Nat) := fun q => by rw [hc]
        clear hc
        have HM : Hid (mayB m.data.toList c = (freeB c || ([33, 36, 38, 39, 40, 41, 42, 43, 44, 59, 61] : List UInt8).contains c || m.data.toList.contains c)) := Lib.hid rfl
        have HF := Lib.hid (free_any c)
        have HD := Lib.hid (among_any c ⟨#[33, 36, 38, 39, 40, 41, 42, 43, 44, 59, 61]⟩ (by decide))
        rw [show (⟨#[33, 36, 38, 39, 40, 41, 42, 43, 44, 59, 61]⟩ : ByteArray).data.toList = [33, 36, 38, 39, 40, 41, 42, 43, 44, 59, 61] from rfl] at HD
        have HG := Lib.hid (among_any c m hm)
        obtain ⟨f, hf⟩ : ∃ g, g = mayB m.data.toList c := ⟨_, rfl⟩
        obtain ⟨g1, h1⟩ : ∃ g, g = freeB c := ⟨_, rfl⟩
        obtain ⟨g2, h2⟩ : ∃ g, g = ([33, 36, 38, 39, 40, 41, 42, 43, 44, 59, 61] : List UInt8).contains c := ⟨_, rfl⟩
        obtain ⟨g3, h3⟩ : ∃ g, g = m.data.toList.contains c := ⟨_, rfl⟩
        rw [← hf] at HM HAT
        rw [← h1, ← h2, ← h3] at HM
        rw [← h1] at HF
        rw [← h2] at HD
        rw [← h3] at HG
        clear hf h1 h2 h3
        cases g1 with
        | true =>
          go_wp2_with fail
          refine (CE.out).mono ?_
          rintro e w1 ⟨rfl, rfl⟩
          go_wp2_with fail
          refine (HF.out _).mono ?_
          rintro e w2 ⟨rfl, rfl⟩
          go_wp2_with fail
          go_roundw
          case rel => exact ⟨i + 1, by omega, by go_num, rfl, by rw [← HA.out, HAT.out, HM.out]; rfl⟩
          case measure => simp [intOf]; omega
        | false =>
          cases g2 with
          | true =>
            go_wp2_with fail
            refine (CE.out).mono ?_
            rintro e w1 ⟨rfl, rfl⟩
            go_wp2_with fail
            refine (HF.out _).mono ?_
            rintro e w2 ⟨rfl, rfl⟩
            go_wp2_with fail
            refine (HD.out _).mono ?_
            rintro e w3 ⟨rfl, rfl⟩
            go_wp2_with fail
            go_roundw
            case rel => exact ⟨i + 1, by omega, by go_num, rfl, by rw [← HA.out, HAT.out, HM.out]; rfl⟩
            case measure => simp [intOf]; omega
          | false =>
            cases g3 with
            | true =>
              go_wp2_with fail
              refine (CE.out).mono ?_
              rintro e w1 ⟨rfl, rfl⟩
              go_wp2_with fail
              refine (HF.out _).mono ?_
              rintro e w2 ⟨rfl, rfl⟩
              go_wp2_with fail
              refine (HD.out _).mono ?_
              rintro e w3 ⟨rfl, rfl⟩
              go_wp2_with fail
              refine (HG.out _).mono ?_
              rintro e w4 ⟨rfl, rfl⟩
              go_wp2_with fail
              go_roundw
              case rel => exact ⟨i + 1, by omega, by go_num, rfl, by rw [← HA.out, HAT.out, HM.out]; rfl⟩
              case measure => simp [intOf]; omega
            | false =>
              go_wp2_with fail
              refine (CE.out).mono ?_
              rintro e w1 ⟨rfl, rfl⟩
              go_wp2_with fail
              refine (HF.out _).mono ?_
              rintro e w2 ⟨rfl, rfl⟩
              go_wp2_with fail
              refine (HD.out _).mono ?_
              rintro e w3 ⟨rfl, rfl⟩
              go_wp2_with fail
              refine (HG.out _).mono ?_
              rintro e w4 ⟨rfl, rfl⟩
              go_wp2_with fail
              go_ret
              exact ⟨rbool (by rw [← HA.out, HAT.out, HM.out]; rfl), rfl⟩
    · obtain rfl : i = s.size := by omega
      go_wp2_with fail
      go_ret
      exact ⟨rbool (by rw [← HA.out, drop_end, ofP_nil]), rfl⟩
def SchAt (w : World) (s : ByteArray) (v : Value) (W : World) : Prop := ∃ i : Nat, i ≤ s.size ∧ v = .int .i64 i ∧ W = w ∧ (i = 0 ∨ (0 < i ∧ schemeP s.data.toList = (s.data.toList.drop i).all schemeB))
theorem scheme_first (s : ByteArray) (h : 0 < s.size) : schemeP s.data.toList = (letterB s[0] && (s.data.toList.drop 1).all schemeB) := by
  have := drop_at s 0 h
  rw [List.drop_zero] at this
  rw [this]; rfl
set_option maxRecDepth 20000 in
set_option maxHeartbeats 2000000 in
theorem scheme_any (s : ByteArray) (hs : s.size ≤ 1000000) (w : World) : Calls Tryd.prog 42 #[.string s] w fun e w' => e = .returned (.bool (schemeP s.data.toList)) ∧ w' = w := by
  go_enter Tryd.func42, Tryd.ntmps42
  go_wp2_with fail
  go_loopw [3] (fun s3 wr => SchAt w s s3 wr) (fun s3 _ => s.size - (intOf s3).toNat)
  case atStart => exact ⟨0, Nat.zero_le _, rfl, rfl, .inl rfl⟩
  case round =>
    obtain ⟨i, hi, rfl, hw, hall⟩ := hrel
    subst hw
    have HA := Lib.hid hall
    clear hall
    by_cases hlt : i < s.size
    · have hlt' : (i : Int) < s.size := by omega
      obtain ⟨c, hc⟩ : ∃ b, b = s[i] := ⟨_, rfl⟩
      have k0 : ∀ q : i < s.size, (s[i].toNat : Int) = (c.toNat : Nat) := fun q => by rw [hc]
      have HL := Lib.hid (letter_any c)
      have HD := Lib.hid (digit_any c)
      have HG := Lib.hid (among_any c ⟨#[43, 45, 46]⟩ (by decide))
      rw [show (⟨#[43, 45, 46]⟩ : ByteArray).data.toList = [43, 45, 46] from rfl] at HG
      have HS : Hid (schemeB c = (letterB c || digitB c || ([43, 45, 46] : List UInt8).contains c)) := Lib.hid rfl
      have H0 : Hid (i = 0 → schemeP s.data.toList = (letterB c && (s.data.toList.drop (i + 1)).all schemeB)) := Lib.hid (fun q => by
        subst q; rw [hc]; exact scheme_first s hlt)
      have H1 : Hid (0 < i → schemeP s.data.toList = (schemeB c && (s.data.toList.drop (i + 1)).all schemeB)) := Lib.hid (fun q => by
        rcases HA.out with h | ⟨_, h⟩
        · omega
        · rw [h, all_at schemeB s i hlt, hc])
      clear hc
      obtain ⟨f, hf⟩ : ∃ g, g = schemeB c := ⟨_, rfl⟩
      obtain ⟨g1, h1⟩ : ∃ g, g = letterB c := ⟨_, rfl⟩
      obtain ⟨g2, h2⟩ : ∃ g, g = digitB c := ⟨_, rfl⟩
      obtain ⟨g3, h3⟩ : ∃ g, g = ([43, 45, 46] : List UInt8).contains c := ⟨_, rfl⟩
      rw [← hf] at HS H1
      rw [← h1, ← h2, ← h3] at HS
      rw [← h1] at HL H0
      rw [← h2] at HD
      rw [← h3] at HG
      clear hf h1 h2 h3
      cases g1 with
      | true =>
        have NX : Hid (schemeP s.data.toList = (s.data.toList.drop (i + 1)).all schemeB) := Lib.hid (by
          by_cases q : i = 0
          · rw [H0.out q, Bool.true_and]
          · rw [H1.out (by omega), HS.out]; rfl)
        go_wp2_with fail
        refine (HL.out _).mono ?_
        rintro e w1 ⟨rfl, rfl⟩
        go_wp2_with fail
        go_roundw
        case rel => exact ⟨i + 1, by omega, by go_num, rfl, .inr ⟨by omega, NX.out⟩⟩
        case measure => simp [intOf]; omega
      | false =>
        by_cases q : i = 0
        · have NX : Hid (schemeP s.data.toList = false) := Lib.hid (by rw [H0.out q, Bool.false_and])
          have hpos : (0 : Int) < s.size := by omega
          clear H0 H1
          subst q
          go_wp2_with fail
          refine (HL.out _).mono ?_
          rintro e w1 ⟨rfl, rfl⟩
          go_wp2_with fail
          go_ret
          exact ⟨rbool NX.out.symm, rfl⟩
        · have q0 : ¬ ((i : Int) = 0) := by omega
          have q1 : ((i : Int) == 0) = false := beq_eq_false_iff_ne.2 q0
          have H2 := Lib.hid (H1.out (by omega))
          clear H0 H1 q
          cases g2 with
          | true =>
            go_wp2_with fail
            refine (HL.out _).mono ?_
            rintro e w1 ⟨rfl, rfl⟩
            go_wp2_with fail
            refine (HD.out _).mono ?_
            rintro e w2 ⟨rfl, rfl⟩
            go_wp2_with fail
            go_roundw
            case rel => exact ⟨i + 1, by omega, by go_num, rfl, .inr ⟨by omega, by rw [H2.out, HS.out]; rfl⟩⟩
            case measure => simp [intOf]; omega
          | false =>
            cases g3 with
            | true =>
              go_wp2_with fail
              refine (HL.out _).mono ?_
              rintro e w1 ⟨rfl, rfl⟩
              go_wp2_with fail
              refine (HD.out _).mono ?_
              rintro e w2 ⟨rfl, rfl⟩
              go_wp2_with fail
              refine (HG.out _).mono ?_
              rintro e w3 ⟨rfl, rfl⟩
              go_wp2_with fail
              go_roundw
              case rel => exact ⟨i + 1, by omega, by go_num, rfl, .inr ⟨by omega, by rw [H2.out, HS.out]; rfl⟩⟩
              case measure => simp [intOf]; omega
            | false =>
              go_wp2_with fail
              refine (HL.out _).mono ?_
              rintro e w1 ⟨rfl, rfl⟩
              go_wp2_with fail
              refine (HD.out _).mono ?_
              rintro e w2 ⟨rfl, rfl⟩
              go_wp2_with fail
              refine (HG.out _).mono ?_
              rintro e w3 ⟨rfl, rfl⟩
              go_wp2_with fail
              go_ret
              exact ⟨rbool (by rw [H2.out, HS.out]; rfl), rfl⟩
    · obtain rfl : i = s.size := by omega
      have HEND : Hid (schemeP s.data.toList = decide (0 < s.size)) := Lib.hid (by
        rcases HA.out with h | ⟨h1, h2⟩
        · rw [text_nil h]; rfl
        · rw [h2, drop_end, decide_eq_true h1]; rfl)
      by_cases h0 : 0 < s.size
      · rw [decide_eq_true h0] at HEND
        have h0' : (0 : Int) < s.size := by omega
        go_wp2_with fail
        go_ret
        exact ⟨rbool HEND.out.symm, rfl⟩
      · rw [decide_eq_false h0] at HEND
        have h0' : ¬ ((0 : Int) < s.size) := by omega
        go_wp2_with fail
        go_ret
        exact ⟨rbool HEND.out.symm, rfl⟩
end Go.Proofs.YtjcaadihkbhlhaaDoor

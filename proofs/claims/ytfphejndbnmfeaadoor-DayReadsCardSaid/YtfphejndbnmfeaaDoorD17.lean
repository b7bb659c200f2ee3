import Derived.Test.YtfphejndbnmfeaaDoorD16
import Derived.Test.YtfphejndbnmfeaaDoorD3
namespace Go.Proofs.YtfphejndbnmfeaaDoor
open Go.RowKit

theorem cum_top {y : Nat} (h : y ≤ 10000) : cum y ≤ 3652425 := by
  have := cum_mono (y := y) (z := 25 * 400) (by omega)
  rw [cum_mul] at this; omega
theorem cumM_top {y m : Nat} (h : m ≤ 12) : cumM y m ≤ 366 := by
  have := cumM_mono (y := y) h
  rw [cumM_12] at this
  have := (ylen_two y).2
  omega
set_option maxRecDepth 10000 in
theorem daysAhead_any (y m d : Nat) (w : World) (hT : MD w) (hy : y < 10000) (hm1 : 1 ≤ m) (hm : m ≤ 12) (hd1 : 1 ≤ d) (hd : d ≤ 31) :
    Calls Tryd.prog 61 #[.int .i64 y, .int .i64 m, .int .i64 d] w fun e w' => e = .returned (.int .i64 (aheadD y m d : Nat)) ∧ w = w' := by
  obtain ⟨Q, hQ⟩ : ∃ Q, Q = y / 400 := ⟨_, rfl⟩
  have gQ : (y : Int) / 400 = Q := by omega
  have hQ2 : Q ≤ 25 := by omega
  have HQ := Lib.hid (cum_mul Q)
  have HQY : Hid (Q * 400 ≤ y) := Lib.hid (by omega)
  have HT := Lib.hid hT
  clear hQ hT
  go_enter Tryd.func61, Tryd.ntmps61
  go_wp2_with fail
  go_loop [7, 8] (fun dv yv => ∃ z : Nat, yv = .int .i64 z ∧ dv = .int .i64 (cum z : Nat) ∧ z ≤ y) (fun _ yv => y - (intOf yv).toNat)
  case atStart => exact ⟨Q * 400, by go_num, by rw [HQ.out]; go_num, HQY.out⟩
  case round =>
    obtain ⟨z, rfl, rfl, hz⟩ := hrel
    have hct := cum_top (y := z) (by omega)
    obtain ⟨c, hc⟩ : ∃ c, c = cum z := ⟨_, rfl⟩
    have HC := Lib.hid hc
    rw [← hc] at hct ⊢
    clear hc
    by_cases hlt : z < y
    · have hlt' : (z : Int) < y := by omega
      have HY := Lib.hid (ylen_any z w (by omega))
      have hl := ylen_two z
      obtain ⟨k, hk⟩ : ∃ k, k = ylen z := ⟨_, rfl⟩
      have HK := Lib.hid hk
      rw [← hk] at HY hl
      obtain ⟨hl1, hl2⟩ := hl
      clear hk
      go_wp2_with fail
      refine HY.out.mono ?_
      rintro e w2 ⟨rfl, rfl⟩
      go_wp2_with fail
      go_round
      case rel => exact ⟨z + 1, by go_num, by rw [show cum (z + 1) = c + k by rw [HC.out, HK.out]; rfl]; go_num, by omega⟩
      case measure => simp [intOf]; omega
    · obtain rfl : z = y := by omega
      clear hlt
      go_wp2_with fail
      go_loop [7, 9] (fun dv mv => ∃ q : Nat, mv = .int .i64 ((q : Int) + 1) ∧ dv = .int .i64 ((c + cumM z q : Nat) : Int) ∧ q + 1 ≤ m) (fun _ mv => m - (intOf mv).toNat)
      case atStart => exact ⟨0, rfl, rfl, hm1⟩
      case round =>
        obtain ⟨q, rfl, rfl, hq⟩ := hrel
        have hmt := cumM_top (y := z) (m := q) (by omega)
        obtain ⟨a, ha⟩ : ∃ a, a = cumM z q := ⟨_, rfl⟩
        have HA := Lib.hid ha
        rw [← ha] at hmt ⊢
        clear ha
        by_cases hlt2 : q + 1 < m
        · have hlt2' : (q : Int) + 1 < m := by omega
          have HM := Lib.hid (daysOf_any z (q + 1) w (by omega) (by omega) (by omega) HT.out)
          have hk := dim_two z q (by omega)
          obtain ⟨k, hke⟩ : ∃ k, k = dim z (q + 1) := ⟨_, rfl⟩
          have HKE := Lib.hid hke
          rw [← hke] at HM hk
          obtain ⟨hk1, hk2⟩ := hk
          clear hke
          go_wp2_with fail
          refine HM.out.mono ?_
          rintro e w2 ⟨rfl, rfl⟩
          go_wp2_with fail
          go_round
          case rel => exact ⟨q + 1, by go_num, by rw [show cumM z (q + 1) = a + k by rw [HA.out, HKE.out]; rfl]; go_num, by omega⟩
          case measure => simp [intOf]; omega
        · obtain rfl : m = q + 1 := by omega
          have HE : Hid (aheadD z (q + 1) d = c + a + (d - 1)) := Lib.hid (by unfold aheadD; rw [HC.out, HA.out]; rfl)
          obtain ⟨f, rfl⟩ : ∃ f, d = f + 1 := ⟨d - 1, by omega⟩
          clear hlt2
          go_wp2_with fail
          go_ret
          exact ⟨rint (by rw [HE.out]; omega), rfl⟩
theorem fcount_no {s : ByteArray} {p f : Nat} (h : isDg (bt s p) = false) : fcount s p f = 0 := by
  cases f with
  | zero => rfl
  | succ f => unfold fcount; rw [h]; rfl
theorem fcount_yes {s : ByteArray} {p f : Nat} (h : isDg (bt s p) = true) : fcount s p (f + 1) = fcount s (p + 1) f + 1 := by
  conv => lhs; unfold fcount
  rw [h]; rfl
set_option maxRecDepth 10000 in
theorem nano_any (B : Nat) (s : ByteArray) (p : Nat) (b : Bool) (w : World) (hR : R w B s p b) (hs : s.size ≤ maxLen) (hp : p ≤ s.size) :
    Calls Tryd.prog 41 #[.pointer (some ⟨B, 0, none⟩)] w fun e w' => e = .returned (.int .i64 (fracV s p : Nat)) ∧ R w' B s (fracE s p) (b || !fracOk s p) ∧ Below B w w' := by
  have HS := Lib.hid hs
  have hs2 := hs
  unfold maxLen at hs2
  have HP := Lib.hid (peek_any B s p b w hR hs hp)
  obtain ⟨x, hx⟩ : ∃ x : Int, x = bt s p := ⟨_, rfl⟩
  have hb : (0 : Int) ≤ x ∧ x < 256 := by rw [hx]; exact bt_range s p
  obtain ⟨hb1, hb2⟩ := hb
  rw [← hx] at HP
  have HX := Lib.hid hx
  clear hR hs hx
  by_cases h46 : x = 46
  · subst h46
    have hlt : p < s.size := bt_in s p (by rw [← HX.out]; decide)
    have HE : Hid (fracE s p = p + 1 + fcount s (p + 1) 9) := Lib.hid (by unfold fracE; rw [if_pos HX.out.symm])
    have HFV : Hid (fracV s p = numv s (p + 1) (fcount s (p + 1) 9) * 10 ^ (9 - fcount s (p + 1) 9)) := Lib.hid (by unfold fracV; rw [if_pos HX.out.symm])
    have HFO : Hid (fracOk s p = decide (0 < fcount s (p + 1) 9)) := Lib.hid (by unfold fracOk; rw [← HX.out]; rfl)
    go_enter Tryd.func41, Tryd.ntmps41
    go_wp2_with fail
    refine HP.out.mono ?_
    rintro e w1 ⟨rfl, r1, b1⟩
    have R1 := Lib.hid r1
    have B1 := Lib.hid b1
    obtain ⟨c0, c1, c2, f1, f2, hz⟩ := r1
    clear b1
    go_wp2_with fail
    have R2 : Hid (R (w1.setCell ⟨B, 1, none⟩ (.int .i64 ((p + 1 : Nat) : Int))) B s (p + 1) b) := Lib.hid (R1.out.setp (p + 1))
    have B2 : Hid (Below B w (w1.setCell ⟨B, 1, none⟩ (.int .i64 ((p + 1 : Nat) : Int)))) := Lib.hid (B1.out.setCell (Nat.le_refl _) _)
    rw [show (w1.setCell ⟨B, 1, none⟩ (.int .i64 ((p : Int) + 1))) = (w1.setCell ⟨B, 1, none⟩ (.int .i64 ((p + 1 : Nat) : Int))) by go_num]
    obtain ⟨w2, hw2⟩ : ∃ w2, w2 = (w1.setCell ⟨B, 1, none⟩ (.int .i64 ((p + 1 : Nat) : Int))) := ⟨_, rfl⟩
    rw [← hw2] at R2 B2 ⊢
    clear hw2 c0 c1 c2 f1 f2 hz
    go_loopg [3, 4] 9 (fun f nv dv wr => ∃ i : Nat, f + i = 9 ∧ nv = .int .i64 (numv s (p + 1) i : Nat) ∧ dv = .int .i64 i ∧ digs s (p + 1) i = true ∧ p + 1 + i ≤ s.size ∧ fcount s (p + 1) 9 = i + fcount s (p + 1 + i) f ∧ R wr B s (p + 1 + i) b ∧ Below B w wr)
    case atStart => exact ⟨0, rfl, rfl, rfl, rfl, hlt, by simp, R2.out, B2.out⟩
    case round =>
      obtain ⟨i, hf, rfl, rfl, hd, hpi, hfc, hr, hbl⟩ := hrel
      have HF := Lib.hid hf
      have HD := Lib.hid hd
      have HRI := Lib.hid hr
      have HB := Lib.hid hbl
      have HFC := Lib.hid hfc
      have hi9 : i ≤ 9 := by omega
      have hnb := numv_bound hd hi9
      have HNL := Lib.hid (numv_lt s (p + 1) i hd)
      have HI := Lib.hid (fun W hW => isDigit_any B s (p + 1 + i) b W hW HS.out hpi)
      obtain ⟨n, hn⟩ : ∃ n, n = numv s (p + 1) i := ⟨_, rfl⟩
      have HN := Lib.hid hn
      rw [← hn] at hnb HNL ⊢
      have HPOW : Hid (∀ j, j + i ≤ 9 → n * 10 ^ j < 1000000000) := Lib.hid (fun j hj => by
        have h1 : n * 10 ^ j < 10 ^ i * 10 ^ j := Nat.mul_lt_mul_of_pos_right HNL.out (Nat.pow_pos (by decide))
        rw [← Nat.pow_add] at h1
        have h2 : 10 ^ (i + j) ≤ 10 ^ 9 := Nat.pow_le_pow_right (by decide) (by omega)
        omega)
      clear hf hd hr hbl hn hfc
      cases hdg : isDg (bt s (p + 1 + i)) with
      | false =>
        rw [hdg] at HI
        have HK : Hid (fcount s (p + 1) 9 = i) := Lib.hid (by rw [HFC.out, fcount_no hdg]; rfl)
        clear hdg
        go_wp2_with fail
        refine (HI.out _ HRI.out).mono ?_
        rintro e w3 ⟨rfl, r3, b3⟩
        have R3 := Lib.hid r3
        have B3 := Lib.hid (HB.out.trans b3)
        clear r3 b3
        have HFV2 : Hid (fracV s p = n * 10 ^ (9 - i)) := Lib.hid (by rw [HFV.out, HK.out, HN.out])
        have HE2 : Hid (fracE s p = p + 1 + i) := Lib.hid (by rw [HE.out, HK.out])
        by_cases h0 : i = 0
        · subst h0
          have HFO2 : Hid (fracOk s p = false) := Lib.hid (by rw [HFO.out, HK.out]; rfl)
          have R3' := Lib.hid (R3.out.setb)
          have B3' := Lib.hid (B3.out.setCell (p := ⟨B, 2, none⟩) (Nat.le_refl _) (.bool true))
          obtain ⟨c0, c1, c2, f1, f2, hz⟩ := R3.out
          go_wp2_with fail
          obtain ⟨w5, hw5⟩ : ∃ w5, w5 = w3.setCell ⟨B, 2, none⟩ (.bool true) := ⟨_, rfl⟩
          rw [← hw5] at R3' B3' ⊢
          clear hw5 c0 c1 c2 f1 f2 hz
          go_loopw [3, 4] (fun nv dv wr => ∃ j : Nat, j ≤ 9 ∧ nv = .int .i64 ((n * 10 ^ j : Nat) : Int) ∧ dv = .int .i64 (j : Int) ∧ w5 = wr) (fun _ dv _ => 9 - (intOf dv).toNat)
          case atStart => exact ⟨0, by omega, by simp, by go_num, rfl⟩
          case round =>
            obtain ⟨j, hj, rfl, rfl, rfl⟩ := hrel
            have hpw := HPOW.out j hj
            obtain ⟨v, hv⟩ : ∃ v, v = n * 10 ^ j := ⟨_, rfl⟩
            have HV := Lib.hid hv
            rw [← hv] at hpw ⊢
            clear hv
            by_cases hjl : j < 9
            · have hjl' : (j : Int) < 9 := by omega
              have hv8 : v * 10 < 1000000000 := by
                have := HPOW.out (j + 1) (by omega)
                rw [Nat.pow_succ, ← Nat.mul_assoc, ← HV.out] at this; exact this
              have q1 : (j : Int) < 9 := by omega
              go_wp2_with fail
              go_roundw
              case rel => exact ⟨j + 1, by omega, by rw [Nat.pow_succ, ← Nat.mul_assoc, ← HV.out]; go_num, by go_num, trivial⟩
              case measure => simp [intOf]; omega
            · have hjl' : ¬ (j : Int) < 9 := by omega
              have q1 : ¬ (j : Int) < 9 := by omega
              have HJ : Hid (9 - 0 = j) := Lib.hid (by omega)
              go_wp2_with fail
              go_ret
              exact ⟨rint (by rw [HFV2.out, HJ.out, HV.out]), by rw [HE2.out, HFO2.out, Bool.not_false, Bool.or_true]; exact R3'.out, B3'.out⟩

        · have HFO2 : Hid (fracOk s p = true) := Lib.hid (by rw [HFO.out, HK.out]; exact decide_eq_true (by omega))
          have g0 : ((i : Int) == 0) = false := by simp; omega
          have g00 : (i == 0) = false := by simpa using h0
          clear h0
          go_wp2_with fail
          go_loopw [3, 4] (fun nv dv wr => ∃ j : Nat, j + i ≤ 9 ∧ nv = .int .i64 ((n * 10 ^ j : Nat) : Int) ∧ dv = .int .i64 ((i + j : Nat) : Int) ∧ w3 = wr) (fun _ dv _ => 9 - (intOf dv).toNat)
          case atStart => exact ⟨0, by omega, by simp, by go_num, rfl⟩
          case round =>
            obtain ⟨j, hj, rfl, rfl, rfl⟩ := hrel
            have hpw := HPOW.out j hj
            obtain ⟨v, hv⟩ : ∃ v, v = n * 10 ^ j := ⟨_, rfl⟩
            have HV := Lib.hid hv
            rw [← hv] at hpw ⊢
            clear hv
            by_cases hjl : i + j < 9
            · have hjl' : ((i + j : Nat) : Int) < 9 := by omega
              have hv8 : v * 10 < 1000000000 := by
                have := HPOW.out (j + 1) (by omega)
                rw [Nat.pow_succ, ← Nat.mul_assoc, ← HV.out] at this; exact this
              have q1 : (i : Int) + j < 9 := by omega
              go_wp2_with fail
              go_roundw
              case rel => exact ⟨j + 1, by omega, by rw [Nat.pow_succ, ← Nat.mul_assoc, ← HV.out]; go_num, by go_num, trivial⟩
              case measure => simp [intOf]; omega
            · have hjl' : ¬ ((i + j : Nat) : Int) < 9 := by omega
              have q1 : ¬ (i : Int) + j < 9 := by omega
              have HJ : Hid (9 - i = j) := Lib.hid (by omega)
              go_wp2_with fail
              go_ret
              exact ⟨rint (by rw [HFV2.out, HJ.out, HV.out]), by rw [HE2.out, HFO2.out, Bool.not_true, Bool.or_false]; exact R3.out, B3.out⟩

      | true =>
        rw [hdg] at HI
        cases gk with
        | zero =>
          obtain rfl : i = 9 := by have := HF.out; omega
          have HK : Hid (fcount s (p + 1) 9 = 9) := Lib.hid HFC.out
          clear hdg
          go_wp2_with fail
          refine (HI.out _ HRI.out).mono ?_
          rintro e w3 ⟨rfl, r3, b3⟩
          have R3 := Lib.hid r3
          have B3 := Lib.hid (HB.out.trans b3)
          clear r3 b3
          have HFV2 : Hid (fracV s p = n * 10 ^ (9 - 9)) := Lib.hid (by rw [HFV.out, HK.out, HN.out])
          have HE2 : Hid (fracE s p = p + 1 + 9) := Lib.hid (by rw [HE.out, HK.out])
          have HFO2 : Hid (fracOk s p = true) := Lib.hid (by rw [HFO.out, HK.out]; rfl)
          go_wp2_with fail
          go_loopw [3, 4] (fun nv dv wr => ∃ j : Nat, j + 9 ≤ 9 ∧ nv = .int .i64 ((n * 10 ^ j : Nat) : Int) ∧ dv = .int .i64 ((9 + j : Nat) : Int) ∧ w3 = wr) (fun _ dv _ => 9 - (intOf dv).toNat)
          case atStart => exact ⟨0, by omega, by simp, by go_num, rfl⟩
          case round =>
            obtain ⟨j, hj, rfl, rfl, rfl⟩ := hrel
            have hpw := HPOW.out j hj
            obtain ⟨v, hv⟩ : ∃ v, v = n * 10 ^ j := ⟨_, rfl⟩
            have HV := Lib.hid hv
            rw [← hv] at hpw ⊢
            clear hv
            by_cases hjl : 9 + j < 9
            · have hjl' : ((9 + j : Nat) : Int) < 9 := by omega
              have hv8 : v * 10 < 1000000000 := by
                have := HPOW.out (j + 1) (by omega)
                rw [Nat.pow_succ, ← Nat.mul_assoc, ← HV.out] at this; exact this
              have q1 : (9 : Int) + j < 9 := by omega
              go_wp2_with fail
              go_roundw
              case rel => exact ⟨j + 1, by omega, by rw [Nat.pow_succ, ← Nat.mul_assoc, ← HV.out]; go_num, by go_num, trivial⟩
              case measure => simp [intOf]; omega
            · have hjl' : ¬ ((9 + j : Nat) : Int) < 9 := by omega
              have q1 : ¬ (9 : Int) + j < 9 := by omega
              have HJ : Hid (9 - 9 = j) := Lib.hid (by omega)
              go_wp2_with fail
              go_ret
              exact ⟨rint (by rw [HFV2.out, HJ.out, HV.out]), by rw [HE2.out, HFO2.out, Bool.not_true, Bool.or_false]; exact R3.out, B3.out⟩

        | succ g =>
          have hi8 : i < 9 := by have := HF.out; omega
          have hi8' : (i : Int) < 9 := by omega
          have hc : 48 ≤ bt s (p + 1 + i) ∧ bt s (p + 1 + i) ≤ 57 := by simpa [isDg] using hdg
          have hlt2 : p + 1 + i < s.size := bt_in s (p + 1 + i) (by omega)
          obtain ⟨q, hq⟩ : ∃ q : Nat, bt s (p + 1 + i) = 48 + (q : Int) := ⟨(bt s (p + 1 + i) - 48).toNat, by omega⟩
          have hq9 : q ≤ 9 := by omega
          have HPK := Lib.hid (fun W hW => peek_any B s (p + 1 + i) b W hW HS.out hpi)
          rw [hq] at HPK
          have HNQ : Hid (numv s (p + 1) (i + 1) = 10 * n + q) := Lib.hid (by
            show 10 * numv s (p + 1) i + (bt s (p + 1 + i) - 48).toNat = _
            rw [← HN.out, hq]; omega)
          have HDQ : Hid (digs s (p + 1) (i + 1) = true) := Lib.hid (by simp only [digs, HD.out, hdg]; rfl)
          have HFQ : Hid (fcount s (p + 1) 9 = (i + 1) + fcount s (p + 1 + (i + 1)) g) := Lib.hid (by rw [HFC.out, fcount_yes hdg, show p + 1 + i + 1 = p + 1 + (i + 1) by omega]; omega)
          clear hdg hc hq
          go_wp2_with fail
          refine (HI.out _ HRI.out).mono ?_
          rintro e w3 ⟨rfl, r3, b3⟩
          have R3 := Lib.hid r3
          have B3 := Lib.hid (HB.out.trans b3)
          clear r3 b3
          go_wp2_with fail
          refine (HPK.out _ R3.out).mono ?_
          rintro e w4 ⟨rfl, r4, b4⟩
          have R4 := Lib.hid r4
          have B4 := Lib.hid (B3.out.trans b4)
          obtain ⟨c0, c1, c2, f1, f2, hz⟩ := r4
          clear b4
          go_wp2_with fail
          go_roundg g
          case rel => exact ⟨i + 1, by have := HF.out; omega, by rw [HNQ.out]; go_num, by go_num, HDQ.out, by omega, HFQ.out, R4.out.setp (p + 1 + (i + 1)), B4.out.setCell (Nat.le_refl _) _⟩
          case measure => omega
  · have HE : Hid (fracE s p = p) := Lib.hid (by unfold fracE; rw [if_neg (by rw [← HX.out]; exact h46)])
    have HFV : Hid (fracV s p = 0) := Lib.hid (by unfold fracV; rw [if_neg (by rw [← HX.out]; exact h46)])
    have HFO : Hid (fracOk s p = true) := Lib.hid (by
      unfold fracOk
      have : (bt s p == 46) = false := by rw [← HX.out]; simpa using h46
      rw [this]; rfl)
    have g1 : (x == 46) = false := by simpa using h46
    have g2 : (x != 46) = true := by simpa using h46
    clear h46
    go_enter Tryd.func41, Tryd.ntmps41
    go_wp2_with fail
    refine HP.out.mono ?_
    rintro e w1 ⟨rfl, r1, b1⟩
    have R1 := Lib.hid r1
    have B1 := Lib.hid b1
    clear r1 b1
    go_wp2_with fail
    go_ret
    exact ⟨rint (by rw [HFV.out]; rfl), by rw [HE.out, HFO.out, Bool.not_true, Bool.or_false]; exact R1.out, B1.out⟩
end Go.Proofs.YtfphejndbnmfeaaDoor

import Derived.Test.YtcoennncgconmaaDoorW9
namespace Go.Proofs.YtcoennncgconmaaDoor
open Go.RowKit

theorem fits_range {z : Int} (h : fits z = true) : -9223372036854775808 ≤ z ∧ z ≤ 9223372036854775807 := by simpa [fits] using h
theorem fits_out {z : Int} (h : fits z = false) : z < -9223372036854775808 ∨ 9223372036854775807 < z := by
  unfold fits at h; simp only [decide_eq_false_iff_not] at h; omega

set_option maxHeartbeats 2000000 in
theorem rread_any (s : ByteArray) (w : World) (hs : s.size ≤ maxLen) :
    Calls Tryd.prog 22 #[.string s] w fun e w' => e = .returned (.tuple #[.int .i64 (rdV s), .int .i64 (rdE s)]) ∧ Below w.heap.size w w' := by
  have hm := hs
  unfold maxLen at hm
  cases hn : isNeg s
  · have ht : bare s = s := by unfold bare; rw [hn]; rfl
    have hsg : sgn s = 1 := by unfold sgn; rw [hn]; rfl
    have HT := Lib.hid ht
    have HS := Lib.hid hsg
    have hfirst : s.size = 0 ∨ ∃ hpos : 0 < s.size, ((s[0].toNat : Int) == 45) = false := by
      by_cases h0 : s.size = 0
      · exact .inl h0
      · have hpos : 0 < s.size := by omega
        refine .inr ⟨hpos, ?_⟩
        rw [byt_eq s 0 hpos]
        unfold isNeg at hn
        simp only [hpos, decide_true, Bool.true_and, decide_eq_false_iff_not] at hn
        simp [hn]
    clear hn ht hsg
    rcases hfirst with h0 | ⟨hpos, h45⟩
    · have hD : Hid (areD s = false) := Lib.hid (by unfold areD; simp [h0])
      have hq : Hid ((allD s s.size && decide (0 < s.size)) = false) := Lib.hid (by simp [h0])
      have hle : s.size ≤ 0 := by omega
      clear h0
      go_enter Tryd.func22, Tryd.ntmps22
      go_wp2_with fail
      refine (rdigits_any s _ hs).mono ?_
      rintro e w' ⟨rfl, rfl⟩
      rw [hq.out]
      go_wp2_with fail
      go_ret2
      exact ⟨ret2 (by unfold rdV; rw [HT.out, hD.out]; rfl) (by unfold rdE; rw [HT.out, hD.out]; rfl), Below.refl _ _⟩
    · go_enter Tryd.func22, Tryd.ntmps22
      go_wp2_with fail
      refine (rdigits_any s _ hs).mono ?_
      rintro e w' ⟨rfl, rfl⟩
      cases hd : (allD s (s).size && decide (0 < (s).size))
      · have hR : rdV s = 0 ∧ rdE s = 21 := by
          have : areD s = false := by
            unfold areD
            cases ha : allD s (s).size
            · simp
            · rw [ha] at hd; simp at hd; simp [hd]
          unfold rdV rdE; rw [HT.out, this]; exact ⟨rfl, rfl⟩
        have HR := Lib.hid hR
        clear hd hR
        go_wp2_with fail
        go_ret2
        exact ⟨ret2 HR.out.1.symm HR.out.2.symm, Below.refl _ _⟩
      · have hpt : 0 < (s).size := by simp only [Bool.and_eq_true, decide_eq_true_eq] at hd; exact hd.2
        have hall : allD s (s).size = true := by simp only [Bool.and_eq_true, decide_eq_true_eq] at hd; exact hd.1
        have HA := Lib.hid hall
        have hb0t := byt_eq s 0 hpt
        clear hd hall
        by_cases hlead : byt s 0 = 48 ∧ 1 < (s).size
        · have hR : rdV s = 0 ∧ rdE s = 21 := by
            have hne : ¬ (s).size = 1 := by omega
            have : areD s = false := by unfold areD; simp [hlead.1, hne]
            unfold rdV rdE; rw [HT.out, this]; exact ⟨rfl, rfl⟩
          have HR := Lib.hid hR
          have h48 : (((s)[0].toNat : Int) == 48) = true := by rw [hb0t, hlead.1]; rfl
          have hl1 := hlead.2
          clear hR hlead hb0t
          go_wp2_with fail
          go_ret2
          exact ⟨ret2 HR.out.1.symm HR.out.2.symm, Below.refl _ _⟩
        · have hD : areD s = true := by
            unfold areD
            by_cases hb : byt s 0 = 48
            · have : (s).size = 1 := by omega
              simp [this, ← HA.out]
            · simp [hb, hpt, HA.out]
          have hV : rdV s = val (sv 1 (valD s (s).size)) := by unfold rdV rdZ; rw [HT.out, HS.out, hD]; rfl
          have hE : rdE s = err (sv 1 (valD s (s).size)) := by unfold rdE rdZ; rw [HT.out, HS.out, hD]; rfl
          have HV := Lib.hid hV
          have HE := Lib.hid hE
          have htest : (((s)[0].toNat : Int) == 48) = false ∨ ((((s)[0].toNat : Int) == 48) = true ∧ (s).size ≤ 1) := by
            rw [hb0t]
            by_cases hb : byt s 0 = 48
            · right; rw [hb]; exact ⟨rfl, by omega⟩
            · left; simp [hb]
          clear hlead hb0t hD hV hE
          rcases htest with h48 | ⟨h48, hone⟩
          all_goals
            go_wp2_with fail
            go_loopw [5, 6] (fun z i wr => ∃ k : Nat, k ≤ (s).size ∧ i = .int .i64 k ∧ z = .int .i64 (sv 1 (valD s k)) ∧ fits (sv 1 (valD s k)) = true ∧ w = wr) (fun _ i _ => (s).size - (intOf i).toNat)
            case atStart => exact ⟨0, Nat.zero_le _, rfl, rfl, (by decide : fits 0 = true), rfl⟩
            case round =>
              obtain ⟨k, hk, rfl, rfl, hf, rfl⟩ := hrel
              have hfr := fits_range hf
              have f0 := hfr.1
              have f1 := hfr.2
              clear hf hfr
              by_cases hlt : k < (s).size
              · have hby := allD_byte _ _ k hlt HA.out
                have hbe := byt_eq _ k hlt
                have hnn : 0 ≤ valD s k := valD_nonneg _ k (allD_mono _ _ k hk HA.out)
                have hmo := valD_mono _ _ (k + 1) hlt HA.out
                have hst : valD s (k + 1) = valD s k * 10 + (byt s k - 48) := rfl
                rw [hst] at hmo
                rw [← hbe] at hby hmo hst
                have b0 := hby.1
                have b1 := hby.2
                have hsv : sv 1 (valD s (k + 1)) = sv 1 (valD s k) * 10 + ((s[k].toNat : Int) - 48) := by rw [hst]; simp [sv]
                have hfin : fits (sv 1 (valD s (k + 1))) = false → val (sv 1 (valD s (s).size)) = 0 ∧ err (sv 1 (valD s (s).size)) = 20 := by
                  intro h
                  have h2 := fits_out h
                  have : sv 1 (valD s (s).size) < -9223372036854775808 ∨ 9223372036854775807 < sv 1 (valD s (s).size) := by
                    rw [hst] at h2; simp [sv] at h2 ⊢; omega
                  exact ⟨val_no this, err_no this⟩
                have h10 : fits (sv 1 (valD s k) * 10) = false → fits (sv 1 (valD s (k + 1))) = false := by
                  intro h
                  have h2 := fits_out h
                  apply fits_no
                  rw [hst]; simp [sv] at h2 ⊢; omega
                have HFIN := Lib.hid hfin
                have H10 := Lib.hid h10
                have HSV := Lib.hid hsv
                clear hst hbe hby hmo hfin h10 hsv hnn
                generalize hp : sv 1 (valD s k) = p at *
                have HP := Lib.hid hp
                clear hp
                cases hm10 : fits (p * 10)
                · have hz := Lib.hid (HFIN.out (H10.out hm10))
                  have HM := Lib.hid hm10
                  clear hm10
                  go_wp2_with fail
                  refine (muls_any p 10 _ f0 f1 (by omega) (by omega)).mono ?_
                  rintro e w' ⟨rfl, rfl⟩
                  rw [HM.out]
                  go_wp2_with fail
                  go_ret2
                  exact ⟨ret2 (by rw [HV.out, hz.out.1]) (by rw [HE.out, hz.out.2]), Below.refl _ _⟩
                · have hmr := fits_range hm10
                  have m0 := hmr.1
                  have m1 := hmr.2
                  have HM := Lib.hid hm10
                  clear hm10 hmr
                  cases hadd : fits (p * 10 + ((s[k].toNat : Int) - 48))
                  · have hz := Lib.hid (HFIN.out (by rw [HSV.out]; exact hadd))
                    have HADD := Lib.hid hadd
                    clear hadd
                    go_wp2_with fail
                    refine (muls_any p 10 _ f0 f1 (by omega) (by omega)).mono ?_
                    rintro e w' ⟨rfl, rfl⟩
                    rw [HM.out]
                    go_wp2_with fail
                    refine (adds_any (p * 10) (((s[k].toNat : Int) - 48)) _ m0 m1 (by omega) (by omega)).mono ?_
                    rintro e w' ⟨rfl, rfl⟩
                    rw [HADD.out]
                    go_wp2_with fail
                    go_ret2
                    exact ⟨ret2 (by rw [HV.out, hz.out.1]) (by rw [HE.out, hz.out.2]), Below.refl _ _⟩
                  · have har := fits_range hadd
                    have a0 := har.1
                    have a1 := har.2
                    have HADD := Lib.hid hadd
                    clear hadd har
                    go_wp2_with fail
                    refine (muls_any p 10 _ f0 f1 (by omega) (by omega)).mono ?_
                    rintro e w' ⟨rfl, rfl⟩
                    rw [HM.out]
                    go_wp2_with fail
                    refine (adds_any (p * 10) (((s[k].toNat : Int) - 48)) _ m0 m1 (by omega) (by omega)).mono ?_
                    rintro e w' ⟨rfl, rfl⟩
                    rw [HADD.out]
                    go_wp2_with fail
                    go_roundw
                    case rel => exact ⟨k + 1, hlt, by go_num, by rw [HSV.out], by rw [HSV.out]; exact HADD.out, trivial⟩
                    case measure => simp [intOf]; omega
              · obtain rfl : k = (s).size := by omega
                have HV2 := Lib.hid (val_yes f0 f1)
                have HE2 := Lib.hid (err_yes f0 f1)
                go_wp2_with fail
                go_ret2
                exact ⟨ret2 (by rw [HV.out, HV2.out]) (by rw [HE.out, HE2.out]), Below.refl _ _⟩
  · have ht : bare s = s.extract 1 s.size := by unfold bare; rw [hn]; rfl
    have hsg : sgn s = 0 := by unfold sgn; rw [hn]; rfl
    have hpos : 0 < s.size := by
      unfold isNeg at hn
      simp only [Bool.and_eq_true, decide_eq_true_eq] at hn
      exact hn.1
    have hb0 := byt_eq s 0 hpos
    have h45 : ((s[0].toNat : Int) == 45) = true := by
      rw [hb0]
      unfold isNeg at hn
      simp only [Bool.and_eq_true, decide_eq_true_eq] at hn
      rw [hn.2]; rfl
    have HT := Lib.hid ht
    have HS := Lib.hid hsg
    clear hn ht hsg hb0
    have hts : (s.extract 1 s.size).size ≤ maxLen := by rw [size_tail s hpos]; omega
    have htm : (s.extract 1 s.size).size ≤ 9223372036854775807 := by rw [size_tail s hpos]; omega
    go_enter Tryd.func22, Tryd.ntmps22
    go_wp2_with fail
    generalize s.extract 1 s.size = t at *
    refine (rdigits_any t _ hts).mono ?_
    rintro e w' ⟨rfl, rfl⟩
    cases hd : (allD t (t).size && decide (0 < (t).size))
    · have hR : rdV s = 0 ∧ rdE s = 21 := by
        have : areD t = false := by
          unfold areD
          cases ha : allD t (t).size
          · simp
          · rw [ha] at hd; simp at hd; simp [hd]
        unfold rdV rdE; rw [HT.out, this]; exact ⟨rfl, rfl⟩
      have HR := Lib.hid hR
      clear hd hR
      go_wp2_with fail
      go_ret2
      exact ⟨ret2 HR.out.1.symm HR.out.2.symm, Below.refl _ _⟩
    · have hpt : 0 < (t).size := by simp only [Bool.and_eq_true, decide_eq_true_eq] at hd; exact hd.2
      have hall : allD t (t).size = true := by simp only [Bool.and_eq_true, decide_eq_true_eq] at hd; exact hd.1
      have HA := Lib.hid hall
      have hb0t := byt_eq t 0 hpt
      clear hd hall
      by_cases hlead : byt t 0 = 48 ∧ 1 < (t).size
      · have hR : rdV s = 0 ∧ rdE s = 21 := by
          have hne : ¬ (t).size = 1 := by omega
          have : areD t = false := by unfold areD; simp [hlead.1, hne]
          unfold rdV rdE; rw [HT.out, this]; exact ⟨rfl, rfl⟩
        have HR := Lib.hid hR
        have h48 : (((t)[0].toNat : Int) == 48) = true := by rw [hb0t, hlead.1]; rfl
        have hl1 := hlead.2
        clear hR hlead hb0t
        go_wp2_with fail
        go_ret2
        exact ⟨ret2 HR.out.1.symm HR.out.2.symm, Below.refl _ _⟩
      · have hD : areD t = true := by
          unfold areD
          by_cases hb : byt t 0 = 48
          · have : (t).size = 1 := by omega
            simp [this, ← HA.out]
          · simp [hb, hpt, HA.out]
        have hV : rdV s = val (sv 0 (valD t (t).size)) := by unfold rdV rdZ; rw [HT.out, HS.out, hD]; rfl
        have hE : rdE s = err (sv 0 (valD t (t).size)) := by unfold rdE rdZ; rw [HT.out, HS.out, hD]; rfl
        have HV := Lib.hid hV
        have HE := Lib.hid hE
        have htest : (((t)[0].toNat : Int) == 48) = false ∨ ((((t)[0].toNat : Int) == 48) = true ∧ (t).size ≤ 1) := by
          rw [hb0t]
          by_cases hb : byt t 0 = 48
          · right; rw [hb]; exact ⟨rfl, by omega⟩
          · left; simp [hb]
        clear hlead hb0t hD hV hE
        rcases htest with h48 | ⟨h48, hone⟩
        all_goals
          go_wp2_with fail
          go_loopw [5, 6] (fun z i wr => ∃ k : Nat, k ≤ (t).size ∧ i = .int .i64 k ∧ z = .int .i64 (sv 0 (valD t k)) ∧ fits (sv 0 (valD t k)) = true ∧ w = wr) (fun _ i _ => (t).size - (intOf i).toNat)
          case atStart => exact ⟨0, Nat.zero_le _, rfl, rfl, (by decide : fits 0 = true), rfl⟩
          case round =>
            obtain ⟨k, hk, rfl, rfl, hf, rfl⟩ := hrel
            have hfr := fits_range hf
            have f0 := hfr.1
            have f1 := hfr.2
            clear hf hfr
            by_cases hlt : k < (t).size
            · have hby := allD_byte _ _ k hlt HA.out
              have hbe := byt_eq _ k hlt
              have hnn : 0 ≤ valD t k := valD_nonneg _ k (allD_mono _ _ k hk HA.out)
              have hmo := valD_mono _ _ (k + 1) hlt HA.out
              have hst : valD t (k + 1) = valD t k * 10 + (byt t k - 48) := rfl
              rw [hst] at hmo
              rw [← hbe] at hby hmo hst
              have b0 := hby.1
              have b1 := hby.2
              have hsv : sv 0 (valD t (k + 1)) = sv 0 (valD t k) * 10 + -((t[k].toNat : Int) - 48) := by rw [hst]; simp [sv]; omega
              have hfin : fits (sv 0 (valD t (k + 1))) = false → val (sv 0 (valD t (t).size)) = 0 ∧ err (sv 0 (valD t (t).size)) = 20 := by
                intro h
                have h2 := fits_out h
                have : sv 0 (valD t (t).size) < -9223372036854775808 ∨ 9223372036854775807 < sv 0 (valD t (t).size) := by
                  rw [hst] at h2; simp [sv] at h2 ⊢; omega
                exact ⟨val_no this, err_no this⟩
              have h10 : fits (sv 0 (valD t k) * 10) = false → fits (sv 0 (valD t (k + 1))) = false := by
                intro h
                have h2 := fits_out h
                apply fits_no
                rw [hst]; simp [sv] at h2 ⊢; omega
              have HFIN := Lib.hid hfin
              have H10 := Lib.hid h10
              have HSV := Lib.hid hsv
              clear hst hbe hby hmo hfin h10 hsv hnn
              generalize hp : sv 0 (valD t k) = p at *
              have HP := Lib.hid hp
              clear hp
              cases hm10 : fits (p * 10)
              · have hz := Lib.hid (HFIN.out (H10.out hm10))
                have HM := Lib.hid hm10
                clear hm10
                go_wp2_with fail
                refine (muls_any p 10 _ f0 f1 (by omega) (by omega)).mono ?_
                rintro e w' ⟨rfl, rfl⟩
                rw [HM.out]
                go_wp2_with fail
                go_ret2
                exact ⟨ret2 (by rw [HV.out, hz.out.1]) (by rw [HE.out, hz.out.2]), Below.refl _ _⟩
              · have hmr := fits_range hm10
                have m0 := hmr.1
                have m1 := hmr.2
                have HM := Lib.hid hm10
                clear hm10 hmr
                cases hadd : fits (p * 10 + -((t[k].toNat : Int) - 48))
                · have hz := Lib.hid (HFIN.out (by rw [HSV.out]; exact hadd))
                  have HADD := Lib.hid hadd
                  clear hadd
                  go_wp2_with fail
                  refine (muls_any p 10 _ f0 f1 (by omega) (by omega)).mono ?_
                  rintro e w' ⟨rfl, rfl⟩
                  rw [HM.out]
                  go_wp2_with fail
                  refine (adds_any (p * 10) (-((t[k].toNat : Int) - 48)) _ m0 m1 (by omega) (by omega)).mono ?_
                  rintro e w' ⟨rfl, rfl⟩
                  rw [HADD.out]
                  go_wp2_with fail
                  go_ret2
                  exact ⟨ret2 (by rw [HV.out, hz.out.1]) (by rw [HE.out, hz.out.2]), Below.refl _ _⟩
                · have har := fits_range hadd
                  have a0 := har.1
                  have a1 := har.2
                  have HADD := Lib.hid hadd
                  clear hadd har
                  go_wp2_with fail
                  refine (muls_any p 10 _ f0 f1 (by omega) (by omega)).mono ?_
                  rintro e w' ⟨rfl, rfl⟩
                  rw [HM.out]
                  go_wp2_with fail
                  refine (adds_any (p * 10) (-((t[k].toNat : Int) - 48)) _ m0 m1 (by omega) (by omega)).mono ?_
                  rintro e w' ⟨rfl, rfl⟩
                  rw [HADD.out]
                  go_wp2_with fail
                  go_roundw
                  case rel => exact ⟨k + 1, hlt, by go_num, by rw [HSV.out], by rw [HSV.out]; exact HADD.out, trivial⟩
                  case measure => simp [intOf]; omega
            · obtain rfl : k = (t).size := by omega
              have HV2 := Lib.hid (val_yes f0 f1)
              have HE2 := Lib.hid (err_yes f0 f1)
              go_wp2_with fail
              go_ret2
              exact ⟨ret2 (by rw [HV.out, HV2.out]) (by rw [HE.out, HE2.out]), Below.refl _ _⟩

theorem rwrite_int (n : Int) (w : World) (h0 : -9223372036854775808 ≤ n) (h1 : n ≤ 9223372036854775807) :
    Calls Tryd.prog 24 #[.int .i64 n] w fun e w' => e = .returned (.string ⟨(Lib.itoa n).toArray⟩) ∧ Below w.heap.size w w' :=
  rwrite_any n.natAbs n w (Nat.le_refl _) h0 h1

theorem reads_walk (s : ByteArray) (n : Int) (w : World) (t : Tabs w) (hs : s.size ≤ maxLen) (h0 : -9223372036854775808 ≤ n) (h1 : n ≤ 9223372036854775807) :
    Calls Tryd.prog 5 #[.string s, .int .i64 n] w fun e w' => e = .returned (.bool true) ∧ Below w.heap.size w w' := by
  by_cases hbig : 2000 < s.size
  · go_enter Tryd.func5, Tryd.ntmps5
    go_wp2_with fail
    go_ret
    exact ⟨rfl, Below.refl _ _⟩
  · go_enter Tryd.func5, Tryd.ntmps5
    go_wp2_with fail
    refine (read_rest s _ t.lim hs).mono ?_
    rintro e w1 ⟨rfl, b1⟩
    have t1 := tabs_later b1 t
    go_wp2_with fail
    refine (rread_any s _ hs).mono ?_
    rintro e w2 ⟨rfl, b2⟩
    have t2 := tabs_later b2 t1
    go_wp2_with fail
    refine (write_any n _ t2 h0 h1).mono ?_
    rintro e w3 ⟨rfl, b3⟩
    go_wp2_with fail
    refine (rwrite_int n _ h0 h1).mono ?_
    rintro e w4 ⟨rfl, b4⟩
    go_wp2_with fail
    refine (small_any n _).mono ?_
    rintro e w' ⟨rfl, rfl⟩
    go_wp2_with fail
    refine (rsmall_any n _).mono ?_
    rintro e w' ⟨rfl, rfl⟩
    go_wp2_with fail
    go_ret
    exact ⟨rfl, ((b1.trans (b2.mono b1.size)).trans (b3.mono (Nat.le_trans b1.size b2.size))).trans (b4.mono (Nat.le_trans b1.size (Nat.le_trans b2.size b3.size)))⟩
end Go.Proofs.YtcoennncgconmaaDoor

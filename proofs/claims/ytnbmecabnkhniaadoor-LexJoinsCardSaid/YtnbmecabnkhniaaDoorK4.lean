import Derived.Test.YtnbmecabnkhniaaDoorK3
import Derived.Lib.IndexLaws
import Derived.Below
namespace Go.Proofs.YtnbmecabnkhniaaDoor.Nm
open Go.RowKit

theorem mul10 (n : Int) (w : World) (h0 : 0 ≤ n) (h1 : n < 18446744073709551616) :
    Calls Tryd.prog 39 #[.int .u64 n, .int .u64 10] w fun e w' => e = .returned (.tuple #[.int .u64 (n * 10 / 18446744073709551616), .int .u64 (n * 10 % 18446744073709551616)]) ∧ w = w' := by
  obtain ⟨m, rfl⟩ := Int.eq_ofNat_of_zero_le h0
  refine (Tryd.bits_Mul64 m 10 (by omega) (by omega) w).mono ?_
  rintro e w' ⟨rfl, rfl⟩
  exact ⟨ret2 (by omega) (by omega), rfl⟩

theorem size_tail (s : ByteArray) (_h : 0 < s.size) : (s.extract 1 s.size).size = s.size - 1 := by simp

set_option maxHeartbeats 1000000 in
/-- From the digits on: what stands behind a sign. -/
theorem read_rest (s : ByteArray) (w : World) (l : Lim w) (hs : s.size ≤ maxLen) :
    Calls Tryd.prog 29 #[.string s] w fun e w' => e = .returned (.tuple #[.int .i64 (rdV s), .int .i64 (rdE s)]) ∧ Below w.heap.size w w' := by
  have hm := hs
  unfold maxLen at hm
  cases hn : isNeg s
  · have ht : bare s = s := by unfold bare; rw [hn]; rfl
    have hsg : sgn s = 1 := by unfold sgn; rw [hn]; rfl
    have HT := Lib.hid ht
    have HS := Lib.hid hsg
    by_cases h0 : s.size = 0
    · have he : s.toList.isEmpty = true := by rw [list_empty]; simp [h0]
      have hD : Hid (areD s = false) := Lib.hid (by unfold areD; simp [h0])
      clear h0 hn ht hsg
      go_enter Tryd.func29, Tryd.ntmps29
      go_wp2_with fail
      refine (digits_any s _ hs).mono ?_
      rintro e w' ⟨rfl, rfl⟩
      rw [hD.out]
      go_wp2_with fail
      go_ret2
      exact ⟨ret2 (by unfold rdV; rw [HT.out, hD.out]; rfl) (by unfold rdE; rw [HT.out, hD.out]; rfl), Below.refl _ _⟩
    · have he : s.toList.isEmpty = false := by rw [list_empty]; simp [h0]
      have hpos : 0 < s.size := by omega
      have hb0 := byt_eq s 0 hpos
      have h45 : ((s[0].toNat : Int) == 45) = false := by
        rw [hb0]
        unfold isNeg at hn
        simp only [hpos, decide_true, Bool.true_and, decide_eq_false_iff_not] at hn
        simp [hn]
      clear h0 hn ht hsg hb0
      go_enter Tryd.func29, Tryd.ntmps29
      go_wp2_with fail
      refine (digits_any s _ hs).mono ?_
      rintro e w' ⟨rfl, rfl⟩
      cases hd : areD s
      · have hD := Lib.hid hd
        clear hd
        go_wp2_with fail
        go_ret2
        exact ⟨ret2 (by unfold rdV; rw [HT.out, hD.out]; rfl) (by unfold rdE; rw [HT.out, hD.out]; rfl), Below.refl _ _⟩
      · have hD := Lib.hid hd
        have hall := (areD_parts hd).2.2
        have hV : rdV s = val (sv 1 (valD s (s).size)) := by unfold rdV rdZ; rw [HT.out, HS.out, hd]; rfl
        have hE : rdE s = err (sv 1 (valD s (s).size)) := by unfold rdE rdZ; rw [HT.out, HS.out, hd]; rfl
        have HV := Lib.hid hV
        have HE := Lib.hid hE
        have HA := Lib.hid hall
        clear hd hall hV hE
        go_wp2_with fail
        go_loopw [6, 7] (fun z i wr => ∃ k : Nat, k ≤ (s).size ∧ i = .int .i64 k ∧ z = .int .u64 (valD s k) ∧ valD s k < 18446744073709551616 ∧ w = wr) (fun _ i _ => (s).size - (intOf i).toNat)
        case atStart => exact ⟨0, Nat.zero_le _, rfl, rfl, (by decide : (0 : Int) < 18446744073709551616), rfl⟩
        case round =>
          obtain ⟨k, hk, rfl, rfl, hb, rfl⟩ := hrel
          have hnn : 0 ≤ valD s k := valD_nonneg _ k (allD_mono _ _ k hk HA.out)
          by_cases hlt : k < (s).size
          · have hby := allD_byte _ _ k hlt HA.out
            have hbe := byt_eq _ k hlt
            have hmo := valD_mono _ _ (k + 1) hlt HA.out
            have hst : valD s (k + 1) = valD s k * 10 + (byt s k - 48) := rfl
            rw [hst] at hmo
            rw [← hbe] at hby hmo hst
            have hbig : 9223372036854775808 < valD s (s).size → val (sv 1 (valD s (s).size)) = 0 ∧ err (sv 1 (valD s (s).size)) = 20 := by
              intro h
              have : sv 1 (valD s (s).size) < -9223372036854775808 ∨ 9223372036854775807 < sv 1 (valD s (s).size) := by simp [sv]; omega
              exact ⟨val_no this, err_no this⟩
            have HB := Lib.hid hbig
            have HST := Lib.hid hst
            have hw : IntKind.u8.wrap (((s)[k].toNat : Int) - 48) = ((s)[k].toNat : Int) - 48 := by rw [IntKind.wrap_u8]; omega
            have b0 := hby.1
            have b1 := hby.2
            clear hst hbe hbig hby hw
            by_cases hc1 : valD s k * 10 < 18446744073709551616
            · have ha := add64_run (valD s k * 10) (((s)[k].toNat : Int) - 48) (by omega) (by omega) w
              by_cases hc2 : valD s k * 10 + (((s)[k].toNat : Int) - 48) < 18446744073709551616
              · rw [Int.emod_eq_of_lt (by omega) hc2, Int.ediv_eq_zero_of_lt (by omega) hc2] at ha
                go_wp2_with fail
                refine (mul10 _ _ hnn hb).mono ?_
                rintro e w' ⟨rfl, rfl⟩
                rw [Int.emod_eq_of_lt (by omega) hc1, Int.ediv_eq_zero_of_lt (by omega) hc1]
                go_wp2_with fail
                go_roundw
                case rel => exact ⟨k + 1, hlt, by go_num, by rw [HST.out], by rw [HST.out]; exact hc2, trivial⟩
                case measure => simp [intOf]; omega
              · have e1 : (valD s k * 10 + (((s)[k].toNat : Int) - 48)) / 18446744073709551616 = 1 := by omega
                rw [e1] at ha
                have hz := Lib.hid (HB.out (by omega))
                clear e1
                go_wp2_with fail
                refine (mul10 _ _ hnn hb).mono ?_
                rintro e w' ⟨rfl, rfl⟩
                rw [Int.emod_eq_of_lt (by omega) hc1, Int.ediv_eq_zero_of_lt (by omega) hc1]
                go_wp2_with fail
                go_ret2
                exact ⟨ret2 (by rw [HV.out, hz.out.1]) (by rw [HE.out, hz.out.2]), Below.refl _ _⟩
            · have hz := Lib.hid (HB.out (by omega))
              have hq : ((valD s k * 10 / 18446744073709551616) != 0) = true := by simp; omega
              have r0 : 0 ≤ valD s k * 10 % 18446744073709551616 := by omega
              have ha := add64_run (valD s k * 10 % 18446744073709551616) (((s)[k].toNat : Int) - 48) r0 (by omega) w
              go_wp2_with fail
              refine (mul10 _ _ hnn hb).mono ?_
              rintro e w' ⟨rfl, rfl⟩
              go_wp2_with fail
              go_ret2
              exact ⟨ret2 (by rw [HV.out, hz.out.1]) (by rw [HE.out, hz.out.2]), Below.refl _ _⟩
          · obtain rfl : k = (s).size := by omega
            go_wp2_with fail
            refine (join_any 1 _ _ l (by omega) hnn hb).mono ?_
            rintro e w' ⟨rfl, rfl⟩
            go_wp2_with fail
            go_ret2
            exact ⟨ret2 HV.out.symm HE.out.symm, Below.refl _ _⟩
  · have ht : bare s = s.extract 1 s.size := by unfold bare; rw [hn]; rfl
    have hsg : sgn s = 0 := by unfold sgn; rw [hn]; rfl
    have hpos : 0 < s.size := by
      unfold isNeg at hn
      simp only [Bool.and_eq_true, decide_eq_true_eq] at hn
      exact hn.1
    have hb0 := byt_eq s 0 hpos
    have h45 : ((s[0].toNat : Int) == 45) = true := by
      rw [hb0]
      unfold isNeg at hn
      simp only [Bool.and_eq_true, decide_eq_true_eq] at hn
      rw [hn.2]; rfl
    have he : s.toList.isEmpty = false := by rw [list_empty, decide_eq_false_iff_not]; omega
    have HT := Lib.hid ht
    have HS := Lib.hid hsg
    clear hn ht hsg hb0
    go_enter Tryd.func29, Tryd.ntmps29
    go_wp2_with fail
    go_quiet (fail)
    go_wp2_with fail
    have ld : Lim (w.drewN nq) := by obtain ⟨l0, l1⟩ := l; exact ⟨by simpa using l0, by simpa using l1⟩
    have hts : (s.extract 1 s.size).size ≤ maxLen := by rw [size_tail s hpos]; omega
    have htm : (s.extract 1 s.size).size ≤ 9223372036854775807 := by rw [size_tail s hpos]; omega
    generalize s.extract 1 s.size = t at *
    refine (digits_any t _ hts).mono ?_
    rintro e w' ⟨rfl, rfl⟩
    cases hd : areD t
    · have hD := Lib.hid hd
      clear hd
      go_wp2_with fail
      go_ret2
      exact ⟨ret2 (by unfold rdV; rw [HT.out, hD.out]; rfl) (by unfold rdE; rw [HT.out, hD.out]; rfl), below_drewN (Below.refl _ _) _⟩
    · have hD := Lib.hid hd
      have hall := (areD_parts hd).2.2
      have hV : rdV s = val (sv 0 (valD t (t).size)) := by unfold rdV rdZ; rw [HT.out, HS.out, hd]; rfl
      have hE : rdE s = err (sv 0 (valD t (t).size)) := by unfold rdE rdZ; rw [HT.out, HS.out, hd]; rfl
      have HV := Lib.hid hV
      have HE := Lib.hid hE
      have HA := Lib.hid hall
      clear hd hall hV hE
      go_wp2_with fail
      go_loopw [6, 7] (fun z i wr => ∃ k : Nat, k ≤ (t).size ∧ i = .int .i64 k ∧ z = .int .u64 (valD t k) ∧ valD t k < 18446744073709551616 ∧ (w.drewN nq) = wr) (fun _ i _ => (t).size - (intOf i).toNat)
      case atStart => exact ⟨0, Nat.zero_le _, rfl, rfl, (by decide : (0 : Int) < 18446744073709551616), rfl⟩
      case round =>
        obtain ⟨k, hk, rfl, rfl, hb, rfl⟩ := hrel
        have hnn : 0 ≤ valD t k := valD_nonneg _ k (allD_mono _ _ k hk HA.out)
        by_cases hlt : k < (t).size
        · have hby := allD_byte _ _ k hlt HA.out
          have hbe := byt_eq _ k hlt
          have hmo := valD_mono _ _ (k + 1) hlt HA.out
          have hst : valD t (k + 1) = valD t k * 10 + (byt t k - 48) := rfl
          rw [hst] at hmo
          rw [← hbe] at hby hmo hst
          have hbig : 9223372036854775808 < valD t (t).size → val (sv 0 (valD t (t).size)) = 0 ∧ err (sv 0 (valD t (t).size)) = 20 := by
            intro h
            have : sv 0 (valD t (t).size) < -9223372036854775808 ∨ 9223372036854775807 < sv 0 (valD t (t).size) := by simp [sv]; omega
            exact ⟨val_no this, err_no this⟩
          have HB := Lib.hid hbig
          have HST := Lib.hid hst
          have hw : IntKind.u8.wrap (((t)[k].toNat : Int) - 48) = ((t)[k].toNat : Int) - 48 := by rw [IntKind.wrap_u8]; omega
          have b0 := hby.1
          have b1 := hby.2
          clear hst hbe hbig hby hw
          by_cases hc1 : valD t k * 10 < 18446744073709551616
          · have ha := add64_run (valD t k * 10) (((t)[k].toNat : Int) - 48) (by omega) (by omega) (w.drewN nq)
            by_cases hc2 : valD t k * 10 + (((t)[k].toNat : Int) - 48) < 18446744073709551616
            · rw [Int.emod_eq_of_lt (by omega) hc2, Int.ediv_eq_zero_of_lt (by omega) hc2] at ha
              go_wp2_with fail
              refine (mul10 _ _ hnn hb).mono ?_
              rintro e w' ⟨rfl, rfl⟩
              rw [Int.emod_eq_of_lt (by omega) hc1, Int.ediv_eq_zero_of_lt (by omega) hc1]
              go_wp2_with fail
              go_roundw
              case rel => exact ⟨k + 1, hlt, by go_num, by rw [HST.out], by rw [HST.out]; exact hc2, trivial⟩
              case measure => simp [intOf]; omega
            · have e1 : (valD t k * 10 + (((t)[k].toNat : Int) - 48)) / 18446744073709551616 = 1 := by omega
              rw [e1] at ha
              have hz := Lib.hid (HB.out (by omega))
              clear e1
              go_wp2_with fail
              refine (mul10 _ _ hnn hb).mono ?_
              rintro e w' ⟨rfl, rfl⟩
              rw [Int.emod_eq_of_lt (by omega) hc1, Int.ediv_eq_zero_of_lt (by omega) hc1]
              go_wp2_with fail
              go_ret2
              exact ⟨ret2 (by rw [HV.out, hz.out.1]) (by rw [HE.out, hz.out.2]), below_drewN (Below.refl _ _) _⟩
          · have hz := Lib.hid (HB.out (by omega))
            have hq : ((valD t k * 10 / 18446744073709551616) != 0) = true := by simp; omega
            have r0 : 0 ≤ valD t k * 10 % 18446744073709551616 := by omega
            have ha := add64_run (valD t k * 10 % 18446744073709551616) (((t)[k].toNat : Int) - 48) r0 (by omega) (w.drewN nq)
            go_wp2_with fail
            refine (mul10 _ _ hnn hb).mono ?_
            rintro e w' ⟨rfl, rfl⟩
            go_wp2_with fail
            go_ret2
            exact ⟨ret2 (by rw [HV.out, hz.out.1]) (by rw [HE.out, hz.out.2]), below_drewN (Below.refl _ _) _⟩
        · obtain rfl : k = (t).size := by omega
          go_wp2_with fail
          refine (join_any 0 _ _ ld (by omega) hnn hb).mono ?_
          rintro e w' ⟨rfl, rfl⟩
          go_wp2_with fail
          go_ret2
          exact ⟨ret2 HV.out.symm HE.out.symm, below_drewN (Below.refl _ _) _⟩

end Go.Proofs.YtnbmecabnkhniaaDoor.Nm
/- Layer 17: letters, names, Ints, marks, by both. -/
namespace Go.Proofs.YtnbmecabnkhniaaDoor
open Go.RowKit Go.Maps
theorem isletter_any (x : UInt8) (w : World) : Calls Tryd.prog 27 #[.int .u8 (x.toNat : Nat)] w fun e w' => e = .returned (.bool (letB x)) ∧ w' = w := by
  have HL := Lib.hid (let_val x)
  obtain ⟨b, hb⟩ : ∃ b, b = x.toNat := ⟨_, rfl⟩
  have hb2 : b < 256 := by rw [hb]; exact UInt8.toNat_lt _
  rw [← hb] at HL ⊢
  clear hb
  rcases (by omega : (0 ≤ b ∧ b ≤ 64) ∨ (65 ≤ b ∧ b ≤ 90) ∨ (91 ≤ b ∧ b ≤ 94) ∨ (95 ≤ b ∧ b ≤ 95) ∨ (96 ≤ b ∧ b ≤ 96) ∨ (97 ≤ b ∧ b ≤ 122) ∨ (123 ≤ b ∧ b ≤ 255)) with ⟨r1, r2⟩ | ⟨r1, r2⟩ | ⟨r1, r2⟩ | ⟨r1, r2⟩ | ⟨r1, r2⟩ | ⟨r1, r2⟩ | ⟨r1, r2⟩
  · have hL : letB x = false := by rw [HL.out]; simp; omega
    have g95 : ((b : Int) == 95) = false := by rw [beq_eq_false_iff_ne]; omega
    have g97 : ¬ (97 : Int) ≤ b := by omega
    have g65 : ¬ (65 : Int) ≤ b := by omega
    rw [hL]
    clear r1 r2 HL hL
    go_enter Tryd.func27, Tryd.ntmps27
    go_wp2_with fail
    go_ret
    exact ⟨rfl, rfl⟩
  · have hL : letB x = true := by rw [HL.out]; simp; omega
    have g95 : ((b : Int) == 95) = false := by rw [beq_eq_false_iff_ne]; omega
    have g97 : ¬ (97 : Int) ≤ b := by omega
    have g65 : (65 : Int) ≤ b := by omega
    have g90 : (b : Int) ≤ 90 := by omega
    rw [hL]
    clear r1 r2 HL hL
    go_enter Tryd.func27, Tryd.ntmps27
    go_wp2_with fail
    go_ret
    exact ⟨rfl, rfl⟩
  · have hL : letB x = false := by rw [HL.out]; simp; omega
    have g95 : ((b : Int) == 95) = false := by rw [beq_eq_false_iff_ne]; omega
    have g97 : ¬ (97 : Int) ≤ b := by omega
    have g65 : (65 : Int) ≤ b := by omega
    have g90 : ¬ (b : Int) ≤ 90 := by omega
    rw [hL]
    clear r1 r2 HL hL
    go_enter Tryd.func27, Tryd.ntmps27
    go_wp2_with fail
    go_ret
    exact ⟨rfl, rfl⟩
  · have hL : letB x = true := by rw [HL.out]; simp; omega
    have g95 : ((b : Int) == 95) = true := by rw [beq_iff_eq]; omega
    rw [hL]
    clear r1 r2 HL hL
    go_enter Tryd.func27, Tryd.ntmps27
    go_wp2_with fail
    go_ret
    exact ⟨rfl, rfl⟩
  · have hL : letB x = false := by rw [HL.out]; simp; omega
    have g95 : ((b : Int) == 95) = false := by rw [beq_eq_false_iff_ne]; omega
    have g97 : ¬ (97 : Int) ≤ b := by omega
    have g65 : (65 : Int) ≤ b := by omega
    have g90 : ¬ (b : Int) ≤ 90 := by omega
    rw [hL]
    clear r1 r2 HL hL
    go_enter Tryd.func27, Tryd.ntmps27
    go_wp2_with fail
    go_ret
    exact ⟨rfl, rfl⟩
  · have hL : letB x = true := by rw [HL.out]; simp; omega
    have g95 : ((b : Int) == 95) = false := by rw [beq_eq_false_iff_ne]; omega
    have g97 : (97 : Int) ≤ b := by omega
    have g122 : (b : Int) ≤ 122 := by omega
    rw [hL]
    clear r1 r2 HL hL
    go_enter Tryd.func27, Tryd.ntmps27
    go_wp2_with fail
    go_ret
    exact ⟨rfl, rfl⟩
  · have hL : letB x = false := by rw [HL.out]; simp; omega
    have g95 : ((b : Int) == 95) = false := by rw [beq_eq_false_iff_ne]; omega
    have g97 : (97 : Int) ≤ b := by omega
    have g122 : ¬ (b : Int) ≤ 122 := by omega
    have g65 : (65 : Int) ≤ b := by omega
    have g90 : ¬ (b : Int) ≤ 90 := by omega
    rw [hL]
    clear r1 r2 HL hL
    go_enter Tryd.func27, Tryd.ntmps27
    go_wp2_with fail
    go_ret
    exact ⟨rfl, rfl⟩
theorem isdigit_any (x : UInt8) (w : World) : Calls Tryd.prog 28 #[.int .u8 (x.toNat : Nat)] w fun e w' => e = .returned (.bool (dgB x)) ∧ w' = w := by
  have HL := Lib.hid (dg_val x)
  obtain ⟨b, hb⟩ : ∃ b, b = x.toNat := ⟨_, rfl⟩
  have hb2 : b < 256 := by rw [hb]; exact UInt8.toNat_lt _
  rw [← hb] at HL ⊢
  clear hb
  rcases (by omega : (0 ≤ b ∧ b ≤ 47) ∨ (48 ≤ b ∧ b ≤ 57) ∨ (58 ≤ b ∧ b ≤ 255)) with ⟨r1, r2⟩ | ⟨r1, r2⟩ | ⟨r1, r2⟩
  · have hL : dgB x = false := by rw [HL.out]; simp; omega
    have g48 : ¬ (48 : Int) ≤ b := by omega
    rw [hL]
    clear r1 r2 HL hL
    go_enter Tryd.func28, Tryd.ntmps28
    go_wp2_with fail
    go_ret
    exact ⟨rfl, rfl⟩
  · have hL : dgB x = true := by rw [HL.out]; simp; omega
    have g48 : (48 : Int) ≤ b := by omega
    have g57 : (b : Int) ≤ 57 := by omega
    rw [hL]
    clear r1 r2 HL hL
    go_enter Tryd.func28, Tryd.ntmps28
    go_wp2_with fail
    go_ret
    exact ⟨rfl, rfl⟩
  · have hL : dgB x = false := by rw [HL.out]; simp; omega
    have g48 : (48 : Int) ≤ b := by omega
    have g57 : ¬ (b : Int) ≤ 57 := by omega
    rw [hL]
    clear r1 r2 HL hL
    go_enter Tryd.func28, Tryd.ntmps28
    go_wp2_with fail
    go_ret
    exact ⟨rfl, rfl⟩
theorem nil_lst : (⟨#[]⟩ : ByteArray).toList = [] := by first | (unfold ByteArray.toList; unfold ByteArray.toList.loop; rfl) | simp [ByteArray.toList, ByteArray.toList.loop]
theorem empty_lst {s : ByteArray} (h : s.size = 0) : s.toList = [] := by
  have e : s = ⟨#[]⟩ := by apply ByteArray.ext; exact Array.eq_empty_of_size_eq_zero h
  rw [e]; exact nil_lst
theorem full_lst {s : ByteArray} (h : s.size ≠ 0) : s.toList.isEmpty = false := List.isEmpty_eq_false_iff.2 (fun k => h (size_nil k))
set_option maxRecDepth 20000 in
theorem lname_any (s : ByteArray) (w : World) (hs : s.size ≤ 1000000) : Calls Tryd.prog 14 #[.string s] w fun e w' => e = .returned (.bool (nmB s)) ∧ w' = w := by
  obtain ⟨r, hr⟩ : ∃ r, r = nmB s := ⟨_, rfl⟩
  rw [← hr]
  have HR := Lib.hid hr
  clear hr
  go_enter Tryd.func14, Tryd.ntmps14
  go_wp2_with fail
  go_loop [3] (fun v => ∃ i : Nat, i ≤ s.size ∧ v = .int .i64 i ∧ Hid (∀ j (h : j < s.size), j < i → okAt s[j] j = true)) (fun v => s.size - (intOf v).toNat)
  case atStart => exact ⟨0, Nat.zero_le _, rfl, Lib.hid (fun j _ hj => absurd hj (Nat.not_lt_zero j))⟩
  case round =>
    obtain ⟨i, hi, rfl, HP⟩ := hrel
    by_cases hlt : i < s.size
    · have HN : Hid (okAt s[i] i = true → ∀ j (h : j < s.size), j < i + 1 → okAt s[j] j = true) := Lib.hid (fun ho j h hj => by
        by_cases e : j = i
        · subst e; exact ho
        · exact HP.out j h (by omega))
      have HB : Hid (okAt s[i] i = false → r = false) := Lib.hid (fun ho => HR.out.trans (nm_bad hlt ho))
      have HLA := Lib.hid (fun W => isletter_any s[i] W)
      have HDA := Lib.hid (fun W => isdigit_any s[i] W)
      have HOK : Hid (okAt s[i] i = (letB s[i] || (decide (i ≠ 0) && dgB s[i]))) := Lib.hid (by unfold okAt; first | rfl | (cases letB s[i] <;> cases dgB s[i] <;> by_cases h0 : i = 0 <;> simp [h0]))
      obtain ⟨x, hx⟩ : ∃ x, x = letB s[i] := ⟨_, rfl⟩
      obtain ⟨y, hy⟩ : ∃ y, y = dgB s[i] := ⟨_, rfl⟩
      rw [← hx] at HLA HOK
      rw [← hy] at HDA HOK
      clear hx hy HP HR
      have hi0 : (0 : Int) ≤ (i : Int) := by omega
      have hii : (i : Int) < s.size := by omega
      cases x with
      | true =>
        have HO := Lib.hid (HN.out (by rw [HOK.out]; rfl))
        go_wp2_with (first | (go_at_call 27; refine (HLA.out _).mono ?_; rintro e w' ⟨rfl, rfl⟩))
        go_round
        case rel => exact ⟨i + 1, by omega, by go_num, HO⟩
        case measure => simp [intOf]; omega
      | false =>
        by_cases h0 : i = 0
        · subst h0
          have z0 : (((0 : Nat) : Int) == 0) = true := rfl
          have HO := Lib.hid (HB.out (by rw [HOK.out]; simp))
          clear HN HB
          go_wp2_with (first | (go_at_call 27; refine (HLA.out _).mono ?_; rintro e w' ⟨rfl, rfl⟩))
          go_ret
          exact ⟨ret_bool HO.out.symm, rfl⟩
        · have z0 : ((i : Int) == 0) = false := by rw [beq_eq_false_iff_ne]; omega
          cases y with
          | true =>
            have HO := Lib.hid (HN.out (by rw [HOK.out]; simp [h0]))
            clear h0
            go_wp2_with (first | (go_at_call 27; refine (HLA.out _).mono ?_; rintro e w' ⟨rfl, rfl⟩) | (go_at_call 28; refine (HDA.out _).mono ?_; rintro e w' ⟨rfl, rfl⟩))
            go_round
            case rel => exact ⟨i + 1, by omega, by go_num, HO⟩
            case measure => simp [intOf]; omega
          | false =>
            have HO := Lib.hid (HB.out (by rw [HOK.out]; simp))
            clear h0
            go_wp2_with (first | (go_at_call 27; refine (HLA.out _).mono ?_; rintro e w' ⟨rfl, rfl⟩) | (go_at_call 28; refine (HDA.out _).mono ?_; rintro e w' ⟨rfl, rfl⟩))
            go_ret
            exact ⟨ret_bool HO.out.symm, rfl⟩
    · have hz : ¬ ((i : Int) < s.size) := by omega
      by_cases he : s.size = 0
      · have hn := empty_lst he
        have HO : Hid (r = false) := Lib.hid (by
          rw [HR.out]
          cases h : nmB s with
          | false => rfl
          | true => exact absurd he ((nm_iff s).1 h).1)
        clear he
        go_wp2_with fail
        go_ret
        exact ⟨ret_bool HO.out.symm, rfl⟩
      · have hn := full_lst he
        have HO := Lib.hid (HR.out.trans ((nm_iff s).2 ⟨he, fun j h => HP.out j h (by omega)⟩))
        clear he
        go_wp2_with fail
        go_ret
        exact ⟨ret_bool HO.out.symm, rfl⟩
/-! ### Ints -/
def intB (s : ByteArray) : Bool := Nm.areD (Nm.bare s)
set_option maxRecDepth 20000 in
theorem lint_any (s : ByteArray) (w : World) (l : Nm.Lim w) (hs : s.size ≤ maxLen) : Calls Tryd.prog 15 #[.string s] w fun e w' => e = .returned (.bool (intB s)) ∧ Below w.heap.size w w' := by
  have HC := Lib.hid (Nm.read_rest s w l hs)
  have HE : Hid (Nm.rdE s = if intB s = true then Nm.err (Nm.rdZ s) else 21) := Lib.hid rfl
  obtain ⟨E, hE⟩ : ∃ E, E = Nm.rdE s := ⟨_, rfl⟩
  obtain ⟨b, hb⟩ : ∃ b, b = intB s := ⟨_, rfl⟩
  rw [← hE] at HC HE
  rw [← hb] at HE ⊢
  have hx : (E != 21) = b := by
    rw [HE.out]
    cases b with
    | false => rfl
    | true =>
      rw [if_pos rfl]
      rcases Nm.err_two (Nm.rdZ s) with h | h <;> rw [h] <;> rfl
  clear hE hb HE
  go_enter Tryd.func15, Tryd.ntmps15
  go_wp2_with fail
  refine HC.out.mono ?_
  rintro e w1 ⟨rfl, b1⟩
  have B1 := Lib.hid b1
  clear b1
  go_wp2_with fail
  go_ret
  exact ⟨rfl, B1.out⟩
end Go.Proofs.YtnbmecabnkhniaaDoor
/- Layer 17: marks and Ints, by both. -/
namespace Go.Proofs.YtnbmecabnkhniaaDoor
open Go.RowKit Go.Maps
/-- Is a text a mark? -/
def pmB (s : ByteArray) : Bool := (s.toList == [46, 46, 46]) || (List.range 13).any (fun i => s.toList == ((⟨#[33, 36, 38, 40, 41, 58, 61, 64, 91, 93, 123, 124, 125]⟩ : ByteArray).extract i (i + 1)).toList)
theorem mk_dots {s : ByteArray} (h : s.toList = [46, 46, 46]) : pmB s = true := by unfold pmB; rw [h]; rfl
theorem mk_hit {s : ByteArray} {i : Nat} (hi : i < 13) (h : (s.toList == ((⟨#[33, 36, 38, 40, 41, 58, 61, 64, 91, 93, 123, 124, 125]⟩ : ByteArray).extract i (i + 1)).toList) = true) : pmB s = true := by
  unfold pmB
  rw [List.any_eq_true.2 ⟨i, List.mem_range.2 hi, h⟩, Bool.or_true]
theorem mk_none {s : ByteArray} (h : ∀ j, j < 13 → (s.toList == ((⟨#[33, 36, 38, 40, 41, 58, 61, 64, 91, 93, 123, 124, 125]⟩ : ByteArray).extract j (j + 1)).toList) = false) : pmB s = (s.toList == [46, 46, 46]) := by
  unfold pmB
  rw [List.any_eq_false.2 (fun j hj => by rw [h j (List.mem_range.1 hj)]; simp), Bool.or_false]
theorem cut_list (j : Nat) (hj : j < 13) : ((⟨#[33, 36, 38, 40, 41, 58, 61, 64, 91, 93, 123, 124, 125]⟩ : ByteArray).extract j (j + 1)).toList = [(⟨#[33, 36, 38, 40, 41, 58, 61, 64, 91, 93, 123, 124, 125]⟩ : ByteArray).data.toList.getD j 0] := by
  rw [Lib.toList_data, Lib.extract_data]
  revert hj
  revert j
  decide
theorem mk_long {s : ByteArray} (h1 : s.size ≠ 1) (h3 : ¬ s.toList = [46, 46, 46]) : pmB s = false := by
  rw [mk_none, beq_eq_false_iff_ne]
  · exact h3
  · intro j hj
    rw [cut_list j hj, beq_eq_false_iff_ne]
    intro h
    exact h1 (by rw [Lib.size_eq, ← Lib.toList_data, h]; rfl)
theorem all_bytes (p : UInt8 → Bool) (h : (List.range 256).all (fun n => p (UInt8.ofNat n)) = true) (c : UInt8) : p c = true := by
  have := List.all_eq_true.1 h c.toNat (List.mem_range.2 (UInt8.toNat_lt c))
  simpa using this
theorem mk_one (c : UInt8) : pmB ⟨#[c]⟩ = decide (0 ≤ Lib.indexByte (⟨#[33, 36, 38, 40, 41, 58, 61, 64, 91, 93, 123, 124, 125]⟩ : ByteArray).data.toList c) := by
  have h0 : (⟨#[c]⟩ : ByteArray).toList = [c] := by rw [Lib.toList_data]
  have h1 : (List.range 13).any (fun i => [c] == ((⟨#[33, 36, 38, 40, 41, 58, 61, 64, 91, 93, 123, 124, 125]⟩ : ByteArray).extract i (i + 1)).toList) = (List.range 13).any (fun i => [c] == [(⟨#[33, 36, 38, 40, 41, 58, 61, 64, 91, 93, 123, 124, 125]⟩ : ByteArray).data.toList.getD i 0]) := by
    rw [Bool.eq_iff_iff, List.any_eq_true, List.any_eq_true]
    constructor
    · rintro ⟨i, hi, h⟩; exact ⟨i, hi, by rw [cut_list i (List.mem_range.1 hi)] at h; exact h⟩
    · rintro ⟨i, hi, h⟩; exact ⟨i, hi, by rw [cut_list i (List.mem_range.1 hi)]; exact h⟩
  unfold pmB
  rw [h0, h1]
  have := all_bytes (fun c => (([c] == [46, 46, 46]) || (List.range 13).any (fun i => [c] == [(⟨#[33, 36, 38, 40, 41, 58, 61, 64, 91, 93, 123, 124, 125]⟩ : ByteArray).data.toList.getD i 0])) == decide (0 ≤ Lib.indexByte (⟨#[33, 36, 38, 40, 41, 58, 61, 64, 91, 93, 123, 124, 125]⟩ : ByteArray).data.toList c)) (by decide +kernel) c
  exact beq_iff_eq.1 this
set_option maxRecDepth 20000 in
theorem rmark_any (s : ByteArray) (w : World) : Calls Tryd.prog 25 #[.string s] w fun e w' => e = .returned (.bool (pmB s)) ∧ w' = w := by
  obtain ⟨r, hr⟩ : ∃ r, r = pmB s := ⟨_, rfl⟩
  rw [← hr]
  have HR := Lib.hid hr
  clear hr
  go_enter Tryd.func25, Tryd.ntmps25
  go_wp2_with fail
  go_loop [4] (fun v => ∃ i : Nat, i ≤ 13 ∧ v = .int .i64 i ∧ Hid (∀ j, j < i → (s.toList == ((⟨#[33, 36, 38, 40, 41, 58, 61, 64, 91, 93, 123, 124, 125]⟩ : ByteArray).extract j (j + 1)).toList) = false)) (fun v => 13 - (intOf v).toNat)
  case atStart => exact ⟨0, Nat.zero_le _, rfl, Lib.hid (fun j hj => absurd hj (Nat.not_lt_zero j))⟩
  case round =>
    obtain ⟨i, hi, rfl, HP⟩ := hrel
    by_cases hlt : i < 13
    · have hii : (i : Int) < 13 := by omega
      have h0 : (0 : Int) ≤ i := by omega
      cases hq : (s.toList == ((⟨#[33, 36, 38, 40, 41, 58, 61, 64, 91, 93, 123, 124, 125]⟩ : ByteArray).extract i (i + 1)).toList) with
      | true =>
        have HO := Lib.hid (HR.out.trans (mk_hit hlt hq))
        go_wp2_with fail
        go_ret
        exact ⟨ret_bool HO.out.symm, rfl⟩
      | false =>
        have HN : Hid (∀ j, j < i + 1 → (s.toList == ((⟨#[33, 36, 38, 40, 41, 58, 61, 64, 91, 93, 123, 124, 125]⟩ : ByteArray).extract j (j + 1)).toList) = false) := Lib.hid (fun j hj => by
          by_cases e : j = i
          · subst e; exact hq
          · exact HP.out j (by omega))
        clear HP
        go_wp2_with fail
        go_round
        case rel => exact ⟨i + 1, by omega, by go_num, HN⟩
        case measure => simp [intOf]; omega
    · obtain rfl : i = 13 := by omega
      have HO := Lib.hid (HR.out.trans (mk_none HP.out))
      go_wp2_with fail
      go_ret
      exact ⟨ret_bool HO.out.symm, rfl⟩
set_option maxRecDepth 20000 in
theorem lmark_any (s : ByteArray) (w : World) : Calls Tryd.prog 17 #[.string s] w fun e w' => e = .returned (.bool (pmB s)) ∧ w' = w := by
  by_cases h3 : s.toList = [46, 46, 46]
  · have HO := Lib.hid (mk_dots h3)
    go_enter Tryd.func17, Tryd.ntmps17
    go_wp2_with fail
    go_ret
    exact ⟨ret_bool HO.out.symm, rfl⟩
  · by_cases hs : s.size = 1
    · have h1 : (s.size : Int) = 1 := by omega
      have HC : Hid (∀ W, Calls Tryd.prog 31 #[.string (⟨#[33, 36, 38, 40, 41, 58, 61, 64, 91, 93, 123, 124, 125]⟩ : ByteArray), .string s] W fun e w' => e = .returned (.bool (pmB s)) ∧ w' = W) := Lib.hid (fun W => by
        obtain ⟨c, hc⟩ : ∃ c : UInt8, s = ⟨#[c]⟩ := by
          rw [Lib.size_eq] at hs
          obtain ⟨x, hx⟩ := List.length_eq_one_iff.1 hs
          exact ⟨x, by apply ByteArray.ext; apply Array.ext'; rw [hx]⟩
        rw [hc, mk_one]
        exact Tryd.strings_Contains_one _ c W)
      clear hs
      go_enter Tryd.func17, Tryd.ntmps17
      go_wp2_with (go_at_call 31; refine (HC.out _).mono ?_; rintro e w' ⟨rfl, rfl⟩)
      go_ret
      exact ⟨ret_bool (by rw [beq_eq_false_iff_ne.2 h3, Bool.false_or]), rfl⟩
    · have h1 : ((s.size : Int) == 1) = false := by rw [beq_eq_false_iff_ne]; omega
      have HO := Lib.hid (mk_long hs h3)
      clear hs
      go_enter Tryd.func17, Tryd.ntmps17
      go_wp2_with fail
      go_ret
      exact ⟨ret_bool ((beq_eq_false_iff_ne.2 h3).trans HO.out.symm), rfl⟩
/-! ### Ints, by the document -/
def dgA (s : ByteArray) : Bool := decide (0 < s.size) && Nm.allD s s.size
set_option maxRecDepth 20000 in
theorem rdigits_any (s : ByteArray) (w : World) (hs : s.size ≤ maxLen) : Calls Tryd.prog 35 #[.string s] w fun e w' => e = .returned (.bool (dgA s)) ∧ w' = w := by
  unfold maxLen at hs
  obtain ⟨r, hr⟩ : ∃ r, r = dgA s := ⟨_, rfl⟩
  rw [← hr]
  have HR := Lib.hid hr
  clear hr
  go_enter Tryd.func35, Tryd.ntmps35
  go_wp2_with fail
  go_loop [3] (fun v => ∃ k : Nat, k ≤ s.size ∧ v = .int .i64 k ∧ Hid (Nm.allD s k = true)) (fun v => s.size - (intOf v).toNat)
  case atStart => exact ⟨0, Nat.zero_le _, rfl, Lib.hid rfl⟩
  case round =>
    obtain ⟨k, hk, rfl, HA⟩ := hrel
    by_cases hlt : k < s.size
    · have hbk := Nm.byt_eq s k hlt
      have hk0 : (0 : Int) ≤ k := by omega
      have hki : (k : Int) < s.size := by omega
      by_cases h1 : Nm.byt s k < 48
      · have HF : Hid (r = false) := Lib.hid (by
          rw [HR.out]; unfold dgA
          cases hh : Nm.allD s s.size
          · rw [Bool.and_false]
          · have := Nm.allD_byte s _ k hlt hh; omega)
        have ht1 : (s[k].toNat : Int) < 48 := by omega
        clear hbk h1
        go_wp2_with fail
        go_ret
        exact ⟨ret_bool HF.out.symm, rfl⟩
      · by_cases h2 : 57 < Nm.byt s k
        · have HF : Hid (r = false) := Lib.hid (by
            rw [HR.out]; unfold dgA
            cases hh : Nm.allD s s.size
            · rw [Bool.and_false]
            · have := Nm.allD_byte s _ k hlt hh; omega)
          have ht1 : ¬ (s[k].toNat : Int) < 48 := by omega
          have ht2 : 57 < (s[k].toNat : Int) := by omega
          clear hbk h1 h2
          go_wp2_with fail
          go_ret
          exact ⟨ret_bool HF.out.symm, rfl⟩
        · have HN : Hid (Nm.allD s (k + 1) = true) := Lib.hid (by simp only [Nm.allD, HA.out, Bool.true_and, decide_eq_true_eq]; omega)
          have ht1 : ¬ (s[k].toNat : Int) < 48 := by omega
          have ht2 : ¬ 57 < (s[k].toNat : Int) := by omega
          clear hbk h1 h2
          go_wp2_with fail
          go_round
          case rel => exact ⟨k + 1, by omega, by go_num, HN⟩
          case measure => simp [intOf]; omega
    · obtain rfl : k = s.size := by omega
      by_cases h0 : 0 < s.size
      · have HF : Hid (r = true) := Lib.hid (by rw [HR.out]; unfold dgA; rw [HA.out]; simp [h0])
        go_wp2_with fail
        go_ret
        exact ⟨ret_bool HF.out.symm, rfl⟩
      · have HF : Hid (r = false) := Lib.hid (by rw [HR.out]; unfold dgA; simp [h0])
        go_wp2_with fail
        go_ret
        exact ⟨ret_bool HF.out.symm, rfl⟩
theorem int_tails (t : ByteArray) : (dgA t = false ∧ Nm.areD t = false) ∨ (dgA t = true ∧ ∃ h : 0 < t.size, ¬ (t[0].toNat : Int) = 48 ∧ Nm.areD t = true) ∨ (dgA t = true ∧ ∃ h : 0 < t.size, (t[0].toNat : Int) = 48 ∧ (t.size : Int) = 1 ∧ Nm.areD t = true) ∨ (dgA t = true ∧ ∃ h : 0 < t.size, (t[0].toNat : Int) = 48 ∧ ¬ (t.size : Int) = 1 ∧ Nm.areD t = false) := by
  cases hd : dgA t with
  | false =>
    refine .inl ⟨rfl, ?_⟩
    unfold dgA at hd
    unfold Nm.areD
    cases h0 : decide (0 < t.size) with
    | false => rfl
    | true => rw [h0, Bool.true_and] at hd; rw [hd, Bool.and_false]
  | true =>
    have hd' := hd
    simp only [dgA, Bool.and_eq_true, decide_eq_true_eq] at hd'
    have hb := Nm.byt_eq t 0 hd'.1
    by_cases h48 : Nm.byt t 0 = 48
    · by_cases h1 : t.size = 1
      · exact .inr (.inr (.inl ⟨rfl, hd'.1, by rw [hb, h48], by omega, by unfold Nm.areD; simp [h48, h1, ← hd'.2]⟩))
      · exact .inr (.inr (.inr ⟨rfl, hd'.1, by rw [hb, h48], by omega, by unfold Nm.areD; simp [h48, h1]⟩))
    · exact .inr (.inl ⟨rfl, hd'.1, by rw [hb]; exact h48, by unfold Nm.areD; simp [h48, hd'.1, hd'.2]⟩)
set_option maxRecDepth 20000 in
theorem rint_any (s : ByteArray) (w : World) (hs : s.size ≤ maxLen) : Calls Tryd.prog 23 #[.string s] w fun e w' => e = .returned (.bool (intB s)) ∧ w' = w := by
  unfold maxLen at hs
  have HD : Hid (∀ t : ByteArray, t.size ≤ s.size → ∀ W, Calls Tryd.prog 35 #[.string t] W fun e w' => e = .returned (.bool (dgA t)) ∧ w' = W) := Lib.hid (fun t ht W => rdigits_any t W (by unfold maxLen; omega))
  cases hn : Nm.isNeg s with
  | false =>
    have hb : intB s = Nm.areD s := by unfold intB Nm.bare; rw [hn]; rfl
    rw [hb]
    by_cases h0 : 0 < s.size
    · have hpi : (0 : Int) < s.size := by omega
      have h45 : ((s[0].toNat : Int) == 45) = false := by
        rw [Nm.byt_eq s 0 h0, beq_eq_false_iff_ne]
        intro h
        unfold Nm.isNeg at hn
        simp [h0, h] at hn
      have HC := Lib.hid (fun W => HD.out s (Nat.le_refl _) W)
      clear hb hn HD
      rcases int_tails s with ⟨hd, hr⟩ | ⟨hd, h1, h2, hr⟩ | ⟨hd, h1, h2, h3, hr⟩ | ⟨hd, h1, h2, h3, hr⟩
      all_goals
        rw [hd] at HC
        rw [hr]
        clear hd hr
        go_enter Tryd.func23, Tryd.ntmps23
        go_wp2_with (go_at_call 35; refine (HC.out _).mono ?_; rintro e w' ⟨rfl, rfl⟩)
        go_ret
        first
          | exact ⟨rfl, rfl⟩
          | exact ⟨ret_bool (beq_eq_false_iff_ne.2 h3), rfl⟩
    · have hpi : ¬ (0 : Int) < s.size := by omega
      have HC := Lib.hid (fun W => HD.out s (Nat.le_refl _) W)
      have hd : dgA s = false := by unfold dgA; simp [h0]
      have hr : Nm.areD s = false := by unfold Nm.areD; simp [h0]
      rw [hd] at HC
      rw [hr]
      clear hb hn HD hd hr
      go_enter Tryd.func23, Tryd.ntmps23
      go_wp2_with (go_at_call 35; refine (HC.out _).mono ?_; rintro e w' ⟨rfl, rfl⟩)
      go_ret
      exact ⟨rfl, rfl⟩
  | true =>
    have hb : intB s = Nm.areD (s.extract 1 s.size) := by unfold intB Nm.bare; rw [hn]; rfl
    obtain ⟨r, hr0⟩ : ∃ r, r = Nm.areD (s.extract 1 s.size) := ⟨_, rfl⟩
    rw [hb, ← hr0]
    have HR0 := Lib.hid hr0
    clear hr0
    have hn' := hn
    simp only [Nm.isNeg, Bool.and_eq_true, decide_eq_true_eq] at hn'
    have h0 := hn'.1
    have hpi : (0 : Int) < s.size := by omega
    have hp1 : (1 : Int) ≤ s.size := by omega
    have h45 : ((s[0].toNat : Int) == 45) = true := by rw [Nm.byt_eq s 0 h0, hn'.2]; rfl
    have hz : (s.extract 1 s.size).size ≤ s.size := by rw [Nm.size_tail s h0]; omega
    have HC := Lib.hid (fun W => HD.out _ hz W)
    have htm : (s.extract 1 s.size).size ≤ 9223372036854775807 := by omega
    have HT := int_tails (s.extract 1 s.size)
    clear hb hn hn' HD hz
    go_enter Tryd.func23, Tryd.ntmps23
    go_wp2_with (fail)
    generalize s.extract 1 s.size = t at *
    rcases HT with ⟨hd, hr⟩ | ⟨hd, h1, h2, hr⟩ | ⟨hd, h1, h2, h3, hr⟩ | ⟨hd, h1, h2, h3, hr⟩
    all_goals
      rw [hd] at HC
      have HR := Lib.hid (HR0.out.trans hr)
      clear hd hr
      go_wp2_with (go_at_call 35; refine (HC.out _).mono ?_; rintro e w' ⟨rfl, rfl⟩)
      go_ret
      first
        | exact ⟨ret_bool HR.out.symm, rfl⟩
        | exact ⟨ret_bool ((beq_eq_false_iff_ne.2 h3).trans HR.out.symm), rfl⟩
end Go.Proofs.YtnbmecabnkhniaaDoor
/- Layer 17: tokens in memory; whether a token may be, by both. -/
namespace Go.Proofs.YtnbmecabnkhniaaDoor
open Go.RowKit Go.Maps
structure TkR where
  k : Int
  s : ByteArray
  a : Int
/-- Tokens in memory. -/
def TkV (w : World) (a : Option Addr) (n : Nat) (g : Nat → TkR) : Prop :=
  ∀ i, i < n → ∃ b off, a = some ⟨b, off, none⟩ ∧ b < w.heap.size ∧ w.cell? ⟨b, off + i * 3, none⟩ = some (.int .u8 (g i).k) ∧ w.cell? ⟨b, off + i * 3 + 1, none⟩ = some (.string (g i).s) ∧ w.cell? ⟨b, off + i * 3 + 2, none⟩ = some (.int .i64 (g i).a)
theorem TkV.below {w w' : World} {a : Option Addr} {n : Nat} {g : Nat → TkR} (h : TkV w a n g) (hb : Below w.heap.size w w') : TkV w' a n g := fun i hi => by
  obtain ⟨b, off, e, h0, h1, h2, h3⟩ := h i hi
  have c : ∀ o, w'.cell? ⟨b, o, none⟩ = w.cell? ⟨b, o, none⟩ := fun o => World.cell?_of_block (hb.block b h0)
  exact ⟨b, off, e, Nat.lt_of_lt_of_le h0 hb.size, by rw [c]; exact h1, by rw [c]; exact h2, by rw [c]; exact h3⟩
theorem TkV.at_ {w : World} {b off n : Nat} {g : Nat → TkR} (h : TkV w (some ⟨b, off, none⟩) n g) {i : Nat} (hi : i < n) : b < w.heap.size ∧ w.cell? ⟨b, off + i * 3, none⟩ = some (.int .u8 (g i).k) ∧ w.cell? ⟨b, off + i * 3 + 1, none⟩ = some (.string (g i).s) ∧ w.cell? ⟨b, off + i * 3 + 2, none⟩ = some (.int .i64 (g i).a) := by
  obtain ⟨b', off', e, k⟩ := h i hi
  cases e
  exact k
theorem TkV.addr {w : World} {a : Option Addr} {n : Nat} {g : Nat → TkR} (h : TkV w a n g) (h0 : 0 < n) : ∃ b off, a = some ⟨b, off, none⟩ := by
  obtain ⟨b, off, e, _⟩ := h 0 h0
  exact ⟨b, off, e⟩
/-- May a token be? -/
def okT (x : TkR) : Bool := if x.k = 0 then x.s.toList.isEmpty else if x.k = 1 then nmB x.s else if x.k = 2 then intB x.s else if x.k = 3 then (ckE x.s == 0) else if x.k = 4 then pmB x.s else false
theorem lim_big {w : World} (l : Nm.Lim w) : 1 < w.heap.size := by
  by_cases h : 1 < w.heap.size
  · exact h
  · have h1 := l.1
    have : w.heap[1]? = none := Array.getElem?_eq_none (by omega)
    simp [World.cell?, this] at h1
theorem lim_up {w w' : World} (l : Nm.Lim w) (hb : Below w.heap.size w w') : Nm.Lim w' := ⟨by rw [hb.cell (lim_big l)]; exact l.1, by rw [hb.cell (lim_big l)]; exact l.2⟩
theorem below_box (w : World) (o : Obj) : Below w.heap.size w (w.alloc o) := (Below.refl _ _).alloc (Nat.le_refl _) _
theorem below_boxed {w w' : World} {o : Obj} (h : Below (w.alloc o).heap.size (w.alloc o) w') : Below w.heap.size w w' := (below_box w o).trans (h.mono (below_box w o).size)
theorem ret_intL {k : IntKind} {a b : Int} (h : a = b) : Ending.returned (.int k a) = .returned (.int k b) := by rw [h]
set_option maxRecDepth 20000 in
theorem rcheck_any (s : ByteArray) (w : World) (hs : s.size ≤ 1000000) : Calls Tryd.prog 24 #[.string s] w fun e w' => e = .returned (.int .i64 (ckE s)) ∧ Below w.heap.size w w' := by
  by_cases hl : 16384 < s.size
  · have hli : (16384 : Int) < s.size := by omega
    have HE : Hid (ckE s = 4) := Lib.hid (by unfold ckE; rw [if_pos hl])
    go_enter Tryd.func24, Tryd.ntmps24
    go_wp2_with fail
    go_ret
    exact ⟨ret_intL HE.out.symm, Below.refl _ _⟩
  · have hli : ¬ (16384 : Int) < s.size := by omega
    have HE : Hid (ckE s = if isTx s then 0 else 10) := Lib.hid (by unfold ckE; rw [if_neg hl])
    have HC := Lib.hid (rpoints_any s w (by omega))
    obtain ⟨t, ht⟩ : ∃ t, t = isTx s := ⟨_, rfl⟩
    rw [← ht] at HE HC
    clear ht
    cases t
    all_goals
      go_enter Tryd.func24, Tryd.ntmps24
      go_wp2_with fail
      refine HC.out.mono ?_
      rintro e w1 ⟨v, rfl, b1⟩
      have B1 := Lib.hid b1
      clear b1
      go_wp2_with fail
      go_ret
      exact ⟨ret_intL HE.out.symm, B1.out⟩
set_option maxRecDepth 20000 in
set_option maxHeartbeats 1000000 in
theorem lcheck_any (x : TkR) (w : World) (l : Nm.Lim w) (hs : x.s.size ≤ 1000000) : Calls Tryd.prog 7 #[.agg #[.int .u8 x.k, .string x.s, .int .i64 x.a]] w fun e w' => e = .returned (.int .i64 (if (okT x) then 0 else 8)) ∧ Below w.heap.size w w' := by
  obtain ⟨k, s, a⟩ := x
  obtain ⟨r, hr⟩ : ∃ r, r = okT ⟨k, s, a⟩ := ⟨_, rfl⟩
  rw [← hr]
  obtain ⟨E, hE⟩ : ∃ E : Int, E = if r then 0 else 8 := ⟨_, rfl⟩
  rw [← hE]
  have HE := Lib.hid hE
  clear hE
  unfold okT at hr
  have HS := Lib.hid hs
  have HL := Lib.hid l
  clear hs l
  dsimp only at hr HS ⊢
  rcases (by omega : k = 0 ∨ k = 1 ∨ k = 2 ∨ k = 3 ∨ k = 4 ∨ (k ≠ 0 ∧ k ≠ 1 ∧ k ≠ 2 ∧ k ≠ 3 ∧ k ≠ 4)) with rfl | rfl | rfl | rfl | rfl | ⟨k0, k1, k2, k3, k4⟩
  · by_cases hz : s.size = 0
    · have hn := empty_lst hz
      have HR : Hid (r = true) := Lib.hid (by rw [hr, if_pos rfl, hn]; rfl)
      clear hr hz
      go_enter Tryd.func7, Tryd.ntmps7
      go_wp2_with fail
      go_ret
      exact ⟨ret_intL (by rw [HE.out, HR.out]; rfl), below_box _ _⟩
    · have hn := full_lst hz
      have HR : Hid (r = false) := Lib.hid (by rw [hr, if_pos rfl, hn])
      clear hr hz
      go_enter Tryd.func7, Tryd.ntmps7
      go_wp2_with fail
      go_ret
      exact ⟨ret_intL (by rw [HE.out, HR.out]; rfl), below_box _ _⟩
  · have hr2 : r = nmB s := by rw [hr, if_neg (by decide), if_pos rfl]
    clear hr
    have HC : Hid (∀ W, Below w.heap.size w W → Calls Tryd.prog 14 #[.string s] W fun e w' => e = .returned (.bool (nmB s)) ∧ Below W.heap.size W w') := Lib.hid (fun W hW => (lname_any s W HS.out).mono (fun e w' h => ⟨h.1, by rw [h.2]; exact Below.refl _ _⟩))
    cases hb : nmB s
    all_goals
      rw [hb] at hr2
      have HR := Lib.hid hr2
      rw [hb] at HC
      clear hr2 hb
      go_enter Tryd.func7, Tryd.ntmps7
      go_wp2_with fail
      refine (HC.out _ (below_box _ _)).mono ?_
      rintro e w1 ⟨rfl, b1⟩
      have B1 := Lib.hid (below_boxed b1)
      clear b1
      go_wp2_with fail
      go_ret
      exact ⟨ret_intL (by rw [HE.out, HR.out]; rfl), B1.out⟩
  · have hr2 : r = intB s := by rw [hr, if_neg (by decide), if_neg (by decide), if_pos rfl]
    clear hr
    have HC : Hid (∀ W, Below w.heap.size w W → Calls Tryd.prog 15 #[.string s] W fun e w' => e = .returned (.bool (intB s)) ∧ Below W.heap.size W w') := Lib.hid (fun W hW => lint_any s W (lim_up HL.out hW) (by have := HS.out; unfold maxLen; omega))
    cases hb : intB s
    all_goals
      rw [hb] at hr2
      have HR := Lib.hid hr2
      rw [hb] at HC
      clear hr2 hb
      go_enter Tryd.func7, Tryd.ntmps7
      go_wp2_with fail
      refine (HC.out _ (below_box _ _)).mono ?_
      rintro e w1 ⟨rfl, b1⟩
      have B1 := Lib.hid (below_boxed b1)
      clear b1
      go_wp2_with fail
      go_ret
      exact ⟨ret_intL (by rw [HE.out, HR.out]; rfl), B1.out⟩
  · have hr2 : r = (ckE s == 0) := by rw [hr, if_neg (by decide), if_neg (by decide), if_neg (by decide), if_pos rfl]
    clear hr
    have HC : Hid (∀ W, Below w.heap.size w W → Calls Tryd.prog 16 #[.string s] W fun e w' => e = .returned (.int .i64 (ckE s)) ∧ Below W.heap.size W w') := Lib.hid (fun W hW => check_any s W (by have := HS.out; unfold maxLen; omega))
    cases hb : (ckE s == 0)
    all_goals
      rw [hb] at hr2
      have HR := Lib.hid hr2
      have hb2 := hb
      clear hr2 hb
      go_enter Tryd.func7, Tryd.ntmps7
      go_wp2_with fail
      refine (HC.out _ (below_box _ _)).mono ?_
      rintro e w1 ⟨rfl, b1⟩
      have B1 := Lib.hid (below_boxed b1)
      clear b1
      go_wp2_with fail
      go_ret
      exact ⟨ret_intL (by rw [HE.out, HR.out]; rfl), B1.out⟩
  · have hr2 : r = pmB s := by rw [hr, if_neg (by decide), if_neg (by decide), if_neg (by decide), if_neg (by decide), if_pos rfl]
    clear hr
    have HC : Hid (∀ W, Below w.heap.size w W → Calls Tryd.prog 17 #[.string s] W fun e w' => e = .returned (.bool (pmB s)) ∧ Below W.heap.size W w') := Lib.hid (fun W hW => (lmark_any s W).mono (fun e w' h => ⟨h.1, by rw [h.2]; exact Below.refl _ _⟩))
    cases hb : pmB s
    all_goals
      rw [hb] at hr2
      have HR := Lib.hid hr2
      rw [hb] at HC
      clear hr2 hb
      go_enter Tryd.func7, Tryd.ntmps7
      go_wp2_with fail
      refine (HC.out _ (below_box _ _)).mono ?_
      rintro e w1 ⟨rfl, b1⟩
      have B1 := Lib.hid (below_boxed b1)
      clear b1
      go_wp2_with fail
      go_ret
      exact ⟨ret_intL (by rw [HE.out, HR.out]; rfl), B1.out⟩
  · have HR : Hid (r = false) := Lib.hid (by rw [hr, if_neg k0, if_neg k1, if_neg k2, if_neg k3, if_neg k4])
    clear hr
    go_enter Tryd.func7, Tryd.ntmps7
    go_wp2_with fail
    go_ret
    exact ⟨ret_intL (by rw [HE.out, HR.out]; rfl), below_box _ _⟩
set_option maxRecDepth 20000 in
set_option maxHeartbeats 1000000 in
theorem rmay_any (x : TkR) (w : World) (hs : x.s.size ≤ 1000000) : Calls Tryd.prog 12 #[.agg #[.int .u8 x.k, .string x.s, .int .i64 x.a]] w fun e w' => e = .returned (.bool (okT x)) ∧ Below w.heap.size w w' := by
  obtain ⟨k, s, a⟩ := x
  obtain ⟨r, hr⟩ : ∃ r, r = okT ⟨k, s, a⟩ := ⟨_, rfl⟩
  rw [← hr]
  unfold okT at hr
  have HS := Lib.hid hs
  clear hs 
  dsimp only at hr HS ⊢
  rcases (by omega : k = 0 ∨ k = 1 ∨ k = 2 ∨ k = 3 ∨ k = 4 ∨ (k ≠ 0 ∧ k ≠ 1 ∧ k ≠ 2 ∧ k ≠ 3 ∧ k ≠ 4)) with rfl | rfl | rfl | rfl | rfl | ⟨k0, k1, k2, k3, k4⟩
  · by_cases hz : s.size = 0
    · have hn := empty_lst hz
      have HR : Hid (r = true) := Lib.hid (by rw [hr, if_pos rfl, hn]; rfl)
      clear hr hz
      go_enter Tryd.func12, Tryd.ntmps12
      go_wp2_with fail
      go_ret
      exact ⟨ret_bool HR.out.symm, below_box _ _⟩
    · have hn := full_lst hz
      have HR : Hid (r = false) := Lib.hid (by rw [hr, if_pos rfl, hn])
      clear hr hz
      go_enter Tryd.func12, Tryd.ntmps12
      go_wp2_with fail
      go_ret
      exact ⟨ret_bool HR.out.symm, below_box _ _⟩
  · have hr2 : r = nmB s := by rw [hr, if_neg (by decide), if_pos rfl]
    clear hr
    have HC : Hid (∀ W, Below w.heap.size w W → Calls Tryd.prog 22 #[.string s] W fun e w' => e = .returned (.bool (nmB s)) ∧ Below W.heap.size W w') := Lib.hid (fun W hW => rname_any s W HS.out)
    cases hb : nmB s
    all_goals
      rw [hb] at hr2
      have HR := Lib.hid hr2
      rw [hb] at HC
      clear hr2 hb
      go_enter Tryd.func12, Tryd.ntmps12
      go_wp2_with fail
      refine (HC.out _ (below_box _ _)).mono ?_
      rintro e w1 ⟨rfl, b1⟩
      have B1 := Lib.hid (below_boxed b1)
      clear b1
      go_wp2_with fail
      go_ret
      exact ⟨ret_bool HR.out.symm, B1.out⟩
  · have hr2 : r = intB s := by rw [hr, if_neg (by decide), if_neg (by decide), if_pos rfl]
    clear hr
    have HC : Hid (∀ W, Below w.heap.size w W → Calls Tryd.prog 23 #[.string s] W fun e w' => e = .returned (.bool (intB s)) ∧ Below W.heap.size W w') := Lib.hid (fun W hW => (rint_any s W (by have := HS.out; unfold maxLen; omega)).mono (fun e w' h => ⟨h.1, by rw [h.2]; exact Below.refl _ _⟩))
    cases hb : intB s
    all_goals
      rw [hb] at hr2
      have HR := Lib.hid hr2
      rw [hb] at HC
      clear hr2 hb
      go_enter Tryd.func12, Tryd.ntmps12
      go_wp2_with fail
      refine (HC.out _ (below_box _ _)).mono ?_
      rintro e w1 ⟨rfl, b1⟩
      have B1 := Lib.hid (below_boxed b1)
      clear b1
      go_wp2_with fail
      go_ret
      exact ⟨ret_bool HR.out.symm, B1.out⟩
  · have hr2 : r = (ckE s == 0) := by rw [hr, if_neg (by decide), if_neg (by decide), if_neg (by decide), if_pos rfl]
    clear hr
    have HC : Hid (∀ W, Below w.heap.size w W → Calls Tryd.prog 24 #[.string s] W fun e w' => e = .returned (.int .i64 (ckE s)) ∧ Below W.heap.size W w') := Lib.hid (fun W hW => rcheck_any s W HS.out)
    cases hb : (ckE s == 0)
    all_goals
      rw [hb] at hr2
      have HR := Lib.hid hr2
      have hb2 := hb
      clear hr2 hb
      go_enter Tryd.func12, Tryd.ntmps12
      go_wp2_with fail
      refine (HC.out _ (below_box _ _)).mono ?_
      rintro e w1 ⟨rfl, b1⟩
      have B1 := Lib.hid (below_boxed b1)
      clear b1
      go_wp2_with fail
      go_ret
      exact ⟨ret_bool HR.out.symm, B1.out⟩
  · have hr2 : r = pmB s := by rw [hr, if_neg (by decide), if_neg (by decide), if_neg (by decide), if_neg (by decide), if_pos rfl]
    clear hr
    have HC : Hid (∀ W, Below w.heap.size w W → Calls Tryd.prog 25 #[.string s] W fun e w' => e = .returned (.bool (pmB s)) ∧ Below W.heap.size W w') := Lib.hid (fun W hW => (rmark_any s W).mono (fun e w' h => ⟨h.1, by rw [h.2]; exact Below.refl _ _⟩))
    cases hb : pmB s
    all_goals
      rw [hb] at hr2
      have HR := Lib.hid hr2
      rw [hb] at HC
      clear hr2 hb
      go_enter Tryd.func12, Tryd.ntmps12
      go_wp2_with fail
      refine (HC.out _ (below_box _ _)).mono ?_
      rintro e w1 ⟨rfl, b1⟩
      have B1 := Lib.hid (below_boxed b1)
      clear b1
      go_wp2_with fail
      go_ret
      exact ⟨ret_bool HR.out.symm, B1.out⟩
  · have HR : Hid (r = false) := Lib.hid (by rw [hr, if_neg k0, if_neg k1, if_neg k2, if_neg k3, if_neg k4])
    clear hr
    go_enter Tryd.func12, Tryd.ntmps12
    go_wp2_with fail
    go_ret
    exact ⟨ret_bool HR.out.symm, below_box _ _⟩
set_option maxRecDepth 20000 in
theorem rchk_any (x : TkR) (w : World) (hs : x.s.size ≤ 1000000) : Calls Tryd.prog 8 #[.agg #[.int .u8 x.k, .string x.s, .int .i64 x.a]] w fun e w' => e = .returned (.int .i64 (if okT x then 0 else 8)) ∧ Below w.heap.size w w' := by
  have HC := Lib.hid (fun W => rmay_any x W hs)
  obtain ⟨r, hr⟩ : ∃ r, r = okT x := ⟨_, rfl⟩
  rw [← hr] at HC ⊢
  clear hr hs
  obtain ⟨k, s, a⟩ := x
  dsimp only at HC ⊢
  cases r
  all_goals
    go_enter Tryd.func8, Tryd.ntmps8
    go_wp2_with fail
    refine (HC.out _).mono ?_
    rintro e w1 ⟨rfl, b1⟩
    have B1 := Lib.hid (below_boxed b1)
    clear b1
    go_wp2_with fail
    go_ret
    exact ⟨rfl, B1.out⟩
end Go.Proofs.YtnbmecabnkhniaaDoor

import Derived.Test.YtgmcmpnopdgnmaaE10
namespace Go.Proofs.Ytgmcmpnopdgnmaa
open Go.RowKit

set_option maxHeartbeats 4000000 in
/-- Behind Put, which has put s in its place, or has found it: what is asked of the two lists. -/
theorem puts_good (a : Option Addr) (len cap k ko : Nat) (is iso : Bool) (L A : List ByteArray) (s o : ByteArray) (w : World) (hv : SView w a len L) (hlen : len ≤ 100) (hs : Short L) (hc : chE L = 0) (hat : At L s k is) (hato : At L o ko iso)
    (hput : ∀ w : World, SView w a len L → Calls Try.prog 19 #[.slice a len cap, .string s] w fun e w' => ∃ v, e = .returned (.tuple #[v, .int .i64 0]) ∧ Holds w' v A ∧ Below w.heap.size w w')
    (kA kAo : Nat) (hcA : chE A = 0) (hAl : A.length ≤ 101) (hA : At A s kA true) (hAo : o ≠ s → At A o kAo iso) (hAo' : ∃ i', At A o kAo i') (hsame : (is = true ∧ A = L) ∨ (is = false ∧ del A kA = L)) :
    Calls Try.prog 7 #[.slice a len cap, .string s, .string o] w fun e w' => e = .returned (.bool true) ∧ Below w.heap.size w w' := by
  have hk := (hA.2.2.1 rfl).1
  have HN : Hid (nth A kA = s) := Lib.hid (hA.2.2.1 rfl).2
  obtain ⟨i', hAo2⟩ := hAo'
  have HOO : Hid (o ≠ s → i' = iso) := Lib.hid (fun h => (at_uniq (hAo h) hAo2).2)
  have HV := Lib.hid hv
  have HL : Hid (L.length = len) := hv.1
  have HS := Lib.hid hs
  have HC := Lib.hid hc
  have HAT := Lib.hid hat
  have HATO := Lib.hid hato
  have HP := Lib.hid hput
  have HCA := Lib.hid hcA
  have HA := Lib.hid hA
  have HAO := Lib.hid hAo2
  have HSAME := Lib.hid hsame
  clear hv hs hc hat hato hput hcA hA hAo hAo2 hsame
  have hso := str_eq o s
  have hlm : len ≤ maxLen := by unfold maxLen; omega
  have HLM := Lib.hid hlm
  clear hlm
  go_enter Try.func7, Try.ntmps7
  go_wp2_with fail
  refine (alive_true _).mono ?_
  rintro e w1 ⟨rfl, b1⟩
  have B1 := Lib.hid b1
  clear b1
  go_wp2_with fail
  refine (great_any a len cap L _ (HV.out.below B1.out) HLM.out HS.out).mono ?_
  rintro e w2 ⟨⟨g, rfl⟩, b2⟩
  have B2 := Lib.hid (B1.out.trans (b2.mono B1.out.size))
  clear b2
  cases g with
  | true =>
    go_wp2_with fail
    go_ret
    exact ⟨rfl, B2.out⟩
  | false =>
    go_wp2_with fail
    refine (HP.out _ (HV.out.below B2.out)).mono ?_
    rintro e w3 ⟨v, rfl, hh, b3⟩
    have B3 := Lib.hid (B2.out.trans (b3.mono B2.out.size))
    have HH := Lib.hid hh
    clear hh b3
    obtain ⟨a1, c1, rfl, hsv, hlc, _, _⟩ := HH.out
    obtain ⟨b, off, rfl, hbb, hcell⟩ := hsv.2 kA hk
    rw [HN.out] at hcell
    obtain ⟨n, hn⟩ : ∃ n, A.length = n := ⟨_, rfl⟩
    rw [hn] at hsv hlc hk hAl ⊢
    have HNL := Lib.hid hn
    have HSV := Lib.hid hsv
    have HCL := Lib.hid hcell
    clear HH hsv hn hcell
    go_wp2_with fail
    refine (findOfD a len cap k is L s _ (HV.out.below B3.out) HC.out HAT.out).mono ?_
    rintro e w4 ⟨rfl, b4⟩
    have D4 := Lib.hid b4
    clear b4
    go_wp2_with fail
    refine (findOfD _ n c1 kA true A s _ (HSV.out.below D4.out) HCA.out HA.out).mono ?_
    rintro e w5 ⟨rfl, b5⟩
    have D5 := Lib.hid (D4.out.trans (b5.mono D4.out.size))
    clear b5
    go_wp2_with fail
    refine (findOfD a len cap ko iso L o _ (HV.out.below (B3.out.trans (D5.out.mono B3.out.size))) HC.out HATO.out).mono ?_
    rintro e w6 ⟨rfl, b6⟩
    have D6 := Lib.hid (D5.out.trans (b6.mono D5.out.size))
    clear b6
    go_wp2_with fail
    refine (findOfD _ n c1 kAo i' A o _ (HSV.out.below D6.out) HCA.out HAO.out).mono ?_
    rintro e w7 ⟨rfl, b7⟩
    have D7 := Lib.hid (D6.out.trans (b7.mono D6.out.size))
    clear b7
    go_wp2_with fail
    refine (drop_any b off n c1 kA A s _ (HSV.out.below D7.out) hlc (by omega) HCA.out HA.out).mono ?_
    rintro e w8 ⟨vd, rfl, hhd, b8⟩
    have D8 := Lib.hid (D7.out.trans (b8.mono D7.out.size))
    obtain ⟨ad, cd, rfl, hdv, _, _, _⟩ := hhd
    have HD := Lib.hid hdv
    clear b8 hdv
    go_wp2_with fail
    refine (check_any _ n c1 A _ (HSV.out.below D8.out)).mono ?_
    rintro e w9 ⟨rfl, b9⟩
    rw [HCA.out]
    have D9 := Lib.hid (D8.out.trans (b9.mono D8.out.size))
    have HD9 := Lib.hid (HD.out.below b9)
    clear b9
    have hcell9 := (D9.out.cell (p := ⟨b, off + kA, none⟩) hbb).trans HCL.out
    have hge : ¬ (n : Int) ≤ (kA : Int) := by omega
    have HSO : Hid (o = s ∨ (i' = iso)) := Lib.hid (by by_cases h : o = s; (· exact .inl h); (· exact .inr (HOO.out h)))
    have B9 := Lib.hid (B3.out.trans (D9.out.mono B3.out.size))
    have HDL : Hid ((del A kA).length ≤ 200) := Lib.hid (by have := HNL.out; simp [del]; omega)
    rcases HSAME.out with ⟨rfl, hAL⟩ | ⟨rfl, hAL⟩
    · have HAL := Lib.hid hAL
      clear hAL
      by_cases heq : o = s
      · have hos : (o.toList == s.toList) = true := by rw [hso]; simpa using heq
        clear hso heq
        go_wp2_with fail
        refine (same_any _ _ n len c1 cap A L _ (HSV.out.below D9.out) (HV.out.below B9.out) (by unfold maxLen; omega)).mono ?_
        rintro e w10 ⟨rfl, b10⟩
        rw [show decide (A = L) = true by simpa using HAL.out]
        have B10 := Lib.hid (B9.out.trans (b10.mono B9.out.size))
        clear b10
        go_wp2_with fail
        go_ret
        exact ⟨rfl, B10.out⟩
      · have hii : i' = iso := HOO.out heq
        have hos : (o.toList == s.toList) = false := by rw [hso]; simpa using heq
        clear hso heq
        subst hii
        go_wp2_with fail
        refine (same_any _ _ n len c1 cap A L _ (HSV.out.below D9.out) (HV.out.below B9.out) (by unfold maxLen; omega)).mono ?_
        rintro e w10 ⟨rfl, b10⟩
        rw [show decide (A = L) = true by simpa using HAL.out]
        have B10 := Lib.hid (B9.out.trans (b10.mono B9.out.size))
        clear b10
        go_wp2_with fail
        go_ret
        exact ⟨rfl, B10.out⟩
    · have HAL := Lib.hid hAL
      clear hAL
      by_cases heq : o = s
      · have hos : (o.toList == s.toList) = true := by rw [hso]; simpa using heq
        clear hso heq
        go_wp2_with fail
        refine (same_any _ _ _ len cd cap (del A kA) L _ HD9.out (HV.out.below B9.out) (by have := HDL.out; unfold maxLen; omega)).mono ?_
        rintro e w10 ⟨rfl, b10⟩
        rw [show decide (del A kA = L) = true by simpa using HAL.out]
        have B10 := Lib.hid (B9.out.trans (b10.mono B9.out.size))
        clear b10
        go_wp2_with fail
        go_ret
        exact ⟨rfl, B10.out⟩
      · have hii : i' = iso := HOO.out heq
        have hos : (o.toList == s.toList) = false := by rw [hso]; simpa using heq
        clear hso heq
        subst hii
        go_wp2_with fail
        refine (same_any _ _ _ len cd cap (del A kA) L _ HD9.out (HV.out.below B9.out) (by have := HDL.out; unfold maxLen; omega)).mono ?_
        rintro e w10 ⟨rfl, b10⟩
        rw [show decide (del A kA = L) = true by simpa using HAL.out]
        have B10 := Lib.hid (B9.out.trans (b10.mono B9.out.size))
        clear b10
        go_wp2_with fail
        go_ret
        exact ⟨rfl, B10.out⟩
end Go.Proofs.Ytgmcmpnopdgnmaa

import Derived.Test.YtcnafgelfkfekaaE15
namespace Go.Proofs.Ytcnafgelfkfekaa
open Go.RowKit

theorem holds_nil (w : World) : Holds w (.slice none 0 0) [] := ⟨none, 0, rfl, ⟨rfl, fun k hk => absurd hk (Nat.not_lt_zero k)⟩, Nat.le_refl _, Nat.zero_le _, fun _ => ⟨rfl, rfl⟩⟩
set_option maxRecDepth 10000 in
set_option maxHeartbeats 4000000 in
theorem sorts_good (a : Option Addr) (len cap : Nat) (L : List ByteArray) (s : ByteArray) (w : World) (hv : SView w a len L) (hlen : len ≤ 100) (hs : Short L) :
    Calls Try.prog 8 #[.slice a len cap, .string s] w fun e w' => e = .returned (.bool true) ∧ Below w.heap.size w w' := by
  have HV := Lib.hid hv
  have HL : Hid (L.length = len) := Lib.hid hv.1
  have HS := Lib.hid hs
  have hlm : len ≤ maxLen := by unfold maxLen; omega
  have HLM := Lib.hid hlm
  clear hv hs hlm
  go_enter Try.func8, Try.ntmps8
  go_wp2_with fail
  refine (alive_true _).mono ?_
  rintro e w1 ⟨rfl, b1⟩
  have B1 := Lib.hid b1
  clear b1
  go_wp2_with fail
  refine (great_any a len cap L _ (HV.out.below B1.out) HLM.out HS.out).mono ?_
  rintro e w2 ⟨⟨g, rfl⟩, b2⟩
  have B2 : Hid (Below w.heap.size w w2) := Lib.hid (B1.out.trans (b2.mono B1.out.size))
  clear b2
  cases g with
  | true =>
    go_wp2_with fail
    go_ret
    exact ⟨rfl, B2.out⟩
  | false =>
    go_wp2_with fail
    refine (sort_ok9 a len cap L _ (HV.out.below B2.out) (by omega)).mono ?_
    rintro e w3 ⟨va, rfl, hha, b3⟩
    have B3 : Hid (Below w.heap.size w w3) := Lib.hid (B2.out.trans (b3.mono B2.out.size))
    obtain ⟨aA, cA, rfl, hvA, hlA, hmA, hnA⟩ := hha
    have HVL := Lib.hid (HV.out.below B3.out)
    have hSL := sort_len L
    obtain ⟨n, hn⟩ : ∃ n, (sortL L).length = n := ⟨_, rfl⟩
    rw [hn] at hvA hlA hSL hnA ⊢
    have hnl : n ≤ 100 := by have := HL.out; omega
    have HN := Lib.hid hn
    have HVA := Lib.hid hvA
    have HLA := Lib.hid hlA
    have HMA := Lib.hid hmA
    have HNA := Lib.hid hnA
    clear b3 hvA hlA hmA hnA hSL hn
    go_wp2_with fail
    go_loopg [8, 9, 10] len (fun f b has i wr => ∃ (k : Nat) (M : List ByteArray) (hb : Bool), f + k = len ∧ i = .int .i64 k ∧ Holds wr b M ∧ chE M = 0 ∧ M.length ≤ k ∧ (∀ o, inL M o ↔ ∃ j, j < k ∧ nth L j = o) ∧ has = .bool hb ∧ (hb = true ↔ ∃ j, j < k ∧ nth L j = s) ∧ Below w3.heap.size w3 wr)
    case atStart =>
      refine ⟨0, [], false, rfl, rfl, holds_nil _, rfl, Nat.le_refl _, fun o => ⟨?_, ?_⟩, rfl, ⟨fun h => by (cases h), ?_⟩, Below.refl _ _⟩
      · rintro ⟨j, hj, _⟩; exact absurd hj (Nat.not_lt_zero j)
      · rintro ⟨j, hj, _⟩; exact absurd hj (Nat.not_lt_zero j)
      · rintro ⟨j, hj, _⟩; exact absurd hj (Nat.not_lt_zero j)
    case round =>
      obtain ⟨k, M, hb, hf, rfl, hh, hc, hml, hin, rfl, hbs, hbw⟩ := hrel
      have HF := Lib.hid hf
      have HC := Lib.hid hc
      have HIN := Lib.hid hin
      have HBS := Lib.hid hbs
      have HBW := Lib.hid hbw
      obtain ⟨aM, cM, rfl, hvM, hlM, hmM, hnM⟩ := hh
      obtain ⟨m, hm⟩ : ∃ m, M.length = m := ⟨_, rfl⟩
      rw [hm] at hvM hlM hnM hml ⊢
      have HVM := Lib.hid hvM
      have HLM2 := Lib.hid hlM
      have HMM := Lib.hid hmM
      have HNM := Lib.hid hnM
      have HML := Lib.hid hm
      clear hc hin hbs hbw hvM hlM hmM hnM hm
      cases gk with
      | zero =>
        obtain rfl : k = len := by omega
        have HALL : Hid (∀ o, inL M o ↔ inL L o) := Lib.hid (fun o => by
          rw [HIN.out o]
          unfold inL
          rw [HL.out])
        have HMS : Hid (M = sortL L) := Lib.hid (sort_uniq (by rw [HL.out]; omega) HC.out HALL.out)
        clear hf
        go_wp2_with fail
        refine (sort_ok9 aA n cA (sortL L) _ (HVA.out.below HBW.out) (by omega)).mono ?_
        rintro e w4 ⟨vc, rfl, hhc, b4⟩
        have B4 : Hid (Below w3.heap.size w3 w4) := Lib.hid (HBW.out.trans (b4.mono HBW.out.size))
        have HVM4 := Lib.hid (HVM.out.below b4)
        rw [sort_idem L (by rw [HL.out]; omega)] at hhc
        obtain ⟨aC, cC, rfl, hvC, _, _, _⟩ := hhc
        rw [HN.out] at hvC ⊢
        have HVC := Lib.hid hvC
        clear b4 hvC
        obtain ⟨ka, is, hat⟩ := at_some (sort_ok L (by rw [HL.out]; omega)) s
        have HIS : Hid (is = hb) := Lib.hid (by
          rw [Bool.eq_iff_iff, at_iff hat, HBS.out]
          have := HALL.out s
          rw [HMS.out] at this
          have h2 : inL (sortL L) s ↔ ∃ j, j < (sortL L).length ∧ nth (sortL L) j = s := Iff.rfl
          rw [← h2, this]
          unfold inL
          rw [HL.out])
        have HAT := Lib.hid hat
        have HCH := Lib.hid (sort_ok L (by rw [HL.out]; omega))
        clear hat
        go_wp2_with fail
        refine (findOfD aA n cA ka is (sortL L) s _ (HVA.out.below B4.out) HCH.out HAT.out).mono ?_
        rintro e w5 ⟨rfl, b5⟩
        have B5 : Hid (Below w3.heap.size w3 w5) := Lib.hid (B4.out.trans (b5.mono B4.out.size))
        have HVM5 := Lib.hid (HVM4.out.below b5)
        have HVC5 := Lib.hid (HVC.out.below b5)
        clear b5
        rw [HIS.out]
        go_wp2_with fail
        refine (same_any aA aM n m cA cM (sortL L) M _ (HVA.out.below B5.out) HVM5.out (by unfold maxLen; omega)).mono ?_
        rintro e w6 ⟨rfl, b6⟩
        rw [show decide (sortL L = M) = true from decide_eq_true HMS.out.symm]
        have B6 : Hid (Below w3.heap.size w3 w6) := Lib.hid (B5.out.trans (b6.mono B5.out.size))
        have HVC6 := Lib.hid (HVC5.out.below b6)
        clear b6
        go_wp2_with fail
        refine (same_any aA aC n n cA cC (sortL L) (sortL L) _ (HVA.out.below B6.out) HVC6.out (by unfold maxLen; omega)).mono ?_
        rintro e w7 ⟨rfl, b7⟩
        rw [show decide (sortL L = sortL L) = true from decide_eq_true rfl]
        have B7 : Hid (Below w3.heap.size w3 w7) := Lib.hid (B6.out.trans (b7.mono B6.out.size))
        clear b7
        go_wp2_with fail
        go_ret
        exact ⟨ret_bool (by simp), B3.out.trans (B7.out.mono B3.out.size)⟩
      | succ f =>
        have hk : k < len := by omega
        have hk' : (k : Int) < (len : Int) := by omega
        obtain ⟨b, off, rfl, hbb, hcc⟩ := (HVL.out.below HBW.out).2 k hk
        obtain ⟨x, hx⟩ : ∃ x, x = nth L k := ⟨_, rfl⟩
        rw [← hx] at hcc
        have HX := Lib.hid hx
        have HCC := Lib.hid hcc
        have HBB := Lib.hid hbb
        clear hx hbb hf
        go_wp2_with fail
        refine (put_all aM m cM M x _ HVM.out HLM2.out HMM.out (fun e => (HNM.out e).2) (by omega) HC.out).mono ?_
        rintro e w4 ⟨v4, M4, rfl, hh4, hp4, b4⟩
        have B4 : Hid (Below w3.heap.size w3 w4) := Lib.hid (HBW.out.trans (b4.mono HBW.out.size))
        have hcc4 := (b4.cell (p := ⟨b, off + k, none⟩) HBB.out).trans HCC.out
        have HH4 := Lib.hid hh4
        have HP4 := Lib.hid hp4
        clear b4 hh4 hp4 hcc
        have HIN2 : Hid (∀ o, inL M4 o ↔ ∃ j, j < k + 1 ∧ nth L j = o) := Lib.hid (fun o => by
          rw [HP4.out.2.2 o, HIN.out o]
          constructor
          · rintro (e | ⟨j, hj, e⟩)
            · exact ⟨k, Nat.lt_succ_self k, by rw [e, HX.out]⟩
            · exact ⟨j, by omega, e⟩
          · rintro ⟨j, hj, e⟩
            by_cases ejk : j = k
            · left; rw [← e, ejk, HX.out]
            · right; exact ⟨j, by omega, e⟩)
        have HML4 : Hid (M4.length ≤ k + 1) := Lib.hid (by have := HP4.out.2.1; have := HML.out; omega)
        have hse := str_eq x s
        cases hb
        · by_cases hxs : x = s
          · have g1 : (x.toList == s.toList) = true := by rw [hse]; simpa using hxs
            have HBS2 : Hid (∃ j, j < k + 1 ∧ nth L j = s) := Lib.hid ⟨k, Nat.lt_succ_self k, by rw [← HX.out, hxs]⟩
            clear hse hxs
            go_wp2_with fail
            go_roundg f
            case rel => exact ⟨k + 1, M4, true, by have := HF.out; omega, by go_num, HH4.out, HP4.out.1, HML4.out, HIN2.out, rfl, ⟨fun _ => HBS2.out, fun _ => rfl⟩, B4.out⟩
            case measure => omega
          · have g1 : (x.toList == s.toList) = false := by rw [hse]; simpa using hxs
            have HBS2 : Hid (false = true ↔ ∃ j, j < k + 1 ∧ nth L j = s) := Lib.hid ⟨fun h => by (cases h), fun ⟨j, hj, e⟩ => by
              by_cases ejk : j = k
              · exact absurd (by rw [HX.out, ← ejk, e]) hxs
              · exact HBS.out.2 ⟨j, by omega, e⟩⟩
            clear hse hxs
            go_wp2_with fail
            go_roundg f
            case rel => exact ⟨k + 1, M4, false, by have := HF.out; omega, by go_num, HH4.out, HP4.out.1, HML4.out, HIN2.out, rfl, HBS2.out, B4.out⟩
            case measure => omega
        · have HBS2 : Hid (∃ j, j < k + 1 ∧ nth L j = s) := Lib.hid (by
            obtain ⟨j, hj, e⟩ := HBS.out.1 rfl
            exact ⟨j, by omega, e⟩)
          clear hse
          go_wp2_with fail
          go_roundg f
          case rel => exact ⟨k + 1, M4, true, by have := HF.out; omega, by go_num, HH4.out, HP4.out.1, HML4.out, HIN2.out, rfl, ⟨fun _ => HBS2.out, fun _ => rfl⟩, B4.out⟩
          case measure => omega
theorem sorts_many (a : Option Addr) (len cap : Nat) (L : List ByteArray) (s : ByteArray) (w : World) (hv : SView w a len L) (hm : len ≤ maxLen) (hs : Short L) (hl : 100 < len) :
    Calls Try.prog 8 #[.slice a len cap, .string s] w fun e w' => e = .returned (.bool true) ∧ Below w.heap.size w w' := by
  have HV := Lib.hid hv
  have HS := Lib.hid hs
  have HLM := Lib.hid hm
  clear hv hs hm
  go_enter Try.func8, Try.ntmps8
  go_wp2_with fail
  refine (alive_true _).mono ?_
  rintro e w1 ⟨rfl, b1⟩
  have B1 := Lib.hid b1
  clear b1
  go_wp2_with fail
  refine (great_any a len cap L _ (HV.out.below B1.out) HLM.out HS.out).mono ?_
  rintro e w2 ⟨⟨g, rfl⟩, b2⟩
  have B2 : Hid (Below w.heap.size w w2) := Lib.hid (B1.out.trans (b2.mono B1.out.size))
  clear b2
  cases g with
  | true =>
    go_wp2_with fail
    go_ret
    exact ⟨rfl, B2.out⟩
  | false =>
    go_wp2_with fail
    go_ret
    exact ⟨rfl, B2.out⟩
end Go.Proofs.Ytcnafgelfkfekaa

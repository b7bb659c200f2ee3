import Derived.Test.YtgmcmpnopdgnmaaE11
namespace Go.Proofs.Ytgmcmpnopdgnmaa
open Go.RowKit

theorem puts_many (a : Option Addr) (len cap : Nat) (L : List ByteArray) (s o : ByteArray) (w : World) (hv : SView w a len L) (hm : len ≤ maxLen) (hs : Short L) (hl : 100 < len) :
    Calls Try.prog 7 #[.slice a len cap, .string s, .string o] w fun e w' => e = .returned (.bool true) ∧ Below w.heap.size w w' := by
  have HV := Lib.hid hv
  have HS := Lib.hid hs
  have HM := Lib.hid hm
  clear hv hs hm
  have hl2 : (100 : Int) < (len : Int) := by omega
  go_enter Try.func7, Try.ntmps7
  go_wp2_with fail
  refine (alive_true _).mono ?_
  rintro e w1 ⟨rfl, b1⟩
  have B1 := Lib.hid b1
  clear b1
  go_wp2_with fail
  refine (great_any a len cap L _ (HV.out.below B1.out) HM.out HS.out).mono ?_
  rintro e w2 ⟨⟨g, rfl⟩, b2⟩
  have B2 := Lib.hid (B1.out.trans (b2.mono B1.out.size))
  clear b2
  cases g with
  | true =>
    go_wp2_with fail
    go_ret
    exact ⟨rfl, B2.out⟩
  | false =>
    go_wp2_with fail
    go_ret
    exact ⟨rfl, B2.out⟩

theorem puts_bad (a : Option Addr) (len cap : Nat) (L : List ByteArray) (s o : ByteArray) (w : World) (hv : SView w a len L) (hs : Short L) (hl : len ≤ 100) (hc : chE L ≠ 0) :
    Calls Try.prog 7 #[.slice a len cap, .string s, .string o] w fun e w' => e = .returned (.bool true) ∧ Below w.heap.size w w' := by
  have HV := Lib.hid hv
  have HS := Lib.hid hs
  have HM : Hid (len ≤ maxLen) := Lib.hid (by unfold maxLen; omega)
  have HC := Lib.hid hc
  have hne : (chE L != 0) = true := by simpa using hc
  obtain ⟨E, hE⟩ : ∃ E, chE L = E := ⟨_, rfl⟩
  rw [hE] at hne
  have HE := Lib.hid hE
  clear hv hs hc hE
  go_enter Try.func7, Try.ntmps7
  go_wp2_with fail
  refine (alive_true _).mono ?_
  rintro e w1 ⟨rfl, b1⟩
  have B1 := Lib.hid b1
  clear b1
  go_wp2_with fail
  refine (great_any a len cap L _ (HV.out.below B1.out) HM.out HS.out).mono ?_
  rintro e w2 ⟨⟨g, rfl⟩, b2⟩
  have B2 := Lib.hid (B1.out.trans (b2.mono B1.out.size))
  clear b2
  cases g with
  | true =>
    go_wp2_with fail
    go_ret
    exact ⟨rfl, B2.out⟩
  | false =>
    go_wp2_with fail
    refine (put_bad a len cap L s _ (HV.out.below B2.out) HC.out).mono ?_
    rintro e w3 ⟨rfl, b3⟩
    rw [HE.out]
    have B3 := Lib.hid (B2.out.trans (b3.mono B2.out.size))
    clear b3
    go_wp2_with fail
    refine (check_any a len cap L _ (HV.out.below B3.out)).mono ?_
    rintro e w4 ⟨rfl, b4⟩
    rw [HE.out]
    have B4 := Lib.hid (B3.out.trans (b4.mono B3.out.size))
    clear b4
    go_wp2_with fail
    go_ret
    exact ⟨rfl, B4.out⟩

theorem puts0 (a : Option Addr) (len cap : Nat) (L : List ByteArray) (s o : ByteArray) (w : World) (hv : SView w a len L) (hlc : len ≤ cap) (hcm : cap ≤ maxLen) (hnil : a = none → cap = 0) (hs : Short L) :
    Calls Try.prog 7 #[.slice a len cap, .string s, .string o] w fun e w' => e = .returned (.bool true) ∧ Below w.heap.size w w' := by
  by_cases hl : 100 < len
  · exact puts_many a len cap L s o w hv (by omega) hs hl
  by_cases hc' : ¬ chE L = 0
  · exact puts_bad a len cap L s o w hv hs (by omega) hc'
  have hc : chE L = 0 := Classical.not_not.1 hc'
  have hL := hv.1
  obtain ⟨k, is, hat⟩ := at_some hc s
  obtain ⟨ko, iso, hato⟩ := at_some hc o
  cases is with
  | true =>
    have hk := (hat.2.2.1 rfl).1
    obtain ⟨b, off, rfl, _, _⟩ := hv.2 k (by omega)
    exact puts_good _ len cap k ko true iso L L s o w hv (by omega) hs hc hat hato (fun w' hv' => put_had b off len cap k L s w' hv' (by omega) hc hat) k ko hc (by omega) hat (fun _ => hato) ⟨iso, hato⟩ (.inl ⟨rfl, rfl⟩)
  | false =>
    have hk := hat.1
    have hcA := insL_ok hc (by omega) hat
    obtain ⟨kAo, i', hAo⟩ := at_some hcA o
    have hlA := insL_len (s := s) hk
    refine puts_good a len cap k ko false iso L (insL L s k) s o w hv (by omega) hs hc hat hato ?_ k kAo hcA (by omega) (at_insL hat) (fun ho => ?_) ⟨i', hAo⟩ (.inr ⟨rfl, del_insL hk⟩)
    · intro w' hv'
      by_cases hz : len = 0
      · subst hz
        have h0 : L = [] := List.length_eq_zero_iff.1 hL
        subst h0
        obtain rfl : k = 0 := by simpa using hk
        exact put_empty a cap s w' hnil
      · obtain ⟨b, off, rfl, _, _⟩ := hv'.2 0 (by omega)
        exact put_new b off len cap k L s w' hv' hlc hcm (by omega) (by omega) hc (fun w'' hv'' => findD _ len cap k false L s w'' hv'' hc hat) (by omega)
    · have := at_same hato hAo (insL_has hk ho)
      rw [← this]; exact hAo

def IsStrs (w : World) (a : Option Addr) (len cap : Nat) (ss : List ByteArray) : Prop :=
  (a = none ∧ len = 0 ∧ cap = 0 ∧ ss = []) ∨
  ∃ x, a = some x ∧ len ≤ cap ∧ cap ≤ maxLen ∧ ss.length = cap ∧ (∀ i, i < ss.length → w.cell? (x.add i) = some (.string (ss.getD i ByteArray.empty))) ∧ ∀ s ∈ ss, s.size ≤ maxLen
theorem nth_take (ss : List ByteArray) (len k : Nat) (hk : k < len) : nth (ss.take len) k = ss.getD k ByteArray.empty := by
  simp [nth, List.getD, hk]; rfl
theorem puts_walk (a : Option Addr) (len cap : Nat) (ss : List ByteArray) (s o : ByteArray) (w : World) (h : IsStrs w a len cap ss) (_ : s.size ≤ maxLen) (_ : o.size ≤ maxLen) :
    Calls Try.prog 7 #[.slice a len cap, .string s, .string o] w fun e w' => e = .returned (.bool true) ∧ Below w.heap.size w w' := by
  rcases h with ⟨rfl, rfl, rfl, rfl⟩ | ⟨x, rfl, hl, hm, hz, hc, hsz⟩
  · exact puts0 none 0 0 [] s o w ⟨rfl, fun k hk => by omega⟩ (Nat.le_refl _) (Nat.zero_le _) (fun _ => rfl) (fun j => by rw [show nth [] j = ⟨#[]⟩ by simp [nth], show (⟨#[]⟩ : ByteArray).size = 0 from rfl]; omega)
  · refine puts0 (some x) len cap (ss.take len) s o w ⟨by simp; omega, fun k hk => ?_⟩ hl hm (fun h => by simp at h) (fun j => ?_)
    · obtain ⟨b, off, spot⟩ := x
      have h0 := hc 0 (by omega)
      have hspot : spot = none := by simpa [Addr.add] using World.cell?_spot h0
      subst hspot
      have hk' := hc k (by omega)
      rw [Addr.add_lit] at hk'
      exact ⟨b, off, rfl, World.block_lt_of_cell? _ _ hk', by rw [hk', nth_take _ _ _ hk]⟩
    · by_cases hj : j < (ss.take len).length
      · have hm' : nth (ss.take len) j ∈ ss := by
          have : nth (ss.take len) j = (ss.take len)[j] := by simp only [nth, List.getD, List.getElem?_eq_getElem hj, Option.getD_some]
          rw [this]
          exact List.mem_of_mem_take (List.getElem_mem hj)
        have := hsz _ hm'
        unfold maxLen at this; omega
      · have : nth (ss.take len) j = ⟨#[]⟩ := by
          unfold nth
          rw [List.getD, List.getElem?_eq_none (by omega)]; rfl
        rw [this, show (⟨#[]⟩ : ByteArray).size = 0 from rfl]; omega
end Go.Proofs.Ytgmcmpnopdgnmaa

/- Layer 3: CellPutBack. -/
import Derived.Test.YtfmgkndljppffaaE0
namespace Go.Proofs.Ytfmgkndljppffaa
open Go.RowKit Go.Maps
/-- What stands in cells that come in. -/
def KM (n : Nat) (g : Nat → CR) : Prop := ∀ i, i < n → (g i).k < 256 ∧ -9223372036854775808 ≤ (g i).m ∧ (g i).m ≤ 9223372036854775807
theorem cw_gr {n most : Nat} {g : Nat → CR} (h : KM n g) (k : grP g n most = false) : CW n g := fun i hi => by
  obtain ⟨k1, k2⟩ := (gr_small k).2 i hi
  obtain ⟨h1, h2, h3⟩ := h i hi
  exact ⟨h1, by unfold maxLen; omega, by omega, h2, h3⟩
theorem great_at (most : Nat) (mv : Int) (hmv : mv = (most : Nat)) (hm : most ≤ 1000000) (a : Option Addr) (n cap : Nat) (g : Nat → CR) (w : World) (hv : CV w a n g) (hn : n ≤ maxLen) (b : Bool) (hb : grP g n most = b) : Calls Try.prog 13 #[.slice a n cap, .int .i64 mv] w fun r w' => r = .returned (.bool b) ∧ w' = w := by
  subst hb
  exact great_any a n cap most mv hmv g w hv hn hm
theorem pre_pos (k ln : Nat) (s : Nat → ByteArray) (len : Nat → Nat) (G : Nat → Nat → CR) : 0 < (preL k ln s len G ln).length := Nat.succ_pos _
set_option maxRecDepth 20000 in
set_option maxHeartbeats 4000000 in
theorem putback_true (na : Option Addr) (nn nc : Nat) (s : Nat → ByteArray) (la : Option Addr) (ln lc : Nat) (ad : Nat → Option Addr) (len cp : Nat → Nat) (G : Nat → Nat → CR) (w : World) (hnv : NV w na nn s) (hsz : ∀ i, i < nn → (s i).size ≤ maxLen) (_ : nn ≤ nc) (_ : nc ≤ maxLen) (hin : LIn w la ln ad len cp G) (hkm : ∀ i, i < ln → KM (len i) (G i)) (hq : ∀ i, i < ln → len i ≤ cp i ∧ cp i ≤ maxLen ∧ (ad i = none → len i = 0 ∧ cp i = 0)) (_ : ln ≤ lc) (_ : lc ≤ maxLen) (_ : la = none → ln = 0 ∧ lc = 0) :
    Calls Try.prog 6 #[.slice na nn nc, .slice la ln lc] w fun e w' => e = .returned (.bool true) ∧ Below w.heap.size w w' := by
  have hlen : ∀ i, i < ln → len i ≤ maxLen := fun i hi => Nat.le_trans (hq i hi).1 (hq i hi).2.1
  clear hq
  have HA := Lib.hid (fun W => alive_true W)
  by_cases hl : 20 < ln
  · have h1 : (20 : Int) < (ln : Int) := by omega
    clear hl hin hkm hlen hnv hsz
    go_enter Try.func6, Try.ntmps6
    go_wp2_with fail
    with_reducible refine (HA.out _).mono ?_
    rintro e w1 ⟨rfl, b1⟩
    go_wp2_with fail
    go_ret
    exact ⟨rfl, b1⟩
  have h1 : ¬ (20 : Int) < (ln : Int) := by omega
  by_cases hn : 100 < nn
  · have h2 : (100 : Int) < (nn : Int) := by omega
    clear hl hin hkm hlen hnv hsz hn
    go_enter Try.func6, Try.ntmps6
    go_wp2_with fail
    with_reducible refine (HA.out _).mono ?_
    rintro e w1 ⟨rfl, b1⟩
    go_wp2_with fail
    go_ret
    exact ⟨rfl, b1⟩
  have h2 : ¬ (100 : Int) < (nn : Int) := by omega
  have HG := Lib.hid (fun i (hi : i < ln) W (hv : CV W (ad i) (len i) (G i)) b hb => great_at 100 100 rfl (by decide) (ad i) (len i) (cp i) (G i) W hv (hlen i hi) b hb)
  have HCW := Lib.hid (fun i (hi : i < ln) (hg : grP (G i) (len i) 100 = false) => cw_gr (hkm i hi) hg)
  obtain ⟨z1, hz1⟩ : ∃ z, z = gE 6 ln s len G := ⟨_, rfl⟩
  obtain ⟨z2, hz2⟩ : ∃ z, z = mE nn ln s len G := ⟨_, rfl⟩
  obtain ⟨L6, hL6⟩ : ∃ L, L = preL 6 ln s len G ln := ⟨_, rfl⟩
  obtain ⟨L7, hL7⟩ : ∃ L, L = preL 7 ln s len G ln := ⟨_, rfl⟩
  have hp6 : 0 < L6.length := by rw [hL6]; exact pre_pos _ _ _ _ _
  have hp7 : 0 < L7.length := by rw [hL7]; exact pre_pos _ _ _ _ _
  have HI : Hid (∀ W, LIn W la ln ad len cp G → (∀ i, i < ln → CW (len i) (G i)) → Calls Try.prog 28 #[.slice la ln lc] W (GP W z1 L6)) := Lib.hid (fun W h hc => by
    rw [hz1, hL6]; exact items_any la ln lc s ad len cp G W h hc)
  have HM : Hid (∀ W, LIn W la ln ad len cp G → NV W na nn s → (∀ i, i < ln → CW (len i) (G i)) → Calls Try.prog 30 #[.slice na nn nc, .slice la ln lc] W (GP W z2 L7)) := Lib.hid (fun W h hn hc => by
    rw [hz2, hL7]; exact members_any na la nn nc ln lc s ad len cp G W h hc hn hsz)
  have HH6 : Hid (z1 = 0 → ∀ va vcap W, CV W va L6.length (gl L6) → L6.length ≤ vcap → LIn W la ln ad len cp G → (∀ i, i < ln → CW (len i) (G i)) → Calls Try.prog 32 #[.slice va L6.length vcap, .slice la ln lc, .slice none 0 0] W fun e w' => e = .returned (.bool true) ∧ Below W.heap.size W w') := Lib.hid (fun h0 va vcap W hv hc h hcw => by
    rw [hz1] at h0
    obtain ⟨k1, k2, k3⟩ := gE_ok h0
    rw [hL6] at hv hc ⊢
    exact holds_true 6 (.inl rfl) va none la vcap 0 0 ln lc s ad len cp G W k1 k2 k3 hv hc hcw (fun q => by cases q) h (.inl ⟨rfl, rfl⟩))
  have HH7 : Hid (z2 = 0 → ∀ va vcap W, CV W va L7.length (gl L7) → L7.length ≤ vcap → LIn W la ln ad len cp G → NV W na nn s → (∀ i, i < ln → CW (len i) (G i)) → Calls Try.prog 32 #[.slice va L7.length vcap, .slice la ln lc, .slice na nn nc] W fun e w' => e = .returned (.bool true) ∧ Below W.heap.size W w') := Lib.hid (fun h0 va vcap W hv hc h hnv hcw => by
    rw [hz2] at h0
    unfold mE at h0
    by_cases he : nn = ln
    · rw [if_pos he] at h0
      subst he
      obtain ⟨k1, k2, k3⟩ := gE_ok h0
      rw [hL7] at hv hc ⊢
      exact holds_true 7 (.inr rfl) va na la vcap nn nc nn lc s ad len cp G W k1 k2 k3 hv hc hcw (fun _ => hsz) h (.inr ⟨rfl, rfl, hnv⟩)
    · rw [if_neg he] at h0; cases h0)
  have HIN := Lib.hid hin
  have HNV := Lib.hid hnv
  clear hz1 hz2 hL6 hL7 hin hnv hkm hlen hsz
  go_enter Try.func6, Try.ntmps6
  go_wp2_with fail
  with_reducible refine (HA.out _).mono ?_
  rintro e w1 ⟨rfl, b1⟩
  have B1 := Lib.hid b1
  have I1 := Lib.hid (HIN.out.below b1)
  have N1 := Lib.hid (HNV.out.below b1)
  clear b1 HIN HNV HA
  go_wp2_with fail
  go_loop [6] (fun v6 => ∃ i : Nat, i ≤ ln ∧ v6 = .int .i64 i ∧ Hid (∀ j, j < i → grP (G j) (len j) 100 = false)) (fun v6 => ln - (intOf v6).toNat)
  case atStart => exact ⟨0, Nat.zero_le _, rfl, Lib.hid (fun j hj => by omega)⟩
  case round =>
    obtain ⟨i, hi, rfl, HN⟩ := hrel
    by_cases h3 : i < ln
    · have hg1 : (i : Int) < ln := by omega
      have hg0 : (0 : Int) ≤ i := by omega
      obtain ⟨b, off, rfl, _, cl⟩ := I1.out.at_ i h3
      cases hgr : grP (G i) (len i) 100 with
      | true =>
        have HG1 := Lib.hid (HG.out i h3 w1 (I1.out.cv i h3) _ hgr)
        clear hgr HN
        go_wp2_with fail
        with_reducible refine HG1.out.mono ?_
        rintro e w2 ⟨rfl, hq1⟩
        have hq2 := hq1.symm
        clear hq1
        subst hq2
        go_wp2_with fail
        go_ret
        exact ⟨rfl, B1.out⟩
      | false =>
        have HG1 := Lib.hid (HG.out i h3 w1 (I1.out.cv i h3) _ hgr)
        have HN2 : Hid (∀ j, j < i + 1 → grP (G j) (len j) 100 = false) := Lib.hid (fun j hj => by
          by_cases e : j = i
          · subst e; exact hgr
          · exact HN.out j (by omega))
        clear hgr HN
        go_wp2_with fail
        with_reducible refine HG1.out.mono ?_
        rintro e w2 ⟨rfl, hq1⟩
        have hq2 := hq1.symm
        clear hq1
        subst hq2
        go_wp2_with fail
        go_round
        case rel => exact ⟨i + 1, by omega, by go_num, HN2⟩
        case measure => simp [intOf]; omega
    · have e1 : i = ln := by omega
      subst e1
      have hge : ¬ (i : Int) < i := by omega
      have HC : Hid (∀ j, j < i → CW (len j) (G j)) := Lib.hid (fun j hj => HCW.out j hj (HN.out j hj))
      clear HN HCW HG h3 hi
      go_wp2_with fail
      with_reducible refine (HI.out w1 I1.out HC.out).mono ?_
      rintro e w3 ⟨v1, rfl, g1, g2, b3⟩
      have B3 := Lib.hid (B1.out.trans (b3.mono B1.out.size))
      have I3 := Lib.hid (I1.out.below b3)
      have N3 := Lib.hid (N1.out.below b3)
      clear b3 B1 I1 N1 HI
      by_cases hz1 : z1 = 0
      · obtain ⟨q1, c1, rfl, hc1, v3, _, _⟩ := own_cvc rfl (g2 hz1) hp6
        have V3 := Lib.hid v3
        subst hz1
        replace HH6 := Lib.hid (HH6.out rfl)
        clear v3 g1 g2
        go_wp2_with fail
        with_reducible refine (HM.out w3 I3.out N3.out HC.out).mono ?_
        rintro e w4 ⟨v2, rfl, m1, m2, b4⟩
        have B4 := Lib.hid (B3.out.trans (b4.mono B3.out.size))
        have I4 := Lib.hid (I3.out.below b4)
        have N4 := Lib.hid (N3.out.below b4)
        have V4 := Lib.hid (V3.out.below b4)
        clear B3 I3 N3 HM
        by_cases hz2 : z2 = 0
        · obtain ⟨q2, c2, rfl, hc2, v4, _, _⟩ := own_cvc rfl (m2 hz2) hp7
          have W4 := Lib.hid v4
          subst hz2
          replace HH7 := Lib.hid (HH7.out rfl)
          clear v4 m1 m2 b4
          go_wp2_with fail
          with_reducible refine (HH6.out _ _ w4 V4.out hc1 I4.out HC.out).mono ?_
          rintro e w5 ⟨rfl, b5⟩
          have B5 := Lib.hid (B4.out.trans (b5.mono B4.out.size))
          have I5 := Lib.hid (I4.out.below b5)
          have N5 := Lib.hid (N4.out.below b5)
          have W5 := Lib.hid (W4.out.below b5)
          clear b5 B4 I4 N4
          go_wp2_with fail
          with_reducible refine (HH7.out _ _ w5 W5.out hc2 I5.out N5.out HC.out).mono ?_
          rintro e w6 ⟨rfl, b6⟩
          have B6 := Lib.hid (B5.out.trans (b6.mono B5.out.size))
          clear b6
          go_wp2_with fail
          go_ret
          exact ⟨rfl, B6.out⟩
        · have he2 := m1 hz2
          subst he2
          have hy1 : (z2 != 0) = true := by simpa using hz2
          have hy2 : (z2 == 0) = false := by rw [beq_eq_false_iff_ne]; exact hz2
          clear m1 m2 b4 hz2
          go_wp2_with fail
          with_reducible refine (HH6.out _ _ w4 V4.out hc1 I4.out HC.out).mono ?_
          rintro e w5 ⟨rfl, b5⟩
          have B5 := Lib.hid (B4.out.trans (b5.mono B4.out.size))
          have I5 := Lib.hid (I4.out.below b5)
          have N5 := Lib.hid (N4.out.below b5)
          clear b5 B4 I4 N4
          go_wp2_with fail
          go_ret
          exact ⟨rfl, B5.out⟩
      · have he1 := g1 hz1
        subst he1
        have hx1 : (z1 != 0) = true := by simpa using hz1
        have hx2 : (z1 == 0) = false := by rw [beq_eq_false_iff_ne]; exact hz1
        clear g1 g2 hz1
        go_wp2_with fail
        with_reducible refine (HM.out w3 I3.out N3.out HC.out).mono ?_
        rintro e w4 ⟨v2, rfl, m1, m2, b4⟩
        have B4 := Lib.hid (B3.out.trans (b4.mono B3.out.size))
        have I4 := Lib.hid (I3.out.below b4)
        have N4 := Lib.hid (N3.out.below b4)
        clear B3 I3 N3 HM
        by_cases hz2 : z2 = 0
        · obtain ⟨q2, c2, rfl, hc2, v4, _, _⟩ := own_cvc rfl (m2 hz2) hp7
          have W4 := Lib.hid v4
          subst hz2
          replace HH7 := Lib.hid (HH7.out rfl)
          clear v4 m1 m2 b4
          go_wp2_with fail
          with_reducible refine (HH7.out _ _ w4 W4.out hc2 I4.out N4.out HC.out).mono ?_
          rintro e w6 ⟨rfl, b6⟩
          have B6 := Lib.hid (B4.out.trans (b6.mono B4.out.size))
          clear b6
          go_wp2_with fail
          go_ret
          exact ⟨rfl, B6.out⟩
        · have he2 := m1 hz2
          subst he2
          have hy1 : (z2 != 0) = true := by simpa using hz2
          have hy2 : (z2 == 0) = false := by rw [beq_eq_false_iff_ne]; exact hz2
          clear m1 m2 b4 hz2
          go_wp2_with fail
          go_ret
          exact ⟨rfl, B4.out⟩
end Go.Proofs.Ytfmgkndljppffaa

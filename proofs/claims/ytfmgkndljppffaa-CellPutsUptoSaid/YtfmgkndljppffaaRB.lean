/- Layer 3: CellTells. -/
import Derived.Test.YtfmgkndljppffaaRA
namespace Go.Proofs.Ytfmgkndljppffaa
open Go.RowKit Go.Maps
theorem own_cvx {w : World} {B n : Nat} {v : Value} {L : List CR} (hl : L.length = n) (h : w.ownsRow B 32 5 v n (rw5 L)) : ∃ ad cap, v = .slice ad n cap ∧ n ≤ cap ∧ CV w ad n (gl L) ∧ (ad = none → n = 0 ∧ cap = 0) := by
  rcases h.2 with ⟨rfl, hn⟩ | ⟨q, cap, cur, rfl, hg, hgg, h1, h2, h3, h4⟩
  · subst hn
    exact ⟨none, 0, rfl, Nat.le_refl _, fun i hi => by omega, fun _ => ⟨rfl, rfl⟩⟩
  · exact ⟨some ⟨q, 0, none⟩, cap, rfl, h1, cv_of hl (Array.getElem?_eq_some_iff.1 hgg).1 (fun j hj => h.cellAt j hj), fun e => by cases e⟩
theorem CV.ext {w : World} {a : Option Addr} {n : Nat} {g g' : Nat → CR} (h : CV w a n g) (e : ∀ i, i < n → g i = g' i) : CV w a n g' := fun i hi => by rw [← e i hi]; exact h i hi
theorem own_cvg {w : World} {B n : Nat} {a : Option Addr} {c : Nat} {g : Nat → CR} (h : w.ownsRow B 32 5 (.slice a n c) n (rw5 (cut g 0 n))) : CV w a n g := by
  obtain ⟨ad, cap, e, _, hv, _⟩ := own_cvx (by rw [cut_len, Nat.sub_zero]) h
  cases e
  exact hv.ext (fun i hi => by rw [cut_at g 0 n i (by omega), Nat.zero_add])
theorem own_far {w w' : World} {B B2 s s2 n n2 : Nat} {e e2 : TypeId} {v v2 : Value} {x x2 : List Value} (h1 : w.ownsRow B e s v n x) (h2 : w'.ownsRow B2 e2 s2 v2 n2 x2) (hb : w.heap.size ≤ B2) : v.ownBlock = none ∨ v.ownBlock ≠ v2.ownBlock := by
  rcases h1.2 with ⟨rfl, _⟩ | ⟨q, cap, cur, rfl, _, hg, _⟩
  · exact .inl rfl
  · rcases h2.2 with ⟨rfl, _⟩ | ⟨q', cap', cur', rfl, hq', _⟩
    · exact .inr (by simp [Value.ownBlock])
    · refine .inr fun ee => ?_
      simp only [Value.ownBlock, Option.some.injEq] at ee
      have := (Array.getElem?_eq_some_iff.1 hg).1
      omega
theorem apart_symm {a b : Option Nat} (h : a = none ∨ a ≠ b) : b = none ∨ b ≠ a := by
  cases b with
  | none => exact .inl rfl
  | some q => exact .inr (fun e => by rcases h with h | h; (rw [h] at e; cases e); exact h e.symm)
theorem below_spoil {W w w' : World} {B s n : Nat} {e : TypeId} {v : Value} {x : List Value} (hb : Below W.heap.size W w) (ho : w.ownsRow B e s v n x) (hB : W.heap.size ≤ B) (hg : w.grownBy w' v.ownBlock) : Below W.heap.size W w' :=
  hb.grown hg hb.size (fun q hq => Nat.le_trans hB (ho.lt q hq).1)
theorem gr_yes {n : Nat} {g : Nat → CR} {most : Nat} (hkm : KM n g) (hm : most ≤ 1000000) (k : grP g n most = false) : Sm n g ∧ n ≤ most := by
  obtain ⟨k1, k2⟩ := gr_small k
  exact ⟨⟨cw_gr hkm k, fun i hi => by have := (k2 i hi).1; omega, by unfold maxLen; omega⟩, k1⟩
set_option maxRecDepth 20000 in
set_option maxHeartbeats 8000000 in
theorem tells_true (a : Option Addr) (n cap : Nat) (g : Nat → CR) (a2 : Option Addr) (n2 cap2 : Nat) (g2 : Nat → CR) (p : Int) (s : ByteArray) (w : World) (hv : CV w a n g) (hkm : KM n g) (hlc : n ≤ cap) (hcm : cap ≤ maxLen) (hnn : a = none → n = 0 ∧ cap = 0) (hv2 : CV w a2 n2 g2) (hkm2 : KM n2 g2) (hlc2 : n2 ≤ cap2) (hcm2 : cap2 ≤ maxLen) (_ : a2 = none → n2 = 0 ∧ cap2 = 0) (_ : -9223372036854775808 ≤ p) (_ : p ≤ 9223372036854775807) (hsz : s.size ≤ maxLen) :
    Calls Try.prog 4 #[.slice a n cap, .slice a2 n2 cap2, .int .i64 p, .string s] w fun e w' => e = .returned (.bool true) ∧ Below w.heap.size w w' := by
  have hnm : n ≤ maxLen := Nat.le_trans hlc hcm
  have hnm2 : n2 ≤ maxLen := Nat.le_trans hlc2 hcm2
  unfold maxLen at hsz
  have hszi : (s.size : Int) ≤ 9223372036854775807 := by omega
  have HV := Lib.hid hv
  have HV2 := Lib.hid hv2
  cases hgr : grP g n 200 with
  | true =>
    have HG := Lib.hid (great_at 200 200 rfl (by decide) a n cap g w hv hnm true hgr)
    clear hgr hv hv2 hkm hkm2 hlc hcm hlc2 hcm2
    go_enter Try.func4, Try.ntmps4
    go_wp2_with fail
    with_reducible refine (HG.out).mono ?_
    rintro e w2 ⟨rfl, hq1⟩
    have hq2 := hq1.symm
    clear hq1
    subst hq2
    go_wp2_with fail
    go_ret
    exact ⟨rfl, Below.refl _ _⟩
  | false =>
  have HG := Lib.hid (great_at 200 200 rfl (by decide) a n cap g w hv hnm false hgr)
  cases hgr2 : grP g2 n2 200 with
  | true =>
    have HG2 := Lib.hid (great_at 200 200 rfl (by decide) a2 n2 cap2 g2 w hv2 hnm2 true hgr2)
    clear hgr hgr2 hv hv2 hkm hkm2 hlc hcm hlc2 hcm2
    go_enter Try.func4, Try.ntmps4
    go_wp2_with fail
    with_reducible refine (HG.out).mono ?_
    rintro e w2 ⟨rfl, hq1⟩
    have hq2 := hq1.symm
    clear hq1
    subst hq2
    go_wp2_with fail
    with_reducible refine (HG2.out).mono ?_
    rintro e w2 ⟨rfl, hq1⟩
    have hq2 := hq1.symm
    clear hq1
    subst hq2
    go_wp2_with fail
    go_ret
    exact ⟨rfl, Below.refl _ _⟩
  | false =>
  have HG2 := Lib.hid (great_at 200 200 rfl (by decide) a2 n2 cap2 g2 w hv2 hnm2 false hgr2)
  by_cases hs3 : 300 < s.size
  · have hs3i : (300 : Int) < s.size := by omega
    clear hgr hgr2 hv hv2 hkm hkm2 hlc hcm hlc2 hcm2 hs3
    go_enter Try.func4, Try.ntmps4
    go_wp2_with fail
    with_reducible refine (HG.out).mono ?_
    rintro e w2 ⟨rfl, hq1⟩
    have hq2 := hq1.symm
    clear hq1
    subst hq2
    go_wp2_with fail
    with_reducible refine (HG2.out).mono ?_
    rintro e w2 ⟨rfl, hq1⟩
    have hq2 := hq1.symm
    clear hq1
    subst hq2
    go_wp2_with fail
    go_ret
    exact ⟨rfl, Below.refl _ _⟩
  have hs3i : ¬ (300 : Int) < s.size := by omega
  obtain ⟨S1, hn200⟩ := gr_yes hkm (by decide) hgr
  obtain ⟨S2, hn200b⟩ := gr_yes hkm2 (by decide) hgr2
  have HT := Lib.hid (fun W (hV : CV W a n g) => rtwin_any a n cap g W hV (by omega) hnn)
  unfold TwinPost at HT
  obtain ⟨eI, heI⟩ : ∃ x, x = enI g n p := ⟨_, rfl⟩
  obtain ⟨z, hz⟩ : ∃ x, x = plE g n p := ⟨_, rfl⟩
  obtain ⟨kn, hkn⟩ : ∃ x, x = knN g n p := ⟨_, rfl⟩
  obtain ⟨kf, hkf⟩ : ∃ x, x = bd g n (p.toNat + 1) := ⟨_, rfl⟩
  obtain ⟨mN, hmN⟩ : ∃ x, x = (memP g n p s).getD 0 := ⟨_, rfl⟩
  obtain ⟨mB, hmB⟩ : ∃ x, x = (memP g n p s).isSome := ⟨_, rfl⟩
  obtain ⟨SU, hSU⟩ : ∃ x, x = suL g n p := ⟨_, rfl⟩
  obtain ⟨sl, hsl⟩ : ∃ x, x = SU.length := ⟨_, rfl⟩
  obtain ⟨ce, hce⟩ : ∃ x, x = eC (ckC g n) := ⟨_, rfl⟩
  obtain ⟨pb, hpb⟩ : ∃ x, x = plnB g n := ⟨_, rfl⟩
  obtain ⟨sb, hsb⟩ : ∃ x, x = smB g n g2 n2 := ⟨_, rfl⟩
  have HE1 : Hid (∀ a c W, CV W a n g → Calls Try.prog 15 #[.slice a n c, .int .i64 p] W (fun r w' => r = .returned (.tuple #[.int .i64 eI, .int .i64 z]) ∧ Below W.heap.size W w')) := Lib.hid (fun a c W hV => by rw [heI, hz]; exact end_both a n c g p W hV S1)
  have HE2 : Hid (∀ a c W, CV W a n g → Calls Try.prog 16 #[.slice a n c, .int .i64 p] W (fun r w' => r = .returned (.tuple #[.int .i64 eI, .int .i64 z]) ∧ Below W.heap.size W w')) := Lib.hid (fun a c W hV => by rw [heI, hz]; exact rend_both a n c g p W hV S1)
  have HK1 : Hid (∀ a c W, CV W a n g → Calls Try.prog 8 #[.slice a n c, .int .i64 p] W (fun r w' => ∃ ad c, r = .returned (.tuple #[.slice ad kn c, .int .i64 z]) ∧ IV w' ad kn kf ∧ Below W.heap.size W w')) := Lib.hid (fun a c W hV => by rw [hkn, hz, hkf]; exact kids_both a n c g p W hV S1)
  have HK2 : Hid (∀ a c W, CV W a n g → Calls Try.prog 17 #[.slice a n c, .int .i64 p] W (fun r w' => ∃ ad c, r = .returned (.tuple #[.slice ad kn c, .int .i64 z]) ∧ IV w' ad kn kf ∧ Below W.heap.size W w')) := Lib.hid (fun a c W hV => by rw [hkn, hz, hkf]; exact rkids_both a n c g p W hV S1)
  have HM1 : Hid (∀ a c W, CV W a n g → Calls Try.prog 10 #[.slice a n c, .int .i64 p, .string s] W (fun r w' => r = .returned (.tuple #[.int .i64 (mN : Nat), .bool mB]) ∧ Below W.heap.size W w')) := Lib.hid (fun a c W hV => by rw [hmN, hmB]; exact member_any a n c g p s W hV S1.cw)
  have HM2 : Hid (∀ a c W, CV W a n g → Calls Try.prog 18 #[.slice a n c, .int .i64 p, .string s] W (fun r w' => r = .returned (.tuple #[.int .i64 (mN : Nat), .bool mB]) ∧ Below W.heap.size W w')) := Lib.hid (fun a c W hV => by rw [hmN, hmB]; exact rmember_any a n c g p s W hV S1)
  have HS1 : Hid (∀ a c W, CV W a n g → n ≤ c → Calls Try.prog 19 #[.slice a n c, .int .i64 p] W (fun r w' => ∃ v, r = .returned (.tuple #[v, .int .i64 z]) ∧ w'.ownsRow W.heap.size 32 5 v sl (rw5 SU) ∧ Below W.heap.size W w')) := Lib.hid (fun a c W hV hc => by rw [hsl, hSU, hz]; exact sub_both a n c g p W hV S1 hc)
  have HS2 : Hid (∀ a c W, CV W a n g → n ≤ c → Calls Try.prog 20 #[.slice a n c, .int .i64 p] W (fun r w' => ∃ v, r = .returned (.tuple #[v, .int .i64 z]) ∧ w'.ownsRow W.heap.size 32 5 v sl (rw5 SU) ∧ Below W.heap.size W w')) := Lib.hid (fun a c W hV hc => by rw [hsl, hSU, hz]; exact rsub_both a n c g p W hV S1 hc)
  have HC1 : Hid (∀ a c W, CV W a n g → Calls Try.prog 11 #[.slice a n c] W (fun r w' => r = .returned (.int .i64 ce) ∧ Below W.heap.size W w')) := Lib.hid (fun a c W hV => by rw [hce]; exact cCheck_any a n c g W hV S1.cw)
  have HC2 : Hid (∀ a c W, CV W a n g → Calls Try.prog 22 #[.slice a n c] W (fun r w' => r = .returned (.int .i64 ce) ∧ Below W.heap.size W w')) := Lib.hid (fun a c W hV => by rw [hce]; exact rcheck_any a n c g W hV S1)
  have HP1 : Hid (∀ a c W, CV W a n g → Calls Try.prog 23 #[.slice a n c] W (fun r w' => r = .returned (.bool pb) ∧ Below W.heap.size W w')) := Lib.hid (fun a c W hV => by rw [hpb]; exact plain_any a n c g W hV S1)
  have HP2 : Hid (∀ a c W, CV W a n g → Calls Try.prog 24 #[.slice a n c] W (fun r w' => r = .returned (.bool pb) ∧ Below W.heap.size W w')) := Lib.hid (fun a c W hV => by rw [hpb]; exact rplain_any a n c g W hV S1)
  have HZ1 : Hid (∀ a c b c2 W, CV W a n g → CV W b n2 g2 → Calls Try.prog 25 #[.slice a n c, .slice b n2 c2] W (fun r w' => r = .returned (.bool sb) ∧ Below W.heap.size W w')) := Lib.hid (fun a c b c2 W h1 h2 => by rw [hsb]; exact csame_any a b n n2 c c2 g g2 W h1 h2 hnm)
  have HZ2 : Hid (∀ a c b c2 W, CV W a n g → CV W b n2 g2 → Calls Try.prog 21 #[.slice a n c, .slice b n2 c2] W (fun r w' => r = .returned (.bool sb) ∧ Below W.heap.size W w')) := Lib.hid (fun a c b c2 W h1 h2 => by rw [hsb]; exact rsame_any a b n n2 c c2 g g2 W h1 h2 hnm)
  have HY1 : Hid (∀ a c b c2 W, CV W a n g → CV W b n g → Calls Try.prog 25 #[.slice a n c, .slice b n c2] W (fun r w' => r = .returned (.bool true) ∧ Below W.heap.size W w')) := Lib.hid (fun a c b c2 W h1 h2 => by
    have h := csame_any a b n n c c2 g g W h1 h2 hnm
    rw [sm_yes (fun _ _ => rfl)] at h
    exact h)
  have HY2 : Hid (∀ a c b c2 W, CV W a n g → CV W b n g → Calls Try.prog 21 #[.slice a n c, .slice b n c2] W (fun r w' => r = .returned (.bool true) ∧ Below W.heap.size W w')) := Lib.hid (fun a c b c2 W h1 h2 => by
    have h := rsame_any a b n n c c2 g g W h1 h2 hnm
    rw [sm_yes (fun _ _ => rfl)] at h
    exact h)
  have hsl2 : sl ≤ 1000000 := by
    rw [hsl, hSU]
    unfold suL
    split
    · rename_i h0
      obtain ⟨hc, h1, h2⟩ := pl_zero h0
      rw [ren_len, cut_len]
      have := (ck_at hc (p := p.toNat) (by omega)).2
      omega
    · exact Nat.zero_le _
  have HY3 : Hid (∀ a c b c2 W, CV W a sl (gl SU) → CV W b sl (gl SU) → Calls Try.prog 21 #[.slice a sl c, .slice b sl c2] W (fun r w' => r = .returned (.bool true) ∧ Below W.heap.size W w')) := Lib.hid (fun a c b c2 W h1 h2 => by
    have h := rsame_any a b sl sl c c2 (gl SU) (gl SU) W h1 h2 (by unfold maxLen; omega)
    rw [sm_yes (fun _ _ => rfl)] at h
    exact h)
  have HT1 : Hid (∀ a c W, CV W a n g → (a = none → n = 0 ∧ c = 0) → Calls Try.prog 26 #[.slice a n c] W (fun r w' => ∃ v, r = .returned v ∧ w'.ownsRow W.heap.size 32 5 v n (rw5 (cut g 0 n)) ∧ Below W.heap.size W w')) := Lib.hid (fun a c W hV hc => twin_any a n c g W hV (by omega) hc)
  have hknb : kn ≤ 2048 := by
    rw [hkn]
    unfold knN
    split
    · rename_i h0
      obtain ⟨hc, h1, h2⟩ := pl_zero h0
      exact (parts_facts hc (q := p.toNat) (by omega)).2.2.2.1
    · exact Nat.zero_le _
  have HSL := Lib.hid hsl
  have HCAP := Lib.hid hlc
  have HCL : Hid ((cut g 0 n).length = n) := Lib.hid (by rw [cut_len, Nat.sub_zero])
  have hkn2 : (kn : Int) ≤ 2048 := by omega
  have q1 : (eI == eI) = true := by simp
  have q2 : (z == z) = true := by simp
  have q3 : ((kn : Int) == kn) = true := by simp
  have q4 : ((mN : Int) == mN) = true := by simp
  have q5 : (mB == mB) = true := by simp
  have q6 : (ce == ce) = true := by simp
  have q7 : (pb == pb) = true := by simp
  have q8 : (sb == sb) = true := by simp
  have hn6 : n ≤ 1000000 := by omega
  clear hgr hgr2 hv hv2 hkm hkm2 hlc hcm hlc2 hcm2 hs3 heI hz hkn hkf hmN hmB hSU hsl hce hpb hsb S1 S2 hnm hnm2 hn200 hn200b hnn
  go_enter Try.func4, Try.ntmps4
  go_wp2_with fail
  with_reducible refine (HG.out).mono ?_
  rintro e w2 ⟨rfl, hq1⟩
  have hq2 := hq1.symm
  clear hq1
  subst hq2
  go_wp2_with fail
  with_reducible refine (HG2.out).mono ?_
  rintro e w2 ⟨rfl, hq1⟩
  have hq2 := hq1.symm
  clear hq1
  subst hq2
  go_wp2_with fail
  with_reducible refine (HT.out w (HV.out.below (Below.refl w.heap.size w))).mono ?_
  rintro e w1 ⟨v9, rfl, o9, b1⟩
  have B1 := Lib.hid ((Below.refl w.heap.size w).trans (b1.mono (Below.refl w.heap.size w).size))
  obtain ⟨oa, oc, rfl, hoc, _, hon⟩ := own_cvx HCL.out o9
  have O1 := Lib.hid o9
  have HQ9 := Lib.hid o9
  clear o9
  clear b1
  go_wp2_with fail
  with_reducible refine (HE1.out _ _ w1 (own_cvg O1.out)).mono ?_
  rintro e w2 ⟨rfl, b2⟩
  have B2 := Lib.hid (B1.out.trans (b2.mono B1.out.size))
  have O2 := Lib.hid (own_below O1.out b2)
  clear b2
  go_wp2_with fail
  with_reducible refine (HE2.out _ _ w2 (HV.out.below B2.out)).mono ?_
  rintro e w3 ⟨rfl, b3⟩
  have B3 := Lib.hid (B2.out.trans (b3.mono B2.out.size))
  have O3 := Lib.hid (own_below O2.out b3)
  clear b3
  go_wp2_with fail
  with_reducible refine (HK1.out _ _ w3 (own_cvg O3.out)).mono ?_
  rintro e w4 ⟨ka, kc, rfl, iv1, b4⟩
  have B4 := Lib.hid (B3.out.trans (b4.mono B3.out.size))
  have O4 := Lib.hid (own_below O3.out b4)
  have I4 := Lib.hid iv1
  clear iv1
  clear b4
  go_wp2_with fail
  with_reducible refine (HK2.out _ _ w4 (HV.out.below B4.out)).mono ?_
  rintro e w5 ⟨ka2, kc2, rfl, iv2, b5⟩
  have B5 := Lib.hid (B4.out.trans (b5.mono B4.out.size))
  have O5 := Lib.hid (own_below O4.out b5)
  have I5 := Lib.hid (I4.out.below b5)
  have J5 := Lib.hid iv2
  clear iv2
  clear b5
  go_wp2_with fail
  with_reducible refine (HM1.out _ _ w5 (own_cvg O5.out)).mono ?_
  rintro e w6 ⟨rfl, b6⟩
  have B6 := Lib.hid (B5.out.trans (b6.mono B5.out.size))
  have O6 := Lib.hid (own_below O5.out b6)
  have I6 := Lib.hid (I5.out.below b6)
  have J6 := Lib.hid (J5.out.below b6)
  clear b6
  go_wp2_with fail
  with_reducible refine (HM2.out _ _ w6 (HV.out.below B6.out)).mono ?_
  rintro e w7 ⟨rfl, b7⟩
  have B7 := Lib.hid (B6.out.trans (b7.mono B6.out.size))
  have O7 := Lib.hid (own_below O6.out b7)
  have I7 := Lib.hid (I6.out.below b7)
  have J7 := Lib.hid (J6.out.below b7)
  clear b7
  go_wp2_with fail
  with_reducible refine (HS1.out _ _ w7 (own_cvg O7.out) hoc).mono ?_
  rintro e w8 ⟨vx, rfl, ox, b8⟩
  have B8 := Lib.hid (B7.out.trans (b8.mono B7.out.size))
  have O8 := Lib.hid (own_below O7.out b8)
  have I8 := Lib.hid (I7.out.below b8)
  have J8 := Lib.hid (J7.out.below b8)
  have X8 := Lib.hid ox
  obtain ⟨xa, xc, rfl, _, _, _⟩ := own_cvx HSL.out.symm ox
  have HX0 := Lib.hid (show w.heap.size ≤ w7.heap.size from B7.out.size)
  have FX := Lib.hid (own_far O7.out ox (Nat.le_refl _))
  clear ox
  clear b8
  go_wp2_with fail
  with_reducible refine (HS2.out _ _ w8 (HV.out.below B8.out) HCAP.out).mono ?_
  rintro e w9 ⟨vy, rfl, oy, b9⟩
  have B9 := Lib.hid (B8.out.trans (b9.mono B8.out.size))
  have O9 := Lib.hid (own_below O8.out b9)
  have I9 := Lib.hid (I8.out.below b9)
  have J9 := Lib.hid (J8.out.below b9)
  have X9 := Lib.hid (own_below X8.out b9)
  have Y9 := Lib.hid oy
  obtain ⟨ya, yc, rfl, _, _, _⟩ := own_cvx HSL.out.symm oy
  clear oy
  clear b9
  have cx : CV w9 xa sl (gl SU) := by
    obtain ⟨_, _, e, _, hv, _⟩ := own_cvx HSL.out.symm X9.out
    cases e
    exact hv
  have cy : CV w9 ya sl (gl SU) := by
    obtain ⟨_, _, e, _, hv, _⟩ := own_cvx HSL.out.symm Y9.out
    cases e
    exact hv
  have CX := Lib.hid cx
  have CY := Lib.hid cy
  clear cx cy
  go_wp2_with fail
  with_reducible refine (HY3.out _ _ _ _ w9 CX.out CY.out).mono ?_
  rintro e w10 ⟨rfl, b10⟩
  have B10 := Lib.hid (B9.out.trans (b10.mono B9.out.size))
  have O10 := Lib.hid (own_below O9.out b10)
  have I10 := Lib.hid (I9.out.below b10)
  have J10 := Lib.hid (J9.out.below b10)
  have X10 := Lib.hid (own_below X9.out b10)
  clear b10
  clear CX CY HE1 HE2 HK1 HK2 HM1 HM2 HS1 HS2 HY3
  go_wp2_with fail
  go_loopw [26, 27] (fun v26 v27 wr => ∃ i : Nat, i ≤ kn ∧ v26 = .bool true ∧ v27 = .int .i64 i ∧ Hid (Below w10.heap.size w10 wr)) (fun _ v27 _ => kn - (intOf v27).toNat)
  case atStart => exact ⟨0, Nat.zero_le _, rfl, rfl, Lib.hid (Below.refl _ _)⟩
  case round =>
    obtain ⟨i, hi, rfl, rfl, HB⟩ := hrel
    by_cases hlt : i < kn
    · obtain ⟨ib, io, rfl, _, ci⟩ := (I10.out.below HB.out) i hlt
      obtain ⟨jb, jo, rfl, _, cj⟩ := (J10.out.below HB.out) i hlt
      have hi0 : (0 : Int) ≤ i := by omega
      have hi1 : (i : Int) < kn := by omega
      obtain ⟨y, hy⟩ : ∃ y, y = kf i := ⟨_, rfl⟩
      rw [← hy] at ci cj
      have hyy : ((y : Int) == y) = true := by simp
      clear hy
      go_wp2_with fail
      go_quiet (fail)
      go_wp2_with fail
      go_roundw
      case rel => exact ⟨i + 1, by omega, rfl, by go_num, Lib.hid (below_drewN0 HB.out _)⟩
      case measure => simp [intOf]; omega
    · have e1 : i = kn := by omega
      subst e1
      have hge : ¬ ((i : Int) < i) := by omega
      have B11 := Lib.hid (B10.out.trans (HB.out.mono B10.out.size))
      have O11 := Lib.hid (own_below O10.out HB.out)
      have X11 := Lib.hid (own_below X10.out HB.out)
      clear HB O10 X10 I10 J10
      obtain ⟨w11, hwr⟩ : ∃ x, x = wr := ⟨_, rfl⟩
      rw [← hwr] at B11 O11 X11 ⊢
      clear hwr
      go_wp2_with fail
      with_reducible refine (HC1.out _ _ w11 (own_cvg O11.out)).mono ?_
      rintro e w12 ⟨rfl, b12⟩
      have B12 := Lib.hid (B11.out.trans (b12.mono B11.out.size))
      have O12 := Lib.hid (own_below O11.out b12)
      have X12 := Lib.hid (own_below X11.out b12)
      clear b12
      go_wp2_with fail
      with_reducible refine (HC2.out _ _ w12 (HV.out.below B12.out)).mono ?_
      rintro e w13 ⟨rfl, b13⟩
      have B13 := Lib.hid (B12.out.trans (b13.mono B12.out.size))
      have O13 := Lib.hid (own_below O12.out b13)
      have X13 := Lib.hid (own_below X12.out b13)
      clear b13
      go_wp2_with fail
      with_reducible refine (HP1.out _ _ w13 (own_cvg O13.out)).mono ?_
      rintro e w14 ⟨rfl, b14⟩
      have B14 := Lib.hid (B13.out.trans (b14.mono B13.out.size))
      have O14 := Lib.hid (own_below O13.out b14)
      have X14 := Lib.hid (own_below X13.out b14)
      clear b14
      go_wp2_with fail
      with_reducible refine (HP2.out _ _ w14 (HV.out.below B14.out)).mono ?_
      rintro e w15 ⟨rfl, b15⟩
      have B15 := Lib.hid (B14.out.trans (b15.mono B14.out.size))
      have O15 := Lib.hid (own_below O14.out b15)
      have X15 := Lib.hid (own_below X14.out b15)
      clear b15
      go_wp2_with fail
      with_reducible refine (HZ1.out _ _ _ _ w15 (own_cvg O15.out) (HV2.out.below B15.out)).mono ?_
      rintro e w16 ⟨rfl, b16⟩
      have B16 := Lib.hid (B15.out.trans (b16.mono B15.out.size))
      have O16 := Lib.hid (own_below O15.out b16)
      have X16 := Lib.hid (own_below X15.out b16)
      clear b16
      go_wp2_with fail
      with_reducible refine (HZ2.out _ _ _ _ w16 (HV.out.below B16.out) (HV2.out.below B16.out)).mono ?_
      rintro e w17 ⟨rfl, b17⟩
      have B17 := Lib.hid (B16.out.trans (b17.mono B16.out.size))
      have O17 := Lib.hid (own_below O16.out b17)
      have X17 := Lib.hid (own_below X16.out b17)
      clear b17
      go_wp2_with fail
      with_reducible refine (HY1.out _ _ _ _ w17 (own_cvg O17.out) (HV.out.below B17.out)).mono ?_
      rintro e w18 ⟨rfl, b18⟩
      have B18 := Lib.hid (B17.out.trans (b18.mono B17.out.size))
      have O18 := Lib.hid (own_below O17.out b18)
      have X18 := Lib.hid (own_below X17.out b18)
      clear b18
      go_wp2_with fail
      with_reducible refine (HT1.out _ _ w18 (own_cvg O18.out) hon).mono ?_
      rintro e w19 ⟨vt, rfl, ot, b19⟩
      have B19 := Lib.hid (B18.out.trans (b19.mono B18.out.size))
      have O19 := Lib.hid (own_below O18.out b19)
      have X19 := Lib.hid (own_below X18.out b19)
      have T19 := Lib.hid ot
      obtain ⟨ta, tc, rfl, _, _, _⟩ := own_cvx HCL.out ot
      have HT0 := Lib.hid (show w.heap.size ≤ w18.heap.size from B18.out.size)
      have FT := Lib.hid (own_far O18.out ot (Nat.le_refl _))
      have FXT := Lib.hid (own_far X18.out ot (Nat.le_refl _))
      clear ot
      clear b19
      go_wp2_with fail
      with_reducible refine (HY2.out _ _ _ _ w19 (own_cvg T19.out) (HV.out.below B19.out)).mono ?_
      rintro e w20 ⟨rfl, b20⟩
      have B20 := Lib.hid (B19.out.trans (b20.mono B19.out.size))
      have O20 := Lib.hid (own_below O19.out b20)
      have X20 := Lib.hid (own_below X19.out b20)
      have T20 := Lib.hid (own_below T19.out b20)
      clear b20
      have HP := Lib.hid (spoil_any _ _ _ _ w20 X20.out (Nat.le_trans hsl2 (by decide)))
      go_wp2_with fail
      with_reducible refine HP.out.mono ?_
      rintro e w21 ⟨rfl, g1⟩
      have B21 := Lib.hid (below_spoil B20.out X20.out HX0.out g1)
      have O21 := Lib.hid (O20.out.kept g1 FX.out)
      have T21 := Lib.hid (T20.out.kept g1 (apart_symm FXT.out))
      clear g1 HP
      have HP := Lib.hid (spoil_any _ _ _ _ w21 T21.out (Nat.le_trans hn6 (by decide)))
      go_wp2_with fail
      with_reducible refine HP.out.mono ?_
      rintro e w22 ⟨rfl, g1⟩
      have B22 := Lib.hid (below_spoil B21.out T21.out HT0.out g1)
      have O22 := Lib.hid (O21.out.kept g1 FT.out)
      clear g1 HP
      go_wp2_with fail
      with_reducible refine (HY2.out _ _ _ _ w22 (own_cvg O22.out) (HV.out.below B22.out)).mono ?_
      rintro e w23 ⟨rfl, b9⟩
      have BZ := Lib.hid (B22.out.trans (b9.mono B22.out.size))
      clear b9
      go_wp2_with fail
      go_ret
      exact ⟨rfl, BZ.out⟩
end Go.Proofs.Ytfmgkndljppffaa

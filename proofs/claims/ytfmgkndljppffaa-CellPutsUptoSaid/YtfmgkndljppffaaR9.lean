/- Layer 3: Kids, Member, Sub of both. -/
import Derived.Test.YtfmgkndljppffaaR8
namespace Go.Proofs.Ytfmgkndljppffaa
open Go.RowKit Go.Maps
def knN (g : Nat → CR) (n : Nat) (p : Int) : Nat := if plE g n p = 0 then (g p.toNat).m.toNat else 0
def KPost (W : World) (g : Nat → CR) (n : Nat) (p : Int) (r : Ending) (w' : World) : Prop := ∃ ad c, r = .returned (.tuple #[.slice ad (knN g n p) c, .int .i64 (plE g n p)]) ∧ IV w' ad (knN g n p) (bd g n (p.toNat + 1)) ∧ Below W.heap.size W w'
theorem KPost.bad {W w' : World} {g : Nat → CR} {n : Nat} {p z : Int} (hz : z = plE g n p) (h : z ≠ 0) (b : Below W.heap.size W w') : KPost W g n p (.returned (.tuple #[.slice none 0 0, .int .i64 z])) w' := by
  subst hz
  have e : knN g n p = 0 := by unfold knN; rw [if_neg h]
  exact ⟨none, 0, by rw [e], fun i hi => by rw [e] at hi; omega, b⟩
theorem KPost.good {W w' : World} {g : Nat → CR} {n p : Nat} {v : Value} {B : Nat} (h : plE g n (p : Nat) = 0) (ho : w'.ownsRow B 3 1 v (g p).m.toNat (bdL g n (p + 1) (g p).m.toNat)) (b : Below W.heap.size W w') : KPost W g n (p : Nat) (.returned (.tuple #[v, .int .i64 0])) w' := by
  obtain ⟨ad, c, rfl, iv, _⟩ := own_iv ho
  have e : knN g n (p : Nat) = (g p).m.toNat := by unfold knN; rw [if_pos h, Int.toNat_natCast]
  exact ⟨ad, c, by rw [e, h], by rw [e, Int.toNat_natCast]; exact iv, b⟩
theorem kids_both (a : Option Addr) (n cap : Nat) (g : Nat → CR) (p : Int) (w : World) (hv : CV w a n g) (hs : Sm n g) : Calls Try.prog 8 #[.slice a n cap, .int .i64 p] w (KPost w g n p) := by
  by_cases h : plE g n p = 0
  · obtain ⟨hc, h0, h1⟩ := pl_zero h
    obtain ⟨q, rfl⟩ : ∃ q : Nat, p = q := ⟨p.toNat, by omega⟩
    refine (kids_ok a n cap g q w hv hs.cw hc (by omega)).mono fun e w' ⟨ad, c, h2, h3, _, h4⟩ => ?_
    have e : knN g n (q : Nat) = (g q).m.toNat := by unfold knN; rw [if_pos h, Int.toNat_natCast]
    exact ⟨ad, c, by rw [h2, e, h], by rw [e, Int.toNat_natCast]; exact h3, h4⟩
  · exact (kids_bad a n cap g p w hv hs.cw h).mono fun e w' ⟨h2, h3⟩ => by rw [h2]; exact KPost.bad rfl h h3
set_option maxRecDepth 20000 in
theorem rkids_both (a : Option Addr) (n cap : Nat) (g : Nat → CR) (p : Int) (w : World) (hv : CV w a n g) (hs : Sm n g) : Calls Try.prog 17 #[.slice a n cap, .int .i64 p] w (KPost w g n p) := by
  have HA := Lib.hid (rasked_any a n cap g p w hv hs)
  by_cases h : plE g n p = 0
  · obtain ⟨hc, h0, h1⟩ := pl_zero h
    obtain ⟨q, rfl⟩ : ∃ q : Nat, p = q := ⟨p.toNat, by omega⟩
    have HB := Lib.hid (fun W (hV : CV W a n g) => runder_any a n cap g q _ W hV hs (ckC_parts hc).2.1 (ck_at hc (by omega)).1)
    rw [h] at HA
    have HV := Lib.hid hv
    have HG := Lib.hid h
    clear hv hs hc h h0 h1
    go_enter Try.func17, Try.ntmps17
    go_wp2_with fail
    with_reducible refine HA.out.mono ?_
    rintro e w1 ⟨rfl, b1⟩
    have B1 := Lib.hid b1
    clear b1 HA
    go_wp2_with fail
    with_reducible refine (HB.out w1 (HV.out.below B1.out)).mono ?_
    rintro e w2 ⟨v, rfl, o2, b2⟩
    have B2 := Lib.hid (B1.out.trans (b2.mono B1.out.size))
    have O2 := Lib.hid o2
    clear b2 HB o2
    go_wp2_with fail
    go_ret2
    exact KPost.good HG.out O2.out B2.out
  · obtain ⟨z, hz⟩ : ∃ z, z = plE g n p := ⟨_, rfl⟩
    rw [← hz] at HA h
    have hz0 : (z != 0) = true := by simpa using h
    have HH := Lib.hid h
    have HZ := Lib.hid hz
    clear hv hs h hz
    go_enter Try.func17, Try.ntmps17
    go_wp2_with fail
    with_reducible refine HA.out.mono ?_
    rintro e w1 ⟨rfl, b1⟩
    have B1 := Lib.hid b1
    clear b1 HA
    go_wp2_with fail
    go_ret2
    exact KPost.bad HZ.out HH.out B1.out
def ofO (g : Nat → CR) (n p : Nat) (s : ByteArray) : Option Nat := if (g p).k = 7 then mbF g s (bd g n (p + 1)) (g p).m.toNat else none
set_option maxRecDepth 20000 in
set_option maxHeartbeats 2000000 in
theorem rof_any (a : Option Addr) (n cap : Nat) (g : Nat → CR) (p : Nat) (s : ByteArray) (w : World) (hv : CV w a n g) (hs : Sm n g) (hc : ckC g n = true) (hp : p < n) : Calls Try.prog 44 #[.slice a n cap, .int .i64 (p : Nat), .string s] w fun r w' => r = .returned (.int .i64 (wkI (ofO g n p s))) ∧ Below w.heap.size w w' := by
  have hn := (ckC_parts hc).2.1
  have HU := Lib.hid (fun W (hV : CV W a n g) => runder_any a n cap g p _ W hV hs hn (ck_at hc hp).1)
  have HV := Lib.hid hv
  obtain ⟨b, off, rfl⟩ := hv.addr (by omega)
  have HBD := Lib.hid (fun i hi => wk_lt _ _ _ ((bd_chain _ _ _ (wk_open (Nat.le_refl _) (ck_at hc hp).1).2.2.2).1 i hi))
  have hmn : Hid ((g p).m.toNat ≤ 2048) := Lib.hid (by have h1 := Chain.le _ _ _ (wk_open (Nat.le_refl _) (ck_at hc hp).1).2.2.2; have h3 := (ck_at hc hp).2; omega)
  have hp0 : (0 : Int) ≤ p := by omega
  have hp1 : (p : Int) < n := by omega
  have hn2 : (n : Int) ≤ 2048 := by omega
  obtain ⟨x, hx⟩ : ∃ x, x = ofO g n p s := ⟨_, rfl⟩
  rw [← hx]
  replace hx := Lib.hid hx
  clear hc hv hs hn
  go_enter Try.func44, Try.ntmps44
  go_wp2_with fail
  with_reducible refine (HU.out w HV.out).mono ?_
  rintro e w2 ⟨v, rfl, o2, b2⟩
  obtain ⟨ad, c, rfl, iv, _⟩ := own_iv o2
  have B2 := Lib.hid b2
  have IV2 := Lib.hid iv
  have V2 := Lib.hid (HV.out.below b2)
  have k0 := (V2.out.at_ hp).2.1
  clear b2 iv o2 HU HV
  obtain ⟨m, hm⟩ : ∃ m, m = (g p).m.toNat := ⟨_, rfl⟩
  obtain ⟨f, hf⟩ : ∃ f, f = bd g n (p + 1) := ⟨_, rfl⟩
  rw [← hm, ← hf] at IV2 HBD
  have hx2 := hx.out
  unfold ofO at hx2
  rw [← hm, ← hf] at hx2
  rw [← hm] at hmn ⊢
  obtain ⟨kk, hkk⟩ : ∃ kk : Nat, kk = (g p).k := ⟨_, rfl⟩
  rw [← hkk] at hx2 k0
  have HX2 := Lib.hid hx2
  clear hm hf hkk hx hx2
  have hm1 : (m : Int) ≤ 2048 := by have := hmn.out; omega
  by_cases h7 : kk = 7
  · have g7 : ((kk : Int) == 7) = true := by rw [beq_iff_eq]; omega
    have HX3 : Hid (x = mbF g s f m) := Lib.hid (by rw [HX2.out, if_pos h7])
    clear HX2 h7
    by_cases h0 : m = 0
    · subst h0
      have HX : Hid (x = none) := Lib.hid (by rw [HX3.out]; exact mbF_none (fun j hj => by omega))
      go_wp2_with fail
      refine wp_loop_rounds 1 ?_
      rw [rounds_succ]
      go_wp2_with fail
      go_ret
      exact ⟨by rw [HX.out]; rfl, B2.out⟩
    · obtain ⟨b2, o2, rfl, _, _⟩ := IV2.out 0 (by omega)
      go_wp2_with fail
      go_loop [8] (fun v8 => ∃ i : Nat, i ≤ m ∧ v8 = .int .i64 i ∧ Hid (∀ j, j < i → (g (f j)).nm ≠ s)) (fun v8 => m - (intOf v8).toNat)
      case atStart => exact ⟨0, Nat.zero_le _, rfl, Lib.hid (fun j hj => by omega)⟩
      case round =>
        obtain ⟨i, hi, rfl, HN⟩ := hrel
        by_cases hlt : i < m
        · obtain ⟨b3, o3, e3, _, ci⟩ := IV2.out i hlt
          cases e3
          have hq := (HBD.out i hlt)
          have hfn : f i < n := by omega
          have cn := (V2.out.at_ hfn).2.2.1
          have hi0 : (0 : Int) ≤ i := by omega
          have hi1 : (i : Int) < m := by omega
          obtain ⟨y, hy⟩ : ∃ y, y = f i := ⟨_, rfl⟩
          obtain ⟨nm, hnm⟩ : ∃ nm, nm = (g (f i)).nm := ⟨_, rfl⟩
          rw [← hnm, ← hy] at cn
          rw [← hy] at ci
          have hy0 : (0 : Int) ≤ y := by omega
          have hy1 : (y : Int) < n := by omega
          by_cases he : nm = s
          · have HX : Hid (x = some y) := Lib.hid (by rw [HX3.out, hy]; exact mbF_some hlt HN.out (by rw [← hnm]; exact he))
            subst he
            clear hq hfn hy hnm HN HX3
            go_wp2_with fail
            go_ret
            exact ⟨by rw [HX.out]; rfl, B2.out⟩
          · have HN2 : Hid (∀ j, j < i + 1 → (g (f j)).nm ≠ s) := Lib.hid (fun j hj => by
              by_cases e : j = i
              · subst e; rw [← hnm]; exact he
              · exact HN.out j (by omega))
            have he2 : (nm.toList == s.toList) = false := by rw [str_is]; simpa using he
            clear hq hfn hy hnm HN he
            go_wp2_with fail
            go_round
            case rel => exact ⟨i + 1, by omega, by go_num, HN2⟩
            case measure => simp [intOf]; omega
        · have him : i = m := by omega
          subst him
          have HX : Hid (x = none) := Lib.hid (by rw [HX3.out]; exact mbF_none HN.out)
          have hge : ¬ ((i : Int) < i) := by omega
          clear HN HX3
          go_wp2_with fail
          go_ret
          exact ⟨by rw [HX.out]; rfl, B2.out⟩
  · have g7 : ((kk : Int) == 7) = false := by rw [beq_eq_false_iff_ne]; omega
    have HX : Hid (x = none) := Lib.hid (by rw [HX2.out, if_neg h7])
    clear HX2 h7
    by_cases h0 : m = 0
    · subst h0
      go_wp2_with fail
      refine wp_loop_rounds 1 ?_
      rw [rounds_succ]
      go_wp2_with fail
      go_ret
      exact ⟨by rw [HX.out]; rfl, B2.out⟩
    · have hi1 : (0 : Int) < m := by omega
      go_wp2_with fail
      refine wp_loop_rounds 1 ?_
      rw [rounds_succ]
      go_wp2_with fail
      go_ret
      exact ⟨by rw [HX.out]; rfl, B2.out⟩
set_option maxRecDepth 20000 in
theorem rmember_any (a : Option Addr) (n cap : Nat) (g : Nat → CR) (p : Int) (s : ByteArray) (w : World) (hv : CV w a n g) (hs : Sm n g) : Calls Try.prog 18 #[.slice a n cap, .int .i64 p, .string s] w fun r w' => r = .returned (.tuple #[.int .i64 ((memP g n p s).getD 0 : Nat), .bool (memP g n p s).isSome]) ∧ Below w.heap.size w w' := by
  have HA := Lib.hid (rasked_any a n cap g p w hv hs)
  by_cases h : plE g n p = 0
  · obtain ⟨hc, h0, h1⟩ := pl_zero h
    obtain ⟨q, rfl⟩ : ∃ q : Nat, p = q := ⟨p.toNat, by omega⟩
    have HB := Lib.hid (fun W (hV : CV W a n g) => rof_any a n cap g q s W hV hs hc (by omega))
    have hme : memP g n (q : Nat) s = ofO g n q s := by
      unfold memP ofO
      rw [Int.toNat_natCast]
      by_cases hk : (g q).k = 7
      · rw [if_pos ⟨h, hk⟩, if_pos hk]
      · rw [if_neg (fun k => hk k.2), if_neg hk]
    rw [hme]
    rw [h] at HA
    have HV := Lib.hid hv
    clear hme
    cases ho : ofO g n q s with
    | none =>
      rw [ho] at HB
      unfold wkI at HB
      clear hv hs hc h h0 h1 ho
      go_enter Try.func18, Try.ntmps18
      go_wp2_with fail
      with_reducible refine HA.out.mono ?_
      rintro e w1 ⟨rfl, b1⟩
      have B1 := Lib.hid b1
      clear b1 HA
      go_wp2_with fail
      with_reducible refine (HB.out w1 (HV.out.below B1.out)).mono ?_
      rintro e w2 ⟨rfl, b2⟩
      have B2 := Lib.hid (B1.out.trans (b2.mono B1.out.size))
      clear b2 HB
      go_wp2_with fail
      go_ret2
      exact ⟨rfl, B2.out⟩
    | some y =>
      rw [ho] at HB
      unfold wkI at HB
      have hy : ¬ ((y : Int) < 0) := by omega
      clear hv hs hc h h0 h1 ho
      go_enter Try.func18, Try.ntmps18
      go_wp2_with fail
      with_reducible refine HA.out.mono ?_
      rintro e w1 ⟨rfl, b1⟩
      have B1 := Lib.hid b1
      clear b1 HA
      go_wp2_with fail
      with_reducible refine (HB.out w1 (HV.out.below B1.out)).mono ?_
      rintro e w2 ⟨rfl, b2⟩
      have B2 := Lib.hid (B1.out.trans (b2.mono B1.out.size))
      clear b2
      go_wp2_with fail
      with_reducible refine (HB.out w2 (HV.out.below B2.out)).mono ?_
      rintro e w3 ⟨rfl, b3⟩
      have B3 := Lib.hid (B2.out.trans (b3.mono B2.out.size))
      clear b3 HB
      go_wp2_with fail
      go_ret2
      exact ⟨rfl, B3.out⟩
  · obtain ⟨z, hz⟩ : ∃ z, z = plE g n p := ⟨_, rfl⟩
    have hme : memP g n p s = none := by unfold memP; rw [if_neg (fun k => h k.1)]
    rw [hme]
    rw [← hz] at HA h
    have hz0 : (z != 0) = true := by simpa using h
    clear hv hs h hz hme
    go_enter Try.func18, Try.ntmps18
    go_wp2_with fail
    with_reducible refine HA.out.mono ?_
    rintro e w1 ⟨rfl, b1⟩
    have B1 := Lib.hid b1
    clear b1 HA
    go_wp2_with fail
    go_ret2
    exact ⟨rfl, B1.out⟩
/-- What Sub tells. -/
def suL (g : Nat → CR) (n : Nat) (p : Int) : List CR := if plE g n p = 0 then ren ⟨#[]⟩ (cut g p.toNat (nx g n p.toNat)) else []
def SPost (W : World) (g : Nat → CR) (n : Nat) (p : Int) (r : Ending) (w' : World) : Prop := ∃ v, r = .returned (.tuple #[v, .int .i64 (plE g n p)]) ∧ w'.ownsRow W.heap.size 32 5 v (suL g n p).length (rw5 (suL g n p)) ∧ Below W.heap.size W w'
theorem SPost.bad {W w' : World} {g : Nat → CR} {n : Nat} {p z : Int} (hz : z = plE g n p) (h : z ≠ 0) (b : Below W.heap.size W w') : SPost W g n p (.returned (.tuple #[.slice none 0 0, .int .i64 z])) w' := by
  subst hz
  have e : suL g n p = [] := by unfold suL; rw [if_neg h]
  exact ⟨_, rfl, by rw [e]; exact World.ownsRow_nil _ _ _ _, b⟩
theorem SPost.good {W w' : World} {g : Nat → CR} {n p : Nat} {v : Value} (h : plE g n (p : Nat) = 0) (ho : w'.ownsRow W.heap.size 32 5 v (nx g n p - p) (rw5 (ren ⟨#[]⟩ (cut g p (nx g n p))))) (b : Below W.heap.size W w') : SPost W g n (p : Nat) (.returned (.tuple #[v, .int .i64 0])) w' := by
  have e : suL g n (p : Nat) = ren ⟨#[]⟩ (cut g p (nx g n p)) := by unfold suL; rw [if_pos h, Int.toNat_natCast]
  exact ⟨v, by rw [h], by rw [e, ren_len, cut_len]; exact ho, b⟩
theorem sub_both (a : Option Addr) (n cap : Nat) (g : Nat → CR) (p : Int) (w : World) (hv : CV w a n g) (hs : Sm n g) (hcap : n ≤ cap) : Calls Try.prog 19 #[.slice a n cap, .int .i64 p] w (SPost w g n p) := by
  by_cases h : plE g n p = 0
  · obtain ⟨hc, h0, h1⟩ := pl_zero h
    obtain ⟨q, rfl⟩ : ∃ q : Nat, p = q := ⟨p.toNat, by omega⟩
    exact (sub_ok a n cap g q w hv hs.cw hc (by omega) hcap).mono fun e w' ⟨v, h2, h3, h4⟩ => by rw [h2]; exact SPost.good h h3 h4
  · exact (sub_bad a n cap g p w hv hs.cw h).mono fun e w' ⟨h2, h3⟩ => by rw [h2]; exact SPost.bad rfl h h3
set_option maxRecDepth 20000 in
theorem rcut_any (a : Option Addr) (n cap : Nat) (g : Nat → CR) (p : Nat) (w : World) (hv : CV w a n g) (hs : Sm n g) (hc : ckC g n = true) (hp : p < n) (hcap : n ≤ cap) : Calls Try.prog 45 #[.slice a n cap, .int .i64 (p : Nat)] w fun r w' => ∃ v, r = .returned v ∧ w'.ownsRow w.heap.size 32 5 v (nx g n p - p) (rw5 (ren ⟨#[]⟩ (cut g p (nx g n p)))) ∧ Below w.heap.size w w' := by
  have hlt := wk_lt _ _ _ (ck_at hc hp).1
  have hn := (ckC_parts hc).2.1
  have HS := Lib.hid (fun W (hV : CV W a n g) => behind_top (cap := cap) hs.cw hs.nz hn p W hV (by omega))
  rw [(ck_at hc hp).1] at HS
  unfold wkI at HS
  have HV := Lib.hid hv
  obtain ⟨b, off, rfl⟩ := hv.addr (by omega)
  have HT := Lib.hid (fun w1 (hv1 : CV w1 (some ⟨b, off, none⟩) n g) => rtwin_any (some ⟨b, off + p * 5, none⟩) (nx g n p - p) (cap - p) (fun i => g (p + i)) w1 (hv1.part p _ hlt.2) (by omega) (fun e => by cases e))
  unfold TwinPost at HT
  rw [cut_part g p (nx g n p)] at HT
  have HL : Hid ((cut g p (nx g n p)).length = nx g n p - p) := Lib.hid (by rw [cut_len])
  obtain ⟨x, hx⟩ : ∃ x, x = nx g n p := ⟨_, rfl⟩
  rw [← hx] at HS HT hlt HL ⊢
  have hi0 : (0 : Int) ≤ p := by omega
  have hi1 : (p : Int) ≤ x := by omega
  have hi2 : (x : Int) ≤ cap := by omega
  have hi3 : (0 : Int) ≤ x := by omega
  have hxp : 0 < x - p := by omega
  have hi4 : (0 : Int) < ((x - p : Nat) : Int) := by omega
  clear hx hc hp hv hs hlt hn
  go_enter Try.func45, Try.ntmps45
  go_wp2_with fail
  with_reducible refine (HS.out w HV.out).mono ?_
  rintro e w1 ⟨rfl, b1⟩
  have B1 := Lib.hid b1
  clear b1
  go_wp2_with fail
  with_reducible refine (HT.out w1 (HV.out.below B1.out)).mono ?_
  rintro e w3 ⟨v, rfl, o3, b3⟩
  obtain ⟨q, c3, rfl, hq, hq2⟩ := own_addr o3 hxp
  have k3 := own_cellq o3 hxp HL.out
  rw [Nat.zero_mul, Nat.zero_add] at k3
  obtain ⟨k4, k5⟩ := k3
  have O4 := Lib.hid (own_set o3 HL.out hxp ⟨#[]⟩)
  rw [Nat.zero_mul, Nat.zero_add, setNm_zero] at O4
  have B3 := Lib.hid (B1.out.trans (b3.mono B1.out.size))
  have HQ := Lib.hid (Nat.le_trans B1.out.size hq)
  clear b3 o3 hq HT HS
  go_wp2_with fail
  go_ret
  exact ⟨_, rfl, own_base O4.out B1.out.size, B3.out.setCell HQ.out _⟩
set_option maxRecDepth 20000 in
theorem rsub_both (a : Option Addr) (n cap : Nat) (g : Nat → CR) (p : Int) (w : World) (hv : CV w a n g) (hs : Sm n g) (hcap : n ≤ cap) : Calls Try.prog 20 #[.slice a n cap, .int .i64 p] w (SPost w g n p) := by
  have HA := Lib.hid (rasked_any a n cap g p w hv hs)
  by_cases h : plE g n p = 0
  · obtain ⟨hc, h0, h1⟩ := pl_zero h
    obtain ⟨q, rfl⟩ : ∃ q : Nat, p = q := ⟨p.toNat, by omega⟩
    have HB := Lib.hid (fun W (hV : CV W a n g) => rcut_any a n cap g q W hV hs hc (by omega) hcap)
    rw [h] at HA
    have HV := Lib.hid hv
    have HG := Lib.hid h
    clear hv hs hc h h0 h1 hcap
    go_enter Try.func20, Try.ntmps20
    go_wp2_with fail
    with_reducible refine HA.out.mono ?_
    rintro e w1 ⟨rfl, b1⟩
    have B1 := Lib.hid b1
    clear b1 HA
    go_wp2_with fail
    with_reducible refine (HB.out w1 (HV.out.below B1.out)).mono ?_
    rintro e w2 ⟨v, rfl, o2, b2⟩
    have B2 := Lib.hid (B1.out.trans (b2.mono B1.out.size))
    have O2 := Lib.hid (own_base o2 B1.out.size)
    clear b2 HB o2
    go_wp2_with fail
    go_ret2
    exact SPost.good HG.out O2.out B2.out
  · obtain ⟨z, hz⟩ : ∃ z, z = plE g n p := ⟨_, rfl⟩
    rw [← hz] at HA h
    have hz0 : (z != 0) = true := by simpa using h
    have HH := Lib.hid h
    have HZ := Lib.hid hz
    clear hv hs h hz hcap
    go_enter Try.func20, Try.ntmps20
    go_wp2_with fail
    with_reducible refine HA.out.mono ?_
    rintro e w1 ⟨rfl, b1⟩
    have B1 := Lib.hid b1
    clear b1 HA
    go_wp2_with fail
    go_ret2
    exact SPost.bad HZ.out HH.out B1.out
end Go.Proofs.Ytfmgkndljppffaa

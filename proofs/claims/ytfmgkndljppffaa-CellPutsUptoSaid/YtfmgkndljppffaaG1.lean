/- Layer 3: CellParts. -/
import Derived.Test.YtfmgkndljppffaaG0
namespace Go.Proofs.Ytfmgkndljppffaa
open Go.RowKit Go.Maps
theorem pl_zero {g : Nat → CR} {n : Nat} {p : Int} (h : plE g n p = 0) : ckC g n = true ∧ 0 ≤ p ∧ p < n := by
  unfold plE at h
  split at h
  · rename_i h1
    split at h
    · rename_i h2
      exact ⟨h1, h2⟩
    · cases h
  · cases h
/-- The parts that were cut out, where they lie. -/
def Pts (w : World) (B i : Nat) (ad : Nat → Option Addr) (len cp : Nat → Nat) (P : Nat → List CR) : Prop := ∀ j, j < i → w.ownsRow B 32 5 (.slice (ad j) (len j) (cp j)) (len j) (rw5 (P j))
theorem Pts.below {w w' : World} {B i : Nat} {ad : Nat → Option Addr} {len cp : Nat → Nat} {P : Nat → List CR} (h : Pts w B i ad len cp P) (b : Below w.heap.size w w') : Pts w' B i ad len cp P := fun j hj => own_below (h j hj) b
theorem Pts.grown {w w' : World} {B i s n : Nat} {e : TypeId} {v : Value} {x : List Value} {ad : Nat → Option Addr} {len cp : Nat → Nat} {P : Nat → List CR} {o : Obj} (h : Pts w B i ad len cp P) (ho : w.ownsRow B e s v n x) (he : 32 ≠ e) (hg : (w.alloc o).grownBy w' v.ownBlock) : Pts w' B i ad len cp P := fun j hj => ((h j hj).alloc o).kept hg (own_apart (h j hj) ho he)
theorem Pts.succ {w : World} {B i : Nat} {ad : Nat → Option Addr} {len cp : Nat → Nat} {P : Nat → List CR} {a : Option Addr} {c : Nat} (h : Pts w B i ad len cp P) (k : w.ownsRow B 32 5 (.slice a (len i) c) (len i) (rw5 (P i))) : Pts w B (i + 1) (fun j => if j = i then a else ad j) len (fun j => if j = i then c else cp j) P := fun j hj => by
  by_cases e : j = i
  · subst e
    show w.ownsRow B 32 5 (.slice (if j = j then a else ad j) (len j) (if j = j then c else cp j)) (len j) (rw5 (P j))
    rw [if_pos rfl, if_pos rfl]; exact k
  · show w.ownsRow B 32 5 (.slice (if j = i then a else ad j) (len j) (if j = i then c else cp j)) (len j) (rw5 (P j))
    rw [if_neg e, if_neg e]; exact h j (by omega)
theorem own_other {w w' : World} {B s n s2 n2 : Nat} {e e2 : TypeId} {v v2 : Value} {x x2 : List Value} {o : Obj} (h : w.ownsRow B e s v n x) (h2 : w.ownsRow B e2 s2 v2 n2 x2) (he : e ≠ e2) (hg : (w.alloc o).grownBy w' v2.ownBlock) : w'.ownsRow B e s v n x := (h.alloc o).kept hg (own_apart h h2 he)
set_option maxRecDepth 20000 in
set_option maxHeartbeats 4000000 in
theorem parts_true (a : Option Addr) (n cap : Nat) (g : Nat → CR) (at_ : Int) (w : World) (hv : CV w a n g) (hkm : KM n g) (hcap : n ≤ cap) (hcm : cap ≤ maxLen) (_ : a = none → n = 0 ∧ cap = 0) (_ : -9223372036854775808 ≤ at_) (_ : at_ ≤ 9223372036854775807) :
    Calls Try.prog 7 #[.slice a n cap, .int .i64 at_] w fun e w' => e = .returned (.bool true) ∧ Below w.heap.size w w' := by
  have HA := Lib.hid (fun W => alive_true W)
  have hnm : n ≤ maxLen := Nat.le_trans hcap hcm
  have HV := Lib.hid hv
  cases hgr : grP g n 200 with
  | true =>
    have HG := Lib.hid (fun W (hv : CV W a n g) => great_at 200 200 rfl (by decide) a n cap g W hv hnm true hgr)
    clear hgr hv hkm hcap hcm
    go_enter Try.func7, Try.ntmps7
    go_wp2_with fail
    with_reducible refine (HA.out _).mono ?_
    rintro e w1 ⟨rfl, b1⟩
    have B1 := Lib.hid b1
    clear b1
    go_wp2_with fail
    with_reducible refine (HG.out w1 (HV.out.below B1.out)).mono ?_
    rintro e w2 ⟨rfl, hq1⟩
    have hq2 := hq1.symm
    clear hq1
    subst hq2
    go_wp2_with fail
    go_ret
    exact ⟨rfl, B1.out⟩
  | false =>
    have HG := Lib.hid (fun W (hv : CV W a n g) => great_at 200 200 rfl (by decide) a n cap g W hv hnm false hgr)
    have hcw := cw_gr hkm hgr
    by_cases hpl : plE g n at_ = 0
    · obtain ⟨hck, hp0, hp1⟩ := pl_zero hpl
      obtain ⟨p, rfl⟩ : ∃ p : Nat, at_ = p := ⟨at_.toNat, by omega⟩
      have hpn : p < n := by omega
      have hn2 : n ≤ 2048 := (ckC_parts hck).2.1
      obtain ⟨f1, f2, f3, f4, f5, f6, f7, f8, f9, f10⟩ := parts_facts hck hpn
      have HCP := Lib.hid (fun i (hi : i < (g p).m.toNat) => (cw_part hcw (f1 i hi).2.2.2 : CW (paF g n p (i + 1) - paF g n p i) (gl (ren ⟨#[]⟩ (cut g (paF g n p i) (paF g n p (i + 1)))))))
      have HCWS := Lib.hid (cw_part hcw f6 : CW (nx g n p - p) (gl (ren ⟨#[]⟩ (cut g p (nx g n p)))))
      have HS0 : Hid (∀ W, CV W a n g → Calls Try.prog 19 #[.slice a n cap, .int .i64 (p : Nat)] W fun r w' => ∃ v, r = .returned (.tuple #[v, .int .i64 0]) ∧ w'.ownsRow W.heap.size 32 5 v (nx g n p - p) (rw5 (ren ⟨#[]⟩ (cut g p (nx g n p)))) ∧ Below W.heap.size W w') := Lib.hid (fun W hv => sub_ok a n cap g p W hv hcw hck hpn hcap)
      have HK0 : Hid (∀ W, CV W a n g → Calls Try.prog 8 #[.slice a n cap, .int .i64 (p : Nat)] W fun r w' => ∃ ad c, r = .returned (.tuple #[.slice ad (g p).m.toNat c, .int .i64 0]) ∧ IV w' ad (g p).m.toNat (paF g n p) ∧ Below W.heap.size W w') := Lib.hid (fun W hv => (kids_ok a n cap g p W hv hcw hck hpn).mono (fun e w' ⟨ad, c, h1, h2, _, h3⟩ => ⟨ad, c, h1, h2, h3⟩))
      have HE0 := Lib.hid (fun W (hv : CV W a n g) => end_ok a n cap g p W hv hcw hck hpn)
      have HS : Hid (∀ i, i < (g p).m.toNat → ∀ W, CV W a n g → Calls Try.prog 19 #[.slice a n cap, .int .i64 (paF g n p i : Nat)] W fun r w' => ∃ v, r = .returned (.tuple #[v, .int .i64 0]) ∧ w'.ownsRow W.heap.size 32 5 v (paLen g n p i) (rw5 (ren ⟨#[]⟩ (cut g (paF g n p i) (paF g n p (i + 1))))) ∧ Below W.heap.size W w') := Lib.hid (fun i hi W hv => by
        have h := sub_ok a n cap g (paF g n p i) W hv hcw hck (f1 i hi).1 hcap
        rw [(f1 i hi).2.1] at h
        exact h)
      have HE : Hid (∀ i, i < (g p).m.toNat → ∀ W, CV W a n g → Calls Try.prog 15 #[.slice a n cap, .int .i64 (paF g n p i : Nat)] W fun r w' => r = .returned (.tuple #[.int .i64 (paF g n p (i + 1) : Nat), .int .i64 0]) ∧ Below W.heap.size W w') := Lib.hid (fun i hi W hv => by
        have h := end_ok a n cap g (paF g n p i) W hv hcw hck (f1 i hi).1
        rw [(f1 i hi).2.1] at h
        exact h)
      obtain ⟨PS, hPS⟩ : ∃ PS, PS = ren ⟨#[]⟩ (cut g p (nx g n p)) := ⟨_, rfl⟩
      obtain ⟨SL, hSL⟩ : ∃ SL, SL = nx g n p - p := ⟨_, rfl⟩
      have hSP : PS.length = SL := by rw [hPS, ren_len, cut_len, hSL]
      have HSP := Lib.hid hSP
      have hS1 : (SL : Int) = (nx g n p : Int) - p := by omega
      rw [← hPS, ← hSL] at HCWS HS0
      rw [← hPS] at f7 f8 f9
      have HPN : Hid (∀ i, i < (g p).m.toNat → (g (paF g n p i)).nm.size ≤ maxLen) := Lib.hid (fun i hi => (hcw _ (f1 i hi).1).2.1)
      obtain ⟨PR, hPR⟩ : ∃ PR : Nat → List CR, PR = fun i => ren ⟨#[]⟩ (cut g (paF g n p i) (paF g n p (i + 1))) := ⟨_, rfl⟩
      have hPR' : ∀ i, ren ⟨#[]⟩ (cut g (paF g n p i) (paF g n p (i + 1))) = PR i := fun i => by rw [hPR]
      have HPL : Hid (∀ i, i < (g p).m.toNat → (PR i).length = paLen g n p i) := Lib.hid (fun i hi => by rw [← hPR', ren_len, cut_len]; rfl)
      have HPG : Hid (∀ i, gl (PR i) = paG g n p i) := Lib.hid (fun i => by rw [← hPR']; rfl)
      have HF : Hid (∀ i, i < (g p).m.toNat → paF g n p i < n ∧ paF g n p i < paF g n p (i + 1) ∧ paF g n p (i + 1) ≤ n ∧ (paLen g n p i : Int) = (paF g n p (i + 1) : Int) - paF g n p i ∧ 0 < paLen g n p i ∧ paLen g n p i ≤ n) := Lib.hid (fun i hi => by
        obtain ⟨q1, _, q3, q4⟩ := f1 i hi
        have : paLen g n p i = paF g n p (i + 1) - paF g n p i := rfl
        refine ⟨q1, q3, q4, by omega, by omega, by omega⟩)
      simp only [hPR'] at HS HCP
      have HCK : Hid (∀ ad2 c W, CV W ad2 SL (gl PS) → Calls Try.prog 11 #[.slice ad2 SL c] W fun e w' => e = .returned (.int .i64 0) ∧ Below W.heap.size W w') := Lib.hid (fun ad2 c W hV => by
        have h := cCheck_any ad2 SL c (gl PS) W hV HCWS.out
        unfold ckL at f7
        rw [hSP] at f7
        rw [f7] at h
        exact h)
      have HRS : Hid (∀ a1 a2 c1 c2 W, CV W a1 SL (gl PS) → CV W a2 SL (gl PS) → Calls Try.prog 21 #[.slice a1 SL c1, .slice a2 SL c2] W fun r w' => r = .returned (.bool true) ∧ Below W.heap.size W w') := Lib.hid (fun a1 a2 c1 c2 W h1 h2 => by
        have h := rsame_any a1 a2 SL SL c1 c2 (gl PS) (gl PS) W h1 h2 (by unfold maxLen; omega)
        rw [sm_yes (fun _ _ => rfl)] at h
        exact h)
      have HIT : Hid ((g p).k = 6 → ∀ la lc ad cp W, LIn W la (g p).m.toNat ad (paLen g n p) cp (paG g n p) → Calls Try.prog 28 #[.slice la (g p).m.toNat lc] W fun r w' => ∃ v, r = .returned (.tuple #[v, .int .i64 0]) ∧ w'.ownsRow W.heap.size 32 5 v SL (rw5 PS) ∧ Below W.heap.size W w') := Lib.hid (fun h6 la lc ad cp W hL => by
        have h := items_any la (g p).m.toNat lc (paS g n p) ad (paLen g n p) cp (paG g n p) W hL (fun i hi => by have := HCP.out i hi; rw [HPG.out] at this; exact this)
        obtain ⟨q1, q2⟩ := f8 (paS g n p) h6
        rw [q1, q2] at h
        refine h.mono ?_
        rintro e w' ⟨v, h1, _, h2, h3⟩
        have := h2 rfl
        rw [hSP] at this
        exact ⟨v, h1, this, h3⟩)
      have HME : Hid ((g p).k = 7 → ∀ na nc la lc ad cp W, LIn W la (g p).m.toNat ad (paLen g n p) cp (paG g n p) → NV W na (g p).m.toNat (paS g n p) → Calls Try.prog 30 #[.slice na (g p).m.toNat nc, .slice la (g p).m.toNat lc] W fun r w' => ∃ v, r = .returned (.tuple #[v, .int .i64 0]) ∧ w'.ownsRow W.heap.size 32 5 v SL (rw5 PS) ∧ Below W.heap.size W w') := Lib.hid (fun h7 na nc la lc ad cp W hL hN => by
        have h := members_any na la (g p).m.toNat nc (g p).m.toNat lc (paS g n p) ad (paLen g n p) cp (paG g n p) W hL (fun i hi => by have := HCP.out i hi; rw [HPG.out] at this; exact this) hN HPN.out
        obtain ⟨q1, q2⟩ := f9 h7
        unfold mE at h
        rw [if_pos rfl, q1, q2] at h
        refine h.mono ?_
        rintro e w' ⟨v, h1, _, h2, h3⟩
        have := h2 rfl
        rw [hSP] at this
        exact ⟨v, h1, this, h3⟩)
      have HPS : Hid (∀ i, (g (paF g n p i)).nm = paS g n p i) := Lib.hid (fun _ => rfl)
      obtain ⟨E, hE⟩ : ∃ E, E = nx g n p := ⟨_, rfl⟩
      rw [← hE] at hS1 f5 f6 f3 f10 HE0
      obtain ⟨F, hF⟩ : ∃ F, F = paF g n p := ⟨_, rfl⟩
      obtain ⟨LN, hLN⟩ : ∃ LN, LN = paLen g n p := ⟨_, rfl⟩
      obtain ⟨NM, hNM⟩ : ∃ NM, NM = paS g n p := ⟨_, rfl⟩
      obtain ⟨GG, hGG⟩ : ∃ GG, GG = paG g n p := ⟨_, rfl⟩
      obtain ⟨m, hm⟩ : ∃ m, m = (g p).m.toNat := ⟨_, rfl⟩
      rw [← hm] at HK0 HS HE HPN HPL HF HIT HME f3 f4 f10
      rw [← hF] at HK0 HS HE HPN HF f3 f2 HPS
      rw [← hLN] at HS HPL HF HIT HME
      rw [← hNM] at HME HPS
      rw [← hGG] at HIT HME HPG
      have hSL0 : 0 < SL := by omega
      have hb0 : (n : Int) ≤ 2048 := by omega
      have hf2 := Lib.hid f2
      have hf3 := Lib.hid f3
      have hf10 := Lib.hid f10
      have hm1 : m ≤ 2048 := f4
      have hS2 : ((SL : Int) != (E : Int) - p) = false := by simp [hS1]
      have hEE : ((E : Int) != E) = false := by simp
      replace hcap := Lib.hid hcap
      obtain ⟨b, off, rfl⟩ := hv.addr (by omega)
      have hE5 : E ≤ 2048 := by omega
      have hpE : p < E := by omega
      clear hE hF hLN hNM hGG hm hPR hPR' hPS hSL hSP hS1 f1 f2 f3 f4 f5 f6 f7 f8 f9 f10 hgr hcw hkm hv hpl hck hnm hcm HCWS HCP
      obtain ⟨i0, hi, hz0, hz1, hz2⟩ := infoSl
      obtain ⟨j0, hj, hn0, hn1, hn2⟩ := infoStr
      go_enter Try.func7, Try.ntmps7
      go_wp2_with fail
      with_reducible refine (HA.out _).mono ?_
      rintro e w1 ⟨rfl, b1⟩
      have B1 := Lib.hid b1
      clear b1
      go_wp2_with fail
      with_reducible refine (HG.out w1 (HV.out.below B1.out)).mono ?_
      rintro e w2 ⟨rfl, hq1⟩
      have hq2 := hq1.symm
      clear hq1
      subst hq2
      go_wp2_with fail
      with_reducible refine (HS0.out _ (HV.out.below B1.out)).mono ?_
      rintro e w3 ⟨v3, rfl, o3, b3⟩
      have B3 := Lib.hid (B1.out.trans (b3.mono B1.out.size))
      have O3 := Lib.hid o3
      clear b3 o3
      go_wp2_with fail
      with_reducible refine (HK0.out w3 (HV.out.below B3.out)).mono ?_
      rintro e w4 ⟨ka, kc, rfl, iv, b4⟩
      have B4 := Lib.hid (B3.out.trans (b4.mono B3.out.size))
      have O4 := Lib.hid (own_below O3.out b4)
      have I4 := Lib.hid iv
      clear b4 O3 iv B3
      go_wp2_with fail
      with_reducible refine (HE0.out w4 (HV.out.below B4.out)).mono ?_
      rintro e w5 ⟨rfl, b5⟩
      have B5 := Lib.hid (B4.out.trans (b5.mono B4.out.size))
      have I5 := Lib.hid (I4.out.below b5)
      have O5 := Lib.hid (own_below O4.out b5)
      obtain ⟨sq, sc, rfl, _, cs5, _, _⟩ := own_cvc HSP.out O5.out hSL0
      have C5 := Lib.hid cs5
      have V5 := Lib.hid (HV.out.below B5.out)
      clear b5 O4 I4 B4 cs5 O5 HS0 HK0 HE0 HA HG
      have hpp : (p : Int) + 1 = (F 0 : Nat) := by have := hf2.out; omega
      have hp3 : (p : Int) < 2048 := by omega
      go_wp2_with fail
      try rw [hpp]
      clear hpp
      go_loopw [12, 13, 14, 15] (fun v12 v13 v14 v15 wr => ∃ (i : Nat) (ad : Nat → Option Addr) (cp : Nat → Nat), i ≤ m ∧ v15 = .int .i64 i ∧ v14 = .int .i64 (F i : Nat) ∧ Hid (wr.ownsRow w5.heap.size 26 1 v12 i (slL ad LN cp i)) ∧ Hid (wr.ownsRow w5.heap.size 9 1 v13 i (stL NM i)) ∧ Hid (Pts wr w5.heap.size i ad LN cp PR) ∧ Hid (Below w5.heap.size w5 wr)) (fun _ _ _ v15 _ => m - (intOf v15).toNat)
      case atStart => exact ⟨0, fun _ => none, fun _ => 0, Nat.zero_le _, rfl, rfl, Lib.hid (World.ownsRow_nil _ _ _ _), Lib.hid (World.ownsRow_nil _ _ _ _), Lib.hid (fun j hj => by omega), Lib.hid (Below.refl _ _)⟩
      case round =>
        obtain ⟨i, ad, cp, hi1, rfl, rfl, HL, HM, HP, HB⟩ := hrel
        by_cases hlt : i < m
        · have hlt' : (i : Int) < m := by omega
          have hi0 : (0 : Int) ≤ i := by omega
          obtain ⟨g1, g2, g3, g4, g5, g6⟩ := HF.out i hlt
          obtain ⟨kb, ko, rfl, hkb, ck⟩ := (I5.out.below HB.out) i hlt
          have HK1 := Lib.hid (HS.out i hlt)
          have HK2 := Lib.hid (HE.out i hlt)
          have hpl := HPL.out i hlt
          have hps := Lib.hid (HPS.out i)
          have hst := Lib.hid (stL_succ NM i)
          obtain ⟨x, hx⟩ : ∃ x : Nat, x = F i := ⟨_, rfl⟩
          obtain ⟨y, hy⟩ : ∃ y : Nat, y = F (i + 1) := ⟨_, rfl⟩
          obtain ⟨ln, hln⟩ : ∃ ln : Nat, ln = LN i := ⟨_, rfl⟩
          obtain ⟨PRi, hpri⟩ : ∃ PRi, PRi = PR i := ⟨_, rfl⟩
          rw [← hx] at HK1 HK2 ck hps ⊢
          rw [← hy] at HK2
          rw [← hln, ← hpri] at HK1 hpl
          rw [← hx, ← hy] at g4
          rw [← hx] at g1 g2
          rw [← hy] at g2 g3
          rw [← hln] at g4 g5 g6
          have hxx : ((x : Int) != x) = false := by simp
          have hx0 : (0 : Int) ≤ x := by omega
          have hx1 : (x : Int) < n := by omega
          have hy0 : (y : Int) ≤ 2048 := by omega
          have hy1 : (0 : Int) ≤ y := by omega
          have hd : ((ln : Int) != (y : Int) - x) = false := by simp [g4]
          have hs5 := HB.out.size
          have hln2 : ln ≤ 2048 := by omega
          replace hx := Lib.hid hx
          replace hy := Lib.hid hy
          replace hln := Lib.hid hln
          replace hpri := Lib.hid hpri
          replace hpl := Lib.hid hpl
          clear g1 g2 g3 g4 g6
          go_wp2_with fail
          with_reducible refine (HK1.out wr (V5.out.below HB.out)).mono ?_
          rintro e w6 ⟨v6, rfl, o6, b6⟩
          obtain ⟨q6, c6, rfl, _, _, _, _⟩ := own_cvc hpl.out o6 g5
          have B6 := Lib.hid (HB.out.trans (b6.mono HB.out.size))
          have L6 := Lib.hid (own_below HL.out b6)
          have M6 := Lib.hid (own_below HM.out b6)
          have P6 := Lib.hid (HP.out.below b6)
          have O6 := Lib.hid (own_base o6 hs5)
          have ck6 := (b6.cell (p := ⟨kb, ko + i, none⟩) hkb).trans ck
          have hkb6 := Nat.lt_of_lt_of_le hkb b6.size
          clear b6 o6 ck HL HM HP hkb HK1
          go_wp2_with fail
          with_reducible refine (HK2.out w6 (V5.out.below B6.out)).mono ?_
          rintro e w7 ⟨rfl, b7⟩
          have B7 := Lib.hid (B6.out.trans (b7.mono B6.out.size))
          have L7 := Lib.hid (own_below L6.out b7)
          have M7 := Lib.hid (own_below M6.out b7)
          have P7 := Lib.hid (P6.out.below b7)
          have O7 := Lib.hid (own_below O6.out b7)
          have ck7 := (b7.cell (p := ⟨kb, ko + i, none⟩) hkb6).trans ck6
          have hkb7 := Nat.lt_of_lt_of_le hkb6 b7.size
          have hs7 : w5.heap.size ≤ w7.heap.size := B7.out.size
          have hs7' : w5.heap.size ≤ w7.heap.size + 1 := by omega
          clear b7 ck6 hkb6 B6 L6 M6 P6 O6 HK2 HB
          go_wp2_with (first | (at_builtin; refine wpList_append_own _ rfl _ _ 52 rfl w5.heap.size 26 i0 (.slice none 0 0) 1 24 Try.underlying52 hi hz0 hz1 hz2 rfl (by decide) _ _ _ rfl (L7.out.alloc _) ⟨w7.heap.size, 0, none⟩ 1 1 [.slice (some ⟨q6, 0, none⟩) ln c6] rfl rfl (news_at _ _ _ _ rfl) (by intro u hu; simp at hu; subst hu; rfl) (by unfold maxLen; omega) (by omega) (by simpa using hs7') ?_; intro v8 w8 ho8 hg8 _; have B8 : Hid (Below w5.heap.size w5 w8) := Lib.hid ((B7.out.alloc B7.out.size _).grown hg8 (by show w5.heap.size ≤ (w7.heap.push _).size; simp; omega) (fun q hq => (L7.out.lt q hq).1)); have M8 := Lib.hid (own_other M7.out L7.out (by decide) hg8); have P8 := Lib.hid (P7.out.grown L7.out (by decide) hg8); have O8 := Lib.hid (own_other O7.out L7.out (by decide) hg8); have L8 := Lib.hid ho8; clear ho8 hg8; obtain ⟨kb', ko', hke, _, ck8⟩ := (I5.out.below B8.out) i hlt; cases hke; rw [← hx.out] at ck8; obtain ⟨_, _, cn8, _, _, _⟩ := (V5.out.below B8.out).at_ (i := x) (by omega); rw [hps.out] at cn8; have hs8 : w5.heap.size ≤ w8.heap.size + 1 := by have := B8.out.size; omega) | (at_builtin; refine wpList_append_own _ rfl _ _ 51 rfl w5.heap.size 9 j0 (.string ⟨#[]⟩) 1 16 Try.underlying51 hj hn0 hn1 hn2 rfl (by decide) _ _ _ rfl (M8.out.alloc _) ⟨w8.heap.size, 0, none⟩ 1 1 [.string (NM i)] rfl rfl (news_at _ _ _ _ rfl) (by intro u hu; simp at hu; subst hu; rfl) (by unfold maxLen; omega) (by omega) (by simpa using hs8) ?_; intro v9 w9 ho9 hg9 _; have B9 : Hid (Below w5.heap.size w5 w9) := Lib.hid ((B8.out.alloc B8.out.size _).grown hg9 (by show w5.heap.size ≤ (w8.heap.push _).size; simp; omega) (fun q hq => (M8.out.lt q hq).1)); have L9 := Lib.hid (own_other L8.out M8.out (by decide) hg9); have P9 := Lib.hid (P8.out.grown M8.out (by decide) hg9); have O9 := Lib.hid (own_other O8.out M8.out (by decide) hg9); have M9 := Lib.hid ho9; clear ho9 hg9))
          go_roundw
          case rel => exact ⟨i + 1, (fun j => if j = i then some ⟨q6, 0, none⟩ else ad j), (fun j => if j = i then c6 else cp j), by omega, by go_num, by rw [hy.out], Lib.hid (by rw [slL_upd, ← hln.out]; exact L9.out), Lib.hid (by rw [hst.out]; exact M9.out), Lib.hid (P9.out.succ (by rw [← hln.out, ← hpri.out]; exact O9.out)), B9⟩
          case measure => simp [intOf]; omega
        · have him : i = m := by omega
          subst him
          have hge : ¬ (i : Int) < i := by omega
          obtain ⟨la, lc, rfl, hin⟩ := own_lin HL.out
          obtain ⟨na, nc, rfl, hnv⟩ := own_nv HM.out
          have HLI : Hid (LIn wr la i ad LN cp GG) := Lib.hid ⟨hin, fun j hj => by
            obtain ⟨x, c, he, hcv, _, _⟩ := own_cv (HPL.out j hj) (HP.out j hj)
            cases he
            rw [HPG.out] at hcv
            exact hcv⟩
          have HNI := Lib.hid hnv
          clear hin hnv HL HM HP HS HE HF HPL HPN HPG HPS I5 hi hz0 hz1 hz2 hj hn0 hn1 hn2 hi1 hlt
          rw [hf3.out]
          obtain ⟨_, ck0, _, _, _, _⟩ := ((V5.out.below HB.out).at_ (i := p) hpn)
          clear ck0
          go_wp2_with fail
          with_reducible refine (HCK.out _ _ wr (C5.out.below HB.out)).mono ?_
          rintro e w6 ⟨rfl, b6⟩
          have B6 := Lib.hid (HB.out.trans (b6.mono HB.out.size))
          have LI6 := Lib.hid (HLI.out.below b6)
          have NI6 := Lib.hid (HNI.out.below b6)
          clear b6 HLI HNI HCK HB
          obtain ⟨_, ck6, _, _, _, _⟩ := ((V5.out.below B6.out).at_ (i := p) hpn)
          by_cases h6 : (g p).k = 6
          · have hk6 : (((g p).k : Int) == 6) = true := by rw [beq_iff_eq]; omega
            have HI6 := Lib.hid (HIT.out h6)
            obtain ⟨kk, hkk⟩ : ∃ kk : Nat, kk = (g p).k := ⟨_, rfl⟩
            rw [← hkk] at ck6 hk6
            clear h6 hkk
            go_wp2_with fail
            with_reducible refine (HI6.out _ _ _ _ w6 LI6.out).mono ?_
            rintro e w7 ⟨v7, rfl, o7, b7⟩
            obtain ⟨q7, c7, rfl, _, cv7, _, _⟩ := own_cvc HSP.out o7 hSL0
            have B7 := Lib.hid (B6.out.trans (b7.mono B6.out.size))
            have CV7 := Lib.hid cv7
            clear o7 b7 cv7 ck6
            go_wp2_with fail
            with_reducible refine (HRS.out _ _ _ _ w7 CV7.out (C5.out.below B7.out)).mono ?_
            rintro e w8 ⟨rfl, b8⟩
            have B8 := Lib.hid (B7.out.trans (b8.mono B7.out.size))
            clear b8
            go_wp2_with fail
            go_ret
            exact ⟨rfl, B5.out.trans (B8.out.mono B5.out.size)⟩
          by_cases h7 : (g p).k = 7
          · have hk6 : (((g p).k : Int) == 6) = false := by rw [beq_eq_false_iff_ne]; omega
            have hk7 : (((g p).k : Int) == 7) = true := by rw [beq_iff_eq]; omega
            have HI6 := Lib.hid (HME.out h7)
            obtain ⟨kk, hkk⟩ : ∃ kk : Nat, kk = (g p).k := ⟨_, rfl⟩
            rw [← hkk] at ck6 hk6 hk7
            clear h6 h7 hkk
            go_wp2_with fail
            with_reducible refine (HI6.out _ _ _ _ _ _ w6 LI6.out NI6.out).mono ?_
            rintro e w7 ⟨v7, rfl, o7, b7⟩
            obtain ⟨q7, c7, rfl, _, cv7, _, _⟩ := own_cvc HSP.out o7 hSL0
            have B7 := Lib.hid (B6.out.trans (b7.mono B6.out.size))
            have CV7 := Lib.hid cv7
            clear o7 b7 cv7 ck6
            go_wp2_with fail
            with_reducible refine (HRS.out _ _ _ _ w7 CV7.out (C5.out.below B7.out)).mono ?_
            rintro e w8 ⟨rfl, b8⟩
            have B8 := Lib.hid (B7.out.trans (b8.mono B7.out.size))
            clear b8
            go_wp2_with fail
            go_ret
            exact ⟨rfl, B5.out.trans (B8.out.mono B5.out.size)⟩
          · have hk6 : (((g p).k : Int) == 6) = false := by rw [beq_eq_false_iff_ne]; omega
            have hk7 : (((g p).k : Int) == 7) = false := by rw [beq_eq_false_iff_ne]; omega
            obtain ⟨hm0, he0⟩ := hf10.out h6 h7
            have hi00 : ((i : Int) == 0) = true := by rw [beq_iff_eq]; omega
            have hs11 : ((SL : Int) == 1) = true := by
              rw [beq_iff_eq]
              have : (SL : Int) = (E : Int) - p := by simpa using hS2
              omega
            obtain ⟨kk, hkk⟩ : ∃ kk : Nat, kk = (g p).k := ⟨_, rfl⟩
            rw [← hkk] at ck6 hk6 hk7
            replace hm0 := Lib.hid hm0
            clear h6 h7 hkk he0
            go_wp2_with fail
            go_ret
            exact ⟨rfl, B5.out.trans (B6.out.mono B5.out.size)⟩
    · obtain ⟨z, hz⟩ : ∃ z, z = plE g n at_ := ⟨_, rfl⟩
      have HS0 : Hid (∀ W, CV W a n g → Calls Try.prog 19 #[.slice a n cap, .int .i64 at_] W fun r w' => r = .returned (.tuple #[.slice none 0 0, .int .i64 z]) ∧ Below W.heap.size W w') := Lib.hid (fun W hv => by rw [hz]; exact sub_bad a n cap g at_ W hv hcw hpl)
      have HK0 : Hid (∀ W, CV W a n g → Calls Try.prog 8 #[.slice a n cap, .int .i64 at_] W fun r w' => r = .returned (.tuple #[.slice none 0 0, .int .i64 z]) ∧ Below W.heap.size W w') := Lib.hid (fun W hv => by rw [hz]; exact kids_bad a n cap g at_ W hv hcw hpl)
      have HE0 : Hid (∀ W, CV W a n g → Calls Try.prog 15 #[.slice a n cap, .int .i64 at_] W fun r w' => r = .returned (.tuple #[.int .i64 0, .int .i64 z]) ∧ Below W.heap.size W w') := Lib.hid (fun W hv => by rw [hz]; exact end_bad a n cap g at_ W hv hcw hpl)
      rw [← hz] at hpl
      have hz0 : (z != 0) = true := by simpa using hpl
      have hzz : (z == z) = true := by simp
      clear hz hpl hgr hcw hkm hv hnm hcap hcm
      go_enter Try.func7, Try.ntmps7
      go_wp2_with fail
      with_reducible refine (HA.out _).mono ?_
      rintro e w1 ⟨rfl, b1⟩
      have B1 := Lib.hid b1
      clear b1
      go_wp2_with fail
      with_reducible refine (HG.out w1 (HV.out.below B1.out)).mono ?_
      rintro e w2 ⟨rfl, hq1⟩
      have hq2 := hq1.symm
      clear hq1
      subst hq2
      go_wp2_with fail
      with_reducible refine (HS0.out _ (HV.out.below B1.out)).mono ?_
      rintro e w3 ⟨rfl, b3⟩
      have B3 := Lib.hid (B1.out.trans (b3.mono B1.out.size))
      clear b3
      go_wp2_with fail
      with_reducible refine (HK0.out w3 (HV.out.below B3.out)).mono ?_
      rintro e w4 ⟨rfl, b4⟩
      have B4 := Lib.hid (B3.out.trans (b4.mono B3.out.size))
      clear b4
      go_wp2_with fail
      with_reducible refine (HE0.out w4 (HV.out.below B4.out)).mono ?_
      rintro e w5 ⟨rfl, b5⟩
      have B5 := Lib.hid (B4.out.trans (b5.mono B4.out.size))
      clear b5
      go_wp2_with fail
      go_ret
      exact ⟨rfl, B5.out⟩
end Go.Proofs.Ytfmgkndljppffaa

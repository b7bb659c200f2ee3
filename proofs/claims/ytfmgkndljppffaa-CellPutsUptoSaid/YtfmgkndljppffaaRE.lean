/- Layer 3: CellPuts. -/
import Derived.Test.YtfmgkndljppffaaRD
namespace Go.Proofs.Ytfmgkndljppffaa
open Go.RowKit Go.Maps
/-- What stands in the answer. -/
def gL (e : Int) (L : List CR) : List CR := if e = 0 then L else []
theorem GP.row {w w' : World} {e : Int} {L : List CR} {r : Ending} (h : GP w e L r w') : ∃ a c, r = .returned (.tuple #[.slice a (gL e L).length c, .int .i64 e]) ∧ w'.ownsRow w.heap.size 32 5 (.slice a (gL e L).length c) (gL e L).length (rw5 (gL e L)) ∧ CV w' a (gL e L).length (gl (gL e L)) ∧ Below w.heap.size w w' := by
  obtain ⟨v, h1, h2, h3, h4⟩ := h
  by_cases he : e = 0
  · have hg : gL e L = L := by unfold gL; rw [if_pos he]
    rw [hg]
    have ho := h3 he
    obtain ⟨a, c, rfl, _, hv, _⟩ := own_cvx rfl ho
    exact ⟨a, c, h1, ho, hv, h4⟩
  · have hg : gL e L = [] := by unfold gL; rw [if_neg he]
    rw [hg]
    obtain rfl := h2 he
    exact ⟨none, 0, h1, World.ownsRow_nil _ _ _ _, fun i hi => by simp at hi, h4⟩
theorem gL_le {k ln : Nat} {s : Nat → ByteArray} {len : Nat → Nat} {G : Nat → Nat → CR} (h : ln ≤ 2100) (hl : ∀ i, i < ln → len i ≤ 2048) (e : Int) : (gL e (preL k ln s len G ln)).length ≤ 10000000 := by
  unfold gL
  split
  · have := pre_le k ln s len G ln hl; omega
  · exact Nat.zero_le _
theorem row_far {w w' : World} {B B2 s s2 n n2 : Nat} {e e2 : TypeId} {v v2 : Value} {x x2 : List Value} (h1 : w.ownsRow B e s v n x) (h2 : w'.ownsRow B2 e2 s2 v2 n2 x2) (hb : w.heap.size ≤ B2) : v.ownBlock = none ∨ v.ownBlock ≠ v2.ownBlock := own_far h1 h2 hb
theorem Pts.spoil {w w' : World} {B i : Nat} {ad : Nat → Option Addr} {len cp : Nat → Nat} {P : Nat → List CR} {row : Option Nat} (h : Pts w B i ad len cp P) (hg : w.grownBy w' row) (hf : ∀ j, j < i → (Value.slice (ad j) (len j) (cp j)).ownBlock = none ∨ (Value.slice (ad j) (len j) (cp j)).ownBlock ≠ row) : Pts w' B i ad len cp P := fun j hj => (h j hj).kept hg (hf j hj)
/-- What the last loop's test reads. -/
def TS (w0 : World) (ob oi lb li : Nat) (x y : Value) (w' : World) : Prop := w'.cell? ⟨ob, oi, none⟩ = some x ∧ w'.cell? ⟨lb, li, none⟩ = some y ∧ Below w0.heap.size w0 w'
set_option maxRecDepth 20000 in
theorem puts_a (na : Option Addr) (nn nc : Nat) (la : Option Addr) (ln lc : Nat) (w : World) (hnc : nn ≤ nc) (hncm : nc ≤ maxLen) (hlc : ln ≤ lc) (hlcm : lc ≤ maxLen) (h1 : 20 < ln) (h2 : ln ≤ 2048) : Calls Try.prog 5 #[.slice na nn nc, .slice la ln lc] w fun e w' => e = .returned (.bool true) ∧ Below w.heap.size w w' := by
  unfold maxLen at hncm hlcm
  have gg1 : (ln : Int) ≤ 9223372036854775807 := by omega
  have gg2 : (nn : Int) ≤ 9223372036854775807 := by omega
  have g1 : (20 : Int) < ln := by omega
  have g2 : (ln : Int) ≤ 2048 := by omega
  go_enter Try.func5, Try.ntmps5
  go_wp2_with fail
  go_ret
  exact ⟨rfl, Below.refl _ _⟩
set_option maxRecDepth 20000 in
theorem puts_b (na : Option Addr) (nn nc : Nat) (la : Option Addr) (ln lc : Nat) (w : World) (hnc : nn ≤ nc) (hncm : nc ≤ maxLen) (hlc : ln ≤ lc) (hlcm : lc ≤ maxLen) (h1 : 2100 < ln) : Calls Try.prog 5 #[.slice na nn nc, .slice la ln lc] w fun e w' => e = .returned (.bool true) ∧ Below w.heap.size w w' := by
  unfold maxLen at hncm hlcm
  have gg1 : (ln : Int) ≤ 9223372036854775807 := by omega
  have gg2 : (nn : Int) ≤ 9223372036854775807 := by omega
  have g1 : (20 : Int) < ln := by omega
  have g2 : ¬ (ln : Int) ≤ 2048 := by omega
  have g3 : (2100 : Int) < ln := by omega
  go_enter Try.func5, Try.ntmps5
  go_wp2_with fail
  go_ret
  exact ⟨rfl, Below.refl _ _⟩
set_option maxRecDepth 20000 in
theorem puts_c1 (na : Option Addr) (nn nc : Nat) (la : Option Addr) (ln lc : Nat) (w : World) (hnc : nn ≤ nc) (hncm : nc ≤ maxLen) (hlc : ln ≤ lc) (hlcm : lc ≤ maxLen) (h1 : ln ≤ 20) (h3 : 2100 < nn) : Calls Try.prog 5 #[.slice na nn nc, .slice la ln lc] w fun e w' => e = .returned (.bool true) ∧ Below w.heap.size w w' := by
  unfold maxLen at hncm hlcm
  have gg1 : (ln : Int) ≤ 9223372036854775807 := by omega
  have gg2 : (nn : Int) ≤ 9223372036854775807 := by omega
  have g1 : ¬ (20 : Int) < ln := by omega
  have g3 : ¬ (2100 : Int) < ln := by omega
  have g4 : (2100 : Int) < nn := by omega
  go_enter Try.func5, Try.ntmps5
  go_wp2_with fail
  go_ret
  exact ⟨rfl, Below.refl _ _⟩
set_option maxRecDepth 20000 in
theorem puts_c2 (na : Option Addr) (nn nc : Nat) (la : Option Addr) (ln lc : Nat) (w : World) (hnc : nn ≤ nc) (hncm : nc ≤ maxLen) (hlc : ln ≤ lc) (hlcm : lc ≤ maxLen) (h1 : 2048 < ln) (h2 : ln ≤ 2100) (h3 : 2100 < nn) : Calls Try.prog 5 #[.slice na nn nc, .slice la ln lc] w fun e w' => e = .returned (.bool true) ∧ Below w.heap.size w w' := by
  unfold maxLen at hncm hlcm
  have gg1 : (ln : Int) ≤ 9223372036854775807 := by omega
  have gg2 : (nn : Int) ≤ 9223372036854775807 := by omega
  have g1 : (20 : Int) < ln := by omega
  have g2 : ¬ (ln : Int) ≤ 2048 := by omega
  have g3 : ¬ (2100 : Int) < ln := by omega
  have g4 : (2100 : Int) < nn := by omega
  go_enter Try.func5, Try.ntmps5
  go_wp2_with fail
  go_ret
  exact ⟨rfl, Below.refl _ _⟩
theorem spoil_big (v : Value) (n B : Nat) (xs : List Value) (w : World) (ho : w.ownsRow B 32 5 v n xs) (hn : n ≤ 10000000) : Calls Try.prog 27 #[v] w fun e w' => e = .returned (.tuple #[]) ∧ w.grownBy w' v.ownBlock := spoil_any v n B xs w ho hn
set_option maxRecDepth 20000 in
set_option maxHeartbeats 8000000 in
theorem puts_d1 (na : Option Addr) (nn nc : Nat) (s : Nat → ByteArray) (la : Option Addr) (ln lc : Nat) (ad : Nat → Option Addr) (len cp : Nat → Nat) (G : Nat → Nat → CR) (w : World) (hnv : NV w na nn s) (hsz : ∀ i, i < nn → (s i).size ≤ 2000000) (hnc : nn ≤ nc) (hncm : nc ≤ maxLen) (hin : LIn w la ln ad len cp G) (hkm : ∀ i, i < ln → KM (len i) (G i)) (hq : ∀ i, i < ln → len i ≤ cp i ∧ cp i ≤ maxLen ∧ (ad i = none → len i = 0 ∧ cp i = 0)) (hlc : ln ≤ lc) (hlcm : lc ≤ maxLen) (h1 : ln ≤ 20) (h3 : ln ≤ 2100) (h4 : nn ≤ 2100) : Calls Try.prog 5 #[.slice na nn nc, .slice la ln lc] w fun e w' => e = .returned (.bool true) ∧ Below w.heap.size w w' := by
  unfold maxLen at hncm hlcm
  have hlen : ∀ i, i < ln → len i ≤ maxLen := fun i hi => Nat.le_trans (hq i hi).1 (hq i hi).2.1
  have g1 : ¬ (20 : Int) < ln := by omega
  have g3 : ¬ (2100 : Int) < ln := by omega
  have g4 : ¬ (2100 : Int) < nn := by omega
  have HG := Lib.hid (fun i (hi : i < ln) W (hv : CV W (ad i) (len i) (G i)) b hb => great_at 100 100 rfl (by decide) (ad i) (len i) (cp i) (G i) W hv (hlen i hi) b hb)
  have HSM0 := Lib.hid (fun i (hi : i < ln) (h : grP (G i) (len i) 100 = false) => gr_yes (hkm i hi) (by decide) h)
  have HTW := Lib.hid (fun i (hi : i < ln) (hl : len i ≤ 100) W (hV : CV W (ad i) (len i) (G i)) => rtwin_any (ad i) (len i) (cp i) (G i) W hV (by omega) (hq i hi).2.2)
  unfold TwinPost at HTW
  obtain ⟨z1, hz1⟩ : ∃ z, z = gE 6 ln s len G := ⟨_, rfl⟩
  obtain ⟨z2, hz2⟩ : ∃ z, z = mE nn ln s len G := ⟨_, rfl⟩
  obtain ⟨L1, hL1⟩ : ∃ z, z = gL z1 (preL 6 ln s len G ln) := ⟨_, rfl⟩
  obtain ⟨L2, hL2⟩ : ∃ z, z = gL z2 (preL 7 ln s len G ln) := ⟨_, rfl⟩
  obtain ⟨m1, hm1⟩ : ∃ z, z = L1.length := ⟨_, rfl⟩
  obtain ⟨m2, hm2⟩ : ∃ z, z = L2.length := ⟨_, rfl⟩
  have HB1 : Hid ((∀ i, i < ln → grP (G i) (len i) 100 = false) → m1 ≤ 10000000) := Lib.hid (fun h => by rw [hm1, hL1]; exact gL_le h3 (fun i hi => by have := (HSM0.out i hi (h i hi)).2; omega) _)
  have HB2 : Hid ((∀ i, i < ln → grP (G i) (len i) 100 = false) → m2 ≤ 10000000) := Lib.hid (fun h => by rw [hm2, hL2]; exact gL_le h3 (fun i hi => by have := (HSM0.out i hi (h i hi)).2; omega) _)
  have HI1 : Hid ((∀ i, i < ln → grP (G i) (len i) 100 = false) → ∀ a c ad' cp' W, LIn W a ln ad' len cp' G → Calls Try.prog 28 #[.slice a ln c] W fun r w' => ∃ x c, r = .returned (.tuple #[.slice x m1 c, .int .i64 z1]) ∧ w'.ownsRow W.heap.size 32 5 (.slice x m1 c) m1 (rw5 L1) ∧ CV w' x m1 (gl L1) ∧ Below W.heap.size W w') := Lib.hid (fun h a c ad' cp' W hI => by
    rw [hm1, hL1, hz1]
    exact (items_any a ln c s ad' len cp' G W hI (fun i hi => (HSM0.out i hi (h i hi)).1.cw)).mono fun e w' h => h.row)
  have HI2 : Hid ((∀ i, i < ln → grP (G i) (len i) 100 = false) → ∀ a c ad' cp' W, LIn W a ln ad' len cp' G → Calls Try.prog 29 #[.slice a ln c] W fun r w' => ∃ x c, r = .returned (.tuple #[.slice x m1 c, .int .i64 z1]) ∧ w'.ownsRow W.heap.size 32 5 (.slice x m1 c) m1 (rw5 L1) ∧ CV w' x m1 (gl L1) ∧ Below W.heap.size W w') := Lib.hid (fun h a c ad' cp' W hI => by
    rw [hm1, hL1, hz1]
    exact (ritems_any a ln c s ad' len cp' G W (by unfold maxLen; omega) hI (fun i hi => (HSM0.out i hi (h i hi)).1)).mono fun e w' h => h.row)
  have HJ1 : Hid ((∀ i, i < ln → grP (G i) (len i) 100 = false) → ∀ a c ad' cp' W, LIn W a ln ad' len cp' G → NV W na nn s → Calls Try.prog 30 #[.slice na nn nc, .slice a ln c] W fun r w' => ∃ x c, r = .returned (.tuple #[.slice x m2 c, .int .i64 z2]) ∧ w'.ownsRow W.heap.size 32 5 (.slice x m2 c) m2 (rw5 L2) ∧ CV w' x m2 (gl L2) ∧ Below W.heap.size W w') := Lib.hid (fun h a c ad' cp' W hI hN => by
    rw [hm2, hL2, hz2]
    exact (members_any na a nn nc ln c s ad' len cp' G W hI (fun i hi => (HSM0.out i hi (h i hi)).1.cw) hN (fun i hi => by have := hsz i hi; unfold maxLen; omega)).mono fun e w' h => h.row)
  have HJ2 : Hid ((∀ i, i < ln → grP (G i) (len i) 100 = false) → ∀ a c ad' cp' W, LIn W a ln ad' len cp' G → NV W na nn s → Calls Try.prog 31 #[.slice na nn nc, .slice a ln c] W fun r w' => ∃ x c, r = .returned (.tuple #[.slice x m2 c, .int .i64 z2]) ∧ w'.ownsRow W.heap.size 32 5 (.slice x m2 c) m2 (rw5 L2) ∧ CV w' x m2 (gl L2) ∧ Below W.heap.size W w') := Lib.hid (fun h a c ad' cp' W hI hN => by
    rw [hm2, hL2, hz2]
    exact (rmembers_any na a nn nc ln c s ad' len cp' G W (by unfold maxLen; omega) (by unfold maxLen; omega) hI (fun i hi => (HSM0.out i hi (h i hi)).1) hN hsz).mono fun e w' h => h.row)
  have HSA : Hid (∀ (n : Nat) (g : Nat → CR) a c b c2 W, n ≤ 10000000 → CV W a n g → CV W b n g → Calls Try.prog 21 #[.slice a n c, .slice b n c2] W (fun r w' => r = .returned (.bool true) ∧ Below W.heap.size W w')) := Lib.hid (fun n g a c b c2 W hn h1 h2 => by
    have h := rsame_any a b n n c c2 g g W h1 h2 (by unfold maxLen; omega)
    rw [sm_yes (fun _ _ => rfl)] at h
    exact h)
  have HIN := Lib.hid hin
  have HNV := Lib.hid hnv
  have hln : (ln : Int) ≤ 2100 := by omega
  obtain ⟨PR, hPR⟩ : ∃ PR : Nat → List CR, PR = fun i => cut (G i) 0 (len i) := ⟨_, rfl⟩
  have HPR : Hid (∀ i, PR i = cut (G i) 0 (len i)) := Lib.hid (fun i => by rw [hPR])
  obtain ⟨i0, hi, hz0, hz1', hz2'⟩ := infoSl
  have q1 : (z1 == z1) = true := by simp
  have q2 : (z2 == z2) = true := by simp
  clear hz1 hz2 hL1 hL2 hm1 hm2 hnv hsz hin hkm hq hlen hPR
  go_enter Try.func5, Try.ntmps5
  go_wp2_with fail
  go_loopw [5, 6] (fun v5 v6 wr => ∃ (i : Nat) (ad2 : Nat → Option Addr) (cp2 : Nat → Nat), i ≤ ln ∧ v6 = .int .i64 i ∧ Hid (wr.ownsRow w.heap.size 26 1 v5 i (slL ad2 len cp2 i)) ∧ Hid (Pts wr w.heap.size i ad2 len cp2 PR) ∧ Hid (Below w.heap.size w wr) ∧ Hid (∀ j, j < i → grP (G j) (len j) 100 = false)) (fun _ v6 _ => ln - (intOf v6).toNat)
  case atStart => exact ⟨0, fun _ => none, fun _ => 0, Nat.zero_le _, rfl, Lib.hid (World.ownsRow_nil _ _ _ _), Lib.hid (fun j hj => by omega), Lib.hid (Below.refl _ _), Lib.hid (fun j hj => by omega)⟩
  case round =>
    obtain ⟨i, ad2, cp2, hi1, rfl, HL, HP, HB, HN⟩ := hrel
    by_cases hlt : i < ln
    · obtain ⟨b, off, rfl, hbl, cl⟩ := (HIN.out.below HB.out).at_ i hlt
      have hg0 : (0 : Int) ≤ i := by omega
      have hg1 : (i : Int) < ln := by omega
      cases hgr : grP (G i) (len i) 100 with
      | true =>
        have HG1 := Lib.hid (HG.out i hlt wr ((HIN.out.below HB.out).cv i hlt) _ hgr)
        clear hgr HN
        go_wp2_with fail
        with_reducible refine (HG1.out).mono ?_
        rintro e w2 ⟨rfl, hq1⟩
        have hq2 := hq1.symm
        clear hq1
        subst hq2
        go_wp2_with fail
        go_ret
        exact ⟨rfl, HB.out⟩
      | false =>
        have HG1 := Lib.hid (HG.out i hlt wr ((HIN.out.below HB.out).cv i hlt) _ hgr)
        have HN2 : Hid (∀ j, j < i + 1 → grP (G j) (len j) 100 = false) := Lib.hid (fun j hj => by
          by_cases e : j = i
          · subst e; exact hgr
          · exact HN.out j (by omega))
        have hl100 := (HSM0.out i hlt hgr).2
        have HT1 := Lib.hid (HTW.out i hlt hl100 wr ((HIN.out.below HB.out).cv i hlt))
        rw [← HPR.out] at HT1
        have hPL : Hid ((PR i).length = len i) := Lib.hid (by rw [HPR.out, cut_len, Nat.sub_zero])
        obtain ⟨li, hli⟩ : ∃ x, x = len i := ⟨_, rfl⟩
        obtain ⟨PRi, hpri⟩ : ∃ x, x = PR i := ⟨_, rfl⟩
        rw [← hli, ← hpri] at HT1 hPL
        rw [← hli] at cl HG1 hl100
        replace hli := Lib.hid hli
        replace hpri := Lib.hid hpri
        clear hgr HN hbl
        go_wp2_with fail
        with_reducible refine (HG1.out).mono ?_
        rintro e w2 ⟨rfl, hq1⟩
        have hq2 := hq1.symm
        clear hq1
        subst hq2
        clear HG1
        go_wp2_with fail
        with_reducible refine HT1.out.mono ?_
        rintro e w3 ⟨v3, rfl, o3, b3⟩
        obtain ⟨xa, xc, rfl, _, _, _⟩ := own_cvx hPL.out o3
        have B3 := Lib.hid (HB.out.trans (b3.mono HB.out.size))
        have L3 := Lib.hid (own_below HL.out b3)
        have P3 := Lib.hid (HP.out.below b3)
        have O3 := Lib.hid (own_base o3 HB.out.size)
        have hs3 : w.heap.size ≤ w3.heap.size := B3.out.size
        have hs3' : w.heap.size ≤ w3.heap.size + 1 := by omega
        clear b3 o3 HL HP HB HT1 cl
        go_wp2_with (at_builtin; refine wpList_append_own _ rfl _ _ 52 rfl w.heap.size 26 i0 (.slice none 0 0) 1 24 Try.underlying52 hi hz0 hz1' hz2' rfl (by decide) _ _ _ rfl (L3.out.alloc _) ⟨w3.heap.size, 0, none⟩ 1 1 [.slice xa li xc] rfl rfl (news_at _ _ _ _ rfl) (by intro u hu; simp at hu; subst hu; rfl) (by unfold maxLen; omega) (by omega) (by simpa using hs3') ?_; intro v8 w8 ho8 hg8 _; have B8 : Hid (Below w.heap.size w w8) := Lib.hid ((B3.out.alloc B3.out.size _).grown hg8 (by show w.heap.size ≤ (w3.heap.push _).size; simp; omega) (fun q hq => (L3.out.lt q hq).1)); have P8 := Lib.hid (P3.out.grown L3.out (by decide) hg8); have O8 := Lib.hid (own_other O3.out L3.out (by decide) hg8); have L8 := Lib.hid ho8; clear ho8 hg8)
        go_roundw
        case rel => exact ⟨i + 1, (fun j => if j = i then xa else ad2 j), (fun j => if j = i then xc else cp2 j), by omega, by go_num, Lib.hid (by rw [slL_upd, ← hli.out]; exact L8.out), Lib.hid (P8.out.succ (by rw [← hli.out, ← hpri.out]; exact O8.out)), B8, HN2⟩
        case measure => simp [intOf]; omega
    · have e1 : i = ln := by omega
      subst e1
      have hge : ¬ (i : Int) < i := by omega
      obtain ⟨oa, oc, rfl, hin2⟩ := own_lin HL.out
      have HOI : Hid (∀ W, Below wr.heap.size wr W → LIn W oa i ad2 len cp2 G) := Lib.hid (fun W hb => by
        have hl : LIn wr oa i ad2 len cp2 G := ⟨hin2, fun j hj => by
          have := HP.out j hj
          rw [HPR.out] at this
          exact own_cvg this⟩
        exact hl.below hb)
      have I1 := Lib.hid (HI1.out HN.out)
      have I2 := Lib.hid (HI2.out HN.out)
      have J1 := Lib.hid (HJ1.out HN.out)
      have J2 := Lib.hid (HJ2.out HN.out)
      have hm1 := HB1.out HN.out
      have hm2 := HB2.out HN.out
      have HLE : Hid (∀ j, j < i → len j ≤ 10000000) := Lib.hid (fun j hj => by have := (HSM0.out j hj (HN.out j hj)).2; omega)
      clear HI1 HI2 HJ1 HJ2 HB1 HB2 HSM0 HTW HG hin2 hlt
      obtain ⟨w0, hw0⟩ : ∃ x, x = wr := ⟨_, rfl⟩
      rw [← hw0] at HL HP HB HOI ⊢
      clear hw0
      have L0 := HL
      have P0 := HP
      go_wp2_with fail
      with_reducible refine (I1.out _ _ _ _ w0 (HOI.out w0 (Below.refl _ _))).mono ?_
      rintro e w1 ⟨xa, xc, rfl, ox, cx, b1⟩
      have C1 := Lib.hid b1
      have X1 := Lib.hid ox
      have CX1 := Lib.hid cx
      clear b1 ox cx I1
      go_wp2_with fail
      with_reducible refine (I2.out _ _ _ _ w1 (HIN.out.below (HB.out.trans (C1.out.mono HB.out.size)))).mono ?_
      rintro e w2 ⟨ya, yc, rfl, oy, cy, b2⟩
      have C2 := Lib.hid (C1.out.trans (b2.mono C1.out.size))
      have X2 := Lib.hid (own_below X1.out b2)
      have CX2 := Lib.hid (CX1.out.below b2)
      have CY2 := Lib.hid cy
      clear b2 oy cy C1 X1 CX1 I2
      go_wp2_with fail
      with_reducible refine (J1.out _ _ _ _ w2 (HOI.out w2 C2.out) (HNV.out.below (HB.out.trans (C2.out.mono HB.out.size)))).mono ?_
      rintro e w3 ⟨ua, uc, rfl, ou, cu, b3⟩
      have FXU := Lib.hid (own_far X2.out ou (Nat.le_refl _))
      have HU0 := Lib.hid C2.out.size
      have C3 := Lib.hid (C2.out.trans (b3.mono C2.out.size))
      have X3 := Lib.hid (own_below X2.out b3)
      have CX3 := Lib.hid (CX2.out.below b3)
      have CY3 := Lib.hid (CY2.out.below b3)
      have U3 := Lib.hid ou
      have CU3 := Lib.hid cu
      clear b3 ou cu C2 X2 CX2 CY2 J1
      go_wp2_with fail
      with_reducible refine (J2.out _ _ _ _ w3 (HIN.out.below (HB.out.trans (C3.out.mono HB.out.size))) (HNV.out.below (HB.out.trans (C3.out.mono HB.out.size)))).mono ?_
      rintro e w4 ⟨ta, tc, rfl, ot, ct, b4⟩
      have C4 := Lib.hid (C3.out.trans (b4.mono C3.out.size))
      have X4 := Lib.hid (own_below X3.out b4)
      have CX4 := Lib.hid (CX3.out.below b4)
      have CY4 := Lib.hid (CY3.out.below b4)
      have U4 := Lib.hid (own_below U3.out b4)
      have CU4 := Lib.hid (CU3.out.below b4)
      have CT4 := Lib.hid ct
      clear b4 ot ct C3 X3 CX3 CY3 U3 CU3 J2
      go_wp2_with fail
      with_reducible refine (HSA.out _ _ _ _ _ _ w4 hm1 CX4.out CY4.out).mono ?_
      rintro e w5 ⟨rfl, b5⟩
      have C5 := Lib.hid (C4.out.trans (b5.mono C4.out.size))
      have X5 := Lib.hid (own_below X4.out b5)
      have U5 := Lib.hid (own_below U4.out b5)
      have CU5 := Lib.hid (CU4.out.below b5)
      have CT5 := Lib.hid (CT4.out.below b5)
      clear b5 C4 X4 U4 CX4 CY4 CU4 CT4
      go_wp2_with fail
      with_reducible refine (HSA.out _ _ _ _ _ _ w5 hm2 CU5.out CT5.out).mono ?_
      rintro e w6 ⟨rfl, b6⟩
      have C6 := Lib.hid (C5.out.trans (b6.mono C5.out.size))
      have X6 := Lib.hid (own_below X5.out b6)
      have U6 := Lib.hid (own_below U5.out b6)
      clear b6 C5 X5 U5 CU5 CT5
      have FLX := Lib.hid (own_far L0.out X6.out (Nat.le_refl _))
      have FLU := Lib.hid (own_far L0.out U6.out HU0.out)
      have FPX : Hid (∀ j, j < i → _) := Lib.hid (fun j hj => own_far (P0.out j hj) X6.out (Nat.le_refl _))
      have FPU : Hid (∀ j, j < i → _) := Lib.hid (fun j hj => own_far (P0.out j hj) U6.out HU0.out)
      have B6 := Lib.hid (HB.out.trans (C6.out.mono HB.out.size))
      have L6 := Lib.hid (own_below L0.out C6.out)
      have P6 := Lib.hid (P0.out.below C6.out)
      have hX0 := Lib.hid HB.out.size
      have hU0 := Lib.hid (Nat.le_trans HB.out.size HU0.out)
      clear L0 P0 C6 HL HP HB HU0 HOI
      have HS1 := Lib.hid (spoil_big _ _ _ _ w6 X6.out hm1)
      go_wp2_with fail
      with_reducible refine HS1.out.mono ?_
      rintro e w7 ⟨rfl, g7⟩
      have B7 := Lib.hid (below_spoil B6.out X6.out hX0.out g7)
      have L7 := Lib.hid (L6.out.kept g7 FLX.out)
      have P7 := Lib.hid (P6.out.spoil g7 FPX.out)
      have U7 := Lib.hid (U6.out.kept g7 (apart_symm FXU.out))
      clear g7 HS1 B6 L6 P6 U6 X6
      have HS1 := Lib.hid (spoil_big _ _ _ _ w7 U7.out hm2)
      go_wp2_with fail
      with_reducible refine HS1.out.mono ?_
      rintro e w8 ⟨rfl, g8⟩
      have B8 := Lib.hid (below_spoil B7.out U7.out hU0.out g8)
      have L8 := Lib.hid (L7.out.kept g8 FLU.out)
      have P8 := Lib.hid (P7.out.spoil g8 FPU.out)
      clear g8 HS1 B7 L7 P7 U7 FLX FLU FPX FPU FXU hX0 hU0
      obtain ⟨oa', oc', hoe, hin3⟩ := own_lin L8.out
      cases hoe
      have HO8 : Hid (LIn w8 oa i ad2 len cp2 G) := Lib.hid ⟨hin3, fun j hj => by
        have := P8.out j hj
        rw [HPR.out] at this
        exact own_cvg this⟩
      have HI8 := Lib.hid (HIN.out.below B8.out)
      clear hin3 L8 P8 HPR HNV HIN
      obtain ⟨ln, hln'⟩ : ∃ x, x = i := ⟨_, rfl⟩
      rw [← hln'] at HO8 HI8 HLE hln ⊢
      clear hln' hge
      go_wp2_with fail
      go_loopw [16] (fun v16 wr => ∃ i : Nat, i ≤ ln ∧ v16 = .int .i64 i ∧ Hid (Below w8.heap.size w8 wr)) (fun v16 _ => ln - (intOf v16).toNat)
      case atStart => exact ⟨0, Nat.zero_le _, rfl, Lib.hid (Below.refl _ _)⟩
      case round =>
        obtain ⟨i, hi9, rfl, HC⟩ := hrel
        by_cases hlt : i < ln
        · have OI := HO8.out.below HC.out
          have II := HI8.out.below HC.out
          obtain ⟨ob, oo, rfl, _, co⟩ := OI.at_ i hlt
          obtain ⟨lb, lo, rfl, _, ci⟩ := II.at_ i hlt
          have hg0 : (0 : Int) ≤ i := by omega
          have hg1 : (i : Int) < ln := by omega
          have cvo := Lib.hid (OI.cv i hlt)
          have cvi := Lib.hid (II.cv i hlt)
          have hle := HLE.out i hlt
          obtain ⟨li, hli⟩ : ∃ x, x = len i := ⟨_, rfl⟩
          rw [← hli] at co ci cvo cvi hle
          clear hli OI II
          have hSS : TS wr ob (oo + i) lb (lo + i) (.slice (ad2 i) li (cp2 i)) (.slice (ad i) li (cp i)) wr.drew := ⟨co, ci, (Below.refl _ _).drew⟩
          have HSM : Hid (∀ w', TS wr ob (oo + i) lb (lo + i) (.slice (ad2 i) li (cp2 i)) (.slice (ad i) li (cp i)) w' → Calls Try.prog 21 #[.slice (ad2 i) li (cp2 i), .slice (ad i) li (cp i)] w' fun e wx => e = .returned (.bool true) ∧ TS wr ob (oo + i) lb (lo + i) (.slice (ad2 i) li (cp2 i)) (.slice (ad i) li (cp i)) wx) := Lib.hid (fun w' h => (HSA.out li (G i) _ _ _ _ w' hle (cvo.out.below h.2.2) (cvi.out.below h.2.2)).mono fun e wx ⟨h1, h2⟩ => ⟨h1, (h2.cell (World.block_lt_of_cell? _ _ h.1)).trans h.1, (h2.cell (World.block_lt_of_cell? _ _ h.2.1)).trans h.2.1, h.2.2.trans (h2.mono h.2.2.size)⟩)
          go_wp2_with fail
          clear co ci
          refine wp_region_held_drew (S := (fun w' => w'.cell? ⟨ob, oo + i, none⟩ = some (.slice (ad2 i) li (cp2 i)) ∧ w'.cell? ⟨lb, lo + i, none⟩ = some (.slice (ad i) li (cp i)) ∧ Below wr.heap.size wr w')) (by kernel_rfl) hSS (fun hHeld => ?_)
          refine wpAnyH_take (i := 0) (oi := { dst := some 104, op := Op.move (Operand.tmp 5), type := 52, pos := "law.go:65", after := #[], guard := none }) (v := ?_) rfl (by kernel_rfl) (by kernel_rfl) (by kernel_rfl) (fun _ _ _ h => h) (Or.inl ⟨by rfl, ?_⟩) hHeld ?_
          rotate_left
          · (intro w hSw; (try dsimp only at hSw); go_simp <;> with_reducible rfl)
          try simp only [Act.put, List.setIfInBounds_toArray, List.set_cons_zero, List.set_cons_succ]
          refine wpAnyH_take (i := 1) (oi := { dst := some 105, op := Op.move (Operand.tmp 16), type := 3, pos := "law.go:65", after := #[], guard := none }) (v := ?_) rfl (by kernel_rfl) (by kernel_rfl) (by kernel_rfl) (fun _ _ _ h => h) (Or.inl ⟨by rfl, ?_⟩) hHeld ?_
          rotate_left
          · (intro w hSw; (try dsimp only at hSw); go_simp <;> with_reducible rfl)
          try simp only [Act.put, List.setIfInBounds_toArray, List.set_cons_zero, List.set_cons_succ]
          refine wpAnyH_take (i := 2) (oi := { dst := some 106, op := Op.indexAddr 52 (Operand.tmp 104) (Operand.tmp 105), type := 0, pos := "law.go:65", after := #[{ on := 0, ground := Ground.data }, { on := 1, ground := Ground.data }], guard := none }) (v := ?_) rfl (by kernel_rfl) (by kernel_rfl) (by kernel_rfl) (fun _ _ _ h => h) (Or.inl ⟨by rfl, ?_⟩) hHeld ?_
          rotate_left
          · (intro w hSw; (try dsimp only at hSw); go_simp <;> with_reducible rfl)
          try simp only [Act.put, List.setIfInBounds_toArray, List.set_cons_zero, List.set_cons_succ]
          refine wpAnyH_take (i := 3) (oi := { dst := some 107, op := Op.load 26 (Operand.tmp 106), type := 26, pos := "law.go:65", after := #[{ on := 2, ground := Ground.data }], guard := none }) (v := ?_) rfl (by kernel_rfl) (by kernel_rfl) (by kernel_rfl) (fun _ _ _ h => h) (Or.inl ⟨by rfl, ?_⟩) hHeld ?_
          rotate_left
          · (intro w hSw; (try dsimp only at hSw); go_simp <;> with_reducible rfl)
          try simp only [Act.put, List.setIfInBounds_toArray, List.set_cons_zero, List.set_cons_succ]
          refine wpAnyH_take (i := 4) (oi := { dst := some 108, op := Op.move (Operand.tmp 1), type := 52, pos := "law.go:65", after := #[], guard := none }) (v := ?_) rfl (by kernel_rfl) (by kernel_rfl) (by kernel_rfl) (fun _ _ _ h => h) (Or.inl ⟨by rfl, ?_⟩) hHeld ?_
          rotate_left
          · (intro w hSw; (try dsimp only at hSw); go_simp <;> with_reducible rfl)
          try simp only [Act.put, List.setIfInBounds_toArray, List.set_cons_zero, List.set_cons_succ]
          refine wpAnyH_take (i := 5) (oi := { dst := some 109, op := Op.move (Operand.tmp 16), type := 3, pos := "law.go:65", after := #[], guard := none }) (v := ?_) rfl (by kernel_rfl) (by kernel_rfl) (by kernel_rfl) (fun _ _ _ h => h) (Or.inl ⟨by rfl, ?_⟩) hHeld ?_
          rotate_left
          · (intro w hSw; (try dsimp only at hSw); go_simp <;> with_reducible rfl)
          try simp only [Act.put, List.setIfInBounds_toArray, List.set_cons_zero, List.set_cons_succ]
          refine wpAnyH_take (i := 6) (oi := { dst := some 110, op := Op.indexAddr 52 (Operand.tmp 108) (Operand.tmp 109), type := 0, pos := "law.go:65", after := #[{ on := 4, ground := Ground.data }, { on := 5, ground := Ground.data }], guard := none }) (v := ?_) rfl (by kernel_rfl) (by kernel_rfl) (by kernel_rfl) (fun _ _ _ h => h) (Or.inl ⟨by rfl, ?_⟩) hHeld ?_
          rotate_left
          · (intro w hSw; (try dsimp only at hSw); go_simp <;> with_reducible rfl)
          try simp only [Act.put, List.setIfInBounds_toArray, List.set_cons_zero, List.set_cons_succ]
          refine wpAnyH_take (i := 7) (oi := { dst := some 111, op := Op.load 26 (Operand.tmp 110), type := 26, pos := "law.go:65", after := #[{ on := 6, ground := Ground.data }], guard := none }) (v := ?_) rfl (by kernel_rfl) (by kernel_rfl) (by kernel_rfl) (fun _ _ _ h => h) (Or.inl ⟨by rfl, ?_⟩) hHeld ?_
          rotate_left
          · (intro w hSw; (try dsimp only at hSw); go_simp <;> with_reducible rfl)
          try simp only [Act.put, List.setIfInBounds_toArray, List.set_cons_zero, List.set_cons_succ]
          refine wpAnyH_ready (rs := [8]) (by kernel_rfl) (by simp) (AllReadyH.cons (o := { dst := some 112, op := Op.call { callee := Callee.value (Operand.func 21), args := #[Operand.tmp 107, Operand.tmp 111], argTypes := #[26, 26] }, type := 4, pos := "law.go:65", after := #[{ on := 3, ground := Ground.data }, { on := 7, ground := Ground.data }], guard := none }) rfl (fun K8 hK8 => ?_) AllReadyH.nil)
          go_simp
          refine (HSM.out _ hHeld).mono ?_
          rintro e w' ⟨rfl, hS2⟩
          refine hK8.out _ _ hS2 (fun hH_8 => ?_)
          clear hS2
          clear hK8 K8
          try simp only [Act.put, List.setIfInBounds_toArray, List.set_cons_zero, List.set_cons_succ]
          refine wpAnyH_take (i := 9) (oi := { dst := some 113, op := Op.unOp UnOp.not 4 (Operand.tmp 112), type := 4, pos := "law.go:65", after := #[{ on := 8, ground := Ground.data }], guard := none }) (v := ?_) rfl (by kernel_rfl) (by kernel_rfl) (by kernel_rfl) (fun _ _ _ h => h) (Or.inl ⟨by rfl, ?_⟩) hH_8 ?_
          rotate_left
          · (intro w hSw; (try dsimp only at hSw); go_simp <;> with_reducible rfl)
          try simp only [Act.put, List.setIfInBounds_toArray, List.set_cons_zero, List.set_cons_succ]
          refine wpAnyH_done (by kernel_rfl) ?_ _
          have hLast := Lib.hid hH_8
          clear hHeld hH_8
          obtain ⟨_, _, hb9⟩ := hLast.out
          have B9 := Lib.hid (HC.out.trans (hb9.mono HC.out.size))
          clear hLast hb9 hSS HSM cvo cvi
          go_wp2_with fail
          go_roundw
          case rel => exact ⟨i + 1, by omega, by go_num, B9⟩
          case measure => simp [intOf]; omega
        · have e1 : i = ln := by omega
          subst e1
          have hge : ¬ (i : Int) < i := by omega
          go_wp2_with fail
          go_ret
          exact ⟨rfl, B8.out.trans (HC.out.mono B8.out.size)⟩
set_option maxRecDepth 20000 in
set_option maxHeartbeats 8000000 in
theorem puts_d2 (na : Option Addr) (nn nc : Nat) (s : Nat → ByteArray) (la : Option Addr) (ln lc : Nat) (ad : Nat → Option Addr) (len cp : Nat → Nat) (G : Nat → Nat → CR) (w : World) (hnv : NV w na nn s) (hsz : ∀ i, i < nn → (s i).size ≤ 2000000) (hnc : nn ≤ nc) (hncm : nc ≤ maxLen) (hin : LIn w la ln ad len cp G) (hkm : ∀ i, i < ln → KM (len i) (G i)) (hq : ∀ i, i < ln → len i ≤ cp i ∧ cp i ≤ maxLen ∧ (ad i = none → len i = 0 ∧ cp i = 0)) (hlc : ln ≤ lc) (hlcm : lc ≤ maxLen) (h1 : 2048 < ln) (h3 : ln ≤ 2100) (h4 : nn ≤ 2100) : Calls Try.prog 5 #[.slice na nn nc, .slice la ln lc] w fun e w' => e = .returned (.bool true) ∧ Below w.heap.size w w' := by
  unfold maxLen at hncm hlcm
  have hlen : ∀ i, i < ln → len i ≤ maxLen := fun i hi => Nat.le_trans (hq i hi).1 (hq i hi).2.1
  have g1 : (20 : Int) < ln := by omega
  have g2 : ¬ (ln : Int) ≤ 2048 := by omega
  have g3 : ¬ (2100 : Int) < ln := by omega
  have g4 : ¬ (2100 : Int) < nn := by omega
  have HG := Lib.hid (fun i (hi : i < ln) W (hv : CV W (ad i) (len i) (G i)) b hb => great_at 100 100 rfl (by decide) (ad i) (len i) (cp i) (G i) W hv (hlen i hi) b hb)
  have HSM0 := Lib.hid (fun i (hi : i < ln) (h : grP (G i) (len i) 100 = false) => gr_yes (hkm i hi) (by decide) h)
  have HTW := Lib.hid (fun i (hi : i < ln) (hl : len i ≤ 100) W (hV : CV W (ad i) (len i) (G i)) => rtwin_any (ad i) (len i) (cp i) (G i) W hV (by omega) (hq i hi).2.2)
  unfold TwinPost at HTW
  obtain ⟨z1, hz1⟩ : ∃ z, z = gE 6 ln s len G := ⟨_, rfl⟩
  obtain ⟨z2, hz2⟩ : ∃ z, z = mE nn ln s len G := ⟨_, rfl⟩
  obtain ⟨L1, hL1⟩ : ∃ z, z = gL z1 (preL 6 ln s len G ln) := ⟨_, rfl⟩
  obtain ⟨L2, hL2⟩ : ∃ z, z = gL z2 (preL 7 ln s len G ln) := ⟨_, rfl⟩
  obtain ⟨m1, hm1⟩ : ∃ z, z = L1.length := ⟨_, rfl⟩
  obtain ⟨m2, hm2⟩ : ∃ z, z = L2.length := ⟨_, rfl⟩
  have HB1 : Hid ((∀ i, i < ln → grP (G i) (len i) 100 = false) → m1 ≤ 10000000) := Lib.hid (fun h => by rw [hm1, hL1]; exact gL_le h3 (fun i hi => by have := (HSM0.out i hi (h i hi)).2; omega) _)
  have HB2 : Hid ((∀ i, i < ln → grP (G i) (len i) 100 = false) → m2 ≤ 10000000) := Lib.hid (fun h => by rw [hm2, hL2]; exact gL_le h3 (fun i hi => by have := (HSM0.out i hi (h i hi)).2; omega) _)
  have HI1 : Hid ((∀ i, i < ln → grP (G i) (len i) 100 = false) → ∀ a c ad' cp' W, LIn W a ln ad' len cp' G → Calls Try.prog 28 #[.slice a ln c] W fun r w' => ∃ x c, r = .returned (.tuple #[.slice x m1 c, .int .i64 z1]) ∧ w'.ownsRow W.heap.size 32 5 (.slice x m1 c) m1 (rw5 L1) ∧ CV w' x m1 (gl L1) ∧ Below W.heap.size W w') := Lib.hid (fun h a c ad' cp' W hI => by
    rw [hm1, hL1, hz1]
    exact (items_any a ln c s ad' len cp' G W hI (fun i hi => (HSM0.out i hi (h i hi)).1.cw)).mono fun e w' h => h.row)
  have HI2 : Hid ((∀ i, i < ln → grP (G i) (len i) 100 = false) → ∀ a c ad' cp' W, LIn W a ln ad' len cp' G → Calls Try.prog 29 #[.slice a ln c] W fun r w' => ∃ x c, r = .returned (.tuple #[.slice x m1 c, .int .i64 z1]) ∧ w'.ownsRow W.heap.size 32 5 (.slice x m1 c) m1 (rw5 L1) ∧ CV w' x m1 (gl L1) ∧ Below W.heap.size W w') := Lib.hid (fun h a c ad' cp' W hI => by
    rw [hm1, hL1, hz1]
    exact (ritems_any a ln c s ad' len cp' G W (by unfold maxLen; omega) hI (fun i hi => (HSM0.out i hi (h i hi)).1)).mono fun e w' h => h.row)
  have HJ1 : Hid ((∀ i, i < ln → grP (G i) (len i) 100 = false) → ∀ a c ad' cp' W, LIn W a ln ad' len cp' G → NV W na nn s → Calls Try.prog 30 #[.slice na nn nc, .slice a ln c] W fun r w' => ∃ x c, r = .returned (.tuple #[.slice x m2 c, .int .i64 z2]) ∧ w'.ownsRow W.heap.size 32 5 (.slice x m2 c) m2 (rw5 L2) ∧ CV w' x m2 (gl L2) ∧ Below W.heap.size W w') := Lib.hid (fun h a c ad' cp' W hI hN => by
    rw [hm2, hL2, hz2]
    exact (members_any na a nn nc ln c s ad' len cp' G W hI (fun i hi => (HSM0.out i hi (h i hi)).1.cw) hN (fun i hi => by have := hsz i hi; unfold maxLen; omega)).mono fun e w' h => h.row)
  have HJ2 : Hid ((∀ i, i < ln → grP (G i) (len i) 100 = false) → ∀ a c ad' cp' W, LIn W a ln ad' len cp' G → NV W na nn s → Calls Try.prog 31 #[.slice na nn nc, .slice a ln c] W fun r w' => ∃ x c, r = .returned (.tuple #[.slice x m2 c, .int .i64 z2]) ∧ w'.ownsRow W.heap.size 32 5 (.slice x m2 c) m2 (rw5 L2) ∧ CV w' x m2 (gl L2) ∧ Below W.heap.size W w') := Lib.hid (fun h a c ad' cp' W hI hN => by
    rw [hm2, hL2, hz2]
    exact (rmembers_any na a nn nc ln c s ad' len cp' G W (by unfold maxLen; omega) (by unfold maxLen; omega) hI (fun i hi => (HSM0.out i hi (h i hi)).1) hN hsz).mono fun e w' h => h.row)
  have HSA : Hid (∀ (n : Nat) (g : Nat → CR) a c b c2 W, n ≤ 10000000 → CV W a n g → CV W b n g → Calls Try.prog 21 #[.slice a n c, .slice b n c2] W (fun r w' => r = .returned (.bool true) ∧ Below W.heap.size W w')) := Lib.hid (fun n g a c b c2 W hn h1 h2 => by
    have h := rsame_any a b n n c c2 g g W h1 h2 (by unfold maxLen; omega)
    rw [sm_yes (fun _ _ => rfl)] at h
    exact h)
  have HIN := Lib.hid hin
  have HNV := Lib.hid hnv
  have hln : (ln : Int) ≤ 2100 := by omega
  obtain ⟨PR, hPR⟩ : ∃ PR : Nat → List CR, PR = fun i => cut (G i) 0 (len i) := ⟨_, rfl⟩
  have HPR : Hid (∀ i, PR i = cut (G i) 0 (len i)) := Lib.hid (fun i => by rw [hPR])
  obtain ⟨i0, hi, hz0, hz1', hz2'⟩ := infoSl
  have q1 : (z1 == z1) = true := by simp
  have q2 : (z2 == z2) = true := by simp
  clear hz1 hz2 hL1 hL2 hm1 hm2 hnv hsz hin hkm hq hlen hPR
  go_enter Try.func5, Try.ntmps5
  go_wp2_with fail
  go_loopw [5, 6] (fun v5 v6 wr => ∃ (i : Nat) (ad2 : Nat → Option Addr) (cp2 : Nat → Nat), i ≤ ln ∧ v6 = .int .i64 i ∧ Hid (wr.ownsRow w.heap.size 26 1 v5 i (slL ad2 len cp2 i)) ∧ Hid (Pts wr w.heap.size i ad2 len cp2 PR) ∧ Hid (Below w.heap.size w wr) ∧ Hid (∀ j, j < i → grP (G j) (len j) 100 = false)) (fun _ v6 _ => ln - (intOf v6).toNat)
  case atStart => exact ⟨0, fun _ => none, fun _ => 0, Nat.zero_le _, rfl, Lib.hid (World.ownsRow_nil _ _ _ _), Lib.hid (fun j hj => by omega), Lib.hid (Below.refl _ _), Lib.hid (fun j hj => by omega)⟩
  case round =>
    obtain ⟨i, ad2, cp2, hi1, rfl, HL, HP, HB, HN⟩ := hrel
    by_cases hlt : i < ln
    · obtain ⟨b, off, rfl, hbl, cl⟩ := (HIN.out.below HB.out).at_ i hlt
      have hg0 : (0 : Int) ≤ i := by omega
      have hg1 : (i : Int) < ln := by omega
      cases hgr : grP (G i) (len i) 100 with
      | true =>
        have HG1 := Lib.hid (HG.out i hlt wr ((HIN.out.below HB.out).cv i hlt) _ hgr)
        clear hgr HN
        go_wp2_with fail
        with_reducible refine (HG1.out).mono ?_
        rintro e w2 ⟨rfl, hq1⟩
        have hq2 := hq1.symm
        clear hq1
        subst hq2
        go_wp2_with fail
        go_ret
        exact ⟨rfl, HB.out⟩
      | false =>
        have HG1 := Lib.hid (HG.out i hlt wr ((HIN.out.below HB.out).cv i hlt) _ hgr)
        have HN2 : Hid (∀ j, j < i + 1 → grP (G j) (len j) 100 = false) := Lib.hid (fun j hj => by
          by_cases e : j = i
          · subst e; exact hgr
          · exact HN.out j (by omega))
        have hl100 := (HSM0.out i hlt hgr).2
        have HT1 := Lib.hid (HTW.out i hlt hl100 wr ((HIN.out.below HB.out).cv i hlt))
        rw [← HPR.out] at HT1
        have hPL : Hid ((PR i).length = len i) := Lib.hid (by rw [HPR.out, cut_len, Nat.sub_zero])
        obtain ⟨li, hli⟩ : ∃ x, x = len i := ⟨_, rfl⟩
        obtain ⟨PRi, hpri⟩ : ∃ x, x = PR i := ⟨_, rfl⟩
        rw [← hli, ← hpri] at HT1 hPL
        rw [← hli] at cl HG1 hl100
        replace hli := Lib.hid hli
        replace hpri := Lib.hid hpri
        clear hgr HN hbl
        go_wp2_with fail
        with_reducible refine (HG1.out).mono ?_
        rintro e w2 ⟨rfl, hq1⟩
        have hq2 := hq1.symm
        clear hq1
        subst hq2
        clear HG1
        go_wp2_with fail
        with_reducible refine HT1.out.mono ?_
        rintro e w3 ⟨v3, rfl, o3, b3⟩
        obtain ⟨xa, xc, rfl, _, _, _⟩ := own_cvx hPL.out o3
        have B3 := Lib.hid (HB.out.trans (b3.mono HB.out.size))
        have L3 := Lib.hid (own_below HL.out b3)
        have P3 := Lib.hid (HP.out.below b3)
        have O3 := Lib.hid (own_base o3 HB.out.size)
        have hs3 : w.heap.size ≤ w3.heap.size := B3.out.size
        have hs3' : w.heap.size ≤ w3.heap.size + 1 := by omega
        clear b3 o3 HL HP HB HT1 cl
        go_wp2_with (at_builtin; refine wpList_append_own _ rfl _ _ 52 rfl w.heap.size 26 i0 (.slice none 0 0) 1 24 Try.underlying52 hi hz0 hz1' hz2' rfl (by decide) _ _ _ rfl (L3.out.alloc _) ⟨w3.heap.size, 0, none⟩ 1 1 [.slice xa li xc] rfl rfl (news_at _ _ _ _ rfl) (by intro u hu; simp at hu; subst hu; rfl) (by unfold maxLen; omega) (by omega) (by simpa using hs3') ?_; intro v8 w8 ho8 hg8 _; have B8 : Hid (Below w.heap.size w w8) := Lib.hid ((B3.out.alloc B3.out.size _).grown hg8 (by show w.heap.size ≤ (w3.heap.push _).size; simp; omega) (fun q hq => (L3.out.lt q hq).1)); have P8 := Lib.hid (P3.out.grown L3.out (by decide) hg8); have O8 := Lib.hid (own_other O3.out L3.out (by decide) hg8); have L8 := Lib.hid ho8; clear ho8 hg8)
        go_roundw
        case rel => exact ⟨i + 1, (fun j => if j = i then xa else ad2 j), (fun j => if j = i then xc else cp2 j), by omega, by go_num, Lib.hid (by rw [slL_upd, ← hli.out]; exact L8.out), Lib.hid (P8.out.succ (by rw [← hli.out, ← hpri.out]; exact O8.out)), B8, HN2⟩
        case measure => simp [intOf]; omega
    · have e1 : i = ln := by omega
      subst e1
      have hge : ¬ (i : Int) < i := by omega
      obtain ⟨oa, oc, rfl, hin2⟩ := own_lin HL.out
      have HOI : Hid (∀ W, Below wr.heap.size wr W → LIn W oa i ad2 len cp2 G) := Lib.hid (fun W hb => by
        have hl : LIn wr oa i ad2 len cp2 G := ⟨hin2, fun j hj => by
          have := HP.out j hj
          rw [HPR.out] at this
          exact own_cvg this⟩
        exact hl.below hb)
      have I1 := Lib.hid (HI1.out HN.out)
      have I2 := Lib.hid (HI2.out HN.out)
      have J1 := Lib.hid (HJ1.out HN.out)
      have J2 := Lib.hid (HJ2.out HN.out)
      have hm1 := HB1.out HN.out
      have hm2 := HB2.out HN.out
      have HLE : Hid (∀ j, j < i → len j ≤ 10000000) := Lib.hid (fun j hj => by have := (HSM0.out j hj (HN.out j hj)).2; omega)
      clear HI1 HI2 HJ1 HJ2 HB1 HB2 HSM0 HTW HG hin2 hlt
      obtain ⟨w0, hw0⟩ : ∃ x, x = wr := ⟨_, rfl⟩
      rw [← hw0] at HL HP HB HOI ⊢
      clear hw0
      have L0 := HL
      have P0 := HP
      go_wp2_with fail
      with_reducible refine (I1.out _ _ _ _ w0 (HOI.out w0 (Below.refl _ _))).mono ?_
      rintro e w1 ⟨xa, xc, rfl, ox, cx, b1⟩
      have C1 := Lib.hid b1
      have X1 := Lib.hid ox
      have CX1 := Lib.hid cx
      clear b1 ox cx I1
      go_wp2_with fail
      with_reducible refine (I2.out _ _ _ _ w1 (HIN.out.below (HB.out.trans (C1.out.mono HB.out.size)))).mono ?_
      rintro e w2 ⟨ya, yc, rfl, oy, cy, b2⟩
      have C2 := Lib.hid (C1.out.trans (b2.mono C1.out.size))
      have X2 := Lib.hid (own_below X1.out b2)
      have CX2 := Lib.hid (CX1.out.below b2)
      have CY2 := Lib.hid cy
      clear b2 oy cy C1 X1 CX1 I2
      go_wp2_with fail
      with_reducible refine (J1.out _ _ _ _ w2 (HOI.out w2 C2.out) (HNV.out.below (HB.out.trans (C2.out.mono HB.out.size)))).mono ?_
      rintro e w3 ⟨ua, uc, rfl, ou, cu, b3⟩
      have FXU := Lib.hid (own_far X2.out ou (Nat.le_refl _))
      have HU0 := Lib.hid C2.out.size
      have C3 := Lib.hid (C2.out.trans (b3.mono C2.out.size))
      have X3 := Lib.hid (own_below X2.out b3)
      have CX3 := Lib.hid (CX2.out.below b3)
      have CY3 := Lib.hid (CY2.out.below b3)
      have U3 := Lib.hid ou
      have CU3 := Lib.hid cu
      clear b3 ou cu C2 X2 CX2 CY2 J1
      go_wp2_with fail
      with_reducible refine (J2.out _ _ _ _ w3 (HIN.out.below (HB.out.trans (C3.out.mono HB.out.size))) (HNV.out.below (HB.out.trans (C3.out.mono HB.out.size)))).mono ?_
      rintro e w4 ⟨ta, tc, rfl, ot, ct, b4⟩
      have C4 := Lib.hid (C3.out.trans (b4.mono C3.out.size))
      have X4 := Lib.hid (own_below X3.out b4)
      have CX4 := Lib.hid (CX3.out.below b4)
      have CY4 := Lib.hid (CY3.out.below b4)
      have U4 := Lib.hid (own_below U3.out b4)
      have CU4 := Lib.hid (CU3.out.below b4)
      have CT4 := Lib.hid ct
      clear b4 ot ct C3 X3 CX3 CY3 U3 CU3 J2
      go_wp2_with fail
      with_reducible refine (HSA.out _ _ _ _ _ _ w4 hm1 CX4.out CY4.out).mono ?_
      rintro e w5 ⟨rfl, b5⟩
      have C5 := Lib.hid (C4.out.trans (b5.mono C4.out.size))
      have X5 := Lib.hid (own_below X4.out b5)
      have U5 := Lib.hid (own_below U4.out b5)
      have CU5 := Lib.hid (CU4.out.below b5)
      have CT5 := Lib.hid (CT4.out.below b5)
      clear b5 C4 X4 U4 CX4 CY4 CU4 CT4
      go_wp2_with fail
      with_reducible refine (HSA.out _ _ _ _ _ _ w5 hm2 CU5.out CT5.out).mono ?_
      rintro e w6 ⟨rfl, b6⟩
      have C6 := Lib.hid (C5.out.trans (b6.mono C5.out.size))
      have X6 := Lib.hid (own_below X5.out b6)
      have U6 := Lib.hid (own_below U5.out b6)
      clear b6 C5 X5 U5 CU5 CT5
      have FLX := Lib.hid (own_far L0.out X6.out (Nat.le_refl _))
      have FLU := Lib.hid (own_far L0.out U6.out HU0.out)
      have FPX : Hid (∀ j, j < i → _) := Lib.hid (fun j hj => own_far (P0.out j hj) X6.out (Nat.le_refl _))
      have FPU : Hid (∀ j, j < i → _) := Lib.hid (fun j hj => own_far (P0.out j hj) U6.out HU0.out)
      have B6 := Lib.hid (HB.out.trans (C6.out.mono HB.out.size))
      have L6 := Lib.hid (own_below L0.out C6.out)
      have P6 := Lib.hid (P0.out.below C6.out)
      have hX0 := Lib.hid HB.out.size
      have hU0 := Lib.hid (Nat.le_trans HB.out.size HU0.out)
      clear L0 P0 C6 HL HP HB HU0 HOI
      have HS1 := Lib.hid (spoil_big _ _ _ _ w6 X6.out hm1)
      go_wp2_with fail
      with_reducible refine HS1.out.mono ?_
      rintro e w7 ⟨rfl, g7⟩
      have B7 := Lib.hid (below_spoil B6.out X6.out hX0.out g7)
      have L7 := Lib.hid (L6.out.kept g7 FLX.out)
      have P7 := Lib.hid (P6.out.spoil g7 FPX.out)
      have U7 := Lib.hid (U6.out.kept g7 (apart_symm FXU.out))
      clear g7 HS1 B6 L6 P6 U6 X6
      have HS1 := Lib.hid (spoil_big _ _ _ _ w7 U7.out hm2)
      go_wp2_with fail
      with_reducible refine HS1.out.mono ?_
      rintro e w8 ⟨rfl, g8⟩
      have B8 := Lib.hid (below_spoil B7.out U7.out hU0.out g8)
      have L8 := Lib.hid (L7.out.kept g8 FLU.out)
      have P8 := Lib.hid (P7.out.spoil g8 FPU.out)
      clear g8 HS1 B7 L7 P7 U7 FLX FLU FPX FPU FXU hX0 hU0
      obtain ⟨oa', oc', hoe, hin3⟩ := own_lin L8.out
      cases hoe
      have HO8 : Hid (LIn w8 oa i ad2 len cp2 G) := Lib.hid ⟨hin3, fun j hj => by
        have := P8.out j hj
        rw [HPR.out] at this
        exact own_cvg this⟩
      have HI8 := Lib.hid (HIN.out.below B8.out)
      clear hin3 L8 P8 HPR HNV HIN
      obtain ⟨ln, hln'⟩ : ∃ x, x = i := ⟨_, rfl⟩
      rw [← hln'] at HO8 HI8 HLE hln ⊢
      clear hln' hge
      go_wp2_with fail
      go_loopw [16] (fun v16 wr => ∃ i : Nat, i ≤ ln ∧ v16 = .int .i64 i ∧ Hid (Below w8.heap.size w8 wr)) (fun v16 _ => ln - (intOf v16).toNat)
      case atStart => exact ⟨0, Nat.zero_le _, rfl, Lib.hid (Below.refl _ _)⟩
      case round =>
        obtain ⟨i, hi9, rfl, HC⟩ := hrel
        by_cases hlt : i < ln
        · have OI := HO8.out.below HC.out
          have II := HI8.out.below HC.out
          obtain ⟨ob, oo, rfl, _, co⟩ := OI.at_ i hlt
          obtain ⟨lb, lo, rfl, _, ci⟩ := II.at_ i hlt
          have hg0 : (0 : Int) ≤ i := by omega
          have hg1 : (i : Int) < ln := by omega
          have cvo := Lib.hid (OI.cv i hlt)
          have cvi := Lib.hid (II.cv i hlt)
          have hle := HLE.out i hlt
          obtain ⟨li, hli⟩ : ∃ x, x = len i := ⟨_, rfl⟩
          rw [← hli] at co ci cvo cvi hle
          clear hli OI II
          have hSS : TS wr ob (oo + i) lb (lo + i) (.slice (ad2 i) li (cp2 i)) (.slice (ad i) li (cp i)) wr.drew := ⟨co, ci, (Below.refl _ _).drew⟩
          have HSM : Hid (∀ w', TS wr ob (oo + i) lb (lo + i) (.slice (ad2 i) li (cp2 i)) (.slice (ad i) li (cp i)) w' → Calls Try.prog 21 #[.slice (ad2 i) li (cp2 i), .slice (ad i) li (cp i)] w' fun e wx => e = .returned (.bool true) ∧ TS wr ob (oo + i) lb (lo + i) (.slice (ad2 i) li (cp2 i)) (.slice (ad i) li (cp i)) wx) := Lib.hid (fun w' h => (HSA.out li (G i) _ _ _ _ w' hle (cvo.out.below h.2.2) (cvi.out.below h.2.2)).mono fun e wx ⟨h1, h2⟩ => ⟨h1, (h2.cell (World.block_lt_of_cell? _ _ h.1)).trans h.1, (h2.cell (World.block_lt_of_cell? _ _ h.2.1)).trans h.2.1, h.2.2.trans (h2.mono h.2.2.size)⟩)
          go_wp2_with fail
          clear co ci
          refine wp_region_held_drew (S := (fun w' => w'.cell? ⟨ob, oo + i, none⟩ = some (.slice (ad2 i) li (cp2 i)) ∧ w'.cell? ⟨lb, lo + i, none⟩ = some (.slice (ad i) li (cp i)) ∧ Below wr.heap.size wr w')) (by kernel_rfl) hSS (fun hHeld => ?_)
          refine wpAnyH_take (i := 0) (oi := { dst := some 104, op := Op.move (Operand.tmp 5), type := 52, pos := "law.go:65", after := #[], guard := none }) (v := ?_) rfl (by kernel_rfl) (by kernel_rfl) (by kernel_rfl) (fun _ _ _ h => h) (Or.inl ⟨by rfl, ?_⟩) hHeld ?_
          rotate_left
          · (intro w hSw; (try dsimp only at hSw); go_simp <;> with_reducible rfl)
          try simp only [Act.put, List.setIfInBounds_toArray, List.set_cons_zero, List.set_cons_succ]
          refine wpAnyH_take (i := 1) (oi := { dst := some 105, op := Op.move (Operand.tmp 16), type := 3, pos := "law.go:65", after := #[], guard := none }) (v := ?_) rfl (by kernel_rfl) (by kernel_rfl) (by kernel_rfl) (fun _ _ _ h => h) (Or.inl ⟨by rfl, ?_⟩) hHeld ?_
          rotate_left
          · (intro w hSw; (try dsimp only at hSw); go_simp <;> with_reducible rfl)
          try simp only [Act.put, List.setIfInBounds_toArray, List.set_cons_zero, List.set_cons_succ]
          refine wpAnyH_take (i := 2) (oi := { dst := some 106, op := Op.indexAddr 52 (Operand.tmp 104) (Operand.tmp 105), type := 0, pos := "law.go:65", after := #[{ on := 0, ground := Ground.data }, { on := 1, ground := Ground.data }], guard := none }) (v := ?_) rfl (by kernel_rfl) (by kernel_rfl) (by kernel_rfl) (fun _ _ _ h => h) (Or.inl ⟨by rfl, ?_⟩) hHeld ?_
          rotate_left
          · (intro w hSw; (try dsimp only at hSw); go_simp <;> with_reducible rfl)
          try simp only [Act.put, List.setIfInBounds_toArray, List.set_cons_zero, List.set_cons_succ]
          refine wpAnyH_take (i := 3) (oi := { dst := some 107, op := Op.load 26 (Operand.tmp 106), type := 26, pos := "law.go:65", after := #[{ on := 2, ground := Ground.data }], guard := none }) (v := ?_) rfl (by kernel_rfl) (by kernel_rfl) (by kernel_rfl) (fun _ _ _ h => h) (Or.inl ⟨by rfl, ?_⟩) hHeld ?_
          rotate_left
          · (intro w hSw; (try dsimp only at hSw); go_simp <;> with_reducible rfl)
          try simp only [Act.put, List.setIfInBounds_toArray, List.set_cons_zero, List.set_cons_succ]
          refine wpAnyH_take (i := 4) (oi := { dst := some 108, op := Op.move (Operand.tmp 1), type := 52, pos := "law.go:65", after := #[], guard := none }) (v := ?_) rfl (by kernel_rfl) (by kernel_rfl) (by kernel_rfl) (fun _ _ _ h => h) (Or.inl ⟨by rfl, ?_⟩) hHeld ?_
          rotate_left
          · (intro w hSw; (try dsimp only at hSw); go_simp <;> with_reducible rfl)
          try simp only [Act.put, List.setIfInBounds_toArray, List.set_cons_zero, List.set_cons_succ]
          refine wpAnyH_take (i := 5) (oi := { dst := some 109, op := Op.move (Operand.tmp 16), type := 3, pos := "law.go:65", after := #[], guard := none }) (v := ?_) rfl (by kernel_rfl) (by kernel_rfl) (by kernel_rfl) (fun _ _ _ h => h) (Or.inl ⟨by rfl, ?_⟩) hHeld ?_
          rotate_left
          · (intro w hSw; (try dsimp only at hSw); go_simp <;> with_reducible rfl)
          try simp only [Act.put, List.setIfInBounds_toArray, List.set_cons_zero, List.set_cons_succ]
          refine wpAnyH_take (i := 6) (oi := { dst := some 110, op := Op.indexAddr 52 (Operand.tmp 108) (Operand.tmp 109), type := 0, pos := "law.go:65", after := #[{ on := 4, ground := Ground.data }, { on := 5, ground := Ground.data }], guard := none }) (v := ?_) rfl (by kernel_rfl) (by kernel_rfl) (by kernel_rfl) (fun _ _ _ h => h) (Or.inl ⟨by rfl, ?_⟩) hHeld ?_
          rotate_left
          · (intro w hSw; (try dsimp only at hSw); go_simp <;> with_reducible rfl)
          try simp only [Act.put, List.setIfInBounds_toArray, List.set_cons_zero, List.set_cons_succ]
          refine wpAnyH_take (i := 7) (oi := { dst := some 111, op := Op.load 26 (Operand.tmp 110), type := 26, pos := "law.go:65", after := #[{ on := 6, ground := Ground.data }], guard := none }) (v := ?_) rfl (by kernel_rfl) (by kernel_rfl) (by kernel_rfl) (fun _ _ _ h => h) (Or.inl ⟨by rfl, ?_⟩) hHeld ?_
          rotate_left
          · (intro w hSw; (try dsimp only at hSw); go_simp <;> with_reducible rfl)
          try simp only [Act.put, List.setIfInBounds_toArray, List.set_cons_zero, List.set_cons_succ]
          refine wpAnyH_ready (rs := [8]) (by kernel_rfl) (by simp) (AllReadyH.cons (o := { dst := some 112, op := Op.call { callee := Callee.value (Operand.func 21), args := #[Operand.tmp 107, Operand.tmp 111], argTypes := #[26, 26] }, type := 4, pos := "law.go:65", after := #[{ on := 3, ground := Ground.data }, { on := 7, ground := Ground.data }], guard := none }) rfl (fun K8 hK8 => ?_) AllReadyH.nil)
          go_simp
          refine (HSM.out _ hHeld).mono ?_
          rintro e w' ⟨rfl, hS2⟩
          refine hK8.out _ _ hS2 (fun hH_8 => ?_)
          clear hS2
          clear hK8 K8
          try simp only [Act.put, List.setIfInBounds_toArray, List.set_cons_zero, List.set_cons_succ]
          refine wpAnyH_take (i := 9) (oi := { dst := some 113, op := Op.unOp UnOp.not 4 (Operand.tmp 112), type := 4, pos := "law.go:65", after := #[{ on := 8, ground := Ground.data }], guard := none }) (v := ?_) rfl (by kernel_rfl) (by kernel_rfl) (by kernel_rfl) (fun _ _ _ h => h) (Or.inl ⟨by rfl, ?_⟩) hH_8 ?_
          rotate_left
          · (intro w hSw; (try dsimp only at hSw); go_simp <;> with_reducible rfl)
          try simp only [Act.put, List.setIfInBounds_toArray, List.set_cons_zero, List.set_cons_succ]
          refine wpAnyH_done (by kernel_rfl) ?_ _
          have hLast := Lib.hid hH_8
          clear hHeld hH_8
          obtain ⟨_, _, hb9⟩ := hLast.out
          have B9 := Lib.hid (HC.out.trans (hb9.mono HC.out.size))
          clear hLast hb9 hSS HSM cvo cvi
          go_wp2_with fail
          go_roundw
          case rel => exact ⟨i + 1, by omega, by go_num, B9⟩
          case measure => simp [intOf]; omega
        · have e1 : i = ln := by omega
          subst e1
          have hge : ¬ (i : Int) < i := by omega
          go_wp2_with fail
          go_ret
          exact ⟨rfl, B8.out.trans (HC.out.mono B8.out.size)⟩
theorem puts_true (na : Option Addr) (nn nc : Nat) (s : Nat → ByteArray) (la : Option Addr) (ln lc : Nat) (ad : Nat → Option Addr) (len cp : Nat → Nat) (G : Nat → Nat → CR) (w : World) (hnv : NV w na nn s) (hsz : ∀ i, i < nn → (s i).size ≤ 2000000) (hnc : nn ≤ nc) (hncm : nc ≤ maxLen) (hin : LIn w la ln ad len cp G) (hkm : ∀ i, i < ln → KM (len i) (G i)) (hq : ∀ i, i < ln → len i ≤ cp i ∧ cp i ≤ maxLen ∧ (ad i = none → len i = 0 ∧ cp i = 0)) (hlc : ln ≤ lc) (hlcm : lc ≤ maxLen) : Calls Try.prog 5 #[.slice na nn nc, .slice la ln lc] w fun e w' => e = .returned (.bool true) ∧ Below w.heap.size w w' := by
  by_cases h1 : 2100 < ln
  · exact puts_b na nn nc la ln lc w hnc hncm hlc hlcm h1
  by_cases h2 : ln ≤ 20
  · by_cases h3 : 2100 < nn
    · exact puts_c1 na nn nc la ln lc w hnc hncm hlc hlcm h2 h3
    · exact puts_d1 na nn nc s la ln lc ad len cp G w hnv hsz hnc hncm hin hkm hq hlc hlcm h2 (by omega) (by omega)
  by_cases h4 : ln ≤ 2048
  · exact puts_a na nn nc la ln lc w hnc hncm hlc hlcm (by omega) h4
  by_cases h3 : 2100 < nn
  · exact puts_c2 na nn nc la ln lc w hnc hncm hlc hlcm (by omega) (by omega) h3
  · exact puts_d2 na nn nc s la ln lc ad len cp G w hnv hsz hnc hncm hin hkm hq hlc hlcm (by omega) (by omega) (by omega)
end Go.Proofs.Ytfmgkndljppffaa

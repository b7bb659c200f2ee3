/- Layer 3: the document's Put. -/
import Derived.Test.YtfmgkndljppffaaRB
namespace Go.Proofs.Ytfmgkndljppffaa
open Go.RowKit Go.Maps
theorem own_news {w : World} {B n : Nat} {q c : Nat} {L : List Value} (h : w.ownsRow B 32 5 (.slice (some ⟨q, 0, none⟩) n c) n L) : ∀ j u, L[j]? = some u → w.cell? ((⟨q, 0, none⟩ : Addr).add j) = some u := by
  intro j u hj
  rw [Addr.add_lit, Nat.zero_add, h.cellAt j (by have := (List.getElem?_eq_some_iff.1 hj).1; have := h.1; omega)]
  exact hj
def PPost (w : World) (L : List CR) (r : Ending) (w' : World) : Prop := ∃ v, r = .returned v ∧ w'.ownsRow w.heap.size 32 5 v L.length (rw5 L) ∧ Below w.heap.size w w'
set_option maxRecDepth 20000 in
set_option maxHeartbeats 4000000 in
theorem rPut_any (k : Nat) (hk : k = 6 ∨ k = 7) (na la : Option Addr) (nn nc ln lc : Nat) (s : Nat → ByteArray) (ad : Nat → Option Addr) (len cp : Nat → Nat) (G : Nat → Nat → CR) (w : World) (hl : ln ≤ 2048) (hin : LIn w la ln ad len cp G) (hlen : ∀ i, i < ln → 0 < len i ∧ len i ≤ 2048) (hnv : k = 7 → NV w na ln s) (hnn : k = 7 → nn = ln) :
    Calls Try.prog 62 #[.int .u8 k, .slice na nn nc, .slice la ln lc] w (PPost w (preL k ln s len G ln)) := by
  obtain ⟨i0, hi, hz0, hz1, hz2⟩ := infoC
  have HP := Lib.hid (pre_succ k ln s len G)
  have HLS := Lib.hid (fun i => show lsF k s len G i = if k = 7 then ren (s i) (cut (G i) 0 (len i)) else cut (G i) 0 (len i) from rfl)
  have HLL := Lib.hid (ls_len k s len G)
  have HIN := Lib.hid hin
  have HNV := Lib.hid hnv
  have HLEN := Lib.hid hlen
  have hk0 : (0 : Int) ≤ k := by omega
  have P0 := Lib.hid (show preL k ln s len G 0 = [hdC k ln] from rfl)
  have O0 : Hid ((w.alloc (.cells #[.int .u8 k, .string ⟨#[]⟩, .string ⟨#[]⟩, .int .i64 0, .int .i64 ln] 32)).ownsRow w.heap.size 32 5 (.slice (some ⟨w.heap.size, 0, none⟩) 1 1) 1 (rw5 (preL k ln s len G 0))) := Lib.hid (World.ownsRow_lit (base := w.heap.size) (e := 32) (size := 5) w #[.int .u8 k, .string ⟨#[]⟩, .string ⟨#[]⟩, .int .i64 0, .int .i64 ln] 1 (Nat.le_refl _) (by decide) rfl)
  obtain ⟨pre, hpre⟩ : ∃ p, p = preL k ln s len G := ⟨_, rfl⟩
  have hp1 : Hid ((pre 0).length = 1) := Lib.hid (by rw [hpre]; rfl)
  rw [← hpre] at HP O0 ⊢
  clear hpre P0 hin hnv hlen
  have B0 := Lib.hid ((Below.refl w.heap.size w).alloc (Nat.le_refl _) (.cells #[.int .u8 k, .string ⟨#[]⟩, .string ⟨#[]⟩, .int .i64 0, .int .i64 ln] 32))
  go_enter Try.func62, Try.ntmps62
  go_wp2_with fail
  go_loopw [7, 8] (fun v7 v8 wr => ∃ i : Nat, i ≤ ln ∧ v8 = .int .i64 i ∧ Hid (wr.ownsRow w.heap.size 32 5 v7 (pre i).length (rw5 (pre i))) ∧ Hid (Below w.heap.size w wr) ∧ Hid (1 ≤ (pre i).length ∧ (pre i).length ≤ 1 + 2048 * i)) (fun _ v8 _ => ln - (intOf v8).toNat)
  case atStart => exact ⟨0, Nat.zero_le _, rfl, by rw [hp1.out]; exact O0, B0, Lib.hid (by rw [hp1.out]; omega)⟩
  case round =>
    obtain ⟨i, hi1, rfl, HO, HB, HN⟩ := hrel
    clear O0 B0
    by_cases hlt : i < ln
    · obtain ⟨b, off, rfl, hbl, cl⟩ := (HIN.out.below HB.out).at_ i hlt
      have hg0 : (0 : Int) ≤ i := by omega
      have hg1 : (i : Int) < ln := by omega
      have hlen := HLEN.out i hlt
      have hm1 : 0 < len i := hlen.1
      have hm2 : len i ≤ 2048 := hlen.2
      have HCV := Lib.hid ((HIN.out.below HB.out).cv i hlt)
      obtain ⟨b2, off2, he2⟩ := HCV.out.addr hm1
      rw [he2] at cl HCV
      have HT := Lib.hid (rtwin_any (some ⟨b2, off2, none⟩) (len i) (cp i) (G i) wr HCV.out (by omega) (fun e => by cases e))
      unfold TwinPost at HT
      have HCL : Hid ((cut (G i) 0 (len i)).length = len i) := Lib.hid (by rw [cut_len, Nat.sub_zero])
      obtain ⟨np, hnp⟩ : ∃ np, np = (pre i).length := ⟨_, rfl⟩
      have hnp1 := HN.out
      rw [← hnp] at HO hnp1
      obtain ⟨hnp2, hnp3⟩ := hnp1
      replace hnp := Lib.hid hnp
      have hile : i < 2048 := by omega
      have hl0 : (0 : Int) < (len i : Int) := by omega
      obtain ⟨oq, oc, rfl, hoq1, hoq2⟩ := own_addr HO.out (by omega)
      obtain ⟨CT, hCT⟩ : ∃ x, x = cut (G i) 0 (len i) := ⟨_, rfl⟩
      rw [← hCT] at HT HCL
      obtain ⟨ml, hml⟩ : ∃ x, x = len i := ⟨_, rfl⟩
      rw [← hml] at HT HCL cl hm1 hm2 hl0
      have HLi : Hid (pre (i + 1) = pre i ++ (if k = 7 then ren (s i) CT else CT)) := Lib.hid (by rw [HP.out, HLS.out, hCT])
      clear hCT hml hlen HCV he2 hoq1 hoq2
      rcases hk with hk | hk
      · have hk7 : ((k : Int) == 7) = false := by rw [beq_eq_false_iff_ne]; omega
        have hpi : Hid (pre (i + 1) = pre i ++ CT) := Lib.hid (by rw [HLi.out, if_neg (by omega)])
        have HLN : Hid ((pre (i + 1)).length = np + ml) := Lib.hid (by rw [hpi.out, List.length_append, ← hnp.out, HCL.out])
        replace hk := Lib.hid hk
        clear HLi
        go_wp2_with fail
        with_reducible refine HT.out.mono ?_
        rintro e w1 ⟨v1, rfl, o1, b1⟩
        have B1 := Lib.hid (HB.out.trans (b1.mono HB.out.size))
        have O1 := Lib.hid (own_below HO.out b1)
        obtain ⟨q, c, rfl, hq1, hq2⟩ := own_addr o1 hm1
        have N1 := Lib.hid (own_news o1)
        have H1 := Lib.hid (rw5_one CT)
        have HL1 : Hid ((rw5 CT).length = ml * 5) := Lib.hid (by rw [rw5_len, HCL.out])
        have hs1 : w.heap.size ≤ w1.heap.size := B1.out.size
        clear b1 o1 HO HT hq1 hq2 cl
        go_wp2_with (at_builtin; refine wpList_append_own _ rfl _ _ 26 rfl w.heap.size 32 i0 (.agg #[.int .u8 0, .string ⟨#[]⟩, .string ⟨#[]⟩, .int .i64 0, .int .i64 0]) 5 56 Try.underlying26 hi hz0 hz1 hz2 rfl (by decide) _ _ _ rfl O1.out ⟨q, 0, none⟩ ml c (rw5 CT) rfl HL1.out N1.out H1.out (by unfold maxLen; omega) (by omega) hs1 ?_; intro v2 w2 ho2 hg2 _; have B2 : Hid (Below w.heap.size w w2) := Lib.hid (B1.out.grown hg2 hs1 (fun r hr => (O1.out.lt r hr).1)); have O2 : Hid (w2.ownsRow w.heap.size 32 5 v2 (np + ml) (rw5 (pre i ++ CT))) := Lib.hid (by rw [rw5_app]; exact ho2); clear ho2 hg2)
        go_roundw
        case rel => exact ⟨i + 1, by omega, by go_num, Lib.hid (by rw [HLN.out, hpi.out]; exact O2.out), B2, Lib.hid (by rw [HLN.out]; omega)⟩
        case measure => simp [intOf]; omega
      · have hk7 : ((k : Int) == 7) = true := by rw [beq_iff_eq]; omega
        have hpi : Hid (pre (i + 1) = pre i ++ ren (s i) CT) := Lib.hid (by rw [HLi.out, if_pos hk])
        have HLN : Hid ((pre (i + 1)).length = np + ml) := Lib.hid (by rw [hpi.out, List.length_append, ren_len, ← hnp.out, HCL.out])
        obtain ⟨bn, on, rfl, hbn, cn⟩ := ((HNV.out hk).below HB.out) i hlt
        have hnl := hnn hk
        subst hnl
        replace hk := Lib.hid hk
        obtain ⟨sn, hsn⟩ : ∃ x, x = s i := ⟨_, rfl⟩
        rw [← hsn] at cn hpi
        clear HLi hsn
        go_wp2_with fail
        with_reducible refine HT.out.mono ?_
        rintro e w1 ⟨v1, rfl, o1, b1⟩
        have B1 := Lib.hid (HB.out.trans (b1.mono HB.out.size))
        have O1 := Lib.hid (own_below HO.out b1)
        have FO := Lib.hid (own_far HO.out o1 (Nat.le_refl _))
        have cn1 := (b1.cell (p := ⟨bn, on + i, none⟩) hbn).trans cn
        obtain ⟨q, c, rfl, hq1, hq2⟩ := own_addr o1 hm1
        have k3 := own_cellq o1 hm1 HCL.out
        rw [Nat.zero_mul, Nat.zero_add] at k3
        obtain ⟨k4, k5⟩ := k3
        have X2 := Lib.hid (own_set o1 HCL.out hm1 sn)
        rw [Nat.zero_mul, Nat.zero_add, setNm_zero] at X2
        have O2 := Lib.hid (O1.out.kept (grown_set' w1 q 1 (.string sn)) (by rcases FO.out with h | h; exact .inl h; exact .inr h))
        have B2 : Hid (Below w.heap.size w (w1.setCell ⟨q, 1, none⟩ (.string sn))) := Lib.hid (B1.out.setCell (p := ⟨q, 1, none⟩) (Nat.le_trans HB.out.size hq1) _)
        clear b1 o1 HO HT hq1 hq2 cl cn
        obtain ⟨w3, hw3⟩ : ∃ x, x = w1.setCell ⟨q, 1, none⟩ (.string sn) := ⟨_, rfl⟩
        rw [← hw3] at X2 O2 B2
        have N1 := Lib.hid (own_news X2.out)
        have H1 := Lib.hid (rw5_one (ren sn CT))
        have HL1 : Hid ((rw5 (ren sn CT)).length = ml * 5) := Lib.hid (by rw [rw5_len, ren_len, HCL.out])
        have hs1 : w.heap.size ≤ w3.heap.size := B2.out.size
        have HW3 := Lib.hid hw3
        clear hw3 X2 B1 O1 FO
        rw [HW3.out] at hs1 O2 N1 B2
        go_wp2_with (at_builtin; refine wpList_append_own _ rfl _ _ 26 rfl w.heap.size 32 i0 (.agg #[.int .u8 0, .string ⟨#[]⟩, .string ⟨#[]⟩, .int .i64 0, .int .i64 0]) 5 56 Try.underlying26 hi hz0 hz1 hz2 rfl (by decide) _ _ _ rfl O2.out ⟨q, 0, none⟩ ml c (rw5 (ren sn CT)) rfl HL1.out N1.out H1.out (by unfold maxLen; omega) (by omega) hs1 ?_; intro v2 w2 ho2 hg2 _; have B4 : Hid (Below w.heap.size w w2) := Lib.hid (B2.out.grown hg2 hs1 (fun r hr => (O2.out.lt r hr).1)); have O4 : Hid (w2.ownsRow w.heap.size 32 5 v2 (np + ml) (rw5 (pre i ++ ren sn CT))) := Lib.hid (by rw [rw5_app]; exact ho2); clear ho2 hg2)
        go_roundw
        case rel => exact ⟨i + 1, by omega, by go_num, Lib.hid (by rw [HLN.out, hpi.out]; exact O4.out), B4, Lib.hid (by rw [HLN.out]; omega)⟩
        case measure => simp [intOf]; omega
    · have e1 : i = ln := by omega
      subst e1
      have hge : ¬ (i : Int) < i := by omega
      go_wp2_with fail
      go_ret
      exact ⟨_, rfl, HO.out, HB.out⟩
end Go.Proofs.Ytfmgkndljppffaa

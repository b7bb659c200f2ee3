import Derived.Test.YtepjehneembakaaE20
namespace Go.Proofs.Ytepjehneembakaa
open Go.RowKit

theorem wh_parts {s : ByteArray} {t : Int} (hck : ckE s = 0) : (whL s t = if (wh s t).ok then (wh s t).l else 0) ∧ (whC s t = if (wh s t).ok then (wh s t).c else 0) ∧ (whE s t = if (wh s t).ok then 0 else 2) := by
  unfold whL whC whE; simp [hck]
theorem wh_done {s : ByteArray} {t lv cv : Int} {x : Bool} (hck : ckE s = 0) (h : LC.mk lv cv x = wh s t) : whL s t = (if x then lv else 0) ∧ whC s t = (if x then cv else 0) ∧ whE s t = (if x then 0 else 2) := by
  have := wh_parts (t := t) hck
  rw [← h] at this
  exact this

set_option maxHeartbeats 2000000 in
theorem rwhere_any (s : ByteArray) (t : Int) (w : World) (hs : s.size ≤ 1000000) (ht0 : -9223372036854775808 ≤ t) (ht1 : t ≤ 9223372036854775807) :
    Calls Try.prog 18 #[.string s, .int .i64 t] w fun r w' => r = .returned (.tuple #[.int .i64 (whL s t), .int .i64 (whC s t), .int .i64 (whE s t)]) ∧ Below w.heap.size w w' := by
  by_cases hck : ckE s = 0
  · have htx : txF s s.size 0 = true := (ck_tx hck).1
    have hsmall := (ck_tx hck).2
    have HCK := Lib.hid hck
    have HTX := Lib.hid htx
    clear hck htx
    go_enter Try.func18, Try.ntmps18
    go_wp2_with fail
    refine (rcheck_any s _ hs).mono ?_
    rintro e w1 ⟨rfl, b1⟩
    rw [HCK.out]
    have HB1 := Lib.hid b1
    clear b1
    go_wp2_with fail
    go_loopg [8, 9, 10] s.size (fun f l c i wr => ∃ (a : Nat) (lv cv : Int), s.size - a ≤ f ∧ a ≤ s.size ∧ l = .int .i64 lv ∧ c = .int .i64 cv ∧ i = .int .i64 a ∧ 1 ≤ lv ∧ 1 ≤ cv ∧ lv ≤ a + 1 ∧ cv ≤ a + 1 ∧ txF s f a = true ∧ whF s t f a lv cv = wh s t ∧ Below w.heap.size w wr)
    case atStart => exact ⟨0, 1, 1, by omega, by omega, rfl, rfl, rfl, by omega, by omega, by omega, by omega, HTX.out, rfl, HB1.out⟩
    case round =>
      obtain ⟨a, lv, cv, hf, ha, rfl, rfl, rfl, l0, c0, l1, c1, htx, hwh, hb⟩ := hrel
      have HB := Lib.hid hb
      clear hb
      by_cases hta : (a : Int) < t
      · by_cases hlt : a < s.size
        · have hlt' : (a : Int) < (s.size : Int) := by omega
          rw [txF_step hlt hf] at htx
          rw [whF_step hlt hf, if_neg (by omega)] at hwh
          simp only [Bool.and_eq_true] at htx
          have h0 := (decIs_lead htx.1).1
          have hin := dec_in hlt htx.1
          have h4 := leadN_le (byt s a)
          have hnx := nx_at hlt
          have hdn := decN_eq s a
          rw [htx.1] at hdn
          simp at hdn
          have hn2 : nxN s a = leadN (byt s a) := by rw [hnx.2.1, hdn.1]
          obtain ⟨z, hz⟩ : ∃ z, z = leadN (byt s a) := ⟨_, rfl⟩
          obtain ⟨p, hp⟩ : ∃ p, p = decP s a := ⟨_, rfl⟩
          obtain ⟨e, he⟩ : ∃ e, e = nxE s a := ⟨_, rfl⟩
          have HP : Hid (nxP s a = p) := Lib.hid (by rw [hnx.1, hp])
          have HE := Lib.hid he
          rw [← hz, ← hp] at hwh
          rw [← hz] at h0 hin h4 hn2
          have htx2 := htx.2
          rw [← hz] at htx2
          have HN := Lib.hid hn2
          have HTX2 := Lib.hid htx2
          have HWH := Lib.hid hwh
          have HTA := Lib.hid hta
          clear hnx hdn hn2 hz hp he htx htx2 hwh hta hlt
          by_cases hp10 : p = 10
          · subst hp10
            have hend : ends s 10 (a + z) = true := by unfold ends; simp
            have hs1 := Lib.hid (show stL s 10 (a + z) lv = lv + 1 by unfold stL; rw [hend]; rfl)
            have hs2 := Lib.hid (show stC s 10 (a + z) cv = 1 by unfold stC; rw [hend]; rfl)
            clear hend
            have hta : (a : Int) < t := HTA.out
            go_wp2_with fail
            refine (rnext_any s a _ hs).mono ?_
            rintro e1 w2 ⟨rfl, b2⟩
            rw [HP.out, HN.out, ← HE.out]
            have HB2 := Lib.hid (HB.out.trans (b2.mono HB.out.size))
            clear b2
            go_wp2_with fail
            go_roundg (gk - 1)
            case rel => exact ⟨a + z, lv + 1, 1, by omega, hin, by go_num, rfl, by go_num, by omega, by omega, by omega, by omega, HTX2.out, by rw [← HWH.out, hs1.out, hs2.out], HB2.out⟩
            case measure => omega
          · by_cases hp13 : p = 13
            · subst hp13
              by_cases hen : a + z = s.size
              · have hq : ((a : Int) + (z : Int) == (s.size : Int)) = true := by simp; omega
                have hend : ends s 13 (a + z) = true := by unfold ends; simp [hen]
                clear hen hp10
                have hs1 := Lib.hid (show stL s 13 (a + z) lv = lv + 1 by unfold stL; rw [hend]; rfl)
                have hs2 := Lib.hid (show stC s 13 (a + z) cv = 1 by unfold stC; rw [hend]; rfl)
                clear hend
                have hta : (a : Int) < t := HTA.out
                go_wp2_with fail
                refine (rnext_any s a _ hs).mono ?_
                rintro e1 w2 ⟨rfl, b2⟩
                rw [HP.out, HN.out, ← HE.out]
                have HB2 := Lib.hid (HB.out.trans (b2.mono HB.out.size))
                clear b2
                go_wp2_with fail
                go_roundg (gk - 1)
                case rel => exact ⟨a + z, lv + 1, 1, by omega, hin, by go_num, rfl, by go_num, by omega, by omega, by omega, by omega, HTX2.out, by rw [← HWH.out, hs1.out, hs2.out], HB2.out⟩
                case measure => omega
              · have hlt2 : a + z < s.size := by omega
                have hq : ((a : Int) + (z : Int) == (s.size : Int)) = false := by simp; omega
                have hbk := byt_eq s (a + z) hlt2
                obtain ⟨b, hb⟩ : ∃ b, b = byt s (a + z) := ⟨_, rfl⟩
                rw [← hb] at hbk
                by_cases h10 : b = 10
                · subst h10
                  have hend : ends s 13 (a + z) = false := by unfold ends; simp [hen, ← hb]
                  clear hen hp10 hb
                  have hs1 := Lib.hid (show stL s 13 (a + z) lv = lv by unfold stL; rw [hend]; rfl)
                  have hs2 := Lib.hid (show stC s 13 (a + z) cv = cv + 1 by unfold stC; rw [hend]; rfl)
                  clear hend
                  have hta : (a : Int) < t := HTA.out
                  go_wp2_with fail
                  refine (rnext_any s a _ hs).mono ?_
                  rintro e1 w2 ⟨rfl, b2⟩
                  rw [HP.out, HN.out, ← HE.out]
                  have HB2 := Lib.hid (HB.out.trans (b2.mono HB.out.size))
                  clear b2
                  go_wp2_with fail
                  go_roundg (gk - 1)
                  case rel => exact ⟨a + z, lv, cv + 1, by omega, hin, rfl, by go_num, by go_num, by omega, by omega, by omega, by omega, HTX2.out, by rw [← HWH.out, hs1.out, hs2.out], HB2.out⟩
                  case measure => omega
                · have hq2 : (b != 10) = true := by simp [h10]
                  have hend : ends s 13 (a + z) = true := by unfold ends; simp [hen, ← hb, h10]
                  clear hen hp10 hb h10
                  have hs1 := Lib.hid (show stL s 13 (a + z) lv = lv + 1 by unfold stL; rw [hend]; rfl)
                  have hs2 := Lib.hid (show stC s 13 (a + z) cv = 1 by unfold stC; rw [hend]; rfl)
                  clear hend
                  have hta : (a : Int) < t := HTA.out
                  go_wp2_with fail
                  refine (rnext_any s a _ hs).mono ?_
                  rintro e1 w2 ⟨rfl, b2⟩
                  rw [HP.out, HN.out, ← HE.out]
                  have HB2 := Lib.hid (HB.out.trans (b2.mono HB.out.size))
                  clear b2
                  go_wp2_with fail
                  go_roundg (gk - 1)
                  case rel => exact ⟨a + z, lv + 1, 1, by omega, hin, by go_num, rfl, by go_num, by omega, by omega, by omega, by omega, HTX2.out, by rw [← HWH.out, hs1.out, hs2.out], HB2.out⟩
                  case measure => omega
            · have hq1 : (p == 10) = false := by simp [hp10]
              have hq3 : (p == 13) = false := by simp [hp13]
              have hend : ends s p (a + z) = false := by unfold ends; rw [if_neg hp13]; simp [hp10]
              clear hp10 hp13
              have hs1 := Lib.hid (show stL s p (a + z) lv = lv by unfold stL; rw [hend]; rfl)
              have hs2 := Lib.hid (show stC s p (a + z) cv = cv + 1 by unfold stC; rw [hend]; rfl)
              clear hend
              have hta : (a : Int) < t := HTA.out
              go_wp2_with fail
              refine (rnext_any s a _ hs).mono ?_
              rintro e1 w2 ⟨rfl, b2⟩
              rw [HP.out, HN.out, ← HE.out]
              have HB2 := Lib.hid (HB.out.trans (b2.mono HB.out.size))
              clear b2
              go_wp2_with fail
              go_roundg (gk - 1)
              case rel => exact ⟨a + z, lv, cv + 1, by omega, hin, rfl, by go_num, by go_num, by omega, by omega, by omega, by omega, HTX2.out, by rw [← HWH.out, hs1.out, hs2.out], HB2.out⟩
              case measure => omega
        · rw [whF_end (by omega)] at hwh
          have hR := wh_done HCK.out hwh
          rw [decide_eq_false (by omega)] at hR
          have HR := Lib.hid hR
          have hlt' : ¬ (a : Int) < (s.size : Int) := by omega
          have hne : ((a : Int) != t) = true := by simp; omega
          clear hwh hR htx
          go_wp2_with fail
          go_ret3
          exact ⟨ret3 HR.out.1.symm HR.out.2.1.symm HR.out.2.2.symm, HB.out⟩
      · have hwh2 : LC.mk lv cv (decide ((a : Int) = t)) = wh s t := by
          by_cases hlt : a < s.size
          · rw [whF_step hlt hf, if_pos (by omega)] at hwh; exact hwh
          · rw [whF_end (by omega)] at hwh
            rw [← hwh]
            obtain rfl : a = s.size := by omega
            rw [show decide ((s.size : Int) = t) = decide (t = (s.size : Int)) from decide_eq_decide.2 ⟨Eq.symm, Eq.symm⟩]
        have hR := wh_done HCK.out hwh2
        by_cases heq : (a : Int) = t
        · rw [decide_eq_true heq] at hR
          have HR := Lib.hid hR
          have hne : ((a : Int) != t) = false := by simp [heq]
          clear hwh hwh2 hR htx heq
          go_wp2_with fail
          go_ret3
          exact ⟨ret3 HR.out.1.symm HR.out.2.1.symm HR.out.2.2.symm, HB.out⟩
        · rw [decide_eq_false heq] at hR
          have HR := Lib.hid hR
          have hne : ((a : Int) != t) = true := by simp [heq]
          clear hwh hwh2 hR htx heq
          go_wp2_with fail
          go_ret3
          exact ⟨ret3 HR.out.1.symm HR.out.2.1.symm HR.out.2.2.symm, HB.out⟩
  · have hR : whL s t = 0 ∧ whC s t = 0 ∧ whE s t = ckE s := by
      unfold whL whC whE; simp [hck]
    have HR := Lib.hid hR
    have hb : (ckE s != 0) = true := by simp [hck]
    clear hR hck
    go_enter Try.func18, Try.ntmps18
    go_wp2_with fail
    refine (rcheck_any s _ hs).mono ?_
    rintro e w1 ⟨rfl, b1⟩
    go_wp2_with fail
    go_ret3
    exact ⟨ret3 HR.out.1.symm HR.out.2.1.symm HR.out.2.2.symm, b1⟩
end Go.Proofs.Ytepjehneembakaa

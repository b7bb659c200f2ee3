import Derived.Test.YtoicmcjpaodgpaaDoorK12
import Derived.Test.YtoicmcjpaodgpaaDoorK11
import Derived.Test.YtoicmcjpaodgpaaDoorK8
import Derived.Deep.DeepCutAuto
import Derived.Test.YtoicmcjpaodgpaaDoorK4
import Derived.Test.YtoicmcjpaodgpaaDoorK5
import Derived.Test.YtoicmcjpaodgpaaDoorK10
import Derived.Test.YtoicmcjpaodgpaaDoorK9
/- Layer 4, the document's Read: a fraction, an exponent. -/
namespace Go.Proofs.YtoicmcjpaodgpaaDoor
open Go.RowKit Go.Maps
set_option maxRecDepth 20000 in
set_option maxHeartbeats 4000000 in
theorem rmoreF_any {p i : Nat} {s : ByteArray} {v : Value} {L : List CR} (w : World) (h : RfB w p s i v L 0) (hs : s.size ≤ 1000000) (hi : i ≤ s.size) : Calls Tryd.prog 63 #[.pointer (some ⟨p, 0, none⟩), .bool false] w fun e w' => e = .returned (.bool (decide (fracM s i ≠ i))) ∧ RfB w' p s (fracM s i) v L 0 ∧ Fr p v v w w' := by
  obtain ⟨J, hJ⟩ : ∃ J, J = fracM s i := ⟨_, rfl⟩
  obtain ⟨O, hO⟩ : ∃ O, O = decide (fracM s i ≠ i) := ⟨_, rfl⟩
  rw [← hJ] at hO ⊢
  rw [← hO]
  unfold fracM at hJ
  have HP := Lib.hid (fun W (d : Dr w W) => (rlook_any W (h.dr d).1 (by omega) (by omega)).mono (fun e W' k => And.intro k.1 (d.trans k.2)))
  have e1 : lk s 0 i = byt s i := rfl
  rw [e1] at HP
  have H := Lib.hid h
  have hi2 : (i : Int) ≤ s.size := by omega
  have hs2 : (s.size : Int) ≤ 1000000 := by omega
  have D : Hid (Dr w w) := Lib.hid (Dr.refl _)
  have c0 := h.c0
  have c1 := h.c1
  clear h e1
  by_cases hb : byt s i = 46
  · have hin : i < s.size := byt_in (by omega)
    rw [if_pos hb] at hJ
    rw [hb] at HP
    clear hb
    by_cases hcs : s.size ≤ i + 1
    · have hcs' : (s.size : Int) ≤ (i : Int) + 1 := by omega
      have hdg : dg s (i + 1) = i + 1 := dg_stop (by rw [byt_end hcs]; decide)
      have HJ : Hid (J = i) := Lib.hid (by rw [hJ, if_pos hdg])
      have HO : Hid (O = false) := Lib.hid (by rw [hO, HJ.out]; simp)
      clear hJ hO hdg
      go_enter Tryd.func63, Tryd.ntmps63
      go_wp2_with (go_at_call 35; refine (HP.out _ D.out).mono ?_; rintro e w1 ⟨rfl, d⟩; have D := Lib.hid d; have cc0 := (H.out.dr d).1.c0; have cc1 := (H.out.dr d).1.c1; have zz1 := (H.out.dr d).1.z 1; clear d)
      go_ret
      exact ⟨by rw [HO.out]; rfl, by rw [HJ.out]; exact (H.out.dr D.out).1, (H.out.dr D.out).2⟩
    · have hcl : i + 1 < s.size := by omega
      have hcl' : (i : Int) + 1 < (s.size : Int) := by omega
      have hc0 : (0 : Int) ≤ (i : Int) + 1 := by omega
      have hbe := byt_eq s (i + 1) hcl
      by_cases h1 : byt s (i + 1) < 48
      · have x1 : ((s[i + 1]'hcl).toNat : Int) < 48 := by omega
        have hdg : dg s (i + 1) = i + 1 := dg_stop (by unfold isDg; simp; omega)
        have HJ : Hid (J = i) := Lib.hid (by rw [hJ, if_pos hdg])
        have HO : Hid (O = false) := Lib.hid (by rw [hO, HJ.out]; simp)
        clear hJ hO hdg hbe h1
        go_enter Tryd.func63, Tryd.ntmps63
        go_wp2_with (go_at_call 35; refine (HP.out _ D.out).mono ?_; rintro e w1 ⟨rfl, d⟩; have D := Lib.hid d; have cc0 := (H.out.dr d).1.c0; have cc1 := (H.out.dr d).1.c1; have zz1 := (H.out.dr d).1.z 1; clear d)
        go_ret
        exact ⟨by rw [HO.out]; rfl, by rw [HJ.out]; exact (H.out.dr D.out).1, (H.out.dr D.out).2⟩
      by_cases h2 : 57 < byt s (i + 1)
      · have x1 : ¬ ((s[i + 1]'hcl).toNat : Int) < 48 := by omega
        have x2 : (57 : Int) < ((s[i + 1]'hcl).toNat : Int) := by omega
        have hdg : dg s (i + 1) = i + 1 := dg_stop (by unfold isDg; simp; omega)
        have HJ : Hid (J = i) := Lib.hid (by rw [hJ, if_pos hdg])
        have HO : Hid (O = false) := Lib.hid (by rw [hO, HJ.out]; simp)
        clear hJ hO hdg hbe h1 h2
        go_enter Tryd.func63, Tryd.ntmps63
        go_wp2_with (go_at_call 35; refine (HP.out _ D.out).mono ?_; rintro e w1 ⟨rfl, d⟩; have D := Lib.hid d; have cc0 := (H.out.dr d).1.c0; have cc1 := (H.out.dr d).1.c1; have zz1 := (H.out.dr d).1.z 1; clear d)
        go_ret
        exact ⟨by rw [HO.out]; rfl, by rw [HJ.out]; exact (H.out.dr D.out).1, (H.out.dr D.out).2⟩
      · have x1 : ¬ ((s[i + 1]'hcl).toNat : Int) < 48 := by omega
        have x2 : ¬ (57 : Int) < ((s[i + 1]'hcl).toNat : Int) := by omega
        have hst := dg_step (s := s) (i := i + 1) (by unfold isDg; simp; omega)
        have hge := dg_ge s (i + 1 + 1)
        have hdg : ¬ dg s (i + 1) = i + 1 := by omega
        have HJ : Hid (J = dg s (i + 1)) := Lib.hid (by rw [hJ, if_neg hdg])
        have HO : Hid (O = true) := Lib.hid (by rw [hO, HJ.out]; simp; omega)
        have HD := Lib.hid (fun W (r : RfB W p s (i + 1) v L 0) => rdigs_any W r hs (by omega))
        rw [if_neg hdg] at HD
        have HD1 : Hid (∀ W, RfB W p s (i + 1) v L 0 → Calls Tryd.prog 62 #[.pointer (some ⟨p, 0, none⟩)] W fun e w' => e = .returned (.tuple #[]) ∧ RfB w' p s (dg s (i + 1)) v L 0 ∧ Fr p v v W w') := Lib.hid HD.out
        clear hJ hO hdg hbe h1 h2 hst hge HD
        go_enter Tryd.func63, Tryd.ntmps63
        go_wp2_with (go_at_call 35; refine (HP.out _ D.out).mono ?_; rintro e w1 ⟨rfl, d⟩; have D := Lib.hid d; have cc0 := (H.out.dr d).1.c0; have cc1 := (H.out.dr d).1.c1; have zz1 := (H.out.dr d).1.z 1; clear d)
        have RN := Lib.hid (And.intro ((H.out.dr D.out).1.at_ (i + 1) ((i : Int) + 1) (by omega)).1 ((H.out.dr D.out).2.trans ((H.out.dr D.out).1.at_ (i + 1) ((i : Int) + 1) (by omega)).2))
        refine (HD1.out _ RN.out.1).mono ?_
        rintro e w5 ⟨rfl, r5, f5⟩
        have R5 := Lib.hid (And.intro r5 (RN.out.2.trans f5))
        clear r5 f5
        go_wp2_with fail
        go_ret
        exact ⟨by rw [HO.out]; rfl, by rw [HJ.out]; exact R5.out.1, R5.out.2⟩
  · rw [if_neg hb] at hJ
    have HJ : Hid (J = i) := Lib.hid hJ
    have HO : Hid (O = false) := Lib.hid (by rw [hO, HJ.out]; simp)
    obtain ⟨b, hbb⟩ : ∃ b, b = byt s i := ⟨_, rfl⟩
    rw [← hbb] at HP hb
    have hbn : (b != 46) = true := by simp only [bne, beq_eq_false_iff_ne.2 hb]; rfl
    clear hJ hO hbb
    go_enter Tryd.func63, Tryd.ntmps63
    go_wp2_with (go_at_call 35; refine (HP.out _ D.out).mono ?_; rintro e w1 ⟨rfl, d⟩; have D := Lib.hid d; have cc0 := (H.out.dr d).1.c0; have cc1 := (H.out.dr d).1.c1; have zz1 := (H.out.dr d).1.z 1; clear d)
    go_ret
    exact ⟨by rw [HO.out]; rfl, by rw [HJ.out]; exact (H.out.dr D.out).1, (H.out.dr D.out).2⟩
set_option maxRecDepth 20000 in
set_option maxHeartbeats 8000000 in
theorem rmoreE_any {p i : Nat} {s : ByteArray} {v : Value} {L : List CR} (w : World) (h : RfB w p s i v L 0) (hs : s.size ≤ 1000000) (hi : i ≤ s.size) : Calls Tryd.prog 63 #[.pointer (some ⟨p, 0, none⟩), .bool true] w fun e w' => e = .returned (.bool (decide (expoM s i ≠ i))) ∧ RfB w' p s (expoM s i) v L 0 ∧ Fr p v v w w' := by
  obtain ⟨J, hJ⟩ : ∃ J, J = expoM s i := ⟨_, rfl⟩
  obtain ⟨O, hO⟩ : ∃ O, O = decide (expoM s i ≠ i) := ⟨_, rfl⟩
  rw [← hJ] at hO ⊢
  rw [← hO]
  unfold expoM at hJ
  have HP := Lib.hid (fun W (d : Dr w W) => (rlook_any W (h.dr d).1 (by omega) (by omega)).mono (fun e W' k => And.intro k.1 (d.trans k.2)))
  have e1 : lk s 0 i = byt s i := rfl
  rw [e1] at HP
  have H := Lib.hid h
  have hi2 : (i : Int) ≤ s.size := by omega
  have hs2 : (s.size : Int) ≤ 1000000 := by omega
  have D : Hid (Dr w w) := Lib.hid (Dr.refl _)
  have c0 := h.c0
  have c1 := h.c1
  clear h e1
  by_cases hb : byt s i = 101
  · have hin : i < s.size := byt_in (by omega)
    rw [if_pos (by omega)] at hJ
    dsimp only at hJ
    rw [hb] at HP
    clear hb
    by_cases hn1 : i + 1 < s.size
    · have hn1' : (i : Int) + 1 < s.size := by omega
      have hn0 : (0 : Int) ≤ (i : Int) + 1 := by omega
      have hbs := byt_eq s (i + 1) hn1
      by_cases g43 : byt s (i + 1) = 43
      · rw [show (if byt s (i + 1) = 43 ∨ byt s (i + 1) = 45 then i + 2 else i + 1) = i + 1 + 1 from if_pos (.inl g43)] at hJ
        have y1 : ((s[i + 1]'hn1).toNat : Int) = 43 := by omega
        clear hbs g43
        by_cases hcs : s.size ≤ i + 1 + 1
        · have hcs' : (s.size : Int) ≤ (i : Int) + 1 + 1 := by omega
          have hdg : dg s (i + 1 + 1) = i + 1 + 1 := dg_stop (by rw [byt_end hcs]; decide)
          have HJ : Hid (J = i) := Lib.hid (by rw [hJ, if_pos hdg])
          have HO : Hid (O = false) := Lib.hid (by rw [hO, HJ.out]; simp)
          clear hJ hO hdg
          go_enter Tryd.func63, Tryd.ntmps63
          go_wp2_with (go_at_call 35; refine (HP.out _ D.out).mono ?_; rintro e w1 ⟨rfl, d⟩; have D := Lib.hid d; have cc0 := (H.out.dr d).1.c0; have cc1 := (H.out.dr d).1.c1; have zz1 := (H.out.dr d).1.z 1; clear d)
          go_ret
          exact ⟨by rw [HO.out]; rfl, by rw [HJ.out]; exact (H.out.dr D.out).1, (H.out.dr D.out).2⟩
        · have hcl : i + 1 + 1 < s.size := by omega
          have hcl' : (i : Int) + 1 + 1 < (s.size : Int) := by omega
          have hc0 : (0 : Int) ≤ (i : Int) + 1 + 1 := by omega
          have hbe := byt_eq s (i + 1 + 1) hcl
          by_cases h1 : byt s (i + 1 + 1) < 48
          · have x1 : ((s[i + 1 + 1]'hcl).toNat : Int) < 48 := by omega
            have hdg : dg s (i + 1 + 1) = i + 1 + 1 := dg_stop (by unfold isDg; simp; omega)
            have HJ : Hid (J = i) := Lib.hid (by rw [hJ, if_pos hdg])
            have HO : Hid (O = false) := Lib.hid (by rw [hO, HJ.out]; simp)
            clear hJ hO hdg hbe h1
            go_enter Tryd.func63, Tryd.ntmps63
            go_wp2_with (go_at_call 35; refine (HP.out _ D.out).mono ?_; rintro e w1 ⟨rfl, d⟩; have D := Lib.hid d; have cc0 := (H.out.dr d).1.c0; have cc1 := (H.out.dr d).1.c1; have zz1 := (H.out.dr d).1.z 1; clear d)
            go_ret
            exact ⟨by rw [HO.out]; rfl, by rw [HJ.out]; exact (H.out.dr D.out).1, (H.out.dr D.out).2⟩
          by_cases h2 : 57 < byt s (i + 1 + 1)
          · have x1 : ¬ ((s[i + 1 + 1]'hcl).toNat : Int) < 48 := by omega
            have x2 : (57 : Int) < ((s[i + 1 + 1]'hcl).toNat : Int) := by omega
            have hdg : dg s (i + 1 + 1) = i + 1 + 1 := dg_stop (by unfold isDg; simp; omega)
            have HJ : Hid (J = i) := Lib.hid (by rw [hJ, if_pos hdg])
            have HO : Hid (O = false) := Lib.hid (by rw [hO, HJ.out]; simp)
            clear hJ hO hdg hbe h1 h2
            go_enter Tryd.func63, Tryd.ntmps63
            go_wp2_with (go_at_call 35; refine (HP.out _ D.out).mono ?_; rintro e w1 ⟨rfl, d⟩; have D := Lib.hid d; have cc0 := (H.out.dr d).1.c0; have cc1 := (H.out.dr d).1.c1; have zz1 := (H.out.dr d).1.z 1; clear d)
            go_ret
            exact ⟨by rw [HO.out]; rfl, by rw [HJ.out]; exact (H.out.dr D.out).1, (H.out.dr D.out).2⟩
          · have x1 : ¬ ((s[i + 1 + 1]'hcl).toNat : Int) < 48 := by omega
            have x2 : ¬ (57 : Int) < ((s[i + 1 + 1]'hcl).toNat : Int) := by omega
            have hst := dg_step (s := s) (i := i + 1 + 1) (by unfold isDg; simp; omega)
            have hge := dg_ge s (i + 1 + 1 + 1)
            have hdg : ¬ dg s (i + 1 + 1) = i + 1 + 1 := by omega
            have HJ : Hid (J = dg s (i + 1 + 1)) := Lib.hid (by rw [hJ, if_neg hdg])
            have HO : Hid (O = true) := Lib.hid (by rw [hO, HJ.out]; simp; omega)
            have HD := Lib.hid (fun W (r : RfB W p s (i + 1 + 1) v L 0) => rdigs_any W r hs (by omega))
            rw [if_neg hdg] at HD
            have HD1 : Hid (∀ W, RfB W p s (i + 1 + 1) v L 0 → Calls Tryd.prog 62 #[.pointer (some ⟨p, 0, none⟩)] W fun e w' => e = .returned (.tuple #[]) ∧ RfB w' p s (dg s (i + 1 + 1)) v L 0 ∧ Fr p v v W w') := Lib.hid HD.out
            clear hJ hO hdg hbe h1 h2 hst hge HD
            go_enter Tryd.func63, Tryd.ntmps63
            go_wp2_with (go_at_call 35; refine (HP.out _ D.out).mono ?_; rintro e w1 ⟨rfl, d⟩; have D := Lib.hid d; have cc0 := (H.out.dr d).1.c0; have cc1 := (H.out.dr d).1.c1; have zz1 := (H.out.dr d).1.z 1; clear d)
            have RN := Lib.hid (And.intro ((H.out.dr D.out).1.at_ (i + 1 + 1) ((i : Int) + 1 + 1) (by omega)).1 ((H.out.dr D.out).2.trans ((H.out.dr D.out).1.at_ (i + 1 + 1) ((i : Int) + 1 + 1) (by omega)).2))
            refine (HD1.out _ RN.out.1).mono ?_
            rintro e w5 ⟨rfl, r5, f5⟩
            have R5 := Lib.hid (And.intro r5 (RN.out.2.trans f5))
            clear r5 f5
            go_wp2_with fail
            go_ret
            exact ⟨by rw [HO.out]; rfl, by rw [HJ.out]; exact R5.out.1, R5.out.2⟩
      by_cases g45 : byt s (i + 1) = 45
      · rw [show (if byt s (i + 1) = 43 ∨ byt s (i + 1) = 45 then i + 2 else i + 1) = i + 1 + 1 from if_pos (.inr g45)] at hJ
        have y1 : ((s[i + 1]'hn1).toNat : Int) = 45 := by omega
        clear hbs g43 g45
        by_cases hcs : s.size ≤ i + 1 + 1
        · have hcs' : (s.size : Int) ≤ (i : Int) + 1 + 1 := by omega
          have hdg : dg s (i + 1 + 1) = i + 1 + 1 := dg_stop (by rw [byt_end hcs]; decide)
          have HJ : Hid (J = i) := Lib.hid (by rw [hJ, if_pos hdg])
          have HO : Hid (O = false) := Lib.hid (by rw [hO, HJ.out]; simp)
          clear hJ hO hdg
          go_enter Tryd.func63, Tryd.ntmps63
          go_wp2_with (go_at_call 35; refine (HP.out _ D.out).mono ?_; rintro e w1 ⟨rfl, d⟩; have D := Lib.hid d; have cc0 := (H.out.dr d).1.c0; have cc1 := (H.out.dr d).1.c1; have zz1 := (H.out.dr d).1.z 1; clear d)
          go_ret
          exact ⟨by rw [HO.out]; rfl, by rw [HJ.out]; exact (H.out.dr D.out).1, (H.out.dr D.out).2⟩
        · have hcl : i + 1 + 1 < s.size := by omega
          have hcl' : (i : Int) + 1 + 1 < (s.size : Int) := by omega
          have hc0 : (0 : Int) ≤ (i : Int) + 1 + 1 := by omega
          have hbe := byt_eq s (i + 1 + 1) hcl
          by_cases h1 : byt s (i + 1 + 1) < 48
          · have x1 : ((s[i + 1 + 1]'hcl).toNat : Int) < 48 := by omega
            have hdg : dg s (i + 1 + 1) = i + 1 + 1 := dg_stop (by unfold isDg; simp; omega)
            have HJ : Hid (J = i) := Lib.hid (by rw [hJ, if_pos hdg])
            have HO : Hid (O = false) := Lib.hid (by rw [hO, HJ.out]; simp)
            clear hJ hO hdg hbe h1
            go_enter Tryd.func63, Tryd.ntmps63
            go_wp2_with (go_at_call 35; refine (HP.out _ D.out).mono ?_; rintro e w1 ⟨rfl, d⟩; have D := Lib.hid d; have cc0 := (H.out.dr d).1.c0; have cc1 := (H.out.dr d).1.c1; have zz1 := (H.out.dr d).1.z 1; clear d)
            go_ret
            exact ⟨by rw [HO.out]; rfl, by rw [HJ.out]; exact (H.out.dr D.out).1, (H.out.dr D.out).2⟩
          by_cases h2 : 57 < byt s (i + 1 + 1)
          · have x1 : ¬ ((s[i + 1 + 1]'hcl).toNat : Int) < 48 := by omega
            have x2 : (57 : Int) < ((s[i + 1 + 1]'hcl).toNat : Int) := by omega
            have hdg : dg s (i + 1 + 1) = i + 1 + 1 := dg_stop (by unfold isDg; simp; omega)
            have HJ : Hid (J = i) := Lib.hid (by rw [hJ, if_pos hdg])
            have HO : Hid (O = false) := Lib.hid (by rw [hO, HJ.out]; simp)
            clear hJ hO hdg hbe h1 h2
            go_enter Tryd.func63, Tryd.ntmps63
            go_wp2_with (go_at_call 35; refine (HP.out _ D.out).mono ?_; rintro e w1 ⟨rfl, d⟩; have D := Lib.hid d; have cc0 := (H.out.dr d).1.c0; have cc1 := (H.out.dr d).1.c1; have zz1 := (H.out.dr d).1.z 1; clear d)
            go_ret
            exact ⟨by rw [HO.out]; rfl, by rw [HJ.out]; exact (H.out.dr D.out).1, (H.out.dr D.out).2⟩
          · have x1 : ¬ ((s[i + 1 + 1]'hcl).toNat : Int) < 48 := by omega
            have x2 : ¬ (57 : Int) < ((s[i + 1 + 1]'hcl).toNat : Int) := by omega
            have hst := dg_step (s := s) (i := i + 1 + 1) (by unfold isDg; simp; omega)
            have hge := dg_ge s (i + 1 + 1 + 1)
            have hdg : ¬ dg s (i + 1 + 1) = i + 1 + 1 := by omega
            have HJ : Hid (J = dg s (i + 1 + 1)) := Lib.hid (by rw [hJ, if_neg hdg])
            have HO : Hid (O = true) := Lib.hid (by rw [hO, HJ.out]; simp; omega)
            have HD := Lib.hid (fun W (r : RfB W p s (i + 1 + 1) v L 0) => rdigs_any W r hs (by omega))
            rw [if_neg hdg] at HD
            have HD1 : Hid (∀ W, RfB W p s (i + 1 + 1) v L 0 → Calls Tryd.prog 62 #[.pointer (some ⟨p, 0, none⟩)] W fun e w' => e = .returned (.tuple #[]) ∧ RfB w' p s (dg s (i + 1 + 1)) v L 0 ∧ Fr p v v W w') := Lib.hid HD.out
            clear hJ hO hdg hbe h1 h2 hst hge HD
            go_enter Tryd.func63, Tryd.ntmps63
            go_wp2_with (go_at_call 35; refine (HP.out _ D.out).mono ?_; rintro e w1 ⟨rfl, d⟩; have D := Lib.hid d; have cc0 := (H.out.dr d).1.c0; have cc1 := (H.out.dr d).1.c1; have zz1 := (H.out.dr d).1.z 1; clear d)
            have RN := Lib.hid (And.intro ((H.out.dr D.out).1.at_ (i + 1 + 1) ((i : Int) + 1 + 1) (by omega)).1 ((H.out.dr D.out).2.trans ((H.out.dr D.out).1.at_ (i + 1 + 1) ((i : Int) + 1 + 1) (by omega)).2))
            refine (HD1.out _ RN.out.1).mono ?_
            rintro e w5 ⟨rfl, r5, f5⟩
            have R5 := Lib.hid (And.intro r5 (RN.out.2.trans f5))
            clear r5 f5
            go_wp2_with fail
            go_ret
            exact ⟨by rw [HO.out]; rfl, by rw [HJ.out]; exact R5.out.1, R5.out.2⟩
      · rw [show (if byt s (i + 1) = 43 ∨ byt s (i + 1) = 45 then i + 2 else i + 1) = i + 1 from if_neg (by omega)] at hJ
        have y1 : (((s[i + 1]'hn1).toNat : Int) == 43) = false := beq_eq_false_iff_ne.2 (by omega)
        have y2 : (((s[i + 1]'hn1).toNat : Int) == 45) = false := beq_eq_false_iff_ne.2 (by omega)
        clear hbs g43 g45
        have hcl : i + 1 < s.size := by omega
        have hcl' : (i : Int) + 1 < (s.size : Int) := by omega
        have hc0 : (0 : Int) ≤ (i : Int) + 1 := by omega
        have hbe := byt_eq s (i + 1) hcl
        by_cases h1 : byt s (i + 1) < 48
        · have x1 : ((s[i + 1]'hcl).toNat : Int) < 48 := by omega
          have hdg : dg s (i + 1) = i + 1 := dg_stop (by unfold isDg; simp; omega)
          have HJ : Hid (J = i) := Lib.hid (by rw [hJ, if_pos hdg])
          have HO : Hid (O = false) := Lib.hid (by rw [hO, HJ.out]; simp)
          clear hJ hO hdg hbe h1
          go_enter Tryd.func63, Tryd.ntmps63
          go_wp2_with (go_at_call 35; refine (HP.out _ D.out).mono ?_; rintro e w1 ⟨rfl, d⟩; have D := Lib.hid d; have cc0 := (H.out.dr d).1.c0; have cc1 := (H.out.dr d).1.c1; have zz1 := (H.out.dr d).1.z 1; clear d)
          go_ret
          exact ⟨by rw [HO.out]; rfl, by rw [HJ.out]; exact (H.out.dr D.out).1, (H.out.dr D.out).2⟩
        by_cases h2 : 57 < byt s (i + 1)
        · have x1 : ¬ ((s[i + 1]'hcl).toNat : Int) < 48 := by omega
          have x2 : (57 : Int) < ((s[i + 1]'hcl).toNat : Int) := by omega
          have hdg : dg s (i + 1) = i + 1 := dg_stop (by unfold isDg; simp; omega)
          have HJ : Hid (J = i) := Lib.hid (by rw [hJ, if_pos hdg])
          have HO : Hid (O = false) := Lib.hid (by rw [hO, HJ.out]; simp)
          clear hJ hO hdg hbe h1 h2
          go_enter Tryd.func63, Tryd.ntmps63
          go_wp2_with (go_at_call 35; refine (HP.out _ D.out).mono ?_; rintro e w1 ⟨rfl, d⟩; have D := Lib.hid d; have cc0 := (H.out.dr d).1.c0; have cc1 := (H.out.dr d).1.c1; have zz1 := (H.out.dr d).1.z 1; clear d)
          go_ret
          exact ⟨by rw [HO.out]; rfl, by rw [HJ.out]; exact (H.out.dr D.out).1, (H.out.dr D.out).2⟩
        · have x1 : ¬ ((s[i + 1]'hcl).toNat : Int) < 48 := by omega
          have x2 : ¬ (57 : Int) < ((s[i + 1]'hcl).toNat : Int) := by omega
          have hst := dg_step (s := s) (i := i + 1) (by unfold isDg; simp; omega)
          have hge := dg_ge s (i + 1 + 1)
          have hdg : ¬ dg s (i + 1) = i + 1 := by omega
          have HJ : Hid (J = dg s (i + 1)) := Lib.hid (by rw [hJ, if_neg hdg])
          have HO : Hid (O = true) := Lib.hid (by rw [hO, HJ.out]; simp; omega)
          have HD := Lib.hid (fun W (r : RfB W p s (i + 1) v L 0) => rdigs_any W r hs (by omega))
          rw [if_neg hdg] at HD
          have HD1 : Hid (∀ W, RfB W p s (i + 1) v L 0 → Calls Tryd.prog 62 #[.pointer (some ⟨p, 0, none⟩)] W fun e w' => e = .returned (.tuple #[]) ∧ RfB w' p s (dg s (i + 1)) v L 0 ∧ Fr p v v W w') := Lib.hid HD.out
          clear hJ hO hdg hbe h1 h2 hst hge HD
          go_enter Tryd.func63, Tryd.ntmps63
          go_wp2_with (go_at_call 35; refine (HP.out _ D.out).mono ?_; rintro e w1 ⟨rfl, d⟩; have D := Lib.hid d; have cc0 := (H.out.dr d).1.c0; have cc1 := (H.out.dr d).1.c1; have zz1 := (H.out.dr d).1.z 1; clear d)
          have RN := Lib.hid (And.intro ((H.out.dr D.out).1.at_ (i + 1) ((i : Int) + 1) (by omega)).1 ((H.out.dr D.out).2.trans ((H.out.dr D.out).1.at_ (i + 1) ((i : Int) + 1) (by omega)).2))
          refine (HD1.out _ RN.out.1).mono ?_
          rintro e w5 ⟨rfl, r5, f5⟩
          have R5 := Lib.hid (And.intro r5 (RN.out.2.trans f5))
          clear r5 f5
          go_wp2_with fail
          go_ret
          exact ⟨by rw [HO.out]; rfl, by rw [HJ.out]; exact R5.out.1, R5.out.2⟩
    · have hn1' : ¬ (i : Int) + 1 < s.size := by omega
      rw [show (if byt s (i + 1) = 43 ∨ byt s (i + 1) = 45 then i + 2 else i + 1) = i + 1 from if_neg (by rw [byt_end (by omega)]; decide)] at hJ
      have hcs : s.size ≤ i + 1 := by omega
      have hcs' : (s.size : Int) ≤ (i : Int) + 1 := by omega
      have hdg : dg s (i + 1) = i + 1 := dg_stop (by rw [byt_end hcs]; decide)
      have HJ : Hid (J = i) := Lib.hid (by rw [hJ, if_pos hdg])
      have HO : Hid (O = false) := Lib.hid (by rw [hO, HJ.out]; simp)
      clear hJ hO hdg
      go_enter Tryd.func63, Tryd.ntmps63
      go_wp2_with (go_at_call 35; refine (HP.out _ D.out).mono ?_; rintro e w1 ⟨rfl, d⟩; have D := Lib.hid d; have cc0 := (H.out.dr d).1.c0; have cc1 := (H.out.dr d).1.c1; have zz1 := (H.out.dr d).1.z 1; clear d)
      go_ret
      exact ⟨by rw [HO.out]; rfl, by rw [HJ.out]; exact (H.out.dr D.out).1, (H.out.dr D.out).2⟩
  by_cases hb : byt s i = 69
  · have hin : i < s.size := byt_in (by omega)
    rw [if_pos (by omega)] at hJ
    dsimp only at hJ
    rw [hb] at HP
    clear hb
    by_cases hn1 : i + 1 < s.size
    · have hn1' : (i : Int) + 1 < s.size := by omega
      have hn0 : (0 : Int) ≤ (i : Int) + 1 := by omega
      have hbs := byt_eq s (i + 1) hn1
      by_cases g43 : byt s (i + 1) = 43
      · rw [show (if byt s (i + 1) = 43 ∨ byt s (i + 1) = 45 then i + 2 else i + 1) = i + 1 + 1 from if_pos (.inl g43)] at hJ
        have y1 : ((s[i + 1]'hn1).toNat : Int) = 43 := by omega
        clear hbs g43
        by_cases hcs : s.size ≤ i + 1 + 1
        · have hcs' : (s.size : Int) ≤ (i : Int) + 1 + 1 := by omega
          have hdg : dg s (i + 1 + 1) = i + 1 + 1 := dg_stop (by rw [byt_end hcs]; decide)
          have HJ : Hid (J = i) := Lib.hid (by rw [hJ, if_pos hdg])
          have HO : Hid (O = false) := Lib.hid (by rw [hO, HJ.out]; simp)
          clear hJ hO hdg
          go_enter Tryd.func63, Tryd.ntmps63
          go_wp2_with (go_at_call 35; refine (HP.out _ D.out).mono ?_; rintro e w1 ⟨rfl, d⟩; have D := Lib.hid d; have cc0 := (H.out.dr d).1.c0; have cc1 := (H.out.dr d).1.c1; have zz1 := (H.out.dr d).1.z 1; clear d)
          go_ret
          exact ⟨by rw [HO.out]; rfl, by rw [HJ.out]; exact (H.out.dr D.out).1, (H.out.dr D.out).2⟩
        · have hcl : i + 1 + 1 < s.size := by omega
          have hcl' : (i : Int) + 1 + 1 < (s.size : Int) := by omega
          have hc0 : (0 : Int) ≤ (i : Int) + 1 + 1 := by omega
          have hbe := byt_eq s (i + 1 + 1) hcl
          by_cases h1 : byt s (i + 1 + 1) < 48
          · have x1 : ((s[i + 1 + 1]'hcl).toNat : Int) < 48 := by omega
            have hdg : dg s (i + 1 + 1) = i + 1 + 1 := dg_stop (by unfold isDg; simp; omega)
            have HJ : Hid (J = i) := Lib.hid (by rw [hJ, if_pos hdg])
            have HO : Hid (O = false) := Lib.hid (by rw [hO, HJ.out]; simp)
            clear hJ hO hdg hbe h1
            go_enter Tryd.func63, Tryd.ntmps63
            go_wp2_with (go_at_call 35; refine (HP.out _ D.out).mono ?_; rintro e w1 ⟨rfl, d⟩; have D := Lib.hid d; have cc0 := (H.out.dr d).1.c0; have cc1 := (H.out.dr d).1.c1; have zz1 := (H.out.dr d).1.z 1; clear d)
            go_ret
            exact ⟨by rw [HO.out]; rfl, by rw [HJ.out]; exact (H.out.dr D.out).1, (H.out.dr D.out).2⟩
          by_cases h2 : 57 < byt s (i + 1 + 1)
          · have x1 : ¬ ((s[i + 1 + 1]'hcl).toNat : Int) < 48 := by omega
            have x2 : (57 : Int) < ((s[i + 1 + 1]'hcl).toNat : Int) := by omega
            have hdg : dg s (i + 1 + 1) = i + 1 + 1 := dg_stop (by unfold isDg; simp; omega)
            have HJ : Hid (J = i) := Lib.hid (by rw [hJ, if_pos hdg])
            have HO : Hid (O = false) := Lib.hid (by rw [hO, HJ.out]; simp)
            clear hJ hO hdg hbe h1 h2
            go_enter Tryd.func63, Tryd.ntmps63
            go_wp2_with (go_at_call 35; refine (HP.out _ D.out).mono ?_; rintro e w1 ⟨rfl, d⟩; have D := Lib.hid d; have cc0 := (H.out.dr d).1.c0; have cc1 := (H.out.dr d).1.c1; have zz1 := (H.out.dr d).1.z 1; clear d)
            go_ret
            exact ⟨by rw [HO.out]; rfl, by rw [HJ.out]; exact (H.out.dr D.out).1, (H.out.dr D.out).2⟩
          · have x1 : ¬ ((s[i + 1 + 1]'hcl).toNat : Int) < 48 := by omega
            have x2 : ¬ (57 : Int) < ((s[i + 1 + 1]'hcl).toNat : Int) := by omega
            have hst := dg_step (s := s) (i := i + 1 + 1) (by unfold isDg; simp; omega)
            have hge := dg_ge s (i + 1 + 1 + 1)
            have hdg : ¬ dg s (i + 1 + 1) = i + 1 + 1 := by omega
            have HJ : Hid (J = dg s (i + 1 + 1)) := Lib.hid (by rw [hJ, if_neg hdg])
            have HO : Hid (O = true) := Lib.hid (by rw [hO, HJ.out]; simp; omega)
            have HD := Lib.hid (fun W (r : RfB W p s (i + 1 + 1) v L 0) => rdigs_any W r hs (by omega))
            rw [if_neg hdg] at HD
            have HD1 : Hid (∀ W, RfB W p s (i + 1 + 1) v L 0 → Calls Tryd.prog 62 #[.pointer (some ⟨p, 0, none⟩)] W fun e w' => e = .returned (.tuple #[]) ∧ RfB w' p s (dg s (i + 1 + 1)) v L 0 ∧ Fr p v v W w') := Lib.hid HD.out
            clear hJ hO hdg hbe h1 h2 hst hge HD
            go_enter Tryd.func63, Tryd.ntmps63
            go_wp2_with (go_at_call 35; refine (HP.out _ D.out).mono ?_; rintro e w1 ⟨rfl, d⟩; have D := Lib.hid d; have cc0 := (H.out.dr d).1.c0; have cc1 := (H.out.dr d).1.c1; have zz1 := (H.out.dr d).1.z 1; clear d)
            have RN := Lib.hid (And.intro ((H.out.dr D.out).1.at_ (i + 1 + 1) ((i : Int) + 1 + 1) (by omega)).1 ((H.out.dr D.out).2.trans ((H.out.dr D.out).1.at_ (i + 1 + 1) ((i : Int) + 1 + 1) (by omega)).2))
            refine (HD1.out _ RN.out.1).mono ?_
            rintro e w5 ⟨rfl, r5, f5⟩
            have R5 := Lib.hid (And.intro r5 (RN.out.2.trans f5))
            clear r5 f5
            go_wp2_with fail
            go_ret
            exact ⟨by rw [HO.out]; rfl, by rw [HJ.out]; exact R5.out.1, R5.out.2⟩
      by_cases g45 : byt s (i + 1) = 45
      · rw [show (if byt s (i + 1) = 43 ∨ byt s (i + 1) = 45 then i + 2 else i + 1) = i + 1 + 1 from if_pos (.inr g45)] at hJ
        have y1 : ((s[i + 1]'hn1).toNat : Int) = 45 := by omega
        clear hbs g43 g45
        by_cases hcs : s.size ≤ i + 1 + 1
        · have hcs' : (s.size : Int) ≤ (i : Int) + 1 + 1 := by omega
          have hdg : dg s (i + 1 + 1) = i + 1 + 1 := dg_stop (by rw [byt_end hcs]; decide)
          have HJ : Hid (J = i) := Lib.hid (by rw [hJ, if_pos hdg])
          have HO : Hid (O = false) := Lib.hid (by rw [hO, HJ.out]; simp)
          clear hJ hO hdg
          go_enter Tryd.func63, Tryd.ntmps63
          go_wp2_with (go_at_call 35; refine (HP.out _ D.out).mono ?_; rintro e w1 ⟨rfl, d⟩; have D := Lib.hid d; have cc0 := (H.out.dr d).1.c0; have cc1 := (H.out.dr d).1.c1; have zz1 := (H.out.dr d).1.z 1; clear d)
          go_ret
          exact ⟨by rw [HO.out]; rfl, by rw [HJ.out]; exact (H.out.dr D.out).1, (H.out.dr D.out).2⟩
        · have hcl : i + 1 + 1 < s.size := by omega
          have hcl' : (i : Int) + 1 + 1 < (s.size : Int) := by omega
          have hc0 : (0 : Int) ≤ (i : Int) + 1 + 1 := by omega
          have hbe := byt_eq s (i + 1 + 1) hcl
          by_cases h1 : byt s (i + 1 + 1) < 48
          · have x1 : ((s[i + 1 + 1]'hcl).toNat : Int) < 48 := by omega
            have hdg : dg s (i + 1 + 1) = i + 1 + 1 := dg_stop (by unfold isDg; simp; omega)
            have HJ : Hid (J = i) := Lib.hid (by rw [hJ, if_pos hdg])
            have HO : Hid (O = false) := Lib.hid (by rw [hO, HJ.out]; simp)
            clear hJ hO hdg hbe h1
            go_enter Tryd.func63, Tryd.ntmps63
            go_wp2_with (go_at_call 35; refine (HP.out _ D.out).mono ?_; rintro e w1 ⟨rfl, d⟩; have D := Lib.hid d; have cc0 := (H.out.dr d).1.c0; have cc1 := (H.out.dr d).1.c1; have zz1 := (H.out.dr d).1.z 1; clear d)
            go_ret
            exact ⟨by rw [HO.out]; rfl, by rw [HJ.out]; exact (H.out.dr D.out).1, (H.out.dr D.out).2⟩
          by_cases h2 : 57 < byt s (i + 1 + 1)
          · have x1 : ¬ ((s[i + 1 + 1]'hcl).toNat : Int) < 48 := by omega
            have x2 : (57 : Int) < ((s[i + 1 + 1]'hcl).toNat : Int) := by omega
            have hdg : dg s (i + 1 + 1) = i + 1 + 1 := dg_stop (by unfold isDg; simp; omega)
            have HJ : Hid (J = i) := Lib.hid (by rw [hJ, if_pos hdg])
            have HO : Hid (O = false) := Lib.hid (by rw [hO, HJ.out]; simp)
            clear hJ hO hdg hbe h1 h2
            go_enter Tryd.func63, Tryd.ntmps63
            go_wp2_with (go_at_call 35; refine (HP.out _ D.out).mono ?_; rintro e w1 ⟨rfl, d⟩; have D := Lib.hid d; have cc0 := (H.out.dr d).1.c0; have cc1 := (H.out.dr d).1.c1; have zz1 := (H.out.dr d).1.z 1; clear d)
            go_ret
            exact ⟨by rw [HO.out]; rfl, by rw [HJ.out]; exact (H.out.dr D.out).1, (H.out.dr D.out).2⟩
          · have x1 : ¬ ((s[i + 1 + 1]'hcl).toNat : Int) < 48 := by omega
            have x2 : ¬ (57 : Int) < ((s[i + 1 + 1]'hcl).toNat : Int) := by omega
            have hst := dg_step (s := s) (i := i + 1 + 1) (by unfold isDg; simp; omega)
            have hge := dg_ge s (i + 1 + 1 + 1)
            have hdg : ¬ dg s (i + 1 + 1) = i + 1 + 1 := by omega
            have HJ : Hid (J = dg s (i + 1 + 1)) := Lib.hid (by rw [hJ, if_neg hdg])
            have HO : Hid (O = true) := Lib.hid (by rw [hO, HJ.out]; simp; omega)
            have HD := Lib.hid (fun W (r : RfB W p s (i + 1 + 1) v L 0) => rdigs_any W r hs (by omega))
            rw [if_neg hdg] at HD
            have HD1 : Hid (∀ W, RfB W p s (i + 1 + 1) v L 0 → Calls Tryd.prog 62 #[.pointer (some ⟨p, 0, none⟩)] W fun e w' => e = .returned (.tuple #[]) ∧ RfB w' p s (dg s (i + 1 + 1)) v L 0 ∧ Fr p v v W w') := Lib.hid HD.out
            clear hJ hO hdg hbe h1 h2 hst hge HD
            go_enter Tryd.func63, Tryd.ntmps63
            go_wp2_with (go_at_call 35; refine (HP.out _ D.out).mono ?_; rintro e w1 ⟨rfl, d⟩; have D := Lib.hid d; have cc0 := (H.out.dr d).1.c0; have cc1 := (H.out.dr d).1.c1; have zz1 := (H.out.dr d).1.z 1; clear d)
            have RN := Lib.hid (And.intro ((H.out.dr D.out).1.at_ (i + 1 + 1) ((i : Int) + 1 + 1) (by omega)).1 ((H.out.dr D.out).2.trans ((H.out.dr D.out).1.at_ (i + 1 + 1) ((i : Int) + 1 + 1) (by omega)).2))
            refine (HD1.out _ RN.out.1).mono ?_
            rintro e w5 ⟨rfl, r5, f5⟩
            have R5 := Lib.hid (And.intro r5 (RN.out.2.trans f5))
            clear r5 f5
            go_wp2_with fail
            go_ret
            exact ⟨by rw [HO.out]; rfl, by rw [HJ.out]; exact R5.out.1, R5.out.2⟩
      · rw [show (if byt s (i + 1) = 43 ∨ byt s (i + 1) = 45 then i + 2 else i + 1) = i + 1 from if_neg (by omega)] at hJ
        have y1 : (((s[i + 1]'hn1).toNat : Int) == 43) = false := beq_eq_false_iff_ne.2 (by omega)
        have y2 : (((s[i + 1]'hn1).toNat : Int) == 45) = false := beq_eq_false_iff_ne.2 (by omega)
        clear hbs g43 g45
        have hcl : i + 1 < s.size := by omega
        have hcl' : (i : Int) + 1 < (s.size : Int) := by omega
        have hc0 : (0 : Int) ≤ (i : Int) + 1 := by omega
        have hbe := byt_eq s (i + 1) hcl
        by_cases h1 : byt s (i + 1) < 48
        · have x1 : ((s[i + 1]'hcl).toNat : Int) < 48 := by omega
          have hdg : dg s (i + 1) = i + 1 := dg_stop (by unfold isDg; simp; omega)
          have HJ : Hid (J = i) := Lib.hid (by rw [hJ, if_pos hdg])
          have HO : Hid (O = false) := Lib.hid (by rw [hO, HJ.out]; simp)
          clear hJ hO hdg hbe h1
          go_enter Tryd.func63, Tryd.ntmps63
          go_wp2_with (go_at_call 35; refine (HP.out _ D.out).mono ?_; rintro e w1 ⟨rfl, d⟩; have D := Lib.hid d; have cc0 := (H.out.dr d).1.c0; have cc1 := (H.out.dr d).1.c1; have zz1 := (H.out.dr d).1.z 1; clear d)
          go_ret
          exact ⟨by rw [HO.out]; rfl, by rw [HJ.out]; exact (H.out.dr D.out).1, (H.out.dr D.out).2⟩
        by_cases h2 : 57 < byt s (i + 1)
        · have x1 : ¬ ((s[i + 1]'hcl).toNat : Int) < 48 := by omega
          have x2 : (57 : Int) < ((s[i + 1]'hcl).toNat : Int) := by omega
          have hdg : dg s (i + 1) = i + 1 := dg_stop (by unfold isDg; simp; omega)
          have HJ : Hid (J = i) := Lib.hid (by rw [hJ, if_pos hdg])
          have HO : Hid (O = false) := Lib.hid (by rw [hO, HJ.out]; simp)
          clear hJ hO hdg hbe h1 h2
          go_enter Tryd.func63, Tryd.ntmps63
          go_wp2_with (go_at_call 35; refine (HP.out _ D.out).mono ?_; rintro e w1 ⟨rfl, d⟩; have D := Lib.hid d; have cc0 := (H.out.dr d).1.c0; have cc1 := (H.out.dr d).1.c1; have zz1 := (H.out.dr d).1.z 1; clear d)
          go_ret
          exact ⟨by rw [HO.out]; rfl, by rw [HJ.out]; exact (H.out.dr D.out).1, (H.out.dr D.out).2⟩
        · have x1 : ¬ ((s[i + 1]'hcl).toNat : Int) < 48 := by omega
          have x2 : ¬ (57 : Int) < ((s[i + 1]'hcl).toNat : Int) := by omega
          have hst := dg_step (s := s) (i := i + 1) (by unfold isDg; simp; omega)
          have hge := dg_ge s (i + 1 + 1)
          have hdg : ¬ dg s (i + 1) = i + 1 := by omega
          have HJ : Hid (J = dg s (i + 1)) := Lib.hid (by rw [hJ, if_neg hdg])
          have HO : Hid (O = true) := Lib.hid (by rw [hO, HJ.out]; simp; omega)
          have HD := Lib.hid (fun W (r : RfB W p s (i + 1) v L 0) => rdigs_any W r hs (by omega))
          rw [if_neg hdg] at HD
          have HD1 : Hid (∀ W, RfB W p s (i + 1) v L 0 → Calls Tryd.prog 62 #[.pointer (some ⟨p, 0, none⟩)] W fun e w' => e = .returned (.tuple #[]) ∧ RfB w' p s (dg s (i + 1)) v L 0 ∧ Fr p v v W w') := Lib.hid HD.out
          clear hJ hO hdg hbe h1 h2 hst hge HD
          go_enter Tryd.func63, Tryd.ntmps63
          go_wp2_with (go_at_call 35; refine (HP.out _ D.out).mono ?_; rintro e w1 ⟨rfl, d⟩; have D := Lib.hid d; have cc0 := (H.out.dr d).1.c0; have cc1 := (H.out.dr d).1.c1; have zz1 := (H.out.dr d).1.z 1; clear d)
          have RN := Lib.hid (And.intro ((H.out.dr D.out).1.at_ (i + 1) ((i : Int) + 1) (by omega)).1 ((H.out.dr D.out).2.trans ((H.out.dr D.out).1.at_ (i + 1) ((i : Int) + 1) (by omega)).2))
          refine (HD1.out _ RN.out.1).mono ?_
          rintro e w5 ⟨rfl, r5, f5⟩
          have R5 := Lib.hid (And.intro r5 (RN.out.2.trans f5))
          clear r5 f5
          go_wp2_with fail
          go_ret
          exact ⟨by rw [HO.out]; rfl, by rw [HJ.out]; exact R5.out.1, R5.out.2⟩
    · have hn1' : ¬ (i : Int) + 1 < s.size := by omega
      rw [show (if byt s (i + 1) = 43 ∨ byt s (i + 1) = 45 then i + 2 else i + 1) = i + 1 from if_neg (by rw [byt_end (by omega)]; decide)] at hJ
      have hcs : s.size ≤ i + 1 := by omega
      have hcs' : (s.size : Int) ≤ (i : Int) + 1 := by omega
      have hdg : dg s (i + 1) = i + 1 := dg_stop (by rw [byt_end hcs]; decide)
      have HJ : Hid (J = i) := Lib.hid (by rw [hJ, if_pos hdg])
      have HO : Hid (O = false) := Lib.hid (by rw [hO, HJ.out]; simp)
      clear hJ hO hdg
      go_enter Tryd.func63, Tryd.ntmps63
      go_wp2_with (go_at_call 35; refine (HP.out _ D.out).mono ?_; rintro e w1 ⟨rfl, d⟩; have D := Lib.hid d; have cc0 := (H.out.dr d).1.c0; have cc1 := (H.out.dr d).1.c1; have zz1 := (H.out.dr d).1.z 1; clear d)
      go_ret
      exact ⟨by rw [HO.out]; rfl, by rw [HJ.out]; exact (H.out.dr D.out).1, (H.out.dr D.out).2⟩
  · rw [if_neg (by omega)] at hJ
    have HJ : Hid (J = i) := Lib.hid hJ
    have HO : Hid (O = false) := Lib.hid (by rw [hO, HJ.out]; simp)
    rename_i hb1
    obtain ⟨b, hbb⟩ : ∃ b, b = byt s i := ⟨_, rfl⟩
    rw [← hbb] at HP hb hb1
    have hbn : (b != 101) = true := by simp only [bne, beq_eq_false_iff_ne.2 hb1]; rfl
    have hbn2 : (b != 69) = true := by simp only [bne, beq_eq_false_iff_ne.2 hb]; rfl
    clear hJ hO hbb
    go_enter Tryd.func63, Tryd.ntmps63
    go_wp2_with (go_at_call 35; refine (HP.out _ D.out).mono ?_; rintro e w1 ⟨rfl, d⟩; have D := Lib.hid d; have cc0 := (H.out.dr d).1.c0; have cc1 := (H.out.dr d).1.c1; have zz1 := (H.out.dr d).1.z 1; clear d)
    go_ret
    exact ⟨by rw [HO.out]; rfl, by rw [HJ.out]; exact (H.out.dr D.out).1, (H.out.dr D.out).2⟩
end Go.Proofs.YtoicmcjpaodgpaaDoor
/- Layer 4, the document's Read: numbers (plain). -/
namespace Go.Proofs.YtoicmcjpaodgpaaDoor
open Go.RowKit
theorem allD_at {t : ByteArray} : ∀ n, Nm.allD t n = true → ∀ k, k < n → 48 ≤ byt t k ∧ byt t k ≤ 57
  | 0, _, k, hk => by omega
  | n + 1, h, k, hk => by
    unfold Nm.allD at h
    simp only [Bool.and_eq_true, decide_eq_true_eq] at h
    by_cases e : k = n
    · subst e; exact h.2
    · exact allD_at n h.1 k (by omega)
theorem rd_in {t : ByteArray} (h : Nm.rdE t = 0) (k : Nat) (h1 : 1 ≤ k) (h2 : k < t.size) : 48 ≤ byt t k ∧ byt t k ≤ 57 := by
  have hd : Nm.areD (Nm.bare t) = true := by
    cases hh : Nm.areD (Nm.bare t)
    · unfold Nm.rdE at h; rw [hh] at h; simp at h
    · rfl
  have ha : Nm.allD (Nm.bare t) (Nm.bare t).size = true := by
    unfold Nm.areD at hd
    simp only [Bool.and_eq_true] at hd
    exact hd.2
  cases hn : Nm.isNeg t
  · have h1' : Nm.bare t = t := by unfold Nm.bare; rw [hn]; rfl
    rw [h1'] at ha
    exact allD_at _ ha k h2
  · have hb : Nm.bare t = t.extract 1 (1 + (t.size - 1)) := by
      unfold Nm.bare
      rw [hn, show 1 + (t.size - 1) = t.size by omega]; rfl
    rw [hb] at ha
    have hz : (t.extract 1 (1 + (t.size - 1))).size = t.size - 1 := by simp; omega
    rw [hz] at ha
    have := allD_at _ ha (k - 1) (by omega)
    rw [byt_extract (by omega) (k - 1) (by omega), show 1 + (k - 1) = k by omega] at this
    exact this
theorem numM_odd {s : ByteArray} {i b : Nat} (hb : intM s i = .ok b) (hi : i ≤ s.size) (hne : fracM s b ≠ b ∨ expoM s (fracM s b) ≠ fracM s b) : numM s i = .bad 41 := by
  obtain ⟨b1, b2⟩ := intM_ok hi hb
  obtain ⟨f1, f2⟩ := fracM_ok b2
  obtain ⟨x1, x2⟩ := expoM_ok f2
  have hnd : ¬ (48 ≤ byt s b ∧ byt s b ≤ 57) := by
    by_cases h46 : byt s b = 46
    · omega
    · have e1 : fracM s b = b := by unfold fracM; rw [if_neg h46]
      rw [e1] at hne
      have hx : expoM s b ≠ b := by
        rcases hne with h | h
        · exact absurd rfl h
        · exact h
      unfold expoM at hx
      split at hx
      · omega
      · exact absurd rfl hx
  unfold numM
  rw [hb]
  simp only [Rs.bind_ok]
  rw [if_neg]
  intro h
  obtain ⟨d, hd⟩ : ∃ d, d = expoM s (fracM s b) := ⟨_, rfl⟩
  rw [← hd] at h x1 x2 hne
  have hlt : b < d := by omega
  have hz : (s.extract i d).size = d - i := by simp; omega
  have hk := rd_in h (b - i) (by omega) (by omega)
  rw [show d = i + (d - i) by omega, byt_extract (by omega) (b - i) (by omega), show i + (b - i) = b by omega] at hk
  exact hnd hk
theorem numM_even {s : ByteArray} {i b : Nat} (hb : intM s i = .ok b) (h1 : fracM s b = b) (h2 : expoM s b = b) : numM s i = if Nm.rdE (s.extract i b) = 0 then .ok (Nm.rdV (s.extract i b), b) else .bad 41 := by
  unfold numM
  rw [hb]
  simp only [Rs.bind_ok]
  rw [h1, h2]
/-- What a part of the document's reader ends in: what is read, or an error that is noted. -/
def RfV (p : Nat) (s : ByteArray) (v : Value) (L : List CR) (w : World) (x : Rs (Int × Nat)) (e : Ending) (w' : World) : Prop := match x with
  | .ok r => e = .returned (.int .i64 r.1) ∧ RfB w' p s r.2 v L 0 ∧ Fr p v v w w'
  | .bad m => ∃ (n : Int) (j : Nat), e = .returned (.int .i64 n) ∧ j ≤ s.size ∧ RfB w' p s j v L m ∧ Fr p v v w w'
end Go.Proofs.YtoicmcjpaodgpaaDoor
/- Layer 4, the document's Read: a number. -/
namespace Go.Proofs.YtoicmcjpaodgpaaDoor
open Go.RowKit Go.Maps
/-- Where a number's first part ends. -/
def NumS (p : Nat) (s : ByteArray) (v : Value) (L : List CR) (w : World) (x : Rs Nat) (w' : World) : Prop := match x with
  | .ok b => RfB w' p s b v L 0 ∧ Fr p v v w w'
  | .bad m => ∃ j, j ≤ s.size ∧ RfB w' p s j v L m ∧ Fr p v v w w'
set_option maxRecDepth 20000 in
set_option maxHeartbeats 0 in
theorem rnumber_any {p i : Nat} {s : ByteArray} {v : Value} {L : List CR} (w : World) (h : RfB w p s i v L 0) (hs : s.size ≤ 1000000) (hi : i ≤ s.size) : Calls Tryd.prog 40 #[.pointer (some ⟨p, 0, none⟩)] w (RfV p s v L w (numM s i)) := by
  have HL : Hid (∀ (j : Nat) (b : Int), byt s j = b → j ≤ s.size → ∀ W, RfB W p s j v L 0 → Fr p v v w W → Calls Tryd.prog 35 #[.pointer (some ⟨p, 0, none⟩)] W fun e W' => e = .returned (.int .u8 b) ∧ RfB W' p s j v L 0 ∧ Fr p v v w W') :=
    Lib.hid (fun j b hb hj W r f => by subst hb; exact (rlook_any W r (by omega) (by omega)).mono (fun e W' k => ⟨k.1, (r.dr k.2).1, f.trans (r.dr k.2).2⟩))
  have HDo : Hid (∀ (j b : Nat), ¬ dg s j = j → dg s j = b → j ≤ s.size → ∀ W, RfB W p s j v L 0 → Fr p v v w W → Calls Tryd.prog 62 #[.pointer (some ⟨p, 0, none⟩)] W fun e W' => e = .returned (.tuple #[]) ∧ RfB W' p s b v L 0 ∧ Fr p v v w W') :=
    Lib.hid (fun j b hd hb hj W r f => by subst hb; have q := rdigs_any W r hs hj; rw [if_neg hd] at q; exact q.mono (fun e W' k => ⟨k.1, k.2.1, f.trans k.2.2⟩))
  have HDb : Hid (∀ (j : Nat), dg s j = j → j ≤ s.size → ∀ W, RfB W p s j v L 0 → Fr p v v w W → Calls Tryd.prog 62 #[.pointer (some ⟨p, 0, none⟩)] W fun e W' => e = .returned (.tuple #[]) ∧ ∃ i', i' ≤ s.size ∧ RfB W' p s i' v L 40 ∧ Fr p v v w W') :=
    Lib.hid (fun j hd hj W r f => by have q := rdigs_any W r hs hj; rw [if_pos hd] at q; exact q.mono (fun e W' ⟨k, i', k2, k3, k4⟩ => ⟨k, i', k2, k3, f.trans k4⟩))
  have HF : Hid (∀ (j : Nat) (O : Bool), decide (fracM s j ≠ j) = O → j ≤ s.size → ∀ W, RfB W p s j v L 0 → Fr p v v w W → Calls Tryd.prog 63 #[.pointer (some ⟨p, 0, none⟩), .bool false] W fun e W' => e = .returned (.bool O) ∧ RfB W' p s (fracM s j) v L 0 ∧ Fr p v v w W') :=
    Lib.hid (fun j O hO hj W r f => by subst hO; exact (rmoreF_any W r hs hj).mono (fun e W' k => ⟨k.1, k.2.1, f.trans k.2.2⟩))
  have HE : Hid (∀ (j : Nat) (O : Bool), decide (expoM s j ≠ j) = O → j ≤ s.size → ∀ W, RfB W p s j v L 0 → Fr p v v w W → Calls Tryd.prog 63 #[.pointer (some ⟨p, 0, none⟩), .bool true] W fun e W' => e = .returned (.bool O) ∧ RfB W' p s (expoM s j) v L 0 ∧ Fr p v v w W') :=
    Lib.hid (fun j O hO hj W r f => by subst hO; exact (rmoreE_any W r hs hj).mono (fun e W' k => ⟨k.1, k.2.1, f.trans k.2.2⟩))
  have HR : Hid (∀ (x : ByteArray) (E V : Int), Nm.rdE x = E → Nm.rdV x = V → x.size ≤ 100000000 → ∀ W j, RfB W p s j v L 0 → Fr p v v w W → Calls Tryd.prog 64 #[.string x] W fun e W' => e = .returned (.tuple #[.int .i64 V, .int .i64 E]) ∧ RfB W' p s j v L 0 ∧ Fr p v v w W') :=
    Lib.hid (fun x E V hE hV hx W j r f => by subst hE hV; exact (Nm.rread_any x W (by unfold maxLen; omega)).mono (fun e W' k => ⟨k.1, (r.below k.2).1, f.trans (r.below k.2).2⟩))
  have HX : Hid (∀ W j, RfB W p s j v L 0 → Fr p v v w W → Calls Tryd.prog 25 #[.pointer (some ⟨p, 0, none⟩), .int .i64 41] W fun e W' => e = .returned (.tuple #[]) ∧ RfB W' p s j v L 41 ∧ Fr p v v w W') :=
    Lib.hid (fun W j r f => (rfail_ok 41 W r).mono (fun e W' k => ⟨k.1, k.2.1, f.trans k.2.2⟩))
  obtain ⟨X, hX⟩ : ∃ X, X = numM s i := ⟨_, rfl⟩
  rw [← hX]
  have HXX := Lib.hid hX
  have R0 : Hid (RfB w p s i v L 0 ∧ Fr p v v w w) := Lib.hid ⟨h, Fr.refl p v w⟩
  have ca0 := h.c0
  have cb0 := h.c1
  have cc0 := h.c3
  have hi2 : (i : Int) ≤ s.size := by omega
  have hs2 : (s.size : Int) ≤ 1000000 := by omega
  clear h hX
  obtain ⟨a, ha⟩ : ∃ a, a = if byt s i = 45 then i + 1 else i := ⟨_, rfl⟩
  have HIM : Hid (intM s i = if byt s a = 48 then .ok (a + 1) else if dg s a = a then .bad 40 else .ok (dg s a)) := Lib.hid (by unfold intM; rw [ha])
  have hal : i ≤ a ∧ a ≤ s.size := by
    rw [ha]
    split
    · have := byt_in (s := s) (i := i) (by omega)
      omega
    · omega
  obtain ⟨hal1, hal⟩ := hal
  obtain ⟨bi, hbi⟩ : ∃ bi, byt s i = bi := ⟨_, rfl⟩
  obtain ⟨ba, hba⟩ : ∃ ba, byt s a = ba := ⟨_, rfl⟩
  rw [hbi] at ha
  have HA := Lib.hid ha
  have Hm := Lib.hid hbi
  have Hz := Lib.hid hba
  rw [hba] at HIM
  clear ha hbi hba
  go_enter Tryd.func40, Tryd.ntmps40
  go_wp2_with fail
  refine (HL.out i bi Hm.out hi _ R0.out.1 R0.out.2).mono ?_
  rintro e w1 ⟨rfl, r1, f1⟩
  have R1 := Lib.hid (And.intro r1 f1)
  have ca1 := r1.c0
  have cb1 := r1.c1
  have cc1 := r1.c3
  have cz1 := r1.z 1
  clear r1 f1
  go_upto_if 14 with fail
  go_cut [] (fun wx => Hid (RfB wx p s a v L 0 ∧ Fr p v v w wx))
  case first =>
    by_cases hm : bi = 45
    · have hq : (bi == 45) = true := by simp [hm]
      have HA2 : Hid (a = i + 1) := Lib.hid (by rw [HA.out, if_pos hm])
      clear hm
      go_wp2_with fail
      go_meet
      exact Lib.hid ⟨(R1.out.1.at_ a ((i : Int) + 1) (by rw [HA2.out]; omega)).1, R1.out.2.trans (R1.out.1.at_ a ((i : Int) + 1) (by rw [HA2.out]; omega)).2⟩
    · have hq : (bi == 45) = false := beq_eq_false_iff_ne.2 hm
      have HA2 : Hid (a = i) := Lib.hid (by rw [HA.out, if_neg hm])
      clear hm
      go_wp2_with fail
      go_meet
      rw [HA2.out]
      exact R1
  case rest =>
    have RN1 := hcut
    clear hcut
    go_wp2_with fail
    refine (HL.out a ba Hz.out hal _ RN1.out.1 RN1.out.2).mono ?_
    rintro e w2 ⟨rfl, r2, f2⟩
    have R2 := Lib.hid (And.intro r2 f2)
    have ca2 := r2.c0
    have cb2 := r2.c1
    have cc2 := r2.c3
    have cz2 := r2.z 1
    clear r2 f2
    go_upto_if 24 with fail
    go_cut [] (fun wx => Hid (NumS p s v L w (intM s i) wx))
    case first =>
      by_cases hz : ba = 48
      · have hq : (ba == 48) = true := by simp [hz]
        have HI : Hid (intM s i = .ok (a + 1)) := Lib.hid (by rw [HIM.out, if_pos hz])
        clear hz
        go_wp2_with fail
        go_meet
        rw [HI.out]
        exact Lib.hid ⟨(R2.out.1.at_ (a + 1) ((a : Int) + 1) (by omega)).1, R2.out.2.trans (R2.out.1.at_ (a + 1) ((a : Int) + 1) (by omega)).2⟩
      · have hq : (ba == 48) = false := beq_eq_false_iff_ne.2 hz
        by_cases hdg : dg s a = a
        · have HI : Hid (intM s i = .bad 40) := Lib.hid (by rw [HIM.out, if_neg hz, if_pos hdg])
          have Hdg := Lib.hid hdg
          clear hz hdg
          go_wp2_with fail
          refine (HDb.out a Hdg.out hal _ R2.out.1 R2.out.2).mono ?_
          rintro e w3 ⟨rfl, i3, hi3, r3, f3⟩
          go_wp2_with fail
          go_meet
          rw [HI.out]
          exact Lib.hid ⟨i3, hi3, r3, f3⟩
        · have HI : Hid (intM s i = .ok (dg s a)) := Lib.hid (by rw [HIM.out, if_neg hz, if_neg hdg])
          have Hdg := Lib.hid hdg
          clear hz hdg
          go_wp2_with fail
          refine (HDo.out a (dg s a) Hdg.out rfl hal _ R2.out.1 R2.out.2).mono ?_
          rintro e w3 ⟨rfl, r3, f3⟩
          go_wp2_with fail
          go_meet
          rw [HI.out]
          exact Lib.hid ⟨r3, f3⟩
    case rest =>
      cases hI : intM s i with
      | bad m =>
        have HI := Lib.hid hI
        rw [hI] at hcut
        clear hI
        have hm40 : m = 40 := by
          have q := HIM.out
          rw [HI.out] at q
          split at q
          · cases q
          · split at q
            · cases q; rfl
            · cases q
        subst hm40
        obtain ⟨i3, hi3, r3, f3⟩ := hcut.out
        have R3 := Lib.hid (And.intro r3 f3)
        have cb3 := r3.c1
        have cc3 := r3.c3
        clear r3 f3 hcut
        go_wp2_with fail
        go_ret
        rw [HXX.out]
        unfold numM
        rw [HI.out]
        exact ⟨0, i3, rfl, hi3, R3.out.1, R3.out.2⟩
      | ok b =>
        have HI := Lib.hid hI
        rw [hI] at hcut
        clear hI
        obtain ⟨r3, f3⟩ := hcut.out
        have R3 := Lib.hid (And.intro r3 f3)
        have cb3 := r3.c1
        have cc3 := r3.c3
        clear r3 f3 hcut
        go_wp2_with fail
        obtain ⟨b1, b2⟩ := intM_ok hi HI.out
        obtain ⟨g1, g2⟩ := fracM_ok b2
        obtain ⟨hd1, hd2⟩ := expoM_ok g2
        have k1 : (i : Int) ≤ (b : Int) := by omega
        have k2 : (b : Int) ≤ (s.size : Int) := by omega
        obtain ⟨E, hE⟩ : ∃ E, Nm.rdE (s.extract i b) = E := ⟨_, rfl⟩
        obtain ⟨V, hV⟩ : ∃ V, Nm.rdV (s.extract i b) = V := ⟨_, rfl⟩
        have HEE := Lib.hid hE
        have HVV := Lib.hid hV
        clear hE hV
        cases hO1 : decide (fracM s b ≠ b) with
        | false =>
          have HO1 := Lib.hid hO1
          clear hO1
          refine (HF.out b false HO1.out (by omega) _ R3.out.1 R3.out.2).mono ?_
          rintro e w4 ⟨rfl, r4, f4⟩
          have R4 := Lib.hid (And.intro r4 f4)
          have ca4 := r4.c0
          have cb4 := r4.c1
          have cc4 := r4.c3
          have cz4 := r4.z 1
          clear r4 f4
          go_wp2_with fail
          cases hO2 : decide (expoM s (fracM s b) ≠ fracM s b) with
          | false =>
            have HO2 := Lib.hid hO2
            clear hO2
            refine (HE.out (fracM s b) false HO2.out (by omega) _ R4.out.1 R4.out.2).mono ?_
            rintro e w5 ⟨rfl, r5, f5⟩
            have R5 := Lib.hid (And.intro r5 f5)
            have ca5 := r5.c0
            have cb5 := r5.c1
            have cc5 := r5.c3
            have cz5 := r5.z 1
            clear r5 f5
            go_wp2_with fail
            by_cases hE0 : E = 0
            · subst hE0
              refine (HR.out (s.extract i b) _ _ HEE.out HVV.out (by simp; omega) _ _ R5.out.1 R5.out.2).mono ?_
              rintro e w6 ⟨rfl, r6, f6⟩
              have R6 := Lib.hid (And.intro r6 f6)
              clear r6 f6
              go_wp2_with fail
              go_ret
              rw [HXX.out, numM_even HI.out (of_decide_eq_false HO1.out |> Decidable.not_not.1) (by have h1 := Decidable.not_not.1 (of_decide_eq_false HO1.out); have h2 := Decidable.not_not.1 (of_decide_eq_false HO2.out); rw [h1] at h2; exact h2), if_pos HEE.out, HVV.out]
              have hdb : expoM s (fracM s b) = b := by have h1 := Decidable.not_not.1 (of_decide_eq_false HO1.out); have h2 := Decidable.not_not.1 (of_decide_eq_false HO2.out); rw [h2, h1]
              have q := R6.out
              rw [hdb] at q
              exact ⟨rfl, q.1, q.2⟩
            · have hne : (E != 0) = true := by simp [hE0]
              refine (HR.out (s.extract i b) _ _ HEE.out HVV.out (by simp; omega) _ _ R5.out.1 R5.out.2).mono ?_
              rintro e w6 ⟨rfl, r6, f6⟩
              have R6 := Lib.hid (And.intro r6 f6)
              clear r6 f6
              go_wp2_with fail
              refine (HX.out _ _ R6.out.1 R6.out.2).mono ?_
              rintro e w7 ⟨rfl, r7, f7⟩
              have R7 := Lib.hid (And.intro r7 f7)
              clear r7 f7
              go_wp2_with fail
              go_ret
              rw [HXX.out, numM_even HI.out (of_decide_eq_false HO1.out |> Decidable.not_not.1) (by have h1 := Decidable.not_not.1 (of_decide_eq_false HO1.out); have h2 := Decidable.not_not.1 (of_decide_eq_false HO2.out); rw [h1] at h2; exact h2), if_neg (by rw [HEE.out]; exact hE0)]
              exact ⟨V, _, rfl, hd2, R7.out.1, R7.out.2⟩
          | true =>
            have HO2 := Lib.hid hO2
            clear hO2
            refine (HE.out (fracM s b) true HO2.out (by omega) _ R4.out.1 R4.out.2).mono ?_
            rintro e w5 ⟨rfl, r5, f5⟩
            have R5 := Lib.hid (And.intro r5 f5)
            have ca5 := r5.c0
            have cb5 := r5.c1
            have cc5 := r5.c3
            have cz5 := r5.z 1
            clear r5 f5
            go_wp2_with fail
            refine (HR.out (s.extract i b) _ _ HEE.out HVV.out (by simp; omega) _ _ R5.out.1 R5.out.2).mono ?_
            rintro e w6 ⟨rfl, r6, f6⟩
            have R6 := Lib.hid (And.intro r6 f6)
            clear r6 f6
            go_wp2_with fail
            refine (HX.out _ _ R6.out.1 R6.out.2).mono ?_
            rintro e w7 ⟨rfl, r7, f7⟩
            have R7 := Lib.hid (And.intro r7 f7)
            clear r7 f7
            go_wp2_with fail
            go_ret
            rw [HXX.out, numM_odd HI.out hi (.inr (of_decide_eq_true HO2.out))]
            exact ⟨V, _, rfl, hd2, R7.out.1, R7.out.2⟩
        | true =>
          have HO1 := Lib.hid hO1
          clear hO1
          refine (HF.out b true HO1.out (by omega) _ R3.out.1 R3.out.2).mono ?_
          rintro e w4 ⟨rfl, r4, f4⟩
          have R4 := Lib.hid (And.intro r4 f4)
          have ca4 := r4.c0
          have cb4 := r4.c1
          have cc4 := r4.c3
          have cz4 := r4.z 1
          clear r4 f4
          go_wp2_with fail
          cases hO2 : decide (expoM s (fracM s b) ≠ fracM s b) with
          | false =>
            have HO2 := Lib.hid hO2
            clear hO2
            refine (HE.out (fracM s b) false HO2.out (by omega) _ R4.out.1 R4.out.2).mono ?_
            rintro e w5 ⟨rfl, r5, f5⟩
            have R5 := Lib.hid (And.intro r5 f5)
            have ca5 := r5.c0
            have cb5 := r5.c1
            have cc5 := r5.c3
            have cz5 := r5.z 1
            clear r5 f5
            go_wp2_with fail
            refine (HR.out (s.extract i b) _ _ HEE.out HVV.out (by simp; omega) _ _ R5.out.1 R5.out.2).mono ?_
            rintro e w6 ⟨rfl, r6, f6⟩
            have R6 := Lib.hid (And.intro r6 f6)
            clear r6 f6
            go_wp2_with fail
            refine (HX.out _ _ R6.out.1 R6.out.2).mono ?_
            rintro e w7 ⟨rfl, r7, f7⟩
            have R7 := Lib.hid (And.intro r7 f7)
            clear r7 f7
            go_wp2_with fail
            go_ret
            rw [HXX.out, numM_odd HI.out hi (.inl (of_decide_eq_true HO1.out))]
            exact ⟨V, _, rfl, hd2, R7.out.1, R7.out.2⟩
          | true =>
            have HO2 := Lib.hid hO2
            clear hO2
            refine (HE.out (fracM s b) true HO2.out (by omega) _ R4.out.1 R4.out.2).mono ?_
            rintro e w5 ⟨rfl, r5, f5⟩
            have R5 := Lib.hid (And.intro r5 f5)
            have ca5 := r5.c0
            have cb5 := r5.c1
            have cc5 := r5.c3
            have cz5 := r5.z 1
            clear r5 f5
            go_wp2_with fail
            refine (HR.out (s.extract i b) _ _ HEE.out HVV.out (by simp; omega) _ _ R5.out.1 R5.out.2).mono ?_
            rintro e w6 ⟨rfl, r6, f6⟩
            have R6 := Lib.hid (And.intro r6 f6)
            clear r6 f6
            go_wp2_with fail
            refine (HX.out _ _ R6.out.1 R6.out.2).mono ?_
            rintro e w7 ⟨rfl, r7, f7⟩
            have R7 := Lib.hid (And.intro r7 f7)
            clear r7 f7
            go_wp2_with fail
            go_ret
            rw [HXX.out, numM_odd HI.out hi (.inr (of_decide_eq_true HO2.out))]
            exact ⟨V, _, rfl, hd2, R7.out.1, R7.out.2⟩
end Go.Proofs.YtoicmcjpaodgpaaDoor
/- Layer 4, the document's Read: may a value begin with a byte? -/
namespace Go.Proofs.YtoicmcjpaodgpaaDoor
open Go.RowKit Go.Maps
set_option maxRecDepth 20000 in
set_option maxHeartbeats 4000000 in
theorem rbegins_any (b : Int) (w : World) : Calls Tryd.prog 36 #[.int .u8 b] w fun e w' => e = .returned (.bool (isSt b)) ∧ w' = w := by
  obtain ⟨r, hr⟩ : ∃ r, r = isSt b := ⟨_, rfl⟩
  rw [← hr]
  by_cases h1 : b = 123
  · subst h1; have HR : Hid (r = true) := Lib.hid (by rw [hr]; decide)
    clear hr
    go_enter Tryd.func36, Tryd.ntmps36
    go_wp2_with fail
    go_ret
    exact ⟨by rw [HR.out]; rfl, rfl⟩
  by_cases h2 : b = 91
  · subst h2; have HR : Hid (r = true) := Lib.hid (by rw [hr]; decide)
    clear hr h1
    go_enter Tryd.func36, Tryd.ntmps36
    go_wp2_with fail
    go_ret
    exact ⟨by rw [HR.out]; rfl, rfl⟩
  by_cases h3 : b = 34
  · subst h3; have HR : Hid (r = true) := Lib.hid (by rw [hr]; decide)
    clear hr h1 h2
    go_enter Tryd.func36, Tryd.ntmps36
    go_wp2_with fail
    go_ret
    exact ⟨by rw [HR.out]; rfl, rfl⟩
  by_cases h4 : b = 116
  · subst h4; have HR : Hid (r = true) := Lib.hid (by rw [hr]; decide)
    clear hr h1 h2 h3
    go_enter Tryd.func36, Tryd.ntmps36
    go_wp2_with fail
    go_ret
    exact ⟨by rw [HR.out]; rfl, rfl⟩
  by_cases h5 : b = 102
  · subst h5; have HR : Hid (r = true) := Lib.hid (by rw [hr]; decide)
    clear hr h1 h2 h3 h4
    go_enter Tryd.func36, Tryd.ntmps36
    go_wp2_with fail
    go_ret
    exact ⟨by rw [HR.out]; rfl, rfl⟩
  by_cases h6 : b = 110
  · subst h6; have HR : Hid (r = true) := Lib.hid (by rw [hr]; decide)
    clear hr h1 h2 h3 h4 h5
    go_enter Tryd.func36, Tryd.ntmps36
    go_wp2_with fail
    go_ret
    exact ⟨by rw [HR.out]; rfl, rfl⟩
  by_cases h7 : b = 45
  · subst h7; have HR : Hid (r = true) := Lib.hid (by rw [hr]; decide)
    clear hr h1 h2 h3 h4 h5 h6
    go_enter Tryd.func36, Tryd.ntmps36
    go_wp2_with fail
    go_ret
    exact ⟨by rw [HR.out]; rfl, rfl⟩
  have g1 : (b == 123) = false := beq_eq_false_iff_ne.2 h1
  have g2 : (b == 91) = false := beq_eq_false_iff_ne.2 h2
  have g3 : (b == 34) = false := beq_eq_false_iff_ne.2 h3
  have g4 : (b == 116) = false := beq_eq_false_iff_ne.2 h4
  have g5 : (b == 102) = false := beq_eq_false_iff_ne.2 h5
  have g6 : (b == 110) = false := beq_eq_false_iff_ne.2 h6
  have g7 : (b == 45) = false := beq_eq_false_iff_ne.2 h7
  have HS : Hid (r = isDg b) := Lib.hid (by rw [hr]; unfold isSt; simp [h1, h2, h3, h4, h5, h6, h7])
  clear hr
  by_cases h8 : 48 ≤ b
  · by_cases h9 : b ≤ 57
    · have HR : Hid (r = true) := Lib.hid (by rw [HS.out]; unfold isDg; simp [h8, h9])
      clear h1 h2 h3 h4 h5 h6 h7 HS
      go_enter Tryd.func36, Tryd.ntmps36
      go_wp2_with fail
      go_ret
      exact ⟨by rw [HR.out]; rfl, rfl⟩
    · have HR : Hid (r = false) := Lib.hid (by rw [HS.out]; unfold isDg; simp [h9])
      clear h1 h2 h3 h4 h5 h6 h7 HS
      go_enter Tryd.func36, Tryd.ntmps36
      go_wp2_with fail
      go_ret
      exact ⟨by rw [HR.out]; rfl, rfl⟩
  · have HR : Hid (r = false) := Lib.hid (by rw [HS.out]; unfold isDg; simp [h8])
    clear h1 h2 h3 h4 h5 h6 h7 HS
    go_enter Tryd.func36, Tryd.ntmps36
    go_wp2_with fail
    go_ret
    exact ⟨by rw [HR.out]; rfl, rfl⟩
end Go.Proofs.YtoicmcjpaodgpaaDoor
/- Layer 4, the document's Check and Quote. -/
namespace Go.Proofs.YtoicmcjpaodgpaaDoor
open Go.RowKit Go.Maps
theorem ret_intL {k : IntKind} {a b : Int} (h : a = b) : Ending.returned (.int k a) = .returned (.int k b) := by rw [h]
set_option maxRecDepth 20000 in
theorem rChk_any (s : ByteArray) (w : World) (hs : s.size ≤ 1000000) : Calls Tryd.prog 22 #[.string s] w fun e w' => e = .returned (.int .i64 (ckE s)) ∧ Below w.heap.size w w' := by
  by_cases hl : 16384 < s.size
  · have hli : (16384 : Int) < s.size := by omega
    have HE : Hid (ckE s = 4) := Lib.hid (by unfold ckE; rw [if_pos hl])
    go_enter Tryd.func22, Tryd.ntmps22
    go_wp2_with fail
    go_ret
    exact ⟨ret_intL HE.out.symm, Below.refl _ _⟩
  · have hli : ¬ (16384 : Int) < s.size := by omega
    have HE : Hid (ckE s = if isTx s then 0 else 10) := Lib.hid (by unfold ckE; rw [if_neg hl])
    have HC := Lib.hid (rpoints_any s w (by omega))
    obtain ⟨t, ht⟩ : ∃ t, t = isTx s := ⟨_, rfl⟩
    rw [← ht] at HE HC
    clear ht
    cases t
    all_goals
      go_enter Tryd.func22, Tryd.ntmps22
      go_wp2_with fail
      refine HC.out.mono ?_
      rintro e w1 ⟨v, rfl, b1⟩
      have B1 := Lib.hid b1
      clear b1
      go_wp2_with fail
      go_ret
      exact ⟨ret_intL HE.out.symm, B1.out⟩
set_option maxRecDepth 20000 in
set_option maxHeartbeats 1000000 in
theorem rQuo_any (s : ByteArray) (w : World) (hs : s.size ≤ 1000000) : Calls Tryd.prog 13 #[.string s] w fun e w' => e = .returned (.tuple #[.string (if ckE s = 0 then quT s else ⟨#[]⟩), .int .i64 (ckE s)]) ∧ Below w.heap.size w w' := by
  have HC := Lib.hid (rChk_any s w hs)
  have HQ := Lib.hid (fun W => rQuoted_any s W (by omega))
  obtain ⟨E, hE⟩ : ∃ E, E = ckE s := ⟨_, rfl⟩
  obtain ⟨q, hq⟩ : ∃ q, q = quT s := ⟨_, rfl⟩
  rw [← hE] at HC ⊢
  rw [← hq] at HQ ⊢
  clear hE hq
  by_cases h0 : E = 0
  · subst h0
    rw [if_pos rfl]
    go_enter Tryd.func13, Tryd.ntmps13
    go_wp2_with fail
    refine HC.out.mono ?_
    rintro e w1 ⟨rfl, b1⟩
    have B1 := Lib.hid b1
    clear b1
    go_wp2_with fail
    refine (HQ.out _).mono ?_
    rintro e w2 ⟨rfl, b2⟩
    have B2 := Lib.hid (B1.out.trans (b2.mono B1.out.size))
    clear b2
    go_wp2_with fail
    go_ret2
    exact ⟨rfl, B2.out⟩
  · rw [if_neg h0]
    have hne : (E != 0) = true := by simp [h0]
    go_enter Tryd.func13, Tryd.ntmps13
    go_wp2_with fail
    refine HC.out.mono ?_
    rintro e w1 ⟨rfl, b1⟩
    have B1 := Lib.hid b1
    clear b1
    go_wp2_with fail
    go_ret2
    exact ⟨rfl, B1.out⟩
end Go.Proofs.YtoicmcjpaodgpaaDoor
/- Layer 4, json.Quote for texts of any size. -/
namespace Go.Proofs.YtoicmcjpaodgpaaDoor
open Go.RowKit Go.Maps
set_option maxRecDepth 20000 in
set_option maxHeartbeats 1000000 in
theorem jQuo_any (s : ByteArray) (w : World) (hs : s.size ≤ 1000000) : Calls Tryd.prog 9 #[.string s] w fun e w' => e = .returned (.tuple #[.string (if ckE s = 0 then quT s else ⟨#[]⟩), .int .i64 (ckE s)]) ∧ Below w.heap.size w w' := by
  by_cases hl : s.size ≤ 16384
  · have h := jQuote_any s w hl
    have he : (if isTx s = true then quT s else ⟨#[]⟩) = if ckE s = 0 then quT s else ⟨#[]⟩ := by
      have hc := ck_small hl
      cases hb : isTx s
      · rw [hb] at hc; rw [hc]; rfl
      · rw [hb] at hc; rw [hc]; rfl
    rw [he] at h
    exact h
  · have hc : ckE s = 4 := by unfold ckE; rw [if_pos (by omega)]
    have HC := Lib.hid (check_any s w (by unfold maxLen; omega))
    rw [hc] at HC ⊢
    rw [if_neg (by decide)]
    clear hc
    go_enter Tryd.func9, Tryd.ntmps9
    go_wp2_with fail
    refine HC.out.mono ?_
    rintro e w1 ⟨rfl, b1⟩
    have B1 := Lib.hid b1
    clear b1
    go_wp2_with fail
    go_ret2
    exact ⟨rfl, B1.out⟩
end Go.Proofs.YtoicmcjpaodgpaaDoor
/- Layer 4, Read: how many cells so many bytes tell (plain). -/
namespace Go.Proofs.YtoicmcjpaodgpaaDoor
open Go.RowKit
def ItF {σ : Type} (it : Nat → σ → Rs (Nat × σ)) (pr : σ → List CR) (c : Nat) : Prop := ∀ i x y, 2 * (pr x).length ≤ i + c → it i x = .ok y → 2 * (pr y.2).length ≤ y.1 + c + 1
theorem alF_few {σ : Type} {s : ByteArray} {it : Nat → σ → Rs (Nat × σ)} {pr : σ → List CR} {c : Nat} {shut : Int} (G : ItF it pr c) : ∀ f i x y, 2 * (pr x).length ≤ i + c + 1 → alF s it shut f i x = .ok y → 2 * (pr y.2).length ≤ y.1 + c
  | 0, i, x, y, _, e => by cases e
  | f + 1, i, x, y, h1, e => by
    unfold alF at e
    split at e
    · have hb1 := bl_ge s (i + 1)
      cases he : it (bl s (i + 1)) x with
      | bad m => rw [he] at e; cases e
      | ok z =>
        rw [he] at e
        simp only [Rs.bind_ok] at e
        have g := G _ _ _ (by omega) he
        have hc1 := bl_ge s z.1
        exact alF_few G f _ _ _ (by omega) e
    · unfold wordM at e
      split at e
      · unfold wordM at e
        simp only [Rs.bind_ok] at e
        cases e
        show 2 * (pr x).length ≤ i + 1 + c
        omega
      · cases e
theorem alM_few {σ : Type} {s : ByteArray} {it : Nat → σ → Rs (Nat × σ)} {pr : σ → List CR} {c : Nat} {shut : Int} (G : ItF it pr c) {i : Nat} {x : σ} {y : Nat × σ} (h1 : 2 * (pr x).length ≤ i + c) (e : alM s it shut i x = .ok y) : 2 * (pr y.2).length ≤ y.1 + c := by
  unfold alM at e
  split at e
  · cases e
    show 2 * (pr x).length ≤ i + 1 + c
    omega
  · cases he : it i x with
    | bad m => rw [he] at e; cases e
    | ok z =>
      rw [he] at e
      simp only [Rs.bind_ok] at e
      have g := G _ _ _ h1 he
      have hc1 := bl_ge s z.1
      exact alF_few G _ _ _ _ (by omega) e
def ValF (V : ByteArray → Nat → List CR → Rs Out) (c : Nat) : Prop := ∀ nm i L j M, 2 * L.length ≤ i + c → V nm i L = .ok (j, M) → 2 * M.length ≤ j + c + 1
theorem litI_few {s : ByteArray} {V : ByteArray → Nat → List CR → Rs Out} {c : Nat} (hV : ValF V c) (nm : ByteArray) (h : Nat) : ItF (litI s (V nm) h) (fun x => x) c := by
  intro i x y h1 e
  unfold litI at e
  cases hv : V nm i x with
  | bad m => rw [hv] at e; cases e
  | ok z =>
    obtain ⟨j, M⟩ := z
    rw [hv] at e
    simp only [Rs.bind_ok] at e
    cases e
    show 2 * (incC M h).length ≤ j + c + 1
    unfold incC
    rw [setC_len]
    exact hV _ _ _ _ _ h1 hv
theorem objI_few {s : ByteArray} {V : ByteArray → Nat → List CR → Rs Out} {c : Nat} (hV : ValF V c) (h : Nat) : ItF (objI s V h) (fun x => x.2) c := by
  intro i x y h1 e
  unfold objI memM at e
  cases hst : strM s i with
  | bad m => rw [hst] at e; cases e
  | ok t =>
    obtain ⟨l, k⟩ := t
    have s1 := (strM_ok hst).1
    rw [hst] at e
    simp only [Rs.bind_ok] at e
    split at e
    · cases e
    split at e
    · cases e
    · have hb1 := bl_ge s k
      unfold wordM at e
      split at e
      · unfold wordM at e
        simp only [Rs.bind_ok] at e
        have hc1 := bl_ge s (bl s k + 1)
        cases hv : V (mkB l) (bl s (bl s k + 1)) x.2 with
        | bad m => rw [hv] at e; cases e
        | ok z =>
          obtain ⟨j, M⟩ := z
          rw [hv] at e
          simp only [Rs.bind_ok] at e
          cases e
          show 2 * (incC M h).length ≤ j + c + 1
          unfold incC
          rw [setC_len]
          have h1' : 2 * x.2.length ≤ i + c := h1
          exact hV _ _ _ _ _ (by omega) hv
      · cases e
theorem word_gt {s : ByteArray} : ∀ {l : List Int} {i j : Nat}, wordM s l i = .ok j → j = i + l.length
  | [], i, j, e => by cases e; rfl
  | c :: r, i, j, e => by
    unfold wordM at e
    split at e
    · have := word_gt e
      simp; omega
    · cases e
/-- A value of few bytes has few cells. -/
theorem valM_few {s : ByteArray} : ∀ (f op : Nat), ValF (fun nm i L => valM s f nm op i L) op
  | 0, op => by intro nm i L j M h e; cases e
  | f + 1, op => by
    intro nm i L j M h e
    have ih := valM_few (s := s) f (op + 1)
    have hb1 := bl_ge s (i + 1)
    dsimp only at e
    unfold valM at e
    split at e
    · cases e
    split at e
    · cases e
    split at e
    · cases e
    split at e
    · rw [obj_al] at e
      cases ha : alM s (objI s (fun nm' j M => valM s f nm' (op + 1) j M) L.length) 125 (bl s (i + 1)) ([], L ++ [⟨7, nm, ⟨#[]⟩, 0, 0⟩]) with
      | bad m => rw [ha] at e; cases e
      | ok y =>
        rw [ha] at e
        simp only [Rs.bind_ok] at e
        have g := alM_few (objI_few ih L.length) (by simp; omega) ha
        cases e
        have g' : 2 * y.2.2.length ≤ y.1 + (op + 1) := g
        omega
    split at e
    · rw [lst_al] at e
      have g := alM_few (litI_few ih ⟨#[]⟩ L.length) (by simp; omega) e
      have g' : 2 * M.length ≤ j + (op + 1) := g
      omega
    split at e
    · cases hst : strM s i with
      | bad m => rw [hst] at e; cases e
      | ok t =>
        have s1 := (strM_ok hst).1
        rw [hst] at e
        simp only [Rs.bind_ok] at e
        cases e
        simp; omega
    split at e
    · cases hw : wordM s [116, 114, 117, 101] i with
      | bad m => rw [hw] at e; cases e
      | ok k =>
        have q := word_gt hw
        rw [hw] at e
        simp only [Rs.bind_ok] at e
        cases e
        simp at q ⊢; omega
    split at e
    · cases hw : wordM s [102, 97, 108, 115, 101] i with
      | bad m => rw [hw] at e; cases e
      | ok k =>
        have q := word_gt hw
        rw [hw] at e
        simp only [Rs.bind_ok] at e
        cases e
        simp at q ⊢; omega
    split at e
    · cases hw : wordM s [110, 117, 108, 108] i with
      | bad m => rw [hw] at e; cases e
      | ok k =>
        have q := word_gt hw
        rw [hw] at e
        simp only [Rs.bind_ok] at e
        cases e
        simp at q ⊢; omega
    · rename_i hst _ _ _ _ _ _ _ _
      cases hw : numM s i with
      | bad m => rw [hw] at e; cases e
      | ok t =>
        have hin : i < s.size := by
          apply byt_in
          intro e0
          rw [e0] at hst
          exact hst (by decide)
        obtain ⟨n, d⟩ := t
        have q := numM_ok (by omega) hw
        rw [hw] at e
        simp only [Rs.bind_ok] at e
        cases e
        simp; omega
end Go.Proofs.YtoicmcjpaodgpaaDoor
/- Layer 4, the document's Read: strings by code points (plain). -/
namespace Go.Proofs.YtoicmcjpaodgpaaDoor
open Go.RowKit
/-- The code point that an escape tells. -/
def escP (s : ByteArray) (i : Nat) : Rs (Int × Nat) :=
  if byt s i = 34 ∨ byt s i = 92 ∨ byt s i = 47 then .ok (byt s i, i + 1)
  else if byt s i = 98 then .ok (8, i + 1)
  else if byt s i = 102 then .ok (12, i + 1)
  else if byt s i = 110 then .ok (10, i + 1)
  else if byt s i = 114 then .ok (13, i + 1)
  else if byt s i = 116 then .ok (9, i + 1)
  else if byt s i = 117 then pointM s (i + 1)
  else .bad 40
theorem escM_P (s : ByteArray) (i : Nat) : escM s i = (escP s i).bind fun x => .ok (enc x.1, x.2) := by
  unfold escM escP
  dsimp only
  split
  · rename_i h
    simp only [Rs.bind_ok]
    rw [enc_low _ (by omega)]
  split
  · rfl
  split
  · rfl
  split
  · rfl
  split
  · rfl
  split
  · rfl
  split
  · rfl
  · rfl
theorem escP_pt {s : ByteArray} {i : Nat} {x : Int × Nat} (e : escP s i = .ok x) : isPt x.1 = true := by
  have low : ∀ b : Int, 0 ≤ b → b < 128 → isPt b = true := fun b h0 h1 => by unfold isPt; rw [decide_eq_true_eq]; omega
  unfold escP at e
  split at e
  · cases e; exact low _ (byt_range s i).1 (by dsimp only; omega)
  split at e
  · cases e; rfl
  split at e
  · cases e; rfl
  split at e
  · cases e; rfl
  split at e
  · cases e; rfl
  split at e
  · cases e; rfl
  split at e
  · exact (point_asc e).2
  · cases e
/-- A string's code points, up to its end's quote. -/
def stP (s : ByteArray) : Nat → Nat → List Int → Rs (List Int × Nat)
  | 0, _, _ => .bad 40
  | f + 1, j, ps =>
    if byt s j = 34 then .ok (ps, j)
    else if byt s j < 32 then .bad 40
    else if byt s j = 92 then (escP s (j + 1)).bind fun x => stP s f x.2 (ps ++ [x.1])
    else stP s f (j + leadN (byt s j)) (ps ++ [decP s j])
theorem stP_step {s : ByteArray} {f j : Nat} {ps : List Int} (h : 1 ≤ f) : stP s f j ps = if byt s j = 34 then .ok (ps, j) else if byt s j < 32 then .bad 40 else if byt s j = 92 then (escP s (j + 1)).bind fun x => stP s (f - 1) x.2 (ps ++ [x.1]) else stP s (f - 1) (j + leadN (byt s j)) (ps ++ [decP s j]) := by
  match f, h with
  | f + 1, _ => rfl
theorem strF_raws {s : ByteArray} : ∀ (z f j : Nat) (l : List Int), (∀ k, k < z → 128 ≤ byt s (j + k)) → strF s (f + z) j l = strF s f (j + z) (l ++ (List.range z).map fun k => byt s (j + k))
  | 0, f, j, l, _ => by simp
  | z + 1, f, j, l, h => by
    have h0 := h 0 (by omega)
    rw [Nat.add_zero] at h0
    rw [← Nat.add_assoc, strF, if_neg (by omega), if_neg (by omega), if_neg (by omega), strF_raws z f (j + 1) _ (fun k hk => by have := h (k + 1) (by omega); rw [show j + 1 + k = j + (k + 1) by omega]; exact this)]
    rw [show j + (z + 1) = j + 1 + z by omega, List.range_succ_eq_map, List.map_cons, List.map_map, List.append_assoc]
    have e3 : ((fun k => byt s (j + k)) ∘ Nat.succ) = fun k => byt s (j + 1 + k) := by
      funext k
      show byt s (j + (k + 1)) = byt s (j + 1 + k)
      rw [show j + (k + 1) = j + 1 + k by omega]
    rw [e3]
    rfl
theorem flat_one (ps : List Int) (p : Int) : (ps ++ [p]).flatMap enc = ps.flatMap enc ++ enc p := by simp
theorem stP_str {s : ByteArray} : ∀ (n F f j : Nat) (ps : List Int), s.size - j ≤ n → s.size - j + 1 ≤ F → s.size - j + 1 ≤ f → Tw s j s.size → strF s F j (ps.flatMap enc) = (stP s f j ps).bind fun x => .ok (x.1.flatMap enc, x.2 + 1) := by
  intro n
  induction n with
  | zero =>
    intro F f j ps hn hF hf hw
    obtain ⟨F, rfl⟩ : ∃ x, F = x + 1 := ⟨F - 1, by omega⟩
    obtain ⟨f, rfl⟩ : ∃ x, f = x + 1 := ⟨f - 1, by omega⟩
    unfold strF stP
    rw [byt_end (by omega)]
    rfl
  | succ n ih =>
    intro F f j ps hn hF hf hw
    by_cases hj : j = s.size
    · obtain ⟨F, rfl⟩ : ∃ x, F = x + 1 := ⟨F - 1, by omega⟩
      obtain ⟨f, rfl⟩ : ∃ x, f = x + 1 := ⟨f - 1, by omega⟩
      unfold strF stP
      rw [byt_end (by omega)]
      rfl
    · obtain ⟨hlt, hd, hw2⟩ := hw.inv hj
      obtain ⟨f, rfl⟩ : ∃ x, f = x + 1 := ⟨f - 1, by omega⟩
      unfold stP
      by_cases h34 : byt s j = 34
      · obtain ⟨F, rfl⟩ : ∃ x, F = x + 1 := ⟨F - 1, by omega⟩
        unfold strF
        rw [if_pos h34, if_pos h34]
        rfl
      by_cases h32 : byt s j < 32
      · obtain ⟨F, rfl⟩ : ∃ x, F = x + 1 := ⟨F - 1, by omega⟩
        unfold strF
        rw [if_neg h34, if_neg (by omega), if_pos h32, if_neg h34, if_pos h32]
        rfl
      by_cases h92 : byt s j = 92
      · obtain ⟨F, rfl⟩ : ∃ x, F = x + 1 := ⟨F - 1, by omega⟩
        unfold strF
        rw [if_neg h34, if_pos h92, if_neg h34, if_neg h32, if_pos h92, escM_P]
        cases he : escP s (j + 1) with
        | bad m => rfl
        | ok x =>
          have he2 : escM s (j + 1) = .ok (enc x.1, x.2) := by rw [escM_P, he]; rfl
          obtain ⟨a1, a2⟩ := esc_pt he2
          have hx := escM_ok he2
          rw [(asc_dec (s := s) (a := j) (by omega)).2] at hw2
          simp only [Rs.bind_ok]
          rw [← flat_one]
          exact ih F f x.2 (ps ++ [x.1]) (by omega) (by omega) (by omega) (hw2.asc a1 hx.2.1)
      rw [if_neg h34, if_neg h32, if_neg h92]
      have hdn := (decIs_lead hd).1
      obtain ⟨q1, q2⟩ := enc_dec hd
      have hle := hw2.le
      by_cases hb : byt s j < 128
      · obtain ⟨F, rfl⟩ : ∃ x, F = x + 1 := ⟨F - 1, by omega⟩
        rw [(asc_dec hb).2] at q1 q2 hw2 hle ⊢
        have e1 : enc (decP s j) = [byt s j] := by
          obtain ⟨c, hc⟩ := List.length_eq_one_iff.1 q1
          have := q2 0 (by omega)
          rw [hc] at this ⊢
          rw [Nat.add_zero] at this
          rw [this]; rfl
        unfold strF
        rw [if_neg h34, if_neg h92, if_neg h32, ← e1, ← flat_one]
        exact ih F f (j + 1) _ (by omega) (by omega) (by omega) hw2
      · have hcb := conts_byt _ (decIs_lead hd).2
        have hz : ∀ k, k < leadN (byt s j) → 128 ≤ byt s (j + k) := fun k hk => by
          cases k with
          | zero => rw [Nat.add_zero]; omega
          | succ k =>
            have := hcb k (by omega)
            rw [show j + (k + 1) = j + 1 + k by omega]
            exact this
        obtain ⟨F, rfl⟩ : ∃ x, F = x + leadN (byt s j) := ⟨F - leadN (byt s j), by omega⟩
        rw [strF_raws _ _ _ _ hz]
        rw [← q1] at q2
        have hm := map_range_eq q2
        rw [q1] at hm
        rw [hm, ← flat_one]
        exact ih F f _ _ (by omega) (by omega) (by omega) hw2
theorem stP_pts {s : ByteArray} : ∀ (f j : Nat) (ps : List Int) (x : List Int × Nat), Tw s j s.size → (∀ p ∈ ps, isPt p = true) → stP s f j ps = .ok x → (∀ p ∈ x.1, isPt p = true) ∧ byt s x.2 = 34
  | 0, j, ps, x, _, _, e => by cases e
  | f + 1, j, ps, x, hw, hp, e => by
    unfold stP at e
    split at e
    · rename_i h; cases e; exact ⟨hp, h⟩
    split at e
    · cases e
    rename_i h34 h32
    have hj : j < s.size := by
      by_cases k : j < s.size
      · exact k
      · rw [byt_end (by omega)] at h32; exact absurd (by decide) h32
    obtain ⟨_, hd, hw2⟩ := hw.inv (by omega)
    split at e
    · rename_i h92
      cases he : escP s (j + 1) with
      | bad m => rw [he] at e; cases e
      | ok y =>
        rw [he] at e
        simp only [Rs.bind_ok] at e
        have he2 : escM s (j + 1) = .ok (enc y.1, y.2) := by rw [escM_P, he]; rfl
        obtain ⟨a1, a2⟩ := esc_pt he2
        rw [(asc_dec (s := s) (a := j) (by omega)).2] at hw2
        exact stP_pts f _ _ x (hw2.asc a1 (escM_ok he2).2.1) (fun p hp' => by
          rcases List.mem_append.1 hp' with h | h
          · exact hp p h
          · obtain rfl := List.mem_singleton.1 h; exact escP_pt he) e
    · have hpt : isPt (decP s j) = true := by
        have hdd := hd
        unfold decIs at hdd
        simp only [Bool.and_eq_true] at hdd
        unfold decP
        rw [hd]
        exact hdd.1.2
      exact stP_pts f _ _ x hw2 (fun p hp' => by
        rcases List.mem_append.1 hp' with h | h
        · exact hp p h
        · obtain rfl := List.mem_singleton.1 h; exact hpt) e
theorem encs_flat (L : List Int) : ∀ k, k ≤ L.length → encs L k = (L.take k).flatMap enc
  | 0, _ => by simp [encs]
  | k + 1, h => by
    have hk : k < L.length := by omega
    rw [encs, encs_flat L k (by omega), List.take_succ_eq_append_getElem hk, List.flatMap_append, List.getD_eq_getElem?_getD, List.getElem?_eq_getElem hk]
    simp
theorem encs_all (L : List Int) : encs L L.length = L.flatMap enc := by rw [encs_flat L _ (Nat.le_refl _), List.take_length]
theorem allPt_of {L : List Int} (h : ∀ p ∈ L, isPt p = true) : ∀ k, k ≤ L.length → allPt L k = true
  | 0, _ => rfl
  | k + 1, hk => by
    unfold allPt
    rw [allPt_of h k (by omega), Bool.true_and, List.getD_eq_getElem?_getD, List.getElem?_eq_getElem (by omega)]
    exact h _ (List.getElem_mem _)
/-- A string, by its code points. -/
theorem strM_P {s : ByteArray} {i : Nat} (hw : Tw s i s.size) : strM s i = (wordM s [34] i).bind fun j => (stP s (s.size - j + 1) j []).bind fun x => .ok (x.1.flatMap enc, x.2 + 1) := by
  unfold strM
  cases h1 : wordM s [34] i with
  | bad m => rfl
  | ok j =>
    obtain ⟨w1, rfl⟩ := word1 h1
    have hin := byt_in (s := s) (i := i) (by omega)
    simp only [Rs.bind_ok]
    exact stP_str _ _ _ _ [] (Nat.le_refl _) (Nat.le_refl _) (Nat.le_refl _) (hw.asc (Asc.one (by omega)) (by omega))
end Go.Proofs.YtoicmcjpaodgpaaDoor
/- Layer 4, the document's Read: its values (plain). -/
namespace Go.Proofs.YtoicmcjpaodgpaaDoor
open Go.RowKit
theorem bl_bl (s : ByteArray) (i : Nat) : bl s (bl s i) = bl s i := by
  have key : ∀ n i, s.size - i ≤ n → bl s (bl s i) = bl s i := by
    intro n
    induction n with
    | zero =>
      intro i h
      have e : bl s i = i := bl_stop (by rw [byt_end (by omega)]; rfl)
      rw [e, e]
    | succ n ih =>
      intro i h
      cases hb : isBl (byt s i)
      · rw [bl_stop hb, bl_stop hb]
      · have hin : i < s.size := byt_in (by intro e; rw [e] at hb; cases hb)
        rw [bl_step hb]
        exact ih (i + 1) (by omega)
  exact key _ i (Nat.le_refl _)
abbrev Itm := Nat × List ByteArray × List CR
/-- A list's item, as the document has it: how many, and their cells. -/
def itL (V : ByteArray → Nat → Rs (Nat × List CR)) (i : Nat) (x : Itm) : Rs (Nat × Itm) :=
  (V ⟨#[]⟩ i).bind fun y => .ok (y.1, (x.1 + 1, x.2.1, x.2.2 ++ y.2))
/-- An object's member, as the document has it: how many, their names, and their cells. -/
def itO (s : ByteArray) (V : ByteArray → Nat → Rs (Nat × List CR)) (i : Nat) (x : Itm) : Rs (Nat × Itm) :=
  (strM s i).bind fun t =>
    if t.1 = [] then .bad 8 else if x.2.1.any (fun y => decide (y = mkB t.1)) = true then .bad 42 else
    (wordM s [58] (bl s t.2)).bind fun k => (V (mkB t.1) k).bind fun y => .ok (y.1, (x.1 + 1, x.2.1 ++ [mkB t.1], x.2.2 ++ y.2))
/-- A value's cells, as the document has it: behind blanks. -/
def valR (s : ByteArray) : Nat → ByteArray → Nat → Nat → Rs (Nat × List CR)
  | 0, _, _, _ => .bad 30
  | f + 1, nm, op, i0 =>
    if isSt (byt s (bl s i0)) = false then .bad 40
    else if (byt s (bl s i0) = 123 ∨ byt s (bl s i0) = 91) ∧ op = 16 then .bad 30
    else if byt s (bl s i0) = 123 then (alM s (itO s (fun nm' j => valR s f nm' (op + 1) j)) 125 (bl s (bl s i0 + 1)) (0, [], [])).bind fun y => .ok (y.1, ⟨7, nm, ⟨#[]⟩, 0, y.2.1⟩ :: y.2.2.2)
    else if byt s (bl s i0) = 91 then (alM s (itL (fun nm' j => valR s f nm' (op + 1) j)) 93 (bl s (bl s i0 + 1)) (0, [], [])).bind fun y => .ok (y.1, ⟨6, nm, ⟨#[]⟩, 0, y.2.1⟩ :: y.2.2.2)
    else if byt s (bl s i0) = 34 then (strM s (bl s i0)).bind fun x => .ok (x.2, [⟨3, nm, mkB x.1, 0, 0⟩])
    else if byt s (bl s i0) = 116 then (wordM s [116, 114, 117, 101] (bl s i0)).bind fun j => .ok (j, [⟨1, nm, ⟨#[]⟩, 1, 0⟩])
    else if byt s (bl s i0) = 102 then (wordM s [102, 97, 108, 115, 101] (bl s i0)).bind fun j => .ok (j, [⟨1, nm, ⟨#[]⟩, 0, 0⟩])
    else if byt s (bl s i0) = 110 then (wordM s [110, 117, 108, 108] (bl s i0)).bind fun j => .ok (j, [⟨0, nm, ⟨#[]⟩, 0, 0⟩])
    else (numM s (bl s i0)).bind fun x => .ok (x.2, [⟨2, nm, ⟨#[]⟩, x.1, 0⟩])
theorem alF_rel {σ τ : Type} {s : ByteArray} {it : Nat → σ → Rs (Nat × σ)} {it' : Nat → τ → Rs (Nat × τ)} {φ : τ → σ} {pr : σ → List CR} {c : Nat} {shut : Int} (G : ItF it pr c) (E : ∀ i x, bl s i = i → 2 * (pr (φ x)).length ≤ i + c → it i (φ x) = (it' i x).bind fun y => .ok (y.1, φ y.2)) : ∀ f i x, 2 * (pr (φ x)).length ≤ i + c + 1 → alF s it shut f i (φ x) = (alF s it' shut f i x).bind fun y => .ok (y.1, φ y.2)
  | 0, i, x, _ => rfl
  | f + 1, i, x, h => by
    unfold alF
    split
    · have hb1 := bl_ge s (i + 1)
      rw [E _ _ (bl_bl s _) (by omega)]
      cases he : it' (bl s (i + 1)) x with
      | bad m => rfl
      | ok y =>
        have g := G (bl s (i + 1)) (φ x) (y.1, φ y.2) (by omega) (by rw [E _ _ (bl_bl s _) (by omega), he]; rfl)
        have hc1 := bl_ge s y.1
        simp only [Rs.bind_ok]
        exact alF_rel G E f _ _ (by dsimp only at g; omega)
    · cases wordM s [shut] i <;> rfl
theorem alM_rel {σ τ : Type} {s : ByteArray} {it : Nat → σ → Rs (Nat × σ)} {it' : Nat → τ → Rs (Nat × τ)} {φ : τ → σ} {pr : σ → List CR} {c : Nat} {shut : Int} (G : ItF it pr c) (E : ∀ i x, bl s i = i → 2 * (pr (φ x)).length ≤ i + c → it i (φ x) = (it' i x).bind fun y => .ok (y.1, φ y.2)) (i : Nat) (x : τ) (hi : bl s i = i) (h : 2 * (pr (φ x)).length ≤ i + c) : alM s it shut i (φ x) = (alM s it' shut i x).bind fun y => .ok (y.1, φ y.2) := by
  unfold alM
  split
  · rfl
  · rw [E _ _ hi h]
    cases he : it' i x with
    | bad m => rfl
    | ok y =>
      have g := G i (φ x) (y.1, φ y.2) h (by rw [E _ _ hi h, he]; rfl)
      have hc1 := bl_ge s y.1
      simp only [Rs.bind_ok]
      exact alF_rel G E _ _ _ (by dsimp only at g; omega)
theorem any_rev {α : Type} (l : List α) (p : α → Bool) : l.reverse.any p = l.any p := by
  rw [Bool.eq_iff_iff]
  simp
/-- The document's values are those of the program's reader, where cells are few. -/
theorem valM_R {s : ByteArray} (hs : s.size ≤ 3000) : ∀ (f op i : Nat) (nm : ByteArray) (L : List CR), op + f = 17 → 2 * L.length ≤ bl s i + op → valM s f nm op (bl s i) L = (valR s f nm op i).bind fun x => .ok (x.1, L ++ x.2)
  | 0, op, i, nm, L, _, _ => rfl
  | f + 1, op, i, nm, L, hop, hL => by
    have ih := valM_R hs f (op + 1)
    have few := valM_few (s := s) f (op + 1)
    unfold valM valR
    obtain ⟨k, hk⟩ : ∃ k, k = bl s i := ⟨_, rfl⟩
    rw [← hk] at hL ⊢
    by_cases h1 : isSt (byt s k) = false
    · rw [if_pos h1, if_pos h1]; rfl
    rw [if_neg h1, if_neg h1]
    by_cases h2 : (byt s k = 123 ∨ byt s k = 91) ∧ op = 16
    · rw [if_pos h2, if_pos h2]; rfl
    rw [if_neg h2, if_neg h2]
    have hks : k < s.size := byt_in (by intro e; rw [e] at h1; exact h1 (by decide))
    rw [if_neg (by omega)]
    have hb1 := bl_ge s (k + 1)
    by_cases h3 : byt s k = 123
    · rw [if_pos h3, if_pos h3, obj_al]
      have E : ∀ (i : Nat) (x : Itm), bl s i = i → 2 * (L ++ [(⟨7, nm, ⟨#[]⟩, 0, x.1⟩ : CR)] ++ x.2.2).length ≤ i + (op + 1) → objI s (fun nm' j M => valM s f nm' (op + 1) j M) L.length i (x.2.1.reverse, L ++ [⟨7, nm, ⟨#[]⟩, 0, x.1⟩] ++ x.2.2) = (itO s (fun nm' j => valR s f nm' (op + 1) j) i x).bind fun y => .ok (y.1, (y.2.2.1.reverse, L ++ [⟨7, nm, ⟨#[]⟩, 0, y.2.1⟩] ++ y.2.2.2)) := by
        intro i x hi hx
        unfold objI memM itO
        cases hst : strM s i with
        | bad m => rfl
        | ok t =>
          have s1 := (strM_ok hst).1
          have hb2 := bl_ge s t.2
          simp only [Rs.bind_ok]
          by_cases g1 : t.1 = []
          · rw [if_pos g1, if_pos g1]; rfl
          rw [if_neg g1, if_neg g1, any_rev]
          split
          · rfl
          cases hw : wordM s [58] (bl s t.2) with
          | bad m => rfl
          | ok k2 =>
            have hk2 := word_gt hw
            simp only [List.length_singleton] at hk2
            have hb3 := bl_ge s k2
            simp only [Rs.bind_ok]
            rw [ih _ _ _ (by omega) (by omega)]
            cases hv : valR s f (mkB t.1) (op + 1) k2 with
            | bad m => rfl
            | ok y =>
              simp only [Rs.bind_ok]
              rw [List.append_assoc, List.append_assoc, ← List.append_assoc L, incC_last]
              simp
      have G : ItF (objI s (fun nm' j M => valM s f nm' (op + 1) j M) L.length) (fun x => x.2) (op + 1) := objI_few few L.length
      have R := alM_rel (s := s) (φ := fun x : Itm => (x.2.1.reverse, L ++ [(⟨7, nm, ⟨#[]⟩, 0, x.1⟩ : CR)] ++ x.2.2)) (shut := 125) G E (bl s (k + 1)) (0, [], []) (bl_bl s _) (by simp; omega)
      simp only [List.reverse_nil, List.append_nil] at R
      have R' : alM s (objI s (fun nm' j M => valM s f nm' (op + 1) j M) L.length) 125 (bl s (k + 1)) ([], L ++ [⟨7, nm, ⟨#[]⟩, 0, 0⟩]) = _ := R
      rw [R']
      cases alM s (itO s (fun nm' j => valR s f nm' (op + 1) j)) 125 (bl s (k + 1)) (0, [], []) with
      | bad m => rfl
      | ok y => simp
    rw [if_neg h3, if_neg h3]
    by_cases h4 : byt s k = 91
    · rw [if_pos h4, if_pos h4, lst_al]
      have E : ∀ (i : Nat) (x : Itm), bl s i = i → 2 * (L ++ [(⟨6, nm, ⟨#[]⟩, 0, x.1⟩ : CR)] ++ x.2.2).length ≤ i + (op + 1) → litI s (fun j M => valM s f ⟨#[]⟩ (op + 1) j M) L.length i (L ++ [⟨6, nm, ⟨#[]⟩, 0, x.1⟩] ++ x.2.2) = (itL (fun nm' j => valR s f nm' (op + 1) j) i x).bind fun y => .ok (y.1, (L ++ [⟨6, nm, ⟨#[]⟩, 0, y.2.1⟩] ++ y.2.2.2)) := by
        intro i x hi hx
        unfold litI itL
        dsimp only
        have hq := ih i ⟨#[]⟩ (L ++ [⟨6, nm, ⟨#[]⟩, 0, x.1⟩] ++ x.2.2) (by omega) (by omega)
        rw [hi] at hq
        rw [hq]
        cases hv : valR s f ⟨#[]⟩ (op + 1) i with
        | bad m => rfl
        | ok y =>
          simp only [Rs.bind_ok]
          rw [List.append_assoc, List.append_assoc, ← List.append_assoc L, incC_last]
          simp
      have G : ItF (litI s (fun j M => valM s f ⟨#[]⟩ (op + 1) j M) L.length) (fun x => x) (op + 1) := litI_few few ⟨#[]⟩ L.length
      have R := alM_rel (s := s) (φ := fun x : Itm => (L ++ [(⟨6, nm, ⟨#[]⟩, 0, x.1⟩ : CR)] ++ x.2.2)) (shut := 93) G E (bl s (k + 1)) (0, [], []) (bl_bl s _) (by simp; omega)
      simp only [List.append_nil] at R
      have R' : alM s (litI s (fun j M => valM s f ⟨#[]⟩ (op + 1) j M) L.length) 93 (bl s (k + 1)) (L ++ [⟨6, nm, ⟨#[]⟩, 0, 0⟩]) = _ := R
      rw [R']
      cases alM s (itL (fun nm' j => valR s f nm' (op + 1) j)) 93 (bl s (k + 1)) (0, [], []) with
      | bad m => rfl
      | ok y => simp
    rw [if_neg h4, if_neg h4]
    by_cases h5 : byt s k = 34
    · rw [if_pos h5, if_pos h5]; cases strM s k <;> rfl
    rw [if_neg h5, if_neg h5]
    by_cases h6 : byt s k = 116
    · rw [if_pos h6, if_pos h6]; cases wordM s [116, 114, 117, 101] k <;> rfl
    rw [if_neg h6, if_neg h6]
    by_cases h7 : byt s k = 102
    · rw [if_pos h7, if_pos h7]; cases wordM s [102, 97, 108, 115, 101] k <;> rfl
    rw [if_neg h7, if_neg h7]
    by_cases h8 : byt s k = 110
    · rw [if_pos h8, if_pos h8]; cases wordM s [110, 117, 108, 108] k <;> rfl
    rw [if_neg h8, if_neg h8]
    cases numM s k <;> rfl
end Go.Proofs.YtoicmcjpaodgpaaDoor

import Derived.Test.YtmkkckhfdafjnaaGreatDoorQ3
import Derived.Deep.RegionWith
/- Layer 4, Read: a number. -/
namespace Go.Proofs.YtmkkckhfdafjnaaGreatDoor
open Go.RowKit Go.Maps
/-- The table of limits, below a box. -/
def LimP (p : Nat) (w : World) : Prop := 1 < p ∧ Nm.Lim w
theorem LimP.fr {p : Nat} {v v' : Value} {w w' : World} (l : LimP p w) (f : Fr p v v' w w') (hp : p ≤ w.heap.size) (hv : ∀ k, v.ownBlock = some k → p + 1 ≤ k) : LimP p w' := by
  have e : w'.heap[(1 : Nat)]? = w.heap[(1 : Nat)]? := f.kept _ (Nat.lt_of_lt_of_le l.1 hp) (Nat.ne_of_lt l.1) (fun e => by have := hv _ e; have := l.1; omega)
  refine ⟨l.1, ?_, ?_⟩
  · rw [← l.2.1]; unfold World.cell?; dsimp only; rw [e]
  · rw [← l.2.2]; unfold World.cell?; dsimp only; rw [e]
theorem LimP.dr {p : Nat} {w w' : World} (l : LimP p w) (d : Dr w w') : LimP p w' := by
  refine ⟨l.1, ?_, ?_⟩
  · rw [← l.2.1]; unfold World.cell?; rw [d.heap]
  · rw [← l.2.2]; unfold World.cell?; rw [d.heap]
theorem RdB.dbelow {w wd w' : World} {p i op : Nat} {s : ByteArray} {v : Value} {L : List CR} (h : RdB w p s i op v L) (d : Dr w wd) (b : Below wd.heap.size wd w') : RdB w' p s i op v L ∧ Fr p v v w w' := ⟨((h.dr d).1.below b).1, (h.dr d).2.trans ((h.dr d).1.below b).2⟩
/-- What is read behind a number's first part, at a place. -/
def numT (s : ByteArray) (i b : Nat) : Rs (Int × Nat) := if Nm.rdE (s.extract i (expoM s (fracM s b))) = 0 then .ok (Nm.rdV (s.extract i (expoM s (fracM s b))), expoM s (fracM s b)) else .bad 41
theorem numM_eq (s : ByteArray) (i : Nat) : numM s i = (intM s i).bind (numT s i) := rfl
set_option maxRecDepth 20000 in
set_option maxHeartbeats 4000000 in
theorem jnumber_any {p i op q cap k : Nat} {s nm : ByteArray} {L : List CR} (w : World) (h : RdB w p s i op (.slice (some ⟨q, 0, none⟩) L.length cap) L) (hl : LimP p w) (hpq : p < q) (hk : k < L.length) (hL : L.length ≤ 2048) (hg : gl L k = ⟨0, nm, ⟨#[]⟩, 0, 0⟩) (hs : s.size ≤ 100000000) (hi : i ≤ s.size) : Calls Tryz.prog 165 #[.pointer (some ⟨p, 0, none⟩), .int .i64 k] w (OutP p s op (.slice (some ⟨q, 0, none⟩) L.length cap) w ((numM s i).bind fun x => .ok (x.2, L.set k ⟨2, nm, ⟨#[]⟩, x.1, 0⟩))) := by
  have hki : (k : Int) < L.length := by omega
  have hk0 : (0 : Int) ≤ k := by omega
  have HG := Lib.hid hg
  have HPQ := Lib.hid hpq
  have HF := Lib.hid h.far
  have HLT := Lib.hid h.lt
  have HP := Lib.hid (fun W (d : Dr w W) => (peek_any W (h.dr d).1 (by omega) (by omega)).mono (fun e W' k => And.intro k.1 (d.trans k.2)))
  have HQ := Lib.hid (fun W j (hj : j ≤ s.size + 1) (r : RdB W p s j op (.slice (some ⟨q, 0, none⟩) L.length cap) L) => peek_any W r (by omega) (by omega))
  have HD := Lib.hid (fun W j (hj : j ≤ s.size + 1) (r : RdB W p s j op (.slice (some ⟨q, 0, none⟩) L.length cap) L) => rdigits_at W r (by omega) (by omega))
  have HFR := Lib.hid (fun W j (hj : j ≤ s.size + 1) (r : RdB W p s j op (.slice (some ⟨q, 0, none⟩) L.length cap) L) => fraction_any W r (by omega) (by omega))
  have HEX := Lib.hid (fun W j (hj : j ≤ s.size + 1) (r : RdB W p s j op (.slice (some ⟨q, 0, none⟩) L.length cap) L) => exponent_any W r (by omega) (by omega))
  have HI : Hid (∀ b, intM s i = .ok b → i < b ∧ b ≤ s.size) := Lib.hid (fun b e => intM_ok hi e)
  obtain ⟨X, hX⟩ : ∃ X, X = (numM s i).bind fun x => Rs.ok (x.2, L.set k ⟨2, nm, ⟨#[]⟩, x.1, 0⟩) := ⟨_, rfl⟩
  rw [← hX]
  rw [numM_eq] at hX
  have HX := Lib.hid hX
  have HL := Lib.hid hl
  have H := Lib.hid h
  have c1 := h.c1
  have hi2 : (i : Int) ≤ s.size := by omega
  have hs2 : (s.size : Int) ≤ 100000000 := by omega
  clear hX hl h hg hpq
  have HIN := Lib.hid (byt_in (s := s) (i := i))
  have hbi : byt s i = 45 ∨ byt s i ≠ 45 := by omega
  obtain ⟨a, ha⟩ : ∃ a, a = if byt s i = 45 then i + 1 else i := ⟨_, rfl⟩
  have HIM : Hid (intM s i = if byt s a = 48 then .ok (a + 1) else if dg s a = a then .bad 40 else .ok (dg s a)) := Lib.hid (by rw [ha]; rfl)
  rcases hbi with hb | hb
  · have hin := HIN.out (by omega)
    rw [if_pos hb] at ha
    rw [hb] at HP
    subst ha
    clear hb
    have hc : byt s (i + 1) = 48 ∨ byt s (i + 1) ≠ 48 := by omega
    rcases hc with hc | hc
    · have hina := byt_in (s := s) (i := (i + 1)) (by omega)
      rw [if_pos hc] at HIM
      have HQ1 := Lib.hid (fun W (r : RdB W p s (i + 1) op (.slice (some ⟨q, 0, none⟩) L.length cap) L) => HQ.out W (i + 1) (by omega) r)
      rw [hc] at HQ1
      clear hc
      obtain ⟨b, hb⟩ : ∃ b, b = (i + 1) + 1 := ⟨_, rfl⟩
      rw [← hb] at HIM
      have hb1 := (HI.out b HIM.out).1
      have hb2 := (HI.out b HIM.out).2
      have HXT := HX.out
      rw [HIM.out, Rs.bind_ok] at HXT
      have hfr := fracM_ok (s := s) (b := b) hb2
      have hex := expoM_ok (s := s) (b := fracM s b) hfr.2
      obtain ⟨d1, hd1⟩ : ∃ d1, d1 = fracM s b := ⟨_, rfl⟩
      obtain ⟨d2, hd2⟩ : ∃ d2, d2 = expoM s d1 := ⟨_, rfl⟩
      unfold numT at HXT
      rw [← hd1, ← hd2] at hex
      rw [← hd1] at hfr
      rw [← hd1, ← hd2] at HXT
      have HFR1 := Lib.hid (fun W (r : RdB W p s b op (.slice (some ⟨q, 0, none⟩) L.length cap) L) => (HFR.out W b (by omega) r))
      rw [← hd1] at HFR1
      have HSX : Hid ((s.extract i d2).size ≤ 100000000) := Lib.hid (by simp; omega)
      obtain ⟨E, hE⟩ : ∃ E, Nm.rdE (s.extract i d2) = E := ⟨_, rfl⟩
      obtain ⟨V, hV⟩ : ∃ V, Nm.rdV (s.extract i d2) = V := ⟨_, rfl⟩
      rw [hV, hE] at HXT
      have hE0 : E = 0 ∨ E ≠ 0 := by omega
      have hbd : b ≤ d2 ∧ d2 ≤ s.size := by omega
      have hd1s := hfr.2
      clear hex hfr
      have HXU := Lib.hid HXT
      clear HXT
      go_enter Tryz.func165, Tryz.ntmps165
      go_wp2_with (first | (go_at_call 160; refine (HQ1.out _ RN.out.1).mono ?_; rintro e w2 ⟨rfl, d⟩; have RQ := Lib.hid (And.intro (RN.out.1.dr d).1 (RN.out.2.trans (RN.out.1.dr d).2)); clear d; have c1 := RQ.out.1.c1; have z1 := RQ.out.1.z 1; have RB := Lib.hid (And.intro (RQ.out.1.at_ b ((i : Int) + 1 + 1) (by omega)).1 (RQ.out.2.trans (RQ.out.1.at_ b ((i : Int) + 1 + 1) (by omega)).2))) | (go_at_call 160; refine (HP.out _ (Dr.refl _)).mono ?_; rintro e w1 ⟨rfl, d⟩; have R1 := Lib.hid (H.out.dr d); clear d; have c1 := R1.out.1.c1; have z1 := R1.out.1.z 1; have RN := Lib.hid (And.intro (R1.out.1.at_ (i + 1) ((i : Int) + 1) (by omega)).1 (R1.out.2.trans (R1.out.1.at_ (i + 1) ((i : Int) + 1) (by omega)).2))))
      refine (HFR1.out _ RB.out.1).mono ?_
      rintro e w3 ⟨rfl, r3, f3⟩
      have R3 := Lib.hid (And.intro r3 (RB.out.2.trans f3))
      clear r3 f3
      go_wp2_with fail
      refine (HEX.out _ d1 (by omega) R3.out.1).mono ?_
      rintro e w4 ⟨rfl, r4, f4⟩
      rw [← hd2] at r4
      have R4 := Lib.hid (And.intro r4 (R3.out.2.trans f4))
      clear r4 f4
      have c0 := R4.out.1.c0
      have c1 := R4.out.1.c1
      have HL4 := Lib.hid (HL.out.fr R4.out.2 (Nat.le_of_lt HLT.out) HF.out)
      have HRD := Lib.hid (fun W (d : Dr w4 W) => Nm.read_rest (s.extract i d2) W (HL4.out.dr d).2 (by have := HSX.out; unfold maxLen; omega))
      rw [hV, hE] at HRD
      clear hV hE
      have hid2 : (i : Int) ≤ d2 := by omega
      have hd2s : (d2 : Int) ≤ s.size := by omega
      have hi0 : (0 : Int) ≤ i := by omega
      rcases hE0 with rfl | hE0
      · have HXV : Hid (X = .ok (d2, L.set k ⟨2, nm, ⟨#[]⟩, V, 0⟩)) := Lib.hid (by rw [HXU.out, if_pos rfl]; rfl)
        clear hd1 hd2
        go_wp2_with fail
        go_region_with (go_at_call 88; refine (HRD.out w4.drew ⟨rfl, rfl, rfl, rfl⟩).mono ?_; rintro e w5 ⟨rfl, b5⟩; have R5 := Lib.hid (And.intro (R4.out.1.dbelow (wd := w4.drew) ⟨rfl, rfl, rfl, rfl⟩ b5).1 (R4.out.2.trans (R4.out.1.dbelow (wd := w4.drew) ⟨rfl, rfl, rfl, rfl⟩ b5).2)); clear b5)
        all_goals
          have c3 := R5.out.1.c3
          have d0 := (R5.out.1.cells hk).1
          have d2' := (R5.out.1.cells hk).2.2.2.1
          rw [HG.out] at d0 d2'
          dsimp only at d0 d2'
          have zz := R5.out.1.cellz (k * 5)
          have zz2 := R5.out.1.cellz (k * 5 + 3)
          have R6 := Lib.hid (R5.out.1.setF2 HPQ.out hk 0 3 (by decide) (by decide) (.int .u8 2) (.int .i64 V) ⟨2, nm, ⟨#[]⟩, 0, 0⟩ ⟨2, nm, ⟨#[]⟩, V, 0⟩ (by rw [HG.out]; rfl) rfl)
          go_wp2_with fail
          go_region
          all_goals
            go_wp2_with fail
            go_end0
            have R7 := R6.out.1.dr (w' := ((w5.setCell ⟨q, k * 5, none⟩ (.int .u8 2)).setCell ⟨q, k * 5 + 3, none⟩ (.int .i64 V)).drew) ⟨rfl, rfl, rfl, rfl⟩
            rw [HXV.out]
            exact ⟨rfl, _, R7.1, R5.out.2.trans (R6.out.2.trans R7.2)⟩
      · have HXV : Hid (X = .bad 41) := Lib.hid (by rw [HXU.out, if_neg hE0]; rfl)
        have hEb : (E != 0) = true := by simp [bne, beq_eq_false_iff_ne.2 hE0]
        clear hd1 hd2
        go_wp2_with fail
        go_region_with (go_at_call 88; refine (HRD.out w4.drew ⟨rfl, rfl, rfl, rfl⟩).mono ?_; rintro e w5 ⟨rfl, b5⟩; have R5 := Lib.hid (And.intro (R4.out.1.dbelow (wd := w4.drew) ⟨rfl, rfl, rfl, rfl⟩ b5).1 (R4.out.2.trans (R4.out.1.dbelow (wd := w4.drew) ⟨rfl, rfl, rfl, rfl⟩ b5).2)); clear b5)
        all_goals
          go_wp2_with fail
          rw [HXV.out]
          simp only [bodyPost]
          exact ⟨trivial, rfl, R5.out.2.below HF.out (Nat.le_of_lt HLT.out)⟩
    · rw [if_neg hc] at HIM
      have HQ1 := Lib.hid (fun W (r : RdB W p s (i + 1) op (.slice (some ⟨q, 0, none⟩) L.length cap) L) => HQ.out W (i + 1) (by omega) r)
      have HD1 := Lib.hid (fun W (r : RdB W p s (i + 1) op (.slice (some ⟨q, 0, none⟩) L.length cap) L) => HD.out W (i + 1) (by omega) r)
      obtain ⟨c, hcc⟩ : ∃ c, c = byt s (i + 1) := ⟨_, rfl⟩
      rw [← hcc] at HQ1 hc
      have hc48 : (c == 48) = false := beq_eq_false_iff_ne.2 hc
      clear hcc hc
      go_enter Tryz.func165, Tryz.ntmps165
      go_wp2_with (first | (go_at_call 160; refine (HQ1.out _ RN.out.1).mono ?_; rintro e w2 ⟨rfl, d⟩; have RQ := Lib.hid (And.intro (RN.out.1.dr d).1 (RN.out.2.trans (RN.out.1.dr d).2)); clear d; have c1 := RQ.out.1.c1; have z1 := RQ.out.1.z 1) | (go_at_call 160; refine (HP.out _ (Dr.refl _)).mono ?_; rintro e w1 ⟨rfl, d⟩; have R1 := Lib.hid (H.out.dr d); clear d; have c1 := R1.out.1.c1; have z1 := R1.out.1.z 1; have RN := Lib.hid (And.intro (R1.out.1.at_ (i + 1) ((i : Int) + 1) (by omega)).1 (R1.out.2.trans (R1.out.1.at_ (i + 1) ((i : Int) + 1) (by omega)).2))))
      refine (HD1.out _ RQ.out.1).mono ?_
      rintro e w2b ⟨⟨n, rfl, hn⟩, r2, f2⟩
      have RB := Lib.hid (And.intro r2 (RQ.out.2.trans f2))
      clear r2 f2
      rcases Nat.eq_zero_or_pos n with h0 | h0
      · subst h0
        rw [if_pos (by omega)] at HIM
        have HXT := HX.out
        rw [HIM.out, Rs.bind_bad, Rs.bind_bad] at HXT
        have HXV := Lib.hid HXT
        clear hn HXT
        go_wp2_with fail
        rw [HXV.out]
        simp only [bodyPost]
        exact ⟨trivial, rfl, RB.out.2.below HF.out (Nat.le_of_lt HLT.out)⟩
      · rw [if_neg (by omega)] at HIM
        have hz : ¬ (n : Int) = 0 := by omega
        clear hn
        obtain ⟨b, hb⟩ : ∃ b, b = dg s (i + 1) := ⟨_, rfl⟩
        rw [← hb] at HIM RB
        have hb1 := (HI.out b HIM.out).1
        have hb2 := (HI.out b HIM.out).2
        clear hb
        have HXT := HX.out
        rw [HIM.out, Rs.bind_ok] at HXT
        have hfr := fracM_ok (s := s) (b := b) hb2
        have hex := expoM_ok (s := s) (b := fracM s b) hfr.2
        obtain ⟨d1, hd1⟩ : ∃ d1, d1 = fracM s b := ⟨_, rfl⟩
        obtain ⟨d2, hd2⟩ : ∃ d2, d2 = expoM s d1 := ⟨_, rfl⟩
        unfold numT at HXT
        rw [← hd1, ← hd2] at hex
        rw [← hd1] at hfr
        rw [← hd1, ← hd2] at HXT
        have HFR1 := Lib.hid (fun W (r : RdB W p s b op (.slice (some ⟨q, 0, none⟩) L.length cap) L) => (HFR.out W b (by omega) r))
        rw [← hd1] at HFR1
        have HSX : Hid ((s.extract i d2).size ≤ 100000000) := Lib.hid (by simp; omega)
        obtain ⟨E, hE⟩ : ∃ E, Nm.rdE (s.extract i d2) = E := ⟨_, rfl⟩
        obtain ⟨V, hV⟩ : ∃ V, Nm.rdV (s.extract i d2) = V := ⟨_, rfl⟩
        rw [hV, hE] at HXT
        have hE0 : E = 0 ∨ E ≠ 0 := by omega
        have hbd : b ≤ d2 ∧ d2 ≤ s.size := by omega
        have hd1s := hfr.2
        clear hex hfr
        have HXU := Lib.hid HXT
        clear HXT
        go_wp2_with fail
        refine (HFR1.out _ RB.out.1).mono ?_
        rintro e w3 ⟨rfl, r3, f3⟩
        have R3 := Lib.hid (And.intro r3 (RB.out.2.trans f3))
        clear r3 f3
        go_wp2_with fail
        refine (HEX.out _ d1 (by omega) R3.out.1).mono ?_
        rintro e w4 ⟨rfl, r4, f4⟩
        rw [← hd2] at r4
        have R4 := Lib.hid (And.intro r4 (R3.out.2.trans f4))
        clear r4 f4
        have c0 := R4.out.1.c0
        have c1 := R4.out.1.c1
        have HL4 := Lib.hid (HL.out.fr R4.out.2 (Nat.le_of_lt HLT.out) HF.out)
        have HRD := Lib.hid (fun W (d : Dr w4 W) => Nm.read_rest (s.extract i d2) W (HL4.out.dr d).2 (by have := HSX.out; unfold maxLen; omega))
        rw [hV, hE] at HRD
        clear hV hE
        have hid2 : (i : Int) ≤ d2 := by omega
        have hd2s : (d2 : Int) ≤ s.size := by omega
        have hi0 : (0 : Int) ≤ i := by omega
        rcases hE0 with rfl | hE0
        · have HXV : Hid (X = .ok (d2, L.set k ⟨2, nm, ⟨#[]⟩, V, 0⟩)) := Lib.hid (by rw [HXU.out, if_pos rfl]; rfl)
          clear hd1 hd2
          go_wp2_with fail
          go_region_with (go_at_call 88; refine (HRD.out w4.drew ⟨rfl, rfl, rfl, rfl⟩).mono ?_; rintro e w5 ⟨rfl, b5⟩; have R5 := Lib.hid (And.intro (R4.out.1.dbelow (wd := w4.drew) ⟨rfl, rfl, rfl, rfl⟩ b5).1 (R4.out.2.trans (R4.out.1.dbelow (wd := w4.drew) ⟨rfl, rfl, rfl, rfl⟩ b5).2)); clear b5)
          all_goals
            have c3 := R5.out.1.c3
            have d0 := (R5.out.1.cells hk).1
            have d2' := (R5.out.1.cells hk).2.2.2.1
            rw [HG.out] at d0 d2'
            dsimp only at d0 d2'
            have zz := R5.out.1.cellz (k * 5)
            have zz2 := R5.out.1.cellz (k * 5 + 3)
            have R6 := Lib.hid (R5.out.1.setF2 HPQ.out hk 0 3 (by decide) (by decide) (.int .u8 2) (.int .i64 V) ⟨2, nm, ⟨#[]⟩, 0, 0⟩ ⟨2, nm, ⟨#[]⟩, V, 0⟩ (by rw [HG.out]; rfl) rfl)
            go_wp2_with fail
            go_region
            all_goals
              go_wp2_with fail
              go_end0
              have R7 := R6.out.1.dr (w' := ((w5.setCell ⟨q, k * 5, none⟩ (.int .u8 2)).setCell ⟨q, k * 5 + 3, none⟩ (.int .i64 V)).drew) ⟨rfl, rfl, rfl, rfl⟩
              rw [HXV.out]
              exact ⟨rfl, _, R7.1, R5.out.2.trans (R6.out.2.trans R7.2)⟩
        · have HXV : Hid (X = .bad 41) := Lib.hid (by rw [HXU.out, if_neg hE0]; rfl)
          have hEb : (E != 0) = true := by simp [bne, beq_eq_false_iff_ne.2 hE0]
          clear hd1 hd2
          go_wp2_with fail
          go_region_with (go_at_call 88; refine (HRD.out w4.drew ⟨rfl, rfl, rfl, rfl⟩).mono ?_; rintro e w5 ⟨rfl, b5⟩; have R5 := Lib.hid (And.intro (R4.out.1.dbelow (wd := w4.drew) ⟨rfl, rfl, rfl, rfl⟩ b5).1 (R4.out.2.trans (R4.out.1.dbelow (wd := w4.drew) ⟨rfl, rfl, rfl, rfl⟩ b5).2)); clear b5)
          all_goals
            go_wp2_with fail
            rw [HXV.out]
            simp only [bodyPost]
            exact ⟨trivial, rfl, R5.out.2.below HF.out (Nat.le_of_lt HLT.out)⟩
  · rw [if_neg hb] at ha
    have ha2 := ha.symm
    clear ha
    subst ha2
    obtain ⟨g, hg⟩ : ∃ g, g = byt s i := ⟨_, rfl⟩
    rw [← hg] at HP hb
    have hg45 : (g == 45) = false := beq_eq_false_iff_ne.2 hb
    clear hg hb
    have hc : byt s i = 48 ∨ byt s i ≠ 48 := by omega
    rcases hc with hc | hc
    · have hina := byt_in (s := s) (i := i) (by omega)
      rw [if_pos hc] at HIM
      have HQ1 := Lib.hid (fun W (r : RdB W p s i op (.slice (some ⟨q, 0, none⟩) L.length cap) L) => HQ.out W i (by omega) r)
      rw [hc] at HQ1
      clear hc
      obtain ⟨b, hb⟩ : ∃ b, b = i + 1 := ⟨_, rfl⟩
      rw [← hb] at HIM
      have hb1 := (HI.out b HIM.out).1
      have hb2 := (HI.out b HIM.out).2
      have HXT := HX.out
      rw [HIM.out, Rs.bind_ok] at HXT
      have hfr := fracM_ok (s := s) (b := b) hb2
      have hex := expoM_ok (s := s) (b := fracM s b) hfr.2
      obtain ⟨d1, hd1⟩ : ∃ d1, d1 = fracM s b := ⟨_, rfl⟩
      obtain ⟨d2, hd2⟩ : ∃ d2, d2 = expoM s d1 := ⟨_, rfl⟩
      unfold numT at HXT
      rw [← hd1, ← hd2] at hex
      rw [← hd1] at hfr
      rw [← hd1, ← hd2] at HXT
      have HFR1 := Lib.hid (fun W (r : RdB W p s b op (.slice (some ⟨q, 0, none⟩) L.length cap) L) => (HFR.out W b (by omega) r))
      rw [← hd1] at HFR1
      have HSX : Hid ((s.extract i d2).size ≤ 100000000) := Lib.hid (by simp; omega)
      obtain ⟨E, hE⟩ : ∃ E, Nm.rdE (s.extract i d2) = E := ⟨_, rfl⟩
      obtain ⟨V, hV⟩ : ∃ V, Nm.rdV (s.extract i d2) = V := ⟨_, rfl⟩
      rw [hV, hE] at HXT
      have hE0 : E = 0 ∨ E ≠ 0 := by omega
      have hbd : b ≤ d2 ∧ d2 ≤ s.size := by omega
      have hd1s := hfr.2
      clear hex hfr
      have HXU := Lib.hid HXT
      clear HXT
      go_enter Tryz.func165, Tryz.ntmps165
      go_wp2_with (first | (go_at_call 160; refine (HQ1.out _ RN.out.1).mono ?_; rintro e w2 ⟨rfl, d⟩; have RQ := Lib.hid (And.intro (RN.out.1.dr d).1 (RN.out.2.trans (RN.out.1.dr d).2)); clear d; have c1 := RQ.out.1.c1; have z1 := RQ.out.1.z 1; have RB := Lib.hid (And.intro (RQ.out.1.at_ b ((i : Int) + 1) (by omega)).1 (RQ.out.2.trans (RQ.out.1.at_ b ((i : Int) + 1) (by omega)).2))) | (go_at_call 160; refine (HP.out _ (Dr.refl _)).mono ?_; rintro e w1 ⟨rfl, d⟩; have R1 := Lib.hid (H.out.dr d); clear d; have c1 := R1.out.1.c1; have z1 := R1.out.1.z 1; have RN := Lib.hid (And.intro R1.out.1 R1.out.2)))
      refine (HFR1.out _ RB.out.1).mono ?_
      rintro e w3 ⟨rfl, r3, f3⟩
      have R3 := Lib.hid (And.intro r3 (RB.out.2.trans f3))
      clear r3 f3
      go_wp2_with fail
      refine (HEX.out _ d1 (by omega) R3.out.1).mono ?_
      rintro e w4 ⟨rfl, r4, f4⟩
      rw [← hd2] at r4
      have R4 := Lib.hid (And.intro r4 (R3.out.2.trans f4))
      clear r4 f4
      have c0 := R4.out.1.c0
      have c1 := R4.out.1.c1
      have HL4 := Lib.hid (HL.out.fr R4.out.2 (Nat.le_of_lt HLT.out) HF.out)
      have HRD := Lib.hid (fun W (d : Dr w4 W) => Nm.read_rest (s.extract i d2) W (HL4.out.dr d).2 (by have := HSX.out; unfold maxLen; omega))
      rw [hV, hE] at HRD
      clear hV hE
      have hid2 : (i : Int) ≤ d2 := by omega
      have hd2s : (d2 : Int) ≤ s.size := by omega
      have hi0 : (0 : Int) ≤ i := by omega
      rcases hE0 with rfl | hE0
      · have HXV : Hid (X = .ok (d2, L.set k ⟨2, nm, ⟨#[]⟩, V, 0⟩)) := Lib.hid (by rw [HXU.out, if_pos rfl]; rfl)
        clear hd1 hd2
        go_wp2_with fail
        go_region_with (go_at_call 88; refine (HRD.out w4.drew ⟨rfl, rfl, rfl, rfl⟩).mono ?_; rintro e w5 ⟨rfl, b5⟩; have R5 := Lib.hid (And.intro (R4.out.1.dbelow (wd := w4.drew) ⟨rfl, rfl, rfl, rfl⟩ b5).1 (R4.out.2.trans (R4.out.1.dbelow (wd := w4.drew) ⟨rfl, rfl, rfl, rfl⟩ b5).2)); clear b5)
        all_goals
          have c3 := R5.out.1.c3
          have d0 := (R5.out.1.cells hk).1
          have d2' := (R5.out.1.cells hk).2.2.2.1
          rw [HG.out] at d0 d2'
          dsimp only at d0 d2'
          have zz := R5.out.1.cellz (k * 5)
          have zz2 := R5.out.1.cellz (k * 5 + 3)
          have R6 := Lib.hid (R5.out.1.setF2 HPQ.out hk 0 3 (by decide) (by decide) (.int .u8 2) (.int .i64 V) ⟨2, nm, ⟨#[]⟩, 0, 0⟩ ⟨2, nm, ⟨#[]⟩, V, 0⟩ (by rw [HG.out]; rfl) rfl)
          go_wp2_with fail
          go_region
          all_goals
            go_wp2_with fail
            go_end0
            have R7 := R6.out.1.dr (w' := ((w5.setCell ⟨q, k * 5, none⟩ (.int .u8 2)).setCell ⟨q, k * 5 + 3, none⟩ (.int .i64 V)).drew) ⟨rfl, rfl, rfl, rfl⟩
            rw [HXV.out]
            exact ⟨rfl, _, R7.1, R5.out.2.trans (R6.out.2.trans R7.2)⟩
      · have HXV : Hid (X = .bad 41) := Lib.hid (by rw [HXU.out, if_neg hE0]; rfl)
        have hEb : (E != 0) = true := by simp [bne, beq_eq_false_iff_ne.2 hE0]
        clear hd1 hd2
        go_wp2_with fail
        go_region_with (go_at_call 88; refine (HRD.out w4.drew ⟨rfl, rfl, rfl, rfl⟩).mono ?_; rintro e w5 ⟨rfl, b5⟩; have R5 := Lib.hid (And.intro (R4.out.1.dbelow (wd := w4.drew) ⟨rfl, rfl, rfl, rfl⟩ b5).1 (R4.out.2.trans (R4.out.1.dbelow (wd := w4.drew) ⟨rfl, rfl, rfl, rfl⟩ b5).2)); clear b5)
        all_goals
          go_wp2_with fail
          rw [HXV.out]
          simp only [bodyPost]
          exact ⟨trivial, rfl, R5.out.2.below HF.out (Nat.le_of_lt HLT.out)⟩
    · rw [if_neg hc] at HIM
      have HQ1 := Lib.hid (fun W (r : RdB W p s i op (.slice (some ⟨q, 0, none⟩) L.length cap) L) => HQ.out W i (by omega) r)
      have HD1 := Lib.hid (fun W (r : RdB W p s i op (.slice (some ⟨q, 0, none⟩) L.length cap) L) => HD.out W i (by omega) r)
      obtain ⟨c, hcc⟩ : ∃ c, c = byt s i := ⟨_, rfl⟩
      rw [← hcc] at HQ1 hc
      have hc48 : (c == 48) = false := beq_eq_false_iff_ne.2 hc
      clear hcc hc
      go_enter Tryz.func165, Tryz.ntmps165
      go_wp2_with (first | (go_at_call 160; refine (HQ1.out _ RN.out.1).mono ?_; rintro e w2 ⟨rfl, d⟩; have RQ := Lib.hid (And.intro (RN.out.1.dr d).1 (RN.out.2.trans (RN.out.1.dr d).2)); clear d; have c1 := RQ.out.1.c1; have z1 := RQ.out.1.z 1) | (go_at_call 160; refine (HP.out _ (Dr.refl _)).mono ?_; rintro e w1 ⟨rfl, d⟩; have R1 := Lib.hid (H.out.dr d); clear d; have c1 := R1.out.1.c1; have z1 := R1.out.1.z 1; have RN := Lib.hid (And.intro R1.out.1 R1.out.2)))
      refine (HD1.out _ RQ.out.1).mono ?_
      rintro e w2b ⟨⟨n, rfl, hn⟩, r2, f2⟩
      have RB := Lib.hid (And.intro r2 (RQ.out.2.trans f2))
      clear r2 f2
      rcases Nat.eq_zero_or_pos n with h0 | h0
      · subst h0
        rw [if_pos (by omega)] at HIM
        have HXT := HX.out
        rw [HIM.out, Rs.bind_bad, Rs.bind_bad] at HXT
        have HXV := Lib.hid HXT
        clear hn HXT
        go_wp2_with fail
        rw [HXV.out]
        simp only [bodyPost]
        exact ⟨trivial, rfl, RB.out.2.below HF.out (Nat.le_of_lt HLT.out)⟩
      · rw [if_neg (by omega)] at HIM
        have hz : ¬ (n : Int) = 0 := by omega
        clear hn
        obtain ⟨b, hb⟩ : ∃ b, b = dg s i := ⟨_, rfl⟩
        rw [← hb] at HIM RB
        have hb1 := (HI.out b HIM.out).1
        have hb2 := (HI.out b HIM.out).2
        clear hb
        have HXT := HX.out
        rw [HIM.out, Rs.bind_ok] at HXT
        have hfr := fracM_ok (s := s) (b := b) hb2
        have hex := expoM_ok (s := s) (b := fracM s b) hfr.2
        obtain ⟨d1, hd1⟩ : ∃ d1, d1 = fracM s b := ⟨_, rfl⟩
        obtain ⟨d2, hd2⟩ : ∃ d2, d2 = expoM s d1 := ⟨_, rfl⟩
        unfold numT at HXT
        rw [← hd1, ← hd2] at hex
        rw [← hd1] at hfr
        rw [← hd1, ← hd2] at HXT
        have HFR1 := Lib.hid (fun W (r : RdB W p s b op (.slice (some ⟨q, 0, none⟩) L.length cap) L) => (HFR.out W b (by omega) r))
        rw [← hd1] at HFR1
        have HSX : Hid ((s.extract i d2).size ≤ 100000000) := Lib.hid (by simp; omega)
        obtain ⟨E, hE⟩ : ∃ E, Nm.rdE (s.extract i d2) = E := ⟨_, rfl⟩
        obtain ⟨V, hV⟩ : ∃ V, Nm.rdV (s.extract i d2) = V := ⟨_, rfl⟩
        rw [hV, hE] at HXT
        have hE0 : E = 0 ∨ E ≠ 0 := by omega
        have hbd : b ≤ d2 ∧ d2 ≤ s.size := by omega
        have hd1s := hfr.2
        clear hex hfr
        have HXU := Lib.hid HXT
        clear HXT
        go_wp2_with fail
        refine (HFR1.out _ RB.out.1).mono ?_
        rintro e w3 ⟨rfl, r3, f3⟩
        have R3 := Lib.hid (And.intro r3 (RB.out.2.trans f3))
        clear r3 f3
        go_wp2_with fail
        refine (HEX.out _ d1 (by omega) R3.out.1).mono ?_
        rintro e w4 ⟨rfl, r4, f4⟩
        rw [← hd2] at r4
        have R4 := Lib.hid (And.intro r4 (R3.out.2.trans f4))
        clear r4 f4
        have c0 := R4.out.1.c0
        have c1 := R4.out.1.c1
        have HL4 := Lib.hid (HL.out.fr R4.out.2 (Nat.le_of_lt HLT.out) HF.out)
        have HRD := Lib.hid (fun W (d : Dr w4 W) => Nm.read_rest (s.extract i d2) W (HL4.out.dr d).2 (by have := HSX.out; unfold maxLen; omega))
        rw [hV, hE] at HRD
        clear hV hE
        have hid2 : (i : Int) ≤ d2 := by omega
        have hd2s : (d2 : Int) ≤ s.size := by omega
        have hi0 : (0 : Int) ≤ i := by omega
        rcases hE0 with rfl | hE0
        · have HXV : Hid (X = .ok (d2, L.set k ⟨2, nm, ⟨#[]⟩, V, 0⟩)) := Lib.hid (by rw [HXU.out, if_pos rfl]; rfl)
          clear hd1 hd2
          go_wp2_with fail
          go_region_with (go_at_call 88; refine (HRD.out w4.drew ⟨rfl, rfl, rfl, rfl⟩).mono ?_; rintro e w5 ⟨rfl, b5⟩; have R5 := Lib.hid (And.intro (R4.out.1.dbelow (wd := w4.drew) ⟨rfl, rfl, rfl, rfl⟩ b5).1 (R4.out.2.trans (R4.out.1.dbelow (wd := w4.drew) ⟨rfl, rfl, rfl, rfl⟩ b5).2)); clear b5)
          all_goals
            have c3 := R5.out.1.c3
            have d0 := (R5.out.1.cells hk).1
            have d2' := (R5.out.1.cells hk).2.2.2.1
            rw [HG.out] at d0 d2'
            dsimp only at d0 d2'
            have zz := R5.out.1.cellz (k * 5)
            have zz2 := R5.out.1.cellz (k * 5 + 3)
            have R6 := Lib.hid (R5.out.1.setF2 HPQ.out hk 0 3 (by decide) (by decide) (.int .u8 2) (.int .i64 V) ⟨2, nm, ⟨#[]⟩, 0, 0⟩ ⟨2, nm, ⟨#[]⟩, V, 0⟩ (by rw [HG.out]; rfl) rfl)
            go_wp2_with fail
            go_region
            all_goals
              go_wp2_with fail
              go_end0
              have R7 := R6.out.1.dr (w' := ((w5.setCell ⟨q, k * 5, none⟩ (.int .u8 2)).setCell ⟨q, k * 5 + 3, none⟩ (.int .i64 V)).drew) ⟨rfl, rfl, rfl, rfl⟩
              rw [HXV.out]
              exact ⟨rfl, _, R7.1, R5.out.2.trans (R6.out.2.trans R7.2)⟩
        · have HXV : Hid (X = .bad 41) := Lib.hid (by rw [HXU.out, if_neg hE0]; rfl)
          have hEb : (E != 0) = true := by simp [bne, beq_eq_false_iff_ne.2 hE0]
          clear hd1 hd2
          go_wp2_with fail
          go_region_with (go_at_call 88; refine (HRD.out w4.drew ⟨rfl, rfl, rfl, rfl⟩).mono ?_; rintro e w5 ⟨rfl, b5⟩; have R5 := Lib.hid (And.intro (R4.out.1.dbelow (wd := w4.drew) ⟨rfl, rfl, rfl, rfl⟩ b5).1 (R4.out.2.trans (R4.out.1.dbelow (wd := w4.drew) ⟨rfl, rfl, rfl, rfl⟩ b5).2)); clear b5)
          all_goals
            go_wp2_with fail
            rw [HXV.out]
            simp only [bodyPost]
            exact ⟨trivial, rfl, R5.out.2.below HF.out (Nat.le_of_lt HLT.out)⟩
end Go.Proofs.YtmkkckhfdafjnaaGreatDoor
/- Layer 4, Read: what stands between brackets, whatever an item is. -/
namespace Go.Proofs.YtmkkckhfdafjnaaGreatDoor
open Go.RowKit Go.Maps
/-- Items behind one that is read already, to the bracket's end. -/
def alF {σ : Type} (s : ByteArray) (it : Nat → σ → Rs (Nat × σ)) (shut : Int) : Nat → Nat → σ → Rs (Nat × σ)
  | 0, _, _ => .bad 40
  | f + 1, i, x => if byt s i = 44 then (it (bl s (i + 1)) x).bind fun y => alF s it shut f (bl s y.1) y.2 else (wordM s [shut] i).bind fun j => .ok (j, x)
def alM {σ : Type} (s : ByteArray) (it : Nat → σ → Rs (Nat × σ)) (shut : Int) (i : Nat) (x : σ) : Rs (Nat × σ) :=
  if byt s i = shut then .ok (i + 1, x) else (it i x).bind fun y => alF s it shut (s.size - y.1 + 1) (bl s y.1) y.2
theorem alF_step {σ : Type} {s : ByteArray} {it : Nat → σ → Rs (Nat × σ)} {shut : Int} (f i : Nat) (x : σ) (h : 1 ≤ f) : alF s it shut f i x = if byt s i = 44 then (it (bl s (i + 1)) x).bind fun y => alF s it shut (f - 1) (bl s y.1) y.2 else (wordM s [shut] i).bind fun j => .ok (j, x) := by
  match f, h with
  | f + 1, _ => rfl
/-- An item is read, or an error thrown. -/
def ItP {σ : Type} (p : Nat) (Mem : World → Nat → σ → Prop) (w0 : World) (x : Rs (Nat × σ)) (e : Ending) (w' : World) : Prop := match x with
  | .ok y => e = .returned (.tuple #[]) ∧ Mem w' y.1 y.2
  | .bad m => e = thr m ∧ Below p w0 w'
/-- Between brackets all is read, or an error thrown. -/
def AlP {σ : Type} (p op : Nat) (Mem : World → Nat → σ → Prop) (w0 : World) (x : Rs (Nat × σ)) (e : Ending) (w' : World) : Prop := match x with
  | .ok y => e = .returned (.tuple #[]) ∧ ∃ W, Mem W y.1 y.2 ∧ w' = W.setCell ⟨p, 2, none⟩ (.int .i64 op)
  | .bad m => e = thr m ∧ Below p w0 w'
/-- What an item's closure does, in memory. -/
structure Items {σ : Type} (pr : σ → List CR) (p op : Nat) (s : ByteArray) (w0 : World) (Mem : World → Nat → σ → Prop) (it : Nat → σ → Rs (Nat × σ)) (N : FuncId) (caps : Array Value) : Prop where
  rd : ∀ W i x, Mem W i x → ∃ v, RdB W p s i op v (pr x)
  move : ∀ W W' i j x v, Mem W i x → RdB W p s i op v (pr x) → RdB W' p s j op v (pr x) → Fr p v v W W' → i ≤ j → Mem W' j x
  low : ∀ W i x, Mem W i x → Below p w0 W
  ahead : ∀ W i x y, Mem W i x → i ≤ s.size → it i x = .ok y → i < y.1 ∧ y.1 ≤ s.size
  item : ∀ W i x, i ≤ s.size → Mem W i x → Calls Tryz.prog N caps W (ItP p Mem w0 (it i x))
  enter : ∀ args w, (callFunc N args).run Tryz.prog w = .ok (.enter N args) w
theorem Items.dr {σ : Type} {pr : σ → List CR} {p op : Nat} {s : ByteArray} {w0 : World} {Mem : World → Nat → σ → Prop} {it : Nat → σ → Rs (Nat × σ)} {N : FuncId} {caps : Array Value} (H : Items pr p op s w0 Mem it N caps) {W W' : World} {i : Nat} {x : σ} (m : Mem W i x) (d : Dr W W') : Mem W' i x := by
  obtain ⟨v, r⟩ := H.rd W i x m
  exact H.move _ _ _ _ _ _ m r (r.dr d).1 (r.dr d).2 (Nat.le_refl _)
set_option maxRecDepth 20000 in
set_option maxHeartbeats 4000000 in
theorem all_any {σ : Type} {pr : σ → List CR} {p op i : Nat} {s : ByteArray} {v : Value} {L : List CR} {opn shut : Int} {Mem : World → Nat → σ → Prop} {it : Nat → σ → Rs (Nat × σ)} {N : FuncId} {caps : Array Value} (w : World) (x0 : σ) (h : RdB w p s i op v L) (H : Items pr p (op + 1) s w Mem it N caps) (hst : ∀ W j, RdB W p s j (op + 1) v L → Fr p v v w W → Mem W j x0) (hb : byt s i = opn) (hop : op ≤ 16) (hs : s.size ≤ 100000000) (hi : i < s.size) (hsh : shut ≠ 0) :
    Calls Tryz.prog 172 #[.pointer (some ⟨p, 0, none⟩), .int .u8 opn, .int .u8 shut, .func (.func N) #[] caps] w (AlP p op Mem w (alM s it shut (bl s (i + 1)) x0)) := by
  have HT := Lib.hid (take_ok opn w h (by omega) (by omega) hb)
  have hop2 : (op : Int) ≤ 16 := by omega
  have HST := Lib.hid hst
  have HPK := Lib.hid (fun W j v L (hj : j ≤ s.size + 1) (r : RdB W p s j (op + 1) v L) => peek_any W r (by omega) (by omega))
  have HBL := Lib.hid (fun W j v L (hj : j ≤ s.size + 1) (r : RdB W p s j (op + 1) v L) => blanks_any W r (by omega) (by omega))
  have HTO := Lib.hid (fun W j v L (hj : j ≤ s.size + 1) (r : RdB W p s j (op + 1) v L) => take_ok shut W r (by omega) (by omega))
  have HTB := Lib.hid (fun W j v L (hj : j ≤ s.size + 1) (r : RdB W p s j (op + 1) v L) => take_bad shut W r (by omega) (by omega))
  have hcall := H.enter
  have HH := Lib.hid H
  have hi1 : bl s (i + 1) ≤ s.size := bl_le (by omega)
  obtain ⟨i1, he1⟩ : ∃ j, j = bl s (i + 1) := ⟨_, rfl⟩
  have HBL0 := Lib.hid (fun W (r : RdB W p s (i + 1) (op + 1) v L) => HBL.out W (i + 1) v L (by omega) r)
  rw [← he1] at HBL0 hi1 ⊢
  clear he1 hst H hb h
  obtain ⟨X, hX⟩ : ∃ X, X = alM s it shut i1 x0 := ⟨_, rfl⟩
  rw [← hX]
  have HX := Lib.hid hX
  clear hX
  go_enter Tryz.func172, Tryz.ntmps172
  go_wp2_with fail
  refine HT.out.mono ?_
  rintro e w1 ⟨rfl, r1, f1⟩
  have R1 := Lib.hid (And.intro r1 f1)
  have c2 := r1.c2
  have z2 := r1.z 2
  clear r1 f1
  have R2 := Lib.hid (And.intro (R1.out.1.open_ (op + 1) ((op : Int) + 1) (by omega)).1 (R1.out.2.trans (R1.out.1.open_ (op + 1) ((op : Int) + 1) (by omega)).2))
  go_wp2_with fail
  refine (HBL0.out _ R2.out.1).mono ?_
  rintro e w3 ⟨rfl, r3, f3⟩
  have HM : Hid (Mem w3 i1 x0) := Lib.hid (HST.out _ _ r3 (R2.out.2.trans f3))
  clear r3 f3
  go_wp2_with fail
  obtain ⟨v4, r4⟩ := HH.out.rd _ _ _ HM.out
  refine (HPK.out w3 i1 v4 _ (by omega) r4).mono ?_
  rintro e w4 ⟨rfl, d4⟩
  have HM9 : Hid (Mem w4 i1 x0) := Lib.hid (HH.out.dr HM.out d4)
  clear r4 d4 HM c2 z2
  by_cases hc : byt s i1 = shut
  · have HSH := Lib.hid hc
    have HX1 : Hid (X = .ok (i1 + 1, x0)) := Lib.hid (by rw [HX.out]; unfold alM; rw [if_pos hc])
    rw [hc]
    clear hc
    go_wp2_with fail
    obtain ⟨v9, r9⟩ := HH.out.rd _ _ _ HM9.out
    refine (HTO.out _ i1 v9 _ (by omega) r9 HSH.out).mono ?_
    rintro e w9 ⟨rfl, r10, f10⟩
    have HM10 : Hid (Mem w9 (i1 + 1) x0) := Lib.hid (HH.out.move _ _ _ _ _ _ HM9.out r9 r10 f10 (Nat.le_succ _))
    have c2 : w9.cell? ⟨p, 2, none⟩ = some (.int .i64 ((op : Int) + 1)) := r10.c2
    have z2 := r10.z 2
    clear r9 r10 f10
    go_wp2_with fail
    go_end0
    rw [HX1.out]
    exact ⟨rfl, _, HM10.out, rfl⟩
  · have HX1 : Hid (X = (it i1 x0).bind fun y => alF s it shut (s.size - y.1 + 1) (bl s y.1) y.2) := Lib.hid (by rw [HX.out]; unfold alM; rw [if_neg hc])
    obtain ⟨b, hbb⟩ : ∃ b, b = byt s i1 := ⟨_, rfl⟩
    rw [← hbb] at hc ⊢
    have hcb : (b != shut) = true := by simp [bne, beq_eq_false_iff_ne.2 hc]
    clear hbb hc
    have HIT := Lib.hid (HH.out.item w4 i1 x0 hi1 HM9.out)
    have HAH := Lib.hid (fun y => HH.out.ahead w4 i1 x0 y HM9.out hi1)
    obtain ⟨Y, hY⟩ : ∃ Y, Y = it i1 x0 := ⟨_, rfl⟩
    rw [← hY] at HIT HX1 HAH
    clear hY
    cases Y with
    | bad m =>
      have HIT1 : Hid (Calls Tryz.prog N caps w4 fun e w' => e = thr m ∧ Below p w w') := Lib.hid HIT.out
      have HX2 : Hid (X = .bad m) := Lib.hid HX1.out
      clear HIT HX1 HAH
      go_wp2_with fail
      refine HIT1.out.mono ?_
      rintro e w5 ⟨he, b5⟩
      unfold thr at he
      subst he
      (try go_wp2_with fail)
      rw [HX2.out]
      simp only [bodyPost]
      exact ⟨trivial, rfl, b5⟩
    | ok y =>
      obtain ⟨k0, y0⟩ := y
      have HIT1 : Hid (Calls Tryz.prog N caps w4 fun e w' => e = .returned (.tuple #[]) ∧ Mem w' k0 y0) := Lib.hid HIT.out
      have HX2 : Hid (X = alF s it shut (s.size - k0 + 1) (bl s k0) y0) := Lib.hid HX1.out
      have hk0 := (HAH.out _ rfl).2
      dsimp only at hk0
      have hb0 : bl s k0 ≤ s.size := bl_le hk0
      have hb1 := bl_ge s k0
      clear HIT HX1 HAH
      go_wp2_with fail
      refine HIT1.out.mono ?_
      rintro e w5 ⟨rfl, m5⟩
      have HM5 := Lib.hid m5
      clear m5
      obtain ⟨v5, r5⟩ := HH.out.rd _ _ _ HM5.out
      go_wp2_with fail
      refine (HBL.out w5 k0 v5 _ (by omega) r5).mono ?_
      rintro e w6 ⟨rfl, r6, f6⟩
      have HM6 : Hid (Mem w6 (bl s k0) y0) := Lib.hid (HH.out.move _ _ _ _ _ _ HM5.out r5 r6 f6 (bl_ge _ _))
      clear r5 r6 f6 HM5
      have hfu : s.size + 1 - bl s k0 ≤ s.size - k0 + 1 := by omega
      obtain ⟨j0, hj0⟩ : ∃ j0, j0 = bl s k0 := ⟨_, rfl⟩
      obtain ⟨F0, hF0⟩ : ∃ F0, F0 = s.size - k0 + 1 := ⟨_, rfl⟩
      rw [← hj0] at HX2 HM6 hb0 hfu
      rw [← hF0] at HX2 hfu
      clear hj0 hF0 hb1 hk0 hcb
      go_wp2_with fail
      go_loopg [28, 29] F0 (fun f _ _ wr => ∃ (j : Nat) (y : σ), s.size + 1 - j ≤ f ∧ j ≤ s.size ∧ Hid (X = alF s it shut f j y) ∧ Hid (Mem wr j y))
      case atStart => exact ⟨j0, y0, hfu, hb0, HX2, HM6⟩
      case round =>
        obtain ⟨j, y, hf, hj, HXr, HMr⟩ := hrel
        clear hfu hb0 HX2 HM6
        have HST2 := Lib.hid (HXr.out.trans (alF_step gk j y (by omega)))
        have hji : (j : Int) ≤ s.size := by omega
        have HIN := Lib.hid (byt_in (s := s) (i := j))
        obtain ⟨v7, r7⟩ := HH.out.rd _ _ _ HMr.out
        have HP7 := Lib.hid (HPK.out wr j v7 _ (by omega) r7)
        clear HXr
        by_cases h44 : byt s j = 44
        · have hjs : j < s.size := HIN.out (by omega)
          have HX3 : Hid (X = (it (bl s (j + 1)) y).bind fun y => alF s it shut (gk - 1) (bl s y.1) y.2) := Lib.hid (by rw [HST2.out, if_pos h44])
          rw [h44] at HP7
          clear h44 HST2
          have HR7 := Lib.hid r7
          clear r7
          have hj2 : bl s (j + 1) ≤ s.size := bl_le (by omega)
          have hj3 := bl_ge s (j + 1)
          have HBL7 := Lib.hid (fun W (r : RdB W p s (j + 1) (op + 1) v7 (pr y)) => HBL.out W (j + 1) v7 (pr y) (by omega) r)
          obtain ⟨j1, hj1⟩ : ∃ j1, j1 = bl s (j + 1) := ⟨_, rfl⟩
          rw [← hj1] at HX3 hj2 hj3 HBL7
          clear hj1
          go_wp2_with (go_at_call 160; refine HP7.out.mono ?_; rintro e w8 ⟨rfl, d⟩; have R8 := Lib.hid (HR7.out.dr d); clear d; have c1 := R8.out.1.c1; have z1 := R8.out.1.z 1; have RN := Lib.hid (And.intro (R8.out.1.at_ (j + 1) ((j : Int) + 1) (by omega)).1 (R8.out.2.trans (R8.out.1.at_ (j + 1) ((j : Int) + 1) (by omega)).2)))
          refine (HBL7.out _ RN.out.1).mono ?_
          rintro e w9 ⟨rfl, r9, f9⟩
          have HM9 : Hid (Mem w9 j1 y) := Lib.hid (HH.out.move _ _ _ _ _ _ HMr.out HR7.out r9 (RN.out.2.trans f9) (by omega))
          clear r9 f9
          have HIT := Lib.hid (HH.out.item w9 j1 y hj2 HM9.out)
          have HAH := Lib.hid (fun z => HH.out.ahead w9 j1 y z HM9.out hj2)
          obtain ⟨Y, hY⟩ : ∃ Y, Y = it j1 y := ⟨_, rfl⟩
          rw [← hY] at HIT HX3 HAH
          clear hY
          cases Y with
          | bad m =>
            have HIT1 : Hid (Calls Tryz.prog N caps w9 fun e w' => e = thr m ∧ Below p w w') := Lib.hid HIT.out
            have HX2 : Hid (X = .bad m) := Lib.hid HX3.out
            clear HIT HX3 HAH
            go_wp2_with fail
            refine HIT1.out.mono ?_
            rintro e w10 ⟨he, b5⟩
            unfold thr at he
            subst he
            (try go_wp2_with fail)
            rw [HX2.out]
            simp only [bodyPost]
            exact ⟨trivial, rfl, b5⟩
          | ok z =>
            obtain ⟨k1, y1⟩ := z
            have HIT1 : Hid (Calls Tryz.prog N caps w9 fun e w' => e = .returned (.tuple #[]) ∧ Mem w' k1 y1) := Lib.hid HIT.out
            have HX2 : Hid (X = alF s it shut (gk - 1) (bl s k1) y1) := Lib.hid HX3.out
            have hk1 := HAH.out _ rfl
            dsimp only at hk1
            have hb1 : bl s k1 ≤ s.size := bl_le hk1.2
            have hb2 := bl_ge s k1
            clear HIT HX3 HAH
            go_wp2_with fail
            refine HIT1.out.mono ?_
            rintro e w10 ⟨rfl, m5⟩
            have HM10 := Lib.hid m5
            clear m5
            obtain ⟨v10, r10⟩ := HH.out.rd _ _ _ HM10.out
            go_wp2_with fail
            refine (HBL.out w10 k1 v10 _ (by omega) r10).mono ?_
            rintro e w11 ⟨rfl, r11, f11⟩
            have HM11 : Hid (Mem w11 (bl s k1) y1) := Lib.hid (HH.out.move _ _ _ _ _ _ HM10.out r10 r11 f11 (bl_ge _ _))
            clear r10 r11 f11 HM10
            go_wp2_with fail
            go_roundg (gk - 1)
            case rel => exact ⟨bl s k1, y1, by omega, hb1, HX2, HM11⟩
            case measure => omega
        · have HX3 : Hid (X = (wordM s [shut] j).bind fun k => .ok (k, y)) := Lib.hid (by rw [HST2.out, if_neg h44])
          obtain ⟨b7, hb7⟩ : ∃ b7, b7 = byt s j := ⟨_, rfl⟩
          rw [← hb7] at HP7 h44
          have h44b : (b7 == 44) = false := beq_eq_false_iff_ne.2 h44
          clear HST2 h44
          have HM7 : Hid (∀ W, Dr wr W → Mem W j y) := Lib.hid (fun W d => HH.out.dr HMr.out d)
          clear r7
          by_cases hsj : byt s j = shut
          · have HSH := Lib.hid hsj
            have HX4 : Hid (X = .ok (j + 1, y)) := Lib.hid (by rw [HX3.out]; unfold wordM; rw [if_pos hsj]; rfl)
            clear hb7 hsj
            go_wp2_with (go_at_call 160; refine HP7.out.mono ?_; rintro e w8 ⟨rfl, d⟩; have HM9 : Hid (Mem w8 j y) := Lib.hid (HM7.out _ d); clear d)
            obtain ⟨v9, r9⟩ := HH.out.rd _ _ _ HM9.out
            refine (HTO.out _ j v9 _ (by omega) r9 HSH.out).mono ?_
            rintro e w9 ⟨rfl, r10, f10⟩
            have HM10 : Hid (Mem w9 (j + 1) y) := Lib.hid (HH.out.move _ _ _ _ _ _ HM9.out r9 r10 f10 (Nat.le_succ _))
            have c2 : w9.cell? ⟨p, 2, none⟩ = some (.int .i64 ((op : Int) + 1)) := r10.c2
            have z2 := r10.z 2
            clear r9 r10 f10
            go_wp2_with fail
            go_end0
            rw [HX4.out]
            exact ⟨rfl, _, HM10.out, rfl⟩
          · have HX4 : Hid (X = .bad 40) := Lib.hid (by rw [HX3.out]; unfold wordM; rw [if_neg hsj]; rfl)
            have HSH := Lib.hid hsj
            clear hb7 hsj
            go_wp2_with (go_at_call 160; refine HP7.out.mono ?_; rintro e w8 ⟨rfl, d⟩; have HM9 : Hid (Mem w8 j y) := Lib.hid (HM7.out _ d); clear d)
            obtain ⟨v9, r9⟩ := HH.out.rd _ _ _ HM9.out
            refine (HTB.out _ j v9 _ (by omega) r9 HSH.out).mono ?_
            rintro e w9 ⟨he, d9⟩
            unfold thr at he
            subst he
            (try go_wp2_with fail)
            rw [HX4.out]
            simp only [bodyPost]
            exact ⟨trivial, rfl, (HH.out.low _ _ _ HM9.out).trans (d9.below p)⟩
end Go.Proofs.YtmkkckhfdafjnaaGreatDoor
/- Layer 4, Read: how far a value goes, and what it leaves (plain). -/
namespace Go.Proofs.YtmkkckhfdafjnaaGreatDoor
open Go.RowKit
def litI (s : ByteArray) (V : Nat → List CR → Rs Out) (h : Nat) (j : Nat) (M : List CR) : Rs (Nat × List CR) := (V j M).bind fun x => .ok (x.1, incC x.2 h)
def objI (s : ByteArray) (V : ByteArray → Nat → List CR → Rs Out) (h : Nat) (j : Nat) (x : List ByteArray × List CR) : Rs (Nat × (List ByteArray × List CR)) := (memM s V h j x.1 x.2).bind fun y => .ok (y.1.1, (y.2, y.1.2))
theorem lst_alF (s : ByteArray) (V : Nat → List CR → Rs Out) (h : Nat) : ∀ f i L, lstF s V h f i L = alF s (litI s V h) 93 f i L
  | 0, _, _ => rfl
  | f + 1, i, L => by
    unfold lstF alF litI
    split
    · cases V (bl s (i + 1)) L with
      | bad e => rfl
      | ok x => simp only [Rs.bind_ok]; exact lst_alF s V h f _ _
    · rfl
theorem lst_al (s : ByteArray) (V : Nat → List CR → Rs Out) (h i : Nat) (L : List CR) : lstM s V h i L = alM s (litI s V h) 93 i L := by
  unfold lstM alM litI
  split
  · rfl
  · cases V i L with
    | bad e => rfl
    | ok x => simp only [Rs.bind_ok]; exact lst_alF s V h _ _ _
theorem obj_alF (s : ByteArray) (V : ByteArray → Nat → List CR → Rs Out) (h : Nat) : ∀ f i ns L, objF s V h f i ns L = (alF s (objI s V h) 125 f i (ns, L)).bind fun y => .ok (y.1, y.2.2)
  | 0, _, _, _ => rfl
  | f + 1, i, ns, L => by
    unfold objF alF objI
    split
    · cases memM s V h (bl s (i + 1)) ns L with
      | bad e => rfl
      | ok x => simp only [Rs.bind_ok]; exact obj_alF s V h f _ _ _
    · cases wordM s [125] i with
      | bad e => rfl
      | ok x => rfl
theorem obj_al (s : ByteArray) (V : ByteArray → Nat → List CR → Rs Out) (h i : Nat) (L : List CR) : objM s V h i L = (alM s (objI s V h) 125 i ([], L)).bind fun y => .ok (y.1, y.2.2) := by
  unfold objM alM objI
  split
  · rfl
  · cases memM s V h i [] L with
    | bad e => rfl
    | ok x => simp only [Rs.bind_ok]; exact obj_alF s V h _ _ _ _
/-- An item goes on, and leaves the cells below one as they were. -/
def Grows {σ : Type} (s : ByteArray) (h : Nat) (it : Nat → σ → Rs (Nat × σ)) (pr : σ → List CR) : Prop := ∀ i x y, i ≤ s.size → h < (pr x).length → (pr x).length ≤ 2048 → it i x = .ok y → i < y.1 ∧ y.1 ≤ s.size ∧ h < (pr y.2).length ∧ (pr y.2).length ≤ 2048 ∧ (pr y.2).take h = (pr x).take h
theorem alF_ok {σ : Type} {s : ByteArray} {h : Nat} {it : Nat → σ → Rs (Nat × σ)} {pr : σ → List CR} {shut : Int} (hsh : shut ≠ 0) (G : Grows s h it pr) : ∀ f i x y, i ≤ s.size → h < (pr x).length → (pr x).length ≤ 2048 → alF s it shut f i x = .ok y → i < y.1 ∧ y.1 ≤ s.size ∧ h < (pr y.2).length ∧ (pr y.2).length ≤ 2048 ∧ (pr y.2).take h = (pr x).take h
  | 0, i, x, y, _, _, _, e => by cases e
  | f + 1, i, x, y, hi, h1, h2, e => by
    unfold alF at e
    split at e
    · rename_i h44
      have hin : i < s.size := byt_in (by omega)
      have hb1 := bl_ge s (i + 1)
      have hb2 : bl s (i + 1) ≤ s.size := bl_le (by omega)
      cases he : it (bl s (i + 1)) x with
      | bad m => rw [he] at e; cases e
      | ok z =>
        rw [he] at e
        simp only [Rs.bind_ok] at e
        obtain ⟨g1, g2, g3, g4, g5⟩ := G _ _ _ hb2 h1 h2 he
        have hc1 := bl_ge s z.1
        have hc2 : bl s z.1 ≤ s.size := bl_le g2
        obtain ⟨k1, k2, k3, k4, k5⟩ := alF_ok hsh G f _ _ _ hc2 g3 g4 e
        exact ⟨by omega, k2, k3, k4, k5.trans g5⟩
    · unfold wordM at e
      split at e
      · rename_i hs
        have hin : i < s.size := byt_in (by rw [hs]; exact hsh)
        unfold wordM at e
        simp only [Rs.bind_ok] at e
        cases e
        exact ⟨by omega, by omega, h1, h2, rfl⟩
      · cases e
theorem alM_ok {σ : Type} {s : ByteArray} {h : Nat} {it : Nat → σ → Rs (Nat × σ)} {pr : σ → List CR} {shut : Int} (hsh : shut ≠ 0) (G : Grows s h it pr) {i : Nat} {x : σ} {y : Nat × σ} (hi : i ≤ s.size) (h1 : h < (pr x).length) (h2 : (pr x).length ≤ 2048) (e : alM s it shut i x = .ok y) : i < y.1 ∧ y.1 ≤ s.size ∧ h < (pr y.2).length ∧ (pr y.2).length ≤ 2048 ∧ (pr y.2).take h = (pr x).take h := by
  unfold alM at e
  split at e
  · rename_i hs
    have hin : i < s.size := byt_in (by rw [hs]; exact hsh)
    cases e
    exact ⟨by omega, by omega, h1, h2, rfl⟩
  · cases he : it i x with
    | bad m => rw [he] at e; cases e
    | ok z =>
      rw [he] at e
      simp only [Rs.bind_ok] at e
      obtain ⟨g1, g2, g3, g4, g5⟩ := G _ _ _ hi h1 h2 he
      have hc1 := bl_ge s z.1
      have hc2 : bl s z.1 ≤ s.size := bl_le g2
      obtain ⟨k1, k2, k3, k4, k5⟩ := alF_ok hsh G _ _ _ _ hc2 g3 g4 e
      exact ⟨by omega, k2, k3, k4, k5.trans g5⟩
/-- A value goes on, and leaves the cells ahead of it as they were. -/
def ValOk (s : ByteArray) (V : ByteArray → Nat → List CR → Rs Out) : Prop := ∀ nm i L j M, i ≤ s.size → L.length ≤ 2048 → V nm i L = .ok (j, M) → i < j ∧ j ≤ s.size ∧ L.length < M.length ∧ M.length ≤ 2048 ∧ M.take L.length = L
theorem setC_len (L : List CR) (h : Nat) (f : CR → CR) : (setC L h f).length = L.length := List.length_set ..
theorem setC_take (L : List CR) (h : Nat) (f : CR → CR) : (setC L h f).take h = L.take h := by
  unfold setC
  apply List.ext_getElem?
  intro i
  rw [List.getElem?_take, List.getElem?_take]
  split
  · rw [List.getElem?_set_ne (by omega)]
  · rfl
theorem take_of {M L : List CR} {h n : Nat} (e : M.take n = L) (hh : h ≤ n) : M.take h = L.take h := by
  rw [← e, List.take_take, Nat.min_eq_left hh]
theorem litI_grows {s : ByteArray} {V : ByteArray → Nat → List CR → Rs Out} (hV : ValOk s V) (nm : ByteArray) (h : Nat) : Grows s h (litI s (V nm) h) (fun x => x) := by
  intro i x y hi h1 h2 e
  unfold litI at e
  cases hv : V nm i x with
  | bad m => rw [hv] at e; cases e
  | ok z =>
    obtain ⟨j, M⟩ := z
    rw [hv] at e
    simp only [Rs.bind_ok] at e
    cases e
    obtain ⟨g1, g2, g3, g4, g5⟩ := hV _ _ _ _ _ hi h2 hv
    dsimp only at h1 g3 g4 g5
    refine ⟨g1, g2, ?_, ?_, ?_⟩
    · show h < (incC M h).length; unfold incC; rw [setC_len]; omega
    · show (incC M h).length ≤ _; unfold incC; rw [setC_len]; exact g4
    · show (incC M h).take h = _; unfold incC; rw [setC_take]; exact take_of g5 (by omega)
theorem memM_ok {s : ByteArray} {V : ByteArray → Nat → List CR → Rs Out} (hV : ValOk s V) {h i j : Nat} {ns ns' : List ByteArray} {x M : List CR} (hi : i ≤ s.size) (h1 : h < x.length) (h2 : x.length ≤ 2048) (e : memM s V h i ns x = .ok ((j, M), ns')) : i < j ∧ j ≤ s.size ∧ h < M.length ∧ M.length ≤ 2048 ∧ M.take h = x.take h := by
  unfold memM at e
  cases hst : strM s i with
  | bad m => rw [hst] at e; cases e
  | ok t =>
    obtain ⟨l, k⟩ := t
    obtain ⟨s1, s2⟩ := strM_ok hst
    rw [hst] at e
    simp only [Rs.bind_ok] at e
    split at e
    · cases e
    split at e
    · cases e
    · have hb1 := bl_ge s k
      have hb2 : bl s k ≤ s.size := bl_le s2
      unfold wordM at e
      split at e
      · rename_i hc
        have hin : bl s k < s.size := byt_in (by rw [hc]; decide)
        unfold wordM at e
        simp only [Rs.bind_ok] at e
        have hc1 := bl_ge s (bl s k + 1)
        have hc2 : bl s (bl s k + 1) ≤ s.size := bl_le (by omega)
        cases hv : V (mkB l) (bl s (bl s k + 1)) x with
        | bad m => rw [hv] at e; cases e
        | ok z =>
          obtain ⟨j', M'⟩ := z
          rw [hv] at e
          simp only [Rs.bind_ok] at e
          cases e
          obtain ⟨g1, g2, g3, g4, g5⟩ := hV _ _ _ _ _ hc2 h2 hv
          refine ⟨by omega, g2, ?_, ?_, ?_⟩
          · unfold incC; rw [setC_len]; omega
          · unfold incC; rw [setC_len]; exact g4
          · unfold incC; rw [setC_take]; exact take_of g5 (by omega)
      · cases e
theorem objI_grows {s : ByteArray} {V : ByteArray → Nat → List CR → Rs Out} (hV : ValOk s V) (h : Nat) : Grows s h (objI s V h) (fun x => x.2) := by
  intro i x y hi h1 h2 e
  unfold objI at e
  cases hv : memM s V h i x.1 x.2 with
  | bad m => rw [hv] at e; cases e
  | ok z =>
    obtain ⟨⟨j, M⟩, ns⟩ := z
    rw [hv] at e
    simp only [Rs.bind_ok] at e
    cases e
    exact memM_ok hV hi h1 h2 hv
theorem wordM_ok {s : ByteArray} : ∀ (l : List Int) (i j : Nat), (∀ c ∈ l, c ≠ 0) → i ≤ s.size → wordM s l i = .ok j → j = i + l.length ∧ j ≤ s.size
  | [], i, j, _, hi, e => by cases e; exact ⟨rfl, hi⟩
  | c :: l, i, j, h, hi, e => by
    unfold wordM at e
    split at e
    · rename_i hc
      have hin : i < s.size := byt_in (by rw [hc]; exact h c (by simp))
      have := wordM_ok l (i + 1) j (fun x hx => h x (by simp [hx])) (by omega) e
      exact ⟨by rw [this.1]; simp; omega, this.2⟩
    · cases e
theorem snoc_ok {s : ByteArray} {L : List CR} {c : CR} {i j : Nat} (h2 : L.length ≤ 2048) (h4 : ¬ L.length = 2048) (h : i < j ∧ j ≤ s.size) : i < j ∧ j ≤ s.size ∧ L.length < (L ++ [c]).length ∧ (L ++ [c]).length ≤ 2048 ∧ (L ++ [c]).take L.length = L := ⟨h.1, h.2, by simp, by simp; omega, by simp⟩
theorem valM_ok (s : ByteArray) : ∀ f op, ValOk s (fun nm i L => valM s f nm op i L)
  | 0, op => by intro nm i L j M hi h2 e; cases e
  | f + 1, op => by
    intro nm i L j M hi h2 e
    have ih := valM_ok s f (op + 1)
    dsimp only at e
    unfold valM at e
    split at e
    · cases e
    split at e
    · cases e
    split at e
    · cases e
    rename_i h4
    have hb := bl_ge s (i + 1)
    split at e
    · rename_i hc
      have hin : i < s.size := byt_in (by rw [hc]; decide)
      have hb2 : bl s (i + 1) ≤ s.size := bl_le (by omega)
      rw [obj_al] at e
      cases ha : alM s (objI s (fun nm' j M => valM s f nm' (op + 1) j M) L.length) 125 (bl s (i + 1)) ([], L ++ [⟨7, nm, ⟨#[]⟩, 0, 0⟩]) with
      | bad m => rw [ha] at e; cases e
      | ok y =>
        rw [ha] at e
        simp only [Rs.bind_ok] at e
        cases e
        obtain ⟨g1, g2, g3, g4, g5⟩ := alM_ok (by decide) (objI_grows ih L.length) hb2 (by simp) (by simp; omega) ha
        exact ⟨by omega, g2, g3, g4, by rw [g5]; simp⟩
    split at e
    · rename_i hc
      have hin : i < s.size := byt_in (by rw [hc]; decide)
      have hb2 : bl s (i + 1) ≤ s.size := bl_le (by omega)
      rw [lst_al] at e
      obtain ⟨g1, g2, g3, g4, g5⟩ := alM_ok (by decide) (litI_grows ih ⟨#[]⟩ L.length) hb2 (by simp) (by simp; omega) e
      exact ⟨Nat.lt_of_lt_of_le (by omega) (Nat.le_of_lt g1), g2, g3, g4, by rw [g5]; simp⟩
    split at e
    · cases hst : strM s i with
      | bad m => rw [hst] at e; cases e
      | ok t =>
        rw [hst] at e
        simp only [Rs.bind_ok] at e
        cases e
        exact snoc_ok h2 h4 (strM_ok hst)
    split at e
    · cases hst : wordM s [116, 114, 117, 101] i with
      | bad m => rw [hst] at e; cases e
      | ok t =>
        rw [hst] at e
        simp only [Rs.bind_ok] at e
        cases e
        have := wordM_ok _ _ _ (by decide) hi hst
        simp at this
        exact snoc_ok h2 h4 ⟨by omega, by omega⟩
    split at e
    · cases hst : wordM s [102, 97, 108, 115, 101] i with
      | bad m => rw [hst] at e; cases e
      | ok t =>
        rw [hst] at e
        simp only [Rs.bind_ok] at e
        cases e
        have := wordM_ok _ _ _ (by decide) hi hst
        simp at this
        exact snoc_ok h2 h4 ⟨by omega, by omega⟩
    split at e
    · cases hst : wordM s [110, 117, 108, 108] i with
      | bad m => rw [hst] at e; cases e
      | ok t =>
        rw [hst] at e
        simp only [Rs.bind_ok] at e
        cases e
        have := wordM_ok _ _ _ (by decide) hi hst
        simp at this
        exact snoc_ok h2 h4 ⟨by omega, by omega⟩
    · cases hst : numM s i with
      | bad m => rw [hst] at e; cases e
      | ok t =>
        rw [hst] at e
        simp only [Rs.bind_ok] at e
        cases e
        exact snoc_ok h2 h4 (numM_ok hi hst)
end Go.Proofs.YtmkkckhfdafjnaaGreatDoor
/- Layer 4, Read: a list's items. -/
namespace Go.Proofs.YtmkkckhfdafjnaaGreatDoor
open Go.RowKit Go.Maps
/-- A value is read, so many more brackets being allowed (one more than they). -/
def VC (s : ByteArray) (f : Nat) : Prop := ∀ (p i op : Nat) (v : Value) (L : List CR) (nm : ByteArray) (w : World), op + f = 17 → RdB w p s i op v L → LimP p w → i ≤ s.size → L.length ≤ 2048 → Calls Tryz.prog 154 #[.pointer (some ⟨p, 0, none⟩), .string nm] w (OutP p s op v w (valM s f nm op i L))
theorem RdB.veq {w : World} {p i i' op op' : Nat} {s : ByteArray} {v v' : Value} {L L' : List CR} (h : RdB w p s i op v L) (k : RdB w p s i' op' v' L') : v = v' := by
  have e := h.box.symm.trans k.box
  simp only [Option.some.injEq, Obj.cells.injEq, Array.mk.injEq, List.cons.injEq, and_true] at e
  exact e.2.2.2
/-- Blocks of a call's own, which stay. -/
structure Own2 (p b2 b3 : Nat) (v v' : Value) (w W : World) : Prop where
  fr : Fr p v v' w W
  a2 : p < b2
  a3 : p < b3
  n2 : ∀ j, v'.ownBlock = some j → j ≠ b2 ∧ j ≠ b3
theorem Own2.step {p b2 b3 : Nat} {v v' v'' : Value} {w W W' : World} (h : Own2 p b2 b3 v v' w W) (f : Fr p v' v'' W W') (l2 : b2 < W.heap.size) (l3 : b3 < W.heap.size) : Own2 p b2 b3 v v'' w W' ∧ W'.heap[b2]? = W.heap[b2]? ∧ W'.heap[b3]? = W.heap[b3]? := by
  have a2 := h.a2
  have a3 := h.a3
  refine ⟨⟨h.fr.trans f, a2, a3, fun j e => ?_⟩, f.kept _ l2 (by omega) (fun e => (h.n2 _ e).1 rfl), f.kept _ l3 (by omega) (fun e => (h.n2 _ e).2 rfl)⟩
  rcases f.own j e with e | e
  · exact h.n2 j e
  · exact ⟨by omega, by omega⟩
theorem lt_some {w : World} {b : Nat} {o : Obj} (h : w.heap[b]? = some o) : b < w.heap.size := (Array.getElem?_eq_some_iff.1 h).1
/-- Within a list. -/
structure LMem (s : ByteArray) (p op k b2 b3 : Nat) (v : Value) (w W : World) (i : Nat) (M : List CR) : Prop where
  rd : ∃ v', RdB W p s i op v' M ∧ Own2 p b2 b3 v v' w W
  e2 : W.heap[b2]? = some (.cells #[.pointer (some ⟨p, 0, none⟩)] 202)
  e3 : W.heap[b3]? = some (.cells #[.int .i64 k] 3)
  lim : LimP p W
  hk : k < M.length
  hM : M.length ≤ 2048
  cnt : 0 ≤ (gl M k).m ∧ (gl M k).m ≤ i
theorem LMem.step {s : ByteArray} {p op k b2 b3 i j : Nat} {v v' v'' : Value} {w W W' : World} {M M' : List CR} (h : LMem s p op k b2 b3 v w W i M) (r : RdB W p s i op v' M) (r' : RdB W' p s j op v'' M') (f : Fr p v' v'' W W') (hk : k < M'.length) (hM : M'.length ≤ 2048) (c : 0 ≤ (gl M' k).m ∧ (gl M' k).m ≤ j) : LMem s p op k b2 b3 v w W' j M' := by
  obtain ⟨v9, r9, o9⟩ := h.rd
  obtain rfl := r9.veq r
  obtain ⟨o, h2, h3⟩ := o9.step f (lt_some h.e2) (lt_some h.e3)
  exact ⟨⟨_, r', o⟩, h2.trans h.e2, h3.trans h.e3, h.lim.fr f (Nat.le_of_lt r.lt) r.far, hk, hM, c⟩
theorem gl_take {L M : List CR} {h : Nat} (e : M.take L.length = L) (hh : h < L.length) : gl M h = gl L h := by
  unfold gl
  conv => rhs; rw [← e]
  simp only [List.getD_eq_getElem?_getD, List.getElem?_take, hh, if_true]
theorem gl_incC {M : List CR} {k : Nat} (hk : k < M.length) : gl (incC M k) k = { gl M k with m := (gl M k).m + 1 } := by
  unfold gl incC setC
  simp [List.getD_eq_getElem?_getD, List.getElem?_set, hk]
theorem incC_eq (M : List CR) (k : Nat) : incC M k = M.set k { gl M k with m := (gl M k).m + 1 } := rfl
set_option maxRecDepth 20000 in
set_option maxHeartbeats 2000000 in
theorem list1_any {s : ByteArray} {p op k b2 b3 i f : Nat} {v : Value} {w W : World} {M : List CR} (hV : VC s f) (hop : op + f = 17) (h : LMem s p op k b2 b3 v w W i M) (hi : i ≤ s.size) (hs : s.size ≤ 100000000) (hpw : p < w.heap.size) (hvf : ∀ j, v.ownBlock = some j → p + 1 ≤ j) : Calls Tryz.prog 176 #[.pointer (some ⟨b2, 0, none⟩), .pointer (some ⟨b3, 0, none⟩)] W (ItP p (LMem s p op k b2 b3 v w) w (litI s (fun j M => valM s f ⟨#[]⟩ op j M) k i M)) := by
  obtain ⟨v1, r1, o1⟩ := h.rd
  have HV := Lib.hid (hV p i op v1 M ⟨#[]⟩ W hop r1 h.lim hi h.hM)
  have HOK := Lib.hid (fun j N => valM_ok s f op ⟨#[]⟩ i M j N hi h.hM)
  obtain ⟨X, hX⟩ : ∃ X, X = valM s f ⟨#[]⟩ op i M := ⟨_, rfl⟩
  dsimp only at HOK
  unfold litI
  dsimp only
  rw [← hX] at HV HOK ⊢
  clear hX
  have HL := Lib.hid h
  have HR := Lib.hid r1
  have HBW := Lib.hid (o1.fr.below hvf (Nat.le_of_lt hpw))
  have e2 : W.cell? ⟨b2, 0, none⟩ = some (.pointer (some ⟨p, 0, none⟩)) := by simp [World.cell?, h.e2]
  have hki : (k : Int) < M.length := by have := h.hk; omega
  clear h r1 o1
  cases X with
  | bad m =>
    have HV1 : Hid (Calls Tryz.prog 154 #[.pointer (some ⟨p, 0, none⟩), .string ⟨#[]⟩] W fun e w' => e = thr m ∧ Below p W w') := Lib.hid HV.out
    clear HV HOK
    go_enter Tryz.func176, Tryz.ntmps176
    go_wp2_with fail
    refine HV1.out.mono ?_
    rintro e w2 ⟨he, b2⟩
    unfold thr at he
    subst he
    (try go_wp2_with fail)
    simp only [bodyPost]
    exact ⟨trivial, rfl, HBW.out.trans b2⟩
  | ok x =>
    obtain ⟨j, N⟩ := x
    have HV1 : Hid (Calls Tryz.prog 154 #[.pointer (some ⟨p, 0, none⟩), .string ⟨#[]⟩] W fun e w' => e = .returned (.tuple #[]) ∧ ∃ v', RdB w' p s j op v' N ∧ Fr p v1 v' W w') := Lib.hid HV.out
    obtain ⟨g1, g2, g3, g4, g5⟩ := HOK.out j N rfl
    have hgk := gl_take g5 HL.out.hk
    have hkN : k < N.length := by have := HL.out.hk; omega
    have hcn := HL.out.cnt
    rw [← hgk] at hcn
    have HST := Lib.hid (fun W' v' (r : RdB W' p s j op v' N) (fr : Fr p v1 v' W W') => HL.out.step HR.out r fr hkN g4 ⟨hcn.1, by omega⟩)
    have HPQ := Lib.hid HL.out.rd
    have hki : (k : Int) < N.length := by omega
    have hk0 : (0 : Int) ≤ k := by omega
    have hc1 : 0 ≤ (gl N k).m := hcn.1
    have hc2 : (gl N k).m ≤ 100000000 := by omega
    have hc3 : (gl N k).m < j := by omega
    have hNpos : 0 < N.length := by omega
    clear HV HOK g3 g4 g5 hgk hcn hki
    simp only [Rs.bind_ok]
    go_enter Tryz.func176, Tryz.ntmps176
    go_wp2_with fail
    refine HV1.out.mono ?_
    rintro e w2 ⟨rfl, v2, r2, f2⟩
    have HM2 := Lib.hid (HST.out w2 v2 r2 f2)
    obtain ⟨q, cap, rfl, hpq, _⟩ := r2.addr hNpos
    have hki2 : (k : Int) < N.length := by omega
    have HR2 := Lib.hid r2
    have e2 : w2.cell? ⟨b2, 0, none⟩ = some (.pointer (some ⟨p, 0, none⟩)) := by simp [World.cell?, HM2.out.e2]
    have e3 : w2.cell? ⟨b3, 0, none⟩ = some (.int .i64 k) := by simp [World.cell?, HM2.out.e3]
    have c3 := r2.c3
    have d4 := (r2.cells hkN).2.2.2.2
    have z4 := r2.cellz (k * 5 + 4)
    have R3 := Lib.hid (r2.setF hpq hkN 4 (by decide) (.int .i64 ((gl N k).m + 1)) { gl N k with m := (gl N k).m + 1 } rfl)
    obtain ⟨m, hm⟩ : ∃ m, m = (gl N k).m := ⟨_, rfl⟩
    rw [← hm] at d4 hc1 hc2 hc3 R3
    have HME := Lib.hid hm
    clear r2 f2 hm
    go_wp2_with fail
    go_region
    all_goals
      go_wp2_with fail
      go_end0
      have R4 := R3.out.1.dr (w' := (w2.setCell ⟨q, k * 5 + 4, none⟩ (.int .i64 (m + 1))).drew) ⟨rfl, rfl, rfl, rfl⟩
      refine ⟨rfl, ?_⟩
      rw [HME.out] at R4 ⊢
      have R5 := R3.out
      rw [HME.out] at R5
      have hg := gl_incC hkN
      rw [incC_eq] at hg ⊢
      exact HM2.out.step HR2.out R4.1 (R5.2.trans R4.2) (by rw [List.length_set]; exact hkN) (by rw [List.length_set]; exact HM2.out.hM) (by rw [hg]; dsimp only; rw [← HME.out]; omega)
end Go.Proofs.YtmkkckhfdafjnaaGreatDoor
/- Layer 4, Read: a list. -/
namespace Go.Proofs.YtmkkckhfdafjnaaGreatDoor
open Go.RowKit Go.Maps
theorem list_items {s : ByteArray} {p op k b2 b3 f : Nat} {v : Value} {w : World} (hV : VC s f) (hop : op + f = 17) (hs : s.size ≤ 100000000) (hpw : p < w.heap.size) (hvf : ∀ j, v.ownBlock = some j → p + 1 ≤ j) : Items (fun M => M) p op s w (LMem s p op k b2 b3 v w) (litI s (fun j M => valM s f ⟨#[]⟩ op j M) k) 176 #[.pointer (some ⟨b2, 0, none⟩), .pointer (some ⟨b3, 0, none⟩)] where
  rd := fun W i x m => m.rd.elim fun v' h => ⟨v', h.1⟩
  move := fun W W' i j x v' m r r' fr hij => m.step r r' fr m.hk m.hM ⟨m.cnt.1, by have := m.cnt.2; omega⟩
  low := fun W i x m => m.rd.elim fun v' h => h.2.fr.below hvf (Nat.le_of_lt hpw)
  ahead := fun W i x y m hi e => by
    have h := litI_grows (valM_ok s f op) ⟨#[]⟩ k i x y hi m.hk m.hM e
    exact ⟨h.1, h.2.1⟩
  item := fun W i x hi m => list1_any hV hop m hi hs hpw hvf
  enter := enters_of Tryz.func176 (by kernel_rfl) rfl
set_option maxRecDepth 20000 in
set_option maxHeartbeats 2000000 in
theorem list_any {s nm : ByteArray} {p op k q cap i f : Nat} {w : World} {L : List CR} (hV : VC s f) (hop : op + 1 + f = 17) (h : RdB w p s i op (.slice (some ⟨q, 0, none⟩) L.length cap) L) (hl : LimP p w) (hpq : p < q) (hk : k < L.length) (hL : L.length ≤ 2048) (hg : gl L k = ⟨0, nm, ⟨#[]⟩, 0, 0⟩) (hs : s.size ≤ 100000000) (hi : i < s.size) (hb : byt s i = 91) : Calls Tryz.prog 162 #[.pointer (some ⟨p, 0, none⟩), .int .i64 k] w (OutP p s op (.slice (some ⟨q, 0, none⟩) L.length cap) w (lstM s (fun j M => valM s f ⟨#[]⟩ (op + 1) j M) k (bl s (i + 1)) (L.set k ⟨6, nm, ⟨#[]⟩, 0, 0⟩))) := by
  rw [lst_al]
  have hki : (k : Int) < L.length := by omega
  have hk0 : (0 : Int) ≤ k := by omega
  obtain ⟨W2, hW2⟩ : ∃ W2, W2 = (w.alloc (.cells #[.pointer (some ⟨p, 0, none⟩)] 202)).alloc (.cells #[.int .i64 k] 3) := ⟨_, rfl⟩
  have b2 : Below w.heap.size w W2 := by rw [hW2]; exact ((Below.refl _ _).alloc (Nat.le_refl _) _).alloc (by simp) _
  have HLT := Lib.hid h.lt
  have R2 := Lib.hid (h.below b2)
  have n2 : W2.heap[w.heap.size]? = some (.cells #[.pointer (some ⟨p, 0, none⟩)] 202) := by rw [hW2, heap_alloc_old _ _ (by simp), heap_alloc_new]
  have n3 : W2.heap[w.heap.size + 1]? = some (.cells #[.int .i64 k] 3) := by
    have e := heap_alloc_new (w.alloc (.cells #[.pointer (some ⟨p, 0, none⟩)] 202)) (.cells #[.int .i64 k] 3)
    rw [hW2]; simpa using e
  have e2 : W2.cell? ⟨w.heap.size, 0, none⟩ = some (.pointer (some ⟨p, 0, none⟩)) := by simp [World.cell?, n2]
  have e3 : W2.cell? ⟨w.heap.size + 1, 0, none⟩ = some (.int .i64 k) := by simp [World.cell?, n3]
  have HE := Lib.hid (And.intro n2 n3)
  have HQ2 : Hid (p < q ∧ q < w.heap.size) := Lib.hid (by obtain ⟨q', c', e, h1, h2⟩ := h.addr (by omega); cases e; exact ⟨h1, h2⟩)
  have c3 := R2.out.1.c3
  have d0 := (R2.out.1.cells hk).1
  rw [hg] at d0
  dsimp only at d0
  have z0 := R2.out.1.cellz (k * 5)
  have R3 := Lib.hid (R2.out.1.setF hpq hk 0 (by decide) (.int .u8 6) ⟨6, nm, ⟨#[]⟩, 0, 0⟩ (by rw [hg]; rfl))
  have HL := Lib.hid (hl.fr R2.out.2 (Nat.le_of_lt h.lt) h.far)
  obtain ⟨X, hX⟩ : ∃ X, X = alM s (litI s (fun j M => valM s f ⟨#[]⟩ (op + 1) j M) k) 93 (bl s (i + 1)) (L.set k ⟨6, nm, ⟨#[]⟩, 0, 0⟩) := ⟨_, rfl⟩
  rw [← hX]
  have HX := Lib.hid hX
  have HF := Lib.hid h.far
  clear n2 n3 b2 h hl hg hX
  go_enter Tryz.func162, Tryz.ntmps162
  go_wp2_with fail
  rw [← hW2]
  clear hW2
  obtain ⟨B, hB⟩ : ∃ B, B = w.heap.size := ⟨_, rfl⟩
  rw [← hB] at e2 e3 ⊢
  have HB := Lib.hid hB
  clear hB
  go_region
  all_goals
    rw [List.length_set] at R3
    obtain ⟨W3, hW3⟩ : ∃ W3, W3 = (W2.setCell ⟨q, k * 5, none⟩ (.int .u8 6)).drew := ⟨_, rfl⟩
    rw [← hW3]
    have R4 : Hid (RdB W3 p s i op (.slice (some ⟨q, 0, none⟩) L.length cap) (L.set k ⟨6, nm, ⟨#[]⟩, 0, 0⟩) ∧ Fr p (.slice (some ⟨q, 0, none⟩) L.length cap) (.slice (some ⟨q, 0, none⟩) L.length cap) W2 W3) := Lib.hid (by
      have h1 := R3.out.1.dr (w' := W3) (by rw [hW3]; exact ⟨rfl, rfl, rfl, rfl⟩)
      exact ⟨h1.1, R3.out.2.trans h1.2⟩)
    have hqb : q ≠ B ∧ q ≠ B + 1 ∧ p < B := by have h1 := HQ2.out; have h2 := HB.out; omega
    have HE3 : Hid (W3.heap[B]? = some (.cells #[.pointer (some ⟨p, 0, none⟩)] 202) ∧ W3.heap[B + 1]? = some (.cells #[.int .i64 k] 3)) := Lib.hid (by
      have hk : ∀ j, j ≠ q → W3.heap[j]? = W2.heap[j]? := fun j hj => by rw [hW3]; exact Below.heap_setCell W2 ⟨q, k * 5, none⟩ _ j hj
      rw [hk _ (Ne.symm hqb.1), hk _ (Ne.symm hqb.2.1)]
      exact HB.out ▸ HE.out)
    clear hW3 e2 e3 c3 d0 z0
    have e2 : W3.cell? ⟨B, 0, none⟩ = some (.pointer (some ⟨p, 0, none⟩)) := by simp [World.cell?, HE3.out.1]
    have HL3 := Lib.hid (HL.out.fr R4.out.2 (by have := R2.out.1.lt; omega) HF.out)
    have HA := Lib.hid (all_any (pr := fun M => M) (shut := 93) W3 (L.set k ⟨6, nm, ⟨#[]⟩, 0, 0⟩) R4.out.1 (list_items (k := k) (b2 := B) (b3 := B + 1) hV hop hs R4.out.1.lt HF.out) (fun W j r fr => (⟨⟨_, r, ⟨fr, hqb.2.2, by omega, fun j e => by cases e; exact ⟨hqb.1, hqb.2.1⟩⟩⟩, (fr.kept _ (lt_some HE3.out.1) (by omega) (fun e => hqb.1 (by cases e; rfl))).trans HE3.out.1, (fr.kept _ (lt_some HE3.out.2) (by omega) (fun e => hqb.2.1 (by cases e; rfl))).trans HE3.out.2, HL3.out.fr fr (Nat.le_of_lt R4.out.1.lt) HF.out, by rw [List.length_set]; exact hk, by rw [List.length_set]; exact hL, by have e : gl (L.set k ⟨6, nm, ⟨#[]⟩, 0, 0⟩) k = ⟨6, nm, ⟨#[]⟩, 0, 0⟩ := (by unfold gl; simp [List.getD, hk]); rw [e]; dsimp only; omega⟩ : LMem s p (op + 1) k B (B + 1) (.slice (some ⟨q, 0, none⟩) L.length cap) W3 W j (L.set k ⟨6, nm, ⟨#[]⟩, 0, 0⟩))) hb (by omega) hs hi (by decide))
    rw [← HX.out] at HA
    have HFR := Lib.hid (R2.out.2.trans R4.out.2)
    clear hqb
    go_wp2_with fail
    cases X with
    | bad m =>
      have HA1 : Hid (Calls Tryz.prog 172 #[.pointer (some ⟨p, 0, none⟩), .int .u8 91, .int .u8 93, .func (.func 176) #[] #[.pointer (some ⟨B, 0, none⟩), .pointer (some ⟨B + 1, 0, none⟩)]] W3 fun e w' => e = thr m ∧ Below p W3 w') := Lib.hid HA.out
      refine HA1.out.mono ?_
      rintro e w5 ⟨he, b5⟩
      unfold thr at he
      subst he
      (try go_wp2_with fail)
      simp only [bodyPost]
      exact ⟨trivial, rfl, (HFR.out.below HF.out (Nat.le_of_lt HLT.out)).trans b5⟩
    | ok y =>
      obtain ⟨j, M⟩ := y
      have HA1 : Hid (Calls Tryz.prog 172 #[.pointer (some ⟨p, 0, none⟩), .int .u8 91, .int .u8 93, .func (.func 176) #[] #[.pointer (some ⟨B, 0, none⟩), .pointer (some ⟨B + 1, 0, none⟩)]] W3 fun e w' => e = .returned (.tuple #[]) ∧ ∃ W, LMem s p (op + 1) k B (B + 1) (.slice (some ⟨q, 0, none⟩) L.length cap) W3 W j M ∧ w' = W.setCell ⟨p, 2, none⟩ (.int .i64 op)) := Lib.hid HA.out
      refine HA1.out.mono ?_
      rintro e w5 ⟨rfl, W5, m5, rfl⟩
      obtain ⟨v5, r5, o5⟩ := m5.rd
      have R6 := Lib.hid (And.intro (r5.open_ op op rfl).1 ((HFR.out.trans o5.fr).trans (r5.open_ op op rfl).2))
      clear m5 r5 o5
      go_wp2_with fail
      go_end0
      exact ⟨rfl, _, R6.out.1, R6.out.2⟩
end Go.Proofs.YtmkkckhfdafjnaaGreatDoor
/- Layer 4, Read: an object's members. -/
namespace Go.Proofs.YtmkkckhfdafjnaaGreatDoor
open Go.RowKit Go.Maps Go.WideMaps
theorem strF_len {s : ByteArray} : ∀ (f j : Nat) (l m : List Int) (k : Nat), strF s f j l = .ok (m, k) → m.length + 4 * j ≤ l.length + 4 * k
  | 0, j, l, m, k, h => by cases h
  | f + 1, j, l, m, k, h => by
    rw [strF_step s (f + 1) j l (by omega)] at h
    split at h
    · cases h
      omega
    split at h
    · cases he : escM s (j + 1) with
      | bad e => rw [he] at h; cases h
      | ok x =>
        obtain ⟨y, j1⟩ := x
        obtain ⟨h1, h2, h3, _⟩ := escM_ok he
        rw [he] at h
        simp only [Rs.bind_ok] at h
        have := strF_len f j1 _ m k h
        rw [List.length_append] at this
        omega
    split at h
    · cases h
    · have := strF_len f (j + 1) _ m k h
      rw [List.length_append] at this
      simp at this
      omega
theorem strM_len {s : ByteArray} {i k : Nat} {m : List Int} (h : strM s i = .ok (m, k)) : m.length ≤ 4 * k := by
  unfold strM at h
  cases hw : wordM s [34] i with
  | bad e => rw [hw] at h; cases h
  | ok j =>
    rw [hw] at h
    simp only [Rs.bind_ok] at h
    have := strF_len _ _ _ _ _ h
    simp at this
    omega
/-- Blocks of a call's own, which stay. -/
structure OwnS (S : List Nat) (p : Nat) (v v' : Value) (w W : World) : Prop where
  fr : Fr p v v' w W
  ab : ∀ b ∈ S, p < b
  ne : ∀ j, v'.ownBlock = some j → j ∉ S
theorem OwnS.step {S : List Nat} {p : Nat} {v v' v'' : Value} {w W W' : World} (h : OwnS S p v v' w W) (f : Fr p v' v'' W W') (l : ∀ b ∈ S, b < W.heap.size) : OwnS S p v v'' w W' ∧ ∀ b ∈ S, W'.heap[b]? = W.heap[b]? := by
  refine ⟨⟨h.fr.trans f, h.ab, fun j e => ?_⟩, fun b hb => f.kept _ (l b hb) (by have := h.ab b hb; omega) (fun e => h.ne _ e hb)⟩
  rcases f.own j e with e | e
  · exact h.ne j e
  · exact fun hj => by have := l j hj; omega
theorem RdB.same {w w' : World} {p i op : Nat} {s : ByteArray} {v : Value} {L : List CR} (h : RdB w p s i op v L) (hp : w'.heap[p]? = w.heap[p]?) (hv : ∀ j, v.ownBlock = some j → w'.heap[j]? = w.heap[j]?) : RdB w' p s i op v L := ⟨hp.trans h.box, own_move h.row hv⟩
theorem met_same {w w' : World} {b n : Nat} {ns : List ByteArray} (h : Met w b n ns) (e : w'.heap[b]? = w.heap[b]?) : Met w' b n ns := by
  obtain ⟨es, clock, hb, F, hs, hD⟩ := h
  exact ⟨es, clock, e.trans hb, F, hs, hD⟩
theorem met_lt {w : World} {b n : Nat} {ns : List ByteArray} (h : Met w b n ns) : b < w.heap.size := by
  obtain ⟨es, clock, hb, F, hs, hD⟩ := h
  exact lt_some hb
/-- Within an object. -/
structure OMem (s : ByteArray) (p op k b2 b3 b4 bm : Nat) (v : Value) (w w3 W : World) (i : Nat) (x : List ByteArray × List CR) : Prop where
  rd : ∃ v', RdB W p s i op v' x.2 ∧ OwnS [b2, b3, b4, bm] p v v' w W
  e2 : W.heap[b2]? = some (.cells #[.pointer (some ⟨p, 0, none⟩)] 202)
  e3 : W.heap[b3]? = some (.cells #[.int .i64 k] 3)
  e4 : W.heap[b4]? = some (.cells #[.map (some bm)] 98)
  met : ∃ n, n ≤ i ∧ Met W bm n x.1
  lim : LimP p W
  hk : k < x.2.length
  hM : x.2.length ≤ 2048
  cnt : 0 ≤ (gl x.2 k).m ∧ (gl x.2 k).m ≤ i
  low : Below p w3 W
  dif : b2 ≠ bm ∧ b3 ≠ bm ∧ b4 ≠ bm ∧ w.heap.size ≤ bm
theorem OMem.lts {s : ByteArray} {p op k b2 b3 b4 bm i : Nat} {v : Value} {w w3 W : World} {x : List ByteArray × List CR} (h : OMem s p op k b2 b3 b4 bm v w w3 W i x) : ∀ b ∈ [b2, b3, b4, bm], b < W.heap.size := by
  intro b hb
  obtain ⟨n, _, hm⟩ := h.met
  simp only [List.mem_cons, List.not_mem_nil, or_false] at hb
  rcases hb with rfl | rfl | rfl | rfl
  · exact lt_some h.e2
  · exact lt_some h.e3
  · exact lt_some h.e4
  · exact met_lt hm
theorem OMem.step {s : ByteArray} {p op k b2 b3 b4 bm i j : Nat} {v v' v'' : Value} {w w3 W W' : World} {ns : List ByteArray} {M M' : List CR} (h : OMem s p op k b2 b3 b4 bm v w w3 W i (ns, M)) (r : RdB W p s i op v' M) (r' : RdB W' p s j op v'' M') (f : Fr p v' v'' W W') (hij : i ≤ j) (hk : k < M'.length) (hM : M'.length ≤ 2048) (c : 0 ≤ (gl M' k).m ∧ (gl M' k).m ≤ j) : OMem s p op k b2 b3 b4 bm v w w3 W' j (ns, M') := by
  obtain ⟨v9, r9, o9⟩ := h.rd
  obtain rfl := r9.veq r
  obtain ⟨o, hb⟩ := o9.step f h.lts
  obtain ⟨n, hn, hm⟩ := h.met
  exact ⟨⟨_, r', o⟩, (hb b2 (by simp)).trans h.e2, (hb b3 (by simp)).trans h.e3, (hb b4 (by simp)).trans h.e4, ⟨n, Nat.le_trans hn hij, met_same hm (hb bm (by simp))⟩, h.lim.fr f (Nat.le_of_lt r.lt) r.far, hk, hM, c, h.low.trans (f.below r.far (Nat.le_of_lt r.lt)), h.dif⟩
/-- A name is put to the names. -/
theorem OMem.named {s nm : ByteArray} {p op k b2 b3 b4 bm i n : Nat} {v : Value} {w w3 W W' : World} {ns : List ByteArray} {M : List CR} (h : OMem s p op k b2 b3 b4 bm v w w3 W i (ns, M)) (g : W.grownBy W' (some bm)) (m : Met W' bm n (nm :: ns)) (hn : n ≤ i) : OMem s p op k b2 b3 b4 bm v w w3 W' i (nm :: ns, M) := by
  obtain ⟨v9, r9, o9⟩ := h.rd
  have hl := h.lts
  have hk : ∀ b, b < W.heap.size → b ≠ bm → W'.heap[b]? = W.heap[b]? := fun b hb hne => g.block b hb (fun e => hne (by cases e; rfl))
  have hbm := o9.ab bm (by simp)
  have hown : ∀ j, v9.ownBlock = some j → W'.heap[j]? = W.heap[j]? := fun j e => hk j (r9.row.lt j e).2 (fun e' => o9.ne j e (by simp [e']))
  have fr : Fr p v v9 w W' := ⟨g.os.trans o9.fr.os, g.tape.trans o9.fr.tape, g.output.trans o9.fr.output, Nat.le_trans o9.fr.size g.size, fun j hj h1 h2 => (hk j (Nat.lt_of_lt_of_le hj o9.fr.size) (fun e => by have := h.dif.2.2.2; omega)).trans (o9.fr.kept j hj h1 h2), o9.fr.own⟩
  have lw : Below p W W' := ⟨g.os, g.tape, g.output, g.size, fun j hj => hk j (by have := r9.lt; omega) (by omega)⟩
  have hl2 : LimP p W' := by
    refine ⟨h.lim.1, ?_, ?_⟩
    · rw [← h.lim.2.1]; unfold World.cell?; dsimp only; rw [lw.block _ h.lim.1]
    · rw [← h.lim.2.2]; unfold World.cell?; dsimp only; rw [lw.block _ h.lim.1]
  exact ⟨⟨v9, r9.same (hk p r9.lt (by omega)) hown, fr, o9.ab, o9.ne⟩, (hk _ (hl b2 (by simp)) h.dif.1).trans h.e2, (hk _ (hl b3 (by simp)) h.dif.2.1).trans h.e3, (hk _ (hl b4 (by simp)) h.dif.2.2.1).trans h.e4, ⟨n, hn, m⟩, hl2, h.hk, h.hM, h.cnt, h.low.trans lw, h.dif⟩
end Go.Proofs.YtmkkckhfdafjnaaGreatDoor
/- Layer 4, Read: a member. -/
namespace Go.Proofs.YtmkkckhfdafjnaaGreatDoor
open Go.RowKit Go.Maps Go.WideMaps
theorem cnt_up {m : Int} {i j : Nat} (h : 0 ≤ m ∧ m ≤ i) (k : i ≤ j) : 0 ≤ m ∧ m ≤ j := ⟨h.1, by omega⟩
set_option maxRecDepth 20000 in
set_option maxHeartbeats 4000000 in
theorem obj1_any {s : ByteArray} {p op k b2 b3 b4 bm i f : Nat} {v : Value} {w w3 W : World} {x : List ByteArray × List CR} (hV : VC s f) (hop : op + f = 17) (h : OMem s p op k b2 b3 b4 bm v w w3 W i x) (hi : i ≤ s.size) (hs : s.size ≤ 100000) : Calls Tryz.prog 173 #[.pointer (some ⟨b2, 0, none⟩), .pointer (some ⟨b4, 0, none⟩), .pointer (some ⟨b3, 0, none⟩)] W (ItP p (OMem s p op k b2 b3 b4 bm v w w3) w3 (objI s (fun nm j M => valM s f nm op j M) k i x)) := by
  obtain ⟨ns, M⟩ := x
  obtain ⟨v1, r1, o1⟩ := h.rd
  obtain ⟨n, hn, hm⟩ := h.met
  dsimp only at r1 hm
  have HS := Lib.hid (str_any W r1 (by omega) (by omega))
  have HSK := Lib.hid (fun l j (e : strM s i = .ok (l, j)) => And.intro (strM_ok e) (strM_len e))
  have HLO := Lib.hid (fun e w' (a : e = thr 40 ∨ True) (b : Below p W w') => h.low.trans b)
  clear HLO
  obtain ⟨Z, hZ⟩ : ∃ Z, Z = objI s (fun nm j M => valM s f nm op j M) k i (ns, M) := ⟨_, rfl⟩
  rw [← hZ]
  unfold objI memM at hZ
  dsimp only at hZ
  obtain ⟨X, hX⟩ : ∃ X, X = strM s i := ⟨_, rfl⟩
  rw [← hX] at HS hZ HSK
  clear hX
  have e2 : W.cell? ⟨b2, 0, none⟩ = some (.pointer (some ⟨p, 0, none⟩)) := by simp [World.cell?, h.e2]
  have HM := Lib.hid h
  have HB := Lib.hid h.lts
  have HO := Lib.hid o1
  have HR := Lib.hid r1
  have HMT := Lib.hid hm
  have HLT := Lib.hid r1.lt
  have HN := Lib.hid hn
  have HVC := Lib.hid hV
  have HOP := Lib.hid hop
  clear h o1 r1 hm hn hV hop
  cases X with
  | bad m =>
    have HZ : Hid (Z = .bad m) := Lib.hid hZ
    have HS1 : Hid (Calls Tryz.prog 174 #[.pointer (some ⟨p, 0, none⟩)] W fun e w' => e = thr m ∧ Below p W w') := Lib.hid HS.out
    clear HS hZ
    go_enter Tryz.func173, Tryz.ntmps173
    go_wp2_with fail
    refine HS1.out.mono ?_
    rintro e w2 ⟨he, b2⟩
    unfold thr at he
    subst he
    (try go_wp2_with fail)
    rw [HZ.out]
    simp only [bodyPost]
    exact ⟨trivial, rfl, HM.out.low.trans b2⟩
  | ok xx =>
    obtain ⟨l, j1⟩ := xx
    have HS1 : Hid (Calls Tryz.prog 174 #[.pointer (some ⟨p, 0, none⟩)] W fun e w' => e = .returned (.string (mkB l)) ∧ RdB w' p s j1 op v1 M ∧ Fr p v1 v1 W w') := Lib.hid HS.out
    obtain ⟨⟨j1a, j1b⟩, hl4⟩ := HSK.out l j1 rfl
    simp only [Rs.bind_ok] at hZ
    have hnm : (mkB l).size = l.length := mkB_size l
    have hnil : l = [] ↔ mkB l = ⟨#[]⟩ := ⟨fun e => by rw [e]; rfl, fun e => by rw [e] at hnm; exact List.eq_nil_of_length_eq_zero hnm.symm⟩
    obtain ⟨nm, hnme⟩ : ∃ nm, nm = mkB l := ⟨_, rfl⟩
    rw [← hnme] at HS1 hZ hnm hnil
    clear HS HSK hnme
    by_cases hl : l = []
    · have HZ : Hid (Z = .bad 8) := Lib.hid (by rw [hZ, if_pos hl]; rfl)
      obtain rfl := hnil.1 hl
      clear hZ hnil hl hnm hl4
      go_enter Tryz.func173, Tryz.ntmps173
      go_wp2_with fail
      refine HS1.out.mono ?_
      rintro e w2 ⟨rfl, r2, f2⟩
      have HB2 := Lib.hid (HM.out.low.trans (f2.below HR.out.far (Nat.le_of_lt HLT.out)))
      clear r2 f2
      go_wp2_with fail
      rw [HZ.out]
      simp only [bodyPost]
      exact ⟨trivial, rfl, HB2.out⟩
    · rw [if_neg hl] at hZ
      have hem : nm.toList.isEmpty = false := em_no (by cases e : em nm with | true => exact absurd (hnil.2 (em_yes e)) hl | false => rfl)
      have hkey : keyOf Tryz.prog 9 (.string nm) = some (keyL nm) := keyOf_string_mk Tryz.underlying9 (by unfold maxLen; omega)
      have HKEY := Lib.hid hkey
      have hh := has_setN ns nm
      obtain ⟨t, ht⟩ : ∃ t, t = ns.any (fun y => decide (y = nm)) := ⟨_, rfl⟩
      rw [← ht] at hh hZ
      have HH := Lib.hid hh
      have BASE := Lib.hid (fun (V : World) (h : V.ownsMap Tryz.prog 9 (unitElem (H := Unit)) bm (n + 1) ((setN ns).put (keyL nm) (.agg []))) => (show Met V bm (n + 1) (nm :: ns) by unfold Met; rw [setN_cons]; exact h))
      have hn6 : n ≤ 100000 := by have := HN.out; omega
      clear hnil hl hkey hh ht hnm hl4
      cases t with
      | true =>
        have HZ : Hid (Z = .bad 42) := Lib.hid (by rw [hZ, if_pos rfl]; rfl)
        clear hZ BASE
        go_enter Tryz.func173, Tryz.ntmps173
        go_wp2_with fail
        refine HS1.out.mono ?_
        rintro e w2 ⟨rfl, r2, f2⟩
        have HM2 := Lib.hid (HM.out.step HR.out r2 f2 (Nat.le_of_lt j1a) HM.out.hk HM.out.hM ⟨HM.out.cnt.1, by have h := HM.out.cnt.2; dsimp only at h; omega⟩)
        have HOWN := Lib.hid (met_same HMT.out ((HO.out.step f2 HB.out).2 bm (by simp)))
        have e4 : w2.cell? ⟨b4, 0, none⟩ = some (.map (some bm)) := by simp [World.cell?, HM2.out.e4]
        clear r2 f2
        go_wp2_with (at_lookup; refine wpList_lookup_own_unit _ rfl _ _ 98 rfl 9 68 law9 Tryz.underlying98 (zeroU _) bm n _ rfl HOWN.out _ _ rfl HKEY.out ?_; rw [HH.out])
        rw [HZ.out]
        simp only [bodyPost]
        exact ⟨trivial, rfl, HM2.out.low.alloc (by have := HM2.out.low.size; have := HM2.out.rd; obtain ⟨v9, r9, o9⟩ := this; exact Nat.le_of_lt r9.lt) _⟩
      | false =>
        have HZ := Lib.hid (hZ.trans (by rw [if_neg (by decide)]))
        clear hZ
        go_enter Tryz.func173, Tryz.ntmps173
        go_wp2_with fail
        refine HS1.out.mono ?_
        rintro e w2 ⟨rfl, r2, f2⟩
        have HM2 := Lib.hid (HM.out.step HR.out r2 f2 (Nat.le_of_lt j1a) HM.out.hk HM.out.hM ⟨HM.out.cnt.1, by have h := HM.out.cnt.2; dsimp only at h; omega⟩)
        have HOWN := Lib.hid (met_same HMT.out ((HO.out.step f2 HB.out).2 bm (by simp)))
        have e4 : w2.cell? ⟨b4, 0, none⟩ = some (.map (some bm)) := by simp [World.cell?, HM2.out.e4]
        have e4a : (w2.alloc (.cells #[] 68)).cell? ⟨b4, 0, none⟩ = some (.map (some bm)) := (World.grownBy_alloc w2 (.cells #[] 68) none).cell e4 (by simp)
        have e2 : w2.cell? ⟨b2, 0, none⟩ = some (.pointer (some ⟨p, 0, none⟩)) := by simp [World.cell?, HM2.out.e2]
        clear r2 f2
        go_wp2_with (first
          | (at_lookup; refine wpList_lookup_own_unit _ rfl _ _ 98 rfl 9 68 law9 Tryz.underlying98 (zeroU _) bm n _ rfl HOWN.out _ _ rfl HKEY.out ?_; rw [HH.out])
          | (at_mapUpdate; refine wpList_mapUpdate_own _ rfl _ _ _ 98 rfl 9 68 law9 Tryz.underlying98 (unitElem (H := Unit)) bm n _ rfl (HOWN.out.alloc _) (by unfold maxLen; omega) _ _ _ rfl rfl HKEY.out _ [] unitElem_mk ?_; intro w4 hown1 hg1; have HM4 : Hid (OMem s p op k b2 b3 b4 bm v w w3 w4 j1 (nm :: ns, M)) := Lib.hid (HM2.out.named ((World.grownBy_alloc w2 _ _).trans hg1) (BASE.out _ hown1) (by have := HN.out; omega)); clear hown1 hg1; have e2 : w4.cell? ⟨b2, 0, none⟩ = some (.pointer (some ⟨p, 0, none⟩)) := by simp [World.cell?, HM4.out.e2]))
        obtain ⟨v4, r4, o4⟩ := HM4.out.rd
        dsimp only at r4
        have g1 := bl_ge s j1
        have g2 : bl s j1 ≤ s.size := bl_le j1b
        refine (blanks_any w4 r4 (by omega) (by omega)).mono ?_
        rintro e w5 ⟨rfl, r5, f5⟩
        have HM5 := Lib.hid (HM4.out.step r4 r5 f5 g1 HM4.out.hk HM4.out.hM (cnt_up HM4.out.cnt g1))
        have HR5 := Lib.hid r5
        obtain ⟨j2, hj2⟩ : ∃ j2, j2 = bl s j1 := ⟨_, rfl⟩
        rw [← hj2] at HM5 HR5 HZ g1 g2
        have e2 : w5.cell? ⟨b2, 0, none⟩ = some (.pointer (some ⟨p, 0, none⟩)) := by simp [World.cell?, HM5.out.e2]
        clear hj2 r4 o4 r5 f5
        by_cases hc : byt s j2 = 58
        · have hin : j2 < s.size := byt_in (by rw [hc]; decide)
          have HZ2 : Hid (Z = ((valM s f nm op (bl s (j2 + 1)) M).bind fun y => .ok ((y.1, incC y.2 k), nm :: ns)).bind fun y => .ok (y.1.1, (y.2, y.1.2))) := Lib.hid (by rw [HZ.out]; unfold wordM; rw [if_pos hc]; rfl)
          have HT := Lib.hid (take_ok 58 w5 HR5.out (by omega) (by omega) hc)
          clear HZ hc
          go_wp2_with fail
          refine HT.out.mono ?_
          rintro e w6 ⟨rfl, r6, f6⟩
          have HM6 := Lib.hid (HM5.out.step HR5.out r6 f6 (Nat.le_succ _) HM5.out.hk HM5.out.hM (cnt_up HM5.out.cnt (Nat.le_succ _)))
          have HR6 := Lib.hid r6
          have e2 : w6.cell? ⟨b2, 0, none⟩ = some (.pointer (some ⟨p, 0, none⟩)) := by simp [World.cell?, HM6.out.e2]
          have k1 := bl_ge s (j2 + 1)
          have k2 : bl s (j2 + 1) ≤ s.size := bl_le (by omega)
          have HBK := Lib.hid (blanks_any w6 HR6.out (by omega) (by omega))
          obtain ⟨j3, hj3⟩ : ∃ j3, j3 = bl s (j2 + 1) := ⟨_, rfl⟩
          rw [← hj3] at HZ2 HBK k1 k2
          clear hj3 r6 f6
          go_wp2_with fail
          refine HBK.out.mono ?_
          rintro e w7 ⟨rfl, r7, f7⟩
          have HM7 := Lib.hid (HM6.out.step HR6.out r7 f7 k1 HM6.out.hk HM6.out.hM (cnt_up HM6.out.cnt k1))
          have HR7 := Lib.hid r7
          have e2 : w7.cell? ⟨b2, 0, none⟩ = some (.pointer (some ⟨p, 0, none⟩)) := by simp [World.cell?, HM7.out.e2]
          have HV := Lib.hid (HVC.out p j3 op _ M nm w7 HOP.out HR7.out HM7.out.lim k2 HM7.out.hM)
          have HOK := Lib.hid (fun j N => valM_ok s f op nm j3 M j N k2 HM7.out.hM)
          dsimp only at HOK
          obtain ⟨Y, hY⟩ : ∃ Y, Y = valM s f nm op j3 M := ⟨_, rfl⟩
          rw [← hY] at HV HOK HZ2
          clear hY r7 f7
          go_wp2_with fail
          cases Y with
          | bad m =>
            have HZ3 : Hid (Z = .bad m) := Lib.hid HZ2.out
            have HV1 : Hid (Calls Tryz.prog 154 #[.pointer (some ⟨p, 0, none⟩), .string nm] w7 fun e w' => e = thr m ∧ Below p w7 w') := Lib.hid HV.out
            refine HV1.out.mono ?_
            rintro e w8 ⟨he, b8⟩
            unfold thr at he
            subst he
            (try go_wp2_with fail)
            rw [HZ3.out]
            simp only [bodyPost]
            exact ⟨trivial, rfl, HM7.out.low.trans b8⟩
          | ok y =>
            obtain ⟨j, N⟩ := y
            have HZ3 : Hid (Z = .ok (j, (nm :: ns, incC N k))) := Lib.hid HZ2.out
            have HV1 : Hid (Calls Tryz.prog 154 #[.pointer (some ⟨p, 0, none⟩), .string nm] w7 fun e w' => e = .returned (.tuple #[]) ∧ ∃ v', RdB w' p s j op v' N ∧ Fr p _ v' w7 w') := Lib.hid HV.out
            obtain ⟨q1, q2, q3, q4, q5⟩ := HOK.out j N rfl
            have hkM := HM7.out.hk
            dsimp only at hkM
            have hgk := gl_take q5 hkM
            have hkN : k < N.length := by omega
            have hcn := HM7.out.cnt
            dsimp only at hcn
            rw [← hgk] at hcn
            have hc1 : 0 ≤ (gl N k).m := hcn.1
            have hc2 : (gl N k).m ≤ 100000000 := by omega
            have hc3 : (gl N k).m < j := by omega
            have hNpos : 0 < N.length := by omega
            clear HV HOK q3 q5 hgk hcn hkM HZ2
            refine HV1.out.mono ?_
            rintro e w8 ⟨rfl, v8, r8, f8⟩
            have HM8 := Lib.hid (HM7.out.step HR7.out r8 f8 (Nat.le_of_lt q1) hkN (by assumption) ⟨hc1, Int.le_of_lt hc3⟩)
            obtain ⟨q, cap, rfl, hpq, _⟩ := r8.addr hNpos
            have hki2 : (k : Int) < N.length := by omega
            have hk0 : (0 : Int) ≤ k := by omega
            have HR8 := Lib.hid r8
            have e2 : w8.cell? ⟨b2, 0, none⟩ = some (.pointer (some ⟨p, 0, none⟩)) := by simp [World.cell?, HM8.out.e2]
            have e3 : w8.cell? ⟨b3, 0, none⟩ = some (.int .i64 k) := by simp [World.cell?, HM8.out.e3]
            have c3 := r8.c3
            have d4 := (r8.cells hkN).2.2.2.2
            have z4 := r8.cellz (k * 5 + 4)
            have R3 := Lib.hid (r8.setF hpq hkN 4 (by decide) (.int .i64 ((gl N k).m + 1)) { gl N k with m := (gl N k).m + 1 } rfl)
            obtain ⟨m, hm⟩ : ∃ m, m = (gl N k).m := ⟨_, rfl⟩
            rw [← hm] at d4 hc1 hc2 hc3 R3
            have HME := Lib.hid hm
            clear r8 f8 hm
            go_wp2_with fail
            go_region
            all_goals
              go_wp2_with fail
              go_end0
              rw [HZ3.out]
              have R4 := R3.out.1.dr (w' := (w8.setCell ⟨q, k * 5 + 4, none⟩ (.int .i64 (m + 1))).drew) ⟨rfl, rfl, rfl, rfl⟩
              refine ⟨rfl, ?_⟩
              rw [HME.out] at R4 ⊢
              have R5 := R3.out
              rw [HME.out] at R5
              have hg := gl_incC hkN
              dsimp only
              rw [incC_eq] at hg ⊢
              exact HM8.out.step HR8.out R4.1 (R5.2.trans R4.2) (Nat.le_refl _) (by rw [List.length_set]; exact hkN) (by rw [List.length_set]; exact HM8.out.hM) (by rw [hg]; dsimp only; rw [← HME.out]; omega)
        · have HZ2 : Hid (Z = .bad 40) := Lib.hid (HZ.out.trans (by unfold wordM; rw [if_neg hc]; rfl))
          have HT := Lib.hid (take_bad 58 w5 HR5.out (by omega) (by omega) hc)
          clear HZ hc
          go_wp2_with fail
          refine HT.out.mono ?_
          rintro e w6 ⟨he, d6⟩
          unfold thr at he
          subst he
          (try go_wp2_with fail)
          rw [HZ2.out]
          simp only [bodyPost]
          exact ⟨trivial, rfl, HM5.out.low.trans (d6.below p)⟩
end Go.Proofs.YtmkkckhfdafjnaaGreatDoor

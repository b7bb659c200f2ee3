import Derived.Test.YtfphejndbnmfeaaDoorD30
namespace Go.Proofs.YtfphejndbnmfeaaDoor
open Go.RowKit
set_option maxRecDepth 20000 in
set_option maxHeartbeats 16000000 in
theorem rparse_any (s : ByteArray) (w : World) (hs : s.size ≤ maxLen) :
    Calls Tryd.prog 19 #[.string s] w fun e w' => e = .returned (.tuple #[.agg #[.int .i64 (pS s), .int .i64 (pN s)], .int .i64 (pE s)]) ∧ Below w.heap.size w w' := by
  have HS := Lib.hid hs
  have hs2 := hs
  unfold maxLen at hs2
  have NY := Lib.hid (fun W => rnum_any s 0 4 W hs (by omega) (by omega) (.inl (by omega)))
  obtain ⟨Y, hY⟩ : ∃ x : Int, x = numR s 0 4 := ⟨_, rfl⟩
  have RY := Lib.hid hY
  rw [← hY] at NY
  have rY : -1 ≤ numR s 0 4 ∧ numR s 0 4 ≤ 9999 := by
    unfold numR
    split
    · have := numv_lt s 0 4 (by assumption); omega
    · omega
  rw [← hY] at rY
  obtain ⟨rY1, rY2⟩ := rY
  have NM := Lib.hid (fun W => rnum_any s 5 2 W hs (by omega) (by omega) (.inl (by omega)))
  obtain ⟨M, hM⟩ : ∃ x : Int, x = numR s 5 2 := ⟨_, rfl⟩
  have RM := Lib.hid hM
  rw [← hM] at NM
  have rM := numR_two s 5
  rw [← hM] at rM
  obtain ⟨rM1, rM2⟩ := rM
  have ND := Lib.hid (fun W => rnum_any s 8 2 W hs (by omega) (by omega) (.inl (by omega)))
  obtain ⟨D, hD⟩ : ∃ x : Int, x = numR s 8 2 := ⟨_, rfl⟩
  have RD := Lib.hid hD
  rw [← hD] at ND
  have rD := numR_two s 8
  rw [← hD] at rD
  obtain ⟨rD1, rD2⟩ := rD
  have NH := Lib.hid (fun W => rnum_any s 11 2 W hs (by omega) (by omega) (.inl (by omega)))
  obtain ⟨H, hH⟩ : ∃ x : Int, x = numR s 11 2 := ⟨_, rfl⟩
  have RH := Lib.hid hH
  rw [← hH] at NH
  have rH := numR_two s 11
  rw [← hH] at rH
  obtain ⟨rH1, rH2⟩ := rH
  have NI := Lib.hid (fun W => rnum_any s 14 2 W hs (by omega) (by omega) (.inl (by omega)))
  obtain ⟨I, hI⟩ : ∃ x : Int, x = numR s 14 2 := ⟨_, rfl⟩
  have RI := Lib.hid hI
  rw [← hI] at NI
  have rI := numR_two s 14
  rw [← hI] at rI
  obtain ⟨rI1, rI2⟩ := rI
  have NE := Lib.hid (fun W => rnum_any s 17 2 W hs (by omega) (by omega) (.inl (by omega)))
  obtain ⟨E, hE⟩ : ∃ x : Int, x = numR s 17 2 := ⟨_, rfl⟩
  have RE := Lib.hid hE
  rw [← hE] at NE
  have rE := numR_two s 17
  rw [← hE] at rE
  obtain ⟨rE1, rE2⟩ := rE
  have HBE : Hid (okB s = (decide (0 ≤ Y ∧ Y ≤ 9999) && decide (1 ≤ M ∧ M ≤ 12) && decide (1 ≤ D ∧ D ≤ (dim (numv s 0 4) (numv s 5 2) : Nat)) && decide (0 ≤ H ∧ H ≤ 23) && decide (0 ≤ I ∧ I ≤ 59) && decide (0 ≤ E ∧ E ≤ 59))) := Lib.hid (by
    unfold okB
    rw [okN_numR, okN_numR, okN_numR, okN_numR, okN_numR, okN_numR, RY.out, RM.out, RD.out, RH.out, RI.out, RE.out]; rfl)
  clear hs hY hM hD hH hI hE
  go_enter Tryd.func19, Tryd.ntmps19
  go_wp2_with fail
  obtain ⟨w1, hw1⟩ : ∃ w1, w1 = w.alloc (.cells #[.int .i64 0, .int .i64 0] 23) := ⟨_, rfl⟩
  have D1 : Hid (FBox w1 w.heap.size 0 0) := Lib.hid (by rw [hw1]; exact FBox.new w 0 0)
  have B1 : Hid (Below w.heap.size w w1) := Lib.hid (by rw [hw1]; exact (Below.refl _ w).alloc (Nat.le_refl _) _)
  rw [← hw1]
  clear hw1
  refine (NY.out _).mono ?_
  rintro e0 w0 ⟨rfl, rfl⟩
  go_wp2_with fail
  refine (NM.out _).mono ?_
  rintro e0 w0 ⟨rfl, rfl⟩
  go_wp2_with fail
  refine (ND.out _).mono ?_
  rintro e0 w0 ⟨rfl, rfl⟩
  go_wp2_with fail
  refine (NH.out _).mono ?_
  rintro e0 w0 ⟨rfl, rfl⟩
  go_wp2_with fail
  refine (NI.out _).mono ?_
  rintro e0 w0 ⟨rfl, rfl⟩
  go_wp2_with fail
  refine (NE.out _).mono ?_
  rintro e0 w0 ⟨rfl, rfl⟩
  go_upto_region 2 with fail
  go_cut [61] (fun v wx => v = .bool (!okA s) ∧ w1 = wx)
  case first =>
    as_aux_lemma =>
      by_cases hz : s.size < 20
      · have HA : Hid (okA s = false) := Lib.hid (by unfold okA; rw [decide_eq_false (show ¬ 20 ≤ s.size by omega)]; rfl)
        have q1 : (s.size : Int) < 20 := by omega
        clear hz
        go_wp2_with fail
        go_meet
        exact ⟨by rw [HA.out]; rfl, rfl⟩
      have hz20 : 20 ≤ s.size := by omega
      have q1 : decide ((s.size : Int) < 20) = false := decide_eq_false (by omega)
      have HZ : Hid (decide (20 ≤ s.size) = true) := Lib.hid (decide_eq_true hz20)
      clear hz
      obtain ⟨x4, hx4⟩ : ∃ x, x = bt s 4 := ⟨_, rfl⟩
      have i4 : ∀ h : 4 < s.size, (s[4].toNat : Int) = x4 := fun h => (bt_eq s 4 h).trans hx4.symm
      have X4 := Lib.hid hx4
      clear hx4
      obtain ⟨x7, hx7⟩ : ∃ x, x = bt s 7 := ⟨_, rfl⟩
      have i7 : ∀ h : 7 < s.size, (s[7].toNat : Int) = x7 := fun h => (bt_eq s 7 h).trans hx7.symm
      have X7 := Lib.hid hx7
      clear hx7
      obtain ⟨x10, hx10⟩ : ∃ x, x = bt s 10 := ⟨_, rfl⟩
      have i10 : ∀ h : 10 < s.size, (s[10].toNat : Int) = x10 := fun h => (bt_eq s 10 h).trans hx10.symm
      have X10 := Lib.hid hx10
      clear hx10
      obtain ⟨x13, hx13⟩ : ∃ x, x = bt s 13 := ⟨_, rfl⟩
      have i13 : ∀ h : 13 < s.size, (s[13].toNat : Int) = x13 := fun h => (bt_eq s 13 h).trans hx13.symm
      have X13 := Lib.hid hx13
      clear hx13
      obtain ⟨x16, hx16⟩ : ∃ x, x = bt s 16 := ⟨_, rfl⟩
      have i16 : ∀ h : 16 < s.size, (s[16].toNat : Int) = x16 := fun h => (bt_eq s 16 h).trans hx16.symm
      have X16 := Lib.hid hx16
      clear hx16
      by_cases c4 : x4 = 45
      case neg =>
        have HA : Hid (okA s = false) := Lib.hid (by unfold okA; rw [show (bt s 4 == 45) = false from beq_eq_false_iff_ne.2 (by rw [← X4.out]; exact c4)]; simp)
        have g1 : (x4 == 45) = false := beq_eq_false_iff_ne.2 c4
        have g2 : (x4 != 45) = true := by rw [bne, g1]; rfl
        clear c4
        go_wp2_with fail
        go_meet
        exact ⟨by rw [HA.out]; rfl, rfl⟩
      subst c4
      by_cases c7 : x7 = 45
      case neg =>
        have HA : Hid (okA s = false) := Lib.hid (by unfold okA; rw [show (bt s 7 == 45) = false from beq_eq_false_iff_ne.2 (by rw [← X7.out]; exact c7)]; simp)
        have g1 : (x7 == 45) = false := beq_eq_false_iff_ne.2 c7
        have g2 : (x7 != 45) = true := by rw [bne, g1]; rfl
        clear c7
        go_wp2_with fail
        go_meet
        exact ⟨by rw [HA.out]; rfl, rfl⟩
      subst c7
      by_cases c10 : x10 = 84
      · subst c10
        by_cases c13 : x13 = 58
        case neg =>
          have HA : Hid (okA s = false) := Lib.hid (by unfold okA; rw [show (bt s 13 == 58) = false from beq_eq_false_iff_ne.2 (by rw [← X13.out]; exact c13)]; simp)
          have g1 : (x13 == 58) = false := beq_eq_false_iff_ne.2 c13
          have g2 : (x13 != 58) = true := by rw [bne, g1]; rfl
          clear c13
          go_wp2_with fail
          go_meet
          exact ⟨by rw [HA.out]; rfl, rfl⟩
        subst c13
        by_cases c16 : x16 = 58
        case neg =>
          have HA : Hid (okA s = false) := Lib.hid (by unfold okA; rw [show (bt s 16 == 58) = false from beq_eq_false_iff_ne.2 (by rw [← X16.out]; exact c16)]; simp)
          have g1 : (x16 == 58) = false := beq_eq_false_iff_ne.2 c16
          have g2 : (x16 != 58) = true := by rw [bne, g1]; rfl
          clear c16
          go_wp2_with fail
          go_meet
          exact ⟨by rw [HA.out]; rfl, rfl⟩
        subst c16
        have HA : Hid (okA s = true) := Lib.hid (by unfold okA okMark; rw [HZ.out, ← X4.out, ← X7.out, ← X10.out, ← X13.out, ← X16.out]; rfl)
        go_wp2_with fail
        go_meet
        exact ⟨by rw [HA.out]; rfl, rfl⟩
      by_cases c11 : x10 = 116
      · subst c11
        by_cases c13 : x13 = 58
        case neg =>
          have HA : Hid (okA s = false) := Lib.hid (by unfold okA; rw [show (bt s 13 == 58) = false from beq_eq_false_iff_ne.2 (by rw [← X13.out]; exact c13)]; simp)
          have g1 : (x13 == 58) = false := beq_eq_false_iff_ne.2 c13
          have g2 : (x13 != 58) = true := by rw [bne, g1]; rfl
          clear c13
          go_wp2_with fail
          go_meet
          exact ⟨by rw [HA.out]; rfl, rfl⟩
        subst c13
        by_cases c16 : x16 = 58
        case neg =>
          have HA : Hid (okA s = false) := Lib.hid (by unfold okA; rw [show (bt s 16 == 58) = false from beq_eq_false_iff_ne.2 (by rw [← X16.out]; exact c16)]; simp)
          have g1 : (x16 == 58) = false := beq_eq_false_iff_ne.2 c16
          have g2 : (x16 != 58) = true := by rw [bne, g1]; rfl
          clear c16
          go_wp2_with fail
          go_meet
          exact ⟨by rw [HA.out]; rfl, rfl⟩
        subst c16
        have HA : Hid (okA s = true) := Lib.hid (by unfold okA okMark; rw [HZ.out, ← X4.out, ← X7.out, ← X10.out, ← X13.out, ← X16.out]; rfl)
        go_wp2_with fail
        go_meet
        exact ⟨by rw [HA.out]; rfl, rfl⟩
      have HA : Hid (okA s = false) := Lib.hid (by unfold okA okMark; rw [show (bt s 10 == 84) = false from beq_eq_false_iff_ne.2 (by rw [← X10.out]; exact c10), show (bt s 10 == 116) = false from beq_eq_false_iff_ne.2 (by rw [← X10.out]; exact c11)]; simp)
      have g1 : (x10 == 84) = false := beq_eq_false_iff_ne.2 c10
      have g2 : (x10 != 84) = true := by rw [bne, g1]; rfl
      have g3 : (x10 == 116) = false := beq_eq_false_iff_ne.2 c11
      have g4 : (x10 != 116) = true := by rw [bne, g3]; rfl
      clear c10 c11
      go_wp2_with fail
      go_meet
      exact ⟨by rw [HA.out]; rfl, rfl⟩
  case rest =>
    obtain ⟨rfl, rfl⟩ := hcut
    cases hAA : okA s with
    | false =>
      have HPO := Lib.hid (no_A hAA)
      have HBW := Lib.hid B1.out
      obtain ⟨⟨d0, d1, -⟩, f0, f1⟩ := D1.out
      clear hAA
      go_wp2_with fail
      refine ret19 (N := w.heap.size) (a := 0) (b := 0) (c := 120) (by rfl) (by rfl) ((World.cell?_setCell_other _ _ _ _ (by simp)).trans (World.cell?_setCell_same _ _ _ d0)) (World.cell?_setCell_same _ _ _ ((World.cell?_setCell_other _ _ _ _ (by simp)).trans d1)) ?_
      rw [(p_none2 HPO.out).1, (p_none2 HPO.out).2.1, (p_none2 HPO.out).2.2]
      exact ⟨rfl, (HBW.out.setCell (Nat.le_refl _) _).setCell (Nat.le_refl _) _⟩
    | true =>
      have HA := Lib.hid hAA
      clear hAA
      go_upto_region 4 with fail
      go_cut [107] (fun v wx => v = .bool (!okB s) ∧ w1 = wx)
      case first =>
        as_aux_lemma =>
          by_cases a : Y < 0
          · have HB : Hid (okB s = false) := Lib.hid (by rw [HBE.out, show decide (0 ≤ Y ∧ Y ≤ 9999) = false from decide_eq_false (by omega)]; simp)
            go_wp2_with fail
            go_meet
            exact ⟨by rw [HB.out]; rfl, rfl⟩
          obtain ⟨y, rfl⟩ := Int.eq_ofNat_of_zero_le (show 0 ≤ Y by omega)
          have ey : numv s 0 4 = y := numR_val RY.out
          clear a
          by_cases a0 : M < 1
          · have HB : Hid (okB s = false) := Lib.hid (by rw [HBE.out, show decide (1 ≤ M ∧ M ≤ 12) = false from decide_eq_false (by omega)]; simp)
            go_wp2_with fail
            go_meet
            exact ⟨by rw [HB.out]; rfl, rfl⟩
          have k1 : decide (M < 1) = false := decide_eq_false a0
          by_cases a : 12 < M
          · have HB : Hid (okB s = false) := Lib.hid (by rw [HBE.out, show decide (1 ≤ M ∧ M ≤ 12) = false from decide_eq_false (by omega)]; simp)
            go_wp2_with fail
            go_meet
            exact ⟨by rw [HB.out]; rfl, rfl⟩
          have k2 : decide (12 < M) = false := decide_eq_false a
          obtain ⟨m, rfl⟩ := Int.eq_ofNat_of_zero_le (show 0 ≤ M by omega)
          have em : numv s 5 2 = m := numR_val RM.out
          have hm1 : 1 ≤ m := by omega
          have hm12 : m ≤ 12 := by omega
          clear a a0
          by_cases a : D < 1
          · have HB : Hid (okB s = false) := Lib.hid (by rw [HBE.out, show decide (1 ≤ D ∧ D ≤ (dim (numv s 0 4) (numv s 5 2) : Nat)) = false from decide_eq_false (by omega)]; simp)
            go_wp2_with fail
            go_meet
            exact ⟨by rw [HB.out]; rfl, rfl⟩
          have k3 : decide (D < 1) = false := decide_eq_false a
          obtain ⟨d, rfl⟩ := Int.eq_ofNat_of_zero_le (show 0 ≤ D by omega)
          have hd1 : 1 ≤ d := by omega
          clear a
          have HMD := Lib.hid (rdays_any y m w1 (by omega) hm1 hm12)
          obtain ⟨kk, hkk⟩ : ∃ kk, kk = dim y m := ⟨_, rfl⟩
          have HKK := Lib.hid hkk
          have hkd : dim (numv s 0 4) (numv s 5 2) = kk := by rw [ey, em, hkk]
          rw [hkd] at HBE
          rw [← hkk] at HMD
          clear hkk hkd ey em
          by_cases a : kk < d
          · have HB : Hid (okB s = false) := Lib.hid (by rw [HBE.out, show decide ((1 : Int) ≤ (d : Int) ∧ (d : Int) ≤ (kk : Nat)) = false from decide_eq_false (by omega)]; simp)
            go_wp2_with fail
            refine HMD.out.mono ?_
            rintro e3 w3 ⟨rfl, rfl⟩
            go_wp2_with fail
            go_meet
            exact ⟨by rw [HB.out]; rfl, rfl⟩
          have k4 : decide (kk < d) = false := decide_eq_false a
          have hkd2 : d ≤ kk := by omega
          clear a
          by_cases a : H < 0
          · have HB : Hid (okB s = false) := Lib.hid (by rw [HBE.out, show decide (0 ≤ H ∧ H ≤ 23) = false from decide_eq_false (by omega)]; simp)
            go_wp2_with fail
            refine HMD.out.mono ?_
            rintro e3 w3 ⟨rfl, rfl⟩
            go_wp2_with fail
            go_meet
            exact ⟨by rw [HB.out]; rfl, rfl⟩
          have lH : decide (H < 0) = false := decide_eq_false a
          have lH0 : 0 ≤ H := by omega
          clear a
          by_cases a : 23 < H
          · have HB : Hid (okB s = false) := Lib.hid (by rw [HBE.out, show decide (0 ≤ H ∧ H ≤ 23) = false from decide_eq_false (by omega)]; simp)
            go_wp2_with fail
            refine HMD.out.mono ?_
            rintro e3 w3 ⟨rfl, rfl⟩
            go_wp2_with fail
            go_meet
            exact ⟨by rw [HB.out]; rfl, rfl⟩
          have uH : decide (23 < H) = false := decide_eq_false a
          have uH0 : H ≤ 23 := by omega
          clear a
          by_cases a : I < 0
          · have HB : Hid (okB s = false) := Lib.hid (by rw [HBE.out, show decide (0 ≤ I ∧ I ≤ 59) = false from decide_eq_false (by omega)]; simp)
            go_wp2_with fail
            refine HMD.out.mono ?_
            rintro e3 w3 ⟨rfl, rfl⟩
            go_wp2_with fail
            go_meet
            exact ⟨by rw [HB.out]; rfl, rfl⟩
          have lI : decide (I < 0) = false := decide_eq_false a
          have lI0 : 0 ≤ I := by omega
          clear a
          by_cases a : 59 < I
          · have HB : Hid (okB s = false) := Lib.hid (by rw [HBE.out, show decide (0 ≤ I ∧ I ≤ 59) = false from decide_eq_false (by omega)]; simp)
            go_wp2_with fail
            refine HMD.out.mono ?_
            rintro e3 w3 ⟨rfl, rfl⟩
            go_wp2_with fail
            go_meet
            exact ⟨by rw [HB.out]; rfl, rfl⟩
          have uI : decide (59 < I) = false := decide_eq_false a
          have uI0 : I ≤ 59 := by omega
          clear a
          by_cases a : E < 0
          · have HB : Hid (okB s = false) := Lib.hid (by rw [HBE.out, show decide (0 ≤ E ∧ E ≤ 59) = false from decide_eq_false (by omega)]; simp)
            go_wp2_with fail
            refine HMD.out.mono ?_
            rintro e3 w3 ⟨rfl, rfl⟩
            go_wp2_with fail
            go_meet
            exact ⟨by rw [HB.out]; rfl, rfl⟩
          have lE : decide (E < 0) = false := decide_eq_false a
          have lE0 : 0 ≤ E := by omega
          clear a
          by_cases a : 59 < E
          · have HB : Hid (okB s = false) := Lib.hid (by rw [HBE.out, show decide (0 ≤ E ∧ E ≤ 59) = false from decide_eq_false (by omega)]; simp)
            go_wp2_with fail
            refine HMD.out.mono ?_
            rintro e3 w3 ⟨rfl, rfl⟩
            go_wp2_with fail
            go_meet
            exact ⟨by rw [HB.out]; rfl, rfl⟩
          have uE : decide (59 < E) = false := decide_eq_false a
          have uE0 : E ≤ 59 := by omega
          clear a
          have HB : Hid (okB s = true) := Lib.hid (by
            rw [HBE.out, decide_eq_true (show (0 : Int) ≤ (y : Int) ∧ (y : Int) ≤ 9999 by omega), decide_eq_true (show (1 : Int) ≤ (m : Int) ∧ (m : Int) ≤ 12 by omega), decide_eq_true (show (1 : Int) ≤ (d : Int) ∧ (d : Int) ≤ (kk : Nat) by omega), decide_eq_true (show 0 ≤ H ∧ H ≤ 23 by omega), decide_eq_true (show 0 ≤ I ∧ I ≤ 59 by omega), decide_eq_true (show 0 ≤ E ∧ E ≤ 59 by omega)]; rfl)
          go_wp2_with fail
          refine HMD.out.mono ?_
          rintro e3 w3 ⟨rfl, rfl⟩
          go_wp2_with fail
          go_meet
          exact ⟨by rw [HB.out]; rfl, rfl⟩
      case rest =>
        obtain ⟨rfl, rfl⟩ := hcut
        cases hBB : okB s with
        | false =>
          have HPO := Lib.hid (no_B hBB)
          have HBW := Lib.hid B1.out
          obtain ⟨⟨d0, d1, -⟩, f0, f1⟩ := D1.out
          clear hBB
          go_wp2_with fail
          refine ret19 (N := w.heap.size) (a := 0) (b := 0) (c := 120) (by rfl) (by rfl) ((World.cell?_setCell_other _ _ _ _ (by simp)).trans (World.cell?_setCell_same _ _ _ d0)) (World.cell?_setCell_same _ _ _ ((World.cell?_setCell_other _ _ _ _ (by simp)).trans d1)) ?_
          rw [(p_none2 HPO.out).1, (p_none2 HPO.out).2.1, (p_none2 HPO.out).2.2]
          exact ⟨rfl, (HBW.out.setCell (Nat.le_refl _) _).setCell (Nat.le_refl _) _⟩
        | true =>
          have HB := Lib.hid hBB
          have hb := hBB
          rw [HBE.out] at hb
          simp only [Bool.and_eq_true, decide_eq_true_iff] at hb
          obtain ⟨⟨⟨⟨⟨b1, b2⟩, b3⟩, b4⟩, b5⟩, b6⟩ := hb
          obtain ⟨y, rfl⟩ := Int.eq_ofNat_of_zero_le b1.1
          obtain ⟨m, rfl⟩ := Int.eq_ofNat_of_zero_le (show 0 ≤ M by omega)
          obtain ⟨d, rfl⟩ := Int.eq_ofNat_of_zero_le (show 0 ≤ D by omega)
          obtain ⟨h, rfl⟩ := Int.eq_ofNat_of_zero_le b4.1
          obtain ⟨mi, rfl⟩ := Int.eq_ofNat_of_zero_le b5.1
          obtain ⟨se, rfl⟩ := Int.eq_ofNat_of_zero_le b6.1
          have ey : numv s 0 4 = y := numR_val RY.out
          have em : numv s 5 2 = m := numR_val RM.out
          have ed : numv s 8 2 = d := numR_val RD.out
          have eh : numv s 11 2 = h := numR_val RH.out
          have ei : numv s 14 2 = mi := numR_val RI.out
          have ee : numv s 17 2 = se := numR_val RE.out
          have HAS : Hid (aheadS s = aheadD y m d) := Lib.hid (by unfold aheadS; rw [ey, em, ed])
          have HTS : Hid (timeS s = 3600 * h + 60 * mi + se) := Lib.hid (by unfold timeS; rw [eh, ei, ee])
          have hy : y < 10000 := by omega
          have hm1 : 1 ≤ m := by omega
          have hm12 : m ≤ 12 := by omega
          have hd1 : 1 ≤ d := by omega
          have hd31 : d ≤ 31 := by
            have := (dim_two y (m - 1) (by omega)).2
            rw [show m - 1 + 1 = m by omega] at this
            rw [ey, em] at b3; omega
          have hh23 : h ≤ 23 := by omega
          have hi59 : mi ≤ 59 := by omega
          have hs59 : se ≤ 59 := by omega
          have hz20 : 20 ≤ s.size := by
            have := HA.out
            unfold okA at this
            simp only [Bool.and_eq_true, decide_eq_true_iff] at this
            exact this.1.1.1.1.1
          clear hBB b1 b2 b3 b4 b5 b6 ey em ed eh ei ee
          obtain ⟨x19, hx19⟩ : ∃ x, x = bt s 19 := ⟨_, rfl⟩
          have i19 : ∀ h : 19 < s.size, (s[19].toNat : Int) = x19 := fun h => (bt_eq s 19 h).trans hx19.symm
          have X19 := Lib.hid hx19
          clear hx19
          by_cases c19 : x19 = 46
          case neg =>
            have c19' : ¬ bt s 19 = 46 := by rw [← X19.out]; exact c19
            have HEE : Hid (19 = fracE s 19) := Lib.hid (by unfold fracE; rw [if_neg c19'])
            have HNN : Hid (0 = fracV s 19) := Lib.hid (by unfold fracV; rw [if_neg c19'])
            have HF : Hid (fracOk s 19 = true) := Lib.hid (by
              unfold fracOk
              rw [show (bt s 19 == 46) = false from beq_eq_false_iff_ne.2 c19']; rfl)
            have g1 : (x19 == 46) = false := beq_eq_false_iff_ne.2 c19
            have hes : 19 ≤ s.size := by omega
            clear c19 c19'
            as_aux_lemma =>
              have HXE := Lib.hid (fun v => pOk_end (s := s) (v := v) HA.out HB.out HF.out)
              have hext : (s.extract 19 s.size).size ≤ maxLen := by rw [ByteArray.size_extract]; have := HS.out; omega
              go_wp2_with fail
              obtain ⟨o, ho⟩ : ∃ o : ByteArray, o = s.extract 19 s.size := ⟨_, rfl⟩
              have HO := Lib.hid ho
              rw [← ho] at hext
              rw [← ho]
              refine (roff_any o w1 hext).mono ?_
              rintro e4 w4 ⟨v, rfl, hv1, hv2, hv3, rfl⟩
              have HV3 := Lib.hid hv3
              have HAH := Lib.hid (rahead_any y m d w1 hy hm1 hm12 hd1 hd31)
              have hal := ahead_le (y := y) (m := m) (d := d) hy hm12 hd31
              obtain ⟨A, hA'⟩ : ∃ A, A = aheadD y m d := ⟨_, rfl⟩
              have HAA := Lib.hid hA'
              rw [← hA'] at HAH hal
              obtain ⟨B, hB'⟩ : ∃ B, B = offB o := ⟨_, rfl⟩
              have HBB := Lib.hid hB'
              rw [← hB'] at HV3
              rw [← hB']
              clear ho hv3 hA' hB' hext
              have D6 := Lib.hid (D1.out.up ((Below.refl _ w1).alloc (Nat.le_refl _) (.cells #[.int .i64 (86400 * (A : Int) + (3600 * (h : Int) + 60 * (mi : Int) + (se : Int) - 60 * v)), .int .i64 (0)] 23)))
              have E6 := Lib.hid (FBox.new w1 (86400 * (A : Int) + (3600 * (h : Int) + 60 * (mi : Int) + (se : Int) - 60 * v)) (0))
              have HBW6 := Lib.hid (B1.out.alloc B1.out.size (.cells #[.int .i64 (86400 * (A : Int) + (3600 * (h : Int) + 60 * (mi : Int) + (se : Int) - 60 * v)), .int .i64 (0)] 23))
              have HME := Lib.hid (HXE.out v (by rw [← HEE.out]; exact hes) (by rw [← HEE.out, ← HO.out, ← HBB.out]; exact HV3.out))
              cases B with
              | false =>
                have HPO : Hid (pOk s = false) := Lib.hid (by rw [HME.out.1, ← HEE.out, ← HO.out, ← HBB.out]; rfl)
                have HBW := Lib.hid HBW6.out
                obtain ⟨⟨d0, d1, -⟩, f0, f1⟩ := D6.out
                go_wp2_with fail
                refine HAH.out.mono ?_
                rintro e5 w5 ⟨rfl, rfl⟩
                go_wp2_with fail
                refine ret19 (N := w.heap.size) (a := 0) (b := 0) (c := 120) (by rfl) (by rfl) ((World.cell?_setCell_other _ _ _ _ (by simp)).trans (World.cell?_setCell_same _ _ _ d0)) (World.cell?_setCell_same _ _ _ ((World.cell?_setCell_other _ _ _ _ (by simp)).trans d1)) ?_
                rw [(p_none2 HPO.out).1, (p_none2 HPO.out).2.1, (p_none2 HPO.out).2.2]
                exact ⟨rfl, (HBW.out.setCell (Nat.le_refl _) _).setCell (Nat.le_refl _) _⟩
              | true =>
                have HSEC : Hid (secS s = (86400 * (A : Int) + (3600 * (h : Int) + 60 * (mi : Int) + (se : Int) - 60 * v))) := Lib.hid (by
                  rw [HME.out.2 (by rw [← HEE.out, ← HO.out, ← HBB.out]), HAS.out, HTS.out, ← HAA.out]; omega)
                have HPO2 : Hid (pOk s = may (86400 * (A : Int) + (3600 * (h : Int) + 60 * (mi : Int) + (se : Int) - 60 * v)) (0)) := Lib.hid (by rw [HME.out.1, ← HEE.out, ← HO.out, ← HBB.out, HSEC.out, ← HNN.out]; try rfl)
                have HMY := Lib.hid (fun W => may_any (86400 * (A : Int) + (3600 * (h : Int) + 60 * (mi : Int) + (se : Int) - 60 * v)) (0) W)
                go_wp2_with fail
                refine HAH.out.mono ?_
                rintro e5 w5 ⟨rfl, rfl⟩
                go_wp2_with fail
                cases hmy : may (86400 * (A : Int) + (3600 * (h : Int) + 60 * (mi : Int) + (se : Int) - 60 * v)) (0) with
                | false =>
                  rw [hmy] at HMY HPO2
                  have HPO := Lib.hid HPO2.out
                  clear hmy
                  refine (HMY.out _).mono ?_
                  rintro e7 w7 ⟨rfl, b7⟩
                  have HBW := Lib.hid (HBW6.out.trans (b7.mono HBW6.out.size))
                  have D7 := Lib.hid (D6.out.up b7)
                  obtain ⟨⟨d0, d1, -⟩, f0, f1⟩ := D7.out
                  clear b7
                  go_wp2_with fail
                  refine ret19 (N := w.heap.size) (a := 0) (b := 0) (c := 120) (by rfl) (by rfl) ((World.cell?_setCell_other _ _ _ _ (by simp)).trans (World.cell?_setCell_same _ _ _ d0)) (World.cell?_setCell_same _ _ _ ((World.cell?_setCell_other _ _ _ _ (by simp)).trans d1)) ?_
                  rw [(p_none2 HPO.out).1, (p_none2 HPO.out).2.1, (p_none2 HPO.out).2.2]
                  exact ⟨rfl, (HBW.out.setCell (Nat.le_refl _) _).setCell (Nat.le_refl _) _⟩
                | true =>
                  rw [hmy] at HMY HPO2
                  clear hmy
                  have HR1 : Hid (pS s = (86400 * (A : Int) + (3600 * (h : Int) + 60 * (mi : Int) + (se : Int) - 60 * v))) := Lib.hid (by unfold pS; rw [HPO2.out, if_pos rfl, HSEC.out])
                  have HR2 : Hid (pN s = (0)) := Lib.hid (by unfold pN; rw [HPO2.out, if_pos rfl, ← HNN.out]; try rfl)
                  have HR3 : Hid (pE s = 0) := Lib.hid (by unfold pE; rw [HPO2.out, if_pos rfl])
                  refine (HMY.out _).mono ?_
                  rintro e7 w7 ⟨rfl, b7⟩
                  have HBW := Lib.hid (HBW6.out.trans (b7.mono HBW6.out.size))
                  have D7 := Lib.hid (D6.out.up b7)
                  have E7 := Lib.hid (E6.out.up b7)
                  obtain ⟨⟨d0, d1, -⟩, f0, f1⟩ := D7.out
                  obtain ⟨⟨g0, g1, -⟩, -, -⟩ := E7.out
                  clear b7
                  go_wp2_with fail
                  refine ret19 (N := w.heap.size) (a := (86400 * (A : Int) + (3600 * (h : Int) + 60 * (mi : Int) + (se : Int) - 60 * v))) (b := (0)) (c := 0) (by rfl) (by rfl) ((World.cell?_setCell_other _ _ _ _ (by simp)).trans (World.cell?_setCell_same _ _ _ d0)) (World.cell?_setCell_same _ _ _ ((World.cell?_setCell_other _ _ _ _ (by simp)).trans d1)) ?_
                  rw [HR1.out, HR2.out, HR3.out]
                  exact ⟨rfl, (HBW.out.setCell (Nat.le_refl _) _).setCell (Nat.le_refl _) _⟩
          subst c19
          as_aux_lemma =>
            have hb46 : bt s 19 = 46 := X19.out.symm
            have HEV : Hid (fracE s 19 = 20 + fcount s 20 9) := Lib.hid (by unfold fracE; rw [if_pos hb46])
            have HFV : Hid (fracV s 19 = numv s 20 (fcount s 20 9) * 10 ^ (9 - fcount s 20 9)) := Lib.hid (by unfold fracV; rw [if_pos hb46])
            have HFO : Hid (fracOk s 19 = decide (0 < fcount s 20 9)) := Lib.hid (by unfold fracOk; rw [hb46]; rfl)
            clear hb46
            go_wp2_with fail
            go_loopg [12] 9 (fun f iv wr => ∃ i : Nat, f + i = 9 ∧ iv = .int .i64 i ∧ digs s 20 i = true ∧ 20 + i ≤ s.size ∧ fcount s 20 9 = i + fcount s (20 + i) f ∧ w1 = wr)
            case atStart => exact ⟨0, rfl, rfl, rfl, hz20, by simp, rfl⟩
            case round =>
              obtain ⟨i, hf, rfl, hdd, hpi, hfc, rfl⟩ := hrel
              have HF9 := Lib.hid hf
              have HDG := Lib.hid hdd
              have HFC := Lib.hid hfc
              have hi9 : i ≤ 9 := by omega
              have hnb := numv_bound hdd hi9
              have HNL := Lib.hid (numv_lt s 20 i hdd)
              have HNK := Lib.hid (rnum_any s 20 i w1 HS.out (by omega) hi9 (.inr hz20))
              have hnk : numR s 20 i = (numv s 20 i : Int) := by unfold numR; rw [hdd, if_pos rfl]
              rw [hnk] at HNK
              obtain ⟨n, hn⟩ : ∃ n, n = numv s 20 i := ⟨_, rfl⟩
              have HN := Lib.hid hn
              rw [← hn] at hnb HNL HNK
              have HPOW : Hid (∀ j, j + i ≤ 9 → n * 10 ^ j < 1000000000) := Lib.hid (fun j hj => by
                have h1 : n * 10 ^ j < 10 ^ i * 10 ^ j := Nat.mul_lt_mul_of_pos_right HNL.out (Nat.pow_pos (by decide))
                rw [← Nat.pow_add] at h1
                have h2 : 10 ^ (i + j) ≤ 10 ^ 9 := Nat.pow_le_pow_right (by decide) (by omega)
                omega)
              clear hf hdd hfc hnk hn
              cases gk with
              | zero =>
                obtain rfl : i = 9 := by have := HF9.out; omega
                have HK : Hid (fcount s 20 9 = 9) := Lib.hid HFC.out
                as_aux_lemma =>
                  go_wp2_with fail
                  refine HNK.out.mono ?_
                  rintro e3 w3 ⟨rfl, rfl⟩
                  go_wp2_with fail
                  go_loop [11, 13] (fun nv jv => ∃ j : Nat, j + 9 ≤ 9 ∧ nv = .int .i64 ((n * 10 ^ j : Nat) : Int) ∧ jv = .int .i64 ((9 + j : Nat) : Int)) (fun _ jv => 9 - (intOf jv).toNat)
                  case atStart => exact ⟨0, by omega, by simp, by go_num⟩
                  case round =>
                    obtain ⟨j, hj, rfl, rfl⟩ := hrel
                    have hpw := HPOW.out j (by omega)
                    obtain ⟨nn, hv⟩ : ∃ v, v = n * 10 ^ j := ⟨_, rfl⟩
                    have HV := Lib.hid hv
                    rw [← hv] at hpw ⊢
                    clear hv
                    by_cases hjl : 9 + j < 9
                    · have hjl' : ((9 + j : Nat) : Int) < 9 := by omega
                      have hv8 : nn * 10 < 1000000000 := by
                        have := HPOW.out (j + 1) (by omega)
                        rw [Nat.pow_succ, ← Nat.mul_assoc, ← HV.out] at this; exact this
                      have q1 : (9 : Int) + j < 9 := by omega
                      go_wp2_with fail
                      go_round
                      case rel => exact ⟨j + 1, by omega, by rw [Nat.pow_succ, ← Nat.mul_assoc, ← HV.out]; go_num, by go_num⟩
                      case measure => simp [intOf]; omega
                    · have hjl' : ¬ ((9 + j : Nat) : Int) < 9 := by omega
                      have q1 : ¬ (9 : Int) + j < 9 := by omega
                      have HJ : Hid (9 - 9 = j) := Lib.hid (by omega)
                      have HF : Hid (fracOk s 19 = true) := Lib.hid (by rw [HFO.out, HK.out]; exact decide_eq_true (by omega))
                      have HEE : Hid (20 + 9 = fracE s 19) := Lib.hid (by rw [HEV.out, HK.out])
                      have HNN : Hid (nn = fracV s 19) := Lib.hid (by rw [HFV.out, HK.out, HJ.out, HV.out, HN.out])
                      have hes : 20 + 9 ≤ s.size := hpi
                      clear hjl
                      have HXE := Lib.hid (fun v => pOk_end (s := s) (v := v) HA.out HB.out HF.out)
                      have hext : (s.extract 29 s.size).size ≤ maxLen := by rw [ByteArray.size_extract]; have := HS.out; omega
                      go_wp2_with fail
                      obtain ⟨o, ho⟩ : ∃ o : ByteArray, o = s.extract 29 s.size := ⟨_, rfl⟩
                      have HO := Lib.hid ho
                      rw [← ho] at hext
                      rw [← ho]
                      refine (roff_any o w1 hext).mono ?_
                      rintro e4 w4 ⟨v, rfl, hv1, hv2, hv3, rfl⟩
                      have HV3 := Lib.hid hv3
                      have HAH := Lib.hid (rahead_any y m d w1 hy hm1 hm12 hd1 hd31)
                      have hal := ahead_le (y := y) (m := m) (d := d) hy hm12 hd31
                      obtain ⟨A, hA'⟩ : ∃ A, A = aheadD y m d := ⟨_, rfl⟩
                      have HAA := Lib.hid hA'
                      rw [← hA'] at HAH hal
                      obtain ⟨B, hB'⟩ : ∃ B, B = offB o := ⟨_, rfl⟩
                      have HBB := Lib.hid hB'
                      rw [← hB'] at HV3
                      rw [← hB']
                      clear ho hv3 hA' hB' hext
                      have D6 := Lib.hid (D1.out.up ((Below.refl _ w1).alloc (Nat.le_refl _) (.cells #[.int .i64 (86400 * (A : Int) + (3600 * (h : Int) + 60 * (mi : Int) + (se : Int) - 60 * v)), .int .i64 ((nn : Int))] 23)))
                      have E6 := Lib.hid (FBox.new w1 (86400 * (A : Int) + (3600 * (h : Int) + 60 * (mi : Int) + (se : Int) - 60 * v)) ((nn : Int)))
                      have HBW6 := Lib.hid (B1.out.alloc B1.out.size (.cells #[.int .i64 (86400 * (A : Int) + (3600 * (h : Int) + 60 * (mi : Int) + (se : Int) - 60 * v)), .int .i64 ((nn : Int))] 23))
                      have HME := Lib.hid (HXE.out v (by rw [← HEE.out]; exact hes) (by rw [← HEE.out, ← HO.out, ← HBB.out]; exact HV3.out))
                      cases B with
                      | false =>
                        have HPO : Hid (pOk s = false) := Lib.hid (by rw [HME.out.1, ← HEE.out, ← HO.out, ← HBB.out]; rfl)
                        have HBW := Lib.hid HBW6.out
                        obtain ⟨⟨d0, d1, -⟩, f0, f1⟩ := D6.out
                        go_wp2_with fail
                        refine HAH.out.mono ?_
                        rintro e5 w5 ⟨rfl, rfl⟩
                        go_wp2_with fail
                        refine ret19 (N := w.heap.size) (a := 0) (b := 0) (c := 120) (by rfl) (by rfl) ((World.cell?_setCell_other _ _ _ _ (by simp)).trans (World.cell?_setCell_same _ _ _ d0)) (World.cell?_setCell_same _ _ _ ((World.cell?_setCell_other _ _ _ _ (by simp)).trans d1)) ?_
                        rw [(p_none2 HPO.out).1, (p_none2 HPO.out).2.1, (p_none2 HPO.out).2.2]
                        exact ⟨rfl, (HBW.out.setCell (Nat.le_refl _) _).setCell (Nat.le_refl _) _⟩
                      | true =>
                        have HSEC : Hid (secS s = (86400 * (A : Int) + (3600 * (h : Int) + 60 * (mi : Int) + (se : Int) - 60 * v))) := Lib.hid (by
                          rw [HME.out.2 (by rw [← HEE.out, ← HO.out, ← HBB.out]), HAS.out, HTS.out, ← HAA.out]; omega)
                        have HPO2 : Hid (pOk s = may (86400 * (A : Int) + (3600 * (h : Int) + 60 * (mi : Int) + (se : Int) - 60 * v)) ((nn : Int))) := Lib.hid (by rw [HME.out.1, ← HEE.out, ← HO.out, ← HBB.out, HSEC.out, ← HNN.out]; try rfl)
                        have HMY := Lib.hid (fun W => may_any (86400 * (A : Int) + (3600 * (h : Int) + 60 * (mi : Int) + (se : Int) - 60 * v)) ((nn : Int)) W)
                        go_wp2_with fail
                        refine HAH.out.mono ?_
                        rintro e5 w5 ⟨rfl, rfl⟩
                        go_wp2_with fail
                        cases hmy : may (86400 * (A : Int) + (3600 * (h : Int) + 60 * (mi : Int) + (se : Int) - 60 * v)) ((nn : Int)) with
                        | false =>
                          rw [hmy] at HMY HPO2
                          have HPO := Lib.hid HPO2.out
                          clear hmy
                          refine (HMY.out _).mono ?_
                          rintro e7 w7 ⟨rfl, b7⟩
                          have HBW := Lib.hid (HBW6.out.trans (b7.mono HBW6.out.size))
                          have D7 := Lib.hid (D6.out.up b7)
                          obtain ⟨⟨d0, d1, -⟩, f0, f1⟩ := D7.out
                          clear b7
                          go_wp2_with fail
                          refine ret19 (N := w.heap.size) (a := 0) (b := 0) (c := 120) (by rfl) (by rfl) ((World.cell?_setCell_other _ _ _ _ (by simp)).trans (World.cell?_setCell_same _ _ _ d0)) (World.cell?_setCell_same _ _ _ ((World.cell?_setCell_other _ _ _ _ (by simp)).trans d1)) ?_
                          rw [(p_none2 HPO.out).1, (p_none2 HPO.out).2.1, (p_none2 HPO.out).2.2]
                          exact ⟨rfl, (HBW.out.setCell (Nat.le_refl _) _).setCell (Nat.le_refl _) _⟩
                        | true =>
                          rw [hmy] at HMY HPO2
                          clear hmy
                          have HR1 : Hid (pS s = (86400 * (A : Int) + (3600 * (h : Int) + 60 * (mi : Int) + (se : Int) - 60 * v))) := Lib.hid (by unfold pS; rw [HPO2.out, if_pos rfl, HSEC.out])
                          have HR2 : Hid (pN s = ((nn : Int))) := Lib.hid (by unfold pN; rw [HPO2.out, if_pos rfl, ← HNN.out]; try rfl)
                          have HR3 : Hid (pE s = 0) := Lib.hid (by unfold pE; rw [HPO2.out, if_pos rfl])
                          refine (HMY.out _).mono ?_
                          rintro e7 w7 ⟨rfl, b7⟩
                          have HBW := Lib.hid (HBW6.out.trans (b7.mono HBW6.out.size))
                          have D7 := Lib.hid (D6.out.up b7)
                          have E7 := Lib.hid (E6.out.up b7)
                          obtain ⟨⟨d0, d1, -⟩, f0, f1⟩ := D7.out
                          obtain ⟨⟨g0, g1, -⟩, -, -⟩ := E7.out
                          clear b7
                          go_wp2_with fail
                          refine ret19 (N := w.heap.size) (a := (86400 * (A : Int) + (3600 * (h : Int) + 60 * (mi : Int) + (se : Int) - 60 * v))) (b := ((nn : Int))) (c := 0) (by rfl) (by rfl) ((World.cell?_setCell_other _ _ _ _ (by simp)).trans (World.cell?_setCell_same _ _ _ d0)) (World.cell?_setCell_same _ _ _ ((World.cell?_setCell_other _ _ _ _ (by simp)).trans d1)) ?_
                          rw [HR1.out, HR2.out, HR3.out]
                          exact ⟨rfl, (HBW.out.setCell (Nat.le_refl _) _).setCell (Nat.le_refl _) _⟩
              | succ g =>
                have HN1 := Lib.hid (rnum_any s (20 + i) 1 w1 HS.out (by omega) (by omega) (.inl (by omega)))
                have hi8 : i < 9 := by have := HF9.out; omega
                cases hdg : isDg (bt s (20 + i)) with
                | false =>
                  have hr : numR s (20 + i) 1 = -1 := by
                    have h0 := not_digs (s := s) (p := 20 + i) (k := 1) (i := 0) (by omega) hdg
                    unfold numR; rw [h0]; rfl
                  rw [hr] at HN1
                  have HK : Hid (fcount s 20 9 = i) := Lib.hid (by rw [HFC.out, fcount_no hdg]; rfl)
                  clear hdg hr
                  go_wp2_with fail
                  refine HN1.out.mono ?_
                  rintro e2 w2 ⟨rfl, rfl⟩
                  as_aux_lemma =>
                    by_cases h0 : i = 0
                    · subst h0
                      go_wp2_with fail
                      refine HNK.out.mono ?_
                      rintro e3 w3 ⟨rfl, rfl⟩
                      go_wp2_with fail
                      go_loop [11, 13] (fun nv jv => ∃ j : Nat, j ≤ 9 ∧ nv = .int .i64 ((n * 10 ^ j : Nat) : Int) ∧ jv = .int .i64 (j : Int)) (fun _ jv => 9 - (intOf jv).toNat)
                      case atStart => exact ⟨0, by omega, by simp, by go_num⟩
                      case round =>
                        obtain ⟨j, hj, rfl, rfl⟩ := hrel
                        have hpw := HPOW.out j (by omega)
                        obtain ⟨nn, hv⟩ : ∃ v, v = n * 10 ^ j := ⟨_, rfl⟩
                        have HV := Lib.hid hv
                        rw [← hv] at hpw ⊢
                        clear hv
                        by_cases hjl : j < 9
                        · have hjl' : (j : Int) < 9 := by omega
                          have hv8 : nn * 10 < 1000000000 := by
                            have := HPOW.out (j + 1) (by omega)
                            rw [Nat.pow_succ, ← Nat.mul_assoc, ← HV.out] at this; exact this
                          have q1 : (0 : Int) + j < 9 := by omega
                          go_wp2_with fail
                          go_round
                          case rel => exact ⟨j + 1, by omega, by rw [Nat.pow_succ, ← Nat.mul_assoc, ← HV.out]; go_num, by go_num⟩
                          case measure => simp [intOf]; omega
                        · have hjl' : ¬ (j : Int) < 9 := by omega
                          have q1 : ¬ (0 : Int) + j < 9 := by omega
                          have HJ : Hid (9 - 0 = j) := Lib.hid (by omega)
                          have HPO := Lib.hid (no_F (s := s) (by rw [HFO.out, HK.out]; rfl))
                          have HBW := Lib.hid B1.out
                          obtain ⟨⟨d0, d1, -⟩, f0, f1⟩ := D1.out
                          go_wp2_with fail
                          refine ret19 (N := w.heap.size) (a := 0) (b := 0) (c := 120) (by rfl) (by rfl) ((World.cell?_setCell_other _ _ _ _ (by simp)).trans (World.cell?_setCell_same _ _ _ d0)) (World.cell?_setCell_same _ _ _ ((World.cell?_setCell_other _ _ _ _ (by simp)).trans d1)) ?_
                          rw [(p_none2 HPO.out).1, (p_none2 HPO.out).2.1, (p_none2 HPO.out).2.2]
                          exact ⟨rfl, (HBW.out.setCell (Nat.le_refl _) _).setCell (Nat.le_refl _) _⟩
                    have g0 : ((i : Int) == 0) = false := beq_eq_false_iff_ne.2 (by omega)
                    have g00 : (i == 0) = false := beq_eq_false_iff_ne.2 h0
                    have hto : ((20 : Int) + (i : Int)).toNat = 20 + i := by omega
                    go_wp2_with fail
                    refine HNK.out.mono ?_
                    rintro e3 w3 ⟨rfl, rfl⟩
                    go_wp2_with fail
                    go_loop [11, 13] (fun nv jv => ∃ j : Nat, j + i ≤ 9 ∧ nv = .int .i64 ((n * 10 ^ j : Nat) : Int) ∧ jv = .int .i64 ((i + j : Nat) : Int)) (fun _ jv => 9 - (intOf jv).toNat)
                    case atStart => exact ⟨0, by omega, by simp, by go_num⟩
                    case round =>
                      obtain ⟨j, hj, rfl, rfl⟩ := hrel
                      have hpw := HPOW.out j (by omega)
                      obtain ⟨nn, hv⟩ : ∃ v, v = n * 10 ^ j := ⟨_, rfl⟩
                      have HV := Lib.hid hv
                      rw [← hv] at hpw ⊢
                      clear hv
                      by_cases hjl : i + j < 9
                      · have hjl' : ((i + j : Nat) : Int) < 9 := by omega
                        have hv8 : nn * 10 < 1000000000 := by
                          have := HPOW.out (j + 1) (by omega)
                          rw [Nat.pow_succ, ← Nat.mul_assoc, ← HV.out] at this; exact this
                        have q1 : (i : Int) + j < 9 := by omega
                        go_wp2_with fail
                        go_round
                        case rel => exact ⟨j + 1, by omega, by rw [Nat.pow_succ, ← Nat.mul_assoc, ← HV.out]; go_num, by go_num⟩
                        case measure => simp [intOf]; omega
                      · have hjl' : ¬ ((i + j : Nat) : Int) < 9 := by omega
                        have q1 : ¬ (i : Int) + j < 9 := by omega
                        have HJ : Hid (9 - i = j) := Lib.hid (by omega)
                        have HF : Hid (fracOk s 19 = true) := Lib.hid (by rw [HFO.out, HK.out]; exact decide_eq_true (by omega))
                        have HEE : Hid (20 + i = fracE s 19) := Lib.hid (by rw [HEV.out, HK.out])
                        have HNN : Hid (nn = fracV s 19) := Lib.hid (by rw [HFV.out, HK.out, HJ.out, HV.out, HN.out])
                        have hes : 20 + i ≤ s.size := hpi
                        clear hjl h0
                        have HXE := Lib.hid (fun v => pOk_end (s := s) (v := v) HA.out HB.out HF.out)
                        have hext : (s.extract (20 + i) s.size).size ≤ maxLen := by rw [ByteArray.size_extract]; have := HS.out; omega
                        go_wp2_with fail
                        obtain ⟨o, ho⟩ : ∃ o : ByteArray, o = s.extract (20 + i) s.size := ⟨_, rfl⟩
                        have HO := Lib.hid ho
                        rw [← ho] at hext
                        rw [← ho]
                        refine (roff_any o w1 hext).mono ?_
                        rintro e4 w4 ⟨v, rfl, hv1, hv2, hv3, rfl⟩
                        have HV3 := Lib.hid hv3
                        have HAH := Lib.hid (rahead_any y m d w1 hy hm1 hm12 hd1 hd31)
                        have hal := ahead_le (y := y) (m := m) (d := d) hy hm12 hd31
                        obtain ⟨A, hA'⟩ : ∃ A, A = aheadD y m d := ⟨_, rfl⟩
                        have HAA := Lib.hid hA'
                        rw [← hA'] at HAH hal
                        obtain ⟨B, hB'⟩ : ∃ B, B = offB o := ⟨_, rfl⟩
                        have HBB := Lib.hid hB'
                        rw [← hB'] at HV3
                        rw [← hB']
                        clear ho hv3 hA' hB' hext
                        have D6 := Lib.hid (D1.out.up ((Below.refl _ w1).alloc (Nat.le_refl _) (.cells #[.int .i64 (86400 * (A : Int) + (3600 * (h : Int) + 60 * (mi : Int) + (se : Int) - 60 * v)), .int .i64 ((nn : Int))] 23)))
                        have E6 := Lib.hid (FBox.new w1 (86400 * (A : Int) + (3600 * (h : Int) + 60 * (mi : Int) + (se : Int) - 60 * v)) ((nn : Int)))
                        have HBW6 := Lib.hid (B1.out.alloc B1.out.size (.cells #[.int .i64 (86400 * (A : Int) + (3600 * (h : Int) + 60 * (mi : Int) + (se : Int) - 60 * v)), .int .i64 ((nn : Int))] 23))
                        have HME := Lib.hid (HXE.out v (by rw [← HEE.out]; exact hes) (by rw [← HEE.out, ← HO.out, ← HBB.out]; exact HV3.out))
                        cases B with
                        | false =>
                          have HPO : Hid (pOk s = false) := Lib.hid (by rw [HME.out.1, ← HEE.out, ← HO.out, ← HBB.out]; rfl)
                          have HBW := Lib.hid HBW6.out
                          obtain ⟨⟨d0, d1, -⟩, f0, f1⟩ := D6.out
                          go_wp2_with fail
                          refine HAH.out.mono ?_
                          rintro e5 w5 ⟨rfl, rfl⟩
                          go_wp2_with fail
                          refine ret19 (N := w.heap.size) (a := 0) (b := 0) (c := 120) (by rfl) (by rfl) ((World.cell?_setCell_other _ _ _ _ (by simp)).trans (World.cell?_setCell_same _ _ _ d0)) (World.cell?_setCell_same _ _ _ ((World.cell?_setCell_other _ _ _ _ (by simp)).trans d1)) ?_
                          rw [(p_none2 HPO.out).1, (p_none2 HPO.out).2.1, (p_none2 HPO.out).2.2]
                          exact ⟨rfl, (HBW.out.setCell (Nat.le_refl _) _).setCell (Nat.le_refl _) _⟩
                        | true =>
                          have HSEC : Hid (secS s = (86400 * (A : Int) + (3600 * (h : Int) + 60 * (mi : Int) + (se : Int) - 60 * v))) := Lib.hid (by
                            rw [HME.out.2 (by rw [← HEE.out, ← HO.out, ← HBB.out]), HAS.out, HTS.out, ← HAA.out]; omega)
                          have HPO2 : Hid (pOk s = may (86400 * (A : Int) + (3600 * (h : Int) + 60 * (mi : Int) + (se : Int) - 60 * v)) ((nn : Int))) := Lib.hid (by rw [HME.out.1, ← HEE.out, ← HO.out, ← HBB.out, HSEC.out, ← HNN.out]; try rfl)
                          have HMY := Lib.hid (fun W => may_any (86400 * (A : Int) + (3600 * (h : Int) + 60 * (mi : Int) + (se : Int) - 60 * v)) ((nn : Int)) W)
                          go_wp2_with fail
                          refine HAH.out.mono ?_
                          rintro e5 w5 ⟨rfl, rfl⟩
                          go_wp2_with fail
                          cases hmy : may (86400 * (A : Int) + (3600 * (h : Int) + 60 * (mi : Int) + (se : Int) - 60 * v)) ((nn : Int)) with
                          | false =>
                            rw [hmy] at HMY HPO2
                            have HPO := Lib.hid HPO2.out
                            clear hmy
                            refine (HMY.out _).mono ?_
                            rintro e7 w7 ⟨rfl, b7⟩
                            have HBW := Lib.hid (HBW6.out.trans (b7.mono HBW6.out.size))
                            have D7 := Lib.hid (D6.out.up b7)
                            obtain ⟨⟨d0, d1, -⟩, f0, f1⟩ := D7.out
                            clear b7
                            go_wp2_with fail
                            refine ret19 (N := w.heap.size) (a := 0) (b := 0) (c := 120) (by rfl) (by rfl) ((World.cell?_setCell_other _ _ _ _ (by simp)).trans (World.cell?_setCell_same _ _ _ d0)) (World.cell?_setCell_same _ _ _ ((World.cell?_setCell_other _ _ _ _ (by simp)).trans d1)) ?_
                            rw [(p_none2 HPO.out).1, (p_none2 HPO.out).2.1, (p_none2 HPO.out).2.2]
                            exact ⟨rfl, (HBW.out.setCell (Nat.le_refl _) _).setCell (Nat.le_refl _) _⟩
                          | true =>
                            rw [hmy] at HMY HPO2
                            clear hmy
                            have HR1 : Hid (pS s = (86400 * (A : Int) + (3600 * (h : Int) + 60 * (mi : Int) + (se : Int) - 60 * v))) := Lib.hid (by unfold pS; rw [HPO2.out, if_pos rfl, HSEC.out])
                            have HR2 : Hid (pN s = ((nn : Int))) := Lib.hid (by unfold pN; rw [HPO2.out, if_pos rfl, ← HNN.out]; try rfl)
                            have HR3 : Hid (pE s = 0) := Lib.hid (by unfold pE; rw [HPO2.out, if_pos rfl])
                            refine (HMY.out _).mono ?_
                            rintro e7 w7 ⟨rfl, b7⟩
                            have HBW := Lib.hid (HBW6.out.trans (b7.mono HBW6.out.size))
                            have D7 := Lib.hid (D6.out.up b7)
                            have E7 := Lib.hid (E6.out.up b7)
                            obtain ⟨⟨d0, d1, -⟩, f0, f1⟩ := D7.out
                            obtain ⟨⟨g0, g1, -⟩, -, -⟩ := E7.out
                            clear b7
                            go_wp2_with fail
                            refine ret19 (N := w.heap.size) (a := (86400 * (A : Int) + (3600 * (h : Int) + 60 * (mi : Int) + (se : Int) - 60 * v))) (b := ((nn : Int))) (c := 0) (by rfl) (by rfl) ((World.cell?_setCell_other _ _ _ _ (by simp)).trans (World.cell?_setCell_same _ _ _ d0)) (World.cell?_setCell_same _ _ _ ((World.cell?_setCell_other _ _ _ _ (by simp)).trans d1)) ?_
                            rw [HR1.out, HR2.out, HR3.out]
                            exact ⟨rfl, (HBW.out.setCell (Nat.le_refl _) _).setCell (Nat.le_refl _) _⟩
                | true =>
                  have hc : 48 ≤ bt s (20 + i) ∧ bt s (20 + i) ≤ 57 := by simpa [isDg] using hdg
                  have hlt2 : 20 + i < s.size := bt_in s (20 + i) (by omega)
                  have hr : numR s (20 + i) 1 = ((bt s (20 + i) - 48).toNat : Int) := by
                    unfold numR
                    have : digs s (20 + i) 1 = true := by simp only [digs, Bool.true_and]; exact hdg
                    rw [this, if_pos rfl]
                    simp [numv]
                  obtain ⟨q, hq⟩ : ∃ q : Nat, q = (bt s (20 + i) - 48).toNat := ⟨_, rfl⟩
                  rw [hr, ← hq] at HN1
                  have HDQ : Hid (digs s 20 (i + 1) = true) := Lib.hid (by simp only [digs, HDG.out, hdg]; rfl)
                  have HFQ : Hid (fcount s 20 9 = (i + 1) + fcount s (20 + (i + 1)) g) := Lib.hid (by rw [HFC.out, fcount_yes hdg, show 20 + i + 1 = 20 + (i + 1) by omega]; omega)
                  clear hdg hc hr hq
                  go_wp2_with fail
                  refine HN1.out.mono ?_
                  rintro e2 w2 ⟨rfl, rfl⟩
                  go_wp2_with fail
                  go_roundg g
                  case rel => exact ⟨i + 1, by have := HF9.out; omega, by go_num, HDQ.out, by omega, HFQ.out, rfl⟩
                  case measure => omega
end Go.Proofs.YtfphejndbnmfeaaDoor

/- Layer 10: the document's Same, Great. -/
import Derived.Test.YthaliiffgkcahaaSB
import Derived.Test.YthaliiffgkcahaaS8
namespace Go.Proofs.Ythaliiffgkcahaa
open Go.RowKit Go.Maps
def GreatPost (w : World) (d : DF) (st cl : Nat) (e : Ending) (w' : World) : Prop := ∃ g, e = .returned (.bool g) ∧ (g = false → d.S.length ≤ st ∧ d.C.length ≤ cl ∧ d.B.length ≤ st ∧ ∀ i, i < d.S.length → (gS d.S i).length ≤ cl) ∧ Below w.heap.size w w'
set_option maxRecDepth 20000 in
theorem great_any (a : DA) (d : DF) (st cl : Nat) (w : World) (hv : DV w a d) : Calls Try.prog 4 #[dv a d, .int .i64 st, .int .i64 cl] w (GreatPost w d st cl) := by
  obtain ⟨a0, a1, a2, c0, c1, c2⟩ := a
  obtain ⟨C, S, B⟩ := d
  have hm1 : S.length ≤ maxLen := Nat.le_trans hv.l1 hv.m1
  unfold maxLen at hm1
  have HV1 : Hid (SV w a1 S) := Lib.hid hv.sv
  clear hv
  unfold dv
  dsimp only
  obtain ⟨nC, hC⟩ : ∃ n, n = C.length := ⟨_, rfl⟩
  obtain ⟨nS, hS⟩ : ∃ n, n = S.length := ⟨_, rfl⟩
  obtain ⟨nB, hB⟩ : ∃ n, n = B.length := ⟨_, rfl⟩
  have HP : Hid (∀ g w', (g = false → nS ≤ st ∧ nC ≤ cl ∧ nB ≤ st ∧ ∀ i, i < nS → (gS S i).length ≤ cl) → Below w.heap.size w w' → GreatPost w ⟨C, S, B⟩ st cl (.returned (.bool g)) w') := Lib.hid (fun g w' h b => ⟨g, rfl, by rw [hC, hS, hB] at h; exact h, b⟩)
  rw [← hC, ← hS, ← hB]
  rw [← hS] at hm1
  have HS := Lib.hid hS
  clear hC hS hB
  have HB0 : Hid (Lk w (w.alloc (.cells #[.slice a0 nC c0, .slice a1 nS c1, .slice a2 nB c2] 26)) (.slice a0 nC c0) (.slice a1 nS c1) (.slice a2 nB c2)) := Lib.hid (lk_new _ _ _ _ _)
  go_enter Try.func4, Try.ntmps4
  go_wp2_with fail
  go_loopw [7] (fun v7 wr => ∃ i : Nat, i ≤ nS ∧ v7 = .int .i64 i ∧ Hid (∀ j, j < i → (gS S j).length ≤ cl) ∧ Hid (Lk w wr (.slice a0 nC c0) (.slice a1 nS c1) (.slice a2 nB c2))) (fun v7 _ => nS - (intOf v7).toNat)
  case atStart => exact ⟨0, Nat.zero_le _, rfl, Lib.hid (fun j hj => by omega), HB0⟩
  case round =>
    clear HB0
    obtain ⟨i, hi, rfl, HI, HL⟩ := hrel
    obtain ⟨_, q0, q1, q2⟩ := HL.out.2
    have hi0 : (0 : Int) ≤ i := by omega
    by_cases h1 : i < nS
    · have hi1 : (i : Int) < nS := by omega
      by_cases h2 : i ≤ st
      · have hi2 : (i : Int) ≤ st := by omega
        obtain ⟨b1, off1, rfl⟩ := HV1.out.addr (by rw [← HS.out]; omega)
        obtain ⟨_, ad, cp, d0, _, _, _, _⟩ := (HV1.out.below HL.out.1).at_ (i := i) (by rw [← HS.out]; exact h1)
        obtain ⟨l, hl⟩ : ∃ l, l = (gS S i).length := ⟨_, rfl⟩
        rw [← hl] at d0
        have HLL := Lib.hid hl
        clear hl
        by_cases h3 : cl < l
        · have h3' : (cl : Int) < l := by omega
          go_wp2_with fail
          go_ret
          exact HP.out _ _ (fun e => by cases e) HL.out.1
        · have h3' : ¬ (cl : Int) < l := by omega
          have HI2 : Hid (∀ j, j < i + 1 → (gS S j).length ≤ cl) := Lib.hid (upto_next HI.out (by rw [← HLL.out]; omega))
          clear HI
          go_wp2_with fail
          go_roundw
          case rel => exact ⟨i + 1, by omega, by go_num, HI2, HL⟩
          case measure => simp [intOf]; omega
      · have hi2 : ¬ (i : Int) ≤ st := by omega
        have k1 : (st : Int) < nS := by omega
        clear HI
        go_wp2_with fail
        go_ret
        exact HP.out _ _ (fun e => by (simp at e) <;> omega) HL.out.1
    · have hi1 : ¬ (i : Int) < nS := by omega
      have HI2 : Hid (∀ j, j < nS → (gS S j).length ≤ cl) := Lib.hid (fun j hj => HI.out j (by omega))
      clear HI
      by_cases k1 : st < nS
      · have k1' : (st : Int) < nS := by omega
        go_wp2_with fail
        go_ret
        exact HP.out _ _ (fun e => by (simp at e) <;> omega) HL.out.1
      · have k1' : ¬ (st : Int) < nS := by omega
        by_cases k2 : cl < nC
        · have k2' : (cl : Int) < nC := by omega
          go_wp2_with fail
          go_ret
          exact HP.out _ _ (fun e => by (simp at e) <;> omega) HL.out.1
        · have k2' : ¬ (cl : Int) < nC := by omega
          by_cases k3 : st < nB
          · have k3' : (st : Int) < nB := by omega
            go_wp2_with fail
            go_ret
            exact HP.out _ _ (fun e => by (simp at e) <;> omega) HL.out.1
          · have k3' : ¬ (st : Int) < nB := by omega
            go_wp2_with fail
            go_ret
            exact HP.out _ _ (fun e => ⟨by omega, by omega, by omega, HI2.out⟩) HL.out.1
theorem last8 {p0 p1 p2 p3 p4 p5 p6 p7 q : Prop} (h : p0 ∧ p1 ∧ p2 ∧ p3 ∧ p4 ∧ p5 ∧ p6 ∧ p7 ∧ q) : q := h.2.2.2.2.2.2.2.2
set_option maxRecDepth 20000 in
set_option maxHeartbeats 1000000 in
theorem rsame_any (a b : DA) (d e : DF) (w : World) (hv : DV w a d) (hu : DV w b e) : Calls Try.prog 15 #[dv a d, dv b e] w fun r w' => r = .returned (.bool (sameD d e)) ∧ Below w.heap.size w w' := by
  have H0 := Lib.hid (fun w1 (k : Below w.heap.size w w1) => rsamei_any a.a0 b.a0 a.c0 b.c0 d.C e.C w1 (hv.below k).iv (hu.below k).iv (Nat.le_trans hv.l0 hv.m0))
  have HV1 := Lib.hid hv.sv
  have HU1 := Lib.hid hu.sv
  have HV2 := Lib.hid hv.bv
  have HU2 := Lib.hid hu.bv
  have hms : d.S.length ≤ maxLen := Nat.le_trans hv.l1 hv.m1
  have hmb : d.B.length ≤ maxLen := Nat.le_trans hv.l2 hv.m2
  unfold maxLen at hms hmb
  obtain ⟨R, hR⟩ : ∃ R, R = sameD d e := ⟨_, rfl⟩
  rw [← hR]
  have HR : Hid (R = (decide (d.C = e.C) && decide (d.S = e.S) && decide (d.B = e.B))) := Lib.hid hR
  clear hR hv hu
  obtain ⟨a0, a1, a2, c0, c1, c2⟩ := a
  obtain ⟨b0, b1, b2, k0, k1, k2⟩ := b
  obtain ⟨C, S, B⟩ := d
  obtain ⟨C', S', B'⟩ := e
  unfold dv
  dsimp only at H0 HV1 HU1 HV2 HU2 hms hmb HR ⊢
  have HRF0 : Hid (C ≠ C' → R = false) := Lib.hid (fun h => by rw [HR.out, decide_eq_false h]; rfl)
  have HRF1 : Hid (S ≠ S' → R = false) := Lib.hid (fun h => by rw [HR.out, decide_eq_false h]; simp)
  have HRF2 : Hid (B ≠ B' → R = false) := Lib.hid (fun h => by rw [HR.out, decide_eq_false h]; simp)
  have HRT : Hid (C = C' → S = S' → B = B' → R = true) := Lib.hid (fun h1 h2 h3 => by rw [HR.out, decide_eq_true h1, decide_eq_true h2, decide_eq_true h3]; rfl)
  obtain ⟨x0, hx0⟩ : ∃ x, x = decide (C = C') := ⟨_, rfl⟩
  rw [← hx0] at H0
  have HX0 := Lib.hid hx0
  clear hx0 HR
  obtain ⟨nC, hC⟩ : ∃ n, n = C.length := ⟨_, rfl⟩
  obtain ⟨nS, hS⟩ : ∃ n, n = S.length := ⟨_, rfl⟩
  obtain ⟨nB, hB⟩ : ∃ n, n = B.length := ⟨_, rfl⟩
  obtain ⟨mC, gC⟩ : ∃ n, n = C'.length := ⟨_, rfl⟩
  obtain ⟨mS, gSS⟩ : ∃ n, n = S'.length := ⟨_, rfl⟩
  obtain ⟨mB, gB⟩ : ∃ n, n = B'.length := ⟨_, rfl⟩
  rw [← hC, ← gC] at H0
  rw [← hC, ← hS, ← hB, ← gC, ← gSS, ← gB]
  rw [← hS] at hms
  rw [← hB] at hmb
  have HS := Lib.hid hS
  have HB := Lib.hid hB
  have GS := Lib.hid gSS
  have GB := Lib.hid gB
  clear hC hS hB gC gSS gB
  have HB0 : Hid (Lk w (w.alloc (.cells #[.slice a0 nC c0, .slice a1 nS c1, .slice a2 nB c2] 26)) (.slice a0 nC c0) (.slice a1 nS c1) (.slice a2 nB c2)) := Lib.hid (lk_new _ _ _ _ _)
  have HB1 : Hid (Bq ((w.alloc (.cells #[.slice a0 nC c0, .slice a1 nS c1, .slice a2 nB c2] 26)).alloc (.cells #[.slice b0 mC k0, .slice b1 mS k1, .slice b2 mB k2] 26)) (w.heap.size + 1) (.slice b0 mC k0) (.slice b1 mS k1) (.slice b2 mB k2)) := Lib.hid (by
    have h := bq_new (w.alloc (.cells #[.slice a0 nC c0, .slice a1 nS c1, .slice a2 nB c2] 26)) (.slice b0 mC k0) (.slice b1 mS k1) (.slice b2 mB k2) 26
    rwa [World.size_alloc] at h)
  have HL0 : Hid (Lk w ((w.alloc (.cells #[.slice a0 nC c0, .slice a1 nS c1, .slice a2 nB c2] 26)).alloc (.cells #[.slice b0 mC k0, .slice b1 mS k1, .slice b2 mB k2] 26)) (.slice a0 nC c0) (.slice a1 nS c1) (.slice a2 nB c2)) := Lib.hid (HB0.out.below ((Below.refl _ _).alloc (Nat.le_refl _) _))
  cases x0 with
  | false =>
    have HX : Hid (R = false) := Lib.hid (HRF0.out (of_decide_eq_false HX0.out.symm))
    go_enter Try.func15, Try.ntmps15
    go_wp2_with fail
    refine (H0.out _ HL0.out.1).mono ?_
    rintro e w1 ⟨rfl, r1⟩
    have L1 := Lib.hid (HL0.out.below r1)
    have M1 := Lib.hid (HB1.out.below r1)
    obtain ⟨_, p0, p1, p2⟩ := L1.out.2
    obtain ⟨_, q0, q1, q2⟩ := M1.out
    clear r1 HL0 HB0 HB1 H0
    go_wp2_with fail
    go_ret
    exact ⟨ret_bool HX.out.symm, L1.out.1⟩
  | true =>
    have HCC : Hid (C = C') := Lib.hid (of_decide_eq_true HX0.out.symm)
    by_cases e1 : nS ≠ mS
    · have HX : Hid (R = false) := Lib.hid (HRF1.out (fun e => e1 (by rw [HS.out, GS.out, e])))
      have e1' : ((nS : Int) != mS) = true := by simp; omega
      go_enter Try.func15, Try.ntmps15
      go_wp2_with fail
      refine (H0.out _ HL0.out.1).mono ?_
      rintro e w1 ⟨rfl, r1⟩
      have L1 := Lib.hid (HL0.out.below r1)
      have M1 := Lib.hid (HB1.out.below r1)
      obtain ⟨_, p0, p1, p2⟩ := L1.out.2
      obtain ⟨_, q0, q1, q2⟩ := M1.out
      clear r1 HL0 HB0 HB1 H0
      go_wp2_with fail
      go_ret
      exact ⟨ret_bool HX.out.symm, L1.out.1⟩
    have e1' : nS = mS := by omega
    subst e1'
    have e1'' : ((nS : Int) != nS) = false := by simp
    by_cases e2 : nB ≠ mB
    · have HX : Hid (R = false) := Lib.hid (HRF2.out (fun e => e2 (by rw [HB.out, GB.out, e])))
      have e2' : ((nB : Int) != mB) = true := by simp; omega
      go_enter Try.func15, Try.ntmps15
      go_wp2_with fail
      refine (H0.out _ HL0.out.1).mono ?_
      rintro e w1 ⟨rfl, r1⟩
      have L1 := Lib.hid (HL0.out.below r1)
      have M1 := Lib.hid (HB1.out.below r1)
      obtain ⟨_, p0, p1, p2⟩ := L1.out.2
      obtain ⟨_, q0, q1, q2⟩ := M1.out
      clear r1 HL0 HB0 HB1 H0
      go_wp2_with fail
      go_ret
      exact ⟨ret_bool HX.out.symm, L1.out.1⟩
    have e2' : nB = mB := by omega
    subst e2'
    have e2'' : ((nB : Int) != nB) = false := by simp
    clear e1 e2
    go_enter Try.func15, Try.ntmps15
    go_wp2_with fail
    refine (H0.out _ HL0.out.1).mono ?_
    rintro e w1 ⟨rfl, r1⟩
    have L1 := Lib.hid (HL0.out.below r1)
    have M1 := Lib.hid (HB1.out.below r1)
    obtain ⟨_, p0, p1, p2⟩ := L1.out.2
    obtain ⟨_, q0, q1, q2⟩ := M1.out
    clear r1 HL0 HB0 HB1 H0
    go_wp2_with fail
    clear p0 p1 p2 q0 q1 q2 e1'' e2''
    go_loopw [5] (fun v5 wr => ∃ i : Nat, i ≤ nS ∧ v5 = .int .i64 i ∧ Hid (∀ j, j < i → gS S j = gS S' j) ∧ Hid (Lk w wr (.slice a0 nC c0) (.slice a1 nS c1) (.slice a2 nB c2) ∧ Bq wr (w.heap.size + 1) (.slice b0 mC k0) (.slice b1 nS k1) (.slice b2 nB k2))) (fun v5 _ => nS - (intOf v5).toNat)
    case atStart => exact ⟨0, Nat.zero_le _, rfl, Lib.hid (fun j hj => by omega), Lib.hid ⟨L1.out, M1.out⟩⟩
    case round =>
      clear L1 M1
      obtain ⟨i, hi, rfl, HN, HL⟩ := hrel
      obtain ⟨_, p0, p1, p2⟩ := HL.out.1.2
      obtain ⟨_, q0, q1, q2⟩ := HL.out.2
      by_cases h1 : i < nS
      · obtain ⟨bb, off, rfl⟩ := HV1.out.addr (by rw [← HS.out]; omega)
        obtain ⟨bb', off', rfl⟩ := HU1.out.addr (by rw [← GS.out]; omega)
        obtain ⟨_, ad1, cp1, d0, hc1, hm1, iv1, _⟩ := (HV1.out.below HL.out.1.1).at_ (i := i) (by rw [← HS.out]; exact h1)
        obtain ⟨_, ad2, cp2, e0, hc2, hm2, iv2, _⟩ := (HU1.out.below HL.out.1.1).at_ (i := i) (by rw [← GS.out]; exact h1)
        have hg1 : (i : Int) < nS := by omega
        have hg0 : (0 : Int) ≤ i := by omega
        obtain ⟨p, hp⟩ : ∃ c, c = gS S i := ⟨_, rfl⟩
        obtain ⟨r, hr⟩ : ∃ c, c = gS S' i := ⟨_, rfl⟩
        rw [← hp] at d0 iv1 hc1
        rw [← hr] at e0 iv2 hc2
        have HP := Lib.hid hp
        have HQ := Lib.hid hr
        have HE0 : Hid (∀ W, Below wr.heap.size wr W → Calls Try.prog 16 #[.slice ad1 p.length cp1, .slice ad2 r.length cp2] W fun e w' => e = .returned (.bool (decide (p = r))) ∧ Below W.heap.size W w') := Lib.hid (fun W k => rsamei_any ad1 ad2 cp1 cp2 p r W (iv1.below k) (iv2.below k) (Nat.le_trans hc1 hm1))
        obtain ⟨l1, hl1⟩ : ∃ n, n = p.length := ⟨_, rfl⟩
        obtain ⟨l2, hl2⟩ : ∃ n, n = r.length := ⟨_, rfl⟩
        rw [← hl1] at d0 HE0
        rw [← hl2] at e0 HE0
        obtain ⟨y, hy⟩ : ∃ y, y = decide (p = r) := ⟨_, rfl⟩
        rw [← hy] at HE0
        have HY := Lib.hid hy
        clear hp hr iv1 iv2 hc1 hc2 hm1 hm2 hl1 hl2 hy
        have HE : Hid (∀ W, (W.cell? ⟨w.heap.size, 0, none⟩ = some (.slice a0 nC c0) ∧ W.cell? ⟨w.heap.size, 1, none⟩ = some (.slice (some ⟨bb, off, none⟩) nS c1) ∧ W.cell? ⟨w.heap.size, 2, none⟩ = some (.slice a2 nB c2) ∧ W.cell? ⟨w.heap.size + 1, 0, none⟩ = some (.slice b0 mC k0) ∧ W.cell? ⟨w.heap.size + 1, 1, none⟩ = some (.slice (some ⟨bb', off', none⟩) nS k1) ∧ W.cell? ⟨w.heap.size + 1, 2, none⟩ = some (.slice b2 nB k2) ∧ W.cell? ⟨bb, off + i, none⟩ = some (.slice ad1 l1 cp1) ∧ W.cell? ⟨bb', off' + i, none⟩ = some (.slice ad2 l2 cp2) ∧ Below wr.heap.size wr W) → Calls Try.prog 16 #[.slice ad1 l1 cp1, .slice ad2 l2 cp2] W fun e w' => e = .returned (.bool y) ∧ (w'.cell? ⟨w.heap.size, 0, none⟩ = some (.slice a0 nC c0) ∧ w'.cell? ⟨w.heap.size, 1, none⟩ = some (.slice (some ⟨bb, off, none⟩) nS c1) ∧ w'.cell? ⟨w.heap.size, 2, none⟩ = some (.slice a2 nB c2) ∧ w'.cell? ⟨w.heap.size + 1, 0, none⟩ = some (.slice b0 mC k0) ∧ w'.cell? ⟨w.heap.size + 1, 1, none⟩ = some (.slice (some ⟨bb', off', none⟩) nS k1) ∧ w'.cell? ⟨w.heap.size + 1, 2, none⟩ = some (.slice b2 nB k2) ∧ w'.cell? ⟨bb, off + i, none⟩ = some (.slice ad1 l1 cp1) ∧ w'.cell? ⟨bb', off' + i, none⟩ = some (.slice ad2 l2 cp2) ∧ Below wr.heap.size wr w')) := Lib.hid (fun W ⟨g0, g1, g2, g3, g4, g5, g6, g7, g8⟩ => by
          refine (HE0.out W g8).mono ?_
          rintro e w' ⟨rfl, k⟩
          exact ⟨rfl, cell_up g0 k, cell_up g1 k, cell_up g2 k, cell_up g3 k, cell_up g4 k, cell_up g5 k, cell_up g6 k, cell_up g7 k, g8.trans (k.mono g8.size)⟩)
        have hSS : (fun w' => w'.cell? ⟨w.heap.size, 0, none⟩ = some (.slice a0 nC c0) ∧ w'.cell? ⟨w.heap.size, 1, none⟩ = some (.slice (some ⟨bb, off, none⟩) nS c1) ∧ w'.cell? ⟨w.heap.size, 2, none⟩ = some (.slice a2 nB c2) ∧ w'.cell? ⟨w.heap.size + 1, 0, none⟩ = some (.slice b0 mC k0) ∧ w'.cell? ⟨w.heap.size + 1, 1, none⟩ = some (.slice (some ⟨bb', off', none⟩) nS k1) ∧ w'.cell? ⟨w.heap.size + 1, 2, none⟩ = some (.slice b2 nB k2) ∧ w'.cell? ⟨bb, off + i, none⟩ = some (.slice ad1 l1 cp1) ∧ w'.cell? ⟨bb', off' + i, none⟩ = some (.slice ad2 l2 cp2) ∧ Below wr.heap.size wr w') wr.drew := ⟨p0, p1, p2, q0, q1, q2, d0, e0, (Below.refl wr.heap.size wr).drew⟩
        dsimp only at hSS
        clear HE0
        cases y with
        | true =>
          have HN2' : Hid (∀ j, j < i + 1 → gS S j = gS S' j) := Lib.hid (upto_next HN.out (by rw [← HP.out, ← HQ.out]; exact of_decide_eq_true HY.out.symm))
          clear HN
          go_wp2_with fail
          go_region_held3 (fun w' => w'.cell? ⟨w.heap.size, 0, none⟩ = some (.slice a0 nC c0) ∧ w'.cell? ⟨w.heap.size, 1, none⟩ = some (.slice (some ⟨bb, off, none⟩) nS c1) ∧ w'.cell? ⟨w.heap.size, 2, none⟩ = some (.slice a2 nB c2) ∧ w'.cell? ⟨w.heap.size + 1, 0, none⟩ = some (.slice b0 mC k0) ∧ w'.cell? ⟨w.heap.size + 1, 1, none⟩ = some (.slice (some ⟨bb', off', none⟩) nS k1) ∧ w'.cell? ⟨w.heap.size + 1, 2, none⟩ = some (.slice b2 nB k2) ∧ w'.cell? ⟨bb, off + i, none⟩ = some (.slice ad1 l1 cp1) ∧ w'.cell? ⟨bb', off' + i, none⟩ = some (.slice ad2 l2 cp2) ∧ Below wr.heap.size wr w')
            ((first | exact hSS | assumption))
            (first | (go_at_call 16; refine (HE.out _ (by assumption)).mono ?_; rintro e w' ⟨rfl, hS2⟩))
          go_wp2_with fail
          go_roundw
          case rel =>
            have hF := HL.out
            refine ⟨i + 1, by omega, by go_num, HN2', Lib.hid ?_⟩
            have hB : Below wr.heap.size wr _ := last8 (by assumption)
            exact ⟨hF.1.below hB, hF.2.below hB⟩
          case measure => simp [intOf]; omega
        | false =>
          have HX : Hid (R = false) := Lib.hid (HRF1.out (fun e => of_decide_eq_false HY.out.symm (by rw [HP.out, HQ.out, e])))
          clear HN
          go_wp2_with fail
          go_region_held3 (fun w' => w'.cell? ⟨w.heap.size, 0, none⟩ = some (.slice a0 nC c0) ∧ w'.cell? ⟨w.heap.size, 1, none⟩ = some (.slice (some ⟨bb, off, none⟩) nS c1) ∧ w'.cell? ⟨w.heap.size, 2, none⟩ = some (.slice a2 nB c2) ∧ w'.cell? ⟨w.heap.size + 1, 0, none⟩ = some (.slice b0 mC k0) ∧ w'.cell? ⟨w.heap.size + 1, 1, none⟩ = some (.slice (some ⟨bb', off', none⟩) nS k1) ∧ w'.cell? ⟨w.heap.size + 1, 2, none⟩ = some (.slice b2 nB k2) ∧ w'.cell? ⟨bb, off + i, none⟩ = some (.slice ad1 l1 cp1) ∧ w'.cell? ⟨bb', off' + i, none⟩ = some (.slice ad2 l2 cp2) ∧ Below wr.heap.size wr w')
            ((first | exact hSS | assumption))
            (first | (go_at_call 16; refine (HE.out _ (by assumption)).mono ?_; rintro e w' ⟨rfl, hS2⟩))
          go_wp2_with fail
          go_ret
          have hB : Below wr.heap.size wr _ := last8 (by assumption)
          exact ⟨ret_bool HX.out.symm, (HL.out.1.below hB).1⟩
      · have e3 : i = nS := by omega
        have HSS : Hid (S = S') := Lib.hid (gS_ext (by rw [← HS.out, ← GS.out]) (fun j hj => HN.out j (by rw [e3, HS.out]; exact hj)))
        have hg1 : ¬ (i : Int) < nS := by omega
        clear HN e3
        go_wp2_with fail
        clear p0 p1 p2 q0 q1 q2 hg1
        go_loopw [6] (fun v6 wr => ∃ i : Nat, i ≤ nB ∧ v6 = .int .i64 i ∧ Hid (∀ j, j < i → gB B j = gB B' j) ∧ Hid (Lk w wr (.slice a0 nC c0) (.slice a1 nS c1) (.slice a2 nB c2) ∧ Bq wr (w.heap.size + 1) (.slice b0 mC k0) (.slice b1 nS k1) (.slice b2 nB k2))) (fun v6 _ => nB - (intOf v6).toNat)
        case atStart => exact ⟨0, Nat.zero_le _, rfl, Lib.hid (fun j hj => by omega), HL⟩
        case round =>
          clear HL
          obtain ⟨i, hi, rfl, HN, HL⟩ := hrel
          obtain ⟨_, p0, p1, p2⟩ := HL.out.1.2
          obtain ⟨_, q0, q1, q2⟩ := HL.out.2
          by_cases h1 : i < nB
          · obtain ⟨bb, off, rfl⟩ := HV2.out.addr (by rw [← HB.out]; omega)
            obtain ⟨bb', off', rfl⟩ := HU2.out.addr (by rw [← GB.out]; omega)
            obtain ⟨_, d0⟩ := (HV2.out.below HL.out.1.1).at_ (i := i) (by rw [← HB.out]; exact h1)
            obtain ⟨_, e0⟩ := (HU2.out.below HL.out.1.1).at_ (i := i) (by rw [← GB.out]; exact h1)
            have hg1 : (i : Int) < nB := by omega
            have hg0 : (0 : Int) ≤ i := by omega
            obtain ⟨p, hp⟩ : ∃ c, c = gB B i := ⟨_, rfl⟩
            obtain ⟨r, hr⟩ : ∃ c, c = gB B' i := ⟨_, rfl⟩
            rw [← hp] at d0
            rw [← hr] at e0
            have HP := Lib.hid hp
            have HQ := Lib.hid hr
            clear hp hr
            by_cases hcd : p = r
            · have HN2' : Hid (∀ j, j < i + 1 → gB B j = gB B' j) := Lib.hid (upto_next HN.out (by rw [← HP.out, ← HQ.out]; exact hcd))
              subst hcd
              have hq : (p != p) = false := by simp
              clear HN
              go_wp2_with fail
              go_quiet (fail)
              go_wp2_with fail
              go_roundw
              case rel => exact ⟨i + 1, by omega, by go_num, HN2', Lib.hid ⟨HL.out.1.drew _, HL.out.2.drew _⟩⟩
              case measure => simp [intOf]; omega
            · have HX : Hid (R = false) := Lib.hid (HRF2.out (fun e => hcd (by rw [HP.out, HQ.out, e])))
              have hq : (p != r) = true := by simpa using hcd
              have hq2 : (p == r) = false := by rw [beq_eq_false_iff_ne]; exact hcd
              clear HN hcd
              go_wp2_with fail
              go_quiet (fail)
              go_wp2_with fail
              go_ret
              exact ⟨ret_bool HX.out.symm, (HL.out.1.drew _).1⟩
          · have e3 : i = nB := by omega
            have HX : Hid (R = true) := Lib.hid (HRT.out HCC.out HSS.out (gB_ext (by rw [← HB.out, ← GB.out]) (fun j hj => HN.out j (by rw [e3, HB.out]; exact hj))))
            have hg1 : ¬ (i : Int) < nB := by omega
            clear HN e3
            go_wp2_with fail
            go_ret
            exact ⟨ret_bool HX.out.symm, HL.out.1.1⟩
end Go.Proofs.Ythaliiffgkcahaa

/- Layer 10: whether two are the same: EqualFunc of rows; the program's Same and the document's. -/
import Derived.Test.YthaliiffgkcahaaS4
namespace Go.Proofs.Ythaliiffgkcahaa
open Go.RowKit Go.Maps
set_option maxRecDepth 20000 in
theorem eqS_any (a1 a2 : Option Addr) (c1 c2 : Nat) (L M : List (List Int)) (w : World) (hv1 : SV w a1 L) (hv2 : SV w a2 M) (hn : L.length ≤ maxLen) : Calls Try.prog 24 #[.slice a1 L.length c1, .slice a2 M.length c2, .func (.func 23) #[] #[]] w fun r w' => r = .returned (.bool (decide (L = M))) ∧ Below w.heap.size w w' := by
  unfold maxLen at hn
  obtain ⟨x, hx⟩ : ∃ x, x = decide (L = M) := ⟨_, rfl⟩
  rw [← hx]
  replace hx := Lib.hid hx
  have HV1 := Lib.hid hv1
  have HV2 := Lib.hid hv2
  obtain ⟨n1, hn1⟩ : ∃ n, n = L.length := ⟨_, rfl⟩
  obtain ⟨n2, hn2⟩ : ∃ n, n = M.length := ⟨_, rfl⟩
  rw [← hn1, ← hn2]
  rw [← hn1] at hn
  have HN1 := Lib.hid hn1
  have HN2 := Lib.hid hn2
  clear hv1 hv2 hn1 hn2
  by_cases he : n1 = n2
  · subst he
    have hn' : (n1 : Int) ≤ 9223372036854775807 := by omega
    have hne : ((n1 : Int) != n1) = false := by simp
    go_enter Try.func24, Try.ntmps24
    go_wp2_with fail
    go_loopw [7, 8, 9, 17] (fun _ _ _ v5 wr => ∃ i : Nat, i ≤ n1 ∧ v5 = .int .i64 i ∧ Hid (∀ j, j < i → gS L j = gS M j) ∧ Hid (Below w.heap.size w wr)) (fun _ _ _ v5 _ => n1 - (intOf v5).toNat)
    case atStart => exact ⟨0, Nat.zero_le _, rfl, Lib.hid (fun j hj => by omega), Lib.hid (Below.refl _ _)⟩
    case round =>
      obtain ⟨i, hi, rfl, HN, HB⟩ := hrel
      by_cases h1 : i < n1
      · obtain ⟨b, off, rfl⟩ := HV1.out.addr (by rw [← HN1.out]; omega)
        obtain ⟨b', off', rfl⟩ := HV2.out.addr (by rw [← HN2.out]; omega)
        obtain ⟨_, ad1, cp1, d0, hc1, hm1, iv1, _⟩ := (HV1.out.below HB.out).at_ (i := i) (by rw [← HN1.out]; exact h1)
        obtain ⟨_, ad2, cp2, e0, hc2, hm2, iv2, _⟩ := (HV2.out.below HB.out).at_ (i := i) (by rw [← HN2.out]; exact h1)
        have hg1 : (i : Int) < n1 := by omega
        have hg0 : (0 : Int) ≤ i := by omega
        obtain ⟨p, hp⟩ : ∃ c, c = gS L i := ⟨_, rfl⟩
        obtain ⟨r, hr⟩ : ∃ c, c = gS M i := ⟨_, rfl⟩
        rw [← hp] at d0 iv1 hc1
        rw [← hr] at e0 iv2 hc2
        have HP := Lib.hid hp
        have HQ := Lib.hid hr
        have HE : Hid (Calls Try.prog 23 #[.slice ad1 p.length cp1, .slice ad2 r.length cp2] wr fun e w' => e = .returned (.bool (decide (p = r))) ∧ Below wr.heap.size wr w') := Lib.hid (eqI_any ad1 ad2 cp1 cp2 p r wr iv1 iv2 (Nat.le_trans hc1 hm1))
        obtain ⟨l1, hl1⟩ : ∃ n, n = p.length := ⟨_, rfl⟩
        obtain ⟨l2, hl2⟩ : ∃ n, n = r.length := ⟨_, rfl⟩
        rw [← hl1] at d0 HE
        rw [← hl2] at e0 HE
        clear hp hr iv1 iv2 hc1 hc2 hm1 hm2 hl1 hl2
        by_cases hcd : p = r
        · have HN2' : Hid (∀ j, j < i + 1 → gS L j = gS M j) := Lib.hid (upto_next HN.out (by rw [← HP.out, ← HQ.out]; exact hcd))
          rw [decide_eq_true hcd] at HE
          clear HN hcd
          go_wp2_with fail
          refine HE.out.mono ?_
          rintro e w1 ⟨rfl, b1⟩
          have B1 := Lib.hid (HB.out.trans (b1.mono HB.out.size))
          clear b1
          go_wp2_with fail
          go_roundw
          case rel => exact ⟨i + 1, by omega, by go_num, HN2', B1⟩
          case measure => simp [intOf]; omega
        · have HX : Hid (x = false) := Lib.hid (by
            rw [hx.out]
            refine decide_eq_false (fun e => hcd ?_)
            rw [HP.out, HQ.out, e])
          rw [decide_eq_false hcd] at HE
          clear HN hcd
          go_wp2_with fail
          refine HE.out.mono ?_
          rintro e w1 ⟨rfl, b1⟩
          have B1 := Lib.hid (HB.out.trans (b1.mono HB.out.size))
          clear b1
          go_wp2_with fail
          go_ret
          exact ⟨ret_bool HX.out.symm, B1.out⟩
      · have e1 : i = n1 := by omega
        subst e1
        have HX : Hid (x = true) := Lib.hid (by rw [hx.out]; exact decide_eq_true (gS_ext (by rw [← HN1.out, ← HN2.out]) (fun j hj => HN.out j (by rw [HN1.out]; exact hj))))
        have hg1 : ¬ (i : Int) < i := by omega
        clear HN
        go_wp2_with fail
        go_ret
        exact ⟨ret_bool HX.out.symm, HB.out⟩
  · have HX : Hid (x = false) := Lib.hid (by rw [hx.out]; exact decide_eq_false (fun e => he (by rw [HN1.out, HN2.out, e])))
    have hne : ((n1 : Int) != n2) = true := by simp; omega
    go_enter Try.func24, Try.ntmps24
    go_wp2_with fail
    go_ret
    exact ⟨ret_bool HX.out.symm, Below.refl _ _⟩

/-- Two are the same. -/
def sameD (d e : DF) : Bool := decide (d.C = e.C) && decide (d.S = e.S) && decide (d.B = e.B)
theorem sameD_iff {d e : DF} : sameD d e = true ↔ d = e := by
  unfold sameD
  simp only [Bool.and_eq_true, decide_eq_true_eq]
  constructor
  · rintro ⟨⟨h1, h2⟩, h3⟩
    cases d; cases e
    simp only at h1 h2 h3
    rw [h1, h2, h3]
  · rintro rfl
    exact ⟨⟨rfl, rfl⟩, rfl⟩
set_option maxRecDepth 20000 in
set_option maxHeartbeats 1000000 in
theorem same_any (a b : DA) (d e : DF) (w : World) (hv : DV w a d) (hu : DV w b e) : Calls Try.prog 14 #[dv a d, dv b e] w fun r w' => r = .returned (.bool (sameD d e)) ∧ Below w.heap.size w w' := by
  have H0 := Lib.hid (fun w1 (k : Below w.heap.size w w1) => eqI_any a.a0 b.a0 a.c0 b.c0 d.C e.C w1 (hv.below k).iv (hu.below k).iv (Nat.le_trans hv.l0 hv.m0))
  have H1 := Lib.hid (fun w1 (k : Below w.heap.size w w1) => eqS_any a.a1 b.a1 a.c1 b.c1 d.S e.S w1 (hv.below k).sv (hu.below k).sv (Nat.le_trans hv.l1 hv.m1))
  have H2 := Lib.hid (fun w1 (k : Below w.heap.size w w1) => eqB_any a.a2 b.a2 a.c2 b.c2 d.B e.B w1 (hv.below k).bv (hu.below k).bv (Nat.le_trans hv.l2 hv.m2))
  obtain ⟨R, hR⟩ : ∃ R, R = sameD d e := ⟨_, rfl⟩
  rw [← hR]
  have HR : Hid (R = (decide (d.C = e.C) && decide (d.S = e.S) && decide (d.B = e.B))) := Lib.hid hR
  clear hR hv hu
  obtain ⟨a0, a1, a2, c0, c1, c2⟩ := a
  obtain ⟨b0, b1, b2, k0, k1, k2⟩ := b
  obtain ⟨C, S, B⟩ := d
  obtain ⟨C', S', B'⟩ := e
  unfold dv
  dsimp only at H0 H1 H2 HR ⊢
  obtain ⟨x0, hx0⟩ : ∃ x, x = decide (C = C') := ⟨_, rfl⟩
  obtain ⟨x1, hx1⟩ : ∃ x, x = decide (S = S') := ⟨_, rfl⟩
  obtain ⟨x2, hx2⟩ : ∃ x, x = decide (B = B') := ⟨_, rfl⟩
  rw [← hx0] at H0
  rw [← hx1] at H1
  rw [← hx2] at H2
  rw [← hx0, ← hx1, ← hx2] at HR
  clear hx0 hx1 hx2
  obtain ⟨nC, hC⟩ : ∃ n, n = C.length := ⟨_, rfl⟩
  obtain ⟨nS, hS⟩ : ∃ n, n = S.length := ⟨_, rfl⟩
  obtain ⟨nB, hB⟩ : ∃ n, n = B.length := ⟨_, rfl⟩
  obtain ⟨mC, gC⟩ : ∃ n, n = C'.length := ⟨_, rfl⟩
  obtain ⟨mS, gS⟩ : ∃ n, n = S'.length := ⟨_, rfl⟩
  obtain ⟨mB, gB⟩ : ∃ n, n = B'.length := ⟨_, rfl⟩
  rw [← hC, ← gC] at H0
  rw [← hS, ← gS] at H1
  rw [← hB, ← gB] at H2
  rw [← hC, ← hS, ← hB, ← gC, ← gS, ← gB]
  clear hC hS hB gC gS gB
  have HB0 : Hid (Lk w (w.alloc (.cells #[.slice a0 nC c0, .slice a1 nS c1, .slice a2 nB c2] 26)) (.slice a0 nC c0) (.slice a1 nS c1) (.slice a2 nB c2)) := Lib.hid (lk_new _ _ _ _ _)
  have HB1 : Hid (Bq ((w.alloc (.cells #[.slice a0 nC c0, .slice a1 nS c1, .slice a2 nB c2] 26)).alloc (.cells #[.slice b0 mC k0, .slice b1 mS k1, .slice b2 mB k2] 26)) (w.heap.size + 1) (.slice b0 mC k0) (.slice b1 mS k1) (.slice b2 mB k2)) := Lib.hid (by
    have h := bq_new (w.alloc (.cells #[.slice a0 nC c0, .slice a1 nS c1, .slice a2 nB c2] 26)) (.slice b0 mC k0) (.slice b1 mS k1) (.slice b2 mB k2) 26
    rwa [World.size_alloc] at h)
  have HL0 : Hid (Lk w ((w.alloc (.cells #[.slice a0 nC c0, .slice a1 nS c1, .slice a2 nB c2] 26)).alloc (.cells #[.slice b0 mC k0, .slice b1 mS k1, .slice b2 mB k2] 26)) (.slice a0 nC c0) (.slice a1 nS c1) (.slice a2 nB c2)) := Lib.hid (HB0.out.below ((Below.refl _ _).alloc (Nat.le_refl _) _))
  go_enter Try.func14, Try.ntmps14
  go_wp2_with fail
  refine (H0.out _ HL0.out.1).mono ?_
  rintro e w1 ⟨rfl, r1⟩
  have L1 := Lib.hid (HL0.out.below r1)
  have M1 := Lib.hid (HB1.out.below r1)
  obtain ⟨_, p0, p1, p2⟩ := L1.out.2
  obtain ⟨_, q0, q1, q2⟩ := M1.out
  clear r1 HL0 HB0 HB1 H0
  cases x0 with
  | false =>
    go_wp2_with fail
    go_ret
    exact ⟨ret_bool (by rw [HR.out]; rfl), L1.out.1⟩
  | true =>
    go_wp2_with fail
    refine (H1.out _ L1.out.1).mono ?_
    rintro e w2 ⟨rfl, r1⟩
    have L2 := Lib.hid (L1.out.below r1)
    have M2 := Lib.hid (M1.out.below r1)
    clear p0 p1 p2 q0 q1 q2
    obtain ⟨_, p0, p1, p2⟩ := L2.out.2
    obtain ⟨_, q0, q1, q2⟩ := M2.out
    clear r1 H1 L1 M1
    cases x1 with
    | false =>
      go_wp2_with fail
      go_ret
      exact ⟨ret_bool (by rw [HR.out]; rfl), L2.out.1⟩
    | true =>
      go_wp2_with fail
      refine (H2.out _ L2.out.1).mono ?_
      rintro e w3 ⟨rfl, r1⟩
      have L3 := Lib.hid (L2.out.below r1)
      clear p0 p1 p2 q0 q1 q2 r1 H2 L2 M2
      go_wp2_with fail
      go_ret
      exact ⟨ret_bool (by rw [HR.out]; simp), L3.out.1⟩
end Go.Proofs.Ythaliiffgkcahaa

/- Layer 6: Norm, Or, And. -/
import Derived.Test.YtlngdohkoeognaaBM
namespace Go.Proofs.Ytlngdohkoeognaa
open Go.RowKit Go.Maps
theorem norm_big {L : List Rg} (h : 256 < L.length) : normP L = ([], 4) := if_pos h
theorem norm_bad {L : List Rg} (h : ¬ 256 < L.length) {i : Nat} (hi : i < L.length) (hb : okR (gR L i) = false) : normP L = ([], 8) := by
  unfold normP
  rw [if_neg h, if_neg]
  intro k
  rw [List.all_eq_true] at k
  rw [k _ (gR_mem hi)] at hb
  cases hb
theorem all_at {L : List Rg} (k : ∀ i, i < L.length → okR (gR L i) = true) : ∀ r ∈ L, okR r = true := by
  intro r hr
  obtain ⟨j, hj, rfl⟩ := List.mem_iff_getElem.1 hr
  have g := gR_get hj
  rw [List.getElem?_eq_getElem hj] at g
  simp only [Option.some.injEq] at g
  rw [g]
  exact k j hj
theorem norm_ok {L : List Rg} (h : ¬ 256 < L.length) (k : ∀ r ∈ L, okR r = true) : normP L = (uniC L, 0) := by
  unfold normP
  rw [if_neg h, if_pos (List.all_eq_true.2 k)]
theorem union_uni (v : Value) (L : List Rg) (w : World) (h : SlR w v L) (hok : ∀ r ∈ L, okR r = true) (hn : L.length ≤ 100000) : Calls Try.prog 39 #[v] w fun e w' => ∃ v', e = .returned v' ∧ Own w' w.heap.size v' (uniC L) ∧ Below w.heap.size w w' ∧ (uniC L).length ≤ L.length := by
  obtain ⟨a, c, rfl, h1, _, _, h4⟩ := h
  refine (union_any a c L w h1 hok hn h4).mono ?_
  rintro e w' ⟨v', M, rfl, o, b, k1, k2, k3⟩
  have e := cn_uniC hok k1 k2
  subst e
  exact ⟨_, rfl, o, b, k3⟩
set_option maxRecDepth 20000 in
theorem norm_any (v : Value) (L : List Rg) (w : World) (h : SlR w v L) : Calls Try.prog 12 #[v] w (TwoPost w (normP L)) := by
  have HS := Lib.hid h
  obtain ⟨a, c, rfl, hv, hlc, hcm, hnn⟩ := h
  obtain ⟨m, hlm⟩ : ∃ m, m = L.length := ⟨_, rfl⟩
  rw [← hlm] at HS ⊢
  have HM := Lib.hid hlm
  have HV := Lib.hid hv
  clear hlm hv hlc hcm hnn
  by_cases hm : 256 < m
  · have hR : Hid (normP L = ([], 4)) := Lib.hid (norm_big (by rw [← HM.out]; exact hm))
    have hm' : (256 : Int) < (m : Int) := by omega
    clear hm
    go_enter Try.func12, Try.ntmps12
    go_wp2_with fail
    go_ret2
    rw [hR.out]
    exact ⟨_, rfl, Own.nil _ _, Below.refl _ _⟩
  have hm' : ¬ (256 : Int) < (m : Int) := by omega
  have HNB : Hid (¬ 256 < L.length) := Lib.hid (by rw [← HM.out]; exact hm)
  go_enter Try.func12, Try.ntmps12
  go_wp2_with fail
  go_loopg [11] m (fun f v wr => ∃ i : Nat, v = .int .i64 (i : Nat) ∧ i ≤ m ∧ m - i ≤ f ∧ (∀ j, j < i → okR (gR L j) = true) ∧ Below w.heap.size w wr)
  case atStart => exact ⟨0, rfl, by omega, by omega, fun j hj => absurd hj (Nat.not_lt_zero j), Below.refl _ _⟩
  case round =>
    obtain ⟨i, rfl, him, hf, hok, hb⟩ := hrel
    have HOK := Lib.hid hok
    have HB := Lib.hid hb
    have HF := Lib.hid hf
    by_cases hlt : i < m
    · obtain ⟨b, off, rfl, hbb, c0, c1⟩ := (HV.out.below hb) i (by rw [← HM.out]; exact hlt)
      obtain ⟨x, hx⟩ : ∃ x, x = (gR L i).1 := ⟨_, rfl⟩
      obtain ⟨y, hy⟩ : ∃ x, x = (gR L i).2 := ⟨_, rfl⟩
      rw [← hx] at c0
      rw [← hy] at c1
      have HXY : Hid (gR L i = (x, y)) := Lib.hid (by rw [hx, hy])
      have hlt' : (i : Int) < (m : Int) := by omega
      have hbig : (i : Int) + 1 ≤ 9223372036854775807 := by omega
      have HLT := Lib.hid hlt
      obtain ⟨ob, hob⟩ : ∃ ob, ob = okR (x, y) := ⟨_, rfl⟩
      have HMB : Hid (∀ W, Calls Try.prog 38 #[.agg #[.int .i64 x, .int .i64 y]] W fun e w' => e = .returned (.bool ob) ∧ Below W.heap.size W w') := Lib.hid (fun W => by rw [hob]; exact mayBe_any x y W)
      have HOB := Lib.hid hob
      clear him hok hb hf hbb hx hy hlt hm hob
      go_wp2_with fail
      refine (HMB.out _).mono ?_
      rintro e w1 ⟨rfl, b1⟩
      have B1 : Hid (Below w.heap.size w w1) := Lib.hid ((HB.out.alloc HB.out.size _).trans (b1.mono (by have := HB.out.size; simp; omega)))
      clear b1
      cases ob with
      | false =>
        have hR : Hid (normP L = ([], 8)) := Lib.hid (norm_bad HNB.out (i := i) (by rw [← HM.out]; exact HLT.out) (by rw [HXY.out, ← HOB.out]))
        go_wp2_with fail
        go_ret2
        rw [hR.out]
        exact ⟨_, rfl, Own.nil _ _, B1.out⟩
      | true =>
        have HNX : Hid (∀ j, j < i + 1 → okR (gR L j) = true) := Lib.hid (upto_next HOK.out (by rw [HXY.out, ← HOB.out]))
        go_wp2_with fail
        go_roundg (gk - 1)
        case measure => have := HF.out; have := HLT.out; omega
        case rel => exact ⟨i + 1, by rw [show ((i + 1 : Nat) : Int) = (i : Int) + 1 by omega], by have := HLT.out; omega, by have := HF.out; omega, HNX.out, B1.out⟩
    · have e9 : i = m := by omega
      subst e9
      have hall : ∀ r ∈ L, okR r = true := all_at (by rw [← HM.out]; exact hok)
      have hR : Hid (normP L = (uniC L, 0)) := Lib.hid (norm_ok HNB.out hall)
      have HU : Hid (∀ w1, Below w.heap.size w w1 → Calls Try.prog 39 #[.slice a i c] w1 fun e w' => ∃ v', e = .returned v' ∧ Own w' w1.heap.size v' (uniC L) ∧ Below w1.heap.size w1 w' ∧ (uniC L).length ≤ L.length) := Lib.hid (fun w1 b => union_uni _ L w1 (HS.out.below b) hall (by have := HNB.out; omega))
      clear him hok hf hlt hall hb hm
      go_wp2_with fail
      refine (HU.out _ HB.out).mono ?_
      rintro e w1 ⟨v1, rfl, o1, b1, _⟩
      have O1 : Hid (Own w1 w.heap.size v1 (uniC L)) := Lib.hid (Own.base o1 HB.out.size)
      have B1 : Hid (Below w.heap.size w w1) := Lib.hid (HB.out.trans (b1.mono HB.out.size))
      clear o1 b1
      go_wp2_with fail
      go_ret2
      rw [hR.out]
      exact ⟨_, rfl, O1.out, B1.out⟩
def okA (L : List Rg) : Prop := ∀ r ∈ L, okR r = true
theorem two_view (w : World) (v1 v2 : Value) (A B : List Rg) (h1 : SlR w v1 A) (h2 : SlR w v2 B) : SV (w.alloc (.cells #[v1, v2] 22)) (some ⟨w.heap.size, 0, none⟩) [A, B] := by
  have k1 := h1.below ((Below.refl _ w).alloc (Nat.le_refl _) (.cells #[v1, v2] 22))
  have k2 := h2.below ((Below.refl _ w).alloc (Nat.le_refl _) (.cells #[v1, v2] 22))
  obtain ⟨a1, c1, rfl, r1, l1, m1, n1⟩ := k1
  obtain ⟨a2, c2, rfl, r2, l2, m2, n2⟩ := k2
  intro i hi
  rcases (by simp at hi; omega : i = 0 ∨ i = 1) with rfl | rfl
  · exact ⟨w.heap.size, 0, rfl, by simp, a1, c1, by simp, l1, m1, r1, n1⟩
  · exact ⟨w.heap.size, 0, rfl, by simp, a2, c2, by simp, l2, m2, r2, n2⟩
/-- The numbers of two, put together. -/
theorem concat_two (w : World) (v1 v2 : Value) (A B : List Rg) (h1 : SlR w v1 A) (h2 : SlR w v2 B) (hA : A.length ≤ 1000) (hB : B.length ≤ 1000) :
    Calls Try.prog 45 #[.slice (some ⟨w.heap.size, 0, none⟩) 2 2] (w.alloc (.cells #[v1, v2] 22)) fun e w' => ∃ v, e = .returned v ∧ SlR w' v (A ++ B) ∧ Below w.heap.size w w' := by
  have h := concat_any (some ⟨w.heap.size, 0, none⟩) 2 [A, B] _ (two_view w v1 v2 A B h1 h2) (by simp) (by simp; omega)
  refine h.mono ?_
  rintro e w' ⟨v, rfl, o, b⟩
  refine ⟨v, rfl, ?_, ((Below.refl _ w).alloc (Nat.le_refl _) _).trans (b.mono (by simp))⟩
  have := o.slr
  simpa using this
theorem or_ck {A B : List Rg} (h1 : ckL A = true) (h2 : ckL B = true) : orP A B = capP (orC A B) := by unfold orP; rw [h1, h2]; rfl
theorem or_no {A B : List Rg} (h : ckL A = false ∨ ckL B = false) : orP A B = ([], 8) := by
  unfold orP
  rw [if_neg]
  rcases h with h | h <;> simp [h]
theorem and_ck {A B : List Rg} (h1 : ckL A = true) (h2 : ckL B = true) : andP A B = capP (andC A B) := by unfold andP; rw [h1, h2]; rfl
theorem and_no {A B : List Rg} (h : ckL A = false ∨ ckL B = false) : andP A B = ([], 8) := by
  unfold andP
  rw [if_neg]
  rcases h with h | h <;> simp [h]
set_option maxRecDepth 20000 in
theorem or_any (v1 v2 : Value) (A B : List Rg) (w : World) (h1 : SlR w v1 A) (h2 : SlR w v2 B) : Calls Try.prog 19 #[v1, v2] w (TwoPost w (orP A B)) := by
  have HS1 := Lib.hid h1
  have HS2 := Lib.hid h2
  cases k1 : ckL A with
  | false =>
    have HC := Lib.hid (check_not v1 A w h1 k1)
    have hR : Hid (orP A B = ([], 8)) := Lib.hid (or_no (.inl k1))
    obtain ⟨a, c, rfl, h1⟩ := h1
    obtain ⟨a2, c2, rfl, h2⟩ := h2
    clear h1 h2 k1 HS1 HS2
    go_enter Try.func19, Try.ntmps19
    go_wp2_with fail
    refine HC.out.mono ?_
    rintro e w1 ⟨rfl, b1⟩
    have B1 := Lib.hid b1
    clear b1
    go_wp2_with fail
    go_ret2
    rw [hR.out]
    exact ⟨_, rfl, Own.nil _ _, B1.out⟩
  | true =>
    have HC := Lib.hid (check_yes v1 A w h1 k1)
    cases k2 : ckL B with
    | false =>
      have HC2 : Hid (∀ w1, Below w.heap.size w w1 → Calls Try.prog 15 #[v2] w1 fun e w' => e = .returned (.int .i64 8) ∧ Below w1.heap.size w1 w') := Lib.hid (fun w1 b => check_not v2 B w1 (h2.below b) k2)
      have hR : Hid (orP A B = ([], 8)) := Lib.hid (or_no (.inr k2))
      obtain ⟨a, c, rfl, h1⟩ := h1
      obtain ⟨a2, c2, rfl, h2⟩ := h2
      clear h1 h2 k1 k2 HS1 HS2
      go_enter Try.func19, Try.ntmps19
      go_wp2_with fail
      refine HC.out.mono ?_
      rintro e w1 ⟨rfl, b1⟩
      have B1 := Lib.hid b1
      clear b1
      go_wp2_with fail
      refine (HC2.out _ B1.out).mono ?_
      rintro e w2 ⟨rfl, b2⟩
      have B2 : Hid (Below w.heap.size w w2) := Lib.hid (B1.out.trans (b2.mono B1.out.size))
      clear b2
      go_wp2_with fail
      go_ret2
      rw [hR.out]
      exact ⟨_, rfl, Own.nil _ _, B2.out⟩
    | true =>
      have HC2 : Hid (∀ w1, Below w.heap.size w w1 → Calls Try.prog 15 #[v2] w1 fun e w' => e = .returned (.int .i64 0) ∧ Below w1.heap.size w1 w') := Lib.hid (fun w1 b => check_yes v2 B w1 (h2.below b) k2)
      have hA := ck_cn k1
      have hB := ck_cn k2
      have hokA := cn_ok (Int.le_refl _) hA.2
      have hokB := cn_ok (Int.le_refl _) hB.2
      have HCC : Hid (∀ w1, Below w.heap.size w w1 → Calls Try.prog 45 #[.slice (some ⟨w1.heap.size, 0, none⟩) 2 2] (w1.alloc (.cells #[v1, v2] 22)) fun e w' => ∃ v, e = .returned v ∧ SlR w' v (A ++ B) ∧ Below w1.heap.size w1 w') := Lib.hid (fun w1 b => concat_two w1 v1 v2 A B (h1.below b) (h2.below b) (by omega) (by omega))
      have HUU : Hid (∀ v w1, SlR w1 v (A ++ B) → Calls Try.prog 39 #[v] w1 fun e w' => ∃ v', e = .returned v' ∧ Own w' w1.heap.size v' (orC A B) ∧ Below w1.heap.size w1 w' ∧ (orC A B).length ≤ (A ++ B).length) := Lib.hid (fun v w1 hs1 => by
        have := union_uni v (A ++ B) w1 hs1 (app_ok hokA hokB) (by simp; omega)
        obtain ⟨u1, u2⟩ := uniC_ok (app_ok hokA hokB)
        rw [cn_orC hokA hokB u1 u2] at this
        exact this)
      have hR : Hid (orP A B = capP (orC A B)) := Lib.hid (or_ck k1 k2)
      have hLL : Hid ((A ++ B).length ≤ 1000000) := Lib.hid (by simp; omega)
      obtain ⟨P, hP⟩ : ∃ P, P = A ++ B := ⟨_, rfl⟩
      rw [← hP] at HCC HUU hLL
      obtain ⟨a, c, rfl, h1⟩ := h1
      obtain ⟨a2, c2, rfl, h2⟩ := h2
      clear h1 h2 k1 k2 hA hB hokA hokB hP
      go_enter Try.func19, Try.ntmps19
      go_wp2_with fail
      refine HC.out.mono ?_
      rintro e w1 ⟨rfl, b1⟩
      have B1 := Lib.hid b1
      clear b1
      go_wp2_with fail
      refine (HC2.out _ B1.out).mono ?_
      rintro e w2 ⟨rfl, b2⟩
      have B2 : Hid (Below w.heap.size w w2) := Lib.hid (B1.out.trans (b2.mono B1.out.size))
      clear b2
      go_wp2_with fail
      refine (HCC.out _ B2.out).mono ?_
      rintro e w3 ⟨v3, rfl, s3, b3⟩
      have S3 := Lib.hid s3
      have B3 : Hid (Below w.heap.size w w3) := Lib.hid (B2.out.trans (b3.mono B2.out.size))
      obtain ⟨a3, c3, rfl, _⟩ := s3
      clear b3
      go_wp2_with fail
      refine (HUU.out _ _ S3.out).mono ?_
      rintro e w4 ⟨v4, rfl, o4, b4, l4⟩
      have HCap := Lib.hid (capped_any (w0 := w) v4 (orC A B) w4 (Own.base o4 B3.out.size) (B3.out.trans (b4.mono B3.out.size)) (Nat.le_trans l4 hLL.out))
      clear o4 b4 l4
      go_wp2_with fail
      refine HCap.out.mono ?_
      rintro e w5 ⟨v5, rfl, o5, b5⟩
      have O5 := Lib.hid o5
      have B5 := Lib.hid b5
      clear o5 b5
      go_wp2_with fail
      go_ret2
      rw [hR.out]
      exact ⟨_, rfl, O5.out, B5.out⟩
set_option maxRecDepth 20000 in
theorem and_any (v1 v2 : Value) (A B : List Rg) (w : World) (h1 : SlR w v1 A) (h2 : SlR w v2 B) : Calls Try.prog 21 #[v1, v2] w (TwoPost w (andP A B)) := by
  have HS1 := Lib.hid h1
  have HS2 := Lib.hid h2
  cases k1 : ckL A with
  | false =>
    have HC := Lib.hid (check_not v1 A w h1 k1)
    have hR : Hid (andP A B = ([], 8)) := Lib.hid (and_no (.inl k1))
    obtain ⟨a, c, rfl, h1⟩ := h1
    obtain ⟨a2, c2, rfl, h2⟩ := h2
    clear h1 h2 k1 HS1 HS2
    go_enter Try.func21, Try.ntmps21
    go_wp2_with fail
    refine HC.out.mono ?_
    rintro e w1 ⟨rfl, b1⟩
    have B1 := Lib.hid b1
    clear b1
    go_wp2_with fail
    go_ret2
    rw [hR.out]
    exact ⟨_, rfl, Own.nil _ _, B1.out⟩
  | true =>
    have HC := Lib.hid (check_yes v1 A w h1 k1)
    cases k2 : ckL B with
    | false =>
      have HC2 : Hid (∀ w1, Below w.heap.size w w1 → Calls Try.prog 15 #[v2] w1 fun e w' => e = .returned (.int .i64 8) ∧ Below w1.heap.size w1 w') := Lib.hid (fun w1 b => check_not v2 B w1 (h2.below b) k2)
      have hR : Hid (andP A B = ([], 8)) := Lib.hid (and_no (.inr k2))
      obtain ⟨a, c, rfl, h1⟩ := h1
      obtain ⟨a2, c2, rfl, h2⟩ := h2
      clear h1 h2 k1 k2 HS1 HS2
      go_enter Try.func21, Try.ntmps21
      go_wp2_with fail
      refine HC.out.mono ?_
      rintro e w1 ⟨rfl, b1⟩
      have B1 := Lib.hid b1
      clear b1
      go_wp2_with fail
      refine (HC2.out _ B1.out).mono ?_
      rintro e w2 ⟨rfl, b2⟩
      have B2 : Hid (Below w.heap.size w w2) := Lib.hid (B1.out.trans (b2.mono B1.out.size))
      clear b2
      go_wp2_with fail
      go_ret2
      rw [hR.out]
      exact ⟨_, rfl, Own.nil _ _, B2.out⟩
    | true =>
      have HC2 : Hid (∀ w1, Below w.heap.size w w1 → Calls Try.prog 15 #[v2] w1 fun e w' => e = .returned (.int .i64 0) ∧ Below w1.heap.size w1 w') := Lib.hid (fun w1 b => check_yes v2 B w1 (h2.below b) k2)
      have hA := ck_cn k1
      have hB := ck_cn k2
      have hokA := cn_ok (Int.le_refl _) hA.2
      have hokB := cn_ok (Int.le_refl _) hB.2
      have HT1 : Hid (∀ w1, Below w.heap.size w w1 → Calls Try.prog 31 #[v1] w1 (TurnPost w1 A)) := Lib.hid (fun w1 b => turn_slr v1 A w1 (h1.below b) k1)
      have HT2 : Hid (∀ w1, Below w.heap.size w w1 → Calls Try.prog 31 #[v2] w1 (TurnPost w1 B)) := Lib.hid (fun w1 b => turn_slr v2 B w1 (h2.below b) k2)
      have hgA := gap_len hA.2
      have hgB := gap_len hB.2
      have hokGA : okA (gapL 0 A) := cn_ok (Int.le_refl _) (gap_ok A 0 0 hA.2 (Int.le_refl _) (by omega)).1
      have hokGB : okA (gapL 0 B) := cn_ok (Int.le_refl _) (gap_ok B 0 0 hB.2 (Int.le_refl _) (by omega)).1
      obtain ⟨u1, u2⟩ := uniC_ok (app_ok hokGA hokGB)
      have HCC : Hid (∀ u v w1, SlR w1 u (gapL 0 A) → SlR w1 v (gapL 0 B) → Calls Try.prog 45 #[.slice (some ⟨w1.heap.size, 0, none⟩) 2 2] (w1.alloc (.cells #[u, v] 22)) fun e w' => ∃ v, e = .returned v ∧ SlR w' v (gapL 0 A ++ gapL 0 B) ∧ Below w1.heap.size w1 w') := Lib.hid (fun u v w1 s1 s2 => concat_two w1 u v _ _ s1 s2 (by omega) (by omega))
      have HUU : Hid (∀ v w1, SlR w1 v (gapL 0 A ++ gapL 0 B) → Calls Try.prog 39 #[v] w1 fun e w' => ∃ v', e = .returned v' ∧ Own w' w1.heap.size v' (uniC (gapL 0 A ++ gapL 0 B)) ∧ Below w1.heap.size w1 w' ∧ (uniC (gapL 0 A ++ gapL 0 B)).length ≤ 100000) := Lib.hid (fun v w1 hs1 => by
        refine (union_uni v _ w1 hs1 (app_ok hokGA hokGB) (by simp; omega)).mono ?_
        rintro e w' ⟨v', e1, e2, e3, e4⟩
        exact ⟨v', e1, e2, e3, Nat.le_trans e4 (by simp; omega)⟩)
      have HTM : Hid (∀ v w1, (uniC (gapL 0 A ++ gapL 0 B)).length ≤ 100000 → SlR w1 v (uniC (gapL 0 A ++ gapL 0 B)) → Calls Try.prog 31 #[v] w1 fun e w' => ∃ v', e = .returned v' ∧ Own w' w1.heap.size v' (andC A B) ∧ Below w1.heap.size w1 w' ∧ (andC A B).length ≤ 1000000) := Lib.hid (fun v w1 hl hs1 => by
        obtain ⟨a, c, rfl, r1, _⟩ := hs1
        refine (turn_any a c _ w1 r1 u1 hl).mono ?_
        rintro e w' ⟨v', e1, e2, e3⟩
        have e := cn_andC hA.2 hB.2 u1 u2
        rw [e] at e2
        exact ⟨v', e1, e2, e3, by rw [← e]; have := gap_len u1; omega⟩)
      have hR : Hid (andP A B = capP (andC A B)) := Lib.hid (and_ck k1 k2)
      obtain ⟨P, hP⟩ : ∃ P, P = gapL 0 A ++ gapL 0 B := ⟨_, rfl⟩
      rw [← hP] at HCC HUU HTM
      obtain ⟨a, c, rfl, h1⟩ := h1
      obtain ⟨a2, c2, rfl, h2⟩ := h2
      clear h1 h2 k1 k2 hP hA hB hokA hokB hgA hgB hokGA hokGB u1 u2
      go_enter Try.func21, Try.ntmps21
      go_wp2_with fail
      refine HC.out.mono ?_
      rintro e w1 ⟨rfl, b1⟩
      have B1 := Lib.hid b1
      clear b1
      go_wp2_with fail
      refine (HC2.out _ B1.out).mono ?_
      rintro e w2 ⟨rfl, b2⟩
      have B2 : Hid (Below w.heap.size w w2) := Lib.hid (B1.out.trans (b2.mono B1.out.size))
      clear b2
      go_wp2_with fail
      refine (HT1.out _ B2.out).mono ?_
      rintro e w3 ⟨v3, rfl, o3, b3⟩
      have S3 := Lib.hid o3.slr
      have B3 : Hid (Below w.heap.size w w3) := Lib.hid (B2.out.trans (b3.mono B2.out.size))
      clear o3 b3
      go_wp2_with fail
      refine (HT2.out _ B3.out).mono ?_
      rintro e w4 ⟨v4, rfl, o4, b4⟩
      have S4 := Lib.hid o4.slr
      have S34 := Lib.hid (S3.out.below b4)
      have B4 : Hid (Below w.heap.size w w4) := Lib.hid (B3.out.trans (b4.mono B3.out.size))
      have s3 := S3.out
      have s4 := S4.out
      obtain ⟨a3, c3, rfl, _⟩ := s3
      obtain ⟨a4, c4, rfl, _⟩ := s4
      clear o4 b4
      go_wp2_with fail
      refine (HCC.out _ _ _ S34.out S4.out).mono ?_
      rintro e w5 ⟨v5, rfl, s5, b5⟩
      have S5 := Lib.hid s5
      have B5 : Hid (Below w.heap.size w w5) := Lib.hid (B4.out.trans (b5.mono B4.out.size))
      obtain ⟨a5, c5, rfl, _⟩ := s5
      clear b5
      go_wp2_with fail
      refine (HUU.out _ _ S5.out).mono ?_
      rintro e w6 ⟨v6, rfl, o6, b6, l6⟩
      have S6 := Lib.hid o6.slr
      have B6 : Hid (Below w.heap.size w w6) := Lib.hid (B5.out.trans (b6.mono B5.out.size))
      have L6 := Lib.hid l6
      have s6 := S6.out
      obtain ⟨a6, c6, rfl, _⟩ := s6
      clear o6 b6 l6
      go_wp2_with fail
      refine (HTM.out _ _ L6.out S6.out).mono ?_
      rintro e w7 ⟨v7, rfl, o7, b7, l7⟩
      have HCap := Lib.hid (capped_any (w0 := w) v7 (andC A B) w7 (Own.base o7 B6.out.size) (B6.out.trans (b7.mono B6.out.size)) l7)
      clear o7 b7 l7
      go_wp2_with fail
      refine HCap.out.mono ?_
      rintro e w8 ⟨v8, rfl, o8, b8⟩
      have O8 := Lib.hid o8
      have B8 := Lib.hid b8
      clear o8 b8
      go_wp2_with fail
      go_ret2
      rw [hR.out]
      exact ⟨_, rfl, O8.out, B8.out⟩
end Go.Proofs.Ytlngdohkoeognaa

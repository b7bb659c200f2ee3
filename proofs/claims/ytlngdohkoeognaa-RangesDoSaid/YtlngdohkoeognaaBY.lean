/- Layer 6: the document's Norm, Not, Or, And. -/
import Derived.Test.YtlngdohkoeognaaBX
import Derived.Test.YtlngdohkoeognaaBZ0
namespace Go.Proofs.Ytlngdohkoeognaa
open Go.RowKit Go.Maps
theorem tbl_or {A B : List Rg} (f : Int → Bool) (h : ∀ n, f n = tbl A B false true true true n) : madeL (A ++ B) f = orC A B := by
  have e : f = fun n => hs A n || hs B n := by
    funext n
    rw [h]
    unfold tbl
    cases hs A n <;> cases hs B n <;> rfl
  rw [e]; rfl
theorem tbl_and {A B : List Rg} (f : Int → Bool) (h : ∀ n, f n = tbl A B false false false true n) : madeL (A ++ B) f = andC A B := by
  have e : f = fun n => hs A n && hs B n := by
    funext n
    rw [h]
    unfold tbl
    cases hs A n <;> cases hs B n <;> rfl
  rw [e]; rfl
theorem tbl_not {A : List Rg} (f : Int → Bool) (h : ∀ n, f n = tbl A [] true false true false n) : madeL (A ++ []) f = notC A := by
  have e : f = fun n => !hs A n := by
    funext n
    rw [h]
    unfold tbl
    cases hs A n <;> simp [hs]
  rw [e, List.append_nil]; rfl
theorem or_nil (A : List Rg) : orC A [] = uniC A := by
  unfold orC uniC
  rw [List.append_nil]
  congr 1
  funext n
  simp [hs]
theorem nil_slr (w : World) : SlR w (.slice none 0 0) [] := ⟨none, 0, rfl, RV.nil _ _, Nat.le_refl _, Nat.zero_le _, fun _ => ⟨rfl, rfl⟩⟩
theorem nil_ok : ∀ r ∈ ([] : List Rg), okR r = true := fun r h => by cases h
theorem runion_any (v1 v2 : Value) (A B : List Rg) (w : World) (h1 : SlR w v1 A) (h2 : SlR w v2 B) (hA : ∀ r ∈ A, okR r = true) (hB : ∀ r ∈ B, okR r = true) (lA : A.length ≤ 256) (lB : B.length ≤ 256) :
    Calls Try.prog 41 #[v1, v2] w (ConcatPost w (orC A B)) := by
  have HC := Lib.hid (made_any v1 v2 A B false true true true w h1 h2 hA hB lA lB)
  rw [tbl_or _ (fun n => rfl)] at HC
  obtain ⟨a1, c1, rfl, _⟩ := h1
  obtain ⟨a2, c2, rfl, _⟩ := h2
  go_enter Try.func41, Try.ntmps41
  go_wp2_with fail
  refine HC.out.mono ?_
  rintro e w1 ⟨v3, rfl, o3, b3⟩
  go_wp2_with fail
  go_ret
  exact ⟨_, rfl, o3, b3⟩
theorem rboth_any (v1 v2 : Value) (A B : List Rg) (w : World) (h1 : SlR w v1 A) (h2 : SlR w v2 B) (hA : ∀ r ∈ A, okR r = true) (hB : ∀ r ∈ B, okR r = true) (lA : A.length ≤ 256) (lB : B.length ≤ 256) :
    Calls Try.prog 46 #[v1, v2] w (ConcatPost w (andC A B)) := by
  have HC := Lib.hid (made_any v1 v2 A B false false false true w h1 h2 hA hB lA lB)
  rw [tbl_and _ (fun n => rfl)] at HC
  obtain ⟨a1, c1, rfl, _⟩ := h1
  obtain ⟨a2, c2, rfl, _⟩ := h2
  go_enter Try.func46, Try.ntmps46
  go_wp2_with fail
  refine HC.out.mono ?_
  rintro e w1 ⟨v3, rfl, o3, b3⟩
  go_wp2_with fail
  go_ret
  exact ⟨_, rfl, o3, b3⟩
theorem rother_any (v1 : Value) (A : List Rg) (w : World) (h1 : SlR w v1 A) (hA : ∀ r ∈ A, okR r = true) (lA : A.length ≤ 256) :
    Calls Try.prog 44 #[v1] w (ConcatPost w (notC A)) := by
  have HC := Lib.hid (made_any v1 (.slice none 0 0) A [] true false true false w h1 (nil_slr w) hA nil_ok lA (by simp))
  rw [tbl_not _ (fun n => rfl)] at HC
  obtain ⟨a1, c1, rfl, _⟩ := h1
  go_enter Try.func44, Try.ntmps44
  go_wp2_with fail
  refine HC.out.mono ?_
  rintro e w1 ⟨v3, rfl, o3, b3⟩
  go_wp2_with fail
  go_ret
  exact ⟨_, rfl, o3, b3⟩
theorem rtold_any {w0 : World} (v : Value) (M : List Rg) (w : World) (ho : Own w w0.heap.size v M) (hb : Below w0.heap.size w0 w) (hm : M.length ≤ 1000000) :
    Calls Try.prog 43 #[v] w (TwoPost w0 (capP M)) := by
  obtain ⟨a, c, rfl, _⟩ := ho.slr
  have HO := Lib.hid ho
  have HB := Lib.hid hb
  obtain ⟨m, hml⟩ : ∃ m, m = M.length := ⟨_, rfl⟩
  rw [← hml] at hm HO ⊢
  have HM := Lib.hid hml
  clear ho hb hml
  by_cases h : 256 < m
  · have hR : Hid (capP M = ([], 4)) := Lib.hid (if_pos (by rw [← HM.out]; exact h))
    have h' : (256 : Int) < (m : Int) := by omega
    clear h
    go_enter Try.func43, Try.ntmps43
    go_wp2_with fail
    go_ret2
    rw [hR.out]
    exact ⟨_, rfl, Own.nil _ _, HB.out⟩
  · have hR : Hid (capP M = (M, 0)) := Lib.hid (if_neg (by rw [← HM.out]; exact h))
    have h' : ¬ (256 : Int) < (m : Int) := by omega
    clear h
    go_enter Try.func43, Try.ntmps43
    go_wp2_with fail
    go_ret2
    rw [hR.out]
    exact ⟨_, rfl, HO.out, HB.out⟩
set_option maxRecDepth 20000 in
theorem rnorm_any (v : Value) (L : List Rg) (w : World) (h : SlR w v L) : Calls Try.prog 17 #[v] w (TwoPost w (normP L)) := by
  have HS := Lib.hid h
  obtain ⟨a, c, rfl, hv, hlc, hcm, hnn⟩ := h
  obtain ⟨m, hlm⟩ : ∃ m, m = L.length := ⟨_, rfl⟩
  rw [← hlm] at HS ⊢
  have HM := Lib.hid hlm
  have HV := Lib.hid hv
  clear hlm hv hlc hcm hnn
  by_cases hm : 256 < m
  · have hR : Hid (normP L = ([], 4)) := Lib.hid (norm_big (by rw [← HM.out]; exact hm))
    have hm' : (256 : Int) < (m : Int) := by omega
    clear hm
    go_enter Try.func17, Try.ntmps17
    go_wp2_with fail
    go_ret2
    rw [hR.out]
    exact ⟨_, rfl, Own.nil _ _, Below.refl _ _⟩
  have hm' : ¬ (256 : Int) < (m : Int) := by omega
  have HNB : Hid (¬ 256 < L.length) := Lib.hid (by rw [← HM.out]; exact hm)
  go_enter Try.func17, Try.ntmps17
  go_wp2_with fail
  go_loopg [4] m (fun f v wr => ∃ i : Nat, v = .int .i64 (i : Nat) ∧ i ≤ m ∧ m - i ≤ f ∧ (∀ j, j < i → okR (gR L j) = true) ∧ Below w.heap.size w wr)
  case atStart => exact ⟨0, rfl, by omega, by omega, fun j hj => absurd hj (Nat.not_lt_zero j), Below.refl _ _⟩
  case round =>
    obtain ⟨i, rfl, him, hf, hok, hb⟩ := hrel
    have HOK := Lib.hid hok
    have HB := Lib.hid hb
    have HF := Lib.hid hf
    by_cases hlt : i < m
    · obtain ⟨b, off, rfl, hbb, c0, c1⟩ := (HV.out.below hb) i (by rw [← HM.out]; exact hlt)
      obtain ⟨x, hx⟩ : ∃ x, x = (gR L i).1 := ⟨_, rfl⟩
      obtain ⟨y, hy⟩ : ∃ x, x = (gR L i).2 := ⟨_, rfl⟩
      rw [← hx] at c0
      rw [← hy] at c1
      have HXY : Hid (gR L i = (x, y)) := Lib.hid (by rw [hx, hy])
      have hlt' : (i : Int) < (m : Int) := by omega
      have hbig : (i : Int) + 1 ≤ 9223372036854775807 := by omega
      have HLT := Lib.hid hlt
      obtain ⟨ob, hob⟩ : ∃ ob, ob = okR (x, y) := ⟨_, rfl⟩
      have HMB : Hid (∀ W, Calls Try.prog 40 #[.agg #[.int .i64 x, .int .i64 y]] W fun e w' => e = .returned (.bool ob) ∧ Below W.heap.size W w') := Lib.hid (fun W => by rw [hob]; exact rone_any x y W)
      have HOB := Lib.hid hob
      clear him hok hb hf hbb hx hy hlt hm hob
      go_wp2_with fail
      refine (HMB.out _).mono ?_
      rintro e w1 ⟨rfl, b1⟩
      have B1 : Hid (Below w.heap.size w w1) := Lib.hid (HB.out.trans (b1.mono HB.out.size))
      clear b1
      cases ob with
      | false =>
        have hR : Hid (normP L = ([], 8)) := Lib.hid (norm_bad HNB.out (i := i) (by rw [← HM.out]; exact HLT.out) (by rw [HXY.out, ← HOB.out]))
        go_wp2_with fail
        go_ret2
        rw [hR.out]
        exact ⟨_, rfl, Own.nil _ _, B1.out⟩
      | true =>
        have HNX : Hid (∀ j, j < i + 1 → okR (gR L j) = true) := Lib.hid (upto_next HOK.out (by rw [HXY.out, ← HOB.out]))
        go_wp2_with fail
        go_roundg (gk - 1)
        case measure => have := HF.out; have := HLT.out; omega
        case rel => exact ⟨i + 1, by rw [show ((i + 1 : Nat) : Int) = (i : Int) + 1 by omega], by have := HLT.out; omega, by have := HF.out; omega, HNX.out, B1.out⟩
    · have e9 : i = m := by omega
      subst e9
      have hall : ∀ r ∈ L, okR r = true := all_at (by rw [← HM.out]; exact hok)
      have hR : Hid (normP L = (uniC L, 0)) := Lib.hid (norm_ok HNB.out hall)
      have HU : Hid (∀ w1, Below w.heap.size w w1 → Calls Try.prog 41 #[.slice a i c, .slice none 0 0] w1 (ConcatPost w1 (uniC L))) := Lib.hid (fun w1 b => by
        have h := runion_any _ (.slice none 0 0) L [] w1 (HS.out.below b) (nil_slr w1) hall nil_ok (by have := HNB.out; omega) (by simp)
        rw [or_nil] at h
        exact h)
      clear him hok hf hlt hall hb hm
      go_wp2_with fail
      refine (HU.out _ HB.out).mono ?_
      rintro e w1 ⟨v1, rfl, o1, b1⟩
      have O1 : Hid (Own w1 w.heap.size v1 (uniC L)) := Lib.hid (Own.base o1 HB.out.size)
      have B1 : Hid (Below w.heap.size w w1) := Lib.hid (HB.out.trans (b1.mono HB.out.size))
      clear o1 b1
      go_wp2_with fail
      go_ret2
      rw [hR.out]
      exact ⟨_, rfl, O1.out, B1.out⟩
theorem may_slr (v : Value) (L : List Rg) (w : World) (h : SlR w v L) {b : Bool} (k : ckL L = b) : Calls Try.prog 42 #[v] w fun e w' => e = .returned (.bool b) ∧ Below w.heap.size w w' := by
  obtain ⟨a, c, rfl, h1, h2, h3, _⟩ := h
  have := rmay_any a c L w h1 (Nat.le_trans h2 h3)
  rw [k] at this
  exact this
theorem rnot_any (v : Value) (L : List Rg) (w : World) (h : SlR w v L) : Calls Try.prog 18 #[v] w (TwoPost w (notP L)) := by
  cases k : ckL L with
  | false =>
    have HC := Lib.hid (may_slr v L w h k)
    have hR : Hid (notP L = ([], 8)) := Lib.hid (by unfold notP; rw [k]; rfl)
    obtain ⟨a, c, rfl, h1⟩ := h
    clear h1 k
    go_enter Try.func18, Try.ntmps18
    go_wp2_with fail
    refine HC.out.mono ?_
    rintro e w1 ⟨rfl, b1⟩
    go_wp2_with fail
    go_ret2
    rw [hR.out]
    exact ⟨_, rfl, Own.nil _ _, b1⟩
  | true =>
    have HC := Lib.hid (may_slr v L w h k)
    have hk := ck_cn k
    have HT : Hid (∀ w1, Below w.heap.size w w1 → Calls Try.prog 44 #[v] w1 (ConcatPost w1 (notC L))) := Lib.hid (fun w1 b => rother_any v L w1 (h.below b) (cn_ok (Int.le_refl _) hk.2) hk.1)
    have hR : Hid (notP L = capP (notC L) ∧ (notC L).length ≤ 1000000) := Lib.hid (by
      refine ⟨by unfold notP; rw [k]; rfl, ?_⟩
      rw [← gap_notC hk.2]
      have := gap_len hk.2
      omega)
    obtain ⟨a, c, rfl, h1⟩ := h
    clear h1 k hk
    go_enter Try.func18, Try.ntmps18
    go_wp2_with fail
    refine HC.out.mono ?_
    rintro e w1 ⟨rfl, b1⟩
    go_wp2_with fail
    refine (HT.out _ b1).mono ?_
    rintro e w2 ⟨v2, rfl, o2, b2⟩
    have HCap := Lib.hid (rtold_any (w0 := w) v2 (notC L) w2 (Own.base o2 b1.size) (b1.trans (b2.mono b1.size)) hR.out.2)
    clear o2 b2 b1
    go_wp2_with fail
    refine HCap.out.mono ?_
    rintro e w3 ⟨v3, rfl, o3, b3⟩
    have O3 := Lib.hid o3
    have B3 := Lib.hid b3
    clear o3 b3
    go_wp2_with fail
    go_ret2
    rw [hR.out.1]
    exact ⟨_, rfl, O3.out, B3.out⟩
set_option maxRecDepth 20000 in
theorem ror_any (v1 v2 : Value) (A B : List Rg) (w : World) (h1 : SlR w v1 A) (h2 : SlR w v2 B) : Calls Try.prog 20 #[v1, v2] w (TwoPost w (orP A B)) := by
  cases k1 : ckL A with
  | false =>
    have HC := Lib.hid (may_slr v1 A w h1 k1)
    have hR : Hid (orP A B = ([], 8)) := Lib.hid (or_no (.inl k1))
    obtain ⟨a, c, rfl, h1⟩ := h1
    obtain ⟨a2, c2, rfl, h2⟩ := h2
    clear h1 h2 k1
    go_enter Try.func20, Try.ntmps20
    go_wp2_with fail
    refine HC.out.mono ?_
    rintro e w1 ⟨rfl, b1⟩
    have B1 := Lib.hid b1
    clear b1
    go_wp2_with fail
    go_ret2
    rw [hR.out]
    exact ⟨_, rfl, Own.nil _ _, B1.out⟩
  | true =>
    have HC := Lib.hid (may_slr v1 A w h1 k1)
    cases k2 : ckL B with
    | false =>
      have HC2 : Hid (∀ w1, Below w.heap.size w w1 → Calls Try.prog 42 #[v2] w1 fun e w' => e = .returned (.bool false) ∧ Below w1.heap.size w1 w') := Lib.hid (fun w1 b => may_slr v2 B w1 (h2.below b) k2)
      have hR : Hid (orP A B = ([], 8)) := Lib.hid (or_no (.inr k2))
      obtain ⟨a, c, rfl, h1⟩ := h1
      obtain ⟨a2, c2, rfl, h2⟩ := h2
      clear h1 h2 k1 k2
      go_enter Try.func20, Try.ntmps20
      go_wp2_with fail
      refine HC.out.mono ?_
      rintro e w1 ⟨rfl, b1⟩
      have B1 := Lib.hid b1
      clear b1
      go_wp2_with fail
      refine (HC2.out _ B1.out).mono ?_
      rintro e w2 ⟨rfl, b2⟩
      have B2 : Hid (Below w.heap.size w w2) := Lib.hid (B1.out.trans (b2.mono B1.out.size))
      clear b2
      go_wp2_with fail
      go_ret2
      rw [hR.out]
      exact ⟨_, rfl, Own.nil _ _, B2.out⟩
    | true =>
      have HC2 : Hid (∀ w1, Below w.heap.size w w1 → Calls Try.prog 42 #[v2] w1 fun e w' => e = .returned (.bool true) ∧ Below w1.heap.size w1 w') := Lib.hid (fun w1 b => may_slr v2 B w1 (h2.below b) k2)
      have hA := ck_cn k1
      have hB := ck_cn k2
      have HU : Hid (∀ w1, Below w.heap.size w w1 → Calls Try.prog 41 #[v1, v2] w1 (ConcatPost w1 (orC A B))) := Lib.hid (fun w1 b => runion_any v1 v2 A B w1 (h1.below b) (h2.below b) (cn_ok (Int.le_refl _) hA.2) (cn_ok (Int.le_refl _) hB.2) hA.1 hB.1)
      have hR : Hid (orP A B = capP (orC A B)) := Lib.hid (or_ck k1 k2)
      have hLL : Hid ((orC A B).length ≤ 1000000) := Lib.hid (by
        have h3 := hA.1
        have h4 := hB.1
        have h5 := orC_len (cn_ok (Int.le_refl _) hA.2) (cn_ok (Int.le_refl _) hB.2)
        omega)
      obtain ⟨a, c, rfl, h1⟩ := h1
      obtain ⟨a2, c2, rfl, h2⟩ := h2
      clear h1 h2 k1 k2 hA hB
      go_enter Try.func20, Try.ntmps20
      go_wp2_with fail
      refine HC.out.mono ?_
      rintro e w1 ⟨rfl, b1⟩
      have B1 := Lib.hid b1
      clear b1
      go_wp2_with fail
      refine (HC2.out _ B1.out).mono ?_
      rintro e w2 ⟨rfl, b2⟩
      have B2 : Hid (Below w.heap.size w w2) := Lib.hid (B1.out.trans (b2.mono B1.out.size))
      clear b2
      go_wp2_with fail
      refine (HU.out _ B2.out).mono ?_
      rintro e w3 ⟨v3, rfl, o3, b3⟩
      have HCap := Lib.hid (rtold_any (w0 := w) v3 (orC A B) w3 (Own.base o3 B2.out.size) (B2.out.trans (b3.mono B2.out.size)) hLL.out)
      clear o3 b3
      go_wp2_with fail
      refine HCap.out.mono ?_
      rintro e w5 ⟨v5, rfl, o5, b5⟩
      have O5 := Lib.hid o5
      have B5 := Lib.hid b5
      clear o5 b5
      go_wp2_with fail
      go_ret2
      rw [hR.out]
      exact ⟨_, rfl, O5.out, B5.out⟩
set_option maxRecDepth 20000 in
theorem rand_any (v1 v2 : Value) (A B : List Rg) (w : World) (h1 : SlR w v1 A) (h2 : SlR w v2 B) : Calls Try.prog 22 #[v1, v2] w (TwoPost w (andP A B)) := by
  cases k1 : ckL A with
  | false =>
    have HC := Lib.hid (may_slr v1 A w h1 k1)
    have hR : Hid (andP A B = ([], 8)) := Lib.hid (and_no (.inl k1))
    obtain ⟨a, c, rfl, h1⟩ := h1
    obtain ⟨a2, c2, rfl, h2⟩ := h2
    clear h1 h2 k1
    go_enter Try.func22, Try.ntmps22
    go_wp2_with fail
    refine HC.out.mono ?_
    rintro e w1 ⟨rfl, b1⟩
    have B1 := Lib.hid b1
    clear b1
    go_wp2_with fail
    go_ret2
    rw [hR.out]
    exact ⟨_, rfl, Own.nil _ _, B1.out⟩
  | true =>
    have HC := Lib.hid (may_slr v1 A w h1 k1)
    cases k2 : ckL B with
    | false =>
      have HC2 : Hid (∀ w1, Below w.heap.size w w1 → Calls Try.prog 42 #[v2] w1 fun e w' => e = .returned (.bool false) ∧ Below w1.heap.size w1 w') := Lib.hid (fun w1 b => may_slr v2 B w1 (h2.below b) k2)
      have hR : Hid (andP A B = ([], 8)) := Lib.hid (and_no (.inr k2))
      obtain ⟨a, c, rfl, h1⟩ := h1
      obtain ⟨a2, c2, rfl, h2⟩ := h2
      clear h1 h2 k1 k2
      go_enter Try.func22, Try.ntmps22
      go_wp2_with fail
      refine HC.out.mono ?_
      rintro e w1 ⟨rfl, b1⟩
      have B1 := Lib.hid b1
      clear b1
      go_wp2_with fail
      refine (HC2.out _ B1.out).mono ?_
      rintro e w2 ⟨rfl, b2⟩
      have B2 : Hid (Below w.heap.size w w2) := Lib.hid (B1.out.trans (b2.mono B1.out.size))
      clear b2
      go_wp2_with fail
      go_ret2
      rw [hR.out]
      exact ⟨_, rfl, Own.nil _ _, B2.out⟩
    | true =>
      have HC2 : Hid (∀ w1, Below w.heap.size w w1 → Calls Try.prog 42 #[v2] w1 fun e w' => e = .returned (.bool true) ∧ Below w1.heap.size w1 w') := Lib.hid (fun w1 b => may_slr v2 B w1 (h2.below b) k2)
      have hA := ck_cn k1
      have hB := ck_cn k2
      have HU : Hid (∀ w1, Below w.heap.size w w1 → Calls Try.prog 46 #[v1, v2] w1 (ConcatPost w1 (andC A B))) := Lib.hid (fun w1 b => rboth_any v1 v2 A B w1 (h1.below b) (h2.below b) (cn_ok (Int.le_refl _) hA.2) (cn_ok (Int.le_refl _) hB.2) hA.1 hB.1)
      have hR : Hid (andP A B = capP (andC A B)) := Lib.hid (and_ck k1 k2)
      have hLL : Hid ((andC A B).length ≤ 1000000) := Lib.hid (by
        have h3 := hA.1
        have h4 := hB.1
        have h5 := andC_len hA.2 hB.2
        omega)
      obtain ⟨a, c, rfl, h1⟩ := h1
      obtain ⟨a2, c2, rfl, h2⟩ := h2
      clear h1 h2 k1 k2 hA hB
      go_enter Try.func22, Try.ntmps22
      go_wp2_with fail
      refine HC.out.mono ?_
      rintro e w1 ⟨rfl, b1⟩
      have B1 := Lib.hid b1
      clear b1
      go_wp2_with fail
      refine (HC2.out _ B1.out).mono ?_
      rintro e w2 ⟨rfl, b2⟩
      have B2 : Hid (Below w.heap.size w w2) := Lib.hid (B1.out.trans (b2.mono B1.out.size))
      clear b2
      go_wp2_with fail
      refine (HU.out _ B2.out).mono ?_
      rintro e w3 ⟨v3, rfl, o3, b3⟩
      have HCap := Lib.hid (rtold_any (w0 := w) v3 (andC A B) w3 (Own.base o3 B2.out.size) (B2.out.trans (b3.mono B2.out.size)) hLL.out)
      clear o3 b3
      go_wp2_with fail
      refine HCap.out.mono ?_
      rintro e w5 ⟨v5, rfl, o5, b5⟩
      have O5 := Lib.hid o5
      have B5 := Lib.hid b5
      clear o5 b5
      go_wp2_with fail
      go_ret2
      rw [hR.out]
      exact ⟨_, rfl, O5.out, B5.out⟩
end Go.Proofs.Ytlngdohkoeognaa

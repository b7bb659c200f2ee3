/- Layer 6: the document's Cuts, SameInts; the two are the same. -/
import Derived.Test.YtlngdohkoeognaaBA
namespace Go.Proofs.Ytlngdohkoeognaa
open Go.RowKit Go.Maps
def cutD (S : List (List Rg)) : List Int × Int :=
  if 256 < S.length then ([], 4) else if S.all ckL then (trnL S, 0) else ([], 8)
theorem cutD_big {S : List (List Rg)} (h : 256 < S.length) : cutD S = ([], 4) := if_pos h
theorem cutD_bad {S : List (List Rg)} (h : ¬ 256 < S.length) {i : Nat} (hi : i < S.length) (hb : ckL (setAt S i) = false) : cutD S = ([], 8) := by
  unfold cutD
  rw [if_neg h, if_neg]
  intro k
  rw [List.all_eq_true] at k
  rw [k _ (set_mem hi)] at hb
  cases hb
theorem cutD_ok {S : List (List Rg)} (h : ¬ 256 < S.length) (k : ∀ i, i < S.length → ckL (setAt S i) = true) : cutD S = (trnL S, 0) := by
  unfold cutD
  rw [if_neg h, if_pos]
  rw [List.all_eq_true]
  intro L hL
  obtain ⟨j, hj, rfl⟩ := List.mem_iff_getElem.1 hL
  have g := set_get hj
  rw [List.getElem?_eq_getElem hj] at g
  simp only [Option.some.injEq] at g
  rw [g]
  exact k j hj
set_option maxRecDepth 20000 in
theorem rcuts_any (a : Option Addr) (c : Nat) (S : List (List Rg)) (w : World) (hv : SV w a S) (hS : S.length ≤ 300) :
    Calls Try.prog 29 #[.slice a S.length c] w (CutPost w (cutD S)) := by
  obtain ⟨R, hR⟩ : ∃ R, R = cutD S := ⟨_, rfl⟩
  rw [← hR]
  obtain ⟨m, hml⟩ : ∃ m, m = S.length := ⟨_, rfl⟩
  rw [← hml] at hS ⊢
  have HR := Lib.hid hR
  have HM := Lib.hid hml
  have HV := Lib.hid hv
  have H300 := Lib.hid hS
  clear hR hml hv
  by_cases hm : 256 < m
  · have hRf : Hid (R = ([], 4)) := Lib.hid (by rw [HR.out]; exact cutD_big (by rw [← HM.out]; exact hm))
    have hm' : (256 : Int) < (m : Int) := by omega
    clear hm
    go_enter Try.func29, Try.ntmps29
    go_wp2_with fail
    go_ret2
    rw [hRf.out]
    exact ⟨none, 0, rfl, IV.nil _ _, Below.refl _ _⟩
  have hm' : ¬ (256 : Int) < (m : Int) := by omega
  have HNB := Lib.hid hm
  have hmi : (m : Int) ≤ 300 := by omega
  clear hm
  go_enter Try.func29, Try.ntmps29
  go_wp2_with fail
  go_loopg [4] m (fun f v wr => ∃ i : Nat, v = .int .i64 (i : Nat) ∧ i ≤ m ∧ m - i ≤ f ∧ (∀ j, j < i → ckL (setAt S j) = true) ∧ Below w.heap.size w wr)
  case atStart => exact ⟨0, rfl, by omega, by omega, fun j hj => absurd hj (Nat.not_lt_zero j), Below.refl _ _⟩
  case round =>
    obtain ⟨i, rfl, him, hf, hck, hb⟩ := hrel
    have HCK := Lib.hid hck
    have HB := Lib.hid hb
    have HF := Lib.hid hf
    by_cases hlt : i < m
    · obtain ⟨b, off, rfl, hbb, ad, cp, c0, hcp, hcm, hrv, hnn⟩ := (HV.out.below hb).at_ (i := i) (by rw [← HM.out]; exact hlt)
      obtain ⟨P, hP⟩ : ∃ P, P = setAt S i := ⟨_, rfl⟩
      have HP := Lib.hid hP
      rw [← hP] at c0 hrv hcp
      have HRV := Lib.hid hrv
      have hlt' : (i : Int) < (m : Int) := by omega
      have hbig : (i : Int) + 1 ≤ 9223372036854775807 := by omega
      have HLT := Lib.hid hlt
      clear him hf hck hb hbb hrv hnn hP hlt
      obtain ⟨n, hn⟩ : ∃ n, n = P.length := ⟨_, rfl⟩
      have HC := Lib.hid (fun W (hW : Below wr.heap.size wr W) => rmay_any ad cp P W (HRV.out.below hW) (Nat.le_trans hcp hcm))
      rw [← hn] at c0 HC
      clear hn hcp hcm
      go_wp2_with fail
      refine (HC.out _ (Below.refl _ _)).mono ?_
      rintro e w1 ⟨rfl, b1⟩
      have HB1 := Lib.hid (HB.out.trans (b1.mono HB.out.size))
      clear b1
      obtain ⟨k, hk⟩ : ∃ k, k = ckL P := ⟨_, rfl⟩
      rw [← hk]
      have HK := Lib.hid hk
      clear hk
      cases k with
      | false =>
        have hRf : Hid (R = ([], 8)) := Lib.hid (by rw [HR.out]; exact cutD_bad (by rw [← HM.out]; exact HNB.out) (i := i) (by rw [← HM.out]; exact HLT.out) (by rw [← HP.out, ← HK.out]))
        go_wp2_with fail
        go_ret2
        rw [hRf.out]
        exact ⟨none, 0, rfl, IV.nil _ _, HB1.out⟩
      | true =>
        have HNX : Hid (∀ j, j < i + 1 → ckL (setAt S j) = true) := Lib.hid (upto_next HCK.out (by rw [← HP.out, ← HK.out]))
        go_wp2_with fail
        go_roundg (gk - 1)
        case measure => have := HF.out; have := HLT.out; omega
        case rel => exact ⟨i + 1, by rw [show ((i + 1 : Nat) : Int) = (i : Int) + 1 by omega], by have := HLT.out; omega, by have := HF.out; omega, HNX.out, HB1.out⟩
    · have e9 : i = m := by omega
      subst e9
      have HALL := Lib.hid (all_ck (S := S) (fun j hj => HCK.out j (by rw [HM.out]; exact hj)))
      have hRt : Hid (R = (trnL S, 0)) := Lib.hid (by rw [HR.out]; exact cutD_ok (by rw [← HM.out]; exact HNB.out) (fun j hj => HCK.out j (by rw [HM.out]; exact hj)))
      have HTU : Hid (Calls Try.prog 48 #[.slice a i c] wr (PlacePost wr (trnL S))) := Lib.hid (by
        have h := turns_any a c S wr (HV.out.below HB.out) (by rw [← HM.out]; exact H300.out) (fun L hL => (HALL.out L hL).1) (fun L hL => (HALL.out L hL).2)
        rw [← HM.out] at h
        exact h)
      clear him hf hck hb hlt
      go_wp2_with fail
      refine HTU.out.mono ?_
      rintro e w1 ⟨v1, rfl, o1, b1⟩
      obtain ⟨ad, cp, rfl, _, hiv, _⟩ := o1.view
      have HIV := Lib.hid hiv
      have HB1 := Lib.hid (HB.out.trans (b1.mono HB.out.size))
      obtain ⟨Z, hZ⟩ : ∃ Z, Z = trnL S := ⟨_, rfl⟩
      rw [← hZ] at HIV hRt ⊢
      clear o1 b1 hiv hZ
      go_wp2_with fail
      go_ret2
      rw [hRt.out]
      exact ⟨_, _, rfl, HIV.out, HB1.out⟩
end Go.Proofs.Ytlngdohkoeognaa

/- Layer 6: Cuts. -/
import Derived.Test.YtlngdohkoeognaaB6
namespace Go.Proofs.Ytlngdohkoeognaa
open Go.RowKit Go.Maps
/-- What Cuts answers. -/
def cutR (S : List (List Rg)) : List Int × Int :=
  if 256 < S.length then ([], 4) else if S.all ckL then (Lib.compact ((cutE S).mergeSort fun x y => decide (x ≤ y)), 0) else ([], 8)
def CutPost (w0 : World) (R : List Int × Int) (e : Ending) (w' : World) : Prop := ∃ ad cp, e = .returned (.tuple #[.slice ad R.1.length cp, .int .i64 R.2]) ∧ IV w' ad R.1 ∧ Below w0.heap.size w0 w'
theorem cutR_big {S : List (List Rg)} (h : 256 < S.length) : cutR S = ([], 4) := if_pos h
theorem cutR_bad {S : List (List Rg)} (h : ¬ 256 < S.length) {i : Nat} (hi : i < S.length) (hb : ckL (setAt S i) = false) : cutR S = ([], 8) := by
  unfold cutR
  rw [if_neg h, if_neg]
  intro k
  rw [List.all_eq_true] at k
  rw [k _ (set_mem hi)] at hb
  cases hb
theorem cutR_ok {S : List (List Rg)} (h : ¬ 256 < S.length) (k : ∀ i, i < S.length → ckL (setAt S i) = true) : cutR S = (Lib.compact ((cutE S).mergeSort fun x y => decide (x ≤ y)), 0) := by
  unfold cutR
  rw [if_neg h, if_pos]
  rw [List.all_eq_true]
  intro L hL
  obtain ⟨j, hj, rfl⟩ := List.mem_iff_getElem.1 hL
  have g := set_get hj
  rw [List.getElem?_eq_getElem hj] at g
  simp only [Option.some.injEq] at g
  rw [g]
  exact k j hj
theorem all_ck {S : List (List Rg)} (k : ∀ i, i < S.length → ckL (setAt S i) = true) : ∀ L ∈ S, L.length ≤ 256 ∧ Cn 0 L := by
  intro L hL
  obtain ⟨j, hj, rfl⟩ := List.mem_iff_getElem.1 hL
  have g := set_get hj
  rw [List.getElem?_eq_getElem hj] at g
  simp only [Option.some.injEq] at g
  rw [g]
  exact ck_cn (k j hj)
theorem IV.nil (w : World) (a : Option Addr) : IV w a [] := fun i hi => by simp at hi
theorem SV.at_ {w : World} {a : Option Addr} {S : List (List Rg)} (h : SV w a S) {i : Nat} (hi : i < S.length) : ∃ b off, a = some ⟨b, off, none⟩ ∧ b < w.heap.size ∧ ∃ ad cp, w.cell? ⟨b, off + i, none⟩ = some (.slice ad (setAt S i).length cp) ∧ (setAt S i).length ≤ cp ∧ cp ≤ maxLen ∧ RV w ad (setAt S i) ∧ (ad = none → (setAt S i).length = 0 ∧ cp = 0) := h i hi
theorem zero_own (w : World) : OwnI (w.alloc (.cells #[.int .i64 0] 3)) w.heap.size (.slice (some ⟨w.heap.size, 0, none⟩) 1 1) [0] := by
  refine ⟨rfl, .inr ⟨w.heap.size, 1, #[.int .i64 0], rfl, Nat.le_refl _, heap_alloc_new w _, Nat.le_refl _, by decide, rfl, rfl⟩⟩
theorem own_slice {w : World} {B : Nat} {v : Value} {L : List Int} (h : OwnI w B v L) (h0 : 0 < L.length) : ∃ q cap, v = .slice (some ⟨q, 0, none⟩) L.length cap := by
  rcases h.2 with ⟨rfl, hn⟩ | ⟨q, cap, cur, rfl, _⟩
  · omega
  · exact ⟨q, cap, rfl⟩
set_option maxRecDepth 20000 in
theorem cuts_any (a : Option Addr) (c : Nat) (S : List (List Rg)) (w : World) (hv : SV w a S) (hS : S.length ≤ 300) :
    Calls Try.prog 11 #[.slice a S.length c] w (CutPost w (cutR S)) := by
  obtain ⟨R, hR⟩ : ∃ R, R = cutR S := ⟨_, rfl⟩
  rw [← hR]
  obtain ⟨m, hml⟩ : ∃ m, m = S.length := ⟨_, rfl⟩
  rw [← hml] at hS ⊢
  have HR := Lib.hid hR
  have HM := Lib.hid hml
  have HV := Lib.hid hv
  have H300 := Lib.hid hS
  clear hR hml hv
  by_cases hm : 256 < m
  · have hRf : Hid (R = ([], 4)) := Lib.hid (by rw [HR.out]; exact cutR_big (by rw [← HM.out]; exact hm))
    have hm' : (256 : Int) < (m : Int) := by omega
    clear hm
    go_enter Try.func11, Try.ntmps11
    go_wp2_with fail
    go_ret2
    rw [hRf.out]
    exact ⟨none, 0, rfl, IV.nil _ _, Below.refl _ _⟩
  have hm' : ¬ (256 : Int) < (m : Int) := by omega
  have HNB := Lib.hid hm
  have hmi : (m : Int) ≤ 300 := by omega
  clear hm
  go_enter Try.func11, Try.ntmps11
  go_wp2_with fail
  go_loopg [13] m (fun f v wr => ∃ i : Nat, v = .int .i64 (i : Nat) ∧ i ≤ m ∧ m - i ≤ f ∧ (∀ j, j < i → ckL (setAt S j) = true) ∧ Below w.heap.size w wr)
  case atStart => exact ⟨0, rfl, by omega, by omega, fun j hj => absurd hj (Nat.not_lt_zero j), Below.refl _ _⟩
  case round =>
    obtain ⟨i, rfl, him, hf, hck, hb⟩ := hrel
    have HCK := Lib.hid hck
    have HB := Lib.hid hb
    have HF := Lib.hid hf
    by_cases hlt : i < m
    · obtain ⟨b, off, rfl, hbb, ad, cp, c0, hcp, hcm, hrv, hnn⟩ := (HV.out.below hb).at_ (i := i) (by rw [← HM.out]; exact hlt)
      obtain ⟨P, hP⟩ : ∃ P, P = setAt S i := ⟨_, rfl⟩
      have HP := Lib.hid hP
      rw [← hP] at c0 hrv
      have HRV := Lib.hid hrv
      have hlt' : (i : Int) < (m : Int) := by omega
      have hbig : (i : Int) + 1 ≤ 9223372036854775807 := by omega
      have HLT := Lib.hid hlt
      clear him hf hck hb hbb hcp hcm hrv hnn hP hlt
      obtain ⟨n, hn⟩ : ∃ n, n = P.length := ⟨_, rfl⟩
      have HC := Lib.hid (fun W (hW : Below wr.heap.size wr W) => check_any ad cp P W (HRV.out.below hW))
      rw [← hn] at c0 HC
      clear hn
      go_wp2_with fail
      refine (HC.out _ (Below.refl _ _)).mono ?_
      rintro e w1 ⟨rfl, b1⟩
      have HB1 := Lib.hid (HB.out.trans (b1.mono HB.out.size))
      clear b1
      obtain ⟨k, hk⟩ : ∃ k, k = ckL P := ⟨_, rfl⟩
      rw [← hk]
      have HK := Lib.hid hk
      clear hk
      cases k with
      | false =>
        have hRf : Hid (R = ([], 8)) := Lib.hid (by rw [HR.out]; exact cutR_bad (by rw [← HM.out]; exact HNB.out) (i := i) (by rw [← HM.out]; exact HLT.out) (by rw [← HP.out, ← HK.out]))
        rw [show eR false = 8 from rfl]
        go_wp2_with fail
        go_ret2
        rw [hRf.out]
        exact ⟨none, 0, rfl, IV.nil _ _, HB1.out⟩
      | true =>
        have HNX : Hid (∀ j, j < i + 1 → ckL (setAt S j) = true) := Lib.hid (upto_next HCK.out (by rw [← HP.out, ← HK.out]))
        rw [show eR true = 0 from rfl]
        go_wp2_with fail
        go_roundg (gk - 1)
        case measure => have := HF.out; have := HLT.out; omega
        case rel => exact ⟨i + 1, by rw [show ((i + 1 : Nat) : Int) = (i : Int) + 1 by omega], by have := HLT.out; omega, by have := HF.out; omega, HNX.out, HB1.out⟩
    · have e9 : i = m := by omega
      subst e9
      have HALL := Lib.hid (all_ck (S := S) (fun j hj => HCK.out j (by rw [HM.out]; exact hj)))
      have hRt : Hid (R = (Lib.compact ((cutE S).mergeSort fun x y => decide (x ≤ y)), 0)) := Lib.hid (by rw [HR.out]; exact cutR_ok (by rw [← HM.out]; exact HNB.out) (fun j hj => HCK.out j (by rw [HM.out]; exact hj)))
      have HLEN : Hid ((cutE S).length ≤ 1000000) := Lib.hid (by
        have h1 := sets_len S 256 (fun L hL => (HALL.out L hL).1)
        unfold cutE
        simp only [List.length_cons]
        have := H300.out
        have := HM.out
        omega)
      clear him hf hck hb hlt
      have HFD : Hid (Calls Try.prog 32 #[.slice a i c, .slice (some ⟨wr.heap.size, 0, none⟩) 1 1, .func (.func 33) #[] #[]] (wr.alloc (.cells #[.int .i64 0] 3)) fun e w' => ∃ v', e = .returned v' ∧ AddPost w (cutE S) v' w') := Lib.hid (by
        have h := fold32_any (w0 := w) a c S (.slice (some ⟨wr.heap.size, 0, none⟩) 1 1) [0] (wr.alloc (.cells #[.int .i64 0] 3)) HV.out (fun L hL r hr => by
          have := okR_iff.1 (cn_ok (Int.le_refl 0) (HALL.out L hL).2 r hr)
          omega) (fun L hL => (HALL.out L hL).1) (by rw [← HM.out]; exact H300.out) (HB.out.alloc HB.out.size _) (own_base (zero_own wr) HB.out.size) (by decide)
        rw [← HM.out] at h
        exact h)
      go_wp2_with fail
      refine HFD.out.mono ?_
      rintro e w1 ⟨v1, rfl, o1, b1⟩
      obtain ⟨q, cap, rfl⟩ := own_slice o1 (by unfold cutE; simp)
      obtain ⟨n, hn⟩ : ∃ n, n = (cutE S).length := ⟨_, rfl⟩
      have HSO := Lib.hid (sort_any q cap (cutE S) w1 b1 o1 HLEN.out)
      rw [← hn] at HSO
      have HNL := Lib.hid hn
      rw [← hn]
      clear o1 b1 hn HFD
      go_wp2_with fail
      refine HSO.out.mono ?_
      rintro e w2 ⟨rfl, hH, hB, hq, hc, b2⟩
      have HCO : Hid (Calls Try.prog 37 #[.slice (some ⟨q, 0, none⟩) n cap] w2 fun e w' => e = .returned (.slice (some ⟨q, 0, none⟩) (Lib.compact ((cutE S).mergeSort fun x y => decide (x ≤ y))).length cap) ∧ IV w' (some ⟨q, 0, none⟩) (Lib.compact ((cutE S).mergeSort fun x y => decide (x ≤ y))) ∧ Below w.heap.size w w') := Lib.hid (by
        have hz : ((cutE S).mergeSort fun x y => decide (x ≤ y)).length = n := by rw [List.length_mergeSort, HNL.out]
        have h := compact_any q cap ((cutE S).mergeSort fun x y => decide (x ≤ y)) w2 b2 hH hB hq (by rw [hz]; exact hc) (by rw [hz, HNL.out]; exact HLEN.out)
        rw [hz] at h
        exact h)
      obtain ⟨Z, hZ⟩ : ∃ Z, Z = Lib.compact ((cutE S).mergeSort fun x y => decide (x ≤ y)) := ⟨_, rfl⟩
      rw [← hZ] at HCO hRt
      clear hH hB hq hc b2 hZ HSO
      go_wp2_with fail
      refine HCO.out.mono ?_
      rintro e w3 ⟨rfl, hiv, b3⟩
      have HIV := Lib.hid hiv
      have HB3 := Lib.hid b3
      clear hiv b3
      go_wp2_with fail
      go_ret2
      rw [hRt.out]
      exact ⟨_, _, rfl, HIV.out, HB3.out⟩
end Go.Proofs.Ytlngdohkoeognaa

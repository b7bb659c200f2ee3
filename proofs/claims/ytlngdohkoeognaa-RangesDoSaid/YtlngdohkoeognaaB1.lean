/- Layer 6: mayBe, One, Has. -/
import Derived.Test.YtlngdohkoeognaaB0
namespace Go.Proofs.Ytlngdohkoeognaa
open Go.RowKit Go.Maps
theorem okR_no0 {r s : Int} (h : ¬ 0 ≤ r) : okR (r, s) = false := by simp [okR, h]
theorem okR_no1 {r s : Int} (h : ¬ r ≤ s) : okR (r, s) = false := by simp [okR, h]
theorem okR_no2 {r s : Int} (h : ¬ s ≤ 1114111) : okR (r, s) = false := by simp [okR, h]
theorem okR_yes {r s : Int} (h0 : 0 ≤ r) (h1 : r ≤ s) (h2 : s ≤ 1114111) : okR (r, s) = true := by simp [okR, h0, h1, h2]
theorem mayBe_any (r s : Int) (w : World) : Calls Try.prog 38 #[.agg #[.int .i64 r, .int .i64 s]] w fun e w' => e = .returned (.bool (okR (r, s))) ∧ Below w.heap.size w w' := by
  by_cases h0 : 0 ≤ r
  · by_cases h1 : r ≤ s
    · by_cases h2 : s ≤ 1114111
      · rw [okR_yes h0 h1 h2]
        go_enter Try.func38, Try.ntmps38
        go_wp2_with fail
        go_ret
        exact ⟨rfl, (Below.refl _ w).alloc (Nat.le_refl _) _⟩
      · rw [okR_no2 h2]
        go_enter Try.func38, Try.ntmps38
        go_wp2_with fail
        go_ret
        exact ⟨rfl, (Below.refl _ w).alloc (Nat.le_refl _) _⟩
    · rw [okR_no1 h1]
      go_enter Try.func38, Try.ntmps38
      go_wp2_with fail
      go_ret
      exact ⟨rfl, (Below.refl _ w).alloc (Nat.le_refl _) _⟩
  · rw [okR_no0 h0]
    go_enter Try.func38, Try.ntmps38
    go_wp2_with fail
    go_ret
    exact ⟨rfl, (Below.refl _ w).alloc (Nat.le_refl _) _⟩
theorem rone_any (r s : Int) (w : World) : Calls Try.prog 40 #[.agg #[.int .i64 r, .int .i64 s]] w fun e w' => e = .returned (.bool (okR (r, s))) ∧ Below w.heap.size w w' := by
  by_cases h0 : 0 ≤ r
  · by_cases h1 : r ≤ s
    · by_cases h2 : s ≤ 1114111
      · rw [okR_yes h0 h1 h2]
        go_enter Try.func40, Try.ntmps40
        go_wp2_with fail
        go_ret
        exact ⟨rfl, (Below.refl _ w).alloc (Nat.le_refl _) _⟩
      · rw [okR_no2 h2]
        go_enter Try.func40, Try.ntmps40
        go_wp2_with fail
        go_ret
        exact ⟨rfl, (Below.refl _ w).alloc (Nat.le_refl _) _⟩
    · rw [okR_no1 h1]
      go_enter Try.func40, Try.ntmps40
      go_wp2_with fail
      go_ret
      exact ⟨rfl, (Below.refl _ w).alloc (Nat.le_refl _) _⟩
  · rw [okR_no0 h0]
    go_enter Try.func40, Try.ntmps40
    go_wp2_with fail
    go_ret
    exact ⟨rfl, (Below.refl _ w).alloc (Nat.le_refl _) _⟩
theorem hs_no {L : List Rg} {n : Int} (h : ∀ j, j < L.length → inR (gR L j) n = false) : hs L n = false := by
  cases e : hs L n with
  | false => rfl
  | true =>
    obtain ⟨r, hr, h1, h2⟩ := hs_iff.1 e
    obtain ⟨j, hj, rfl⟩ := List.mem_iff_getElem.1 hr
    have g := gR_get hj
    rw [List.getElem?_eq_getElem hj] at g
    simp only [Option.some.injEq] at g
    have := h j hj
    rw [← g, inR_iff.2 ⟨h1, h2⟩] at this
    cases this
theorem hs_yes {L : List Rg} {n : Int} {j : Nat} (hj : j < L.length) (h1 : (gR L j).1 ≤ n) (h2 : n ≤ (gR L j).2) : hs L n = true := hs_iff.2 ⟨_, gR_mem hj, h1, h2⟩
theorem inR_no {r : Rg} {n : Int} (h : ¬ (r.1 ≤ n ∧ n ≤ r.2)) : inR r n = false := by
  cases e : inR r n with
  | false => rfl
  | true => exact absurd (inR_iff.1 e) h
theorem upto_next {p : Nat → Prop} {i : Nat} (h : ∀ j, j < i → p j) (hi : p i) : ∀ j, j < i + 1 → p j := fun j hj => by
  by_cases e : j = i
  · subst e; exact hi
  · exact h j (by omega)
set_option maxRecDepth 20000 in
theorem has_any (a : Option Addr) (c : Nat) (L : List Rg) (n : Int) (w : World) (hv : RV w a L) (hm : L.length ≤ maxLen) :
    Calls Try.prog 25 #[.slice a L.length c, .int .i64 n] w fun e w' => e = .returned (.bool (hs L n)) ∧ Below w.heap.size w w' := by
  obtain ⟨R, hR⟩ : ∃ R, R = hs L n := ⟨_, rfl⟩
  obtain ⟨m, hlm⟩ : ∃ m, m = L.length := ⟨_, rfl⟩
  rw [← hR, ← hlm]
  have HR := Lib.hid hR
  have HM := Lib.hid hlm
  have HV := Lib.hid hv
  have HLE : Hid (m ≤ maxLen) := Lib.hid (by rw [hlm]; exact hm)
  clear hR hlm hv hm
  go_enter Try.func25, Try.ntmps25
  go_wp2_with fail
  go_loopg [9] m (fun f v wr => ∃ i : Nat, v = .int .i64 (i : Nat) ∧ i ≤ m ∧ m - i ≤ f ∧ (∀ j, j < i → inR (gR L j) n = false) ∧ RV wr a L ∧ Below w.heap.size w wr)
  case atStart => exact ⟨0, rfl, by omega, by omega, fun j hj => absurd hj (Nat.not_lt_zero j), HV.out, Below.refl _ _⟩
  case round =>
    obtain ⟨i, rfl, him, hf, hno, hvr, hb⟩ := hrel
    have HN := Lib.hid hno
    have HVr := Lib.hid hvr
    have HB := Lib.hid hb
    have HF := Lib.hid hf
    by_cases hlt : i < m
    · obtain ⟨b, off, rfl, hbb, c0, c1⟩ := hvr i (by rw [← HM.out]; exact hlt)
      obtain ⟨x, hx⟩ : ∃ x, x = (gR L i).1 := ⟨_, rfl⟩
      obtain ⟨y, hy⟩ : ∃ x, x = (gR L i).2 := ⟨_, rfl⟩
      rw [← hx] at c0
      rw [← hy] at c1
      have HX := Lib.hid hx
      have HY := Lib.hid hy
      have hlt' : (i : Int) < (m : Int) := by omega
      have hle := HLE.out
      unfold maxLen at hle
      have hbig : (i : Int) + 1 ≤ 9223372036854775807 := by omega
      have HLT := Lib.hid hlt
      have HNX : Hid (inR (gR L i) n = false → ∀ j, j < i + 1 → inR (gR L j) n = false) := Lib.hid (fun h => upto_next hno h)
      clear him hno hvr hb hf hbb hx hy hle hlt
      by_cases h1 : x ≤ n
      · by_cases h2 : n ≤ y
        · have hRt : Hid (R = true) := Lib.hid (by rw [HR.out]; exact hs_yes (by rw [← HM.out]; exact HLT.out) (by rw [← HX.out]; exact h1) (by rw [← HY.out]; exact h2))
          go_wp2_with fail
          go_ret
          exact ⟨ret_bool hRt.out.symm, HB.out.alloc HB.out.size _⟩
        · have HNO := Lib.hid (HNX.out (inR_no (fun k => h2 (by rw [HY.out]; exact k.2))))
          go_wp2_with fail
          go_roundg (gk - 1)
          case measure => have := HF.out; have := HLT.out; omega
          case rel => exact ⟨i + 1, by rw [show ((i + 1 : Nat) : Int) = (i : Int) + 1 by omega], by have := HLT.out; omega, by have := HF.out; omega, HNO.out, HVr.out.below ((Below.refl _ _).alloc (Nat.le_refl _) _), HB.out.alloc HB.out.size _⟩
      · have HNO := Lib.hid (HNX.out (inR_no (fun k => h1 (by rw [HX.out]; exact k.1))))
        go_wp2_with fail
        go_roundg (gk - 1)
        case measure => have := HF.out; have := HLT.out; omega
        case rel => exact ⟨i + 1, by rw [show ((i + 1 : Nat) : Int) = (i : Int) + 1 by omega], by have := HLT.out; omega, by have := HF.out; omega, HNO.out, HVr.out.below ((Below.refl _ _).alloc (Nat.le_refl _) _), HB.out.alloc HB.out.size _⟩
    · have e9 : i = m := by omega
      subst e9
      have hRf : Hid (R = false) := Lib.hid (by rw [HR.out]; exact hs_no (fun j hj => HN.out j (by rw [HM.out]; exact hj)))
      clear him hf hno hvr hb hlt
      go_wp2_with fail
      go_ret
      exact ⟨ret_bool hRf.out.symm, HB.out⟩
set_option maxRecDepth 20000 in
theorem rhas_any (a : Option Addr) (c : Nat) (L : List Rg) (n : Int) (w : World) (hv : RV w a L) (hm : L.length ≤ maxLen) :
    Calls Try.prog 26 #[.slice a L.length c, .int .i64 n] w fun e w' => e = .returned (.bool (hs L n)) ∧ w = w' := by
  obtain ⟨R, hR⟩ : ∃ R, R = hs L n := ⟨_, rfl⟩
  obtain ⟨m, hlm⟩ : ∃ m, m = L.length := ⟨_, rfl⟩
  rw [← hR, ← hlm]
  have HR := Lib.hid hR
  have HM := Lib.hid hlm
  have HV := Lib.hid hv
  have HLE : Hid (m ≤ maxLen) := Lib.hid (by rw [hlm]; exact hm)
  clear hR hlm hv hm
  go_enter Try.func26, Try.ntmps26
  go_wp2_with fail
  go_loopg [5] m (fun f v wr => w = wr ∧ ∃ i : Nat, v = .int .i64 (i : Nat) ∧ i ≤ m ∧ m - i ≤ f ∧ (∀ j, j < i → inR (gR L j) n = false))
  case atStart => exact ⟨rfl, 0, rfl, by omega, by omega, fun j hj => absurd hj (Nat.not_lt_zero j)⟩
  case round =>
    obtain ⟨rfl, i, rfl, him, hf, hno⟩ := hrel
    have HN := Lib.hid hno
    have HF := Lib.hid hf
    by_cases hlt : i < m
    · obtain ⟨b, off, rfl, hbb, c0, c1⟩ := HV.out i (by rw [← HM.out]; exact hlt)
      obtain ⟨x, hx⟩ : ∃ x, x = (gR L i).1 := ⟨_, rfl⟩
      obtain ⟨y, hy⟩ : ∃ x, x = (gR L i).2 := ⟨_, rfl⟩
      rw [← hx] at c0
      rw [← hy] at c1
      have HX := Lib.hid hx
      have HY := Lib.hid hy
      have hlt' : (i : Int) < (m : Int) := by omega
      have hle := HLE.out
      unfold maxLen at hle
      have hbig : (i : Int) + 1 ≤ 9223372036854775807 := by omega
      have HLT := Lib.hid hlt
      have HNX : Hid (inR (gR L i) n = false → ∀ j, j < i + 1 → inR (gR L j) n = false) := Lib.hid (fun h => upto_next hno h)
      clear him hno hf hbb hx hy hle hlt
      by_cases h1 : x ≤ n
      · by_cases h2 : n ≤ y
        · have hRt : Hid (R = true) := Lib.hid (by rw [HR.out]; exact hs_yes (by rw [← HM.out]; exact HLT.out) (by rw [← HX.out]; exact h1) (by rw [← HY.out]; exact h2))
          go_wp2_with fail
          go_ret
          exact ⟨ret_bool hRt.out.symm, rfl⟩
        · have HNO := Lib.hid (HNX.out (inR_no (fun k => h2 (by rw [HY.out]; exact k.2))))
          go_wp2_with fail
          go_roundg (gk - 1)
          case measure => have := HF.out; have := HLT.out; omega
          case rel => exact ⟨rfl, i + 1, by rw [show ((i + 1 : Nat) : Int) = (i : Int) + 1 by omega], by have := HLT.out; omega, by have := HF.out; omega, HNO.out⟩
      · have HNO := Lib.hid (HNX.out (inR_no (fun k => h1 (by rw [HX.out]; exact k.1))))
        go_wp2_with fail
        go_roundg (gk - 1)
        case measure => have := HF.out; have := HLT.out; omega
        case rel => exact ⟨rfl, i + 1, by rw [show ((i + 1 : Nat) : Int) = (i : Int) + 1 by omega], by have := HLT.out; omega, by have := HF.out; omega, HNO.out⟩
    · have e9 : i = m := by omega
      subst e9
      have hRf : Hid (R = false) := Lib.hid (by rw [HR.out]; exact hs_no (fun j hj => HN.out j (by rw [HM.out]; exact hj)))
      clear him hf hno hlt
      go_wp2_with fail
      go_ret
      exact ⟨ret_bool hRf.out.symm, rfl⟩
end Go.Proofs.Ytlngdohkoeognaa

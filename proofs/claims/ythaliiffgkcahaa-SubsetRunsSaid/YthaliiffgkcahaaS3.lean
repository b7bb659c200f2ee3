/- Layer 10: where classes may begin: the program's. -/
import Derived.Test.YthaliiffgkcahaaS2
namespace Go.Proofs.Ythaliiffgkcahaa
open Go.RowKit Go.Maps
/-- Where classes may begin. -/
def CutsOk (C : List Int) : Prop := 1 ≤ C.length ∧ C.length ≤ 256 ∧ gI C 0 = 0 ∧ ∀ i, 1 ≤ i → i < C.length → gI C (i - 1) < gI C i ∧ gI C i ≤ 1114111
theorem is_no {g : Bool} {P : Prop} (h : g = true ↔ P) (k : ¬ P) : g = false := by
  cases g with
  | false => rfl
  | true => exact absurd (h.1 rfl) k
theorem is_yes {g : Bool} {P : Prop} (h : g = true ↔ P) (k : P) : g = true := h.2 k
set_option maxRecDepth 20000 in
theorem cuts_any (ad : Option Addr) (cp : Nat) (C : List Int) (g : Bool) (hg : g = true ↔ CutsOk C) (w : World) (hv : IV w ad C) (hm : C.length ≤ maxLen) : Calls Try.prog 22 #[.slice ad C.length cp] w fun r w' => r = .returned (.bool g) ∧ Below w.heap.size w w' := by
  unfold maxLen at hm
  have HV := Lib.hid hv
  have HG := Lib.hid hg
  obtain ⟨n, hn⟩ : ∃ n, n = C.length := ⟨_, rfl⟩
  rw [← hn]
  rw [← hn] at hm
  have HN := Lib.hid hn
  clear hv hg hn
  by_cases k1 : n < 1
  · have HX : Hid (g = false) := Lib.hid (is_no HG.out (fun e => by have := e.1; have := HN.out; omega))
    have k1' : (n : Int) < 1 := by omega
    go_enter Try.func22, Try.ntmps22
    go_wp2_with fail
    go_ret
    exact ⟨ret_bool HX.out.symm, Below.refl _ _⟩
  have k1' : ¬ (n : Int) < 1 := by omega
  by_cases k2 : 256 < n
  · have HX : Hid (g = false) := Lib.hid (is_no HG.out (fun e => by have := e.2.1; have := HN.out; omega))
    have k2' : (256 : Int) < n := by omega
    go_enter Try.func22, Try.ntmps22
    go_wp2_with fail
    go_ret
    exact ⟨ret_bool HX.out.symm, Below.refl _ _⟩
  have k2' : ¬ (256 : Int) < n := by omega
  obtain ⟨b, off, rfl⟩ := HV.out.addr (by rw [← HN.out]; omega)
  obtain ⟨_, z0⟩ := HV.out.at_ (i := 0) (by rw [← HN.out]; omega)
  rw [Nat.add_zero] at z0
  obtain ⟨z, hz⟩ : ∃ z, z = gI C 0 := ⟨_, rfl⟩
  rw [← hz] at z0
  have HZ := Lib.hid hz
  clear hz
  have k0 : (0 : Int) < n := by omega
  by_cases k3 : z = 0
  · subst k3
    go_enter Try.func22, Try.ntmps22
    go_wp2_with fail
    go_loopw [3] (fun v3 wr => ∃ i : Nat, 1 ≤ i ∧ i ≤ n ∧ v3 = .int .i64 i ∧ Hid (∀ j, j < i → 1 ≤ j → gI C (j - 1) < gI C j ∧ gI C j ≤ 1114111) ∧ Hid (Below w.heap.size w wr)) (fun v3 _ => n - (intOf v3).toNat)
    case atStart => exact ⟨1, by omega, by omega, rfl, Lib.hid (fun j h1 h2 => by omega), Lib.hid (Below.refl _ _)⟩
    case round =>
      obtain ⟨i, hi1, hi, rfl, HI, HB⟩ := hrel
      by_cases h1 : i < n
      · obtain ⟨k, hk⟩ : ∃ k, k = i - 1 := ⟨_, rfl⟩
        have hsub : (i : Int) - 1 = (k : Int) := by omega
        have hk0 : (0 : Int) ≤ k := by omega
        have hkn : (k : Int) < n := by omega
        have hkw : IntKind.i64.wrap (k : Int) = (k : Int) := IntWalk.i64_in _ (by omega)
        obtain ⟨_, d0⟩ := (HV.out.below HB.out).at_ (i := i) (by rw [← HN.out]; exact h1)
        obtain ⟨_, e0⟩ := (HV.out.below HB.out).at_ (i := k) (by rw [← HN.out]; omega)
        obtain ⟨p, hp⟩ : ∃ c, c = gI C i := ⟨_, rfl⟩
        obtain ⟨q, hq⟩ : ∃ c, c = gI C k := ⟨_, rfl⟩
        rw [← hp] at d0
        rw [← hq] at e0
        have HPQ : Hid (p = gI C i ∧ q = gI C (i - 1)) := Lib.hid ⟨hp, by rw [← hk]; exact hq⟩
        clear hp hq hk
        have hg1 : (i : Int) < n := by omega
        have hg0 : (0 : Int) ≤ i := by omega
        by_cases c1 : p ≤ q
        · have HX : Hid (g = false) := Lib.hid (is_no HG.out (fun e => by
            have := (e.2.2.2 i hi1 (by rw [← HN.out]; exact h1)).1
            have := HPQ.out
            omega))
          go_wp2_with fail
          go_quiet (fail)
          go_wp2_with fail
          go_ret
          exact ⟨ret_bool HX.out.symm, ⟨HB.out.os, HB.out.tape, HB.out.output, HB.out.size, HB.out.block⟩⟩
        · by_cases c2 : 1114111 < p
          · have HX : Hid (g = false) := Lib.hid (is_no HG.out (fun e => by
              have := (e.2.2.2 i hi1 (by rw [← HN.out]; exact h1)).2
              have := HPQ.out
              omega))
            go_wp2_with fail
            go_quiet (fail)
            go_wp2_with fail
            go_ret
            exact ⟨ret_bool HX.out.symm, ⟨HB.out.os, HB.out.tape, HB.out.output, HB.out.size, HB.out.block⟩⟩
          · have HI2 : Hid (∀ j, j < i + 1 → 1 ≤ j → gI C (j - 1) < gI C j ∧ gI C j ≤ 1114111) := Lib.hid (upto_next HI.out (fun _ => by have := HPQ.out; omega))
            clear HI
            go_wp2_with fail
            go_quiet (fail)
            go_wp2_with fail
            go_roundw
            case rel => exact ⟨i + 1, by omega, by omega, by go_num, HI2, Lib.hid ⟨HB.out.os, HB.out.tape, HB.out.output, HB.out.size, HB.out.block⟩⟩
            case measure => simp [intOf]; omega
      · have e1 : i = n := by omega
        subst e1
        have HX : Hid (g = true) := Lib.hid (is_yes HG.out ⟨by rw [← HN.out]; omega, by rw [← HN.out]; omega, HZ.out.symm, fun j h1 h2 => HI.out j (by rw [HN.out]; exact h2) h1⟩)
        have hg1 : ¬ (i : Int) < i := by omega
        clear HI
        go_wp2_with fail
        go_ret
        exact ⟨ret_bool HX.out.symm, HB.out⟩
  · have HX : Hid (g = false) := Lib.hid (is_no HG.out (fun e => k3 (by have := HZ.out; have := e.2.2.1; omega)))
    have k3' : (z != 0) = true := by simpa using k3
    have k3'' : (z == 0) = false := by simpa using k3
    go_enter Try.func22, Try.ntmps22
    go_wp2_with fail
    go_ret
    exact ⟨ret_bool HX.out.symm, Below.refl _ _⟩
end Go.Proofs.Ythaliiffgkcahaa

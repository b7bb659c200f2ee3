/- Layer 10: rows compared. -/
import Derived.Test.YthaliiffgkcahaaS0
namespace Go.Proofs.Ythaliiffgkcahaa
open Go.RowKit Go.Maps
set_option maxRecDepth 20000 in
theorem rsamei_any (a1 a2 : Option Addr) (c1 c2 : Nat) (L M : List Int) (w : World) (hv1 : IV w a1 L) (hv2 : IV w a2 M) (hn : L.length ≤ maxLen) : Calls Try.prog 16 #[.slice a1 L.length c1, .slice a2 M.length c2] w fun r w' => r = .returned (.bool (decide (L = M))) ∧ Below w.heap.size w w' := by
  unfold maxLen at hn
  obtain ⟨x, hx⟩ : ∃ x, x = decide (L = M) := ⟨_, rfl⟩
  rw [← hx]
  replace hx := Lib.hid hx
  have HV1 := Lib.hid hv1
  have HV2 := Lib.hid hv2
  obtain ⟨n1, hn1⟩ : ∃ n, n = L.length := ⟨_, rfl⟩
  obtain ⟨n2, hn2⟩ : ∃ n, n = M.length := ⟨_, rfl⟩
  rw [← hn1, ← hn2]
  rw [← hn1] at hn
  have HN1 := Lib.hid hn1
  have HN2 := Lib.hid hn2
  clear hv1 hv2 hn1 hn2
  by_cases he : n1 = n2
  · subst he
    have hn' : (n1 : Int) ≤ 9223372036854775807 := by omega
    have hne : ((n1 : Int) != n1) = false := by simp
    go_enter Try.func16, Try.ntmps16
    go_wp2_with fail
    go_loopw [5] (fun v5 wr => ∃ i : Nat, i ≤ n1 ∧ v5 = .int .i64 i ∧ Hid (∀ j, j < i → gI L j = gI M j) ∧ Hid (Below w.heap.size w wr)) (fun v5 _ => n1 - (intOf v5).toNat)
    case atStart => exact ⟨0, Nat.zero_le _, rfl, Lib.hid (fun j hj => by omega), Lib.hid (Below.refl _ _)⟩
    case round =>
      obtain ⟨i, hi, rfl, HN, HB⟩ := hrel
      by_cases h1 : i < n1
      · obtain ⟨b, off, rfl⟩ := HV1.out.addr (by rw [← HN1.out]; omega)
        obtain ⟨b', off', rfl⟩ := HV2.out.addr (by rw [← HN2.out]; omega)
        obtain ⟨_, d0⟩ := (HV1.out.below HB.out).at_ (i := i) (by rw [← HN1.out]; exact h1)
        obtain ⟨_, e0⟩ := (HV2.out.below HB.out).at_ (i := i) (by rw [← HN2.out]; exact h1)
        have hg1 : (i : Int) < n1 := by omega
        have hg0 : (0 : Int) ≤ i := by omega
        obtain ⟨p, hp⟩ : ∃ c, c = gI L i := ⟨_, rfl⟩
        obtain ⟨r, hr⟩ : ∃ c, c = gI M i := ⟨_, rfl⟩
        rw [← hp] at d0
        rw [← hr] at e0
        have HP := Lib.hid hp
        have HQ := Lib.hid hr
        by_cases hcd : p = r
        · have HN2' : Hid (∀ j, j < i + 1 → gI L j = gI M j) := Lib.hid (upto_next HN.out (by rw [← HP.out, ← HQ.out]; exact hcd))
          subst hcd
          have hq : (p != p) = false := by simp
          clear HN hp hr
          go_wp2_with fail
          go_quiet (fail)
          go_wp2_with fail
          go_roundw
          case rel => exact ⟨i + 1, by omega, by go_num, HN2', Lib.hid ⟨HB.out.os, HB.out.tape, HB.out.output, HB.out.size, HB.out.block⟩⟩
          case measure => simp [intOf]; omega
        · have HX : Hid (x = false) := Lib.hid (by
            rw [hx.out]
            refine decide_eq_false (fun e => hcd ?_)
            rw [HP.out, HQ.out, e])
          have hq : (p != r) = true := by simpa using hcd
          have hq2 : (p == r) = false := by rw [beq_eq_false_iff_ne]; exact hcd
          clear HN hp hr hcd
          go_wp2_with fail
          go_quiet (fail)
          go_wp2_with fail
          go_ret
          exact ⟨ret_bool HX.out.symm, ⟨HB.out.os, HB.out.tape, HB.out.output, HB.out.size, HB.out.block⟩⟩
      · have e1 : i = n1 := by omega
        subst e1
        have HX : Hid (x = true) := Lib.hid (by rw [hx.out]; exact decide_eq_true (gI_ext (by rw [← HN1.out, ← HN2.out]) (fun j hj => HN.out j (by rw [HN1.out]; exact hj))))
        have hg1 : ¬ (i : Int) < i := by omega
        clear HN
        go_wp2_with fail
        go_ret
        exact ⟨ret_bool HX.out.symm, HB.out⟩
  · have HX : Hid (x = false) := Lib.hid (by rw [hx.out]; exact decide_eq_false (fun e => he (by rw [HN1.out, HN2.out, e])))
    have hne : ((n1 : Int) != n2) = true := by simp; omega
    go_enter Try.func16, Try.ntmps16
    go_wp2_with fail
    go_ret
    exact ⟨ret_bool HX.out.symm, Below.refl _ _⟩
set_option maxRecDepth 20000 in
theorem eqI_any (a1 a2 : Option Addr) (c1 c2 : Nat) (L M : List Int) (w : World) (hv1 : IV w a1 L) (hv2 : IV w a2 M) (hn : L.length ≤ maxLen) : Calls Try.prog 23 #[.slice a1 L.length c1, .slice a2 M.length c2] w fun r w' => r = .returned (.bool (decide (L = M))) ∧ Below w.heap.size w w' := by
  unfold maxLen at hn
  obtain ⟨x, hx⟩ : ∃ x, x = decide (L = M) := ⟨_, rfl⟩
  rw [← hx]
  replace hx := Lib.hid hx
  have HV1 := Lib.hid hv1
  have HV2 := Lib.hid hv2
  obtain ⟨n1, hn1⟩ : ∃ n, n = L.length := ⟨_, rfl⟩
  obtain ⟨n2, hn2⟩ : ∃ n, n = M.length := ⟨_, rfl⟩
  rw [← hn1, ← hn2]
  rw [← hn1] at hn
  have HN1 := Lib.hid hn1
  have HN2 := Lib.hid hn2
  clear hv1 hv2 hn1 hn2
  by_cases he : n1 = n2
  · subst he
    have hn' : (n1 : Int) ≤ 9223372036854775807 := by omega
    have hne : ((n1 : Int) != n1) = false := by simp
    go_enter Try.func23, Try.ntmps23
    go_wp2_with fail
    go_loopw [5, 13] (fun _ v5 wr => ∃ i : Nat, i ≤ n1 ∧ v5 = .int .i64 i ∧ Hid (∀ j, j < i → gI L j = gI M j) ∧ Hid (Below w.heap.size w wr)) (fun _ v5 _ => n1 - (intOf v5).toNat)
    case atStart => exact ⟨0, Nat.zero_le _, rfl, Lib.hid (fun j hj => by omega), Lib.hid (Below.refl _ _)⟩
    case round =>
      obtain ⟨i, hi, rfl, HN, HB⟩ := hrel
      by_cases h1 : i < n1
      · obtain ⟨b, off, rfl⟩ := HV1.out.addr (by rw [← HN1.out]; omega)
        obtain ⟨b', off', rfl⟩ := HV2.out.addr (by rw [← HN2.out]; omega)
        obtain ⟨_, d0⟩ := (HV1.out.below HB.out).at_ (i := i) (by rw [← HN1.out]; exact h1)
        obtain ⟨_, e0⟩ := (HV2.out.below HB.out).at_ (i := i) (by rw [← HN2.out]; exact h1)
        have hg1 : (i : Int) < n1 := by omega
        have hg0 : (0 : Int) ≤ i := by omega
        obtain ⟨p, hp⟩ : ∃ c, c = gI L i := ⟨_, rfl⟩
        obtain ⟨r, hr⟩ : ∃ c, c = gI M i := ⟨_, rfl⟩
        rw [← hp] at d0
        rw [← hr] at e0
        have HP := Lib.hid hp
        have HQ := Lib.hid hr
        by_cases hcd : p = r
        · have HN2' : Hid (∀ j, j < i + 1 → gI L j = gI M j) := Lib.hid (upto_next HN.out (by rw [← HP.out, ← HQ.out]; exact hcd))
          subst hcd
          have hq : (p != p) = false := by simp
          clear HN hp hr
          go_wp2_with fail
          go_quiet (fail)
          go_wp2_with fail
          go_roundw
          case rel => exact ⟨i + 1, by omega, by go_num, HN2', Lib.hid ⟨HB.out.os, HB.out.tape, HB.out.output, HB.out.size, HB.out.block⟩⟩
          case measure => simp [intOf]; omega
        · have HX : Hid (x = false) := Lib.hid (by
            rw [hx.out]
            refine decide_eq_false (fun e => hcd ?_)
            rw [HP.out, HQ.out, e])
          have hq : (p != r) = true := by simpa using hcd
          have hq2 : (p == r) = false := by rw [beq_eq_false_iff_ne]; exact hcd
          clear HN hp hr hcd
          go_wp2_with fail
          go_quiet (fail)
          go_wp2_with fail
          go_ret
          exact ⟨ret_bool HX.out.symm, ⟨HB.out.os, HB.out.tape, HB.out.output, HB.out.size, HB.out.block⟩⟩
      · have e1 : i = n1 := by omega
        subst e1
        have HX : Hid (x = true) := Lib.hid (by rw [hx.out]; exact decide_eq_true (gI_ext (by rw [← HN1.out, ← HN2.out]) (fun j hj => HN.out j (by rw [HN1.out]; exact hj))))
        have hg1 : ¬ (i : Int) < i := by omega
        clear HN
        go_wp2_with fail
        go_ret
        exact ⟨ret_bool HX.out.symm, HB.out⟩
  · have HX : Hid (x = false) := Lib.hid (by rw [hx.out]; exact decide_eq_false (fun e => he (by rw [HN1.out, HN2.out, e])))
    have hne : ((n1 : Int) != n2) = true := by simp; omega
    go_enter Try.func23, Try.ntmps23
    go_wp2_with fail
    go_ret
    exact ⟨ret_bool HX.out.symm, Below.refl _ _⟩
set_option maxRecDepth 20000 in
theorem eqB_any (a1 a2 : Option Addr) (c1 c2 : Nat) (L M : List Bool) (w : World) (hv1 : BV w a1 L) (hv2 : BV w a2 M) (hn : L.length ≤ maxLen) : Calls Try.prog 25 #[.slice a1 L.length c1, .slice a2 M.length c2] w fun r w' => r = .returned (.bool (decide (L = M))) ∧ Below w.heap.size w w' := by
  unfold maxLen at hn
  obtain ⟨x, hx⟩ : ∃ x, x = decide (L = M) := ⟨_, rfl⟩
  rw [← hx]
  replace hx := Lib.hid hx
  have HV1 := Lib.hid hv1
  have HV2 := Lib.hid hv2
  obtain ⟨n1, hn1⟩ : ∃ n, n = L.length := ⟨_, rfl⟩
  obtain ⟨n2, hn2⟩ : ∃ n, n = M.length := ⟨_, rfl⟩
  rw [← hn1, ← hn2]
  rw [← hn1] at hn
  have HN1 := Lib.hid hn1
  have HN2 := Lib.hid hn2
  clear hv1 hv2 hn1 hn2
  by_cases he : n1 = n2
  · subst he
    have hn' : (n1 : Int) ≤ 9223372036854775807 := by omega
    have hne : ((n1 : Int) != n1) = false := by simp
    go_enter Try.func25, Try.ntmps25
    go_wp2_with fail
    go_loopw [5, 13] (fun _ v5 wr => ∃ i : Nat, i ≤ n1 ∧ v5 = .int .i64 i ∧ Hid (∀ j, j < i → gB L j = gB M j) ∧ Hid (Below w.heap.size w wr)) (fun _ v5 _ => n1 - (intOf v5).toNat)
    case atStart => exact ⟨0, Nat.zero_le _, rfl, Lib.hid (fun j hj => by omega), Lib.hid (Below.refl _ _)⟩
    case round =>
      obtain ⟨i, hi, rfl, HN, HB⟩ := hrel
      by_cases h1 : i < n1
      · obtain ⟨b, off, rfl⟩ := HV1.out.addr (by rw [← HN1.out]; omega)
        obtain ⟨b', off', rfl⟩ := HV2.out.addr (by rw [← HN2.out]; omega)
        obtain ⟨_, d0⟩ := (HV1.out.below HB.out).at_ (i := i) (by rw [← HN1.out]; exact h1)
        obtain ⟨_, e0⟩ := (HV2.out.below HB.out).at_ (i := i) (by rw [← HN2.out]; exact h1)
        have hg1 : (i : Int) < n1 := by omega
        have hg0 : (0 : Int) ≤ i := by omega
        obtain ⟨p, hp⟩ : ∃ c, c = gB L i := ⟨_, rfl⟩
        obtain ⟨r, hr⟩ : ∃ c, c = gB M i := ⟨_, rfl⟩
        rw [← hp] at d0
        rw [← hr] at e0
        have HP := Lib.hid hp
        have HQ := Lib.hid hr
        by_cases hcd : p = r
        · have HN2' : Hid (∀ j, j < i + 1 → gB L j = gB M j) := Lib.hid (upto_next HN.out (by rw [← HP.out, ← HQ.out]; exact hcd))
          subst hcd
          have hq : (p != p) = false := by simp
          clear HN hp hr
          go_wp2_with fail
          go_quiet (fail)
          go_wp2_with fail
          go_roundw
          case rel => exact ⟨i + 1, by omega, by go_num, HN2', Lib.hid ⟨HB.out.os, HB.out.tape, HB.out.output, HB.out.size, HB.out.block⟩⟩
          case measure => simp [intOf]; omega
        · have HX : Hid (x = false) := Lib.hid (by
            rw [hx.out]
            refine decide_eq_false (fun e => hcd ?_)
            rw [HP.out, HQ.out, e])
          have hq : (p != r) = true := by simpa using hcd
          have hq2 : (p == r) = false := by rw [beq_eq_false_iff_ne]; exact hcd
          clear HN hp hr hcd
          go_wp2_with fail
          go_quiet (fail)
          go_wp2_with fail
          go_ret
          exact ⟨ret_bool HX.out.symm, ⟨HB.out.os, HB.out.tape, HB.out.output, HB.out.size, HB.out.block⟩⟩
      · have e1 : i = n1 := by omega
        subst e1
        have HX : Hid (x = true) := Lib.hid (by rw [hx.out]; exact decide_eq_true (gB_ext (by rw [← HN1.out, ← HN2.out]) (fun j hj => HN.out j (by rw [HN1.out]; exact hj))))
        have hg1 : ¬ (i : Int) < i := by omega
        clear HN
        go_wp2_with fail
        go_ret
        exact ⟨ret_bool HX.out.symm, HB.out⟩
  · have HX : Hid (x = false) := Lib.hid (by rw [hx.out]; exact decide_eq_false (fun e => he (by rw [HN1.out, HN2.out, e])))
    have hne : ((n1 : Int) != n2) = true := by simp; omega
    go_enter Try.func25, Try.ntmps25
    go_wp2_with fail
    go_ret
    exact ⟨ret_bool HX.out.symm, Below.refl _ _⟩
theorem isPoint_any (n : Int) (w : World) : Calls Try.prog 17 #[.int .i64 n] w fun r w' => r = .returned (.bool (decide (0 ≤ n ∧ n ≤ 1114111))) ∧ Below w.heap.size w w' := by
  obtain ⟨x, hx⟩ : ∃ x, x = decide (0 ≤ n ∧ n ≤ 1114111) := ⟨_, rfl⟩
  rw [← hx]
  replace hx := Lib.hid hx
  by_cases g1 : 0 ≤ n
  · by_cases g2 : n ≤ 1114111
    · have HX : Hid (x = true) := Lib.hid (by rw [hx.out]; exact decide_eq_true ⟨g1, g2⟩)
      go_enter Try.func17, Try.ntmps17
      go_wp2_with fail
      go_ret
      exact ⟨ret_bool HX.out.symm, Below.refl _ _⟩
    · have HX : Hid (x = false) := Lib.hid (by rw [hx.out]; exact decide_eq_false (fun e => g2 e.2))
      go_enter Try.func17, Try.ntmps17
      go_wp2_with fail
      go_ret
      exact ⟨ret_bool HX.out.symm, Below.refl _ _⟩
  · have HX : Hid (x = false) := Lib.hid (by rw [hx.out]; exact decide_eq_false (fun e => g1 e.1))
    go_enter Try.func17, Try.ntmps17
    go_wp2_with fail
    go_ret
    exact ⟨ret_bool HX.out.symm, Below.refl _ _⟩
end Go.Proofs.Ythaliiffgkcahaa

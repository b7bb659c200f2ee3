/- Layer 10: may one be: the document's. -/
import Derived.Test.YthaliiffgkcahaaS3
namespace Go.Proofs.Ythaliiffgkcahaa
open Go.RowKit Go.Maps
/-- What goes one way, as it may be. -/
def DfOk (d : DF) : Prop := CutsOk d.C ∧ 1 ≤ d.S.length ∧ d.S.length ≤ 64 ∧ d.B.length = d.S.length ∧ ∀ i, i < d.S.length → (gS d.S i).length = d.C.length ∧ ∀ j, j < (gS d.S i).length → 0 ≤ gI (gS d.S i) j ∧ gI (gS d.S i) j < d.S.length
/-- A box of three cells. -/
structure Bq (w : World) (q : Nat) (x0 x1 x2 : Value) : Prop where
  lt : q < w.heap.size
  c0 : w.cell? ⟨q, 0, none⟩ = some x0
  c1 : w.cell? ⟨q, 1, none⟩ = some x1
  c2 : w.cell? ⟨q, 2, none⟩ = some x2
theorem Bq.below {w w' : World} {q : Nat} {x0 x1 x2 : Value} (h : Bq w q x0 x1 x2) (k : Below w.heap.size w w') : Bq w' q x0 x1 x2 :=
  ⟨Nat.lt_of_lt_of_le h.lt k.size, (k.cell (p := ⟨q, _, none⟩) h.lt).trans h.c0, (k.cell (p := ⟨q, _, none⟩) h.lt).trans h.c1, (k.cell (p := ⟨q, _, none⟩) h.lt).trans h.c2⟩
theorem bq_new (w : World) (x0 x1 x2 : Value) (t : TypeId) : Bq (w.alloc (.cells #[x0, x1, x2] t)) w.heap.size x0 x1 x2 :=
  ⟨by simp, World.cell?_alloc_mark w #[x0, x1, x2] t (0, 0) 0, World.cell?_alloc_mark w #[x0, x1, x2] t (0, 0) 1, World.cell?_alloc_mark w #[x0, x1, x2] t (0, 0) 2⟩
theorem Bq.drew {w : World} {q : Nat} {x0 x1 x2 : Value} (h : Bq w q x0 x1 x2) (n : Nat) : Bq (w.drewN n) q x0 x1 x2 := h.below ⟨rfl, rfl, rfl, Nat.le_refl _, fun _ _ => rfl⟩
/-- What holds while it only looks on. -/
def Lk (w wr : World) (x0 x1 x2 : Value) : Prop := Below w.heap.size w wr ∧ Bq wr w.heap.size x0 x1 x2
theorem Lk.drew {w wr : World} {x0 x1 x2 : Value} (h : Lk w wr x0 x1 x2) (n : Nat) : Lk w (wr.drewN n) x0 x1 x2 := ⟨below_drewN0 h.1 n, h.2.drew n⟩
theorem lk_new (w : World) (x0 x1 x2 : Value) (t : TypeId) : Lk w (w.alloc (.cells #[x0, x1, x2] t)) x0 x1 x2 := ⟨(Below.refl w.heap.size w).alloc (Nat.le_refl _) _, bq_new w x0 x1 x2 t⟩
theorem Lk.below {w wr w1 : World} {x0 x1 x2 : Value} (h : Lk w wr x0 x1 x2) (k : Below wr.heap.size wr w1) : Lk w w1 x0 x1 x2 := ⟨h.1.trans (k.mono h.1.size), h.2.below k⟩
theorem no_of {g : Bool} {P : Prop} (h : g = true → P) (k : ¬ P) : g = false := by
  cases g with
  | false => rfl
  | true => exact absurd (h rfl) k
set_option maxRecDepth 20000 in
set_option maxHeartbeats 1000000 in
theorem may_any (a : DA) (d : DF) (g : Bool) (hg : g = true ↔ DfOk d) (w : World) (hv : DV w a d) : Calls Try.prog 19 #[dv a d] w fun r w' => r = .returned (.bool g) ∧ Below w.heap.size w w' := by
  obtain ⟨a0, a1, a2, c0, c1, c2⟩ := a
  obtain ⟨C, S, B⟩ := d
  have hm0 : C.length ≤ maxLen := Nat.le_trans hv.l0 hv.m0
  have hm1 : S.length ≤ maxLen := Nat.le_trans hv.l1 hv.m1
  have hm2 : B.length ≤ maxLen := Nat.le_trans hv.l2 hv.m2
  unfold maxLen at hm0 hm1 hm2
  have HV0 : Hid (IV w a0 C) := Lib.hid hv.iv
  have HV1 : Hid (SV w a1 S) := Lib.hid hv.sv
  clear hv
  have HG := Lib.hid hg
  clear hg
  obtain ⟨nC, hC⟩ : ∃ n, n = C.length := ⟨_, rfl⟩
  obtain ⟨nS, hS⟩ : ∃ n, n = S.length := ⟨_, rfl⟩
  obtain ⟨nB, hB⟩ : ∃ n, n = B.length := ⟨_, rfl⟩
  show Calls Try.prog 19 #[.agg #[.slice a0 C.length c0, .slice a1 S.length c1, .slice a2 B.length c2]] w fun r w' => r = .returned (.bool g) ∧ Below w.heap.size w w'
  rw [← hC, ← hS, ← hB]
  rw [← hC] at hm0
  rw [← hS] at hm1
  rw [← hB] at hm2
  have HG2 : Hid (g = true → CutsOk C ∧ 1 ≤ nS ∧ nS ≤ 64 ∧ nB = nS ∧ ∀ i, i < nS → (gS S i).length = nC ∧ ∀ j, j < (gS S i).length → 0 ≤ gI (gS S i) j ∧ gI (gS S i) j < nS) := Lib.hid (by
    intro e
    have := HG.out.1 e
    rw [hC, hS, hB]
    exact this)
  have HG3 : Hid ((CutsOk C ∧ 1 ≤ nS ∧ nS ≤ 64 ∧ nB = nS ∧ ∀ i, i < nS → (gS S i).length = nC ∧ ∀ j, j < (gS S i).length → 0 ≤ gI (gS S i) j ∧ gI (gS S i) j < nS) → g = true) := Lib.hid (by
    intro e
    rw [hC, hS, hB] at e
    exact HG.out.2 e)
  have HC := Lib.hid hC
  have HS := Lib.hid hS
  clear hC hS hB HG
  by_cases k1 : nC < 1
  · have k1' : (nC : Int) < 1 := by omega
    have HX : Hid (g = false) := Lib.hid (no_of HG2.out (fun e => by have := e.1.1; have := HC.out; omega))
    go_enter Try.func19, Try.ntmps19
    go_wp2_with fail
    go_ret
    exact ⟨ret_bool HX.out.symm, (Below.refl w.heap.size w).alloc (Nat.le_refl _) _⟩
  have k1' : ¬ (nC : Int) < 1 := by omega
  by_cases k2 : 256 < nC
  · have k2' : (256 : Int) < nC := by omega
    have HX : Hid (g = false) := Lib.hid (no_of HG2.out (fun e => by have := e.1.2.1; have := HC.out; omega))
    go_enter Try.func19, Try.ntmps19
    go_wp2_with fail
    go_ret
    exact ⟨ret_bool HX.out.symm, (Below.refl w.heap.size w).alloc (Nat.le_refl _) _⟩
  have k2' : ¬ (256 : Int) < nC := by omega
  obtain ⟨b, off, rfl⟩ := HV0.out.addr (by rw [← HC.out]; omega)
  have z0 : (w.alloc (.cells #[.slice (some ⟨b, off, none⟩) nC c0, .slice a1 nS c1, .slice a2 nB c2] 26)).cell? ⟨b, off, none⟩ = some (.int .i64 (gI C 0)) := by
    have h := ((HV0.out.below ((Below.refl w.heap.size w).alloc (Nat.le_refl _) (.cells #[.slice (some ⟨b, off, none⟩) nC c0, .slice a1 nS c1, .slice a2 nB c2] 26))).at_ (i := 0) (by rw [← HC.out]; omega)).2
    rwa [Nat.add_zero] at h
  obtain ⟨z, hz⟩ : ∃ z, z = gI C 0 := ⟨_, rfl⟩
  rw [← hz] at z0
  have HZ := Lib.hid hz
  clear hz
  have k0 : (0 : Int) < nC := by omega
  by_cases k3 : z ≠ 0
  · have k3' : (z != 0) = true := by simpa using k3
    have k3'' : (z == 0) = false := by simpa using k3
    have HX : Hid (g = false) := Lib.hid (no_of HG2.out (fun e => k3 (by have := HZ.out; have := e.1.2.2.1; omega)))
    go_enter Try.func19, Try.ntmps19
    go_wp2_with fail
    go_ret
    exact ⟨ret_bool HX.out.symm, (Below.refl w.heap.size w).alloc (Nat.le_refl _) _⟩
  have k3' : z = 0 := by omega
  subst k3'
  by_cases k4 : nS < 1
  · have k4' : (nS : Int) < 1 := by omega
    have HX : Hid (g = false) := Lib.hid (no_of HG2.out (fun e => by have := e.2.1; omega))
    go_enter Try.func19, Try.ntmps19
    go_wp2_with fail
    go_ret
    exact ⟨ret_bool HX.out.symm, (Below.refl w.heap.size w).alloc (Nat.le_refl _) _⟩
  have k4' : ¬ (nS : Int) < 1 := by omega
  by_cases k5 : 64 < nS
  · have k5' : (64 : Int) < nS := by omega
    have HX : Hid (g = false) := Lib.hid (no_of HG2.out (fun e => by have := e.2.2.1; omega))
    go_enter Try.func19, Try.ntmps19
    go_wp2_with fail
    go_ret
    exact ⟨ret_bool HX.out.symm, (Below.refl w.heap.size w).alloc (Nat.le_refl _) _⟩
  have k5' : ¬ (64 : Int) < nS := by omega
  by_cases k6 : nB ≠ nS
  · have k6' : ((nB : Int) != nS) = true := by simp; omega
    have HX : Hid (g = false) := Lib.hid (no_of HG2.out (fun e => k6 e.2.2.2.1))
    go_enter Try.func19, Try.ntmps19
    go_wp2_with fail
    go_ret
    exact ⟨ret_bool HX.out.symm, (Below.refl w.heap.size w).alloc (Nat.le_refl _) _⟩
  have k6' : nB = nS := by omega
  subst k6'
  have k7 : ((nB : Int) != nB) = false := by simp
  go_enter Try.func19, Try.ntmps19
  go_wp2_with fail
  clear z0 k3 k0 k1 k2 k4 k5 k6
  go_loopw [4] (fun v4 wr => ∃ i : Nat, 1 ≤ i ∧ i ≤ nC ∧ v4 = .int .i64 i ∧ Hid (∀ j, j < i → 1 ≤ j → gI C (j - 1) < gI C j ∧ gI C j ≤ 1114111) ∧ Hid (Lk w wr (.slice (some ⟨b, off, none⟩) nC c0) (.slice a1 nB c1) (.slice a2 nB c2))) (fun v4 _ => nC - (intOf v4).toNat)
  case atStart => exact ⟨1, by omega, by omega, rfl, Lib.hid (fun j h1 h2 => by omega), Lib.hid (lk_new _ _ _ _ _)⟩
  case round =>
    obtain ⟨i, hi1, hi, rfl, HI, HL⟩ := hrel
    obtain ⟨_, q0, q1, q2⟩ := HL.out.2
    by_cases h1 : i < nC
    · obtain ⟨k, hk⟩ : ∃ k, k = i - 1 := ⟨_, rfl⟩
      have hsub : (i : Int) - 1 = (k : Int) := by omega
      have hk0 : (0 : Int) ≤ k := by omega
      have hkn : (k : Int) < nC := by omega
      have hkw : IntKind.i64.wrap (k : Int) = (k : Int) := IntWalk.i64_in _ (by omega)
      obtain ⟨_, d0⟩ := (HV0.out.below HL.out.1).at_ (i := i) (by rw [← HC.out]; exact h1)
      obtain ⟨_, e0⟩ := (HV0.out.below HL.out.1).at_ (i := k) (by rw [← HC.out]; omega)
      obtain ⟨p, hp⟩ : ∃ c, c = gI C i := ⟨_, rfl⟩
      obtain ⟨q, hq⟩ : ∃ c, c = gI C k := ⟨_, rfl⟩
      rw [← hp] at d0
      rw [← hq] at e0
      have HPQ : Hid (p = gI C i ∧ q = gI C (i - 1)) := Lib.hid ⟨hp, by rw [← hk]; exact hq⟩
      clear hp hq hk
      have hg1 : (i : Int) < nC := by omega
      have hg0 : (0 : Int) ≤ i := by omega
      by_cases cc : p ≤ q
      · have HX : Hid (g = false) := Lib.hid (no_of HG2.out (fun e => by
          have := (e.1.2.2.2 i hi1 (by rw [← HC.out]; exact h1)).1
          have := HPQ.out
          omega))
        go_wp2_with fail
        go_quiet (fail)
        go_wp2_with fail
        go_ret
        exact ⟨ret_bool HX.out.symm, below_drewN0 HL.out.1 _⟩
      · by_cases cd : 1114111 < p
        · have HX : Hid (g = false) := Lib.hid (no_of HG2.out (fun e => by
            have := (e.1.2.2.2 i hi1 (by rw [← HC.out]; exact h1)).2
            have := HPQ.out
            omega))
          go_wp2_with fail
          go_quiet (fail)
          go_wp2_with fail
          go_ret
          exact ⟨ret_bool HX.out.symm, below_drewN0 HL.out.1 _⟩
        · have HI2 : Hid (∀ j, j < i + 1 → 1 ≤ j → gI C (j - 1) < gI C j ∧ gI C j ≤ 1114111) := Lib.hid (upto_next HI.out (fun _ => by have := HPQ.out; omega))
          clear HI
          go_wp2_with fail
          go_quiet (fail)
          go_wp2_with fail
          go_roundw
          case rel => exact ⟨i + 1, by omega, by omega, by go_num, HI2, Lib.hid (HL.out.drew _)⟩
          case measure => simp [intOf]; omega
    · have e1 : i = nC := by omega
      have HCO : Hid (CutsOk C) := Lib.hid ⟨by rw [← HC.out]; omega, by rw [← HC.out]; omega, HZ.out.symm, fun j h1 h2 => HI.out j (by rw [e1, HC.out]; exact h2) h1⟩
      have hg1 : ¬ (i : Int) < nC := by omega
      clear HI
      go_wp2_with fail
      clear hg1 e1 h1 hi hi1 q0 q1 q2
      go_loopw [5, 6] (fun v5 _ wr => ∃ i : Nat, i ≤ nB ∧ v5 = .int .i64 i ∧ Hid (∀ j, j < i → (gS S j).length = nC ∧ ∀ k, k < (gS S j).length → 0 ≤ gI (gS S j) k ∧ gI (gS S j) k < nB) ∧ Hid (Lk w wr (.slice (some ⟨b, off, none⟩) nC c0) (.slice a1 nB c1) (.slice a2 nB c2))) (fun v5 _ _ => nB - (intOf v5).toNat)
      case atStart => exact ⟨0, by omega, rfl, Lib.hid (fun j h1 => by omega), HL⟩
      case round =>
        obtain ⟨i, hi, rfl, HI, HL⟩ := hrel
        obtain ⟨_, q0, q1, q2⟩ := HL.out.2
        by_cases h1 : i < nB
        · obtain ⟨b1, off1, rfl⟩ := HV1.out.addr (by rw [← HS.out]; omega)
          obtain ⟨_, ad, cp, d0, hle, hcm, hiv, _⟩ := (HV1.out.below HL.out.1).at_ (i := i) (by rw [← HS.out]; exact h1)
          obtain ⟨P, hP⟩ : ∃ P, P = gS S i := ⟨_, rfl⟩
          rw [← hP] at d0 hle hiv
          have HP := Lib.hid hP
          obtain ⟨l, hl⟩ : ∃ l, l = P.length := ⟨_, rfl⟩
          rw [← hl] at d0 hle
          have HLL := Lib.hid hl
          have HIV := Lib.hid hiv
          unfold maxLen at hcm
          clear hP hl hiv
          have hg1 : (i : Int) < nB := by omega
          have hg0 : (0 : Int) ≤ i := by omega
          by_cases cl : l ≠ nC
          · have HX : Hid (g = false) := Lib.hid (no_of HG2.out (fun e => cl (by rw [HLL.out, HP.out]; exact (e.2.2.2.2 i h1).1)))
            have cl' : ((l : Int) != nC) = true := by simp; omega
            go_wp2_with fail
            go_quiet (fail)
            go_wp2_with fail
            go_ret
            exact ⟨ret_bool HX.out.symm, below_drewN0 HL.out.1 _⟩
          · have cl' : l = nC := by omega
            subst cl'
            have cl2 : ((l : Int) != l) = false := by simp
            go_wp2_with fail
            go_quiet (fail)
            go_wp2_with fail
            have HD : Hid (SV w (some ⟨b1, off1, none⟩) S) := HV1
            have HJ0 : Hid (∀ n, Lk w (wr.drewN n) (.slice (some ⟨b, off, none⟩) l c0) (.slice (some ⟨b1, off1, none⟩) nB c1) (.slice a2 nB c2) ∧ IV (wr.drewN n) ad P ∧ (wr.drewN n).cell? ⟨b1, off1 + i, none⟩ = some (.slice ad l cp)) := Lib.hid (fun n => ⟨HL.out.drew n, HIV.out.below ⟨rfl, rfl, rfl, Nat.le_refl _, fun _ _ => rfl⟩, d0⟩)
            clear q0 q1 q2 d0 cl cl2
            go_loopw [6] (fun v6 wr => ∃ j : Nat, j ≤ l ∧ v6 = .int .i64 j ∧ Hid (∀ k, k < j → 0 ≤ gI P k ∧ gI P k < nB) ∧ Hid (Lk w wr (.slice (some ⟨b, off, none⟩) l c0) (.slice (some ⟨b1, off1, none⟩) nB c1) (.slice a2 nB c2) ∧ IV wr ad P ∧ wr.cell? ⟨b1, off1 + i, none⟩ = some (.slice ad l cp))) (fun v6 _ => l - (intOf v6).toNat)
            case atStart => exact ⟨0, by omega, rfl, Lib.hid (fun j h1 => by omega), Lib.hid (HJ0.out _)⟩
            case round =>
              obtain ⟨j, hj, rfl, HJ, HL2⟩ := hrel
              obtain ⟨_, q0, q1, q2⟩ := HL2.out.1.2
              have d0 := HL2.out.2.2
              by_cases h2 : j < l
              · obtain ⟨b2, off2, rfl⟩ := HL2.out.2.1.addr (by rw [← HLL.out]; omega)
                obtain ⟨_, f0⟩ := HL2.out.2.1.at_ (i := j) (by rw [← HLL.out]; exact h2)
                obtain ⟨p, hp⟩ : ∃ c, c = gI P j := ⟨_, rfl⟩
                rw [← hp] at f0
                have HPP := Lib.hid hp
                clear hp
                have hj1 : (j : Int) < l := by omega
                have hj0 : (0 : Int) ≤ j := by omega
                by_cases ca : p < 0
                · have HX : Hid (g = false) := Lib.hid (no_of HG2.out (fun e => by
                    have := ((e.2.2.2.2 i h1).2 j (by rw [← HP.out, ← HLL.out]; exact h2)).1
                    rw [← HP.out, ← HPP.out] at this
                    omega))
                  go_wp2_with fail
                  go_ret
                  exact ⟨ret_bool HX.out.symm, HL2.out.1.1⟩
                · by_cases cb : (nB : Int) ≤ p
                  · have HX : Hid (g = false) := Lib.hid (no_of HG2.out (fun e => by
                      have := ((e.2.2.2.2 i h1).2 j (by rw [← HP.out, ← HLL.out]; exact h2)).2
                      rw [← HP.out, ← HPP.out] at this
                      omega))
                    go_wp2_with fail
                    go_ret
                    exact ⟨ret_bool HX.out.symm, HL2.out.1.1⟩
                  · have HJ2 : Hid (∀ k, k < j + 1 → 0 ≤ gI P k ∧ gI P k < nB) := Lib.hid (upto_next HJ.out (by have := HPP.out; omega))
                    clear HJ
                    go_wp2_with fail
                    go_roundw
                    case rel => exact ⟨j + 1, by omega, by go_num, HJ2, HL2⟩
                    case measure => simp [intOf]; omega
              · have HI2 : Hid (∀ j, j < i + 1 → (gS S j).length = l ∧ ∀ k, k < (gS S j).length → 0 ≤ gI (gS S j) k ∧ gI (gS S j) k < nB) := Lib.hid (upto_next HI.out (by
                  rw [← HP.out, ← HLL.out]
                  exact ⟨by first | rfl | trivial, fun k hk => HJ.out k (by omega)⟩))
                have hj1 : ¬ (j : Int) < l := by omega
                clear HJ HI
                go_wp2_with fail
                go_roundw
                case rel => exact ⟨i + 1, by omega, by go_num, HI2, Lib.hid HL2.out.1⟩
                case measure => simp [intOf]; omega
        · have e2 : i = nB := by omega
          have HX : Hid (g = true) := Lib.hid (HG3.out ⟨HCO.out, by omega, by omega, (by first | rfl | trivial), fun j h => HI.out j (by omega)⟩)
          have hg1 : ¬ (i : Int) < nB := by omega
          clear HI
          go_wp2_with fail
          go_ret
          exact ⟨ret_bool HX.out.symm, HL.out.1⟩
end Go.Proofs.Ythaliiffgkcahaa

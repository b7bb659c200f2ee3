/- Layer 10: the class of a number: the document's. -/
import Derived.Test.YthaliiffgkcahaaS1
namespace Go.Proofs.Ythaliiffgkcahaa
open Go.RowKit Go.Maps
/-- The last of the first that is not above a number; else the first. -/
def lastLe (C : List Int) (n : Int) : Nat → Nat
  | 0 => 0
  | k + 1 => if gI C k ≤ n then k else lastLe C n k
theorem lastLe_lt (C : List Int) (n : Int) : ∀ k, 0 < k → lastLe C n k < k
  | 0, h => absurd h (Nat.lt_irrefl 0)
  | k + 1, _ => by
    unfold lastLe
    split
    · omega
    · cases k with
      | zero => unfold lastLe; omega
      | succ k => have := lastLe_lt C n (k + 1) (by omega); omega
/-- The class of a number. -/
def cls (C : List Int) (n : Int) : Nat := lastLe C n C.length
set_option maxRecDepth 20000 in
theorem of_any (a : DA) (d : DF) (n : Int) (w : World) (hv : DV w a d) : Calls Try.prog 20 #[dv a d, .int .i64 n] w fun r w' => r = .returned (.int .i64 (cls d.C n)) ∧ Below w.heap.size w w' := by
  obtain ⟨a0, a1, a2, c0, c1, c2⟩ := a
  obtain ⟨C, S, B⟩ := d
  have hm : C.length ≤ maxLen := Nat.le_trans hv.l0 hv.m0
  unfold maxLen at hm
  have HV : Hid (IV w a0 C) := Lib.hid hv.iv
  clear hv
  obtain ⟨nC, hC⟩ : ∃ n, n = C.length := ⟨_, rfl⟩
  obtain ⟨nS, hS⟩ : ∃ n, n = S.length := ⟨_, rfl⟩
  obtain ⟨nB, hB⟩ : ∃ n, n = B.length := ⟨_, rfl⟩
  show Calls Try.prog 20 #[.agg #[.slice a0 C.length c0, .slice a1 S.length c1, .slice a2 B.length c2], .int .i64 n] w fun r w' => r = .returned (.int .i64 (lastLe C n C.length)) ∧ Below w.heap.size w w'
  rw [← hC, ← hS, ← hB]
  rw [← hC] at hm
  have HC := Lib.hid hC
  clear hC hS hB
  obtain ⟨R, hR⟩ : ∃ R, R = lastLe C n nC := ⟨_, rfl⟩
  rw [← hR]
  have HR := Lib.hid hR
  clear hR
  go_enter Try.func20, Try.ntmps20
  go_wp2_with fail
  go_loopw [5, 6] (fun v5 v6 wr => ∃ i : Nat, i ≤ nC ∧ v6 = .int .i64 i ∧ (∃ k : Nat, v5 = .int .i64 k ∧ Hid (k = lastLe C n i)) ∧ wr = w.alloc (.cells #[.slice a0 nC c0, .slice a1 nS c1, .slice a2 nB c2] 26)) (fun _ v6 _ => nC - (intOf v6).toNat)
  case atStart => exact ⟨0, Nat.zero_le _, rfl, ⟨0, rfl, Lib.hid rfl⟩, rfl⟩
  case round =>
    obtain ⟨i, hi, rfl, ⟨k, rfl, HK⟩, rfl⟩ := hrel
    by_cases h1 : i < nC
    · obtain ⟨b, off, rfl⟩ := HV.out.addr (by rw [← HC.out]; omega)
      have hb := ((Below.refl w.heap.size w).alloc (Nat.le_refl _) (.cells #[.slice (some ⟨b, off, none⟩) nC c0, .slice a1 nS c1, .slice a2 nB c2] 26))
      obtain ⟨_, d0⟩ := (HV.out.below hb).at_ (i := i) (by rw [← HC.out]; exact h1)
      obtain ⟨p, hp⟩ : ∃ c, c = gI C i := ⟨_, rfl⟩
      rw [← hp] at d0
      have HP := Lib.hid hp
      clear hb hp
      have hg1 : (i : Int) < nC := by omega
      have hg0 : (0 : Int) ≤ i := by omega
      have hg2 : (i : Int) + 1 ≤ 9223372036854775807 := by omega
      by_cases hle : p ≤ n
      · have HK2 : Hid (i = lastLe C n (i + 1)) := Lib.hid (by unfold lastLe; rw [← HP.out, if_pos hle])
        go_wp2_with fail
        go_roundw
        case rel => exact ⟨i + 1, by omega, by go_num, ⟨i, rfl, HK2⟩, (by first | rfl | trivial)⟩
        case measure => simp [intOf]; omega
      · have HK2 : Hid (k = lastLe C n (i + 1)) := Lib.hid (by unfold lastLe; rw [← HP.out, if_neg hle]; exact HK.out)
        go_wp2_with fail
        go_roundw
        case rel => exact ⟨i + 1, by omega, by go_num, ⟨k, rfl, HK2⟩, (by first | rfl | trivial)⟩
        case measure => simp [intOf]; omega
    · have e1 : i = nC := by omega
      subst e1
      have hg1 : ¬ (i : Int) < i := by omega
      go_wp2_with fail
      go_ret
      exact ⟨ret_int (by rw [HR.out, HK.out]), (Below.refl w.heap.size w).alloc (Nat.le_refl _) _⟩
end Go.Proofs.Ythaliiffgkcahaa

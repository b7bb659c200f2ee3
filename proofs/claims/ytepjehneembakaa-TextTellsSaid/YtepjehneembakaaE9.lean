import Derived.Test.YtepjehneembakaaE8
namespace Go.Proofs.Ytepjehneembakaa
open Go.RowKit

theorem count_any (s : ByteArray) (w : World) (hs : s.size ≤ maxLen) :
    Calls Try.prog 19 #[.string s] w fun r w' => r = .returned (.tuple #[.int .i64 (cntN s), .int .i64 (ckE s)]) ∧ Below w.heap.size w w' := by
  have hm := hs
  unfold maxLen at hm
  by_cases hck : ckE s = 0
  · have htx : txF s s.size 0 = true := by
      unfold ckE at hck
      by_cases hb : 16384 < s.size
      · rw [if_pos hb] at hck; omega
      · rw [if_neg hb] at hck
        cases h : isTx s
        · rw [h] at hck; simp at hck
        · exact h
    have hsmall : s.size ≤ 16384 := by
      apply Classical.byContradiction
      intro h
      unfold ckE at hck; rw [if_pos (by omega)] at hck; omega
    have HC := Lib.hid (show cntN s = cntF s s.size 0 by unfold cntN; rw [if_pos hck])
    have HCK := Lib.hid hck
    have HTX := Lib.hid htx
    clear hck htx
    go_enter Try.func19, Try.ntmps19
    go_wp2_with fail
    refine (check_any s _ hs).mono ?_
    rintro e w1 ⟨rfl, b1⟩
    rw [HCK.out]
    go_wp2_with fail
    go_loopg [5] s.size (fun f c wr => ∃ (a cv : Nat), s.size - a ≤ f ∧ a ≤ s.size ∧ c = .int .i64 cv ∧ cv ≤ a ∧ txF s f a = true ∧ cv + cntF s f a = cntF s s.size 0 ∧ w1.iter s a = wr)
    case atStart => exact ⟨0, 0, by omega, by omega, rfl, by omega, HTX.out, by omega, rfl⟩
    case round =>
      obtain ⟨a, cv, hf, ha, rfl, hle, htx, hcn, rfl⟩ := hrel
      by_cases hlt : a < s.size
      · rw [txF_step hlt hf] at htx
        rw [cntF_step hlt hf] at hcn
        simp only [Bool.and_eq_true] at htx
        have HH0 := Lib.hid (decIs_lead htx.1).1
        have HIN := Lib.hid (dec_in hlt htx.1)
        have hnx := fun ty => run_next_dec (P := Try.prog) w1 s a _ _ ty hlt (decode_eq htx.1)
        have HTX2 := Lib.hid htx.2
        have HCN := Lib.hid hcn
        clear htx hcn
        go_wp2_with fail
        have h0 := HH0.out
        have hin := HIN.out
        go_roundg (gk - 1)
        case rel => exact ⟨a + leadN (byt s a), cv + 1, by omega, hin, by go_num, by omega, HTX2.out, by have := HCN.out; omega, rfl⟩
        case measure => omega
      · rw [cntF_end (by omega)] at hcn
        have HCN := Lib.hid hcn
        have hnx := fun ty => run_next_end (P := Try.prog) w1 s a ty hlt
        clear hcn
        go_wp2_with fail
        go_ret2
        exact ⟨ret2 (by rw [HC.out]; have := HCN.out; omega) HCK.out.symm, b1.alloc b1.size _⟩
  · have hR : cntN s = 0 := by unfold cntN; rw [if_neg hck]
    have HR := Lib.hid hR
    have hb : (ckE s != 0) = true := by simp [hck]
    clear hR hck
    go_enter Try.func19, Try.ntmps19
    go_wp2_with fail
    refine (check_any s _ hs).mono ?_
    rintro e w1 ⟨rfl, b1⟩
    go_wp2_with fail
    go_ret2
    exact ⟨ret2 HR.out.symm rfl, b1⟩
end Go.Proofs.Ytepjehneembakaa

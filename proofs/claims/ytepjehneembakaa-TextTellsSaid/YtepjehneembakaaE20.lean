import Derived.Test.YtepjehneembakaaE19
import Derived.Test.YtepjehneembakaaE9
namespace Go.Proofs.Ytepjehneembakaa
open Go.RowKit

theorem rcheck_any (s : ByteArray) (w : World) (hs : s.size ≤ 1000000) :
    Calls Try.prog 21 #[.string s] w fun e w' => e = .returned (.int .i64 (ckE s)) ∧ Below w.heap.size w w' := by
  by_cases hbig : 16384 < s.size
  · have hc := Lib.hid (show ckE s = 4 by unfold ckE; rw [if_pos hbig])
    go_enter Try.func21, Try.ntmps21
    go_wp2_with fail
    go_ret
    exact ⟨ret_int hc.out.symm, Below.refl _ _⟩
  · have hc : ckE s = if isTx s then 0 else 10 := by unfold ckE; rw [if_neg hbig]
    cases ht : isTx s
    · rw [ht] at hc
      have HC := Lib.hid hc
      have HT := Lib.hid ht
      clear hc ht
      go_enter Try.func21, Try.ntmps21
      go_wp2_with fail
      refine (rpoints_any s _ hs).mono ?_
      rintro e w1 ⟨v, rfl, _, b1⟩
      rw [HT.out]
      go_wp2_with fail
      go_ret
      exact ⟨ret_int HC.out.symm, b1⟩
    · rw [ht] at hc
      have HC := Lib.hid hc
      have HT := Lib.hid ht
      clear hc ht
      go_enter Try.func21, Try.ntmps21
      go_wp2_with fail
      refine (rpoints_any s _ hs).mono ?_
      rintro e w1 ⟨v, rfl, _, b1⟩
      rw [HT.out]
      go_wp2_with fail
      go_ret
      exact ⟨ret_int HC.out.symm, b1⟩

theorem ck_tx {s : ByteArray} (h : ckE s = 0) : isTx s = true ∧ s.size ≤ 16384 := by
  unfold ckE at h
  by_cases hb : 16384 < s.size
  · rw [if_pos hb] at h; omega
  · rw [if_neg hb] at h
    cases ht : isTx s
    · rw [ht] at h; simp at h
    · exact ⟨rfl, by omega⟩
theorem rcount_any (s : ByteArray) (w : World) (hs : s.size ≤ 1000000) :
    Calls Try.prog 20 #[.string s] w fun e w' => e = .returned (.tuple #[.int .i64 (cntN s), .int .i64 (ckE s)]) ∧ Below w.heap.size w w' := by
  by_cases hck : ckE s = 0
  · have ht := (ck_tx hck).1
    have HC := Lib.hid (show cntN s = cntF s s.size 0 by unfold cntN; rw [if_pos hck])
    have HCK := Lib.hid hck
    have HT := Lib.hid ht
    clear hck ht
    go_enter Try.func20, Try.ntmps20
    go_wp2_with fail
    refine (rcheck_any s _ hs).mono ?_
    rintro e w1 ⟨rfl, b1⟩
    rw [HCK.out]
    have HB1 := Lib.hid b1
    clear b1
    go_wp2_with fail
    refine (rpoints_any s _ hs).mono ?_
    rintro e w2 ⟨v, rfl, hp, b2⟩
    obtain ⟨a, cap, rfl⟩ := hp HT.out
    have HB2 := Lib.hid (HB1.out.trans (b2.mono HB1.out.size))
    clear b2
    go_wp2_with fail
    go_ret2
    exact ⟨ret2 HC.out.symm HCK.out.symm, HB2.out⟩
  · have hR : cntN s = 0 := by unfold cntN; rw [if_neg hck]
    have HR := Lib.hid hR
    have hb : (ckE s != 0) = true := by simp [hck]
    clear hR hck
    go_enter Try.func20, Try.ntmps20
    go_wp2_with fail
    refine (rcheck_any s _ hs).mono ?_
    rintro e w1 ⟨rfl, b1⟩
    go_wp2_with fail
    go_ret2
    exact ⟨ret2 HR.out.symm rfl, b1⟩
end Go.Proofs.Ytepjehneembakaa

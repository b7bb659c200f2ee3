import Derived.Test.YtepjehneembakaaE16b
namespace Go.Proofs.Ytepjehneembakaa
open Go.RowKit

set_option maxHeartbeats 8000000 in
theorem one_yes (s : ByteArray) (a z : Nat) (w : World) (hz1 : 1 ≤ z) (hz4 : z ≤ 4) (hs : s.size ≤ maxLen) (haz : a + z ≤ s.size) (hp : isPt (numN s a z) = true) :
    Calls Try.prog 29 #[.string s, .int .i64 (a : Int), .int .i64 (z : Int)] w fun e w' => e = .returned (.tuple #[.int .i64 (numN s a z), .bool (oneB s a z)]) ∧ Below w.heap.size w w' := by
  have hm := hs
  unfold maxLen at hm
  have hh1 : ¬ (s.size : Int) < (a : Int) + (z : Int) := by omega
  obtain ⟨n, hn⟩ : ∃ n, n = numN s a z := ⟨_, rfl⟩
  have HN : Hid (numN s a z = n) := hn.symm
  rw [← hn] at hp
  have hr := isPt_range hp
  have HO : Hid (oneB s a z = ((mkB (enc n)).toList == (s.extract a (a + z)).toList)) := Lib.hid (by rw [str_eq]; unfold oneB; rw [← hn, hp, Bool.true_and])
  have HPT := Lib.hid hp
  clear hn hp
  go_enter Try.func29, Try.ntmps29
  go_wp2_with fail
  refine (number_any s a z _ _ _ rfl rfl hz1 hz4 hs haz).mono ?_
  rintro e w1 ⟨rfl, rfl⟩
  rw [HN.out]
  have hw0 : IntKind.i64.wrap ((a : Int) + (z : Int)) = ((a + z : Nat) : Int) := by rw [IntKind.wrap_i64]; omega
  have haz2 : a ≤ a + z := by omega
  go_wp2_with fail
  go_region_with (first | (go_at_call 31; refine (is_any _ _).mono ?_; rintro e w2 ⟨rfl, rfl⟩; rw [HPT.out]) | (go_at_call 37; refine (bytes_conv _ _ hr.1 hr.2).mono ?_; rintro e w2 ⟨v, rfl, hc1, hc2, hb⟩))
  all_goals (go_wp2_with fail)
  all_goals go_ret2
  all_goals refine ⟨by rw [HN.out, HO.out]; rfl, ?_⟩
  all_goals first | exact hb.out | exact hb.out.drew | exact (Below.refl _ w).drew.trans hb.out | exact ((Below.refl _ w).drew.trans hb.out).drew
end Go.Proofs.Ytepjehneembakaa

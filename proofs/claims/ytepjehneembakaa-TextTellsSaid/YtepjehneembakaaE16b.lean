import Derived.Test.YtepjehneembakaaE16
namespace Go.Proofs.Ytepjehneembakaa
open Go.RowKit

theorem is_false (p : Int) (w : World) (h : isPt p = false) : Calls Try.prog 31 #[.int .i64 p] w fun e w' => e = .returned (.bool false) ∧ w' = w :=
  (is_any p w).mono fun _ _ hh => ⟨by rw [hh.1, h], hh.2.symm⟩
theorem one_no (s : ByteArray) (a z : Nat) (w : World) (hz1 : 1 ≤ z) (hz4 : z ≤ 4) (hs : s.size ≤ maxLen) (haz : a + z ≤ s.size) (hp : isPt (numN s a z) = false) :
    Calls Try.prog 29 #[.string s, .int .i64 (a : Int), .int .i64 (z : Int)] w fun e w' => e = .returned (.tuple #[.int .i64 (numN s a z), .bool (oneB s a z)]) ∧ Below w.heap.size w w' := by
  have hm := hs
  unfold maxLen at hm
  have hh1 : ¬ (s.size : Int) < (a : Int) + (z : Int) := by omega
  obtain ⟨n, hn⟩ : ∃ n, n = numN s a z := ⟨_, rfl⟩
  have HN : Hid (numN s a z = n) := hn.symm
  rw [← hn] at hp
  have HO : Hid (oneB s a z = false) := Lib.hid (by unfold oneB; rw [← hn, hp, Bool.false_and])
  have HPT := Lib.hid hp
  clear hn hp
  go_enter Try.func29, Try.ntmps29
  go_wp2_with fail
  refine (number_any s a z _ _ _ rfl rfl hz1 hz4 hs haz).mono ?_
  rintro e w1 ⟨rfl, rfl⟩
  rw [HN.out]
  clear hh1 haz hm
  go_wp2_with fail
  go_quiet (first | (go_at_call 31; exact Calls.quiet_of_same (is_false _ _ HPT.out)))
  go_wp2_with fail
  go_ret2
  exact ⟨by rw [HN.out, HO.out]; rfl, below_drewN (Below.refl _ _) _⟩
end Go.Proofs.Ytepjehneembakaa

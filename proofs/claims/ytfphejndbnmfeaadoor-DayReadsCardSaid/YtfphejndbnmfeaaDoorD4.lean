import Derived.Test.YtfphejndbnmfeaaDoorD3
namespace Go.Proofs.YtfphejndbnmfeaaDoor
open Go.RowKit

theorem rcompare_any (s n t m : Int) (w : World) : Calls Tryd.prog 26 #[.agg #[.int .i64 s, .int .i64 n], .agg #[.int .i64 t, .int .i64 m]] w fun e w' => e = .returned (.int .i64 (cmpD s n t m)) ∧ Below w.heap.size w w' := by
  have HB : Hid (Below w.heap.size w ((w.alloc (.cells #[.int .i64 s, .int .i64 n] 23)).alloc (.cells #[.int .i64 t, .int .i64 m] 23))) := Lib.hid (((Below.refl _ w).alloc (Nat.le_refl _) _).alloc (by simp) _)
  by_cases h1 : s < t
  · have HR := Lib.hid (show cmpD s n t m = -1 by unfold cmpD cmpI; simp [h1])
    go_enter Tryd.func26, Tryd.ntmps26
    go_wp2_with fail
    go_ret
    exact ⟨rint HR.out.symm, HB.out⟩
  by_cases h2 : s = t
  · subst h2
    by_cases h3 : n < m
    · have HR := Lib.hid (show cmpD s n s m = -1 by unfold cmpD cmpI; simp [h3])
      go_enter Tryd.func26, Tryd.ntmps26
      go_wp2_with fail
      go_ret
      exact ⟨rint HR.out.symm, HB.out⟩
    by_cases h4 : n = m
    · subst h4
      have HR := Lib.hid (show cmpD s n s n = 0 by unfold cmpD cmpI; simp)
      go_enter Tryd.func26, Tryd.ntmps26
      go_wp2_with fail
      go_ret
      exact ⟨rint HR.out.symm, HB.out⟩
    · have HR := Lib.hid (show cmpD s n s m = 1 by unfold cmpD cmpI; simp [h3]; omega)
      have g : (n == m) = false := by simpa using h4
      go_enter Tryd.func26, Tryd.ntmps26
      go_wp2_with fail
      go_ret
      exact ⟨rint HR.out.symm, HB.out⟩
  · have h3 : t < s := by omega
    have HR := Lib.hid (show cmpD s n t m = 1 by unfold cmpD cmpI; simp [h1, h3])
    have g : (s == t) = false := by simpa using h2
    go_enter Tryd.func26, Tryd.ntmps26
    go_wp2_with fail
    go_ret
    exact ⟨rint HR.out.symm, HB.out⟩
end Go.Proofs.YtfphejndbnmfeaaDoor

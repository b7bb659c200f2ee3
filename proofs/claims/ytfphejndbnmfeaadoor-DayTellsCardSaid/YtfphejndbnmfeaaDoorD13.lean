import Derived.Test.YtfphejndbnmfeaaDoorD12
namespace Go.Proofs.YtfphejndbnmfeaaDoor
open Go.RowKit

theorem rtext_ok (S n : Nat) (w : World) (hm : may S n = true) :
    Calls Tryd.prog 20 #[.agg #[.int .i64 S, .int .i64 n]] w fun e w' => (∃ s : ByteArray, e = .returned (.tuple #[.string s, .int .i64 0]) ∧ TextOf S n s.data.toList) ∧ Below w.heap.size w w' := by
  have HA := Lib.hid (fun W => may_any S n W)
  rw [hm] at HA
  have HO := Lib.hid (fun W => of_any S n W hm)
  obtain ⟨a, ha⟩ : ∃ a : Int, a = S := ⟨_, rfl⟩
  obtain ⟨c, hc⟩ : ∃ c : Int, c = n := ⟨_, rfl⟩
  rw [← ha, ← hc] at HA HO
  rw [← ha, ← hc]
  clear hm ha hc
  go_enter Tryd.func20, Tryd.ntmps20
  go_wp2_with fail
  refine (HA.out _).mono ?_
  rintro e w1 ⟨rfl, b1⟩
  have hc0 : w1.cell? ⟨w.heap.size, 0, none⟩ = some (.int .i64 a) := by
    rw [b1.cell (p := ⟨w.heap.size, 0, none⟩) (by simp)]
    simp only [World.cell?, heap_alloc_new]; rfl
  have hc1 : w1.cell? ⟨w.heap.size, 1, none⟩ = some (.int .i64 c) := by
    rw [b1.cell (p := ⟨w.heap.size, 1, none⟩) (by simp)]
    simp only [World.cell?, heap_alloc_new]; rfl
  have B1 : Hid (Below w.heap.size w w1) := Lib.hid (((Below.refl _ w).alloc (Nat.le_refl _) _).trans (b1.mono (by simp)))
  clear b1
  go_wp2_with fail
  refine (HO.out _).mono ?_
  rintro e w2 ⟨⟨s, rfl, hs⟩, b2⟩
  have HS := Lib.hid hs
  have B2 : Hid (Below w.heap.size w w2) := Lib.hid (B1.out.trans (b2.mono B1.out.size))
  clear b2 hs
  go_wp2_with fail
  go_ret2
  exact ⟨⟨_, rfl, HS.out⟩, B2.out⟩
theorem rtext_bad (s n : Int) (w : World) (hm : may s n = false) :
    Calls Tryd.prog 20 #[.agg #[.int .i64 s, .int .i64 n]] w fun e w' => e = .returned (.tuple #[.string ⟨#[]⟩, .int .i64 120]) ∧ Below w.heap.size w w' := by
  have HA := Lib.hid (fun W => may_any s n W)
  rw [hm] at HA
  clear hm
  go_enter Tryd.func20, Tryd.ntmps20
  go_wp2_with fail
  refine (HA.out _).mono ?_
  rintro e w1 ⟨rfl, b1⟩
  have B1 : Hid (Below w.heap.size w w1) := Lib.hid (((Below.refl _ w).alloc (Nat.le_refl _) _).trans (b1.mono (by simp)))
  clear b1
  go_wp2_with fail
  go_ret2
  exact ⟨rfl, B1.out⟩
theorem rdate_ok (S n : Nat) (w : World) (hm : may S n = true) :
    Calls Tryd.prog 22 #[.agg #[.int .i64 S, .int .i64 n]] w fun e w' => (∃ y r m d : Nat, e = .returned (.tuple #[.int .i64 y, .int .i64 ((m : Int) + 1), .int .i64 ((d : Int) + 1), .int .i64 0]) ∧ OnYear (S / 86400) y r ∧ OnMonth y r m d) ∧ Below w.heap.size w w' := by
  have HA := Lib.hid (fun W => may_any S n W)
  rw [hm] at HA
  have HO := Lib.hid (fun W => on_any S n W (by have := (may_iff _ _).1 hm; omega))
  obtain ⟨a, ha⟩ : ∃ a : Int, a = S := ⟨_, rfl⟩
  obtain ⟨c, hc⟩ : ∃ c : Int, c = n := ⟨_, rfl⟩
  rw [← ha, ← hc] at HA
  rw [← ha, ← hc] at HO
  rw [← ha, ← hc]
  clear hm ha hc
  go_enter Tryd.func22, Tryd.ntmps22
  go_wp2_with fail
  refine (HA.out _).mono ?_
  rintro e w1 ⟨rfl, b1⟩
  have hc0 : w1.cell? ⟨w.heap.size, 0, none⟩ = some (.int .i64 a) := by
    rw [b1.cell (p := ⟨w.heap.size, 0, none⟩) (by simp)]
    simp only [World.cell?, heap_alloc_new]; rfl
  have hc1 : w1.cell? ⟨w.heap.size, 1, none⟩ = some (.int .i64 c) := by
    rw [b1.cell (p := ⟨w.heap.size, 1, none⟩) (by simp)]
    simp only [World.cell?, heap_alloc_new]; rfl
  have B1 : Hid (Below w.heap.size w w1) := Lib.hid (((Below.refl _ w).alloc (Nat.le_refl _) _).trans (b1.mono (by simp)))
  clear b1
  go_wp2_with fail
  refine (HO.out _).mono ?_
  rintro e w2 ⟨⟨y, r, m, d, rfl, hY, hM⟩, b2⟩
  have HY := Lib.hid hY
  have HM := Lib.hid hM
  have B2 : Hid (Below w.heap.size w w2) := Lib.hid (B1.out.trans (b2.mono B1.out.size))
  clear b2 hY hM
  go_wp2_with fail
  (try simp only [Exit.inBlock, Exit.then]); refine bodyPost_ret (results_tmp4 rfl _ _ _) rfl ?_
  exact ⟨⟨y, r, m, d, rfl, HY.out, HM.out⟩, B2.out⟩
theorem rdate_bad (s n : Int) (w : World) (hm : may s n = false) :
    Calls Tryd.prog 22 #[.agg #[.int .i64 s, .int .i64 n]] w fun e w' => e = .returned (.tuple #[.int .i64 0, .int .i64 0, .int .i64 0, .int .i64 120]) ∧ Below w.heap.size w w' := by
  have HA := Lib.hid (fun W => may_any s n W)
  rw [hm] at HA
  clear hm
  go_enter Tryd.func22, Tryd.ntmps22
  go_wp2_with fail
  refine (HA.out _).mono ?_
  rintro e w1 ⟨rfl, b1⟩
  have B1 : Hid (Below w.heap.size w w1) := Lib.hid (((Below.refl _ w).alloc (Nat.le_refl _) _).trans (b1.mono (by simp)))
  clear b1
  go_wp2_with fail
  (try simp only [Exit.inBlock, Exit.then]); refine bodyPost_ret (results_tmp4 rfl _ _ _) rfl ?_
  exact ⟨rfl, B1.out⟩
end Go.Proofs.YtfphejndbnmfeaaDoor

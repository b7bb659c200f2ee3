import Derived.Test.YtfphejndbnmfeaaDoorD31
namespace Go.Proofs.YtfphejndbnmfeaaDoor
open Go.RowKit
theorem ML.size {w : World} (h : ML w) : 2 < w.heap.size := by
  obtain ⟨m, hm⟩ := h
  apply Classical.byContradiction
  intro hn
  have : w.heap[2]? = none := Array.getElem?_eq_none (by omega)
  unfold World.cell? at hm
  rw [this] at hm
  cases hm
set_option maxRecDepth 10000 in
theorem dreads_law (s : ByteArray) (w : World) (h : MD w ∧ ML w) (hs : s.size ≤ maxLen) :
    Calls Tryd.prog 4 #[.string s] w fun e w' => e = .returned (.bool true) ∧ Below w.heap.size w w' := by
  have HP := Lib.hid (parse_any s w h.1 h.2 h.2.size hs)
  have HR := Lib.hid (fun W => rparse_any s W hs)
  obtain ⟨a, ha⟩ : ∃ a, a = pS s := ⟨_, rfl⟩
  obtain ⟨c, hc⟩ : ∃ c, c = pN s := ⟨_, rfl⟩
  obtain ⟨k, hk⟩ : ∃ k, k = pE s := ⟨_, rfl⟩
  rw [← ha, ← hc, ← hk] at HP
  rw [← ha, ← hc, ← hk] at HR
  clear h hs ha hc hk
  go_enter Tryd.func4, Tryd.ntmps4
  go_wp2_with fail
  refine HP.out.mono ?_
  rintro e w1 ⟨rfl, b⟩
  have B1 := Lib.hid (b.alloc b.size (.cells #[.int .i64 a, .int .i64 c] 23))
  have D1 := Lib.hid (FBox.new w1 a c)
  clear b
  go_wp2_with fail
  refine (HR.out _).mono ?_
  rintro e w2 ⟨rfl, b⟩
  have B2 := Lib.hid ((B1.out.trans (b.mono B1.out.size)).alloc (B1.out.trans (b.mono B1.out.size)).size (.cells #[.int .i64 a, .int .i64 c] 23))
  have D2 := Lib.hid ((D1.out.up b).up ((Below.refl _ w2).alloc (Nat.le_refl _) (.cells #[.int .i64 a, .int .i64 c] 23)))
  have E2 := Lib.hid (FBox.new w2 a c)
  obtain ⟨⟨d0, d1, -⟩, -, -⟩ := D2.out
  obtain ⟨⟨g0, g1, -⟩, -, -⟩ := E2.out
  clear b
  go_wp2_with fail
  go_ret
  exact ⟨rfl, B2.out⟩
end Go.Proofs.YtfphejndbnmfeaaDoor

import Derived.Test.YtfphejndbnmfeaaDoorU4
import Derived.Test.YtfphejndbnmfeaaDoorU6
namespace Go.Proofs.YtfphejndbnmfeaaDoor
open Go.RowKit

set_option maxRecDepth 10000 in
theorem parse_short (s : ByteArray) (w : World) (h : s.size ≠ 36) :
    Calls Tryd.prog 31 #[.string s] w fun e w' => e = .returned (.tuple #[arV z16, .int .i64 130]) ∧ Below w.heap.size w w' := by
  have hb : ((s.size : Int) != 36) = true := by simp; omega
  have hz : Arr ((w.alloc (.cells (arC z16) 50)).alloc (.cells (arC z16) 50)) w.heap.size z16 := (arr_new w z16 50 rfl).alloc _
  rw [z_lit] at hz
  have HZ := Lib.hid hz
  clear hz h
  go_enter Tryd.func31, Tryd.ntmps31
  go_wp2_with fail
  exact ret31 rfl rfl HZ.out rfl ⟨rfl, ((Below.refl _ w).alloc (Nat.le_refl _) _).alloc (by simp) _⟩
theorem parse_any (s : ByteArray) (w : World) :
    Calls Tryd.prog 31 #[.string s] w fun e w' => e = .returned (.tuple #[arV (upL s), .int .i64 (upE s)]) ∧ Below w.heap.size w w' := by
  by_cases h : s.size = 36
  · exact parse_long s w h
  · have : okS s = false := by unfold okS; simp [h]
    have h1 : upL s = z16 := by unfold upL; rw [this]; rfl
    have h2 : upE s = 130 := by unfold upE; rw [this]; rfl
    rw [h1, h2]
    exact parse_short s w h
end Go.Proofs.YtfphejndbnmfeaaDoor

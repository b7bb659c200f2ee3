import Derived.Test.YtfphejndbnmfeaaDoorU8
import Derived.Test.YtfphejndbnmfeaaDoorU1b
namespace Go.Proofs.YtfphejndbnmfeaaDoor
open Go.RowKit

def s0 : ByteArray := ⟨#[48, 48, 48, 48, 48, 48, 48, 48, 45, 48, 48, 48, 48, 45, 48, 48, 48, 48, 45, 48, 48, 48, 48, 45, 48, 48, 48, 48, 48, 48, 48, 48, 48, 48, 48, 48]⟩
def s1 : ByteArray := ⟨#[48, 49, 50, 51, 65, 66, 67, 68, 45, 52, 53, 54, 55, 45, 56, 57, 101, 102, 45, 48, 48, 48, 48, 45, 48, 48, 48, 48, 48, 48, 48, 48, 48, 48, 102, 102]⟩
def l1 : List Int := [1, 35, 171, 205, 69, 103, 137, 239, 0, 0, 0, 0, 0, 0, 0, 255]
theorem up0 : upL s0 = z16 ∧ upE s0 = 0 := by decide +kernel
theorem up1 : upL s1 = l1 ∧ upE s1 = 0 := by decide +kernel
set_option maxRecDepth 10000 in
theorem alive_true (w : World) (hp : Prt w) :
    Calls Tryd.prog 29 #[] w fun e w' => e = .returned (.bool true) ∧ Below w.heap.size w w' := by
  have hz := fun w => store_new w z16 rfl
  have h1 := fun w => store_new w l1 rfl
  obtain ⟨Z, hZ⟩ : ∃ Z, Z = z16 := ⟨_, rfl⟩
  obtain ⟨L, hL⟩ : ∃ L, L = l1 := ⟨_, rfl⟩
  rw [← hZ] at hz
  rw [← hL] at h1
  have HZ := Lib.hid hZ
  have HL := Lib.hid hL
  have sZ : (arC Z).size = 16 := by rw [hZ]; rfl
  have sL : (arC L).size = 16 := by rw [hL]; rfl
  clear hZ hL
  go_enter Tryd.func29, Tryd.ntmps29
  go_wp2_with fail
  refine (parse_any s0 _).mono ?_
  rintro e w1 ⟨rfl, b1⟩
  rw [up0.1, up0.2, ← HZ.out]
  have HB1 := Lib.hid b1
  clear b1
  unfold arV
  go_wp2_with fail
  refine (parse_any s1 _).mono ?_
  rintro e w2 ⟨rfl, b2⟩
  rw [up1.1, up1.2, ← HL.out]
  have HB2 : Hid (Below w.heap.size w w2) := Lib.hid ((HB1.out.alloc HB1.out.size _).trans (b2.mono (by have := HB1.out.size; simp; omega)))
  have ha1 : Arr (w2.alloc (.cells (arC L) 50)) w1.heap.size Z := by
    have h := arr_new w1 Z 50 (by rw [HZ.out]; rfl)
    have h' := h.below (b2.mono (Nat.le_refl _)) (by simp)
    exact h'.alloc _
  have ha2 : Arr (w2.alloc (.cells (arC L) 50)) w2.heap.size L := arr_new w2 L 50 (by rw [HL.out]; rfl)
  obtain ⟨G1, hG1⟩ : ∃ G : Nat → Int, G = fun i => Z.getD i 0 := ⟨_, rfl⟩
  obtain ⟨G2, hG2⟩ : ∃ G : Nat → Int, G = fun i => L.getD i 0 := ⟨_, rfl⟩
  have c1 : ∀ i, i < 16 → (w2.alloc (.cells (arC L) 50)).cell? ⟨w1.heap.size, i, none⟩ = some (.int .u8 (G1 i)) := fun i hi => by rw [hG1]; exact ha1.2 i hi
  have c2 : ∀ i, i < 16 → (w2.alloc (.cells (arC L) 50)).cell? ⟨w2.heap.size, i, none⟩ = some (.int .u8 (G2 i)) := fun i hi => by rw [hG2]; exact ha2.2 i hi
  have HG1 := Lib.hid hG1
  have HG2 := Lib.hid hG2
  have q1 : ∀ w, (Op.equalIn 10000 50 (.agg #[.int .u8 (G1 0), .int .u8 (G1 1), .int .u8 (G1 2), .int .u8 (G1 3), .int .u8 (G1 4), .int .u8 (G1 5), .int .u8 (G1 6), .int .u8 (G1 7), .int .u8 (G1 8), .int .u8 (G1 9), .int .u8 (G1 10), .int .u8 (G1 11), .int .u8 (G1 12), .int .u8 (G1 13), .int .u8 (G1 14), .int .u8 (G1 15)]) (.agg #[.int .u8 0, .int .u8 0, .int .u8 0, .int .u8 0, .int .u8 0, .int .u8 0, .int .u8 0, .int .u8 0, .int .u8 0, .int .u8 0, .int .u8 0, .int .u8 0, .int .u8 0, .int .u8 0, .int .u8 0, .int .u8 0])).run Tryd.prog w = .ok true w := fun w => by
    have h := eq_lit G1 (fun _ => 0) w
    rw [(same16_iff _ _).2 (fun i hi => by rw [hG1, HZ.out]; exact z16_at i)] at h
    exact h
  have q2 : ∀ w, (Op.equalIn 10000 50 (.agg #[.int .u8 (G2 0), .int .u8 (G2 1), .int .u8 (G2 2), .int .u8 (G2 3), .int .u8 (G2 4), .int .u8 (G2 5), .int .u8 (G2 6), .int .u8 (G2 7), .int .u8 (G2 8), .int .u8 (G2 9), .int .u8 (G2 10), .int .u8 (G2 11), .int .u8 (G2 12), .int .u8 (G2 13), .int .u8 (G2 14), .int .u8 (G2 15)]) (.agg #[.int .u8 1, .int .u8 35, .int .u8 171, .int .u8 205, .int .u8 69, .int .u8 103, .int .u8 137, .int .u8 239, .int .u8 0, .int .u8 0, .int .u8 0, .int .u8 0, .int .u8 0, .int .u8 0, .int .u8 0, .int .u8 255])).run Tryd.prog w = .ok true w := fun w => by
    have h := eq_lit G2 (fun i => l1.getD i 0) w
    rw [(same16_iff _ _).2 (fun i hi => by rw [hG2, HL.out])] at h
    exact h
  clear ha1 ha2 hG1 hG2 b2
  unfold arV
  go_wp2_with fail
  go_ret
  exact ⟨rfl, HB2.out.alloc HB2.out.size _⟩
end Go.Proofs.YtfphejndbnmfeaaDoor

import Derived.Test.YtiikohbnfbpjeaaDoorM0
import Derived.Test.YtiikohbnfbpjeaaDoorShelf
import Derived.Shelf.Spec.BitsCarry
namespace Go.Proofs.YtiikohbnfbpjeaaDoor
open Go.RowKit

def ren25 : Go.Shelf.Ren := ⟨fun | 25 => 67 | 26 => 90 | n => n, fun | 22 => 58 | n => n, fun n => n⟩
theorem i58 : (Tryd.prog.info? 58).map (fun i => (i.zero, i.size, i.bytes)) = some (some (Value.int IntKind.u64 0), 1, 8) := by kernel_rfl
theorem l25 : Lays7.n25 Tryd.prog ren25 := {
  mixed := by kernel_rfl
  f25 := Tryd.func67.trans (congrArg some (by kernel_rfl))
  t22 := Tryd.underlying58
  a22 := Tryd.isAgg58
  z22 := Tryd.sizeOf58
  v22 := Tryd.zeroValue58
  i22 := i58 }
theorem l26 : Lays7.n26 Tryd.prog ren25 := {
  mixed := by kernel_rfl
  f26 := Tryd.func90.trans (congrArg some (by kernel_rfl))
  t22 := Tryd.underlying58
  a22 := Tryd.isAgg58
  z22 := Tryd.sizeOf58
  v22 := Tryd.zeroValue58
  i22 := i58 }
/-- 2^64, closed. -/
def M64 : Nat := 18446744073709551616
theorem add64 (x y c : Nat) (hc : c ≤ 1) (w : World) : (callFunc 67 #[.int .u64 x, .int .u64 y, .int .u64 c]).run Tryd.prog w = .ok (.value (.tuple #[.int .u64 (((x + y + c) % M64 : Nat) : Int), .int .u64 (((x + y + c) / M64 : Nat) : Int)])) w := Any7.bits_Add64 l25 x y c hc w
theorem sub64 (x y b : Nat) (hb : b ≤ 1) (w : World) : (callFunc 90 #[.int .u64 x, .int .u64 y, .int .u64 b]).run Tryd.prog w = .ok (.value (.tuple #[.int .u64 (((x + M64 - y - b) % M64 : Nat) : Int), .int .u64 ((if x < y + b then 1 else 0 : Nat) : Int)])) w := Any7.bits_Sub64 l26 x y b hb w
theorem cell_at2 (w : World) (o : Obj) (C : Array Value) (T : TypeId) (j : Nat) (N : Nat) (h : w.heap.size = N) : (w.alloc (.cells C T)).cell? ⟨N, j, none⟩ = C[j]? := by
  subst h; exact World.cell?_alloc_mark w C T _ j
set_option maxRecDepth 20000 in
theorem addW_any (a b c d : Nat) (w : World) (hb : b < M64) (hd : d < M64) :
    Calls Tryd.prog 57 #[.agg #[.int .u64 a, .int .u64 b], .agg #[.int .u64 c, .int .u64 d]] w fun e w' => e = .returned (.agg #[.int .u64 (((a + c + (b + d) / M64) % M64 : Nat) : Int), .int .u64 (((b + d) % M64 : Nat) : Int)]) ∧ Below w.heap.size w w' := by
  have hcy : (b + d) / M64 ≤ 1 := by
    have : (b + d) / M64 < 2 := (Nat.div_lt_iff_lt_mul (by decide)).2 (by omega)
    omega
  obtain ⟨cy, hcye⟩ : ∃ cy, cy = (b + d) / M64 := ⟨_, rfl⟩
  obtain ⟨lo, hlo⟩ : ∃ lo, lo = (b + d) % M64 := ⟨_, rfl⟩
  obtain ⟨hi, hhi⟩ : ∃ hi, hi = (a + c + cy) % M64 := ⟨_, rfl⟩
  obtain ⟨c2, hc2⟩ : ∃ c2, c2 = (a + c + cy) / M64 := ⟨_, rfl⟩
  have k1 : ∀ W, (callFunc 67 #[.int .u64 (b : Int), .int .u64 (d : Int), .int .u64 0]).run Tryd.prog W = .ok (.value (.tuple #[.int .u64 (lo : Int), .int .u64 (cy : Int)])) W := fun W => by
    have := add64 b d 0 (by omega) W
    simp only [Nat.add_zero, Nat.sub_zero] at this
    rw [hlo, hcye]; exact this
  have k2 : ∀ W, (callFunc 67 #[.int .u64 (a : Int), .int .u64 (c : Int), .int .u64 (cy : Int)]).run Tryd.prog W = .ok (.value (.tuple #[.int .u64 (hi : Int), .int .u64 (c2 : Int)])) W := fun W => by
    rw [hhi, hc2]; exact add64 a c cy (by rw [hcye]; exact hcy) W
  rw [← hcye, ← hlo, ← hhi]
  clear hcye hlo hhi hc2 hcy hb hd
  have HB : Hid (Below w.heap.size w ((((w.alloc (.cells #[.int .u64 (a : Int), .int .u64 (b : Int)] 60)).alloc (.cells #[.int .u64 (c : Int), .int .u64 (d : Int)] 60)).alloc (.cells #[.int .u64 (hi : Int), .int .u64 (lo : Int)] 60)))) := Lib.hid ((((Below.refl _ w).alloc (Nat.le_refl _) _).alloc (by simp) _).alloc (by simp; omega) _)
  go_enter Tryd.func57, Tryd.ntmps57
  go_wp2_with fail
  refine ret_w (N := w.heap.size + 1 + 1) (a := hi) (b := lo) Tryd.results57 (by rfl) (cell_at2 _ (default) _ 60 0 _ (by simp)) (cell_at2 _ (default) _ 60 1 _ (by simp)) ⟨rfl, HB.out⟩
set_option maxRecDepth 20000 in
theorem lessW_any (a b c d : Nat) (w : World) (hb : b < M64) (hd : d < M64) :
    Calls Tryd.prog 77 #[.agg #[.int .u64 a, .int .u64 b], .agg #[.int .u64 c, .int .u64 d]] w fun e w' => e = .returned (.agg #[.int .u64 (((a + M64 - c - (if b < d then 1 else 0)) % M64 : Nat) : Int), .int .u64 (((b + M64 - d) % M64 : Nat) : Int)]) ∧ Below w.heap.size w w' := by
  have hcy : (if b < d then 1 else 0) ≤ 1 := by
    split <;> omega
  obtain ⟨cy, hcye⟩ : ∃ cy, cy = (if b < d then 1 else 0) := ⟨_, rfl⟩
  obtain ⟨lo, hlo⟩ : ∃ lo, lo = (b + M64 - d) % M64 := ⟨_, rfl⟩
  obtain ⟨hi, hhi⟩ : ∃ hi, hi = (a + M64 - c - cy) % M64 := ⟨_, rfl⟩
  obtain ⟨c2, hc2⟩ : ∃ c2, c2 = (if a < c + cy then 1 else 0) := ⟨_, rfl⟩
  have k1 : ∀ W, (callFunc 90 #[.int .u64 (b : Int), .int .u64 (d : Int), .int .u64 0]).run Tryd.prog W = .ok (.value (.tuple #[.int .u64 (lo : Int), .int .u64 (cy : Int)])) W := fun W => by
    have := sub64 b d 0 (by omega) W
    simp only [Nat.add_zero, Nat.sub_zero] at this
    rw [hlo, hcye]; exact this
  have k2 : ∀ W, (callFunc 90 #[.int .u64 (a : Int), .int .u64 (c : Int), .int .u64 (cy : Int)]).run Tryd.prog W = .ok (.value (.tuple #[.int .u64 (hi : Int), .int .u64 (c2 : Int)])) W := fun W => by
    rw [hhi, hc2]; exact sub64 a c cy (by rw [hcye]; exact hcy) W
  rw [← hcye, ← hlo, ← hhi]
  clear hcye hlo hhi hc2 hcy hb hd
  have HB : Hid (Below w.heap.size w ((((w.alloc (.cells #[.int .u64 (a : Int), .int .u64 (b : Int)] 60)).alloc (.cells #[.int .u64 (c : Int), .int .u64 (d : Int)] 60)).alloc (.cells #[.int .u64 (hi : Int), .int .u64 (lo : Int)] 60)))) := Lib.hid ((((Below.refl _ w).alloc (Nat.le_refl _) _).alloc (by simp) _).alloc (by simp; omega) _)
  go_enter Tryd.func77, Tryd.ntmps77
  go_wp2_with fail
  refine ret_w (N := w.heap.size + 1 + 1) (a := hi) (b := lo) Tryd.results77 (by rfl) (cell_at2 _ (default) _ 60 0 _ (by simp)) (cell_at2 _ (default) _ 60 1 _ (by simp)) ⟨rfl, HB.out⟩
end Go.Proofs.YtiikohbnfbpjeaaDoor

import Derived.Test.YtjcaadihkbhlhaaDoorProg
import Derived.Test.YtjcaadihkbhlhaaDoorA0
import Derived.WalkSpells
import Derived.WalkLawsBesides
import Derived.BigQuiet
import Derived.Lib.Hide
import Derived.Below
import Derived.Deep.LoopGhost
import Derived.Laws.ResultCell
import Derived.Laws.IdiomStrings
import Derived.Deep.RegionHeld3
import Derived.Deep.DeepCutAuto
import Derived.Deep.QuietTactic
import Derived.IntWalk
import Derived.WideShapes
namespace Go.Proofs.YtjcaadihkbhlhaaDoor
open Go.RowKit
theorem rbool {a b : Bool} (h : a = b) : Ending.returned (.bool a) = .returned (.bool b) := by rw [h]
theorem rint {k : IntKind} {a b : Int} (h : a = b) : Ending.returned (.int k a) = .returned (.int k b) := by rw [h]
/-- A set of bytes. -/
def setC (L : List UInt8) : Array Value := #[.int .u64 (wd L 0 : Nat), .int .u64 (wd L 1 : Nat), .int .u64 (wd L 2 : Nat), .int .u64 (wd L 3 : Nat)]
def setV (L : List UInt8) : Value := .agg (setC L)
theorem set_cell (L : List UInt8) (k : Nat) (h : k < 4) : (setC L)[k]? = some (.int .u64 (wd L k : Nat)) := by
  match k, h with
  | 0, _ => rfl
  | 1, _ => rfl
  | 2, _ => rfl
  | 3, _ => rfl
theorem and_one (n : Nat) (h : n < 2 ^ 64) : bits BinOp.and IntKind.u64 (n : Int) 1 = ((n % 2 : Nat) : Int) := by
  have := bits_and_u64_nat n 1 (by simpa using h) (by decide)
  rw [Nat.and_one_is_mod] at this
  exact this
set_option maxRecDepth 20000 in
theorem has_any (L : List UInt8) (b : UInt8) (w : World) : Calls Tryd.prog 49 #[setV L, .int .u8 (b.toNat : Nat)] w fun e w' => e = .returned (.bool (L.contains b)) ∧ Below w.heap.size w w' := by
  have hb := UInt8.toNat_lt b
  obtain ⟨n, hn⟩ : ∃ n, n = b.toNat := ⟨_, rfl⟩
  obtain ⟨k, hk⟩ : ∃ k, k = n / 64 := ⟨_, rfl⟩
  obtain ⟨j, hj⟩ : ∃ j, j = n % 64 := ⟨_, rfl⟩
  have hk4 : k < 4 := by omega
  have hj64 : j < 64 := by omega
  have hc : Hid ((w.alloc (.cells (setC L) 60)).cell? ⟨w.heap.size, k, none⟩ = some (.int .u64 (wd L k : Nat))) := Lib.hid ((World.cell?_alloc_mark w _ _ _ k).trans (set_cell L k hk4))
  have hask := wd_ask L b
  rw [← hn, ← hk, ← hj] at hask
  have hlt := wd_lt L k
  have B0 := Lib.hid ((Below.refl _ w).alloc (Nat.le_refl _) (.cells (setC L) 60))
  unfold setV
  rw [← hn]
  obtain ⟨C, hC⟩ : ∃ C, C = setC L := ⟨_, rfl⟩
  rw [← hC] at hc B0 ⊢
  clear hC
  have e1 : (n : Int).tdiv 64 = k := by rw [Int.tdiv_eq_ediv_of_nonneg (by omega)]; omega
  have e2 : (n : Int).tmod 64 = j := by rw [Int.tmod_eq_emod_of_nonneg (by omega)]; omega
  have e3 : (n : Int) / 64 = k := by omega
  have e4 : (n : Int) % 64 = j := by omega
  have hk4' : (k : Int) < 4 := by omega
  have hc1 := hc.out
  have hn8 : (n : Int) ≤ 255 := by omega
  clear hn hk hj hb hk4
  go_enter Tryd.func49, Tryd.ntmps49
  go_wp2_with fail
  go_ret
  refine ⟨rbool ?_, B0.out⟩
  have ed : ((wd L k : Nat) : Int) / 2 ^ j = ((wd L k / 2 ^ j : Nat) : Int) := by rw [Int.natCast_ediv, Int.natCast_pow]; rfl
  rw [ed, and_one _ (Nat.lt_of_le_of_lt (Nat.div_le_self _ _) hlt), hask]
  cases L.contains b <;> rfl
end Go.Proofs.YtjcaadihkbhlhaaDoor

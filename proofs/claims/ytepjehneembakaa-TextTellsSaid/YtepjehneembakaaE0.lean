import Derived.Test.YtepjehneembakaaProg
import Derived.Test.YtepjehneembakaaPlain
import Derived.WalkKit
import Derived.WalkSpells
import Derived.WalkLawsBesides
import Derived.Outline
import Derived.Below
import Derived.Lib.Hide
namespace Go.Proofs.Ytepjehneembakaa
open Go.RowKit

theorem ret2 {k l : IntKind} {a b c d : Int} (h : a = b) (g : c = d) : Ending.returned (.tuple #[.int k a, .int l c]) = .returned (.tuple #[.int k b, .int l d]) := by rw [h, g]
theorem ret_int {k : IntKind} {a b : Int} (h : a = b) : Ending.returned (.int k a) = .returned (.int k b) := by rw [h]
theorem ret_bool {a b : Bool} (h : a = b) : Ending.returned (.bool a) = .returned (.bool b) := by rw [h]
theorem ret_ib {a b : Int} {c d : Bool} (h : a = b) (g : c = d) : Ending.returned (.tuple #[.int .i64 a, .bool c]) = .returned (.tuple #[.int .i64 b, .bool d]) := by rw [h, g]

theorem lead_any (b : Int) (w : World) (h0 : 0 ≤ b) (hb : b < 256) :
    Calls Try.prog 35 #[.int .i64 b] w fun e w' => e = .returned (.tuple #[.int .i64 (leadN b), .int .i64 (leadB b)]) ∧ w = w' := by
  by_cases h1 : b < 128
  · go_enter Try.func35, Try.ntmps35
    go_wp2
    go_ret2
    exact ⟨ret2 (by unfold leadN; rw [if_pos (by omega)]; rfl) (by unfold leadB; rw [if_pos (by omega)]), rfl⟩
  by_cases h2 : b < 192
  · go_enter Try.func35, Try.ntmps35
    go_wp2
    go_ret2
    exact ⟨ret2 (by unfold leadN; rw [if_neg (by omega)]; rw [if_pos (by omega)]; rfl) (by unfold leadB; rw [if_neg (by omega)]; rw [if_pos (by omega)]), rfl⟩
  by_cases h3 : b < 224
  · go_enter Try.func35, Try.ntmps35
    go_wp2
    go_ret2
    exact ⟨ret2 (by unfold leadN; rw [if_neg (by omega)]; rw [if_neg (by omega)]; rw [if_pos (by omega)]; rfl) (by rw [and31 _ (by omega) (by omega)]; unfold leadB; rw [if_neg (by omega)]; rw [if_neg (by omega)]; rw [if_pos (by omega)]), rfl⟩
  by_cases h4 : b < 240
  · go_enter Try.func35, Try.ntmps35
    go_wp2
    go_ret2
    exact ⟨ret2 (by unfold leadN; rw [if_neg (by omega)]; rw [if_neg (by omega)]; rw [if_neg (by omega)]; rw [if_pos (by omega)]; rfl) (by rw [and15 _ (by omega) (by omega)]; unfold leadB; rw [if_neg (by omega)]; rw [if_neg (by omega)]; rw [if_neg (by omega)]; rw [if_pos (by omega)]), rfl⟩
  by_cases h5 : b < 248
  · go_enter Try.func35, Try.ntmps35
    go_wp2
    go_ret2
    exact ⟨ret2 (by unfold leadN; rw [if_neg (by omega)]; rw [if_neg (by omega)]; rw [if_neg (by omega)]; rw [if_neg (by omega)]; rw [if_pos (by omega)]; rfl) (by rw [and7 _ (by omega) (by omega)]; unfold leadB; rw [if_neg (by omega)]; rw [if_neg (by omega)]; rw [if_neg (by omega)]; rw [if_neg (by omega)]; rw [if_pos (by omega)]), rfl⟩
  · go_enter Try.func35, Try.ntmps35
    go_wp2
    go_ret2
    exact ⟨ret2 (by unfold leadN; rw [if_neg (by omega), if_neg (by omega), if_neg (by omega), if_neg (by omega), if_neg (by omega)]; rfl) (by unfold leadB; rw [if_neg (by omega), if_neg (by omega), if_neg (by omega), if_neg (by omega), if_neg (by omega)]), rfl⟩

theorem isPoint_any (p : Int) (w : World) :
    Calls Try.prog 26 #[.int .i64 p] w fun e w' => e = .returned (.bool (isPt p)) ∧ w = w' := by
  go_enter Try.func26, Try.ntmps26
  go_wp2
  all_goals
    go_ret
    refine ⟨ret_bool ?_, rfl⟩
    unfold isPt
    rw [Bool.eq_iff_iff]
    simp only [Bool.or_eq_true, decide_eq_true_eq, true_iff, Bool.false_eq_true, false_iff]
    omega
theorem sizeOf_any (p : Int) (w : World) :
    Calls Try.prog 33 #[.int .i64 p] w fun e w' => e = .returned (.int .i64 (szOf p)) ∧ w = w' := by
  by_cases h1 : p < 128
  · go_enter Try.func33, Try.ntmps33
    go_wp2
    go_ret
    exact ⟨ret_int (by unfold szOf; rw [if_pos h1]), rfl⟩
  by_cases h2 : p < 2048
  · go_enter Try.func33, Try.ntmps33
    go_wp2
    go_ret
    exact ⟨ret_int (by unfold szOf; rw [if_neg (by omega), if_pos h2]), rfl⟩
  by_cases h3 : p < 65536
  · go_enter Try.func33, Try.ntmps33
    go_wp2
    go_ret
    exact ⟨ret_int (by unfold szOf; rw [if_neg (by omega), if_neg (by omega), if_pos h3]), rfl⟩
  · go_enter Try.func33, Try.ntmps33
    go_wp2
    go_ret
    exact ⟨ret_int (by unfold szOf; rw [if_neg (by omega), if_neg (by omega), if_neg (by omega)]), rfl⟩

theorem next_yes (s : ByteArray) (i : Nat) (v : Int) (w : World) (pa ps : Addr) (hv : v = i) (ha : w.cell? pa = some (.int .i64 v)) (hs : w.cell? ps = some (.string s)) (hf : w.frozen? pa = false) (hlt : i < s.size) (hm : s.size ≤ maxLen) :
    Calls Try.prog 38 #[.pointer (some pa), .pointer (some ps)] w fun e w' => e = .returned (.tuple #[.int .i64 (byt s i), .bool true]) ∧ w.setCell pa (.int .i64 (v + 1)) = w' := by
  subst hv
  unfold maxLen at hm
  go_enter Try.func38, Try.ntmps38
  go_wp2
  go_ret2
  exact ⟨ret_ib (by rw [byt_eq]; have := byt_range s i; unfold wrap64; omega) rfl, rfl⟩
theorem next_no (s : ByteArray) (i : Nat) (v : Int) (w : World) (pa ps : Addr) (hv : v = i) (ha : w.cell? pa = some (.int .i64 v)) (hs : w.cell? ps = some (.string s)) (hlt : s.size ≤ i) :
    Calls Try.prog 38 #[.pointer (some pa), .pointer (some ps)] w fun e w' => e = .returned (.tuple #[.int .i64 0, .bool false]) ∧ w = w' := by
  subst hv
  go_enter Try.func38, Try.ntmps38
  go_wp2
  go_ret2
  exact ⟨rfl, rfl⟩
theorem walk_any (s : ByteArray) (i : Nat) (w : World) :
    Calls Try.prog 34 #[.string s, .int .i64 i] w fun e w' => e = .returned (.func (.func 38) #[] #[.pointer (some ⟨w.heap.size + 1, 0, none⟩), .pointer (some ⟨w.heap.size, 0, none⟩)]) ∧ (w.alloc (.cells #[.string s] 9)).alloc (.cells #[.int .i64 i] 3) = w' := by
  go_enter Try.func34, Try.ntmps34
  go_wp2
  go_ret
  exact ⟨rfl, rfl⟩
end Go.Proofs.Ytepjehneembakaa

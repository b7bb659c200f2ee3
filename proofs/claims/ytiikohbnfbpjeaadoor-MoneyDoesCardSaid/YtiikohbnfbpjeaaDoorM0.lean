import Derived.Test.YtiikohbnfbpjeaaDoorProg
import Derived.WalkKit
import Derived.WalkSpells
import Derived.WalkLawsBesides
import Derived.BigQuiet
import Derived.Lib.Hide
import Derived.Below
import Derived.Deep.LoopGhost
import Derived.Laws.ResultCell
import Derived.Laws.IdiomStrings
namespace Go.Proofs.YtiikohbnfbpjeaaDoor
open Go.RowKit

theorem rint {k : IntKind} {a b : Int} (h : a = b) : Ending.returned (.int k a) = .returned (.int k b) := by rw [h]
theorem rbool {a b : Bool} (h : a = b) : Ending.returned (.bool a) = .returned (.bool b) := by rw [h]
/-- May a Decimal be? -/
def may (m s : Int) : Bool := decide (0 ≤ s ∧ s ≤ 18 ∧ (s = 0 ∨ m.tmod 10 ≠ 0))
/-- The error of a Decimal. -/
def chM (m s : Int) : Int := if may m s = true then 0 else 140
theorem check_any (m s : Int) (w : World) : Calls Tryd.prog 22 #[.agg #[.int .i64 m, .int .i64 s]] w fun e w' => e = .returned (.int .i64 (chM m s)) ∧ Below w.heap.size w w' := by
  have HB : Hid (Below w.heap.size w (w.alloc (.cells #[.int .i64 m, .int .i64 s] 26))) := Lib.hid ((Below.refl _ w).alloc (Nat.le_refl _) _)
  by_cases h1 : s < 0
  · have hr := Lib.hid (show chM m s = 140 by unfold chM may; rw [if_neg (by simp; omega)])
    go_enter Tryd.func22, Tryd.ntmps22
    go_wp2_with fail
    go_ret
    exact ⟨rint hr.out.symm, HB.out⟩
  by_cases h2 : 18 < s
  · have hr := Lib.hid (show chM m s = 140 by unfold chM may; rw [if_neg (by simp; omega)])
    have k1 : decide (s < 0) = false := decide_eq_false h1
    go_enter Tryd.func22, Tryd.ntmps22
    go_wp2_with fail
    go_ret
    exact ⟨rint hr.out.symm, HB.out⟩
  have k1 : decide (s < 0) = false := decide_eq_false h1
  have k2 : decide (18 < s) = false := decide_eq_false h2
  by_cases h3 : 0 < s
  · obtain ⟨r, hrr⟩ : ∃ r, r = m.tmod 10 := ⟨_, rfl⟩
    have hmr : m.tmod 10 = r := hrr.symm
    by_cases h4 : r = 0
    · have hr := Lib.hid (show chM m s = 140 by unfold chM may; rw [hmr, h4, if_neg (by simp; omega)])
      have k4 : (r == 0) = true := by simp [h4]
      clear h4 hrr
      go_enter Tryd.func22, Tryd.ntmps22
      go_wp2_with fail
      go_ret
      exact ⟨rint hr.out.symm, HB.out⟩
    · have hr := Lib.hid (show chM m s = 0 by unfold chM may; rw [hmr, if_pos (by simp; omega)])
      have k4 : (r == 0) = false := beq_eq_false_iff_ne.2 h4
      clear h4 hrr
      go_enter Tryd.func22, Tryd.ntmps22
      go_wp2_with fail
      go_ret
      exact ⟨rint hr.out.symm, HB.out⟩
  · have hr := Lib.hid (show chM m s = 0 by unfold chM may; rw [if_pos (by simp; omega)])
    have k3 : decide (0 < s) = false := decide_eq_false h3
    go_enter Tryd.func22, Tryd.ntmps22
    go_wp2_with fail
    go_ret
    exact ⟨rint hr.out.symm, HB.out⟩
theorem results_cell_one {fn : Func} {p : Tmp} {ty : TypeId} (h : fn.results = #[.cell p ty]) (tmps : Array Value) (P : Program) (w : World) :
    (results fn tmps).run P w = ((asAddr (tmps.getD p undef)).run P w).andThen fun a w₁ => (loadVar ty a).run P w₁ := by
  simp only [results, h]
  simp [Sem.run_bind, Result.andThen]
theorem load_m {w : World} {N : Nat} {a b : Int} (c0 : w.cell? ⟨N, 0, none⟩ = some (.int .i64 a)) (c1 : w.cell? ⟨N, 1, none⟩ = some (.int .i64 b)) : (loadVar 26 ⟨N, 0, none⟩).run Tryd.prog w = .ok (.agg #[.int .i64 a, .int .i64 b]) w := by
  simp [loadVar, go_sem, c0, c1]
theorem load_w {w : World} {N : Nat} {a b : Int} (c0 : w.cell? ⟨N, 0, none⟩ = some (.int .u64 a)) (c1 : w.cell? ⟨N, 1, none⟩ = some (.int .u64 b)) : (loadVar 60 ⟨N, 0, none⟩).run Tryd.prog w = .ok (.agg #[.int .u64 a, .int .u64 b]) w := by
  simp [loadVar, go_sem, c0, c1]
/-- A function's one result that lies in two cells. -/
theorem ret_m {fn : Func} {p : Tmp} {Q : Ending → World → Prop} {tmps : Array Value} {w : World} {N : Nat} {a b : Int} (hf : fn.results = #[.cell p 26]) (h2 : tmps.getD p undef = .pointer (some ⟨N, 0, none⟩)) (c0 : w.cell? ⟨N, 0, none⟩ = some (.int .i64 a)) (c1 : w.cell? ⟨N, 1, none⟩ = some (.int .i64 b))
    (hQ : Q (.returned (.agg #[.int .i64 a, .int .i64 b])) w) : bodyPost Tryd.prog fn Q .ret ⟨tmps, []⟩ w := by
  refine bodyPost_ret (v := .agg #[.int .i64 a, .int .i64 b]) ?_ rfl hQ
  rw [results_cell_one hf, h2]
  simp [asAddr, Result.andThen, load_m c0 c1]
theorem ret_w {fn : Func} {p : Tmp} {Q : Ending → World → Prop} {tmps : Array Value} {w : World} {N : Nat} {a b : Int} (hf : fn.results = #[.cell p 60]) (h2 : tmps.getD p undef = .pointer (some ⟨N, 0, none⟩)) (c0 : w.cell? ⟨N, 0, none⟩ = some (.int .u64 a)) (c1 : w.cell? ⟨N, 1, none⟩ = some (.int .u64 b))
    (hQ : Q (.returned (.agg #[.int .u64 a, .int .u64 b])) w) : bodyPost Tryd.prog fn Q .ret ⟨tmps, []⟩ w := by
  refine bodyPost_ret (v := .agg #[.int .u64 a, .int .u64 b]) ?_ rfl hQ
  rw [results_cell_one hf, h2]
  simp [asAddr, Result.andThen, load_w c0 c1]
theorem of_any (n : Int) (w : World) : Calls Tryd.prog 11 #[.int .i64 n] w fun e w' => e = .returned (.agg #[.int .i64 n, .int .i64 0]) ∧ Below w.heap.size w w' := by
  go_enter Tryd.func11, Tryd.ntmps11
  go_wp2_with fail
  refine ret_m (N := w.heap.size) (a := n) (b := 0) Tryd.results11 (by rfl) (World.cell?_alloc_mark w _ 26 _ 0) (World.cell?_alloc_mark w _ 26 _ 1) ⟨rfl, (Below.refl _ w).alloc (Nat.le_refl _) _⟩
/-- The order of two sizes of two words. -/
def cmpW (a b c d : Int) : Int := if a = c ∧ b = d then 0 else if a < c ∨ (a = c ∧ b < d) then -1 else 1
theorem compareW_any (a b c d : Int) (w : World) : Calls Tryd.prog 76 #[.agg #[.int .u64 a, .int .u64 b], .agg #[.int .u64 c, .int .u64 d]] w fun e w' => e = .returned (.int .i64 (cmpW a b c d)) ∧ Below w.heap.size w w' := by
  have HB : Hid (Below w.heap.size w ((w.alloc (.cells #[.int .u64 a, .int .u64 b] 60)).alloc (.cells #[.int .u64 c, .int .u64 d] 60))) := Lib.hid (((Below.refl _ w).alloc (Nat.le_refl _) _).alloc (by simp) _)
  by_cases h1 : a < c
  · have hr := Lib.hid (show cmpW a b c d = -1 by unfold cmpW; rw [if_neg (by omega), if_pos (.inl h1)])
    have k1 : (a == c) = false := beq_eq_false_iff_ne.2 (by omega)
    go_enter Tryd.func76, Tryd.ntmps76
    go_wp2_with fail
    go_ret
    exact ⟨rint hr.out.symm, HB.out⟩
  by_cases h2 : c < a
  · have hr := Lib.hid (show cmpW a b c d = 1 by unfold cmpW; rw [if_neg (by omega), if_neg (by omega)])
    have k1 : (a == c) = false := beq_eq_false_iff_ne.2 (by omega)
    have k2 : decide (a < c) = false := decide_eq_false h1
    clear h1
    go_enter Tryd.func76, Tryd.ntmps76
    go_wp2_with fail
    go_ret
    exact ⟨rint hr.out.symm, HB.out⟩
  obtain rfl : a = c := by omega
  by_cases h3 : b < d
  · have hr := Lib.hid (show cmpW a b a d = -1 by unfold cmpW; rw [if_neg (by omega), if_pos (.inr ⟨rfl, h3⟩)])
    have k1 : (b == d) = false := beq_eq_false_iff_ne.2 (by omega)
    clear h1 h2
    go_enter Tryd.func76, Tryd.ntmps76
    go_wp2_with fail
    go_ret
    exact ⟨rint hr.out.symm, HB.out⟩
  by_cases h4 : d < b
  · have hr := Lib.hid (show cmpW a b a d = 1 by unfold cmpW; rw [if_neg (by omega), if_neg (by omega)])
    have k1 : (b == d) = false := beq_eq_false_iff_ne.2 (by omega)
    have k2 : decide (b < d) = false := decide_eq_false h3
    clear h1 h2 h3
    go_enter Tryd.func76, Tryd.ntmps76
    go_wp2_with fail
    go_ret
    exact ⟨rint hr.out.symm, HB.out⟩
  obtain rfl : b = d := by omega
  have hr := Lib.hid (show cmpW a b a b = 0 by unfold cmpW; rw [if_pos ⟨rfl, rfl⟩])
  clear h1 h2 h3 h4
  go_enter Tryd.func76, Tryd.ntmps76
  go_wp2_with fail
  go_ret
  exact ⟨rint hr.out.symm, HB.out⟩
end Go.Proofs.YtiikohbnfbpjeaaDoor

import Derived.Test.YtfphejndbnmfeaaDoorU1
import Derived.ChangeKeysEq
import Derived.Laws.StructEq
namespace Go.Proofs.YtfphejndbnmfeaaDoor
open Go.RowKit

theorem infoE : ∃ i, Tryd.prog.info? 5 = some i ∧ i.size = 1 := by
  have h := Tryd.typeInfo5 default
  unfold typeInfo at h
  cases hq : Tryd.prog.info? 5 with
  | none => simp [hq] at h
  | some i =>
    simp [hq] at h
    exact ⟨i, rfl, by rw [h]; rfl⟩
theorem cells5 : Tryd.prog.cellsOf 5 = 1 := by
  obtain ⟨i, h1, h2⟩ := infoE
  simp [Program.cellsOf, h1, h2]
theorem eq_items (xs ys : Array Value) (F H : Nat → Int) (hx : ∀ i, i < 16 → xs[i]? = some (.int .u8 (F i))) (hy : ∀ i, i < 16 → ys[i]? = some (.int .u8 (H i))) (w : World) :
    ∀ is : List Nat, (∀ i ∈ is, i < 16) → (Op.eqItems 9999 5 1 xs ys is).run Tryd.prog w = .ok (is.all (fun i => F i == H i)) w
  | [], _ => by simp [Op.eqItems]
  | i :: is, h => by
    have hi := h i (by simp)
    have ih := eq_items xs ys F H hx hy w is (fun j hj => h j (by simp [hj]))
    have p1 : (part 5 xs (i * 1)).run Tryd.prog w = .ok (.int .u8 (F i)) w := by simp [part, Tryd.isAgg5, hx i hi]
    have p2 : (part 5 ys (i * 1)).run Tryd.prog w = .ok (.int .u8 (H i)) w := by simp [part, Tryd.isAgg5, hy i hi]
    simp only [Op.eqItems, Sem.run_bind, p1, p2, Result.andThen_ok, run_equalIn_int w 9998 5 .u8 .u8 (F i) (H i) Tryd.underlying5]
    cases hb : (F i == H i)
    · simp [hb]
    · simp [hb, ih]
theorem eq_arr (xs ys : Array Value) (F H : Nat → Int) (hx : ∀ i, i < 16 → xs[i]? = some (.int .u8 (F i))) (hy : ∀ i, i < 16 → ys[i]? = some (.int .u8 (H i))) (w : World) :
    (Op.equalIn 10000 50 (.agg xs) (.agg ys)).run Tryd.prog w = .ok ((List.range 16).all (fun i => F i == H i)) w := by
  obtain ⟨i, h1, h2⟩ := infoE
  rw [run_equalIn_array (P := Tryd.prog) (w := w) 9999 xs ys Tryd.underlying50 h1, cells5]
  exact eq_items xs ys F H hx hy w _ (fun j hj => by simpa using hj)
def same16 (F H : Nat → Int) : Bool := (List.range 16).all (fun i => F i == H i)
theorem same16_iff (F H : Nat → Int) : same16 F H = true ↔ ∀ i, i < 16 → F i = H i := by
  unfold same16; simp [List.all_eq_true]
theorem lit_at (F : Nat → Int) : ∀ i, i < 16 → (#[.int .u8 (F 0), .int .u8 (F 1), .int .u8 (F 2), .int .u8 (F 3), .int .u8 (F 4), .int .u8 (F 5), .int .u8 (F 6), .int .u8 (F 7), .int .u8 (F 8), .int .u8 (F 9), .int .u8 (F 10), .int .u8 (F 11), .int .u8 (F 12), .int .u8 (F 13), .int .u8 (F 14), .int .u8 (F 15)] : Array Value)[i]? = some (.int .u8 (F i)) := by
  intro i hi
  rcases (show i = 0 ∨ i = 1 ∨ i = 2 ∨ i = 3 ∨ i = 4 ∨ i = 5 ∨ i = 6 ∨ i = 7 ∨ i = 8 ∨ i = 9 ∨ i = 10 ∨ i = 11 ∨ i = 12 ∨ i = 13 ∨ i = 14 ∨ i = 15 by omega) with rfl | rfl | rfl | rfl | rfl | rfl | rfl | rfl | rfl | rfl | rfl | rfl | rfl | rfl | rfl | rfl <;> rfl
/-- '==' of two arrays as the walk has them. -/
theorem eq_lit (F H : Nat → Int) (w : World) : (Op.equalIn 10000 50 (.agg #[.int .u8 (F 0), .int .u8 (F 1), .int .u8 (F 2), .int .u8 (F 3), .int .u8 (F 4), .int .u8 (F 5), .int .u8 (F 6), .int .u8 (F 7), .int .u8 (F 8), .int .u8 (F 9), .int .u8 (F 10), .int .u8 (F 11), .int .u8 (F 12), .int .u8 (F 13), .int .u8 (F 14), .int .u8 (F 15)]) (.agg #[.int .u8 (H 0), .int .u8 (H 1), .int .u8 (H 2), .int .u8 (H 3), .int .u8 (H 4), .int .u8 (H 5), .int .u8 (H 6), .int .u8 (H 7), .int .u8 (H 8), .int .u8 (H 9), .int .u8 (H 10), .int .u8 (H 11), .int .u8 (H 12), .int .u8 (H 13), .int .u8 (H 14), .int .u8 (H 15)])).run Tryd.prog w = .ok (same16 F H) w :=
  eq_arr _ _ F H (lit_at F) (lit_at H) w
end Go.Proofs.YtfphejndbnmfeaaDoor

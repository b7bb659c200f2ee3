import Derived.Test.YtfphejndbnmfeaaDoorU1
import Derived.Laws.ResultCell
import Derived.Laws.RangeString
import Derived.Laws.RangeAny
import Derived.Laws.NewBlocks
namespace Go.Proofs.YtfphejndbnmfeaaDoor
open Go.RowKit

theorem info50 : (Tryd.prog.info? 50).map (·.size) = some 16 := by
  have h := Tryd.typeInfo50 default
  unfold typeInfo at h
  cases hq : Tryd.prog.info? 50 with
  | none => simp [hq] at h
  | some i =>
    simp [hq] at h
    rw [h]; rfl
theorem load_arr {w : World} {b : Nat} {L : List Int} (h : Arr w b L) (hl : L.length = 16) : (loadVar 50 ⟨b, 0, none⟩).run Tryd.prog w = .ok (arV L) w := by
  have := run_loadVar_mid (P := Tryd.prog) w b 0 50 (arC L).toList (.array 16 5) (fun j v hv => by
    have hj : j < 16 := by
      have := (List.getElem?_eq_some_iff.1 hv).1
      simp [arC_size, hl] at this; exact this
    have e : (arC L)[j]? = some v := by simpa using hv
    rw [arC_at (by omega)] at e
    rw [Nat.zero_add, h.2 j hj, e]) Tryd.underlying50 rfl (by rw [show (arC L).toList.length = 16 by simp [arC_size, hl]]; exact info50)
  simpa [arV] using this
theorem ret31 {R : Ending → World → Prop} {tmps : Array Value} {w : World} {b : Nat} {L : List Int} {e : Int} (h2 : tmps.getD 2 undef = .pointer (some ⟨b, 0, none⟩)) (h3 : tmps.getD 3 undef = .int .i64 e) (ha : Arr w b L) (hl : L.length = 16)
    (hR : R (.returned (.tuple #[arV L, .int .i64 e])) w) : bodyPost Tryd.prog Tryd.f31 R .ret ⟨tmps, []⟩ w := by
  refine bodyPost_ret (v := .tuple #[arV L, .int .i64 e]) ?_ rfl hR
  rw [results_cell_tmp (p := 2) (u := 3) (ty := 50) Tryd.results31, h2, h3]
  simp [asAddr, Result.andThen, load_arr ha hl]
theorem z_lit : arC z16 = #[.int .u8 0, .int .u8 0, .int .u8 0, .int .u8 0, .int .u8 0, .int .u8 0, .int .u8 0, .int .u8 0, .int .u8 0, .int .u8 0, .int .u8 0, .int .u8 0, .int .u8 0, .int .u8 0, .int .u8 0, .int .u8 0] := by simp [arC, z16]
theorem arC_set (L : List Int) (i : Nat) (x : Int) : (arC L).setIfInBounds i (.int .u8 x) = arC (L.set i x) := by
  apply Array.ext_getElem?
  intro j
  simp only [arC, Array.getElem?_setIfInBounds, List.getElem?_toArray, List.getElem?_map, List.getElem?_set, List.size_toArray, List.length_map]
  by_cases h : i = j
  · subst h; by_cases h2 : i < L.length <;> simp [h2]
  · simp [h]
/-- The worlds of a walk that has made two arrays: and, behind them, a text's iterator. -/
def X2 (w : World) (L M : List Int) : World := (w.alloc (.cells (arC L) 50)).alloc (.cells (arC M) 50)
def W3 (w : World) (s : ByteArray) (L M : List Int) (p : Nat) : World := (X2 w L M).iter s p
theorem X2_size (w : World) (L M : List Int) : (X2 w L M).heap.size = w.heap.size + 2 := by simp [X2]
theorem X2_arr0 (w : World) {L : List Int} (M : List Int) (hL : L.length = 16) : Arr (X2 w L M) w.heap.size L := (arr_new w L 50 hL).alloc _
theorem X2_arr1 (w : World) (L : List Int) {M : List Int} (hM : M.length = 16) : Arr (X2 w L M) (w.heap.size + 1) M := by
  have h := arr_new (w.alloc (.cells (arC L) 50)) M 50 hM
  have e : (w.alloc (.cells (arC L) 50)).heap.size = w.heap.size + 1 := by simp
  rw [e] at h; exact h
theorem X2_heap0 (w : World) (L M : List Int) : (X2 w L M).heap[w.heap.size]? = some (.cells (arC L) 50) := by
  show ((w.heap.push (.cells (arC L) 50)).push (.cells (arC M) 50))[w.heap.size]? = _
  simp [Array.getElem?_push]
theorem X2_heap1 (w : World) (L M : List Int) : (X2 w L M).heap[w.heap.size + 1]? = some (.cells (arC M) 50) := by
  show ((w.heap.push (.cells (arC L) 50)).push (.cells (arC M) 50))[w.heap.size + 1]? = _
  rw [Array.getElem?_push, if_pos (by simp)]
theorem X2_frozen (w : World) (L M : List Int) (b i : Nat) (hb : b = w.heap.size ∨ b = w.heap.size + 1) : (X2 w L M).frozen? ⟨b, i, none⟩ = false := by
  rcases hb with rfl | rfl
  · simp [World.frozen?, X2_heap0]
  · simp [World.frozen?, X2_heap1]
theorem X2_set0 (w : World) (L M : List Int) (i : Nat) (x : Int) : (X2 w L M).setCell ⟨w.heap.size, i, none⟩ (.int .u8 x) = X2 w (L.set i x) M := by
  unfold X2
  rw [World.setCell_alloc_past _ _ _ _ (by simp), World.setCell_alloc_at _ _ _ _ _ rfl, arC_set]
theorem X2_set1 (w : World) (L M : List Int) (i : Nat) (x : Int) : (X2 w L M).setCell ⟨w.heap.size + 1, i, none⟩ (.int .u8 x) = X2 w L (M.set i x) := by
  unfold X2
  rw [World.setCell_alloc_at _ _ _ _ _ (by simp), arC_set]
theorem X2_below (w : World) (L M : List Int) : Below w.heap.size w (X2 w L M) := ((Below.refl _ w).alloc (Nat.le_refl _) _).alloc (by simp) _
theorem W3_arr0 (w : World) (s : ByteArray) {L : List Int} (M : List Int) (p : Nat) (hL : L.length = 16) : Arr (W3 w s L M p) w.heap.size L := (X2_arr0 w M hL).alloc _
theorem W3_arr1 (w : World) (s : ByteArray) (L : List Int) {M : List Int} (p : Nat) (hM : M.length = 16) : Arr (W3 w s L M p) (w.heap.size + 1) M := (X2_arr1 w L hM).alloc _
theorem W3_frozen (w : World) (s : ByteArray) (L M : List Int) (p b i : Nat) (hb : b = w.heap.size ∨ b = w.heap.size + 1) : (W3 w s L M p).frozen? ⟨b, i, none⟩ = false := by
  have h0 : (W3 w s L M p).heap[w.heap.size]? = some (.cells (arC L) 50) := by
    show ((X2 w L M).heap.push (.stringIter s p))[w.heap.size]? = _
    rw [Array.getElem?_push, if_neg (by rw [X2_size]; omega), X2_heap0]
  have h1 : (W3 w s L M p).heap[w.heap.size + 1]? = some (.cells (arC M) 50) := by
    show ((X2 w L M).heap.push (.stringIter s p))[w.heap.size + 1]? = _
    rw [Array.getElem?_push, if_neg (by rw [X2_size]; omega), X2_heap1]
  rcases hb with rfl | rfl
  · simp [World.frozen?, h0]
  · simp [World.frozen?, h1]
theorem W3_set0 (w : World) (s : ByteArray) (L M : List Int) (p i : Nat) (x : Int) : (W3 w s L M p).setCell ⟨w.heap.size, i, none⟩ (.int .u8 x) = W3 w s (L.set i x) M p := by
  unfold W3 World.iter
  rw [World.setCell_alloc_past _ _ _ _ (by rw [X2_size]; omega), X2_set0]
theorem W3_set1 (w : World) (s : ByteArray) (L M : List Int) (p i : Nat) (x : Int) : (W3 w s L M p).setCell ⟨w.heap.size + 1, i, none⟩ (.int .u8 x) = W3 w s L (M.set i x) p := by
  unfold W3 World.iter
  rw [World.setCell_alloc_past _ _ _ _ (by rw [X2_size]; omega), X2_set1]
theorem W3_below (w : World) (s : ByteArray) (L M : List Int) (p : Nat) : Below w.heap.size w (W3 w s L M p) := (X2_below w L M).alloc (by rw [X2_size]; omega) _
theorem W3_next (w : World) (s : ByteArray) (L M : List Int) (p r n : Nat) (ty : TypeId) (h : p < s.size) (hd : Utf8.decode s p = (r, n)) :
    (Instr.next (.pointer (some ⟨w.heap.size + 2, 0, none⟩)) true ty).run Tryd.prog (W3 w s L M p) = .ok (.tuple #[.bool true, .int .i64 p, .int .i32 r]) (W3 w s L M (p + n)) := by
  have e := X2_size w L M
  rw [← e]
  unfold W3
  simp only [Instr.next, getObj, setObj, Sem.run_bind, Sem.run, World.iter_heap, Result.andThen, h, if_true, hd, World.iter_set]
  simp [goInt, Sem.run, World.iter_heap, World.iter_set]
theorem W3_end (w : World) (s : ByteArray) (L M : List Int) (p : Nat) (ty : TypeId) (h : ¬ p < s.size) :
    (Instr.next (.pointer (some ⟨w.heap.size + 2, 0, none⟩)) true ty).run Tryd.prog (W3 w s L M p) = .ok (.tuple #[.bool false]) (W3 w s L M p) := by
  have e := X2_size w L M
  rw [← e]
  exact run_next_end (X2 w L M) s p ty h
end Go.Proofs.YtfphejndbnmfeaaDoor

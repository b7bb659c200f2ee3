import Derived.Test.YtjcaadihkbhlhaaA9
namespace Go.Proofs.Ytjcaadihkbhlhaa
open Go.RowKit
theorem below_al {B : Nat} {w W : World} (h : Below B w W) (o : Obj) (hB : B ≤ w.heap.size) : Below B w (W.alloc o) := h.alloc (Nat.le_trans hB h.size) o
theorem lit_cells (C : Array Value) (xs : List ByteArray) (hC : xs.map Value.string = C.toList) (W : World) : ∀ j x, xs[j]? = some x → (W.alloc (.cells C 9)).cell? ⟨W.heap.size, 0 + j, none⟩ = some (.string x) := by
  intro j x hj
  rw [World.cell?_alloc_mark, Nat.zero_add]
  have : C.toList[j]? = some (.string x) := by rw [← hC, List.getElem?_map, hj]; rfl
  simpa using this
theorem marks_lit (C : Array Value) (xs : List ByteArray) (hC : xs.map Value.string = C.toList) (h0 : 0 < xs.length) (hl : xs.length ≤ 1000) (hs : ∀ x ∈ xs, x.size ≤ 1000000) (W : World) :
    Calls Try.prog 15 #[.slice (some ⟨W.heap.size, 0, none⟩) xs.length xs.length] (W.alloc (.cells C 9)) fun e w' => e = .returned (setV (flat xs)) ∧ Below W.heap.size W w' := by
  have z : (W.alloc (.cells C 9)).heap.size = W.heap.size + 1 := by simp
  refine (marks_view xs W.heap.size 0 xs.length _ h0 (Nat.le_refl _) (by rw [z]; omega) (lit_cells C xs hC W) hl hs).mono ?_
  rintro e w1 ⟨rfl, b⟩
  refine ⟨rfl, ((Below.refl _ W).alloc (Nat.le_refl _) _).trans (b.mono (by rw [z]; omega))⟩
theorem del_lit (C : Array Value) (xs : List ByteArray) (hC : xs.map Value.string = C.toList) (h0 : 0 < xs.length) (hl : xs.length ≤ 90) (hs : ∀ x ∈ xs, x.size ≤ 1000000) (W : World) :
    Calls Try.prog 13 #[.slice (some ⟨W.heap.size, 0, none⟩) xs.length xs.length] (W.alloc (.cells C 9)) fun e w' => e = .returned (setV (flat (base4 ++ (base1 ++ xs)))) ∧ Below W.heap.size W w' := by
  have z : (W.alloc (.cells C 9)).heap.size = W.heap.size + 1 := by simp
  refine (del_view xs W.heap.size 0 xs.length _ h0 (Nat.le_refl _) (by rw [z]; omega) (lit_cells C xs hC W) hl hs).mono ?_
  rintro e w1 ⟨rfl, b⟩
  refine ⟨rfl, ((Below.refl _ W).alloc (Nat.le_refl _) _).trans (b.mono (by rw [z]; omega))⟩
theorem text_ne {s : ByteArray} (h : 0 < s.size) : ¬ s.toList = [] := fun e => by
  have h2 : s.toList.length = s.size := by rw [ByteArray.toList_eq, Array.length_toList]; rfl
  rw [e] at h2; simp at h2; omega
theorem text_nil {s : ByteArray} (h : s.size = 0) : s = ⟨#[]⟩ := by
  cases s with
  | mk d =>
    have : d.size = 0 := h
    rw [Array.eq_empty_of_size_eq_zero this]
def letT : List ByteArray := [⟨#[97, 98, 99, 100, 101, 102, 103, 104, 105, 106, 107, 108, 109, 110, 111, 112, 113, 114, 115, 116, 117, 118, 119, 120, 121, 122]⟩, ⟨#[65, 66, 67, 68, 69, 70, 71, 72, 73, 74, 75, 76, 77, 78, 79, 80, 81, 82, 83, 84, 85, 86, 87, 88, 89, 90]⟩]
def schT : List ByteArray := [⟨#[97, 98, 99, 100, 101, 102, 103, 104, 105, 106, 107, 108, 109, 110, 111, 112, 113, 114, 115, 116, 117, 118, 119, 120, 121, 122]⟩, ⟨#[65, 66, 67, 68, 69, 70, 71, 72, 73, 74, 75, 76, 77, 78, 79, 80, 81, 82, 83, 84, 85, 86, 87, 88, 89, 90]⟩, ⟨#[48, 49, 50, 51, 52, 53, 54, 55, 56, 57]⟩, ⟨#[43, 45, 46]⟩]
theorem let_set (b : UInt8) : (flat letT).contains b = letterB b := letter_set b
theorem sch_set (b : UInt8) : (flat schT).contains b = schemeB b := scheme_set b
set_option maxRecDepth 20000 in
set_option maxHeartbeats 2000000 in
theorem isScheme_nil (s : ByteArray) (h0 : s.size = 0) (w : World) : Calls Try.prog 11 #[.string s] w fun e w' => e = .returned (.bool (schemeP s.data.toList)) ∧ Below w.heap.size w w' := by
  have hnil : s.toList = [] := by rw [ByteArray.toList_eq, text_nil h0]
  have HPF : Hid (schemeP s.data.toList = false) := Lib.hid (by rw [text_nil h0]; rfl)
  have hSS : Below w.heap.size w w.drew := (Below.refl _ _).drew
  clear h0
  go_enter Try.func11, Try.ntmps11
  go_wp2_with fail
  first | (go_region_held3 (fun w' => Below w.heap.size w w')
              ((first | exact hSS | assumption))
              (first | fail)) | fail
  all_goals
    go_wp2_with fail
    go_ret
    exact ⟨rbool HPF.out.symm, by assumption⟩
end Go.Proofs.Ytjcaadihkbhlhaa

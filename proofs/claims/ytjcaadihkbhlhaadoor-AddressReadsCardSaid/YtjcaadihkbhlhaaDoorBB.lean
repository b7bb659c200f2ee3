import Derived.Test.YtjcaadihkbhlhaaDoorAA
import Derived.Deep.RegionHeld3
namespace Go.Proofs.YtjcaadihkbhlhaaDoor
open Go.RowKit
theorem below_al {B : Nat} {w W : World} (h : Below B w W) (o : Obj) (hB : B ≤ w.heap.size) : Below B w (W.alloc o) := h.alloc (Nat.le_trans hB h.size) o
theorem lit_cells (C : Array Value) (xs : List ByteArray) (hC : xs.map Value.string = C.toList) (W : World) : ∀ j x, xs[j]? = some x → (W.alloc (.cells C 9)).cell? ⟨W.heap.size, 0 + j, none⟩ = some (.string x) := by
  intro j x hj
  rw [World.cell?_alloc_mark, Nat.zero_add]
  have : C.toList[j]? = some (.string x) := by rw [← hC, List.getElem?_map, hj]; rfl
  simpa using this
theorem marks_lit (C : Array Value) (xs : List ByteArray) (hC : xs.map Value.string = C.toList) (h0 : 0 < xs.length) (hl : xs.length ≤ 1000) (hs : ∀ x ∈ xs, x.size ≤ 1000000) (W : World) :
    Calls Tryd.prog 39 #[.slice (some ⟨W.heap.size, 0, none⟩) xs.length xs.length] (W.alloc (.cells C 9)) fun e w' => e = .returned (setV (flat xs)) ∧ Below W.heap.size W w' := by
  have z : (W.alloc (.cells C 9)).heap.size = W.heap.size + 1 := by simp
  refine (marks_view xs W.heap.size 0 xs.length _ h0 (Nat.le_refl _) (by rw [z]; omega) (lit_cells C xs hC W) hl hs).mono ?_
  rintro e w1 ⟨rfl, b⟩
  refine ⟨rfl, ((Below.refl _ W).alloc (Nat.le_refl _) _).trans (b.mono (by rw [z]; omega))⟩
theorem del_lit (C : Array Value) (xs : List ByteArray) (hC : xs.map Value.string = C.toList) (h0 : 0 < xs.length) (hl : xs.length ≤ 90) (hs : ∀ x ∈ xs, x.size ≤ 1000000) (W : World) :
    Calls Tryd.prog 37 #[.slice (some ⟨W.heap.size, 0, none⟩) xs.length xs.length] (W.alloc (.cells C 9)) fun e w' => e = .returned (setV (flat (base4 ++ (base1 ++ xs)))) ∧ Below W.heap.size W w' := by
  have z : (W.alloc (.cells C 9)).heap.size = W.heap.size + 1 := by simp
  refine (del_view xs W.heap.size 0 xs.length _ h0 (Nat.le_refl _) (by rw [z]; omega) (lit_cells C xs hC W) hl hs).mono ?_
  rintro e w1 ⟨rfl, b⟩
  refine ⟨rfl, ((Below.refl _ W).alloc (Nat.le_refl _) _).trans (b.mono (by rw [z]; omega))⟩
theorem text_ne {s : ByteArray} (h : 0 < s.size) : ¬ s.toList = [] := fun e => by
  have h2 : s.toList.length = s.size := by rw [ByteArray.toList_eq, Array.length_toList]; rfl
  rw [e] at h2; simp at h2; omega
theorem text_nil {s : ByteArray} (h : s.size = 0) : s = ⟨#[]⟩ := by
  cases s with
  | mk d =>
    have : d.size = 0 := h
    rw [Array.eq_empty_of_size_eq_zero this]
def letT : List ByteArray := [⟨#[97, 98, 99, 100, 101, 102, 103, 104, 105, 106, 107, 108, 109, 110, 111, 112, 113, 114, 115, 116, 117, 118, 119, 120, 121, 122]⟩, ⟨#[65, 66, 67, 68, 69, 70, 71, 72, 73, 74, 75, 76, 77, 78, 79, 80, 81, 82, 83, 84, 85, 86, 87, 88, 89, 90]⟩]
def schT : List ByteArray := [⟨#[97, 98, 99, 100, 101, 102, 103, 104, 105, 106, 107, 108, 109, 110, 111, 112, 113, 114, 115, 116, 117, 118, 119, 120, 121, 122]⟩, ⟨#[65, 66, 67, 68, 69, 70, 71, 72, 73, 74, 75, 76, 77, 78, 79, 80, 81, 82, 83, 84, 85, 86, 87, 88, 89, 90]⟩, ⟨#[48, 49, 50, 51, 52, 53, 54, 55, 56, 57]⟩, ⟨#[43, 45, 46]⟩]
theorem let_set (b : UInt8) : (flat letT).contains b = letterB b := letter_set b
theorem sch_set (b : UInt8) : (flat schT).contains b = schemeB b := scheme_set b
set_option maxRecDepth 20000 in
set_option maxHeartbeats 2000000 in
theorem isScheme_nil (s : ByteArray) (h0 : s.size = 0) (w : World) : Calls Tryd.prog 35 #[.string s] w fun e w' => e = .returned (.bool (schemeP s.data.toList)) ∧ Below w.heap.size w w' := by
  have hnil : s.toList = [] := by rw [ByteArray.toList_eq, text_nil h0]
  have HPF : Hid (schemeP s.data.toList = false) := Lib.hid (by rw [text_nil h0]; rfl)
  have hSS : Below w.heap.size w w.drew := (Below.refl _ _).drew
  clear h0
  go_enter Tryd.func35, Tryd.ntmps35
  go_wp2_with fail
  refine wp_region_held_drew (S := fun w' => Below w.heap.size w w') (by kernel_rfl) hSS (fun hHeld => ?_)
  refine wpAnyH_take (i := 0) (oi := { dst := some 3, op := Op.move (Operand.tmp 0), type := 9, pos := "address.go:96", after := #[], guard := none }) (v := .string s) rfl (by kernel_rfl) (by kernel_rfl) (by kernel_rfl) (fun _ _ _ h => h) (Or.inl ⟨by rfl, fun w hSw => by (go_simp <;> rfl)⟩) hHeld ?_
  try simp only [Act.put, List.setIfInBounds_toArray, List.set_cons_zero, List.set_cons_succ]
  refine wpAnyH_take (i := 1) (oi := { dst := some 4, op := Op.binOp BinOp.neq 9 (Operand.tmp 3) (Operand.const (Value.string { data := #[] })) 9, type := 4, pos := "address.go:96", after := #[{ on := 0, ground := Ground.data }], guard := none }) (v := .bool false) rfl (by kernel_rfl) (by kernel_rfl) (by kernel_rfl) (fun _ _ _ h => h) (Or.inl ⟨by rfl, fun w hSw => by (go_simp <;> rfl)⟩) hHeld ?_
  try simp only [Act.put, List.setIfInBounds_toArray, List.set_cons_zero, List.set_cons_succ]
  refine wpAnyH_take (i := 2) (oi := { dst := some 5, op := Op.move (Operand.tmp 4), type := 4, pos := "address.go:96", after := #[{ on := 1, ground := Ground.data }], guard := none }) (v := .bool false) rfl (by kernel_rfl) (by kernel_rfl) (by kernel_rfl) (fun _ _ _ h => h) (Or.inl ⟨by rfl, fun w hSw => by (go_simp <;> rfl)⟩) hHeld ?_
  try simp only [Act.put, List.setIfInBounds_toArray, List.set_cons_zero, List.set_cons_succ]
  refine wpAnyH_take (i := 3) (oi := { dst := some 6, op := Op.buildSlice 80 2 #[(0, Operand.const (Value.string { data := #[97, 98, 99, 100, 101, 102, 103, 104, 105, 106, 107, 108, 109, 110, 111, 112, 113, 114, 115, 116, 117, 118, 119, 120, 121, 122] })), (1, Operand.const (Value.string { data := #[65, 66, 67, 68, 69, 70, 71, 72, 73, 74, 75, 76, 77, 78, 79, 80, 81, 82, 83, 84, 85, 86, 87, 88, 89, 90] }))], type := 80, pos := "address.go:96", after := #[{ on := 2, ground := Ground.guard }], guard := some (2, true) }) (v := undef) rfl (by kernel_rfl) (by kernel_rfl) (by kernel_rfl) (fun _ _ _ h => h) (Or.inr ⟨by rfl, rfl⟩) hHeld ?_
  try simp only [Act.put, List.setIfInBounds_toArray, List.set_cons_zero, List.set_cons_succ]
  refine wpAnyH_take (i := 4) (oi := { dst := some 7, op := Op.call { callee := Callee.value (Operand.func 39), args := #[Operand.tmp 6], argTypes := #[80] }, type := 60, pos := "address.go:96", after := #[{ on := 3, ground := Ground.data }, { on := 2, ground := Ground.chain }, { on := 2, ground := Ground.guard }], guard := some (2, true) }) (v := undef) rfl (by kernel_rfl) (by kernel_rfl) (by kernel_rfl) (fun _ _ _ h => h) (Or.inr ⟨by rfl, rfl⟩) hHeld ?_
  try simp only [Act.put, List.setIfInBounds_toArray, List.set_cons_zero, List.set_cons_succ]
  refine wpAnyH_take (i := 5) (oi := { dst := some 8, op := Op.move (Operand.tmp 0), type := 9, pos := "address.go:96", after := #[{ on := 2, ground := Ground.guard }], guard := some (2, true) }) (v := undef) rfl (by kernel_rfl) (by kernel_rfl) (by kernel_rfl) (fun _ _ _ h => h) (Or.inr ⟨by rfl, rfl⟩) hHeld ?_
  try simp only [Act.put, List.setIfInBounds_toArray, List.set_cons_zero, List.set_cons_succ]
  refine wpAnyH_take (i := 6) (oi := { dst := some 9, op := Op.index 9 (Operand.tmp 8) (Operand.const (Value.int IntKind.i64 0)), type := 5, pos := "address.go:96", after := #[{ on := 5, ground := Ground.data }, { on := 2, ground := Ground.guard }], guard := some (2, true) }) (v := undef) rfl (by kernel_rfl) (by kernel_rfl) (by kernel_rfl) (fun _ _ _ h => h) (Or.inr ⟨by rfl, rfl⟩) hHeld ?_
  try simp only [Act.put, List.setIfInBounds_toArray, List.set_cons_zero, List.set_cons_succ]
  refine wpAnyH_take (i := 7) (oi := { dst := some 10, op := Op.call { callee := Callee.value (Operand.func 49), args := #[Operand.tmp 7, Operand.tmp 9], argTypes := #[60, 5] }, type := 4, pos := "address.go:96", after := #[{ on := 4, ground := Ground.data }, { on := 6, ground := Ground.data }, { on := 4, ground := Ground.chain }, { on := 2, ground := Ground.guard }], guard := some (2, true) }) (v := undef) rfl (by kernel_rfl) (by kernel_rfl) (by kernel_rfl) (fun _ _ _ h => h) (Or.inr ⟨by rfl, rfl⟩) hHeld ?_
  try simp only [Act.put, List.setIfInBounds_toArray, List.set_cons_zero, List.set_cons_succ]
  refine wpAnyH_take (i := 8) (oi := { dst := some 11, op := Op.pick (Operand.tmp 5) (Operand.tmp 10) (Operand.const (Value.bool false)), type := 4, pos := "address.go:96", after := #[{ on := 2, ground := Ground.data }, { on := 7, ground := Ground.data }], guard := none }) (v := .bool false) rfl (by kernel_rfl) (by kernel_rfl) (by kernel_rfl) (fun _ _ _ h => h) (Or.inl ⟨by rfl, fun w hSw => by (go_simp <;> rfl)⟩) hHeld ?_
  try simp only [Act.put, List.setIfInBounds_toArray, List.set_cons_zero, List.set_cons_succ]
  refine wpAnyH_take (i := 9) (oi := { dst := some 12, op := Op.move (Operand.tmp 11), type := 4, pos := "address.go:96", after := #[{ on := 8, ground := Ground.data }, { on := 7, ground := Ground.chain }], guard := none }) (v := .bool false) rfl (by kernel_rfl) (by kernel_rfl) (by kernel_rfl) (fun _ _ _ h => h) (Or.inl ⟨by rfl, fun w hSw => by (go_simp <;> rfl)⟩) hHeld ?_
  try simp only [Act.put, List.setIfInBounds_toArray, List.set_cons_zero, List.set_cons_succ]
  refine wpAnyH_take (i := 10) (oi := { dst := some 13, op := Op.move (Operand.tmp 0), type := 9, pos := "address.go:96", after := #[{ on := 9, ground := Ground.guard }], guard := some (9, true) }) (v := undef) rfl (by kernel_rfl) (by kernel_rfl) (by kernel_rfl) (fun _ _ _ h => h) (Or.inr ⟨by rfl, rfl⟩) hHeld ?_
  try simp only [Act.put, List.setIfInBounds_toArray, List.set_cons_zero, List.set_cons_succ]
  refine wpAnyH_take (i := 11) (oi := { dst := some 14, op := Op.buildSlice 80 4 #[(0, Operand.const (Value.string { data := #[97, 98, 99, 100, 101, 102, 103, 104, 105, 106, 107, 108, 109, 110, 111, 112, 113, 114, 115, 116, 117, 118, 119, 120, 121, 122] })), (1, Operand.const (Value.string { data := #[65, 66, 67, 68, 69, 70, 71, 72, 73, 74, 75, 76, 77, 78, 79, 80, 81, 82, 83, 84, 85, 86, 87, 88, 89, 90] })), (2, Operand.const (Value.string { data := #[48, 49, 50, 51, 52, 53, 54, 55, 56, 57] })), (3, Operand.const (Value.string { data := #[43, 45, 46] }))], type := 80, pos := "address.go:96", after := #[{ on := 9, ground := Ground.guard }], guard := some (9, true) }) (v := undef) rfl (by kernel_rfl) (by kernel_rfl) (by kernel_rfl) (fun _ _ _ h => h) (Or.inr ⟨by rfl, rfl⟩) hHeld ?_
  try simp only [Act.put, List.setIfInBounds_toArray, List.set_cons_zero, List.set_cons_succ]
  refine wpAnyH_take (i := 12) (oi := { dst := some 15, op := Op.call { callee := Callee.value (Operand.func 39), args := #[Operand.tmp 14], argTypes := #[80] }, type := 60, pos := "address.go:96", after := #[{ on := 11, ground := Ground.data }, { on := 9, ground := Ground.chain }, { on := 9, ground := Ground.guard }], guard := some (9, true) }) (v := undef) rfl (by kernel_rfl) (by kernel_rfl) (by kernel_rfl) (fun _ _ _ h => h) (Or.inr ⟨by rfl, rfl⟩) hHeld ?_
  try simp only [Act.put, List.setIfInBounds_toArray, List.set_cons_zero, List.set_cons_succ]
  refine wpAnyH_take (i := 13) (oi := { dst := some 16, op := Op.call { callee := Callee.value (Operand.func 38), args := #[Operand.tmp 13, Operand.tmp 15], argTypes := #[9, 60] }, type := 4, pos := "address.go:96", after := #[{ on := 10, ground := Ground.data }, { on := 12, ground := Ground.data }, { on := 12, ground := Ground.chain }, { on := 9, ground := Ground.guard }], guard := some (9, true) }) (v := undef) rfl (by kernel_rfl) (by kernel_rfl) (by kernel_rfl) (fun _ _ _ h => h) (Or.inr ⟨by rfl, rfl⟩) hHeld ?_
  try simp only [Act.put, List.setIfInBounds_toArray, List.set_cons_zero, List.set_cons_succ]
  refine wpAnyH_take (i := 14) (oi := { dst := some 17, op := Op.pick (Operand.tmp 12) (Operand.tmp 16) (Operand.const (Value.bool false)), type := 4, pos := "address.go:96", after := #[{ on := 9, ground := Ground.data }, { on := 13, ground := Ground.data }], guard := none }) (v := .bool false) rfl (by kernel_rfl) (by kernel_rfl) (by kernel_rfl) (fun _ _ _ h => h) (Or.inl ⟨by rfl, fun w hSw => by (go_simp <;> rfl)⟩) hHeld ?_
  try simp only [Act.put, List.setIfInBounds_toArray, List.set_cons_zero, List.set_cons_succ]
  refine wpAnyH_take (i := 15) (oi := { dst := some 2, op := Op.assign (Operand.tmp 17), type := 4, pos := "address.go:96", after := #[{ on := 14, ground := Ground.data }, { on := 13, ground := Ground.chain }, { on := 0, ground := Ground.phase }, { on := 1, ground := Ground.phase }, { on := 2, ground := Ground.phase }, { on := 3, ground := Ground.phase }, { on := 4, ground := Ground.phase }, { on := 5, ground := Ground.phase }, { on := 6, ground := Ground.phase }, { on := 7, ground := Ground.phase }, { on := 8, ground := Ground.phase }, { on := 9, ground := Ground.phase }, { on := 10, ground := Ground.phase }, { on := 11, ground := Ground.phase }, { on := 12, ground := Ground.phase }, { on := 13, ground := Ground.phase }, { on := 14, ground := Ground.phase }], guard := none }) (v := .bool false) rfl (by kernel_rfl) (by kernel_rfl) (by kernel_rfl) (fun _ _ _ h => h) (Or.inl ⟨by rfl, fun w hSw => by (go_simp <;> rfl)⟩) hHeld ?_
  try simp only [Act.put, List.setIfInBounds_toArray, List.set_cons_zero, List.set_cons_succ]
  refine wpAnyH_done (by kernel_rfl) ?_ _
  have HL := Lib.hid hHeld
  go_wp2_with fail
  go_ret
  exact ⟨rbool HPF.out.symm, HL.out⟩
set_option maxRecDepth 20000 in
set_option maxHeartbeats 2000000 in
theorem isScheme_any (s : ByteArray) (hs : s.size ≤ 1000000) (w : World) : Calls Tryd.prog 35 #[.string s] w fun e w' => e = .returned (.bool (schemeP s.data.toList)) ∧ Below w.heap.size w w' := by
  by_cases h0 : s.size = 0
  · exact isScheme_nil s h0 w
  · have hpos : 0 < s.size := by omega
    have hne := text_ne hpos
    have hposI : (0 : Int) < s.size := by omega
    have hie : s.toList.isEmpty = false := by cases e : s.toList with
      | nil => exact absurd e hne
      | cons _ _ => rfl
    have HP : Hid (schemeP s.data.toList = (letterB s[0] && (s.data.toList.drop 1).all schemeB)) := Lib.hid (by
      have := drop_at s 0 hpos
      rw [List.drop_zero] at this
      rw [this]; rfl)
    have HALL : Hid (s.data.toList.all schemeB = (schemeB s[0] && (s.data.toList.drop 1).all schemeB)) := Lib.hid (by
      have := all_at schemeB s 0 hpos
      rwa [List.drop_zero] at this)
    have M2 := Lib.hid (fun W => marks_lit #[.string ⟨#[97, 98, 99, 100, 101, 102, 103, 104, 105, 106, 107, 108, 109, 110, 111, 112, 113, 114, 115, 116, 117, 118, 119, 120, 121, 122]⟩, .string ⟨#[65, 66, 67, 68, 69, 70, 71, 72, 73, 74, 75, 76, 77, 78, 79, 80, 81, 82, 83, 84, 85, 86, 87, 88, 89, 90]⟩] letT rfl (by decide) (by decide) (by decide) W)
    have M4 := Lib.hid (fun W => marks_lit #[.string ⟨#[97, 98, 99, 100, 101, 102, 103, 104, 105, 106, 107, 108, 109, 110, 111, 112, 113, 114, 115, 116, 117, 118, 119, 120, 121, 122]⟩, .string ⟨#[65, 66, 67, 68, 69, 70, 71, 72, 73, 74, 75, 76, 77, 78, 79, 80, 81, 82, 83, 84, 85, 86, 87, 88, 89, 90]⟩, .string ⟨#[48, 49, 50, 51, 52, 53, 54, 55, 56, 57]⟩, .string ⟨#[43, 45, 46]⟩] schT rfl (by decide) (by decide) (by decide) W)
    have HB := Lib.hid (fun b W => has_any (flat letT) b W)
    have HLB := Lib.hid let_set
    have IPL := Lib.hid (fun W => isPlain_any s (flat schT) schemeB sch_set hs W)
    unfold setV setC at M2 M4 HB IPL
    obtain ⟨a0, ha0⟩ : ∃ a : Int, a = ((wd (flat letT) 0 : Nat) : Int) := ⟨_, rfl⟩
    obtain ⟨a1, ha1⟩ : ∃ a : Int, a = ((wd (flat letT) 1 : Nat) : Int) := ⟨_, rfl⟩
    obtain ⟨a2, ha2⟩ : ∃ a : Int, a = ((wd (flat letT) 2 : Nat) : Int) := ⟨_, rfl⟩
    obtain ⟨a3, ha3⟩ : ∃ a : Int, a = ((wd (flat letT) 3 : Nat) : Int) := ⟨_, rfl⟩
    obtain ⟨c0, hc0⟩ : ∃ a : Int, a = ((wd (flat schT) 0 : Nat) : Int) := ⟨_, rfl⟩
    obtain ⟨c1, hc1⟩ : ∃ a : Int, a = ((wd (flat schT) 1 : Nat) : Int) := ⟨_, rfl⟩
    obtain ⟨c2, hc2⟩ : ∃ a : Int, a = ((wd (flat schT) 2 : Nat) : Int) := ⟨_, rfl⟩
    obtain ⟨c3, hc3⟩ : ∃ a : Int, a = ((wd (flat schT) 3 : Nat) : Int) := ⟨_, rfl⟩
    rw [← ha0, ← ha1, ← ha2, ← ha3] at M2 HB
    rw [← hc0, ← hc1, ← hc2, ← hc3] at M4 IPL
    clear ha0 ha1 ha2 ha3 hc0 hc1 hc2 hc3
    obtain ⟨b, hb⟩ : ∃ b, b = s[0] := ⟨_, rfl⟩
    rw [← hb] at HP HALL
    have k0 : ∀ q : 0 < s.size, (s[0].toNat : Int) = (b.toNat : Nat) := fun q => by rw [hb]
    clear hb
    have hSS : Below w.heap.size w w.drew := (Below.refl _ _).drew
    have CM : Hid (∀ W' B n C V, (∃ W, Below w.heap.size w W ∧ B = W.heap.size ∧ (W' = W.alloc (.cells C 9) ∨ W' = (W.alloc (.cells C 9)).drew)) → ((n = 2 ∧ C = #[.string ⟨#[97, 98, 99, 100, 101, 102, 103, 104, 105, 106, 107, 108, 109, 110, 111, 112, 113, 114, 115, 116, 117, 118, 119, 120, 121, 122]⟩, .string ⟨#[65, 66, 67, 68, 69, 70, 71, 72, 73, 74, 75, 76, 77, 78, 79, 80, 81, 82, 83, 84, 85, 86, 87, 88, 89, 90]⟩] ∧ V = (.agg #[.int .u64 a0, .int .u64 a1, .int .u64 a2, .int .u64 a3])) ∨ (n = 4 ∧ C = #[.string ⟨#[97, 98, 99, 100, 101, 102, 103, 104, 105, 106, 107, 108, 109, 110, 111, 112, 113, 114, 115, 116, 117, 118, 119, 120, 121, 122]⟩, .string ⟨#[65, 66, 67, 68, 69, 70, 71, 72, 73, 74, 75, 76, 77, 78, 79, 80, 81, 82, 83, 84, 85, 86, 87, 88, 89, 90]⟩, .string ⟨#[48, 49, 50, 51, 52, 53, 54, 55, 56, 57]⟩, .string ⟨#[43, 45, 46]⟩] ∧ V = (.agg #[.int .u64 c0, .int .u64 c1, .int .u64 c2, .int .u64 c3]))) → Calls Tryd.prog 39 #[.slice (some ⟨B, 0, none⟩) n n] W' fun e w' => e = .returned V ∧ Below w.heap.size w w') :=
      Lib.hid (fun W' B n C V hw q => by
        obtain ⟨W, h, rfl, hw⟩ := hw
        have e : W' = W.alloc (.cells C 9) ∨ W' = W.drew.alloc (.cells C 9) := hw
        rcases q with ⟨rfl, rfl, rfl⟩ | ⟨rfl, rfl, rfl⟩
        · rcases e with rfl | rfl
          · exact (M2.out W).mono fun e w' z => ⟨z.1, h.trans (z.2.mono h.size)⟩
          · exact (M2.out W.drew).mono fun e w' z => ⟨z.1, h.drew.trans (z.2.mono h.size)⟩
        · rcases e with rfl | rfl
          · exact (M4.out W).mono fun e w' z => ⟨z.1, h.trans (z.2.mono h.size)⟩
          · exact (M4.out W.drew).mono fun e w' z => ⟨z.1, h.drew.trans (z.2.mono h.size)⟩)
    have CH : Hid (∀ W, Below w.heap.size w W → Calls Tryd.prog 49 #[(.agg #[.int .u64 a0, .int .u64 a1, .int .u64 a2, .int .u64 a3]), .int .u8 (b.toNat : Nat)] W fun e w' => e = .returned (.bool (letterB b)) ∧ Below w.heap.size w w') :=
      Lib.hid (fun W h => (HB.out b W).mono fun e w' z => ⟨by rw [z.1, HLB.out b], h.trans (z.2.mono h.size)⟩)
    have CP : Hid (∀ W, Below w.heap.size w W → Calls Tryd.prog 38 #[.string s, (.agg #[.int .u64 c0, .int .u64 c1, .int .u64 c2, .int .u64 c3])] W fun e w' => e = .returned (.bool (s.data.toList.all schemeB)) ∧ Below w.heap.size w w') :=
      Lib.hid (fun W h => (IPL.out W).mono fun e w' z => ⟨z.1, h.trans (z.2.mono h.size)⟩)
    obtain ⟨g, hg⟩ : ∃ g, g = letterB b := ⟨_, rfl⟩
    obtain ⟨r, hr⟩ : ∃ g, g = s.data.toList.all schemeB := ⟨_, rfl⟩
    have HR : Hid (g = true → r = schemeP s.data.toList) := Lib.hid (fun q => by
      rw [hr, HALL.out, HP.out]
      have : letterB b = true := by rw [← hg, q]
      have e : schemeB b = true := by unfold schemeB; rw [this]; rfl
      rw [e, this])
    have HR0 : Hid (g = false → schemeP s.data.toList = false) := Lib.hid (fun q => by
      rw [HP.out, ← hg, q]; rfl)
    rw [← hg] at CH
    rw [← hr] at CP
    clear hg hr M2 M4 HB IPL
    cases g with
    | true =>
      have HRR := Lib.hid (HR.out rfl)
      go_enter Tryd.func35, Tryd.ntmps35
      go_wp2_with fail
      refine wp_region_held_drew (S := fun w' => Below w.heap.size w w') (by kernel_rfl) hSS (fun hHeld => ?_)
      refine wpAnyH_take (i := 0) (oi := { dst := some 3, op := Op.move (Operand.tmp 0), type := 9, pos := "address.go:96", after := #[], guard := none }) (v := .string s) rfl (by kernel_rfl) (by kernel_rfl) (by kernel_rfl) (fun _ _ _ h => h) (Or.inl ⟨by rfl, fun w hSw => by (go_simp <;> rfl)⟩) hHeld ?_
      try simp only [Act.put, List.setIfInBounds_toArray, List.set_cons_zero, List.set_cons_succ]
      refine wpAnyH_take (i := 1) (oi := { dst := some 4, op := Op.binOp BinOp.neq 9 (Operand.tmp 3) (Operand.const (Value.string { data := #[] })) 9, type := 4, pos := "address.go:96", after := #[{ on := 0, ground := Ground.data }], guard := none }) (v := .bool true) rfl (by kernel_rfl) (by kernel_rfl) (by kernel_rfl) (fun _ _ _ h => h) (Or.inl ⟨by rfl, fun w hSw => by (go_simp <;> rfl)⟩) hHeld ?_
      try simp only [Act.put, List.setIfInBounds_toArray, List.set_cons_zero, List.set_cons_succ]
      refine wpAnyH_take (i := 2) (oi := { dst := some 5, op := Op.move (Operand.tmp 4), type := 4, pos := "address.go:96", after := #[{ on := 1, ground := Ground.data }], guard := none }) (v := .bool true) rfl (by kernel_rfl) (by kernel_rfl) (by kernel_rfl) (fun _ _ _ h => h) (Or.inl ⟨by rfl, fun w hSw => by (go_simp <;> rfl)⟩) hHeld ?_
      try simp only [Act.put, List.setIfInBounds_toArray, List.set_cons_zero, List.set_cons_succ]
      refine wpAnyH_take (i := 5) (oi := { dst := some 8, op := Op.move (Operand.tmp 0), type := 9, pos := "address.go:96", after := #[{ on := 2, ground := Ground.guard }], guard := some (2, true) }) (v := .string s) rfl (by kernel_rfl) (by kernel_rfl) (by kernel_rfl) (fun _ _ _ h => h) (Or.inl ⟨by rfl, fun w hSw => by (go_simp <;> rfl)⟩) hHeld ?_
      try simp only [Act.put, List.setIfInBounds_toArray, List.set_cons_zero, List.set_cons_succ]
      refine wpAnyH_take (i := 6) (oi := { dst := some 9, op := Op.index 9 (Operand.tmp 8) (Operand.const (Value.int IntKind.i64 0)), type := 5, pos := "address.go:96", after := #[{ on := 5, ground := Ground.data }, { on := 2, ground := Ground.guard }], guard := some (2, true) }) (v := .int .u8 ((b.toNat : Nat) : Int)) rfl (by kernel_rfl) (by kernel_rfl) (by kernel_rfl) (fun _ _ _ h => h) (Or.inl ⟨by rfl, fun w hSw => by (go_simp; try rfl)⟩) hHeld ?_
      try simp only [Act.put, List.setIfInBounds_toArray, List.set_cons_zero, List.set_cons_succ]
      refine wpAnyH_ready (rs := [3]) (by kernel_rfl) (by simp) (AllReadyH.cons (o := { dst := some 6, op := Op.buildSlice 80 2 #[(0, Operand.const (Value.string { data := #[97, 98, 99, 100, 101, 102, 103, 104, 105, 106, 107, 108, 109, 110, 111, 112, 113, 114, 115, 116, 117, 118, 119, 120, 121, 122] })), (1, Operand.const (Value.string { data := #[65, 66, 67, 68, 69, 70, 71, 72, 73, 74, 75, 76, 77, 78, 79, 80, 81, 82, 83, 84, 85, 86, 87, 88, 89, 90] }))], type := 80, pos := "address.go:96", after := #[{ on := 2, ground := Ground.guard }], guard := some (2, true) }) rfl (fun K3 hK3 => ?_) AllReadyH.nil)
      go_simp
      refine hK3.out _ _ (below_al hHeld _ (Nat.le_refl _)) (fun hH5_3 => ?_)
      clear hK3 K3
      try simp only [Act.put, List.setIfInBounds_toArray, List.set_cons_zero, List.set_cons_succ]
      refine wpAnyH_ready (rs := [4]) (by kernel_rfl) (by simp) (AllReadyH.cons (o := { dst := some 7, op := Op.call { callee := Callee.value (Operand.func 39), args := #[Operand.tmp 6], argTypes := #[80] }, type := 60, pos := "address.go:96", after := #[{ on := 3, ground := Ground.data }, { on := 2, ground := Ground.chain }, { on := 2, ground := Ground.guard }], guard := some (2, true) }) rfl (fun K4 hK4 => ?_) AllReadyH.nil)
      go_simp
      refine (CM.out _ _ _ _ _ ⟨w, Below.refl _ _, rfl, .inr rfl⟩ (.inl ⟨rfl, rfl, rfl⟩)).mono ?_
      rintro e w4 ⟨rfl, hs4⟩
      refine hK4.out _ _ hs4 (fun hH6_4 => ?_)
      clear hK4 K4
      try simp only [Act.put, List.setIfInBounds_toArray, List.set_cons_zero, List.set_cons_succ]
      refine wpAnyH_ready (rs := [7]) (by kernel_rfl) (by simp) (AllReadyH.cons (o := { dst := some 10, op := Op.call { callee := Callee.value (Operand.func 49), args := #[Operand.tmp 7, Operand.tmp 9], argTypes := #[60, 5] }, type := 4, pos := "address.go:96", after := #[{ on := 4, ground := Ground.data }, { on := 6, ground := Ground.data }, { on := 4, ground := Ground.chain }, { on := 2, ground := Ground.guard }], guard := some (2, true) }) rfl (fun K7 hK7 => ?_) AllReadyH.nil)
      go_simp
      refine (CH.out _ hH6_4).mono ?_
      rintro e w7 ⟨rfl, hs7⟩
      refine hK7.out _ _ hs7 (fun hH7_7 => ?_)
      clear hK7 K7
      try simp only [Act.put, List.setIfInBounds_toArray, List.set_cons_zero, List.set_cons_succ]
      refine wpAnyH_take (i := 8) (oi := { dst := some 11, op := Op.pick (Operand.tmp 5) (Operand.tmp 10) (Operand.const (Value.bool false)), type := 4, pos := "address.go:96", after := #[{ on := 2, ground := Ground.data }, { on := 7, ground := Ground.data }], guard := none }) (v := .bool true) rfl (by kernel_rfl) (by kernel_rfl) (by kernel_rfl) (fun _ _ _ h => h) (Or.inl ⟨by rfl, fun w hSw => by (go_simp <;> rfl)⟩) hH7_7 ?_
      try simp only [Act.put, List.setIfInBounds_toArray, List.set_cons_zero, List.set_cons_succ]
      refine wpAnyH_take (i := 9) (oi := { dst := some 12, op := Op.move (Operand.tmp 11), type := 4, pos := "address.go:96", after := #[{ on := 8, ground := Ground.data }, { on := 7, ground := Ground.chain }], guard := none }) (v := .bool true) rfl (by kernel_rfl) (by kernel_rfl) (by kernel_rfl) (fun _ _ _ h => h) (Or.inl ⟨by rfl, fun w hSw => by (go_simp <;> rfl)⟩) hH7_7 ?_
      try simp only [Act.put, List.setIfInBounds_toArray, List.set_cons_zero, List.set_cons_succ]
      refine wpAnyH_take (i := 10) (oi := { dst := some 13, op := Op.move (Operand.tmp 0), type := 9, pos := "address.go:96", after := #[{ on := 9, ground := Ground.guard }], guard := some (9, true) }) (v := .string s) rfl (by kernel_rfl) (by kernel_rfl) (by kernel_rfl) (fun _ _ _ h => h) (Or.inl ⟨by rfl, fun w hSw => by (go_simp <;> rfl)⟩) hH7_7 ?_
      try simp only [Act.put, List.setIfInBounds_toArray, List.set_cons_zero, List.set_cons_succ]
      refine wpAnyH_ready (rs := [11]) (by kernel_rfl) (by simp) (AllReadyH.cons (o := { dst := some 14, op := Op.buildSlice 80 4 #[(0, Operand.const (Value.string { data := #[97, 98, 99, 100, 101, 102, 103, 104, 105, 106, 107, 108, 109, 110, 111, 112, 113, 114, 115, 116, 117, 118, 119, 120, 121, 122] })), (1, Operand.const (Value.string { data := #[65, 66, 67, 68, 69, 70, 71, 72, 73, 74, 75, 76, 77, 78, 79, 80, 81, 82, 83, 84, 85, 86, 87, 88, 89, 90] })), (2, Operand.const (Value.string { data := #[48, 49, 50, 51, 52, 53, 54, 55, 56, 57] })), (3, Operand.const (Value.string { data := #[43, 45, 46] }))], type := 80, pos := "address.go:96", after := #[{ on := 9, ground := Ground.guard }], guard := some (9, true) }) rfl (fun K11 hK11 => ?_) AllReadyH.nil)
      go_simp
      refine hK11.out _ _ (below_al hH7_7 _ (Nat.le_refl _)) (fun hH11_11 => ?_)
      clear hK11 K11
      try simp only [Act.put, List.setIfInBounds_toArray, List.set_cons_zero, List.set_cons_succ]
      refine wpAnyH_ready (rs := [12]) (by kernel_rfl) (by simp) (AllReadyH.cons (o := { dst := some 15, op := Op.call { callee := Callee.value (Operand.func 39), args := #[Operand.tmp 14], argTypes := #[80] }, type := 60, pos := "address.go:96", after := #[{ on := 11, ground := Ground.data }, { on := 9, ground := Ground.chain }, { on := 9, ground := Ground.guard }], guard := some (9, true) }) rfl (fun K12 hK12 => ?_) AllReadyH.nil)
      go_simp
      refine (CM.out _ _ _ _ _ ⟨_, hH7_7, rfl, .inl rfl⟩ (.inr ⟨rfl, rfl, rfl⟩)).mono ?_
      rintro e w12 ⟨rfl, hs12⟩
      refine hK12.out _ _ hs12 (fun hH12_12 => ?_)
      clear hK12 K12
      try simp only [Act.put, List.setIfInBounds_toArray, List.set_cons_zero, List.set_cons_succ]
      refine wpAnyH_ready (rs := [13]) (by kernel_rfl) (by simp) (AllReadyH.cons (o := { dst := some 16, op := Op.call { callee := Callee.value (Operand.func 38), args := #[Operand.tmp 13, Operand.tmp 15], argTypes := #[9, 60] }, type := 4, pos := "address.go:96", after := #[{ on := 10, ground := Ground.data }, { on := 12, ground := Ground.data }, { on := 12, ground := Ground.chain }, { on := 9, ground := Ground.guard }], guard := some (9, true) }) rfl (fun K13 hK13 => ?_) AllReadyH.nil)
      go_simp
      refine (CP.out _ hH12_12).mono ?_
      rintro e w13 ⟨rfl, hs13⟩
      refine hK13.out _ _ hs13 (fun hH13_13 => ?_)
      clear hK13 K13
      try simp only [Act.put, List.setIfInBounds_toArray, List.set_cons_zero, List.set_cons_succ]
      refine wpAnyH_take (i := 14) (oi := { dst := some 17, op := Op.pick (Operand.tmp 12) (Operand.tmp 16) (Operand.const (Value.bool false)), type := 4, pos := "address.go:96", after := #[{ on := 9, ground := Ground.data }, { on := 13, ground := Ground.data }], guard := none }) (v := .bool r) rfl (by kernel_rfl) (by kernel_rfl) (by kernel_rfl) (fun _ _ _ h => h) (Or.inl ⟨by rfl, fun w hSw => by (go_simp <;> rfl)⟩) hH13_13 ?_
      try simp only [Act.put, List.setIfInBounds_toArray, List.set_cons_zero, List.set_cons_succ]
      refine wpAnyH_take (i := 15) (oi := { dst := some 2, op := Op.assign (Operand.tmp 17), type := 4, pos := "address.go:96", after := #[{ on := 14, ground := Ground.data }, { on := 13, ground := Ground.chain }, { on := 0, ground := Ground.phase }, { on := 1, ground := Ground.phase }, { on := 2, ground := Ground.phase }, { on := 3, ground := Ground.phase }, { on := 4, ground := Ground.phase }, { on := 5, ground := Ground.phase }, { on := 6, ground := Ground.phase }, { on := 7, ground := Ground.phase }, { on := 8, ground := Ground.phase }, { on := 9, ground := Ground.phase }, { on := 10, ground := Ground.phase }, { on := 11, ground := Ground.phase }, { on := 12, ground := Ground.phase }, { on := 13, ground := Ground.phase }, { on := 14, ground := Ground.phase }], guard := none }) (v := .bool r) rfl (by kernel_rfl) (by kernel_rfl) (by kernel_rfl) (fun _ _ _ h => h) (Or.inl ⟨by rfl, fun w hSw => by (go_simp <;> rfl)⟩) hH13_13 ?_
      try simp only [Act.put, List.setIfInBounds_toArray, List.set_cons_zero, List.set_cons_succ]
      refine wpAnyH_done (by kernel_rfl) ?_ _
      have HL := Lib.hid hH13_13
      go_wp2_with fail
      go_ret
      exact ⟨rbool HRR.out, HL.out⟩
    | false =>
      have HRR := Lib.hid (HR0.out rfl)
      go_enter Tryd.func35, Tryd.ntmps35
      go_wp2_with fail
      refine wp_region_held_drew (S := fun w' => Below w.heap.size w w') (by kernel_rfl) hSS (fun hHeld => ?_)
      refine wpAnyH_take (i := 0) (oi := { dst := some 3, op := Op.move (Operand.tmp 0), type := 9, pos := "address.go:96", after := #[], guard := none }) (v := .string s) rfl (by kernel_rfl) (by kernel_rfl) (by kernel_rfl) (fun _ _ _ h => h) (Or.inl ⟨by rfl, fun w hSw => by (go_simp <;> rfl)⟩) hHeld ?_
      try simp only [Act.put, List.setIfInBounds_toArray, List.set_cons_zero, List.set_cons_succ]
      refine wpAnyH_take (i := 1) (oi := { dst := some 4, op := Op.binOp BinOp.neq 9 (Operand.tmp 3) (Operand.const (Value.string { data := #[] })) 9, type := 4, pos := "address.go:96", after := #[{ on := 0, ground := Ground.data }], guard := none }) (v := .bool true) rfl (by kernel_rfl) (by kernel_rfl) (by kernel_rfl) (fun _ _ _ h => h) (Or.inl ⟨by rfl, fun w hSw => by (go_simp <;> rfl)⟩) hHeld ?_
      try simp only [Act.put, List.setIfInBounds_toArray, List.set_cons_zero, List.set_cons_succ]
      refine wpAnyH_take (i := 2) (oi := { dst := some 5, op := Op.move (Operand.tmp 4), type := 4, pos := "address.go:96", after := #[{ on := 1, ground := Ground.data }], guard := none }) (v := .bool true) rfl (by kernel_rfl) (by kernel_rfl) (by kernel_rfl) (fun _ _ _ h => h) (Or.inl ⟨by rfl, fun w hSw => by (go_simp <;> rfl)⟩) hHeld ?_
      try simp only [Act.put, List.setIfInBounds_toArray, List.set_cons_zero, List.set_cons_succ]
      refine wpAnyH_take (i := 5) (oi := { dst := some 8, op := Op.move (Operand.tmp 0), type := 9, pos := "address.go:96", after := #[{ on := 2, ground := Ground.guard }], guard := some (2, true) }) (v := .string s) rfl (by kernel_rfl) (by kernel_rfl) (by kernel_rfl) (fun _ _ _ h => h) (Or.inl ⟨by rfl, fun w hSw => by (go_simp <;> rfl)⟩) hHeld ?_
      try simp only [Act.put, List.setIfInBounds_toArray, List.set_cons_zero, List.set_cons_succ]
      refine wpAnyH_take (i := 6) (oi := { dst := some 9, op := Op.index 9 (Operand.tmp 8) (Operand.const (Value.int IntKind.i64 0)), type := 5, pos := "address.go:96", after := #[{ on := 5, ground := Ground.data }, { on := 2, ground := Ground.guard }], guard := some (2, true) }) (v := .int .u8 ((b.toNat : Nat) : Int)) rfl (by kernel_rfl) (by kernel_rfl) (by kernel_rfl) (fun _ _ _ h => h) (Or.inl ⟨by rfl, fun w hSw => by (go_simp; try rfl)⟩) hHeld ?_
      try simp only [Act.put, List.setIfInBounds_toArray, List.set_cons_zero, List.set_cons_succ]
      refine wpAnyH_ready (rs := [3]) (by kernel_rfl) (by simp) (AllReadyH.cons (o := { dst := some 6, op := Op.buildSlice 80 2 #[(0, Operand.const (Value.string { data := #[97, 98, 99, 100, 101, 102, 103, 104, 105, 106, 107, 108, 109, 110, 111, 112, 113, 114, 115, 116, 117, 118, 119, 120, 121, 122] })), (1, Operand.const (Value.string { data := #[65, 66, 67, 68, 69, 70, 71, 72, 73, 74, 75, 76, 77, 78, 79, 80, 81, 82, 83, 84, 85, 86, 87, 88, 89, 90] }))], type := 80, pos := "address.go:96", after := #[{ on := 2, ground := Ground.guard }], guard := some (2, true) }) rfl (fun K3 hK3 => ?_) AllReadyH.nil)
      go_simp
      refine hK3.out _ _ (below_al hHeld _ (Nat.le_refl _)) (fun hH5_3 => ?_)
      clear hK3 K3
      try simp only [Act.put, List.setIfInBounds_toArray, List.set_cons_zero, List.set_cons_succ]
      refine wpAnyH_ready (rs := [4]) (by kernel_rfl) (by simp) (AllReadyH.cons (o := { dst := some 7, op := Op.call { callee := Callee.value (Operand.func 39), args := #[Operand.tmp 6], argTypes := #[80] }, type := 60, pos := "address.go:96", after := #[{ on := 3, ground := Ground.data }, { on := 2, ground := Ground.chain }, { on := 2, ground := Ground.guard }], guard := some (2, true) }) rfl (fun K4 hK4 => ?_) AllReadyH.nil)
      go_simp
      refine (CM.out _ _ _ _ _ ⟨w, Below.refl _ _, rfl, .inr rfl⟩ (.inl ⟨rfl, rfl, rfl⟩)).mono ?_
      rintro e w4 ⟨rfl, hs4⟩
      refine hK4.out _ _ hs4 (fun hH6_4 => ?_)
      clear hK4 K4
      try simp only [Act.put, List.setIfInBounds_toArray, List.set_cons_zero, List.set_cons_succ]
      refine wpAnyH_ready (rs := [7]) (by kernel_rfl) (by simp) (AllReadyH.cons (o := { dst := some 10, op := Op.call { callee := Callee.value (Operand.func 49), args := #[Operand.tmp 7, Operand.tmp 9], argTypes := #[60, 5] }, type := 4, pos := "address.go:96", after := #[{ on := 4, ground := Ground.data }, { on := 6, ground := Ground.data }, { on := 4, ground := Ground.chain }, { on := 2, ground := Ground.guard }], guard := some (2, true) }) rfl (fun K7 hK7 => ?_) AllReadyH.nil)
      go_simp
      refine (CH.out _ hH6_4).mono ?_
      rintro e w7 ⟨rfl, hs7⟩
      refine hK7.out _ _ hs7 (fun hH7_7 => ?_)
      clear hK7 K7
      try simp only [Act.put, List.setIfInBounds_toArray, List.set_cons_zero, List.set_cons_succ]
      refine wpAnyH_take (i := 8) (oi := { dst := some 11, op := Op.pick (Operand.tmp 5) (Operand.tmp 10) (Operand.const (Value.bool false)), type := 4, pos := "address.go:96", after := #[{ on := 2, ground := Ground.data }, { on := 7, ground := Ground.data }], guard := none }) (v := .bool false) rfl (by kernel_rfl) (by kernel_rfl) (by kernel_rfl) (fun _ _ _ h => h) (Or.inl ⟨by rfl, fun w hSw => by (go_simp <;> rfl)⟩) hH7_7 ?_
      try simp only [Act.put, List.setIfInBounds_toArray, List.set_cons_zero, List.set_cons_succ]
      refine wpAnyH_take (i := 9) (oi := { dst := some 12, op := Op.move (Operand.tmp 11), type := 4, pos := "address.go:96", after := #[{ on := 8, ground := Ground.data }, { on := 7, ground := Ground.chain }], guard := none }) (v := .bool false) rfl (by kernel_rfl) (by kernel_rfl) (by kernel_rfl) (fun _ _ _ h => h) (Or.inl ⟨by rfl, fun w hSw => by (go_simp <;> rfl)⟩) hH7_7 ?_
      try simp only [Act.put, List.setIfInBounds_toArray, List.set_cons_zero, List.set_cons_succ]
      refine wpAnyH_take (i := 10) (oi := { dst := some 13, op := Op.move (Operand.tmp 0), type := 9, pos := "address.go:96", after := #[{ on := 9, ground := Ground.guard }], guard := some (9, true) }) (v := undef) rfl (by kernel_rfl) (by kernel_rfl) (by kernel_rfl) (fun _ _ _ h => h) (Or.inr ⟨by rfl, rfl⟩) hH7_7 ?_
      try simp only [Act.put, List.setIfInBounds_toArray, List.set_cons_zero, List.set_cons_succ]
      refine wpAnyH_take (i := 11) (oi := { dst := some 14, op := Op.buildSlice 80 4 #[(0, Operand.const (Value.string { data := #[97, 98, 99, 100, 101, 102, 103, 104, 105, 106, 107, 108, 109, 110, 111, 112, 113, 114, 115, 116, 117, 118, 119, 120, 121, 122] })), (1, Operand.const (Value.string { data := #[65, 66, 67, 68, 69, 70, 71, 72, 73, 74, 75, 76, 77, 78, 79, 80, 81, 82, 83, 84, 85, 86, 87, 88, 89, 90] })), (2, Operand.const (Value.string { data := #[48, 49, 50, 51, 52, 53, 54, 55, 56, 57] })), (3, Operand.const (Value.string { data := #[43, 45, 46] }))], type := 80, pos := "address.go:96", after := #[{ on := 9, ground := Ground.guard }], guard := some (9, true) }) (v := undef) rfl (by kernel_rfl) (by kernel_rfl) (by kernel_rfl) (fun _ _ _ h => h) (Or.inr ⟨by rfl, rfl⟩) hH7_7 ?_
      try simp only [Act.put, List.setIfInBounds_toArray, List.set_cons_zero, List.set_cons_succ]
      refine wpAnyH_take (i := 12) (oi := { dst := some 15, op := Op.call { callee := Callee.value (Operand.func 39), args := #[Operand.tmp 14], argTypes := #[80] }, type := 60, pos := "address.go:96", after := #[{ on := 11, ground := Ground.data }, { on := 9, ground := Ground.chain }, { on := 9, ground := Ground.guard }], guard := some (9, true) }) (v := undef) rfl (by kernel_rfl) (by kernel_rfl) (by kernel_rfl) (fun _ _ _ h => h) (Or.inr ⟨by rfl, rfl⟩) hH7_7 ?_
      try simp only [Act.put, List.setIfInBounds_toArray, List.set_cons_zero, List.set_cons_succ]
      refine wpAnyH_take (i := 13) (oi := { dst := some 16, op := Op.call { callee := Callee.value (Operand.func 38), args := #[Operand.tmp 13, Operand.tmp 15], argTypes := #[9, 60] }, type := 4, pos := "address.go:96", after := #[{ on := 10, ground := Ground.data }, { on := 12, ground := Ground.data }, { on := 12, ground := Ground.chain }, { on := 9, ground := Ground.guard }], guard := some (9, true) }) (v := undef) rfl (by kernel_rfl) (by kernel_rfl) (by kernel_rfl) (fun _ _ _ h => h) (Or.inr ⟨by rfl, rfl⟩) hH7_7 ?_
      try simp only [Act.put, List.setIfInBounds_toArray, List.set_cons_zero, List.set_cons_succ]
      refine wpAnyH_take (i := 14) (oi := { dst := some 17, op := Op.pick (Operand.tmp 12) (Operand.tmp 16) (Operand.const (Value.bool false)), type := 4, pos := "address.go:96", after := #[{ on := 9, ground := Ground.data }, { on := 13, ground := Ground.data }], guard := none }) (v := .bool false) rfl (by kernel_rfl) (by kernel_rfl) (by kernel_rfl) (fun _ _ _ h => h) (Or.inl ⟨by rfl, fun w hSw => by (go_simp <;> rfl)⟩) hH7_7 ?_
      try simp only [Act.put, List.setIfInBounds_toArray, List.set_cons_zero, List.set_cons_succ]
      refine wpAnyH_take (i := 15) (oi := { dst := some 2, op := Op.assign (Operand.tmp 17), type := 4, pos := "address.go:96", after := #[{ on := 14, ground := Ground.data }, { on := 13, ground := Ground.chain }, { on := 0, ground := Ground.phase }, { on := 1, ground := Ground.phase }, { on := 2, ground := Ground.phase }, { on := 3, ground := Ground.phase }, { on := 4, ground := Ground.phase }, { on := 5, ground := Ground.phase }, { on := 6, ground := Ground.phase }, { on := 7, ground := Ground.phase }, { on := 8, ground := Ground.phase }, { on := 9, ground := Ground.phase }, { on := 10, ground := Ground.phase }, { on := 11, ground := Ground.phase }, { on := 12, ground := Ground.phase }, { on := 13, ground := Ground.phase }, { on := 14, ground := Ground.phase }], guard := none }) (v := .bool false) rfl (by kernel_rfl) (by kernel_rfl) (by kernel_rfl) (fun _ _ _ h => h) (Or.inl ⟨by rfl, fun w hSw => by (go_simp <;> rfl)⟩) hH7_7 ?_
      try simp only [Act.put, List.setIfInBounds_toArray, List.set_cons_zero, List.set_cons_succ]
      refine wpAnyH_done (by kernel_rfl) ?_ _
      have HL := Lib.hid hH7_7
      go_wp2_with fail
      go_ret
      exact ⟨rbool HRR.out.symm, HL.out⟩
theorem del_set (x : ByteArray) (b : UInt8) : (flat (base4 ++ (base1 ++ [x]))).contains b = mayB x.data.toList b := by
  rw [flat_app, flat_app, flat_base4, flat_base1, ← List.append_assoc, show flat [x] = x.data.toList by simp [flat]]
  exact may_set _ b
theorem del_set0 (b : UInt8) : (flat (base4 ++ base1)).contains b = mayB [] b := by
  rw [flat_app, flat_base4, flat_base1]
  have := may_set [] b
  rwa [List.append_nil] at this
set_option maxRecDepth 20000 in
set_option maxHeartbeats 2000000 in
theorem isPath_any (s : ByteArray) (hs : s.size ≤ 1000000) (w : World) : Calls Tryd.prog 40 #[.string s] w fun e w' => e = .returned (.bool (pathP s.data.toList)) ∧ Below w.heap.size w w' := by
  have hSS : Below w.heap.size w w.drew := (Below.refl _ _).drew
  by_cases h0 : s.size = 0
  · have hnil : s.toList = [] := by rw [ByteArray.toList_eq, text_nil h0]
    have HPF : Hid (pathP s.data.toList = true) := Lib.hid (by rw [text_nil h0]; rfl)
    clear h0 hs
    go_enter Tryd.func40, Tryd.ntmps40
    go_wp2_with fail
    go_ret
    exact ⟨rbool HPF.out.symm, Below.refl _ _⟩
  · have hpos : 0 < s.size := by omega
    have hne := text_ne hpos
    have hie : s.toList.isEmpty = false := by cases e : s.toList with
      | nil => exact absurd e hne
      | cons _ _ => rfl
    have HP : Hid (pathP s.data.toList = (s[0] == 47 && ofP (mayB [58, 64, 47]) s.data.toList)) := Lib.hid (by
      have := drop_at s 0 hpos
      rw [List.drop_zero] at this
      rw [this]; rfl)
    have M1 := Lib.hid (fun W => del_lit #[.string ⟨#[58, 64, 47]⟩] [⟨#[58, 64, 47]⟩] rfl (by decide) (by decide) (by decide) W)
    have IOF := Lib.hid (fun W => isOf_any s (flat (base4 ++ (base1 ++ [⟨#[58, 64, 47]⟩]))) (mayB [58, 64, 47]) (del_set ⟨#[58, 64, 47]⟩) hs W)
    unfold setV setC at M1 IOF
    obtain ⟨a0, ha0⟩ : ∃ a : Int, a = ((wd (flat (base4 ++ (base1 ++ [⟨#[58, 64, 47]⟩]))) 0 : Nat) : Int) := ⟨_, rfl⟩
    obtain ⟨a1, ha1⟩ : ∃ a : Int, a = ((wd (flat (base4 ++ (base1 ++ [⟨#[58, 64, 47]⟩]))) 1 : Nat) : Int) := ⟨_, rfl⟩
    obtain ⟨a2, ha2⟩ : ∃ a : Int, a = ((wd (flat (base4 ++ (base1 ++ [⟨#[58, 64, 47]⟩]))) 2 : Nat) : Int) := ⟨_, rfl⟩
    obtain ⟨a3, ha3⟩ : ∃ a : Int, a = ((wd (flat (base4 ++ (base1 ++ [⟨#[58, 64, 47]⟩]))) 3 : Nat) : Int) := ⟨_, rfl⟩
    rw [← ha0, ← ha1, ← ha2, ← ha3] at M1 IOF
    clear ha0 ha1 ha2 ha3
    obtain ⟨b, hb⟩ : ∃ b, b = s[0] := ⟨_, rfl⟩
    rw [← hb] at HP
    have k0 : ∀ q : 0 < s.size, (s[0].toNat : Int) = (b.toNat : Nat) := fun q => by rw [hb]
    clear hb
    have C1 : Hid (∀ W, Below w.heap.size w W → Calls Tryd.prog 37 #[.slice (some ⟨W.heap.size, 0, none⟩) 1 1] (W.alloc (.cells #[.string ⟨#[58, 64, 47]⟩] 9)) fun e w' => e = .returned (.agg #[.int .u64 a0, .int .u64 a1, .int .u64 a2, .int .u64 a3]) ∧ Below w.heap.size w w') :=
      Lib.hid (fun W h => (M1.out W).mono fun e w' z => ⟨z.1, h.trans (z.2.mono h.size)⟩)
    have CP : Hid (∀ W, Below w.heap.size w W → Calls Tryd.prog 36 #[.string s, (.agg #[.int .u64 a0, .int .u64 a1, .int .u64 a2, .int .u64 a3])] W fun e w' => e = .returned (.bool (ofP (mayB [58, 64, 47]) s.data.toList)) ∧ Below w.heap.size w w') :=
      Lib.hid (fun W h => (IOF.out W).mono fun e w' z => ⟨z.1, h.trans (z.2.mono h.size)⟩)
    obtain ⟨r, hr⟩ : ∃ g, g = ofP (mayB [58, 64, 47]) s.data.toList := ⟨_, rfl⟩
    rw [← hr] at CP HP
    clear hr M1 IOF
    by_cases h47 : b.toNat = 47
    · have h47' : (b.toNat : Int) = 47 := by omega
      have e47 : (b == 47) = true := by rw [beq_iff_eq]; exact UInt8.toNat_inj.1 h47
      rw [e47, Bool.true_and] at HP
      clear e47 h47
      go_enter Tryd.func40, Tryd.ntmps40
      go_wp2_with fail
      refine (C1.out w (Below.refl _ _)).mono ?_
      rintro e w1 ⟨rfl, b1⟩
      go_wp2_with fail
      refine (CP.out _ b1).mono ?_
      rintro e w2 ⟨rfl, b2⟩
      go_wp2_with fail
      go_ret
      exact ⟨rbool HP.out.symm, b2⟩
    · have h47' : ¬ (b.toNat : Int) = 47 := by omega
      have e47 : (b == 47) = false := by rw [beq_eq_false_iff_ne]; intro e; exact h47 (by rw [e]; rfl)
      rw [e47, Bool.false_and] at HP
      clear e47 h47
      go_enter Tryd.func40, Tryd.ntmps40
      go_wp2_with fail
      go_ret
      exact ⟨rbool HP.out.symm, Below.refl _ _⟩
/-- The text of parts. -/
def joinT (s u h p a q : ByteArray) (hu hq : Bool) : ByteArray :=
  let o := s ++ ⟨#[58, 47, 47]⟩
  let o := if hu then o ++ (u ++ ⟨#[64]⟩) else o
  let o := o ++ h
  let o := if p.size = 0 then o else o ++ (⟨#[58]⟩ ++ p)
  let o := o ++ a
  if hq then o ++ (⟨#[63]⟩ ++ q) else o
/-- The value of parts. -/
def adV (s u h p a q : ByteArray) (hu hq : Bool) : Value := (.agg #[.string s, .string u, .string h, .string p, .string a, .string q, .bool hu, .bool hq])
set_option maxRecDepth 20000 in
set_option maxHeartbeats 2000000 in
theorem join_any (s u h p a q : ByteArray) (hu hq : Bool) (hs : s.size ≤ 1000000) (hu1 : u.size ≤ 1000000) (hh : h.size ≤ 1000000) (hp : p.size ≤ 1000000) (ha : a.size ≤ 1000000) (hq1 : q.size ≤ 1000000) (w : World) :
    Calls Tryd.prog 26 #[adV s u h p a q hu hq] w fun e w' => e = .returned (.string (joinT s u h p a q hu hq)) ∧ Below w.heap.size w w' := by
  unfold adV
  by_cases hp0 : p.size = 0
  · have hnil : p.toList = [] := by rw [ByteArray.toList_eq, text_nil hp0]
    cases hu with
    | false =>
      cases hq with
      | false =>
        have f0 : ¬ (9223372036854775807 < s.size + 3) := by omega
        have f1 : ¬ (9223372036854775807 < s.size + 3 + h.size) := by omega
        have f2 : ¬ (9223372036854775807 < s.size + 3 + h.size + a.size) := by omega
        have HJ : Hid (joinT s u h p a q false false = _) := Lib.hid (by unfold joinT; simp only [hp0, if_true, if_false, Bool.false_eq_true]; rfl)
        clear hs hu1 hh hp ha hq1 hp0
        go_enter Tryd.func26, Tryd.ntmps26
        go_wp2_with fail
        go_ret
        exact ⟨by rw [HJ.out]; rfl, (Below.refl _ w).alloc (Nat.le_refl _) _⟩
      | true =>
        have f0 : ¬ (9223372036854775807 < s.size + 3) := by omega
        have f1 : ¬ (9223372036854775807 < s.size + 3 + h.size) := by omega
        have f2 : ¬ (9223372036854775807 < s.size + 3 + h.size + a.size) := by omega
        have f3 : ¬ (9223372036854775807 < 1 + q.size) := by omega
        have f4 : ¬ (9223372036854775807 < s.size + 3 + h.size + a.size + (1 + q.size)) := by omega
        have HJ : Hid (joinT s u h p a q false true = _) := Lib.hid (by unfold joinT; simp only [hp0, if_true, if_false, Bool.false_eq_true]; rfl)
        clear hs hu1 hh hp ha hq1 hp0
        go_enter Tryd.func26, Tryd.ntmps26
        go_wp2_with fail
        go_ret
        exact ⟨by rw [HJ.out]; rfl, (Below.refl _ w).alloc (Nat.le_refl _) _⟩
    | true =>
      cases hq with
      | false =>
        have f0 : ¬ (9223372036854775807 < s.size + 3) := by omega
        have f1 : ¬ (9223372036854775807 < u.size + 1) := by omega
        have f2 : ¬ (9223372036854775807 < s.size + 3 + (u.size + 1)) := by omega
        have f3 : ¬ (9223372036854775807 < s.size + 3 + (u.size + 1) + h.size) := by omega
        have f4 : ¬ (9223372036854775807 < s.size + 3 + (u.size + 1) + h.size + a.size) := by omega
        have HJ : Hid (joinT s u h p a q true false = _) := Lib.hid (by unfold joinT; simp only [hp0, if_true, if_false, Bool.false_eq_true]; rfl)
        clear hs hu1 hh hp ha hq1 hp0
        go_enter Tryd.func26, Tryd.ntmps26
        go_wp2_with fail
        go_ret
        exact ⟨by rw [HJ.out]; rfl, (Below.refl _ w).alloc (Nat.le_refl _) _⟩
      | true =>
        have f0 : ¬ (9223372036854775807 < s.size + 3) := by omega
        have f1 : ¬ (9223372036854775807 < u.size + 1) := by omega
        have f2 : ¬ (9223372036854775807 < s.size + 3 + (u.size + 1)) := by omega
        have f3 : ¬ (9223372036854775807 < s.size + 3 + (u.size + 1) + h.size) := by omega
        have f4 : ¬ (9223372036854775807 < s.size + 3 + (u.size + 1) + h.size + a.size) := by omega
        have f5 : ¬ (9223372036854775807 < 1 + q.size) := by omega
        have f6 : ¬ (9223372036854775807 < s.size + 3 + (u.size + 1) + h.size + a.size + (1 + q.size)) := by omega
        have HJ : Hid (joinT s u h p a q true true = _) := Lib.hid (by unfold joinT; simp only [hp0, if_true, if_false, Bool.false_eq_true]; rfl)
        clear hs hu1 hh hp ha hq1 hp0
        go_enter Tryd.func26, Tryd.ntmps26
        go_wp2_with fail
        go_ret
        exact ⟨by rw [HJ.out]; rfl, (Below.refl _ w).alloc (Nat.le_refl _) _⟩
  · have hpos : 0 < p.size := by omega
    have hne := text_ne hpos
    have hie : p.toList.isEmpty = false := by cases e : p.toList with
      | nil => exact absurd e hne
      | cons _ _ => rfl
    cases hu with
    | false =>
      cases hq with
      | false =>
        have f0 : ¬ (9223372036854775807 < s.size + 3) := by omega
        have f1 : ¬ (9223372036854775807 < s.size + 3 + h.size) := by omega
        have f2 : ¬ (9223372036854775807 < 1 + p.size) := by omega
        have f3 : ¬ (9223372036854775807 < s.size + 3 + h.size + (1 + p.size)) := by omega
        have f4 : ¬ (9223372036854775807 < s.size + 3 + h.size + (1 + p.size) + a.size) := by omega
        have HJ : Hid (joinT s u h p a q false false = _) := Lib.hid (by unfold joinT; simp only [hp0, if_true, if_false, Bool.false_eq_true]; rfl)
        clear hs hu1 hh hp ha hq1 hp0
        go_enter Tryd.func26, Tryd.ntmps26
        go_wp2_with fail
        go_ret
        exact ⟨by rw [HJ.out]; rfl, (Below.refl _ w).alloc (Nat.le_refl _) _⟩
      | true =>
        have f0 : ¬ (9223372036854775807 < s.size + 3) := by omega
        have f1 : ¬ (9223372036854775807 < s.size + 3 + h.size) := by omega
        have f2 : ¬ (9223372036854775807 < 1 + p.size) := by omega
        have f3 : ¬ (9223372036854775807 < s.size + 3 + h.size + (1 + p.size)) := by omega
        have f4 : ¬ (9223372036854775807 < s.size + 3 + h.size + (1 + p.size) + a.size) := by omega
        have f5 : ¬ (9223372036854775807 < 1 + q.size) := by omega
        have f6 : ¬ (9223372036854775807 < s.size + 3 + h.size + (1 + p.size) + a.size + (1 + q.size)) := by omega
        have HJ : Hid (joinT s u h p a q false true = _) := Lib.hid (by unfold joinT; simp only [hp0, if_true, if_false, Bool.false_eq_true]; rfl)
        clear hs hu1 hh hp ha hq1 hp0
        go_enter Tryd.func26, Tryd.ntmps26
        go_wp2_with fail
        go_ret
        exact ⟨by rw [HJ.out]; rfl, (Below.refl _ w).alloc (Nat.le_refl _) _⟩
    | true =>
      cases hq with
      | false =>
        have f0 : ¬ (9223372036854775807 < s.size + 3) := by omega
        have f1 : ¬ (9223372036854775807 < u.size + 1) := by omega
        have f2 : ¬ (9223372036854775807 < s.size + 3 + (u.size + 1)) := by omega
        have f3 : ¬ (9223372036854775807 < s.size + 3 + (u.size + 1) + h.size) := by omega
        have f4 : ¬ (9223372036854775807 < 1 + p.size) := by omega
        have f5 : ¬ (9223372036854775807 < s.size + 3 + (u.size + 1) + h.size + (1 + p.size)) := by omega
        have f6 : ¬ (9223372036854775807 < s.size + 3 + (u.size + 1) + h.size + (1 + p.size) + a.size) := by omega
        have HJ : Hid (joinT s u h p a q true false = _) := Lib.hid (by unfold joinT; simp only [hp0, if_true, if_false, Bool.false_eq_true]; rfl)
        clear hs hu1 hh hp ha hq1 hp0
        go_enter Tryd.func26, Tryd.ntmps26
        go_wp2_with fail
        go_ret
        exact ⟨by rw [HJ.out]; rfl, (Below.refl _ w).alloc (Nat.le_refl _) _⟩
      | true =>
        have f0 : ¬ (9223372036854775807 < s.size + 3) := by omega
        have f1 : ¬ (9223372036854775807 < u.size + 1) := by omega
        have f2 : ¬ (9223372036854775807 < s.size + 3 + (u.size + 1)) := by omega
        have f3 : ¬ (9223372036854775807 < s.size + 3 + (u.size + 1) + h.size) := by omega
        have f4 : ¬ (9223372036854775807 < 1 + p.size) := by omega
        have f5 : ¬ (9223372036854775807 < s.size + 3 + (u.size + 1) + h.size + (1 + p.size)) := by omega
        have f6 : ¬ (9223372036854775807 < s.size + 3 + (u.size + 1) + h.size + (1 + p.size) + a.size) := by omega
        have f7 : ¬ (9223372036854775807 < 1 + q.size) := by omega
        have f8 : ¬ (9223372036854775807 < s.size + 3 + (u.size + 1) + h.size + (1 + p.size) + a.size + (1 + q.size)) := by omega
        have HJ : Hid (joinT s u h p a q true true = _) := Lib.hid (by unfold joinT; simp only [hp0, if_true, if_false, Bool.false_eq_true]; rfl)
        clear hs hu1 hh hp ha hq1 hp0
        go_enter Tryd.func26, Tryd.ntmps26
        go_wp2_with fail
        go_ret
        exact ⟨by rw [HJ.out]; rfl, (Below.refl _ w).alloc (Nat.le_refl _) _⟩
set_option maxRecDepth 20000 in
set_option maxHeartbeats 2000000 in
theorem tell_any (s u h p a q : ByteArray) (hu hq : Bool) (hs : s.size ≤ 1000000) (hu1 : u.size ≤ 1000000) (hh : h.size ≤ 1000000) (hp : p.size ≤ 1000000) (ha : a.size ≤ 1000000) (hq1 : q.size ≤ 1000000) (w : World) :
    Calls Tryd.prog 27 #[adV s u h p a q hu hq] w fun e w' => e = .returned (.string (joinT s u h p a q hu hq)) ∧ Below w.heap.size w w' := by
  unfold adV
  by_cases hp0 : p.size = 0
  · have hnil : p.toList = [] := by rw [ByteArray.toList_eq, text_nil hp0]
    cases hu with
    | false =>
      cases hq with
      | false =>
        have f0 : ¬ (9223372036854775807 < s.size + 3) := by omega
        have f1 : ¬ (9223372036854775807 < s.size + 3 + h.size) := by omega
        have f2 : ¬ (9223372036854775807 < s.size + 3 + h.size + a.size) := by omega
        have HJ : Hid (joinT s u h p a q false false = _) := Lib.hid (by unfold joinT; simp only [hp0, if_true, if_false, Bool.false_eq_true]; rfl)
        clear hs hu1 hh hp ha hq1 hp0
        go_enter Tryd.func27, Tryd.ntmps27
        go_wp2_with fail
        go_ret
        exact ⟨by rw [HJ.out]; rfl, (Below.refl _ w).alloc (Nat.le_refl _) _⟩
      | true =>
        have f0 : ¬ (9223372036854775807 < s.size + 3) := by omega
        have f1 : ¬ (9223372036854775807 < s.size + 3 + h.size) := by omega
        have f2 : ¬ (9223372036854775807 < s.size + 3 + h.size + a.size) := by omega
        have f3 : ¬ (9223372036854775807 < 1 + q.size) := by omega
        have f4 : ¬ (9223372036854775807 < s.size + 3 + h.size + a.size + (1 + q.size)) := by omega
        have HJ : Hid (joinT s u h p a q false true = _) := Lib.hid (by unfold joinT; simp only [hp0, if_true, if_false, Bool.false_eq_true]; rfl)
        clear hs hu1 hh hp ha hq1 hp0
        go_enter Tryd.func27, Tryd.ntmps27
        go_wp2_with fail
        go_ret
        exact ⟨by rw [HJ.out]; rfl, (Below.refl _ w).alloc (Nat.le_refl _) _⟩
    | true =>
      cases hq with
      | false =>
        have f0 : ¬ (9223372036854775807 < s.size + 3) := by omega
        have f1 : ¬ (9223372036854775807 < u.size + 1) := by omega
        have f2 : ¬ (9223372036854775807 < s.size + 3 + (u.size + 1)) := by omega
        have f3 : ¬ (9223372036854775807 < s.size + 3 + (u.size + 1) + h.size) := by omega
        have f4 : ¬ (9223372036854775807 < s.size + 3 + (u.size + 1) + h.size + a.size) := by omega
        have HJ : Hid (joinT s u h p a q true false = _) := Lib.hid (by unfold joinT; simp only [hp0, if_true, if_false, Bool.false_eq_true]; rfl)
        clear hs hu1 hh hp ha hq1 hp0
        go_enter Tryd.func27, Tryd.ntmps27
        go_wp2_with fail
        go_ret
        exact ⟨by rw [HJ.out]; rfl, (Below.refl _ w).alloc (Nat.le_refl _) _⟩
      | true =>
        have f0 : ¬ (9223372036854775807 < s.size + 3) := by omega
        have f1 : ¬ (9223372036854775807 < u.size + 1) := by omega
        have f2 : ¬ (9223372036854775807 < s.size + 3 + (u.size + 1)) := by omega
        have f3 : ¬ (9223372036854775807 < s.size + 3 + (u.size + 1) + h.size) := by omega
        have f4 : ¬ (9223372036854775807 < s.size + 3 + (u.size + 1) + h.size + a.size) := by omega
        have f5 : ¬ (9223372036854775807 < 1 + q.size) := by omega
        have f6 : ¬ (9223372036854775807 < s.size + 3 + (u.size + 1) + h.size + a.size + (1 + q.size)) := by omega
        have HJ : Hid (joinT s u h p a q true true = _) := Lib.hid (by unfold joinT; simp only [hp0, if_true, if_false, Bool.false_eq_true]; rfl)
        clear hs hu1 hh hp ha hq1 hp0
        go_enter Tryd.func27, Tryd.ntmps27
        go_wp2_with fail
        go_ret
        exact ⟨by rw [HJ.out]; rfl, (Below.refl _ w).alloc (Nat.le_refl _) _⟩
  · have hpos : 0 < p.size := by omega
    have hne := text_ne hpos
    have hie : p.toList.isEmpty = false := by cases e : p.toList with
      | nil => exact absurd e hne
      | cons _ _ => rfl
    cases hu with
    | false =>
      cases hq with
      | false =>
        have f0 : ¬ (9223372036854775807 < s.size + 3) := by omega
        have f1 : ¬ (9223372036854775807 < s.size + 3 + h.size) := by omega
        have f2 : ¬ (9223372036854775807 < 1 + p.size) := by omega
        have f3 : ¬ (9223372036854775807 < s.size + 3 + h.size + (1 + p.size)) := by omega
        have f4 : ¬ (9223372036854775807 < s.size + 3 + h.size + (1 + p.size) + a.size) := by omega
        have HJ : Hid (joinT s u h p a q false false = _) := Lib.hid (by unfold joinT; simp only [hp0, if_true, if_false, Bool.false_eq_true]; rfl)
        clear hs hu1 hh hp ha hq1 hp0
        go_enter Tryd.func27, Tryd.ntmps27
        go_wp2_with fail
        go_ret
        exact ⟨by rw [HJ.out]; rfl, (Below.refl _ w).alloc (Nat.le_refl _) _⟩
      | true =>
        have f0 : ¬ (9223372036854775807 < s.size + 3) := by omega
        have f1 : ¬ (9223372036854775807 < s.size + 3 + h.size) := by omega
        have f2 : ¬ (9223372036854775807 < 1 + p.size) := by omega
        have f3 : ¬ (9223372036854775807 < s.size + 3 + h.size + (1 + p.size)) := by omega
        have f4 : ¬ (9223372036854775807 < s.size + 3 + h.size + (1 + p.size) + a.size) := by omega
        have f5 : ¬ (9223372036854775807 < 1 + q.size) := by omega
        have f6 : ¬ (9223372036854775807 < s.size + 3 + h.size + (1 + p.size) + a.size + (1 + q.size)) := by omega
        have HJ : Hid (joinT s u h p a q false true = _) := Lib.hid (by unfold joinT; simp only [hp0, if_true, if_false, Bool.false_eq_true]; rfl)
        clear hs hu1 hh hp ha hq1 hp0
        go_enter Tryd.func27, Tryd.ntmps27
        go_wp2_with fail
        go_ret
        exact ⟨by rw [HJ.out]; rfl, (Below.refl _ w).alloc (Nat.le_refl _) _⟩
    | true =>
      cases hq with
      | false =>
        have f0 : ¬ (9223372036854775807 < s.size + 3) := by omega
        have f1 : ¬ (9223372036854775807 < u.size + 1) := by omega
        have f2 : ¬ (9223372036854775807 < s.size + 3 + (u.size + 1)) := by omega
        have f3 : ¬ (9223372036854775807 < s.size + 3 + (u.size + 1) + h.size) := by omega
        have f4 : ¬ (9223372036854775807 < 1 + p.size) := by omega
        have f5 : ¬ (9223372036854775807 < s.size + 3 + (u.size + 1) + h.size + (1 + p.size)) := by omega
        have f6 : ¬ (9223372036854775807 < s.size + 3 + (u.size + 1) + h.size + (1 + p.size) + a.size) := by omega
        have HJ : Hid (joinT s u h p a q true false = _) := Lib.hid (by unfold joinT; simp only [hp0, if_true, if_false, Bool.false_eq_true]; rfl)
        clear hs hu1 hh hp ha hq1 hp0
        go_enter Tryd.func27, Tryd.ntmps27
        go_wp2_with fail
        go_ret
        exact ⟨by rw [HJ.out]; rfl, (Below.refl _ w).alloc (Nat.le_refl _) _⟩
      | true =>
        have f0 : ¬ (9223372036854775807 < s.size + 3) := by omega
        have f1 : ¬ (9223372036854775807 < u.size + 1) := by omega
        have f2 : ¬ (9223372036854775807 < s.size + 3 + (u.size + 1)) := by omega
        have f3 : ¬ (9223372036854775807 < s.size + 3 + (u.size + 1) + h.size) := by omega
        have f4 : ¬ (9223372036854775807 < 1 + p.size) := by omega
        have f5 : ¬ (9223372036854775807 < s.size + 3 + (u.size + 1) + h.size + (1 + p.size)) := by omega
        have f6 : ¬ (9223372036854775807 < s.size + 3 + (u.size + 1) + h.size + (1 + p.size) + a.size) := by omega
        have f7 : ¬ (9223372036854775807 < 1 + q.size) := by omega
        have f8 : ¬ (9223372036854775807 < s.size + 3 + (u.size + 1) + h.size + (1 + p.size) + a.size + (1 + q.size)) := by omega
        have HJ : Hid (joinT s u h p a q true true = _) := Lib.hid (by unfold joinT; simp only [hp0, if_true, if_false, Bool.false_eq_true]; rfl)
        clear hs hu1 hh hp ha hq1 hp0
        go_enter Tryd.func27, Tryd.ntmps27
        go_wp2_with fail
        go_ret
        exact ⟨by rw [HJ.out]; rfl, (Below.refl _ w).alloc (Nat.le_refl _) _⟩
end Go.Proofs.YtjcaadihkbhlhaaDoor

import Derived.Test.YtfphejndbnmfeaaDoorU18
import Derived.Deep.RegionHeld3
namespace Go.Proofs.YtfphejndbnmfeaaDoor
open Go.RowKit

theorem range_arr5 {w : World} {b : Nat} {L : List Int} (h : Arr w b L) (hl : L.length = 16) : w.rangeAt b 0 (arC L).toList := by
  intro j v hv
  have hj : j < 16 := by
    have := (List.getElem?_eq_some_iff.1 hv).1
    simp [arC_size, hl] at this; exact this
  have e : (arC L)[j]? = some v := by simpa using hv
  rw [arC_at (by omega)] at e
  rw [Nat.zero_add, h.2 j hj, e]
theorem range_below5 {w w' : World} {b o : Nat} {cs : List Value} {B : Nat} (h : w.rangeAt b o cs) (hb : Below B w w') (hB : b < B) : w'.rangeAt b o cs :=
  fun j v hv => (hb.cell (p := ⟨b, o + j, none⟩) hB).trans (h j v hv)
/-- What is held while the last line is worked out. -/
def Rest5 (w0 w : World) (b1 b2 : Nat) : Prop := Prt w ∧ Below w0.heap.size w0 w ∧ w0.heap.size + 1 < w.heap.size ∧ b1 < w.heap.size ∧ b2 < w.heap.size
def Held5 (A B X : List Int) (w0 : World) (b1 b2 : Nat) (w : World) : Prop := w.rangeAt w0.heap.size 0 (arC A).toList ∧ w.rangeAt (w0.heap.size + 1) 0 (arC B).toList ∧ w.rangeAt b1 0 (arC X).toList ∧ w.rangeAt b2 0 (arC X).toList ∧ Rest5 w0 w b1 b2
theorem Held5.up {A B X : List Int} {w0 w w' : World} {b1 b2 : Nat} (h : Held5 A B X w0 b1 b2 w) (hb : Below w.heap.size w w') : Held5 A B X w0 b1 b2 w' := by
  obtain ⟨r1, r2, r3, r4, hp, h0, h1, h2, h3⟩ := h
  have hz := hb.size
  exact ⟨range_below5 r1 hb (by omega), range_below5 r2 hb (by omega), range_below5 r3 hb h2, range_below5 r4 hb h3, hp.below hb hp.1, h0.trans (hb.mono h0.size), by omega, by omega, by omega⟩
theorem text5 (A B X : List Int) (hl : A.length = 16) (ho : okB A) (w0 : World) (b1 b2 : Nat) (w : World) (hs : Held5 A B X w0 b1 b2 w) :
    Calls Tryd.prog 34 #[.agg (arC A)] w fun e w' => e = .returned (.string (txS A)) ∧ Held5 A B X w0 b1 b2 w' :=
  (text_any A hl ho w hs.2.2.2.2.1).mono fun _ _ h => ⟨h.1, hs.up h.2⟩
theorem rtext5 (A B X : List Int) (hl : A.length = 16) (ho : okB A) (w0 : World) (b1 b2 : Nat) (w : World) (hs : Held5 A B X w0 b1 b2 w) :
    Calls Tryd.prog 35 #[.agg (arC A)] w fun e w' => e = .returned (.string (txS A)) ∧ Held5 A B X w0 b1 b2 w' :=
  (rtext_any A hl ho w).mono fun _ _ h => ⟨h.1, hs.up h.2⟩
theorem comp5 (A B X : List Int) (hl : A.length = 16) (hb : B.length = 16) (w0 : World) (b1 b2 : Nat) (w : World) (hs : Held5 A B X w0 b1 b2 w) :
    Calls Tryd.prog 36 #[.agg (arC A), .agg (arC B)] w fun e w' => e = .returned (.int .i64 (cmpA A B)) ∧ Held5 A B X w0 b1 b2 w' :=
  (compare_any A B hl hb w).mono fun _ _ h => ⟨h.1, hs.up h.2⟩
theorem rcomp5 (A B X : List Int) (hl : A.length = 16) (hb : B.length = 16) (w0 : World) (b1 b2 : Nat) (w : World) (hs : Held5 A B X w0 b1 b2 w) :
    Calls Tryd.prog 37 #[.agg (arC A), .agg (arC B)] w fun e w' => e = .returned (.int .i64 (cmpA A B)) ∧ Held5 A B X w0 b1 b2 w' :=
  (rcompare_any A B hl hb w).mono fun _ _ h => ⟨h.1, hs.up h.2⟩
theorem eq_self (X : List Int) (h : X.length = 16) (w : World) : (Op.equalIn 10000 50 (.agg (arC X)) (.agg (arC X))).run Tryd.prog w = .ok true w := by
  have e := eq_arr (arC X) (arC X) (fun i => X.getD i 0) (fun i => X.getD i 0) (fun i hi => arC_at (by omega)) (fun i hi => arC_at (by omega)) w
  rw [e, show (List.range 16).all (fun i => X.getD i 0 == X.getD i 0) = true from List.all_eq_true.2 (fun i _ => beq_self_eq_true _)]
set_option maxRecDepth 10000 in
set_option maxHeartbeats 20000000 in
theorem tells_walk (s : ByteArray) (A B : List Int) (w : World) (hp : Prt w) (lA : A.length = 16) (oA : okB A) (lB : B.length = 16) :
    Calls Tryd.prog 11 #[.string s, arV A, arV B] w fun e w' => e = .returned (.bool true) ∧ Below w.heap.size w w' := by
  have HP := Lib.hid hp
  have sA : (arC A).size = 16 := by rw [arC_size, lA]
  have sB : (arC B).size = 16 := by rw [arC_size, lB]
  have HLA := Lib.hid lA
  have HOA := Lib.hid oA
  have HLB := Lib.hid lB
  have hA : Arr ((w.alloc (.cells (arC A) 50)).alloc (.cells (arC B) 50)) w.heap.size A := (arr_new w A 50 lA).alloc _
  have hB : Arr ((w.alloc (.cells (arC A) 50)).alloc (.cells (arC B) 50)) (w.heap.size + 1) B := by
    have := arr_new (w.alloc (.cells (arC A) 50)) B 50 lB
    simpa using this
  have hB0 : Below w.heap.size w ((w.alloc (.cells (arC A) 50)).alloc (.cells (arC B) 50)) := ((Below.refl _ w).alloc (Nat.le_refl _) _).alloc (by simp) _
  have HA0 := Lib.hid hA
  have HB0 := Lib.hid hB
  have HBL0 := Lib.hid hB0
  clear hp lA oA lB hA hB hB0
  have hXl := upL_length s
  obtain ⟨X, hX⟩ : ∃ X, X = upL s := ⟨_, rfl⟩
  rw [← hX] at hXl
  have HX := Lib.hid hX
  have sX : (arC X).size = 16 := by rw [arC_size, hXl]
  have hst := fun w => store_new w X hXl
  have HXL := Lib.hid hXl
  clear hX hXl
  unfold arV
  go_enter Tryd.func11, Tryd.ntmps11
  go_wp2_with fail
  refine (parse_any s _).mono ?_
  rintro e w1 ⟨rfl, b1⟩
  rw [← HX.out]
  have HA1 : Hid (Arr w1 w.heap.size A) := Lib.hid (HA0.out.below b1 HA0.out.1)
  have HB1 : Hid (Arr w1 (w.heap.size + 1) B) := Lib.hid (HB0.out.below b1 HB0.out.1)
  have HBL1 : Hid (Below w.heap.size w w1) := Lib.hid (HBL0.out.trans (b1.mono HBL0.out.size))
  clear b1
  obtain ⟨E, hE⟩ : ∃ E, E = upE s := ⟨_, rfl⟩
  have HE := Lib.hid hE
  rw [← hE]
  clear hE
  unfold arV
  go_wp2_with fail
  have HX1 : Hid (Arr (w1.alloc (.cells (arC X) 50)) w1.heap.size X) := Lib.hid (arr_new w1 X 50 HXL.out)
  have HA1b : Hid (Arr (w1.alloc (.cells (arC X) 50)) w.heap.size A) := Lib.hid (HA1.out.alloc _)
  have HB1b : Hid (Arr (w1.alloc (.cells (arC X) 50)) (w.heap.size + 1) B) := Lib.hid (HB1.out.alloc _)
  have HBL1b : Hid (Below w.heap.size w (w1.alloc (.cells (arC X) 50))) := Lib.hid (HBL1.out.alloc HBL1.out.size _)
  refine (rparse_any s _).mono ?_
  rintro e w2 ⟨rfl, b2⟩
  rw [← HX.out, ← HE.out]
  have HX2 : Hid (Arr w2 w1.heap.size X) := Lib.hid (HX1.out.below b2 HX1.out.1)
  have HA2 : Hid (Arr w2 w.heap.size A) := Lib.hid (HA1b.out.below b2 HA1b.out.1)
  have HB2 : Hid (Arr w2 (w.heap.size + 1) B) := Lib.hid (HB1b.out.below b2 HB1b.out.1)
  have HBL2 : Hid (Below w.heap.size w w2) := Lib.hid (HBL1b.out.trans (b2.mono HBL1b.out.size))
  clear b2
  unfold arV
  go_wp2_with fail
  have HY2 : Hid (Arr (w2.alloc (.cells (arC X) 50)) w2.heap.size X) := Lib.hid (arr_new w2 X 50 HXL.out)
  have HX2b : Hid (Arr (w2.alloc (.cells (arC X) 50)) w1.heap.size X) := Lib.hid (HX2.out.alloc _)
  have HA2b : Hid (Arr (w2.alloc (.cells (arC X) 50)) w.heap.size A) := Lib.hid (HA2.out.alloc _)
  have HB2b : Hid (Arr (w2.alloc (.cells (arC X) 50)) (w.heap.size + 1) B) := Lib.hid (HB2.out.alloc _)
  have HBL2b : Hid (Below w.heap.size w (w2.alloc (.cells (arC X) 50))) := Lib.hid (HBL2.out.alloc HBL2.out.size _)
  refine (canon_any s _ (HP.out.below HBL2b.out HP.out.1)).mono ?_
  rintro e w3 ⟨rfl, b3⟩
  obtain ⟨C, hC⟩ : ∃ C, C = cnS s := ⟨_, rfl⟩
  have HC := Lib.hid hC
  rw [← hC, ← HE.out]
  have HY3 : Hid (Arr w3 w2.heap.size X) := Lib.hid (HY2.out.below b3 HY2.out.1)
  have HX3 : Hid (Arr w3 w1.heap.size X) := Lib.hid (HX2b.out.below b3 HX2b.out.1)
  have HA3 : Hid (Arr w3 w.heap.size A) := Lib.hid (HA2b.out.below b3 HA2b.out.1)
  have HB3 : Hid (Arr w3 (w.heap.size + 1) B) := Lib.hid (HB2b.out.below b3 HB2b.out.1)
  have HBL3 : Hid (Below w.heap.size w w3) := Lib.hid (HBL2b.out.trans (b3.mono HBL2b.out.size))
  clear b3 hC
  go_wp2_with fail
  refine (rcanon_any s _).mono ?_
  rintro e w4 ⟨rfl, b4⟩
  rw [← HC.out, ← HE.out]
  have HY4 : Hid (Arr w4 w2.heap.size X) := Lib.hid (HY3.out.below b4 HY3.out.1)
  have HX4 : Hid (Arr w4 w1.heap.size X) := Lib.hid (HX3.out.below b4 HX3.out.1)
  have HA4 : Hid (Arr w4 w.heap.size A) := Lib.hid (HA3.out.below b4 HA3.out.1)
  have HB4 : Hid (Arr w4 (w.heap.size + 1) B) := Lib.hid (HB3.out.below b4 HB3.out.1)
  have HBL4 : Hid (Below w.heap.size w w4) := Lib.hid (HBL3.out.trans (b4.mono HBL3.out.size))
  clear b4
  go_wp2_with fail
  have hH : Held5 A B X w w1.heap.size w2.heap.size w4.drew := ⟨range_arr5 HA4.out HLA.out, range_arr5 HB4.out HLB.out, range_arr5 HX4.out HXL.out, range_arr5 HY4.out HXL.out, HP.out.below HBL4.out.drew HP.out.1, HBL4.out.drew, HB4.out.1, HX4.out.1, HY4.out.1⟩
  have s1 : (Tryd.prog.info? 50).map (·.size) = some (arC A).toList.length := by rw [Array.length_toList, sA]; exact info50
  have s2 : (Tryd.prog.info? 50).map (·.size) = some (arC B).toList.length := by rw [Array.length_toList, sB]; exact info50
  have s3 : (Tryd.prog.info? 50).map (·.size) = some (arC X).toList.length := by rw [Array.length_toList, sX]; exact info50
  have u50 := Tryd.underlying50
  have hex := fun w => eq_self X HXL.out w
  clear hst
  refine wp_region_held_drew (S := Held5 A B X w w1.heap.size w2.heap.size) (by kernel_rfl) hH (fun hHeld => ?_)
  refine wpAnyH_take (i := 0) (oi := { dst := some 35, op := Go.Op.load 50 (Go.Operand.tmp 7), type := 50, pos := "law.go:15", after := #[], guard := none }) rfl (by kernel_rfl) (by kernel_rfl) (by kernel_rfl) (fun _ _ _ h => h) (yieldsIf_load_mid (by rfl) 50 (.tmp 7) rfl w1.heap.size 0 rfl (arC X).toList (.array 16 5) (fun _ h => h.2.2.1) u50 rfl s3) hHeld ?_
  try simp only [Act.put, List.setIfInBounds_toArray, List.set_cons_zero, List.set_cons_succ]
  refine wpAnyH_take (i := 1) (oi := { dst := some 36, op := Go.Op.load 50 (Go.Operand.tmp 9), type := 50, pos := "law.go:15", after := #[], guard := none }) rfl (by kernel_rfl) (by kernel_rfl) (by kernel_rfl) (fun _ _ _ h => h) (yieldsIf_load_mid (by rfl) 50 (.tmp 9) rfl w2.heap.size 0 rfl (arC X).toList (.array 16 5) (fun _ h => h.2.2.2.1) u50 rfl s3) hHeld ?_
  try simp only [Act.put, List.setIfInBounds_toArray, List.set_cons_zero, List.set_cons_succ]
  refine wpAnyH_take (i := 2) (oi := { dst := some 37, op := Go.Op.binOp Go.BinOp.eql 50 (Go.Operand.tmp 35) (Go.Operand.tmp 36) 50, type := 4, pos := "law.go:15", after := #[{ on := 0, ground := Go.Ground.data }, { on := 1, ground := Go.Ground.data }], guard := none }) (v := .bool true) rfl (by kernel_rfl) (by kernel_rfl) (by kernel_rfl) (fun _ _ _ h => h) (Or.inl ⟨by rfl, fun w hSw => by (go_simp <;> rfl)⟩) hHeld ?_
  try simp only [Act.put, List.setIfInBounds_toArray, List.set_cons_zero, List.set_cons_succ]
  refine wpAnyH_take (i := 3) (oi := { dst := some 38, op := Go.Op.move (Go.Operand.tmp 37), type := 4, pos := "law.go:15", after := #[{ on := 2, ground := Go.Ground.data }], guard := none }) (v := .bool true) rfl (by kernel_rfl) (by kernel_rfl) (by kernel_rfl) (fun _ _ _ h => h) (Or.inl ⟨by rfl, fun w hSw => by (go_simp <;> rfl)⟩) hHeld ?_
  try simp only [Act.put, List.setIfInBounds_toArray, List.set_cons_zero, List.set_cons_succ]
  refine wpAnyH_take (i := 4) (oi := { dst := some 39, op := Go.Op.move (Go.Operand.tmp 8), type := 24, pos := "law.go:15", after := #[{ on := 3, ground := Go.Ground.guard }], guard := some (3, true) }) (v := .int .i64 E) rfl (by kernel_rfl) (by kernel_rfl) (by kernel_rfl) (fun _ _ _ h => h) (Or.inl ⟨by rfl, fun w hSw => by (go_simp <;> rfl)⟩) hHeld ?_
  try simp only [Act.put, List.setIfInBounds_toArray, List.set_cons_zero, List.set_cons_succ]
  refine wpAnyH_take (i := 5) (oi := { dst := some 40, op := Go.Op.move (Go.Operand.tmp 10), type := 3, pos := "law.go:15", after := #[{ on := 3, ground := Go.Ground.guard }], guard := some (3, true) }) (v := .int .i64 E) rfl (by kernel_rfl) (by kernel_rfl) (by kernel_rfl) (fun _ _ _ h => h) (Or.inl ⟨by rfl, fun w hSw => by (go_simp <;> rfl)⟩) hHeld ?_
  try simp only [Act.put, List.setIfInBounds_toArray, List.set_cons_zero, List.set_cons_succ]
  refine wpAnyH_take (i := 6) (oi := { dst := some 41, op := Go.Op.binOp Go.BinOp.eql 3 (Go.Operand.tmp 39) (Go.Operand.tmp 40) 3, type := 4, pos := "law.go:15", after := #[{ on := 4, ground := Go.Ground.data }, { on := 5, ground := Go.Ground.data }, { on := 3, ground := Go.Ground.guard }], guard := some (3, true) }) (v := .bool true) rfl (by kernel_rfl) (by kernel_rfl) (by kernel_rfl) (fun _ _ _ h => h) (Or.inl ⟨by rfl, fun w hSw => by (go_simp <;> rfl)⟩) hHeld ?_
  try simp only [Act.put, List.setIfInBounds_toArray, List.set_cons_zero, List.set_cons_succ]
  refine wpAnyH_take (i := 7) (oi := { dst := some 42, op := Go.Op.pick (Go.Operand.tmp 38) (Go.Operand.tmp 41) (Go.Operand.const (Go.Value.bool false)), type := 4, pos := "law.go:15", after := #[{ on := 3, ground := Go.Ground.data }, { on := 6, ground := Go.Ground.data }], guard := none }) (v := .bool true) rfl (by kernel_rfl) (by kernel_rfl) (by kernel_rfl) (fun _ _ _ h => h) (Or.inl ⟨by rfl, fun w hSw => by (go_simp <;> rfl)⟩) hHeld ?_
  try simp only [Act.put, List.setIfInBounds_toArray, List.set_cons_zero, List.set_cons_succ]
  refine wpAnyH_take (i := 8) (oi := { dst := some 43, op := Go.Op.move (Go.Operand.tmp 42), type := 4, pos := "law.go:15", after := #[{ on := 7, ground := Go.Ground.data }, { on := 3, ground := Go.Ground.chain }], guard := none }) (v := .bool true) rfl (by kernel_rfl) (by kernel_rfl) (by kernel_rfl) (fun _ _ _ h => h) (Or.inl ⟨by rfl, fun w hSw => by (go_simp <;> rfl)⟩) hHeld ?_
  try simp only [Act.put, List.setIfInBounds_toArray, List.set_cons_zero, List.set_cons_succ]
  refine wpAnyH_take (i := 9) (oi := { dst := some 44, op := Go.Op.move (Go.Operand.tmp 11), type := 9, pos := "law.go:15", after := #[{ on := 8, ground := Go.Ground.guard }], guard := some (8, true) }) (v := .string C) rfl (by kernel_rfl) (by kernel_rfl) (by kernel_rfl) (fun _ _ _ h => h) (Or.inl ⟨by rfl, fun w hSw => by (go_simp <;> rfl)⟩) hHeld ?_
  try simp only [Act.put, List.setIfInBounds_toArray, List.set_cons_zero, List.set_cons_succ]
  refine wpAnyH_take (i := 10) (oi := { dst := some 45, op := Go.Op.move (Go.Operand.tmp 13), type := 9, pos := "law.go:15", after := #[{ on := 8, ground := Go.Ground.guard }], guard := some (8, true) }) (v := .string C) rfl (by kernel_rfl) (by kernel_rfl) (by kernel_rfl) (fun _ _ _ h => h) (Or.inl ⟨by rfl, fun w hSw => by (go_simp <;> rfl)⟩) hHeld ?_
  try simp only [Act.put, List.setIfInBounds_toArray, List.set_cons_zero, List.set_cons_succ]
  refine wpAnyH_take (i := 11) (oi := { dst := some 46, op := Go.Op.binOp Go.BinOp.eql 9 (Go.Operand.tmp 44) (Go.Operand.tmp 45) 9, type := 4, pos := "law.go:15", after := #[{ on := 9, ground := Go.Ground.data }, { on := 10, ground := Go.Ground.data }, { on := 8, ground := Go.Ground.guard }], guard := some (8, true) }) (v := .bool true) rfl (by kernel_rfl) (by kernel_rfl) (by kernel_rfl) (fun _ _ _ h => h) (Or.inl ⟨by rfl, fun w hSw => by (go_simp <;> rfl)⟩) hHeld ?_
  try simp only [Act.put, List.setIfInBounds_toArray, List.set_cons_zero, List.set_cons_succ]
  refine wpAnyH_take (i := 12) (oi := { dst := some 47, op := Go.Op.pick (Go.Operand.tmp 43) (Go.Operand.tmp 46) (Go.Operand.const (Go.Value.bool false)), type := 4, pos := "law.go:15", after := #[{ on := 8, ground := Go.Ground.data }, { on := 11, ground := Go.Ground.data }], guard := none }) (v := .bool true) rfl (by kernel_rfl) (by kernel_rfl) (by kernel_rfl) (fun _ _ _ h => h) (Or.inl ⟨by rfl, fun w hSw => by (go_simp <;> rfl)⟩) hHeld ?_
  try simp only [Act.put, List.setIfInBounds_toArray, List.set_cons_zero, List.set_cons_succ]
  refine wpAnyH_take (i := 13) (oi := { dst := some 48, op := Go.Op.move (Go.Operand.tmp 47), type := 4, pos := "law.go:15", after := #[{ on := 12, ground := Go.Ground.data }, { on := 8, ground := Go.Ground.chain }], guard := none }) (v := .bool true) rfl (by kernel_rfl) (by kernel_rfl) (by kernel_rfl) (fun _ _ _ h => h) (Or.inl ⟨by rfl, fun w hSw => by (go_simp <;> rfl)⟩) hHeld ?_
  try simp only [Act.put, List.setIfInBounds_toArray, List.set_cons_zero, List.set_cons_succ]
  refine wpAnyH_take (i := 14) (oi := { dst := some 49, op := Go.Op.move (Go.Operand.tmp 12), type := 24, pos := "law.go:15", after := #[{ on := 13, ground := Go.Ground.guard }], guard := some (13, true) }) (v := .int .i64 E) rfl (by kernel_rfl) (by kernel_rfl) (by kernel_rfl) (fun _ _ _ h => h) (Or.inl ⟨by rfl, fun w hSw => by (go_simp <;> rfl)⟩) hHeld ?_
  try simp only [Act.put, List.setIfInBounds_toArray, List.set_cons_zero, List.set_cons_succ]
  refine wpAnyH_take (i := 15) (oi := { dst := some 50, op := Go.Op.move (Go.Operand.tmp 14), type := 3, pos := "law.go:15", after := #[{ on := 13, ground := Go.Ground.guard }], guard := some (13, true) }) (v := .int .i64 E) rfl (by kernel_rfl) (by kernel_rfl) (by kernel_rfl) (fun _ _ _ h => h) (Or.inl ⟨by rfl, fun w hSw => by (go_simp <;> rfl)⟩) hHeld ?_
  try simp only [Act.put, List.setIfInBounds_toArray, List.set_cons_zero, List.set_cons_succ]
  refine wpAnyH_take (i := 16) (oi := { dst := some 51, op := Go.Op.binOp Go.BinOp.eql 3 (Go.Operand.tmp 49) (Go.Operand.tmp 50) 3, type := 4, pos := "law.go:15", after := #[{ on := 14, ground := Go.Ground.data }, { on := 15, ground := Go.Ground.data }, { on := 13, ground := Go.Ground.guard }], guard := some (13, true) }) (v := .bool true) rfl (by kernel_rfl) (by kernel_rfl) (by kernel_rfl) (fun _ _ _ h => h) (Or.inl ⟨by rfl, fun w hSw => by (go_simp <;> rfl)⟩) hHeld ?_
  try simp only [Act.put, List.setIfInBounds_toArray, List.set_cons_zero, List.set_cons_succ]
  refine wpAnyH_take (i := 17) (oi := { dst := some 52, op := Go.Op.pick (Go.Operand.tmp 48) (Go.Operand.tmp 51) (Go.Operand.const (Go.Value.bool false)), type := 4, pos := "law.go:15", after := #[{ on := 13, ground := Go.Ground.data }, { on := 16, ground := Go.Ground.data }], guard := none }) (v := .bool true) rfl (by kernel_rfl) (by kernel_rfl) (by kernel_rfl) (fun _ _ _ h => h) (Or.inl ⟨by rfl, fun w hSw => by (go_simp <;> rfl)⟩) hHeld ?_
  try simp only [Act.put, List.setIfInBounds_toArray, List.set_cons_zero, List.set_cons_succ]
  refine wpAnyH_take (i := 18) (oi := { dst := some 53, op := Go.Op.move (Go.Operand.tmp 52), type := 4, pos := "law.go:15", after := #[{ on := 17, ground := Go.Ground.data }, { on := 13, ground := Go.Ground.chain }], guard := none }) (v := .bool true) rfl (by kernel_rfl) (by kernel_rfl) (by kernel_rfl) (fun _ _ _ h => h) (Or.inl ⟨by rfl, fun w hSw => by (go_simp <;> rfl)⟩) hHeld ?_
  try simp only [Act.put, List.setIfInBounds_toArray, List.set_cons_zero, List.set_cons_succ]
  refine wpAnyH_take (i := 19) (oi := { dst := some 54, op := Go.Op.load 50 (Go.Operand.tmp 4), type := 50, pos := "law.go:15", after := #[{ on := 18, ground := Go.Ground.guard }], guard := some (18, true) }) rfl (by kernel_rfl) (by kernel_rfl) (by kernel_rfl) (fun _ _ _ h => h) (yieldsIf_load_mid (by rfl) 50 (.tmp 4) rfl w.heap.size 0 rfl (arC A).toList (.array 16 5) (fun _ h => h.1) u50 rfl s1) hHeld ?_
  try simp only [Act.put, List.setIfInBounds_toArray, List.set_cons_zero, List.set_cons_succ]
  refine wpAnyH_take (i := 21) (oi := { dst := some 56, op := Go.Op.load 50 (Go.Operand.tmp 4), type := 50, pos := "law.go:15", after := #[{ on := 18, ground := Go.Ground.guard }], guard := some (18, true) }) rfl (by kernel_rfl) (by kernel_rfl) (by kernel_rfl) (fun _ _ _ h => h) (yieldsIf_load_mid (by rfl) 50 (.tmp 4) rfl w.heap.size 0 rfl (arC A).toList (.array 16 5) (fun _ h => h.1) u50 rfl s1) hHeld ?_
  try simp only [Act.put, List.setIfInBounds_toArray, List.set_cons_zero, List.set_cons_succ]
  refine wpAnyH_ready (rs := [20]) (by kernel_rfl) (by simp) (AllReadyH.cons (o := { dst := some 55, op := Go.Op.call { callee := Go.Callee.value (Go.Operand.func 34), args := #[Go.Operand.tmp 54], argTypes := #[50] }, type := 9, pos := "law.go:15", after := #[{ on := 19, ground := Go.Ground.data }, { on := 18, ground := Go.Ground.chain }, { on := 18, ground := Go.Ground.guard }], guard := some (18, true) }) rfl (fun K20 hK20 => ?_) AllReadyH.nil)
  go_simp
  refine (text5 A B X HLA.out HOA.out w w1.heap.size w2.heap.size _ hHeld).mono ?_
  rintro e wa20 ⟨rfl, hs20⟩
  refine hK20.out _ _ hs20 (fun hHeld20 => ?_)
  clear hK20 K20
  try simp only [Act.put, List.setIfInBounds_toArray, List.set_cons_zero, List.set_cons_succ]
  refine wpAnyH_ready (rs := [22]) (by kernel_rfl) (by simp) (AllReadyH.cons (o := { dst := some 57, op := Go.Op.call { callee := Go.Callee.value (Go.Operand.func 35), args := #[Go.Operand.tmp 56], argTypes := #[50] }, type := 9, pos := "law.go:15", after := #[{ on := 21, ground := Go.Ground.data }, { on := 20, ground := Go.Ground.chain }, { on := 18, ground := Go.Ground.guard }], guard := some (18, true) }) rfl (fun K22 hK22 => ?_) AllReadyH.nil)
  go_simp
  refine (rtext5 A B X HLA.out HOA.out w w1.heap.size w2.heap.size _ hHeld20).mono ?_
  rintro e wa22 ⟨rfl, hs22⟩
  refine hK22.out _ _ hs22 (fun hHeld22 => ?_)
  clear hK22 K22
  try simp only [Act.put, List.setIfInBounds_toArray, List.set_cons_zero, List.set_cons_succ]
  refine wpAnyH_take (i := 23) (oi := { dst := some 58, op := Go.Op.binOp Go.BinOp.eql 9 (Go.Operand.tmp 55) (Go.Operand.tmp 57) 9, type := 4, pos := "law.go:15", after := #[{ on := 20, ground := Go.Ground.data }, { on := 22, ground := Go.Ground.data }, { on := 18, ground := Go.Ground.guard }], guard := some (18, true) }) (v := .bool true) rfl (by kernel_rfl) (by kernel_rfl) (by kernel_rfl) (fun _ _ _ h => h) (Or.inl ⟨by rfl, fun w hSw => by (go_simp <;> rfl)⟩) hHeld22 ?_
  try simp only [Act.put, List.setIfInBounds_toArray, List.set_cons_zero, List.set_cons_succ]
  refine wpAnyH_take (i := 24) (oi := { dst := some 59, op := Go.Op.pick (Go.Operand.tmp 53) (Go.Operand.tmp 58) (Go.Operand.const (Go.Value.bool false)), type := 4, pos := "law.go:15", after := #[{ on := 18, ground := Go.Ground.data }, { on := 23, ground := Go.Ground.data }], guard := none }) (v := .bool true) rfl (by kernel_rfl) (by kernel_rfl) (by kernel_rfl) (fun _ _ _ h => h) (Or.inl ⟨by rfl, fun w hSw => by (go_simp <;> rfl)⟩) hHeld22 ?_
  try simp only [Act.put, List.setIfInBounds_toArray, List.set_cons_zero, List.set_cons_succ]
  refine wpAnyH_take (i := 25) (oi := { dst := some 60, op := Go.Op.move (Go.Operand.tmp 59), type := 4, pos := "law.go:15", after := #[{ on := 24, ground := Go.Ground.data }, { on := 22, ground := Go.Ground.chain }], guard := none }) (v := .bool true) rfl (by kernel_rfl) (by kernel_rfl) (by kernel_rfl) (fun _ _ _ h => h) (Or.inl ⟨by rfl, fun w hSw => by (go_simp <;> rfl)⟩) hHeld22 ?_
  try simp only [Act.put, List.setIfInBounds_toArray, List.set_cons_zero, List.set_cons_succ]
  refine wpAnyH_take (i := 26) (oi := { dst := some 61, op := Go.Op.load 50 (Go.Operand.tmp 4), type := 50, pos := "law.go:15", after := #[{ on := 25, ground := Go.Ground.guard }], guard := some (25, true) }) rfl (by kernel_rfl) (by kernel_rfl) (by kernel_rfl) (fun _ _ _ h => h) (yieldsIf_load_mid (by rfl) 50 (.tmp 4) rfl w.heap.size 0 rfl (arC A).toList (.array 16 5) (fun _ h => h.1) u50 rfl s1) hHeld22 ?_
  try simp only [Act.put, List.setIfInBounds_toArray, List.set_cons_zero, List.set_cons_succ]
  refine wpAnyH_take (i := 27) (oi := { dst := some 62, op := Go.Op.load 50 (Go.Operand.tmp 5), type := 50, pos := "law.go:15", after := #[{ on := 25, ground := Go.Ground.guard }], guard := some (25, true) }) rfl (by kernel_rfl) (by kernel_rfl) (by kernel_rfl) (fun _ _ _ h => h) (yieldsIf_load_mid (by rfl) 50 (.tmp 5) rfl (w.heap.size + 1) 0 rfl (arC B).toList (.array 16 5) (fun _ h => h.2.1) u50 rfl s2) hHeld22 ?_
  try simp only [Act.put, List.setIfInBounds_toArray, List.set_cons_zero, List.set_cons_succ]
  refine wpAnyH_take (i := 29) (oi := { dst := some 64, op := Go.Op.load 50 (Go.Operand.tmp 4), type := 50, pos := "law.go:15", after := #[{ on := 25, ground := Go.Ground.guard }], guard := some (25, true) }) rfl (by kernel_rfl) (by kernel_rfl) (by kernel_rfl) (fun _ _ _ h => h) (yieldsIf_load_mid (by rfl) 50 (.tmp 4) rfl w.heap.size 0 rfl (arC A).toList (.array 16 5) (fun _ h => h.1) u50 rfl s1) hHeld22 ?_
  try simp only [Act.put, List.setIfInBounds_toArray, List.set_cons_zero, List.set_cons_succ]
  refine wpAnyH_take (i := 30) (oi := { dst := some 65, op := Go.Op.load 50 (Go.Operand.tmp 5), type := 50, pos := "law.go:15", after := #[{ on := 25, ground := Go.Ground.guard }], guard := some (25, true) }) rfl (by kernel_rfl) (by kernel_rfl) (by kernel_rfl) (fun _ _ _ h => h) (yieldsIf_load_mid (by rfl) 50 (.tmp 5) rfl (w.heap.size + 1) 0 rfl (arC B).toList (.array 16 5) (fun _ h => h.2.1) u50 rfl s2) hHeld22 ?_
  try simp only [Act.put, List.setIfInBounds_toArray, List.set_cons_zero, List.set_cons_succ]
  refine wpAnyH_ready (rs := [28]) (by kernel_rfl) (by simp) (AllReadyH.cons (o := { dst := some 63, op := Go.Op.call { callee := Go.Callee.value (Go.Operand.func 36), args := #[Go.Operand.tmp 61, Go.Operand.tmp 62], argTypes := #[50, 50] }, type := 3, pos := "law.go:15", after := #[{ on := 26, ground := Go.Ground.data }, { on := 27, ground := Go.Ground.data }, { on := 25, ground := Go.Ground.chain }, { on := 25, ground := Go.Ground.guard }], guard := some (25, true) }) rfl (fun K28 hK28 => ?_) AllReadyH.nil)
  go_simp
  refine (comp5 A B X HLA.out HLB.out w w1.heap.size w2.heap.size _ hHeld22).mono ?_
  rintro e wa28 ⟨rfl, hs28⟩
  refine hK28.out _ _ hs28 (fun hHeld28 => ?_)
  clear hK28 K28
  try simp only [Act.put, List.setIfInBounds_toArray, List.set_cons_zero, List.set_cons_succ]
  refine wpAnyH_ready (rs := [31]) (by kernel_rfl) (by simp) (AllReadyH.cons (o := { dst := some 66, op := Go.Op.call { callee := Go.Callee.value (Go.Operand.func 37), args := #[Go.Operand.tmp 64, Go.Operand.tmp 65], argTypes := #[50, 50] }, type := 3, pos := "law.go:15", after := #[{ on := 29, ground := Go.Ground.data }, { on := 30, ground := Go.Ground.data }, { on := 28, ground := Go.Ground.chain }, { on := 25, ground := Go.Ground.guard }], guard := some (25, true) }) rfl (fun K31 hK31 => ?_) AllReadyH.nil)
  go_simp
  refine (rcomp5 A B X HLA.out HLB.out w w1.heap.size w2.heap.size _ hHeld28).mono ?_
  rintro e wa31 ⟨rfl, hs31⟩
  refine hK31.out _ _ hs31 (fun hHeld31 => ?_)
  clear hK31 K31
  try simp only [Act.put, List.setIfInBounds_toArray, List.set_cons_zero, List.set_cons_succ]
  refine wpAnyH_take (i := 32) (oi := { dst := some 67, op := Go.Op.binOp Go.BinOp.eql 3 (Go.Operand.tmp 63) (Go.Operand.tmp 66) 3, type := 4, pos := "law.go:15", after := #[{ on := 28, ground := Go.Ground.data }, { on := 31, ground := Go.Ground.data }, { on := 25, ground := Go.Ground.guard }], guard := some (25, true) }) (v := .bool true) rfl (by kernel_rfl) (by kernel_rfl) (by kernel_rfl) (fun _ _ _ h => h) (Or.inl ⟨by rfl, fun w hSw => by (go_simp <;> rfl)⟩) hHeld31 ?_
  try simp only [Act.put, List.setIfInBounds_toArray, List.set_cons_zero, List.set_cons_succ]
  refine wpAnyH_take (i := 33) (oi := { dst := some 68, op := Go.Op.pick (Go.Operand.tmp 60) (Go.Operand.tmp 67) (Go.Operand.const (Go.Value.bool false)), type := 4, pos := "law.go:15", after := #[{ on := 25, ground := Go.Ground.data }, { on := 32, ground := Go.Ground.data }], guard := none }) (v := .bool true) rfl (by kernel_rfl) (by kernel_rfl) (by kernel_rfl) (fun _ _ _ h => h) (Or.inl ⟨by rfl, fun w hSw => by (go_simp <;> rfl)⟩) hHeld31 ?_
  try simp only [Act.put, List.setIfInBounds_toArray, List.set_cons_zero, List.set_cons_succ]
  refine wpAnyH_take (i := 34) (oi := { dst := some 6, op := Go.Op.assign (Go.Operand.tmp 68), type := 4, pos := "law.go:15", after := #[{ on := 33, ground := Go.Ground.data }, { on := 31, ground := Go.Ground.chain }, { on := 0, ground := Go.Ground.phase }, { on := 1, ground := Go.Ground.phase }, { on := 2, ground := Go.Ground.phase }, { on := 3, ground := Go.Ground.phase }, { on := 4, ground := Go.Ground.phase }, { on := 5, ground := Go.Ground.phase }, { on := 6, ground := Go.Ground.phase }, { on := 7, ground := Go.Ground.phase }, { on := 8, ground := Go.Ground.phase }, { on := 9, ground := Go.Ground.phase }, { on := 10, ground := Go.Ground.phase }, { on := 11, ground := Go.Ground.phase }, { on := 12, ground := Go.Ground.phase }, { on := 13, ground := Go.Ground.phase }, { on := 14, ground := Go.Ground.phase }, { on := 15, ground := Go.Ground.phase }, { on := 16, ground := Go.Ground.phase }, { on := 17, ground := Go.Ground.phase }, { on := 18, ground := Go.Ground.phase }, { on := 19, ground := Go.Ground.phase }, { on := 20, ground := Go.Ground.phase }, { on := 21, ground := Go.Ground.phase }, { on := 22, ground := Go.Ground.phase }, { on := 23, ground := Go.Ground.phase }, { on := 24, ground := Go.Ground.phase }, { on := 25, ground := Go.Ground.phase }, { on := 26, ground := Go.Ground.phase }, { on := 27, ground := Go.Ground.phase }, { on := 28, ground := Go.Ground.phase }, { on := 29, ground := Go.Ground.phase }, { on := 30, ground := Go.Ground.phase }, { on := 31, ground := Go.Ground.phase }, { on := 32, ground := Go.Ground.phase }, { on := 33, ground := Go.Ground.phase }], guard := none }) (v := .bool true) rfl (by kernel_rfl) (by kernel_rfl) (by kernel_rfl) (fun _ _ _ h => h) (Or.inl ⟨by rfl, fun w hSw => by (go_simp <;> rfl)⟩) hHeld31 ?_
  try simp only [Act.put, List.setIfInBounds_toArray, List.set_cons_zero, List.set_cons_succ]
  refine wpAnyH_done (by kernel_rfl) ?_ _
  clear hex s1 s2 s3 u50 hH
  have HQ := Lib.hid hHeld31
  go_wp2_with fail
  go_ret
  exact ⟨rfl, HQ.out.2.2.2.2.2.1⟩
theorem tells_law (s : ByteArray) (A B : List Int) (w : World) (hp : Prt w) (_ : s.size ≤ maxLen) (lA : A.length = 16) (oA : okB A) (lB : B.length = 16) (_ : okB B) :
    Calls Tryd.prog 11 #[.string s, arV A, arV B] w fun e w' => e = .returned (.bool true) ∧ Below w.heap.size w w' := tells_walk s A B w hp lA oA lB
end Go.Proofs.YtfphejndbnmfeaaDoor

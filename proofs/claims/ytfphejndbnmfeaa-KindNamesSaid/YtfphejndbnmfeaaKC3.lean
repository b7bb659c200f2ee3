import Derived.Test.YtfphejndbnmfeaaKC2
namespace Go.Proofs.Ytfphejndbnmfeaa
open Go.RowKit Go.Maps
def Kf (i : Nat) : Int := if i = 0 then 2 else if i = 1 then 1 else 3
def Nf (i : Nat) : ByteArray := if i = 2 then ⟨#[84]⟩ else ⟨#[65]⟩
theorem cA : cls 3 Kf Nf ⟨#[65]⟩ = (3, 0) := by decide +kernel
theorem cT : cls 3 Kf Nf ⟨#[84]⟩ = (4, 2) := by decide +kernel
theorem cU : cls 3 Kf Nf ⟨#[85, 85, 73, 68]⟩ = (1, 6) := by decide +kernel
theorem cX : cls 3 Kf Nf ⟨#[88]⟩ = (0, 0) := by decide +kernel
theorem dv_lit (w : World) : DV (w.alloc (.cells #[.int .u8 2, .string ⟨#[65]⟩, .slice none 0 0, .slice none 0 0, .slice none 0 0, .slice none 0 0, .int .u8 1, .string ⟨#[65]⟩, .slice none 0 0, .slice none 0 0, .slice none 0 0, .slice none 0 0, .int .u8 3, .string ⟨#[84]⟩, .slice none 0 0, .slice none 0 0, .slice none 0 0, .slice none 0 0] 27)) (some ⟨w.heap.size, 0, none⟩) 3 Kf Nf := by
  intro i hi
  have h := heap_alloc_new w (.cells #[.int .u8 2, .string ⟨#[65]⟩, .slice none 0 0, .slice none 0 0, .slice none 0 0, .slice none 0 0, .int .u8 1, .string ⟨#[65]⟩, .slice none 0 0, .slice none 0 0, .slice none 0 0, .slice none 0 0, .int .u8 3, .string ⟨#[84]⟩, .slice none 0 0, .slice none 0 0, .slice none 0 0, .slice none 0 0] 27)
  have hc : ∀ o, (w.alloc (.cells #[.int .u8 2, .string ⟨#[65]⟩, .slice none 0 0, .slice none 0 0, .slice none 0 0, .slice none 0 0, .int .u8 1, .string ⟨#[65]⟩, .slice none 0 0, .slice none 0 0, .slice none 0 0, .slice none 0 0, .int .u8 3, .string ⟨#[84]⟩, .slice none 0 0, .slice none 0 0, .slice none 0 0, .slice none 0 0] 27)).cell? ⟨w.heap.size, o, none⟩ = (#[.int .u8 2, .string ⟨#[65]⟩, .slice none 0 0, .slice none 0 0, .slice none 0 0, .slice none 0 0, .int .u8 1, .string ⟨#[65]⟩, .slice none 0 0, .slice none 0 0, .slice none 0 0, .slice none 0 0, .int .u8 3, .string ⟨#[84]⟩, .slice none 0 0, .slice none 0 0, .slice none 0 0, .slice none 0 0] : Array Value)[o]? := fun o => by simp only [World.cell?, h]; rfl
  have : i = 0 ∨ i = 1 ∨ i = 2 := by omega
  rcases this with rfl | rfl | rfl <;> exact ⟨_, 0, rfl, by simp, by decide, by rw [hc]; rfl, by rw [hc]; rfl, ⟨_, _, _, by rw [hc]; rfl⟩, ⟨_, _, _, by rw [hc]; rfl⟩, ⟨_, _, _, by rw [hc]; rfl⟩, ⟨_, _, _, by rw [hc]; rfl⟩⟩
theorem u3 : usable intS intS [] [1] true 1 2 false = true := by decide +kernel
theorem u8 : usable intS intS [] [1] true 1 0 false = false := by decide +kernel
theorem u15 : usable intS intS [] [1] true 1 0 true = true := by decide +kernel
theorem u22 : usable intS intS [] [1] false 0 0 false = false := by decide +kernel
theorem u30 : usable intS intS [1] [] false 0 0 false = true := by decide +kernel
theorem dview_lit (w : World) (k : Int) (u v : Int) : DView (w.alloc (.cells #[.int .u8 k, .string ⟨#[]⟩, .string ⟨#[]⟩, .int .i64 u, .int .i64 v] 32)) (some ⟨w.heap.size, 0, none⟩) 1 k := fun _ =>
  ⟨w.heap.size, 0, rfl, by simp, by have h := heap_alloc_new w (.cells #[.int .u8 k, .string ⟨#[]⟩, .string ⟨#[]⟩, .int .i64 u, .int .i64 v] 32); simp only [World.cell?, h]; rfl⟩
set_option maxRecDepth 20000 in
set_option maxHeartbeats 4000000 in
theorem names_walk (w : World) : Calls Try.prog 3 #[] w fun e w' => e = .returned (.bool true) ∧ Below w.heap.size w w' := by
  have V0 := Lib.hid (dv_lit w)
  have B0 := Lib.hid ((Below.refl w.heap.size w).alloc (Nat.le_refl _) (.cells #[.int .u8 2, .string ⟨#[65]⟩, .slice none 0 0, .slice none 0 0, .slice none 0 0, .slice none 0 0, .int .u8 1, .string ⟨#[65]⟩, .slice none 0 0, .slice none 0 0, .slice none 0 0, .slice none 0 0, .int .u8 3, .string ⟨#[84]⟩, .slice none 0 0, .slice none 0 0, .slice none 0 0, .slice none 0 0] 27))
  go_enter Try.func3, Try.ntmps3
  go_wp2_with fail
  refine (class_any _ 3 3 Kf Nf ⟨#[65]⟩ _ V0.out (by decide)).mono ?_
  rintro e w1 ⟨rfl, b1⟩
  rw [cA]
  have V1 := Lib.hid (V0.out.below b1)
  have B1 := Lib.hid (B0.out.trans (b1.mono B0.out.size))
  clear b1 V0 B0
  go_wp2_with fail
  refine (class_any _ 3 3 Kf Nf ⟨#[84]⟩ _ V1.out (by decide)).mono ?_
  rintro e w2 ⟨rfl, b1⟩
  rw [cT]
  have V2 := Lib.hid (V1.out.below b1)
  have B2 := Lib.hid (B1.out.trans (b1.mono B1.out.size))
  clear b1 V1 B1
  go_wp2_with fail
  refine (class_any _ 3 3 Kf Nf ⟨#[85, 85, 73, 68]⟩ _ V2.out (by decide)).mono ?_
  rintro e w3 ⟨rfl, b1⟩
  rw [cU]
  have V3 := Lib.hid (V2.out.below b1)
  have B3 := Lib.hid (B2.out.trans (b1.mono B2.out.size))
  clear b1 V2 B2
  go_wp2_with fail
  refine (class_any _ 3 3 Kf Nf ⟨#[88]⟩ _ V3.out (by decide)).mono ?_
  rintro e w4 ⟨rfl, b1⟩
  rw [cX]
  have V4 := Lib.hid (V3.out.below b1)
  have B4 := Lib.hid (B3.out.trans (b1.mono B3.out.size))
  clear b1 V3 B3
  go_wp2_with fail
  have D5 := Lib.hid (dview_lit w4 2 1 0)
  have B5 := Lib.hid (B4.out.alloc B4.out.size (.cells #[.int .u8 2, .string ⟨#[]⟩, .string ⟨#[]⟩, .int .i64 1, .int .i64 0] 32))
  clear V4
  refine (ref_any none 0 0 _).mono ?_
  rintro e w5 ⟨rfl, b5⟩
  have D6 := Lib.hid (D5.out.below b5)
  have B6 := Lib.hid (B5.out.trans (b5.mono B5.out.size))
  clear b5 D5 B5
  obtain ⟨d1, hd1⟩ : ∃ d, d = w4.heap.size := ⟨_, rfl⟩
  rw [← hd1] at D6 ⊢
  clear hd1
  unfold refV
  go_wp2_with fail
  have X7 : Hid (VBox (w5.alloc (.cells #[.string ⟨#[118]⟩, .string intS, .slice none 0 0, .bool true, .slice (some ⟨d1, 0, none⟩) 1 1, .slice none 0 0] 39)) w5.heap.size #[.string ⟨#[118]⟩, .string intS, .slice none 0 0, .bool true, .slice (some ⟨d1, 0, none⟩) 1 1, .slice none 0 0]) := Lib.hid (heap_alloc_new w5 _)
  have D7 := Lib.hid (D6.out.below ((Below.refl _ _).alloc (Nat.le_refl _) (.cells #[.string ⟨#[118]⟩, .string intS, .slice none 0 0, .bool true, .slice (some ⟨d1, 0, none⟩) 1 1, .slice none 0 0] 39)))
  have B7 := Lib.hid (B6.out.alloc B6.out.size (.cells #[.string ⟨#[118]⟩, .string intS, .slice none 0 0, .bool true, .slice (some ⟨d1, 0, none⟩) 1 1, .slice none 0 0] 39))
  clear D6 B6
  refine (ref_any none 0 0 _).mono ?_
  rintro e w6 ⟨rfl, b6⟩
  have X8 := Lib.hid (X7.out.up b6)
  have D8 := Lib.hid (D7.out.below b6)
  have B8 := Lib.hid (B7.out.trans (b6.mono B7.out.size))
  clear b6 X7 D7 B7
  obtain ⟨v1, hv1⟩ : ∃ d, d = w5.heap.size := ⟨_, rfl⟩
  rw [← hv1] at X8 ⊢
  clear hv1
  unfold refV
  go_wp2_with fail
  generalize hW : World.alloc _ _ = W
  have X9 : Hid (VBox W v1 #[.string ⟨#[118]⟩, .string intS, .slice none 0 0, .bool true, .slice (some ⟨d1, 0, none⟩) 1 1, .slice none 0 0]) := Lib.hid (by rw [← hW]; exact (X8.out.up ((Below.refl _ _).alloc (Nat.le_refl _) _)).up ((Below.refl _ _).alloc (Nat.le_refl _) _))
  have DV9 : Hid (DView W (some ⟨d1, 0, none⟩) 1 2) := Lib.hid (by rw [← hW]; exact (D8.out.below ((Below.refl _ _).alloc (Nat.le_refl _) _)).below ((Below.refl _ _).alloc (Nat.le_refl _) _))
  have DN9 : Hid (DView W (some ⟨w6.heap.size, 0, none⟩) 1 0) := Lib.hid (by rw [← hW]; exact (dview_lit w6 0 0 0).below ((Below.refl _ _).alloc (Nat.le_refl _) _))
  have XN9 : Hid (VBox W (w6.heap.size + 1) #[.string ⟨#[118]⟩, .string intS, .slice none 0 0, .bool true, .slice (some ⟨w6.heap.size, 0, none⟩) 1 1, .slice none 0 0]) := Lib.hid (by rw [← hW]; have h := heap_alloc_new (w6.alloc (.cells #[.int .u8 0, .string ⟨#[]⟩, .string ⟨#[]⟩, .int .i64 0, .int .i64 0] 32)) (.cells #[.string ⟨#[118]⟩, .string intS, .slice none 0 0, .bool true, .slice (some ⟨w6.heap.size, 0, none⟩) 1 1, .slice none 0 0] 39); unfold VBox; simpa using h)
  have BW : Hid (Below w.heap.size w W) := Lib.hid (by rw [← hW]; exact (B8.out.alloc B8.out.size _).alloc (by have := B8.out.size; simp; omega) _)
  clear hW X8 D8 B8
  obtain ⟨d2, hd2⟩ : ∃ d, d = w6.heap.size := ⟨_, rfl⟩
  obtain ⟨v2, hv2⟩ : ∃ d, d = w6.heap.size + 1 := ⟨_, rfl⟩
  rw [← hv2] at XN9 ⊢
  rw [← hd2] at XN9 DN9 ⊢
  clear hd2 hv2
  have DV := DV9
  have DN := DN9
  clear DV9 DN9
  have HS : Hid (∀ w', Below W.heap.size W w' → (fun w' => Below W.heap.size W w' ∧ w'.cell? ⟨v1, 0, none⟩ = some (.string ⟨#[118]⟩) ∧ w'.cell? ⟨v1, 1, none⟩ = some (.string intS) ∧ w'.cell? ⟨v1, 2, none⟩ = some (.slice none 0 0) ∧ w'.cell? ⟨v1, 3, none⟩ = some (.bool true) ∧ w'.cell? ⟨v1, 4, none⟩ = some (.slice (some ⟨d1, 0, none⟩) 1 1) ∧ w'.cell? ⟨v1, 5, none⟩ = some (.slice none 0 0) ∧ w'.cell? ⟨v2, 0, none⟩ = some (.string ⟨#[118]⟩) ∧ w'.cell? ⟨v2, 1, none⟩ = some (.string intS) ∧ w'.cell? ⟨v2, 2, none⟩ = some (.slice none 0 0) ∧ w'.cell? ⟨v2, 3, none⟩ = some (.bool true) ∧ w'.cell? ⟨v2, 4, none⟩ = some (.slice (some ⟨d2, 0, none⟩) 1 1) ∧ w'.cell? ⟨v2, 5, none⟩ = some (.slice none 0 0)) w') := Lib.hid (fun w' hb => ⟨hb, (X9.out.up hb).at 0, (X9.out.up hb).at 1, (X9.out.up hb).at 2, (X9.out.up hb).at 3, (X9.out.up hb).at 4, (X9.out.up hb).at 5, (XN9.out.up hb).at 0, (XN9.out.up hb).at 1, (XN9.out.up hb).at 2, (XN9.out.up hb).at 3, (XN9.out.up hb).at 4, (XN9.out.up hb).at 5⟩)
  clear X9 XN9
  refine wp_region_held_drew (S := (fun w' => Below W.heap.size W w' ∧ w'.cell? ⟨v1, 0, none⟩ = some (.string ⟨#[118]⟩) ∧ w'.cell? ⟨v1, 1, none⟩ = some (.string intS) ∧ w'.cell? ⟨v1, 2, none⟩ = some (.slice none 0 0) ∧ w'.cell? ⟨v1, 3, none⟩ = some (.bool true) ∧ w'.cell? ⟨v1, 4, none⟩ = some (.slice (some ⟨d1, 0, none⟩) 1 1) ∧ w'.cell? ⟨v1, 5, none⟩ = some (.slice none 0 0) ∧ w'.cell? ⟨v2, 0, none⟩ = some (.string ⟨#[118]⟩) ∧ w'.cell? ⟨v2, 1, none⟩ = some (.string intS) ∧ w'.cell? ⟨v2, 2, none⟩ = some (.slice none 0 0) ∧ w'.cell? ⟨v2, 3, none⟩ = some (.bool true) ∧ w'.cell? ⟨v2, 4, none⟩ = some (.slice (some ⟨d2, 0, none⟩) 1 1) ∧ w'.cell? ⟨v2, 5, none⟩ = some (.slice none 0 0))) (by kernel_rfl) (HS.out _ ((Below.refl _ _).drew)) (fun hHeld => ?_)
  refine wpAnyH_take (i := 0) (oi := { dst := some 47, op := Op.load 39 (Operand.tmp 11), type := 39, pos := "outright.go:31", after := #[], guard := none }) (v := ?_) rfl (by kernel_rfl) (by kernel_rfl) (by kernel_rfl) (fun _ _ _ h => h) (Or.inl ⟨by rfl, ?_⟩) hHeld ?_
  rotate_left
  · (intro w hSw; (try dsimp only at hSw); go_simp <;> with_reducible rfl)
  try simp only [Act.put, List.setIfInBounds_toArray, List.set_cons_zero, List.set_cons_succ]
  refine wpAnyH_ready (rs := [1]) (by kernel_rfl) (by simp) (AllReadyH.cons (o := { dst := some 48, op := Op.buildSlice 34 1 #[(0, Operand.const (Value.int IntKind.u8 1))], type := 34, pos := "outright.go:31", after := #[], guard := none }) rfl (fun K1 hK1 => ?_) AllReadyH.nil)
  go_simp
  refine hK1.out _ _ (HS.out _ (hHeld.1.alloc hHeld.1.size _)) (fun hH_1 => ?_)
  have VA1 := Lib.hid (view_lit W.drew [1] #[.int .u8 1] rfl)
  clear hK1 K1
  try simp only [Act.put, List.setIfInBounds_toArray, List.set_cons_zero, List.set_cons_succ]
  refine wpAnyH_ready (rs := [2]) (by kernel_rfl) (by simp) (AllReadyH.cons (o := { dst := some 49, op := Op.call { callee := Callee.value (Operand.func 5), args := #[Operand.tmp 48], argTypes := #[34] }, type := 36, pos := "outright.go:31", after := #[{ on := 1, ground := Ground.data }], guard := none }) rfl (fun K2 hK2 => ?_) AllReadyH.nil)
  go_simp
  refine (ref_any _ _ _ _).mono ?_
  rintro e z2 ⟨rfl, b2⟩
  refine hK2.out _ _ (HS.out _ (hH_1.1.trans (b2.mono hH_1.1.size))) (fun hH_2 => ?_)
  have VB2 := Lib.hid (VA1.out.below b2)
  clear b2
  unfold refV
  clear hK2 K2
  try simp only [Act.put, List.setIfInBounds_toArray, List.set_cons_zero, List.set_cons_succ]
  refine wpAnyH_ready (rs := [3]) (by kernel_rfl) (by simp) (AllReadyH.cons (o := { dst := some 50, op := Op.call { callee := Callee.value (Operand.func 6), args := #[Operand.tmp 47, Operand.tmp 49, Operand.const (Value.bool false)], argTypes := #[39, 36, 4] }, type := 4, pos := "outright.go:31", after := #[{ on := 0, ground := Ground.data }, { on := 2, ground := Ground.data }, { on := 2, ground := Ground.chain }], guard := none }) rfl (fun K3 hK3 => ?_) AllReadyH.nil)
  go_simp
  refine (usable_any ⟨#[118]⟩ intS none 0 0 true (some ⟨d1, 0, none⟩) 1 1 none 0 0 intS _ 1 1 [] [1] 2 _ (view_nil _) (Nat.le_refl _) VB2.out (Nat.le_refl _) (DV.out.below hH_2.1) false).mono ?_
  rintro e z3 ⟨rfl, b3⟩
  rw [u3]
  refine hK3.out _ _ (HS.out _ (hH_2.1.trans (b3.mono hH_2.1.size))) (fun hH_3 => ?_)
  clear b3
  clear hK3 K3
  try simp only [Act.put, List.setIfInBounds_toArray, List.set_cons_zero, List.set_cons_succ]
  refine wpAnyH_take (i := 4) (oi := { dst := some 51, op := Op.move (Operand.tmp 50), type := 4, pos := "outright.go:31", after := #[{ on := 3, ground := Ground.data }, { on := 3, ground := Ground.chain }], guard := none }) (v := ?_) rfl (by kernel_rfl) (by kernel_rfl) (by kernel_rfl) (fun _ _ _ h => h) (Or.inl ⟨by rfl, ?_⟩) hH_3 ?_
  rotate_left
  · (intro w hSw; (try dsimp only at hSw); go_simp <;> with_reducible rfl)
  try simp only [Act.put, List.setIfInBounds_toArray, List.set_cons_zero, List.set_cons_succ]
  refine wpAnyH_take (i := 5) (oi := { dst := some 52, op := Op.load 39 (Operand.tmp 12), type := 39, pos := "outright.go:31", after := #[{ on := 4, ground := Ground.guard }], guard := some (4, true) }) (v := ?_) rfl (by kernel_rfl) (by kernel_rfl) (by kernel_rfl) (fun _ _ _ h => h) (Or.inl ⟨by rfl, ?_⟩) hH_3 ?_
  rotate_left
  · (intro w hSw; (try dsimp only at hSw); go_simp <;> with_reducible rfl)
  try simp only [Act.put, List.setIfInBounds_toArray, List.set_cons_zero, List.set_cons_succ]
  refine wpAnyH_ready (rs := [6]) (by kernel_rfl) (by simp) (AllReadyH.cons (o := { dst := some 53, op := Op.buildSlice 34 1 #[(0, Operand.const (Value.int IntKind.u8 1))], type := 34, pos := "outright.go:31", after := #[{ on := 4, ground := Ground.guard }], guard := some (4, true) }) rfl (fun K6 hK6 => ?_) AllReadyH.nil)
  go_simp
  refine hK6.out _ _ (HS.out _ (hH_3.1.alloc hH_3.1.size _)) (fun hH_6 => ?_)
  have VA6 := Lib.hid (view_lit z3 [1] #[.int .u8 1] rfl)
  clear hK6 K6
  try simp only [Act.put, List.setIfInBounds_toArray, List.set_cons_zero, List.set_cons_succ]
  refine wpAnyH_ready (rs := [7]) (by kernel_rfl) (by simp) (AllReadyH.cons (o := { dst := some 54, op := Op.call { callee := Callee.value (Operand.func 5), args := #[Operand.tmp 53], argTypes := #[34] }, type := 36, pos := "outright.go:31", after := #[{ on := 6, ground := Ground.data }, { on := 4, ground := Ground.chain }, { on := 4, ground := Ground.guard }], guard := some (4, true) }) rfl (fun K7 hK7 => ?_) AllReadyH.nil)
  go_simp
  refine (ref_any _ _ _ _).mono ?_
  rintro e z7 ⟨rfl, b7⟩
  refine hK7.out _ _ (HS.out _ (hH_6.1.trans (b7.mono hH_6.1.size))) (fun hH_7 => ?_)
  have VB7 := Lib.hid (VA6.out.below b7)
  clear b7
  unfold refV
  clear hK7 K7
  try simp only [Act.put, List.setIfInBounds_toArray, List.set_cons_zero, List.set_cons_succ]
  refine wpAnyH_ready (rs := [8]) (by kernel_rfl) (by simp) (AllReadyH.cons (o := { dst := some 55, op := Op.call { callee := Callee.value (Operand.func 6), args := #[Operand.tmp 52, Operand.tmp 54, Operand.const (Value.bool false)], argTypes := #[39, 36, 4] }, type := 4, pos := "outright.go:31", after := #[{ on := 5, ground := Ground.data }, { on := 7, ground := Ground.data }, { on := 7, ground := Ground.chain }, { on := 4, ground := Ground.guard }], guard := some (4, true) }) rfl (fun K8 hK8 => ?_) AllReadyH.nil)
  go_simp
  refine (usable_any ⟨#[118]⟩ intS none 0 0 true (some ⟨d2, 0, none⟩) 1 1 none 0 0 intS _ 1 1 [] [1] 0 _ (view_nil _) (Nat.le_refl _) VB7.out (Nat.le_refl _) (DN.out.below hH_7.1) false).mono ?_
  rintro e z8 ⟨rfl, b8⟩
  rw [u8]
  refine hK8.out _ _ (HS.out _ (hH_7.1.trans (b8.mono hH_7.1.size))) (fun hH_8 => ?_)
  clear b8
  clear hK8 K8
  try simp only [Act.put, List.setIfInBounds_toArray, List.set_cons_zero, List.set_cons_succ]
  refine wpAnyH_take (i := 9) (oi := { dst := some 56, op := Op.unOp UnOp.not 4 (Operand.tmp 55), type := 4, pos := "outright.go:31", after := #[{ on := 8, ground := Ground.data }, { on := 4, ground := Ground.guard }], guard := some (4, true) }) (v := ?_) rfl (by kernel_rfl) (by kernel_rfl) (by kernel_rfl) (fun _ _ _ h => h) (Or.inl ⟨by rfl, ?_⟩) hH_8 ?_
  rotate_left
  · (intro w hSw; (try dsimp only at hSw); go_simp <;> with_reducible rfl)
  try simp only [Act.put, List.setIfInBounds_toArray, List.set_cons_zero, List.set_cons_succ]
  refine wpAnyH_take (i := 10) (oi := { dst := some 57, op := Op.pick (Operand.tmp 51) (Operand.tmp 56) (Operand.const (Value.bool false)), type := 4, pos := "outright.go:31", after := #[{ on := 4, ground := Ground.data }, { on := 9, ground := Ground.data }], guard := none }) (v := ?_) rfl (by kernel_rfl) (by kernel_rfl) (by kernel_rfl) (fun _ _ _ h => h) (Or.inl ⟨by rfl, ?_⟩) hH_8 ?_
  rotate_left
  · (intro w hSw; (try dsimp only at hSw); go_simp <;> with_reducible rfl)
  try simp only [Act.put, List.setIfInBounds_toArray, List.set_cons_zero, List.set_cons_succ]
  refine wpAnyH_take (i := 11) (oi := { dst := some 58, op := Op.move (Operand.tmp 57), type := 4, pos := "outright.go:31", after := #[{ on := 10, ground := Ground.data }, { on := 8, ground := Ground.chain }], guard := none }) (v := ?_) rfl (by kernel_rfl) (by kernel_rfl) (by kernel_rfl) (fun _ _ _ h => h) (Or.inl ⟨by rfl, ?_⟩) hH_8 ?_
  rotate_left
  · (intro w hSw; (try dsimp only at hSw); go_simp <;> with_reducible rfl)
  try simp only [Act.put, List.setIfInBounds_toArray, List.set_cons_zero, List.set_cons_succ]
  refine wpAnyH_take (i := 12) (oi := { dst := some 59, op := Op.load 39 (Operand.tmp 12), type := 39, pos := "outright.go:31", after := #[{ on := 11, ground := Ground.guard }], guard := some (11, true) }) (v := ?_) rfl (by kernel_rfl) (by kernel_rfl) (by kernel_rfl) (fun _ _ _ h => h) (Or.inl ⟨by rfl, ?_⟩) hH_8 ?_
  rotate_left
  · (intro w hSw; (try dsimp only at hSw); go_simp <;> with_reducible rfl)
  try simp only [Act.put, List.setIfInBounds_toArray, List.set_cons_zero, List.set_cons_succ]
  refine wpAnyH_ready (rs := [13]) (by kernel_rfl) (by simp) (AllReadyH.cons (o := { dst := some 60, op := Op.buildSlice 34 1 #[(0, Operand.const (Value.int IntKind.u8 1))], type := 34, pos := "outright.go:31", after := #[{ on := 11, ground := Ground.guard }], guard := some (11, true) }) rfl (fun K13 hK13 => ?_) AllReadyH.nil)
  go_simp
  refine hK13.out _ _ (HS.out _ (hH_8.1.alloc hH_8.1.size _)) (fun hH_13 => ?_)
  have VA13 := Lib.hid (view_lit z8 [1] #[.int .u8 1] rfl)
  clear hK13 K13
  try simp only [Act.put, List.setIfInBounds_toArray, List.set_cons_zero, List.set_cons_succ]
  refine wpAnyH_ready (rs := [14]) (by kernel_rfl) (by simp) (AllReadyH.cons (o := { dst := some 61, op := Op.call { callee := Callee.value (Operand.func 5), args := #[Operand.tmp 60], argTypes := #[34] }, type := 36, pos := "outright.go:31", after := #[{ on := 13, ground := Ground.data }, { on := 11, ground := Ground.chain }, { on := 11, ground := Ground.guard }], guard := some (11, true) }) rfl (fun K14 hK14 => ?_) AllReadyH.nil)
  go_simp
  refine (ref_any _ _ _ _).mono ?_
  rintro e z14 ⟨rfl, b14⟩
  refine hK14.out _ _ (HS.out _ (hH_13.1.trans (b14.mono hH_13.1.size))) (fun hH_14 => ?_)
  have VB14 := Lib.hid (VA13.out.below b14)
  clear b14
  unfold refV
  clear hK14 K14
  try simp only [Act.put, List.setIfInBounds_toArray, List.set_cons_zero, List.set_cons_succ]
  refine wpAnyH_ready (rs := [15]) (by kernel_rfl) (by simp) (AllReadyH.cons (o := { dst := some 62, op := Op.call { callee := Callee.value (Operand.func 6), args := #[Operand.tmp 59, Operand.tmp 61, Operand.const (Value.bool true)], argTypes := #[39, 36, 4] }, type := 4, pos := "outright.go:31", after := #[{ on := 12, ground := Ground.data }, { on := 14, ground := Ground.data }, { on := 14, ground := Ground.chain }, { on := 11, ground := Ground.guard }], guard := some (11, true) }) rfl (fun K15 hK15 => ?_) AllReadyH.nil)
  go_simp
  refine (usable_any ⟨#[118]⟩ intS none 0 0 true (some ⟨d2, 0, none⟩) 1 1 none 0 0 intS _ 1 1 [] [1] 0 _ (view_nil _) (Nat.le_refl _) VB14.out (Nat.le_refl _) (DN.out.below hH_14.1) true).mono ?_
  rintro e z15 ⟨rfl, b15⟩
  rw [u15]
  refine hK15.out _ _ (HS.out _ (hH_14.1.trans (b15.mono hH_14.1.size))) (fun hH_15 => ?_)
  clear b15
  clear hK15 K15
  try simp only [Act.put, List.setIfInBounds_toArray, List.set_cons_zero, List.set_cons_succ]
  refine wpAnyH_take (i := 16) (oi := { dst := some 63, op := Op.pick (Operand.tmp 58) (Operand.tmp 62) (Operand.const (Value.bool false)), type := 4, pos := "outright.go:31", after := #[{ on := 11, ground := Ground.data }, { on := 15, ground := Ground.data }], guard := none }) (v := ?_) rfl (by kernel_rfl) (by kernel_rfl) (by kernel_rfl) (fun _ _ _ h => h) (Or.inl ⟨by rfl, ?_⟩) hH_15 ?_
  rotate_left
  · (intro w hSw; (try dsimp only at hSw); go_simp <;> with_reducible rfl)
  try simp only [Act.put, List.setIfInBounds_toArray, List.set_cons_zero, List.set_cons_succ]
  refine wpAnyH_take (i := 17) (oi := { dst := some 64, op := Op.move (Operand.tmp 63), type := 4, pos := "outright.go:31", after := #[{ on := 16, ground := Ground.data }, { on := 15, ground := Ground.chain }], guard := none }) (v := ?_) rfl (by kernel_rfl) (by kernel_rfl) (by kernel_rfl) (fun _ _ _ h => h) (Or.inl ⟨by rfl, ?_⟩) hH_15 ?_
  rotate_left
  · (intro w hSw; (try dsimp only at hSw); go_simp <;> with_reducible rfl)
  try simp only [Act.put, List.setIfInBounds_toArray, List.set_cons_zero, List.set_cons_succ]
  refine wpAnyH_ready (rs := [18, 20]) (by kernel_rfl) (by simp) (AllReadyH.cons (o := { dst := some 65, op := Op.call { callee := Callee.value (Operand.func 5), args := #[Operand.const (Value.slice none 0 0)], argTypes := #[34] }, type := 36, pos := "outright.go:31", after := #[{ on := 17, ground := Ground.chain }, { on := 17, ground := Ground.guard }], guard := some (17, true) }) rfl (fun K18 hK18 => ?_) (AllReadyH.cons (o := { dst := some 67, op := Op.buildSlice 34 1 #[(0, Operand.const (Value.int IntKind.u8 1))], type := 34, pos := "outright.go:31", after := #[{ on := 17, ground := Ground.guard }], guard := some (17, true) }) rfl (fun K20 hK20 => ?_) AllReadyH.nil))
  · go_simp
    refine (ref_any none 0 0 _).mono ?_
    rintro e z18 ⟨rfl, b18⟩
    refine hK18.out _ _ (HS.out _ (hH_15.1.trans (b18.mono hH_15.1.size))) (fun hH_18 => ?_)
    clear b18
    unfold refV
    clear hK18 K18
    try simp only [Act.put, List.setIfInBounds_toArray, List.set_cons_zero, List.set_cons_succ]
    refine wpAnyH_take (i := 19) (oi := { dst := some 66, op := Op.build 39 #[(1, Operand.tmp 65)], type := 39, pos := "outright.go:31", after := #[{ on := 18, ground := Ground.data }, { on := 17, ground := Ground.guard }], guard := some (17, true) }) (v := ?_) rfl (by kernel_rfl) (by kernel_rfl) (by kernel_rfl) (fun _ _ _ h => h) (Or.inl ⟨by rfl, ?_⟩) hH_18 ?_
    rotate_left
    · (intro w hSw; (try dsimp only at hSw); go_simp <;> with_reducible rfl)
    try simp only [Act.put, List.setIfInBounds_toArray, List.set_cons_zero, List.set_cons_succ]
    refine wpAnyH_ready (rs := [20]) (by kernel_rfl) (by simp) (AllReadyH.cons (o := { dst := some 67, op := Op.buildSlice 34 1 #[(0, Operand.const (Value.int IntKind.u8 1))], type := 34, pos := "outright.go:31", after := #[{ on := 17, ground := Ground.guard }], guard := some (17, true) }) rfl (fun K20 hK20 => ?_) AllReadyH.nil)
    go_simp
    refine hK20.out _ _ (HS.out _ (hH_18.1.alloc hH_18.1.size _)) (fun hH_20 => ?_)
    have VA20 := Lib.hid (view_lit z18 [1] #[.int .u8 1] rfl)
    clear hK20 K20
    try simp only [Act.put, List.setIfInBounds_toArray, List.set_cons_zero, List.set_cons_succ]
    refine wpAnyH_ready (rs := [21]) (by kernel_rfl) (by simp) (AllReadyH.cons (o := { dst := some 68, op := Op.call { callee := Callee.value (Operand.func 5), args := #[Operand.tmp 67], argTypes := #[34] }, type := 36, pos := "outright.go:31", after := #[{ on := 20, ground := Ground.data }, { on := 18, ground := Ground.chain }, { on := 17, ground := Ground.guard }], guard := some (17, true) }) rfl (fun K21 hK21 => ?_) AllReadyH.nil)
    go_simp
    refine (ref_any _ _ _ _).mono ?_
    rintro e z21 ⟨rfl, b21⟩
    refine hK21.out _ _ (HS.out _ (hH_20.1.trans (b21.mono hH_20.1.size))) (fun hH_21 => ?_)
    have VB21 := Lib.hid (VA20.out.below b21)
    clear b21
    unfold refV
    clear hK21 K21
    try simp only [Act.put, List.setIfInBounds_toArray, List.set_cons_zero, List.set_cons_succ]
    refine wpAnyH_ready (rs := [22]) (by kernel_rfl) (by simp) (AllReadyH.cons (o := { dst := some 69, op := Op.call { callee := Callee.value (Operand.func 6), args := #[Operand.tmp 66, Operand.tmp 68, Operand.const (Value.bool false)], argTypes := #[39, 36, 4] }, type := 4, pos := "outright.go:31", after := #[{ on := 19, ground := Ground.data }, { on := 21, ground := Ground.data }, { on := 21, ground := Ground.chain }, { on := 17, ground := Ground.guard }], guard := some (17, true) }) rfl (fun K22 hK22 => ?_) AllReadyH.nil)
    go_simp
    refine (usable_any ⟨#[]⟩ intS none 0 0 false none 0 0 none 0 0 intS _ 1 1 [] [1] 0 _ (view_nil _) (Nat.le_refl _) VB21.out (Nat.le_refl _) (fun h => by cases h) false).mono ?_
    rintro e z22 ⟨rfl, b22⟩
    rw [u22]
    refine hK22.out _ _ (HS.out _ (hH_21.1.trans (b22.mono hH_21.1.size))) (fun hH_22 => ?_)
    clear b22
    clear hK22 K22
    try simp only [Act.put, List.setIfInBounds_toArray, List.set_cons_zero, List.set_cons_succ]
    refine wpAnyH_take (i := 23) (oi := { dst := some 70, op := Op.unOp UnOp.not 4 (Operand.tmp 69), type := 4, pos := "outright.go:31", after := #[{ on := 22, ground := Ground.data }, { on := 17, ground := Ground.guard }], guard := some (17, true) }) (v := ?_) rfl (by kernel_rfl) (by kernel_rfl) (by kernel_rfl) (fun _ _ _ h => h) (Or.inl ⟨by rfl, ?_⟩) hH_22 ?_
    rotate_left
    · (intro w hSw; (try dsimp only at hSw); go_simp <;> with_reducible rfl)
    try simp only [Act.put, List.setIfInBounds_toArray, List.set_cons_zero, List.set_cons_succ]
    refine wpAnyH_take (i := 24) (oi := { dst := some 71, op := Op.pick (Operand.tmp 64) (Operand.tmp 70) (Operand.const (Value.bool false)), type := 4, pos := "outright.go:31", after := #[{ on := 17, ground := Ground.data }, { on := 23, ground := Ground.data }], guard := none }) (v := ?_) rfl (by kernel_rfl) (by kernel_rfl) (by kernel_rfl) (fun _ _ _ h => h) (Or.inl ⟨by rfl, ?_⟩) hH_22 ?_
    rotate_left
    · (intro w hSw; (try dsimp only at hSw); go_simp <;> with_reducible rfl)
    try simp only [Act.put, List.setIfInBounds_toArray, List.set_cons_zero, List.set_cons_succ]
    refine wpAnyH_take (i := 25) (oi := { dst := some 72, op := Op.move (Operand.tmp 71), type := 4, pos := "outright.go:31", after := #[{ on := 24, ground := Ground.data }, { on := 22, ground := Ground.chain }], guard := none }) (v := ?_) rfl (by kernel_rfl) (by kernel_rfl) (by kernel_rfl) (fun _ _ _ h => h) (Or.inl ⟨by rfl, ?_⟩) hH_22 ?_
    rotate_left
    · (intro w hSw; (try dsimp only at hSw); go_simp <;> with_reducible rfl)
    try simp only [Act.put, List.setIfInBounds_toArray, List.set_cons_zero, List.set_cons_succ]
    refine wpAnyH_ready (rs := [26]) (by kernel_rfl) (by simp) (AllReadyH.cons (o := { dst := some 73, op := Op.buildSlice 34 1 #[(0, Operand.const (Value.int IntKind.u8 1))], type := 34, pos := "outright.go:31", after := #[{ on := 25, ground := Ground.guard }], guard := some (25, true) }) rfl (fun K26 hK26 => ?_) AllReadyH.nil)
    go_simp
    refine hK26.out _ _ (HS.out _ (hH_22.1.alloc hH_22.1.size _)) (fun hH_26 => ?_)
    have VA26 := Lib.hid (view_lit z22 [1] #[.int .u8 1] rfl)
    clear hK26 K26
    try simp only [Act.put, List.setIfInBounds_toArray, List.set_cons_zero, List.set_cons_succ]
    refine wpAnyH_ready (rs := [27]) (by kernel_rfl) (by simp) (AllReadyH.cons (o := { dst := some 74, op := Op.call { callee := Callee.value (Operand.func 5), args := #[Operand.tmp 73], argTypes := #[34] }, type := 36, pos := "outright.go:31", after := #[{ on := 26, ground := Ground.data }, { on := 25, ground := Ground.chain }, { on := 25, ground := Ground.guard }], guard := some (25, true) }) rfl (fun K27 hK27 => ?_) AllReadyH.nil)
    go_simp
    refine (ref_any _ _ _ _).mono ?_
    rintro e z27 ⟨rfl, b27⟩
    refine hK27.out _ _ (HS.out _ (hH_26.1.trans (b27.mono hH_26.1.size))) (fun hH_27 => ?_)
    have VB27 := Lib.hid (VA26.out.below b27)
    clear b27
    unfold refV
    clear hK27 K27
    try simp only [Act.put, List.setIfInBounds_toArray, List.set_cons_zero, List.set_cons_succ]
    refine wpAnyH_take (i := 28) (oi := { dst := some 75, op := Op.build 39 #[(1, Operand.tmp 74)], type := 39, pos := "outright.go:31", after := #[{ on := 27, ground := Ground.data }, { on := 25, ground := Ground.guard }], guard := some (25, true) }) (v := ?_) rfl (by kernel_rfl) (by kernel_rfl) (by kernel_rfl) (fun _ _ _ h => h) (Or.inl ⟨by rfl, ?_⟩) hH_27 ?_
    rotate_left
    · (intro w hSw; (try dsimp only at hSw); go_simp <;> with_reducible rfl)
    try simp only [Act.put, List.setIfInBounds_toArray, List.set_cons_zero, List.set_cons_succ]
    refine wpAnyH_ready (rs := [29]) (by kernel_rfl) (by simp) (AllReadyH.cons (o := { dst := some 76, op := Op.call { callee := Callee.value (Operand.func 5), args := #[Operand.const (Value.slice none 0 0)], argTypes := #[34] }, type := 36, pos := "outright.go:31", after := #[{ on := 27, ground := Ground.chain }, { on := 25, ground := Ground.guard }], guard := some (25, true) }) rfl (fun K29 hK29 => ?_) AllReadyH.nil)
    go_simp
    refine (ref_any none 0 0 _).mono ?_
    rintro e z29 ⟨rfl, b29⟩
    refine hK29.out _ _ (HS.out _ (hH_27.1.trans (b29.mono hH_27.1.size))) (fun hH_29 => ?_)
    have VB29 := Lib.hid (VB27.out.below b29)
    clear b29
    unfold refV
    clear hK29 K29
    try simp only [Act.put, List.setIfInBounds_toArray, List.set_cons_zero, List.set_cons_succ]
    refine wpAnyH_ready (rs := [30]) (by kernel_rfl) (by simp) (AllReadyH.cons (o := { dst := some 77, op := Op.call { callee := Callee.value (Operand.func 6), args := #[Operand.tmp 75, Operand.tmp 76, Operand.const (Value.bool false)], argTypes := #[39, 36, 4] }, type := 4, pos := "outright.go:31", after := #[{ on := 28, ground := Ground.data }, { on := 29, ground := Ground.data }, { on := 29, ground := Ground.chain }, { on := 25, ground := Ground.guard }], guard := some (25, true) }) rfl (fun K30 hK30 => ?_) AllReadyH.nil)
    go_simp
    refine (usable_any ⟨#[]⟩ intS _ 1 1 false none 0 0 none 0 0 intS none 0 0 [1] [] 0 _ VB29.out (Nat.le_refl _) (view_nil _) (Nat.le_refl _) (fun h => by cases h) false).mono ?_
    rintro e z30 ⟨rfl, b30⟩
    rw [u30]
    refine hK30.out _ _ (HS.out _ (hH_29.1.trans (b30.mono hH_29.1.size))) (fun hH_30 => ?_)
    clear b30
    clear hK30 K30
    try simp only [Act.put, List.setIfInBounds_toArray, List.set_cons_zero, List.set_cons_succ]
    refine wpAnyH_take (i := 31) (oi := { dst := some 78, op := Op.pick (Operand.tmp 72) (Operand.tmp 77) (Operand.const (Value.bool false)), type := 4, pos := "outright.go:31", after := #[{ on := 25, ground := Ground.data }, { on := 30, ground := Ground.data }], guard := none }) (v := ?_) rfl (by kernel_rfl) (by kernel_rfl) (by kernel_rfl) (fun _ _ _ h => h) (Or.inl ⟨by rfl, ?_⟩) hH_30 ?_
    rotate_left
    · (intro w hSw; (try dsimp only at hSw); go_simp <;> with_reducible rfl)
    try simp only [Act.put, List.setIfInBounds_toArray, List.set_cons_zero, List.set_cons_succ]
    refine wpAnyH_take (i := 32) (oi := { dst := some 13, op := Op.assign (Operand.tmp 78), type := 4, pos := "outright.go:31", after := #[{ on := 31, ground := Ground.data }, { on := 30, ground := Ground.chain }, { on := 0, ground := Ground.phase }, { on := 1, ground := Ground.phase }, { on := 2, ground := Ground.phase }, { on := 3, ground := Ground.phase }, { on := 4, ground := Ground.phase }, { on := 5, ground := Ground.phase }, { on := 6, ground := Ground.phase }, { on := 7, ground := Ground.phase }, { on := 8, ground := Ground.phase }, { on := 9, ground := Ground.phase }, { on := 10, ground := Ground.phase }, { on := 11, ground := Ground.phase }, { on := 12, ground := Ground.phase }, { on := 13, ground := Ground.phase }, { on := 14, ground := Ground.phase }, { on := 15, ground := Ground.phase }, { on := 16, ground := Ground.phase }, { on := 17, ground := Ground.phase }, { on := 18, ground := Ground.phase }, { on := 19, ground := Ground.phase }, { on := 20, ground := Ground.phase }, { on := 21, ground := Ground.phase }, { on := 22, ground := Ground.phase }, { on := 23, ground := Ground.phase }, { on := 24, ground := Ground.phase }, { on := 25, ground := Ground.phase }, { on := 26, ground := Ground.phase }, { on := 27, ground := Ground.phase }, { on := 28, ground := Ground.phase }, { on := 29, ground := Ground.phase }, { on := 30, ground := Ground.phase }, { on := 31, ground := Ground.phase }], guard := none }) (v := ?_) rfl (by kernel_rfl) (by kernel_rfl) (by kernel_rfl) (fun _ _ _ h => h) (Or.inl ⟨by rfl, ?_⟩) hH_30 ?_
    rotate_left
    · (intro w hSw; (try dsimp only at hSw); go_simp <;> with_reducible rfl)
    try simp only [Act.put, List.setIfInBounds_toArray, List.set_cons_zero, List.set_cons_succ]
    refine wpAnyH_done (by kernel_rfl) ?_ _
    have hLast := Lib.hid (BW.out.trans (hH_30.1.mono BW.out.size))
    clear HS
    go_wp2_with fail
    refine (alive_true _).mono ?_
    rintro e wz ⟨rfl, bz⟩
    have hL2 := Lib.hid (hLast.out.trans (bz.mono hLast.out.size))
    clear bz
    go_wp2_with fail
    go_ret
    exact ⟨rfl, hL2.out⟩
  · go_simp
    refine hK20.out _ _ (HS.out _ (hH_15.1.alloc hH_15.1.size _)) (fun hH_20 => ?_)
    have VA20 := Lib.hid (view_lit z15 [1] #[.int .u8 1] rfl)
    clear hK20 K20
    try simp only [Act.put, List.setIfInBounds_toArray, List.set_cons_zero, List.set_cons_succ]
    refine wpAnyH_ready (rs := [18]) (by kernel_rfl) (by simp) (AllReadyH.cons (o := { dst := some 65, op := Op.call { callee := Callee.value (Operand.func 5), args := #[Operand.const (Value.slice none 0 0)], argTypes := #[34] }, type := 36, pos := "outright.go:31", after := #[{ on := 17, ground := Ground.chain }, { on := 17, ground := Ground.guard }], guard := some (17, true) }) rfl (fun K18 hK18 => ?_) AllReadyH.nil)
    go_simp
    refine (ref_any none 0 0 _).mono ?_
    rintro e z18 ⟨rfl, b18⟩
    refine hK18.out _ _ (HS.out _ (hH_20.1.trans (b18.mono hH_20.1.size))) (fun hH_18 => ?_)
    have VB18 := Lib.hid (VA20.out.below b18)
    clear b18
    unfold refV
    clear hK18 K18
    try simp only [Act.put, List.setIfInBounds_toArray, List.set_cons_zero, List.set_cons_succ]
    refine wpAnyH_take (i := 19) (oi := { dst := some 66, op := Op.build 39 #[(1, Operand.tmp 65)], type := 39, pos := "outright.go:31", after := #[{ on := 18, ground := Ground.data }, { on := 17, ground := Ground.guard }], guard := some (17, true) }) (v := ?_) rfl (by kernel_rfl) (by kernel_rfl) (by kernel_rfl) (fun _ _ _ h => h) (Or.inl ⟨by rfl, ?_⟩) hH_18 ?_
    rotate_left
    · (intro w hSw; (try dsimp only at hSw); go_simp <;> with_reducible rfl)
    try simp only [Act.put, List.setIfInBounds_toArray, List.set_cons_zero, List.set_cons_succ]
    refine wpAnyH_ready (rs := [21]) (by kernel_rfl) (by simp) (AllReadyH.cons (o := { dst := some 68, op := Op.call { callee := Callee.value (Operand.func 5), args := #[Operand.tmp 67], argTypes := #[34] }, type := 36, pos := "outright.go:31", after := #[{ on := 20, ground := Ground.data }, { on := 18, ground := Ground.chain }, { on := 17, ground := Ground.guard }], guard := some (17, true) }) rfl (fun K21 hK21 => ?_) AllReadyH.nil)
    go_simp
    refine (ref_any _ _ _ _).mono ?_
    rintro e z21 ⟨rfl, b21⟩
    refine hK21.out _ _ (HS.out _ (hH_18.1.trans (b21.mono hH_18.1.size))) (fun hH_21 => ?_)
    have VB21 := Lib.hid (VB18.out.below b21)
    clear b21
    unfold refV
    clear hK21 K21
    try simp only [Act.put, List.setIfInBounds_toArray, List.set_cons_zero, List.set_cons_succ]
    refine wpAnyH_ready (rs := [22]) (by kernel_rfl) (by simp) (AllReadyH.cons (o := { dst := some 69, op := Op.call { callee := Callee.value (Operand.func 6), args := #[Operand.tmp 66, Operand.tmp 68, Operand.const (Value.bool false)], argTypes := #[39, 36, 4] }, type := 4, pos := "outright.go:31", after := #[{ on := 19, ground := Ground.data }, { on := 21, ground := Ground.data }, { on := 21, ground := Ground.chain }, { on := 17, ground := Ground.guard }], guard := some (17, true) }) rfl (fun K22 hK22 => ?_) AllReadyH.nil)
    go_simp
    refine (usable_any ⟨#[]⟩ intS none 0 0 false none 0 0 none 0 0 intS _ 1 1 [] [1] 0 _ (view_nil _) (Nat.le_refl _) VB21.out (Nat.le_refl _) (fun h => by cases h) false).mono ?_
    rintro e z22 ⟨rfl, b22⟩
    rw [u22]
    refine hK22.out _ _ (HS.out _ (hH_21.1.trans (b22.mono hH_21.1.size))) (fun hH_22 => ?_)
    clear b22
    clear hK22 K22
    try simp only [Act.put, List.setIfInBounds_toArray, List.set_cons_zero, List.set_cons_succ]
    refine wpAnyH_take (i := 23) (oi := { dst := some 70, op := Op.unOp UnOp.not 4 (Operand.tmp 69), type := 4, pos := "outright.go:31", after := #[{ on := 22, ground := Ground.data }, { on := 17, ground := Ground.guard }], guard := some (17, true) }) (v := ?_) rfl (by kernel_rfl) (by kernel_rfl) (by kernel_rfl) (fun _ _ _ h => h) (Or.inl ⟨by rfl, ?_⟩) hH_22 ?_
    rotate_left
    · (intro w hSw; (try dsimp only at hSw); go_simp <;> with_reducible rfl)
    try simp only [Act.put, List.setIfInBounds_toArray, List.set_cons_zero, List.set_cons_succ]
    refine wpAnyH_take (i := 24) (oi := { dst := some 71, op := Op.pick (Operand.tmp 64) (Operand.tmp 70) (Operand.const (Value.bool false)), type := 4, pos := "outright.go:31", after := #[{ on := 17, ground := Ground.data }, { on := 23, ground := Ground.data }], guard := none }) (v := ?_) rfl (by kernel_rfl) (by kernel_rfl) (by kernel_rfl) (fun _ _ _ h => h) (Or.inl ⟨by rfl, ?_⟩) hH_22 ?_
    rotate_left
    · (intro w hSw; (try dsimp only at hSw); go_simp <;> with_reducible rfl)
    try simp only [Act.put, List.setIfInBounds_toArray, List.set_cons_zero, List.set_cons_succ]
    refine wpAnyH_take (i := 25) (oi := { dst := some 72, op := Op.move (Operand.tmp 71), type := 4, pos := "outright.go:31", after := #[{ on := 24, ground := Ground.data }, { on := 22, ground := Ground.chain }], guard := none }) (v := ?_) rfl (by kernel_rfl) (by kernel_rfl) (by kernel_rfl) (fun _ _ _ h => h) (Or.inl ⟨by rfl, ?_⟩) hH_22 ?_
    rotate_left
    · (intro w hSw; (try dsimp only at hSw); go_simp <;> with_reducible rfl)
    try simp only [Act.put, List.setIfInBounds_toArray, List.set_cons_zero, List.set_cons_succ]
    refine wpAnyH_ready (rs := [26]) (by kernel_rfl) (by simp) (AllReadyH.cons (o := { dst := some 73, op := Op.buildSlice 34 1 #[(0, Operand.const (Value.int IntKind.u8 1))], type := 34, pos := "outright.go:31", after := #[{ on := 25, ground := Ground.guard }], guard := some (25, true) }) rfl (fun K26 hK26 => ?_) AllReadyH.nil)
    go_simp
    refine hK26.out _ _ (HS.out _ (hH_22.1.alloc hH_22.1.size _)) (fun hH_26 => ?_)
    have VA26 := Lib.hid (view_lit z22 [1] #[.int .u8 1] rfl)
    clear hK26 K26
    try simp only [Act.put, List.setIfInBounds_toArray, List.set_cons_zero, List.set_cons_succ]
    refine wpAnyH_ready (rs := [27]) (by kernel_rfl) (by simp) (AllReadyH.cons (o := { dst := some 74, op := Op.call { callee := Callee.value (Operand.func 5), args := #[Operand.tmp 73], argTypes := #[34] }, type := 36, pos := "outright.go:31", after := #[{ on := 26, ground := Ground.data }, { on := 25, ground := Ground.chain }, { on := 25, ground := Ground.guard }], guard := some (25, true) }) rfl (fun K27 hK27 => ?_) AllReadyH.nil)
    go_simp
    refine (ref_any _ _ _ _).mono ?_
    rintro e z27 ⟨rfl, b27⟩
    refine hK27.out _ _ (HS.out _ (hH_26.1.trans (b27.mono hH_26.1.size))) (fun hH_27 => ?_)
    have VB27 := Lib.hid (VA26.out.below b27)
    clear b27
    unfold refV
    clear hK27 K27
    try simp only [Act.put, List.setIfInBounds_toArray, List.set_cons_zero, List.set_cons_succ]
    refine wpAnyH_take (i := 28) (oi := { dst := some 75, op := Op.build 39 #[(1, Operand.tmp 74)], type := 39, pos := "outright.go:31", after := #[{ on := 27, ground := Ground.data }, { on := 25, ground := Ground.guard }], guard := some (25, true) }) (v := ?_) rfl (by kernel_rfl) (by kernel_rfl) (by kernel_rfl) (fun _ _ _ h => h) (Or.inl ⟨by rfl, ?_⟩) hH_27 ?_
    rotate_left
    · (intro w hSw; (try dsimp only at hSw); go_simp <;> with_reducible rfl)
    try simp only [Act.put, List.setIfInBounds_toArray, List.set_cons_zero, List.set_cons_succ]
    refine wpAnyH_ready (rs := [29]) (by kernel_rfl) (by simp) (AllReadyH.cons (o := { dst := some 76, op := Op.call { callee := Callee.value (Operand.func 5), args := #[Operand.const (Value.slice none 0 0)], argTypes := #[34] }, type := 36, pos := "outright.go:31", after := #[{ on := 27, ground := Ground.chain }, { on := 25, ground := Ground.guard }], guard := some (25, true) }) rfl (fun K29 hK29 => ?_) AllReadyH.nil)
    go_simp
    refine (ref_any none 0 0 _).mono ?_
    rintro e z29 ⟨rfl, b29⟩
    refine hK29.out _ _ (HS.out _ (hH_27.1.trans (b29.mono hH_27.1.size))) (fun hH_29 => ?_)
    have VB29 := Lib.hid (VB27.out.below b29)
    clear b29
    unfold refV
    clear hK29 K29
    try simp only [Act.put, List.setIfInBounds_toArray, List.set_cons_zero, List.set_cons_succ]
    refine wpAnyH_ready (rs := [30]) (by kernel_rfl) (by simp) (AllReadyH.cons (o := { dst := some 77, op := Op.call { callee := Callee.value (Operand.func 6), args := #[Operand.tmp 75, Operand.tmp 76, Operand.const (Value.bool false)], argTypes := #[39, 36, 4] }, type := 4, pos := "outright.go:31", after := #[{ on := 28, ground := Ground.data }, { on := 29, ground := Ground.data }, { on := 29, ground := Ground.chain }, { on := 25, ground := Ground.guard }], guard := some (25, true) }) rfl (fun K30 hK30 => ?_) AllReadyH.nil)
    go_simp
    refine (usable_any ⟨#[]⟩ intS _ 1 1 false none 0 0 none 0 0 intS none 0 0 [1] [] 0 _ VB29.out (Nat.le_refl _) (view_nil _) (Nat.le_refl _) (fun h => by cases h) false).mono ?_
    rintro e z30 ⟨rfl, b30⟩
    rw [u30]
    refine hK30.out _ _ (HS.out _ (hH_29.1.trans (b30.mono hH_29.1.size))) (fun hH_30 => ?_)
    clear b30
    clear hK30 K30
    try simp only [Act.put, List.setIfInBounds_toArray, List.set_cons_zero, List.set_cons_succ]
    refine wpAnyH_take (i := 31) (oi := { dst := some 78, op := Op.pick (Operand.tmp 72) (Operand.tmp 77) (Operand.const (Value.bool false)), type := 4, pos := "outright.go:31", after := #[{ on := 25, ground := Ground.data }, { on := 30, ground := Ground.data }], guard := none }) (v := ?_) rfl (by kernel_rfl) (by kernel_rfl) (by kernel_rfl) (fun _ _ _ h => h) (Or.inl ⟨by rfl, ?_⟩) hH_30 ?_
    rotate_left
    · (intro w hSw; (try dsimp only at hSw); go_simp <;> with_reducible rfl)
    try simp only [Act.put, List.setIfInBounds_toArray, List.set_cons_zero, List.set_cons_succ]
    refine wpAnyH_take (i := 32) (oi := { dst := some 13, op := Op.assign (Operand.tmp 78), type := 4, pos := "outright.go:31", after := #[{ on := 31, ground := Ground.data }, { on := 30, ground := Ground.chain }, { on := 0, ground := Ground.phase }, { on := 1, ground := Ground.phase }, { on := 2, ground := Ground.phase }, { on := 3, ground := Ground.phase }, { on := 4, ground := Ground.phase }, { on := 5, ground := Ground.phase }, { on := 6, ground := Ground.phase }, { on := 7, ground := Ground.phase }, { on := 8, ground := Ground.phase }, { on := 9, ground := Ground.phase }, { on := 10, ground := Ground.phase }, { on := 11, ground := Ground.phase }, { on := 12, ground := Ground.phase }, { on := 13, ground := Ground.phase }, { on := 14, ground := Ground.phase }, { on := 15, ground := Ground.phase }, { on := 16, ground := Ground.phase }, { on := 17, ground := Ground.phase }, { on := 18, ground := Ground.phase }, { on := 19, ground := Ground.phase }, { on := 20, ground := Ground.phase }, { on := 21, ground := Ground.phase }, { on := 22, ground := Ground.phase }, { on := 23, ground := Ground.phase }, { on := 24, ground := Ground.phase }, { on := 25, ground := Ground.phase }, { on := 26, ground := Ground.phase }, { on := 27, ground := Ground.phase }, { on := 28, ground := Ground.phase }, { on := 29, ground := Ground.phase }, { on := 30, ground := Ground.phase }, { on := 31, ground := Ground.phase }], guard := none }) (v := ?_) rfl (by kernel_rfl) (by kernel_rfl) (by kernel_rfl) (fun _ _ _ h => h) (Or.inl ⟨by rfl, ?_⟩) hH_30 ?_
    rotate_left
    · (intro w hSw; (try dsimp only at hSw); go_simp <;> with_reducible rfl)
    try simp only [Act.put, List.setIfInBounds_toArray, List.set_cons_zero, List.set_cons_succ]
    refine wpAnyH_done (by kernel_rfl) ?_ _
    have hLast := Lib.hid (BW.out.trans (hH_30.1.mono BW.out.size))
    clear HS
    go_wp2_with fail
    refine (alive_true _).mono ?_
    rintro e wz ⟨rfl, bz⟩
    have hL2 := Lib.hid (hLast.out.trans (bz.mono hLast.out.size))
    clear bz
    go_wp2_with fail
    go_ret
    exact ⟨rfl, hL2.out⟩
end Go.Proofs.Ytfphejndbnmfeaa

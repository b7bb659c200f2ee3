import Derived.Test.YtjcaadihkbhlhaaDoorB0
namespace Go.Proofs.YtjcaadihkbhlhaaDoor
open Go.RowKit
set_option maxRecDepth 20000 in
set_option maxHeartbeats 2000000 in
theorem isScheme_any (s : ByteArray) (hs : s.size ≤ 1000000) (w : World) : Calls Tryd.prog 35 #[.string s] w fun e w' => e = .returned (.bool (schemeP s.data.toList)) ∧ Below w.heap.size w w' := by
  by_cases h0 : s.size = 0
  · exact isScheme_nil s h0 w
  · have hpos : 0 < s.size := by omega
    have hne := text_ne hpos
    have hposI : (0 : Int) < s.size := by omega
    have hie : s.toList.isEmpty = false := by cases e : s.toList with
      | nil => exact absurd e hne
      | cons _ _ => rfl
    have HP : Hid (schemeP s.data.toList = (letterB s[0] && (s.data.toList.drop 1).all schemeB)) := Lib.hid (by
      have := drop_at s 0 hpos
      rw [List.drop_zero] at this
      rw [this]; rfl)
    have HALL : Hid (s.data.toList.all schemeB = (schemeB s[0] && (s.data.toList.drop 1).all schemeB)) := Lib.hid (by
      have := all_at schemeB s 0 hpos
      rwa [List.drop_zero] at this)
    have M2 := Lib.hid (fun W => marks_lit #[.string ⟨#[97, 98, 99, 100, 101, 102, 103, 104, 105, 106, 107, 108, 109, 110, 111, 112, 113, 114, 115, 116, 117, 118, 119, 120, 121, 122]⟩, .string ⟨#[65, 66, 67, 68, 69, 70, 71, 72, 73, 74, 75, 76, 77, 78, 79, 80, 81, 82, 83, 84, 85, 86, 87, 88, 89, 90]⟩] letT rfl (by decide) (by decide) (by decide) W)
    have M4 := Lib.hid (fun W => marks_lit #[.string ⟨#[97, 98, 99, 100, 101, 102, 103, 104, 105, 106, 107, 108, 109, 110, 111, 112, 113, 114, 115, 116, 117, 118, 119, 120, 121, 122]⟩, .string ⟨#[65, 66, 67, 68, 69, 70, 71, 72, 73, 74, 75, 76, 77, 78, 79, 80, 81, 82, 83, 84, 85, 86, 87, 88, 89, 90]⟩, .string ⟨#[48, 49, 50, 51, 52, 53, 54, 55, 56, 57]⟩, .string ⟨#[43, 45, 46]⟩] schT rfl (by decide) (by decide) (by decide) W)
    have HB := Lib.hid (fun b W => has_any (flat letT) b W)
    have HLB := Lib.hid let_set
    have IPL := Lib.hid (fun W => isPlain_any s (flat schT) schemeB sch_set hs W)
    unfold setV setC at M2 M4 HB IPL
    obtain ⟨a0, ha0⟩ : ∃ a : Int, a = ((wd (flat letT) 0 : Nat) : Int) := ⟨_, rfl⟩
    obtain ⟨a1, ha1⟩ : ∃ a : Int, a = ((wd (flat letT) 1 : Nat) : Int) := ⟨_, rfl⟩
    obtain ⟨a2, ha2⟩ : ∃ a : Int, a = ((wd (flat letT) 2 : Nat) : Int) := ⟨_, rfl⟩
    obtain ⟨a3, ha3⟩ : ∃ a : Int, a = ((wd (flat letT) 3 : Nat) : Int) := ⟨_, rfl⟩
    obtain ⟨c0, hc0⟩ : ∃ a : Int, a = ((wd (flat schT) 0 : Nat) : Int) := ⟨_, rfl⟩
    obtain ⟨c1, hc1⟩ : ∃ a : Int, a = ((wd (flat schT) 1 : Nat) : Int) := ⟨_, rfl⟩
    obtain ⟨c2, hc2⟩ : ∃ a : Int, a = ((wd (flat schT) 2 : Nat) : Int) := ⟨_, rfl⟩
    obtain ⟨c3, hc3⟩ : ∃ a : Int, a = ((wd (flat schT) 3 : Nat) : Int) := ⟨_, rfl⟩
    rw [← ha0, ← ha1, ← ha2, ← ha3] at M2 HB
    rw [← hc0, ← hc1, ← hc2, ← hc3] at M4 IPL
    clear ha0 ha1 ha2 ha3 hc0 hc1 hc2 hc3
    obtain ⟨b, hb⟩ : ∃ b, b = s[0] := ⟨_, rfl⟩
    rw [← hb] at HP HALL
    have k0 : ∀ q : 0 < s.size, (s[0].toNat : Int) = (b.toNat : Nat) := fun q => by rw [hb]
    clear hb
    have hSS : Below w.heap.size w w.drew := (Below.refl _ _).drew
    have CM : Hid (∀ W' B n C V, (∃ W, Below w.heap.size w W ∧ B = W.heap.size ∧ (W' = W.alloc (.cells C 9) ∨ W' = (W.alloc (.cells C 9)).drew)) → ((n = 2 ∧ C = #[.string ⟨#[97, 98, 99, 100, 101, 102, 103, 104, 105, 106, 107, 108, 109, 110, 111, 112, 113, 114, 115, 116, 117, 118, 119, 120, 121, 122]⟩, .string ⟨#[65, 66, 67, 68, 69, 70, 71, 72, 73, 74, 75, 76, 77, 78, 79, 80, 81, 82, 83, 84, 85, 86, 87, 88, 89, 90]⟩] ∧ V = (.agg #[.int .u64 a0, .int .u64 a1, .int .u64 a2, .int .u64 a3])) ∨ (n = 4 ∧ C = #[.string ⟨#[97, 98, 99, 100, 101, 102, 103, 104, 105, 106, 107, 108, 109, 110, 111, 112, 113, 114, 115, 116, 117, 118, 119, 120, 121, 122]⟩, .string ⟨#[65, 66, 67, 68, 69, 70, 71, 72, 73, 74, 75, 76, 77, 78, 79, 80, 81, 82, 83, 84, 85, 86, 87, 88, 89, 90]⟩, .string ⟨#[48, 49, 50, 51, 52, 53, 54, 55, 56, 57]⟩, .string ⟨#[43, 45, 46]⟩] ∧ V = (.agg #[.int .u64 c0, .int .u64 c1, .int .u64 c2, .int .u64 c3]))) → Calls Tryd.prog 39 #[.slice (some ⟨B, 0, none⟩) n n] W' fun e w' => e = .returned V ∧ Below w.heap.size w w') :=
      Lib.hid (fun W' B n C V hw q => by
        obtain ⟨W, h, rfl, hw⟩ := hw
        have e : W' = W.alloc (.cells C 9) ∨ W' = W.drew.alloc (.cells C 9) := hw
        rcases q with ⟨rfl, rfl, rfl⟩ | ⟨rfl, rfl, rfl⟩
        · rcases e with rfl | rfl
          · exact (M2.out W).mono fun e w' z => ⟨z.1, h.trans (z.2.mono h.size)⟩
          · exact (M2.out W.drew).mono fun e w' z => ⟨z.1, h.drew.trans (z.2.mono h.size)⟩
        · rcases e with rfl | rfl
          · exact (M4.out W).mono fun e w' z => ⟨z.1, h.trans (z.2.mono h.size)⟩
          · exact (M4.out W.drew).mono fun e w' z => ⟨z.1, h.drew.trans (z.2.mono h.size)⟩)
    have CH : Hid (∀ W, Below w.heap.size w W → Calls Tryd.prog 49 #[(.agg #[.int .u64 a0, .int .u64 a1, .int .u64 a2, .int .u64 a3]), .int .u8 (b.toNat : Nat)] W fun e w' => e = .returned (.bool (letterB b)) ∧ Below w.heap.size w w') :=
      Lib.hid (fun W h => (HB.out b W).mono fun e w' z => ⟨by rw [z.1, HLB.out b], h.trans (z.2.mono h.size)⟩)
    have CP : Hid (∀ W, Below w.heap.size w W → Calls Tryd.prog 38 #[.string s, (.agg #[.int .u64 c0, .int .u64 c1, .int .u64 c2, .int .u64 c3])] W fun e w' => e = .returned (.bool (s.data.toList.all schemeB)) ∧ Below w.heap.size w w') :=
      Lib.hid (fun W h => (IPL.out W).mono fun e w' z => ⟨z.1, h.trans (z.2.mono h.size)⟩)
    obtain ⟨g, hg⟩ : ∃ g, g = letterB b := ⟨_, rfl⟩
    obtain ⟨r, hr⟩ : ∃ g, g = s.data.toList.all schemeB := ⟨_, rfl⟩
    have HR : Hid (g = true → r = schemeP s.data.toList) := Lib.hid (fun q => by
      rw [hr, HALL.out, HP.out]
      have : letterB b = true := by rw [← hg, q]
      have e : schemeB b = true := by unfold schemeB; rw [this]; rfl
      rw [e, this])
    have HR0 : Hid (g = false → schemeP s.data.toList = false) := Lib.hid (fun q => by
      rw [HP.out, ← hg, q]; rfl)
    rw [← hg] at CH
    rw [← hr] at CP
    clear hg hr M2 M4 HB IPL
    cases g with
    | true =>
      have HRR := Lib.hid (HR.out rfl)
      go_enter Tryd.func35, Tryd.ntmps35
      go_wp2_with fail
      refine wp_region_held_drew (S := fun w' => Below w.heap.size w w') (by kernel_rfl) hSS (fun hHeld => ?_)
      refine wpAnyH_take (i := 0) (oi := { dst := some 3, op := Op.move (Operand.tmp 0), type := 9, pos := "address.go:96", after := #[], guard := none }) (v := .string s) rfl (by kernel_rfl) (by kernel_rfl) (by kernel_rfl) (fun _ _ _ h => h) (Or.inl ⟨by rfl, fun w hSw => by (go_simp <;> rfl)⟩) hHeld ?_
      try simp only [Act.put, List.setIfInBounds_toArray, List.set_cons_zero, List.set_cons_succ]
      refine wpAnyH_take (i := 1) (oi := { dst := some 4, op := Op.binOp BinOp.neq 9 (Operand.tmp 3) (Operand.const (Value.string { data := #[] })) 9, type := 4, pos := "address.go:96", after := #[{ on := 0, ground := Ground.data }], guard := none }) (v := .bool true) rfl (by kernel_rfl) (by kernel_rfl) (by kernel_rfl) (fun _ _ _ h => h) (Or.inl ⟨by rfl, fun w hSw => by (go_simp <;> rfl)⟩) hHeld ?_
      try simp only [Act.put, List.setIfInBounds_toArray, List.set_cons_zero, List.set_cons_succ]
      refine wpAnyH_take (i := 2) (oi := { dst := some 5, op := Op.move (Operand.tmp 4), type := 4, pos := "address.go:96", after := #[{ on := 1, ground := Ground.data }], guard := none }) (v := .bool true) rfl (by kernel_rfl) (by kernel_rfl) (by kernel_rfl) (fun _ _ _ h => h) (Or.inl ⟨by rfl, fun w hSw => by (go_simp <;> rfl)⟩) hHeld ?_
      try simp only [Act.put, List.setIfInBounds_toArray, List.set_cons_zero, List.set_cons_succ]
      refine wpAnyH_take (i := 5) (oi := { dst := some 8, op := Op.move (Operand.tmp 0), type := 9, pos := "address.go:96", after := #[{ on := 2, ground := Ground.guard }], guard := some (2, true) }) (v := .string s) rfl (by kernel_rfl) (by kernel_rfl) (by kernel_rfl) (fun _ _ _ h => h) (Or.inl ⟨by rfl, fun w hSw => by (go_simp <;> rfl)⟩) hHeld ?_
      try simp only [Act.put, List.setIfInBounds_toArray, List.set_cons_zero, List.set_cons_succ]
      refine wpAnyH_take (i := 6) (oi := { dst := some 9, op := Op.index 9 (Operand.tmp 8) (Operand.const (Value.int IntKind.i64 0)), type := 5, pos := "address.go:96", after := #[{ on := 5, ground := Ground.data }, { on := 2, ground := Ground.guard }], guard := some (2, true) }) (v := .int .u8 ((b.toNat : Nat) : Int)) rfl (by kernel_rfl) (by kernel_rfl) (by kernel_rfl) (fun _ _ _ h => h) (Or.inl ⟨by rfl, fun w hSw => by (go_simp; try rfl)⟩) hHeld ?_
      try simp only [Act.put, List.setIfInBounds_toArray, List.set_cons_zero, List.set_cons_succ]
      refine wpAnyH_ready (rs := [3]) (by kernel_rfl) (by simp) (AllReadyH.cons (o := { dst := some 6, op := Op.buildSlice 80 2 #[(0, Operand.const (Value.string { data := #[97, 98, 99, 100, 101, 102, 103, 104, 105, 106, 107, 108, 109, 110, 111, 112, 113, 114, 115, 116, 117, 118, 119, 120, 121, 122] })), (1, Operand.const (Value.string { data := #[65, 66, 67, 68, 69, 70, 71, 72, 73, 74, 75, 76, 77, 78, 79, 80, 81, 82, 83, 84, 85, 86, 87, 88, 89, 90] }))], type := 80, pos := "address.go:96", after := #[{ on := 2, ground := Ground.guard }], guard := some (2, true) }) rfl (fun K3 hK3 => ?_) AllReadyH.nil)
      go_simp
      refine hK3.out _ _ (below_al hHeld _ (Nat.le_refl _)) (fun hH5_3 => ?_)
      clear hK3 K3
      try simp only [Act.put, List.setIfInBounds_toArray, List.set_cons_zero, List.set_cons_succ]
      refine wpAnyH_ready (rs := [4]) (by kernel_rfl) (by simp) (AllReadyH.cons (o := { dst := some 7, op := Op.call { callee := Callee.value (Operand.func 39), args := #[Operand.tmp 6], argTypes := #[80] }, type := 60, pos := "address.go:96", after := #[{ on := 3, ground := Ground.data }, { on := 2, ground := Ground.chain }, { on := 2, ground := Ground.guard }], guard := some (2, true) }) rfl (fun K4 hK4 => ?_) AllReadyH.nil)
      go_simp
      refine (CM.out _ _ _ _ _ ⟨w, Below.refl _ _, rfl, .inr rfl⟩ (.inl ⟨rfl, rfl, rfl⟩)).mono ?_
      rintro e w4 ⟨rfl, hs4⟩
      refine hK4.out _ _ hs4 (fun hH6_4 => ?_)
      clear hK4 K4
      try simp only [Act.put, List.setIfInBounds_toArray, List.set_cons_zero, List.set_cons_succ]
      refine wpAnyH_ready (rs := [7]) (by kernel_rfl) (by simp) (AllReadyH.cons (o := { dst := some 10, op := Op.call { callee := Callee.value (Operand.func 49), args := #[Operand.tmp 7, Operand.tmp 9], argTypes := #[60, 5] }, type := 4, pos := "address.go:96", after := #[{ on := 4, ground := Ground.data }, { on := 6, ground := Ground.data }, { on := 4, ground := Ground.chain }, { on := 2, ground := Ground.guard }], guard := some (2, true) }) rfl (fun K7 hK7 => ?_) AllReadyH.nil)
      go_simp
      refine (CH.out _ hH6_4).mono ?_
      rintro e w7 ⟨rfl, hs7⟩
      refine hK7.out _ _ hs7 (fun hH7_7 => ?_)
      clear hK7 K7
      try simp only [Act.put, List.setIfInBounds_toArray, List.set_cons_zero, List.set_cons_succ]
      refine wpAnyH_take (i := 8) (oi := { dst := some 11, op := Op.pick (Operand.tmp 5) (Operand.tmp 10) (Operand.const (Value.bool false)), type := 4, pos := "address.go:96", after := #[{ on := 2, ground := Ground.data }, { on := 7, ground := Ground.data }], guard := none }) (v := .bool true) rfl (by kernel_rfl) (by kernel_rfl) (by kernel_rfl) (fun _ _ _ h => h) (Or.inl ⟨by rfl, fun w hSw => by (go_simp <;> rfl)⟩) hH7_7 ?_
      try simp only [Act.put, List.setIfInBounds_toArray, List.set_cons_zero, List.set_cons_succ]
      refine wpAnyH_take (i := 9) (oi := { dst := some 12, op := Op.move (Operand.tmp 11), type := 4, pos := "address.go:96", after := #[{ on := 8, ground := Ground.data }, { on := 7, ground := Ground.chain }], guard := none }) (v := .bool true) rfl (by kernel_rfl) (by kernel_rfl) (by kernel_rfl) (fun _ _ _ h => h) (Or.inl ⟨by rfl, fun w hSw => by (go_simp <;> rfl)⟩) hH7_7 ?_
      try simp only [Act.put, List.setIfInBounds_toArray, List.set_cons_zero, List.set_cons_succ]
      refine wpAnyH_take (i := 10) (oi := { dst := some 13, op := Op.move (Operand.tmp 0), type := 9, pos := "address.go:96", after := #[{ on := 9, ground := Ground.guard }], guard := some (9, true) }) (v := .string s) rfl (by kernel_rfl) (by kernel_rfl) (by kernel_rfl) (fun _ _ _ h => h) (Or.inl ⟨by rfl, fun w hSw => by (go_simp <;> rfl)⟩) hH7_7 ?_
      try simp only [Act.put, List.setIfInBounds_toArray, List.set_cons_zero, List.set_cons_succ]
      refine wpAnyH_ready (rs := [11]) (by kernel_rfl) (by simp) (AllReadyH.cons (o := { dst := some 14, op := Op.buildSlice 80 4 #[(0, Operand.const (Value.string { data := #[97, 98, 99, 100, 101, 102, 103, 104, 105, 106, 107, 108, 109, 110, 111, 112, 113, 114, 115, 116, 117, 118, 119, 120, 121, 122] })), (1, Operand.const (Value.string { data := #[65, 66, 67, 68, 69, 70, 71, 72, 73, 74, 75, 76, 77, 78, 79, 80, 81, 82, 83, 84, 85, 86, 87, 88, 89, 90] })), (2, Operand.const (Value.string { data := #[48, 49, 50, 51, 52, 53, 54, 55, 56, 57] })), (3, Operand.const (Value.string { data := #[43, 45, 46] }))], type := 80, pos := "address.go:96", after := #[{ on := 9, ground := Ground.guard }], guard := some (9, true) }) rfl (fun K11 hK11 => ?_) AllReadyH.nil)
      go_simp
      refine hK11.out _ _ (below_al hH7_7 _ (Nat.le_refl _)) (fun hH11_11 => ?_)
      clear hK11 K11
      try simp only [Act.put, List.setIfInBounds_toArray, List.set_cons_zero, List.set_cons_succ]
      refine wpAnyH_ready (rs := [12]) (by kernel_rfl) (by simp) (AllReadyH.cons (o := { dst := some 15, op := Op.call { callee := Callee.value (Operand.func 39), args := #[Operand.tmp 14], argTypes := #[80] }, type := 60, pos := "address.go:96", after := #[{ on := 11, ground := Ground.data }, { on := 9, ground := Ground.chain }, { on := 9, ground := Ground.guard }], guard := some (9, true) }) rfl (fun K12 hK12 => ?_) AllReadyH.nil)
      go_simp
      refine (CM.out _ _ _ _ _ ⟨_, hH7_7, rfl, .inl rfl⟩ (.inr ⟨rfl, rfl, rfl⟩)).mono ?_
      rintro e w12 ⟨rfl, hs12⟩
      refine hK12.out _ _ hs12 (fun hH12_12 => ?_)
      clear hK12 K12
      try simp only [Act.put, List.setIfInBounds_toArray, List.set_cons_zero, List.set_cons_succ]
      refine wpAnyH_ready (rs := [13]) (by kernel_rfl) (by simp) (AllReadyH.cons (o := { dst := some 16, op := Op.call { callee := Callee.value (Operand.func 38), args := #[Operand.tmp 13, Operand.tmp 15], argTypes := #[9, 60] }, type := 4, pos := "address.go:96", after := #[{ on := 10, ground := Ground.data }, { on := 12, ground := Ground.data }, { on := 12, ground := Ground.chain }, { on := 9, ground := Ground.guard }], guard := some (9, true) }) rfl (fun K13 hK13 => ?_) AllReadyH.nil)
      go_simp
      refine (CP.out _ hH12_12).mono ?_
      rintro e w13 ⟨rfl, hs13⟩
      refine hK13.out _ _ hs13 (fun hH13_13 => ?_)
      clear hK13 K13
      try simp only [Act.put, List.setIfInBounds_toArray, List.set_cons_zero, List.set_cons_succ]
      refine wpAnyH_take (i := 14) (oi := { dst := some 17, op := Op.pick (Operand.tmp 12) (Operand.tmp 16) (Operand.const (Value.bool false)), type := 4, pos := "address.go:96", after := #[{ on := 9, ground := Ground.data }, { on := 13, ground := Ground.data }], guard := none }) (v := .bool r) rfl (by kernel_rfl) (by kernel_rfl) (by kernel_rfl) (fun _ _ _ h => h) (Or.inl ⟨by rfl, fun w hSw => by (go_simp <;> rfl)⟩) hH13_13 ?_
      try simp only [Act.put, List.setIfInBounds_toArray, List.set_cons_zero, List.set_cons_succ]
      refine wpAnyH_take (i := 15) (oi := { dst := some 2, op := Op.assign (Operand.tmp 17), type := 4, pos := "address.go:96", after := #[{ on := 14, ground := Ground.data }, { on := 13, ground := Ground.chain }, { on := 0, ground := Ground.phase }, { on := 1, ground := Ground.phase }, { on := 2, ground := Ground.phase }, { on := 3, ground := Ground.phase }, { on := 4, ground := Ground.phase }, { on := 5, ground := Ground.phase }, { on := 6, ground := Ground.phase }, { on := 7, ground := Ground.phase }, { on := 8, ground := Ground.phase }, { on := 9, ground := Ground.phase }, { on := 10, ground := Ground.phase }, { on := 11, ground := Ground.phase }, { on := 12, ground := Ground.phase }, { on := 13, ground := Ground.phase }, { on := 14, ground := Ground.phase }], guard := none }) (v := .bool r) rfl (by kernel_rfl) (by kernel_rfl) (by kernel_rfl) (fun _ _ _ h => h) (Or.inl ⟨by rfl, fun w hSw => by (go_simp <;> rfl)⟩) hH13_13 ?_
      try simp only [Act.put, List.setIfInBounds_toArray, List.set_cons_zero, List.set_cons_succ]
      refine wpAnyH_done (by kernel_rfl) ?_ _
      have HL := Lib.hid hH13_13
      go_wp2_with fail
      go_ret
      exact ⟨rbool HRR.out, HL.out⟩
    | false =>
      have HRR := Lib.hid (HR0.out rfl)
      go_enter Tryd.func35, Tryd.ntmps35
      go_wp2_with fail
      refine wp_region_held_drew (S := fun w' => Below w.heap.size w w') (by kernel_rfl) hSS (fun hHeld => ?_)
      refine wpAnyH_take (i := 0) (oi := { dst := some 3, op := Op.move (Operand.tmp 0), type := 9, pos := "address.go:96", after := #[], guard := none }) (v := .string s) rfl (by kernel_rfl) (by kernel_rfl) (by kernel_rfl) (fun _ _ _ h => h) (Or.inl ⟨by rfl, fun w hSw => by (go_simp <;> rfl)⟩) hHeld ?_
      try simp only [Act.put, List.setIfInBounds_toArray, List.set_cons_zero, List.set_cons_succ]
      refine wpAnyH_take (i := 1) (oi := { dst := some 4, op := Op.binOp BinOp.neq 9 (Operand.tmp 3) (Operand.const (Value.string { data := #[] })) 9, type := 4, pos := "address.go:96", after := #[{ on := 0, ground := Ground.data }], guard := none }) (v := .bool true) rfl (by kernel_rfl) (by kernel_rfl) (by kernel_rfl) (fun _ _ _ h => h) (Or.inl ⟨by rfl, fun w hSw => by (go_simp <;> rfl)⟩) hHeld ?_
      try simp only [Act.put, List.setIfInBounds_toArray, List.set_cons_zero, List.set_cons_succ]
      refine wpAnyH_take (i := 2) (oi := { dst := some 5, op := Op.move (Operand.tmp 4), type := 4, pos := "address.go:96", after := #[{ on := 1, ground := Ground.data }], guard := none }) (v := .bool true) rfl (by kernel_rfl) (by kernel_rfl) (by kernel_rfl) (fun _ _ _ h => h) (Or.inl ⟨by rfl, fun w hSw => by (go_simp <;> rfl)⟩) hHeld ?_
      try simp only [Act.put, List.setIfInBounds_toArray, List.set_cons_zero, List.set_cons_succ]
      refine wpAnyH_take (i := 5) (oi := { dst := some 8, op := Op.move (Operand.tmp 0), type := 9, pos := "address.go:96", after := #[{ on := 2, ground := Ground.guard }], guard := some (2, true) }) (v := .string s) rfl (by kernel_rfl) (by kernel_rfl) (by kernel_rfl) (fun _ _ _ h => h) (Or.inl ⟨by rfl, fun w hSw => by (go_simp <;> rfl)⟩) hHeld ?_
      try simp only [Act.put, List.setIfInBounds_toArray, List.set_cons_zero, List.set_cons_succ]
      refine wpAnyH_take (i := 6) (oi := { dst := some 9, op := Op.index 9 (Operand.tmp 8) (Operand.const (Value.int IntKind.i64 0)), type := 5, pos := "address.go:96", after := #[{ on := 5, ground := Ground.data }, { on := 2, ground := Ground.guard }], guard := some (2, true) }) (v := .int .u8 ((b.toNat : Nat) : Int)) rfl (by kernel_rfl) (by kernel_rfl) (by kernel_rfl) (fun _ _ _ h => h) (Or.inl ⟨by rfl, fun w hSw => by (go_simp; try rfl)⟩) hHeld ?_
      try simp only [Act.put, List.setIfInBounds_toArray, List.set_cons_zero, List.set_cons_succ]
      refine wpAnyH_ready (rs := [3]) (by kernel_rfl) (by simp) (AllReadyH.cons (o := { dst := some 6, op := Op.buildSlice 80 2 #[(0, Operand.const (Value.string { data := #[97, 98, 99, 100, 101, 102, 103, 104, 105, 106, 107, 108, 109, 110, 111, 112, 113, 114, 115, 116, 117, 118, 119, 120, 121, 122] })), (1, Operand.const (Value.string { data := #[65, 66, 67, 68, 69, 70, 71, 72, 73, 74, 75, 76, 77, 78, 79, 80, 81, 82, 83, 84, 85, 86, 87, 88, 89, 90] }))], type := 80, pos := "address.go:96", after := #[{ on := 2, ground := Ground.guard }], guard := some (2, true) }) rfl (fun K3 hK3 => ?_) AllReadyH.nil)
      go_simp
      refine hK3.out _ _ (below_al hHeld _ (Nat.le_refl _)) (fun hH5_3 => ?_)
      clear hK3 K3
      try simp only [Act.put, List.setIfInBounds_toArray, List.set_cons_zero, List.set_cons_succ]
      refine wpAnyH_ready (rs := [4]) (by kernel_rfl) (by simp) (AllReadyH.cons (o := { dst := some 7, op := Op.call { callee := Callee.value (Operand.func 39), args := #[Operand.tmp 6], argTypes := #[80] }, type := 60, pos := "address.go:96", after := #[{ on := 3, ground := Ground.data }, { on := 2, ground := Ground.chain }, { on := 2, ground := Ground.guard }], guard := some (2, true) }) rfl (fun K4 hK4 => ?_) AllReadyH.nil)
      go_simp
      refine (CM.out _ _ _ _ _ ⟨w, Below.refl _ _, rfl, .inr rfl⟩ (.inl ⟨rfl, rfl, rfl⟩)).mono ?_
      rintro e w4 ⟨rfl, hs4⟩
      refine hK4.out _ _ hs4 (fun hH6_4 => ?_)
      clear hK4 K4
      try simp only [Act.put, List.setIfInBounds_toArray, List.set_cons_zero, List.set_cons_succ]
      refine wpAnyH_ready (rs := [7]) (by kernel_rfl) (by simp) (AllReadyH.cons (o := { dst := some 10, op := Op.call { callee := Callee.value (Operand.func 49), args := #[Operand.tmp 7, Operand.tmp 9], argTypes := #[60, 5] }, type := 4, pos := "address.go:96", after := #[{ on := 4, ground := Ground.data }, { on := 6, ground := Ground.data }, { on := 4, ground := Ground.chain }, { on := 2, ground := Ground.guard }], guard := some (2, true) }) rfl (fun K7 hK7 => ?_) AllReadyH.nil)
      go_simp
      refine (CH.out _ hH6_4).mono ?_
      rintro e w7 ⟨rfl, hs7⟩
      refine hK7.out _ _ hs7 (fun hH7_7 => ?_)
      clear hK7 K7
      try simp only [Act.put, List.setIfInBounds_toArray, List.set_cons_zero, List.set_cons_succ]
      refine wpAnyH_take (i := 8) (oi := { dst := some 11, op := Op.pick (Operand.tmp 5) (Operand.tmp 10) (Operand.const (Value.bool false)), type := 4, pos := "address.go:96", after := #[{ on := 2, ground := Ground.data }, { on := 7, ground := Ground.data }], guard := none }) (v := .bool false) rfl (by kernel_rfl) (by kernel_rfl) (by kernel_rfl) (fun _ _ _ h => h) (Or.inl ⟨by rfl, fun w hSw => by (go_simp <;> rfl)⟩) hH7_7 ?_
      try simp only [Act.put, List.setIfInBounds_toArray, List.set_cons_zero, List.set_cons_succ]
      refine wpAnyH_take (i := 9) (oi := { dst := some 12, op := Op.move (Operand.tmp 11), type := 4, pos := "address.go:96", after := #[{ on := 8, ground := Ground.data }, { on := 7, ground := Ground.chain }], guard := none }) (v := .bool false) rfl (by kernel_rfl) (by kernel_rfl) (by kernel_rfl) (fun _ _ _ h => h) (Or.inl ⟨by rfl, fun w hSw => by (go_simp <;> rfl)⟩) hH7_7 ?_
      try simp only [Act.put, List.setIfInBounds_toArray, List.set_cons_zero, List.set_cons_succ]
      refine wpAnyH_take (i := 10) (oi := { dst := some 13, op := Op.move (Operand.tmp 0), type := 9, pos := "address.go:96", after := #[{ on := 9, ground := Ground.guard }], guard := some (9, true) }) (v := undef) rfl (by kernel_rfl) (by kernel_rfl) (by kernel_rfl) (fun _ _ _ h => h) (Or.inr ⟨by rfl, rfl⟩) hH7_7 ?_
      try simp only [Act.put, List.setIfInBounds_toArray, List.set_cons_zero, List.set_cons_succ]
      refine wpAnyH_take (i := 11) (oi := { dst := some 14, op := Op.buildSlice 80 4 #[(0, Operand.const (Value.string { data := #[97, 98, 99, 100, 101, 102, 103, 104, 105, 106, 107, 108, 109, 110, 111, 112, 113, 114, 115, 116, 117, 118, 119, 120, 121, 122] })), (1, Operand.const (Value.string { data := #[65, 66, 67, 68, 69, 70, 71, 72, 73, 74, 75, 76, 77, 78, 79, 80, 81, 82, 83, 84, 85, 86, 87, 88, 89, 90] })), (2, Operand.const (Value.string { data := #[48, 49, 50, 51, 52, 53, 54, 55, 56, 57] })), (3, Operand.const (Value.string { data := #[43, 45, 46] }))], type := 80, pos := "address.go:96", after := #[{ on := 9, ground := Ground.guard }], guard := some (9, true) }) (v := undef) rfl (by kernel_rfl) (by kernel_rfl) (by kernel_rfl) (fun _ _ _ h => h) (Or.inr ⟨by rfl, rfl⟩) hH7_7 ?_
      try simp only [Act.put, List.setIfInBounds_toArray, List.set_cons_zero, List.set_cons_succ]
      refine wpAnyH_take (i := 12) (oi := { dst := some 15, op := Op.call { callee := Callee.value (Operand.func 39), args := #[Operand.tmp 14], argTypes := #[80] }, type := 60, pos := "address.go:96", after := #[{ on := 11, ground := Ground.data }, { on := 9, ground := Ground.chain }, { on := 9, ground := Ground.guard }], guard := some (9, true) }) (v := undef) rfl (by kernel_rfl) (by kernel_rfl) (by kernel_rfl) (fun _ _ _ h => h) (Or.inr ⟨by rfl, rfl⟩) hH7_7 ?_
      try simp only [Act.put, List.setIfInBounds_toArray, List.set_cons_zero, List.set_cons_succ]
      refine wpAnyH_take (i := 13) (oi := { dst := some 16, op := Op.call { callee := Callee.value (Operand.func 38), args := #[Operand.tmp 13, Operand.tmp 15], argTypes := #[9, 60] }, type := 4, pos := "address.go:96", after := #[{ on := 10, ground := Ground.data }, { on := 12, ground := Ground.data }, { on := 12, ground := Ground.chain }, { on := 9, ground := Ground.guard }], guard := some (9, true) }) (v := undef) rfl (by kernel_rfl) (by kernel_rfl) (by kernel_rfl) (fun _ _ _ h => h) (Or.inr ⟨by rfl, rfl⟩) hH7_7 ?_
      try simp only [Act.put, List.setIfInBounds_toArray, List.set_cons_zero, List.set_cons_succ]
      refine wpAnyH_take (i := 14) (oi := { dst := some 17, op := Op.pick (Operand.tmp 12) (Operand.tmp 16) (Operand.const (Value.bool false)), type := 4, pos := "address.go:96", after := #[{ on := 9, ground := Ground.data }, { on := 13, ground := Ground.data }], guard := none }) (v := .bool false) rfl (by kernel_rfl) (by kernel_rfl) (by kernel_rfl) (fun _ _ _ h => h) (Or.inl ⟨by rfl, fun w hSw => by (go_simp <;> rfl)⟩) hH7_7 ?_
      try simp only [Act.put, List.setIfInBounds_toArray, List.set_cons_zero, List.set_cons_succ]
      refine wpAnyH_take (i := 15) (oi := { dst := some 2, op := Op.assign (Operand.tmp 17), type := 4, pos := "address.go:96", after := #[{ on := 14, ground := Ground.data }, { on := 13, ground := Ground.chain }, { on := 0, ground := Ground.phase }, { on := 1, ground := Ground.phase }, { on := 2, ground := Ground.phase }, { on := 3, ground := Ground.phase }, { on := 4, ground := Ground.phase }, { on := 5, ground := Ground.phase }, { on := 6, ground := Ground.phase }, { on := 7, ground := Ground.phase }, { on := 8, ground := Ground.phase }, { on := 9, ground := Ground.phase }, { on := 10, ground := Ground.phase }, { on := 11, ground := Ground.phase }, { on := 12, ground := Ground.phase }, { on := 13, ground := Ground.phase }, { on := 14, ground := Ground.phase }], guard := none }) (v := .bool false) rfl (by kernel_rfl) (by kernel_rfl) (by kernel_rfl) (fun _ _ _ h => h) (Or.inl ⟨by rfl, fun w hSw => by (go_simp <;> rfl)⟩) hH7_7 ?_
      try simp only [Act.put, List.setIfInBounds_toArray, List.set_cons_zero, List.set_cons_succ]
      refine wpAnyH_done (by kernel_rfl) ?_ _
      have HL := Lib.hid hH7_7
      go_wp2_with fail
      go_ret
      exact ⟨rbool HRR.out.symm, HL.out⟩
end Go.Proofs.YtjcaadihkbhlhaaDoor

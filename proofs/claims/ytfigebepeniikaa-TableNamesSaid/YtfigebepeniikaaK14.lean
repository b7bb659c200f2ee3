import Derived.Test.YtfigebepeniikaaK13
import Derived.Deep.RegionLaw
/- Layer 27: alive. -/
namespace Go.Proofs.Ytfigebepeniikaa
open Go.RowKit Go.Maps
set_option maxRecDepth 20000 in
set_option maxHeartbeats 4000000 in
theorem alive_any (w : World) : Calls Try.prog 12 #[] w fun e w' => e = .returned (.bool true) ∧ Below w.heap.size w w' := by
  have HSM : Hid (∀ W, Calls Try.prog 8 #[] W fun e w' => ∃ a1 c1 a2 c2, e = .returned (.agg #[.string ⟨#[84]⟩, .int .i64 2, .slice a1 1 c1, .slice a2 1 c2]) ∧ TVs W.heap.size w' t0 a1 c1 a2 c2 ∧ Below W.heap.size W w') := Lib.hid (fun W => small_any W)
  have HRB : Hid (∀ W, Calls Try.prog 9 #[.string ⟨#[98]⟩, .int .i64 2] W fun e w' => ∃ ad cp, e = .returned (.agg #[.string ⟨#[98]⟩, .slice ad 3 cp]) ∧ DV W.heap.size w' ad cp rb.d ∧ Below W.heap.size W w') := Lib.hid (fun W => recV_any rb 2 (by decide) (by decide) rfl rb_ok W)
  have HRC : Hid (∀ W, Calls Try.prog 9 #[.string ⟨#[99]⟩, .int .i64 3] W fun e w' => ∃ ad cp, e = .returned (.agg #[.string ⟨#[99]⟩, .slice ad 3 cp]) ∧ DV W.heap.size w' ad cp rcc.d ∧ Below W.heap.size W w') := Lib.hid (fun W => recV_any rcc 3 (by decide) (by decide) rfl rc_ok W)
  have HP1 : Hid (∀ W B B' a1 c1 a2 c2 ad cp, TVs B W t0 a1 c1 a2 c2 → DV B' W ad cp rb.d → Calls Try.prog 7 #[.agg #[.string ⟨#[84]⟩, .int .i64 2, .slice a1 1 c1, .slice a2 1 c2], .agg #[.string ⟨#[98]⟩, .slice ad 3 cp]] W fun e w' => ∃ e1 f1 e2 f2, e = .returned (.tuple #[.agg #[.string ⟨#[84]⟩, .int .i64 2, .slice e1 1 f1, .slice e2 2 f2], .int .i64 0]) ∧ TVs W.heap.size w' u1 e1 f1 e2 f2 ∧ Below W.heap.size W w') := Lib.hid (fun W B B' a1 c1 a2 c2 ad cp hv hd => by
    have h := putV_any 1 B B' t0 a1 a2 c1 c2 rb ad cp W (by decide) sm_t0 sm_rb hv hd
    rw [put_1] at h
    exact h)
  have HP2 : Hid (∀ W B B' a1 c1 a2 c2 ad cp, TVs B W u1 a1 c1 a2 c2 → DV B' W ad cp rcc.d → Calls Try.prog 7 #[.agg #[.string ⟨#[84]⟩, .int .i64 2, .slice a1 1 c1, .slice a2 2 c2], .agg #[.string ⟨#[99]⟩, .slice ad 3 cp]] W fun e w' => ∃ e1 f1 e2 f2, e = .returned (.tuple #[.agg #[.string ⟨#[]⟩, .int .i64 0, .slice e1 0 f1, .slice e2 0 f2], .int .i64 272]) ∧ TVs W.heap.size w' zT e1 f1 e2 f2 ∧ Below W.heap.size W w') := Lib.hid (fun W B B' a1 c1 a2 c2 ad cp hv hd => by
    have h := putV_any 2 B B' u1 a1 a2 c1 c2 rcc ad cp W (by decide) sm_u1 sm_rc hv hd
    rw [put_2] at h
    exact h)
  have HGT : Hid (∀ W B a1 c1 a2 c2, TVs B W u1 a1 c1 a2 c2 → Calls Try.prog 16 #[.agg #[.string ⟨#[84]⟩, .int .i64 2, .slice a1 1 c1, .slice a2 2 c2], .string ⟨#[98]⟩] W fun e w' => ∃ q, e = .returned (.tuple #[.agg #[.string ⟨#[98]⟩, .slice (some ⟨q, 0, none⟩) 3 3], .bool true]) ∧ DV W.heap.size w' (some ⟨q, 0, none⟩) 3 rb.d ∧ Below W.heap.size W w') := Lib.hid (fun W B a1 c1 a2 c2 hv => by
    refine (tGet_any B u1 a1 a2 c1 c2 bS W hv (sm_u1.smT (by decide))).mono ?_
    rintro e w' ⟨h, hb⟩
    rw [get_1] at h
    obtain ⟨q, rfl, h1, h2⟩ := h
    exact ⟨q, rfl, h2.dv h1 (by decide), hb⟩)
  have HSR : Hid (∀ W B B' ad cp ae ce, DV B W ad cp rb.d → DV B' W ae ce rb.d → Calls Try.prog 13 #[.agg #[.string ⟨#[98]⟩, .slice ad 3 cp], .agg #[.string ⟨#[98]⟩, .slice ae 3 ce]] W fun e w' => e = .returned (.bool true) ∧ Below W.heap.size W w') := Lib.hid (fun W B B' ad cp ae ce h1 h2 => by
    have h := sameR_any B B' rb rb ad ae cp ce W h1 h2 (by decide)
    rw [decide_eq_true rfl] at h
    exact h)
  go_enter Try.func12, Try.ntmps12
  go_wp2_with fail
  refine (HSM.out _).mono ?_
  rintro e w1 ⟨a1, c1, a2, c2, rfl, v1, b1⟩
  have V1 := Lib.hid v1
  have B1 := Lib.hid b1
  clear v1 b1 HSM
  go_wp2_with fail
  refine (HRB.out _).mono ?_
  rintro e w2 ⟨ad, cp, rfl, d2, b2⟩
  have V2 := Lib.hid (V1.out.below b2)
  have D2 := Lib.hid d2
  have B2 := Lib.hid (B1.out.trans (b2.mono B1.out.size))
  clear d2 b2 V1 B1
  go_wp2_with fail
  refine (HP1.out _ _ _ _ _ _ _ _ _ V2.out D2.out).mono ?_
  rintro e w3 ⟨e1, f1, e2, f2, rfl, v3, b3⟩
  have V3 := Lib.hid v3
  have B3 := Lib.hid (B2.out.trans (b3.mono B2.out.size))
  clear v3 b3 V2 D2 B2 HP1
  go_wp2_with fail
  obtain ⟨p, hp⟩ : ∃ p, p = w3.heap.size := ⟨_, rfl⟩
  obtain ⟨X, hX⟩ : ∃ X, X = w3.alloc (.cells #[.string ⟨#[84]⟩, .int .i64 2, .slice e1 1 f1, .slice e2 2 f2] 25) := ⟨_, rfl⟩
  have HX : Hid (Bx4 X p 25 (.string ⟨#[84]⟩) (.int .i64 2) (.slice e1 1 f1) (.slice e2 2 f2)) := Lib.hid (by rw [hX, hp]; exact bx4_new w3 _ _ _ _ _)
  have B4 : Hid (Below w.heap.size w X) := Lib.hid (by rw [hX]; exact B3.out.alloc B3.out.size _)
  have V4 : Hid (TVs w2.heap.size X u1 e1 f1 e2 f2) := Lib.hid (by rw [hX]; exact V3.out.below ((Below.refl _ _).alloc (Nat.le_refl _) _))
  clear V3 B3
  have V3 := V4
  clear V4
  rw [← hX, ← hp]
  clear hX hp
  obtain ⟨rb0, ro0, rfl⟩ := V3.out.r.addr (by decide : 0 < u1.rows.length)
  have HRW : Hid (∀ w', Below X.heap.size X w' → w'.cell? ⟨rb0, ro0, none⟩ = some (.string ⟨#[97]⟩)) := Lib.hid (fun w' k => by obtain ⟨_, _, _, _, h, _⟩ := (V3.out.below k).r.at_ (i := 0) (by decide); exact h)
  have HS : Hid (∀ w', Below X.heap.size X w' → (fun w' => Below X.heap.size X w' ∧ w'.cell? ⟨p, 0, none⟩ = some (.string ⟨#[84]⟩) ∧ w'.cell? ⟨p, 1, none⟩ = some (.int .i64 2) ∧ w'.cell? ⟨p, 2, none⟩ = some (.slice e1 1 f1) ∧ w'.cell? ⟨p, 3, none⟩ = some (.slice (some ⟨rb0, ro0, none⟩) 2 f2)) w') := Lib.hid (fun w' k => ⟨k, (HX.out.up k).c0, (HX.out.up k).c1, (HX.out.up k).c2, (HX.out.up k).c3⟩)
  have HBN : Hid (∀ w', (fun w' => Below X.heap.size X w' ∧ w'.cell? ⟨p, 0, none⟩ = some (.string ⟨#[84]⟩) ∧ w'.cell? ⟨p, 1, none⟩ = some (.int .i64 2) ∧ w'.cell? ⟨p, 2, none⟩ = some (.slice e1 1 f1) ∧ w'.cell? ⟨p, 3, none⟩ = some (.slice (some ⟨rb0, ro0, none⟩) 2 f2)) w' → Bx4 (w'.alloc (.cells #[.string ⟨#[]⟩, .int .i64 0, .slice none 0 0, .slice none 0 0] 25)) w'.heap.size 25 (.string ⟨#[]⟩) (.int .i64 0) (.slice none 0 0) (.slice none 0 0)) := Lib.hid (fun w' _ => bx4_new w' _ _ _ _ _)
  refine wp_region_held_drew (S := (fun w' => Below X.heap.size X w' ∧ w'.cell? ⟨p, 0, none⟩ = some (.string ⟨#[84]⟩) ∧ w'.cell? ⟨p, 1, none⟩ = some (.int .i64 2) ∧ w'.cell? ⟨p, 2, none⟩ = some (.slice e1 1 f1) ∧ w'.cell? ⟨p, 3, none⟩ = some (.slice (some ⟨rb0, ro0, none⟩) 2 f2))) (by kernel_rfl) (HS.out _ ((Below.refl _ _).drew)) (fun hHeld => ?_)
  refine wpAnyH_take (i := 0) (oi := { dst := some 14, op := Op.load 25 (Operand.tmp 1), type := 25, pos := "outright.go:30", after := #[], guard := none }) (v := ?_) rfl (by kernel_rfl) (by kernel_rfl) (by kernel_rfl) (fun _ _ _ h => h) (Or.inl ⟨by rfl, ?_⟩) hHeld ?_
  rotate_left
  · (intro w hSw; (try dsimp only at hSw); go_simp <;> with_reducible rfl)
  try simp only [Act.put, List.setIfInBounds_toArray, List.set_cons_zero, List.set_cons_succ]
  refine wpAnyH_ready (rs := [1, 6]) (by kernel_rfl) (by simp) (AllReadyH.cons (o := { dst := some 15, op := Op.call { callee := Callee.value (Operand.func 9), args := #[Operand.const (Value.string { data := #[99] }), Operand.const (Value.int IntKind.i64 3)], argTypes := #[9, 2] }, type := 32, pos := "outright.go:30", after := #[], guard := none }) rfl (fun K1 hK1 => ?_) (AllReadyH.cons (o := { dst := some 3, op := Op.alloc 25, type := 0, pos := "outright.go:30", after := #[], guard := none }) rfl (fun K6 hK6 => ?_) AllReadyH.nil))
  · go_simp
    refine (HRC.out _).mono ?_
    rintro e wr ⟨ad3, cp3, rfl, d3, b3⟩
    have D3 := Lib.hid d3
    try (have BX := Lib.hid (BX.out.up b3))
    refine hK1.out _ _ (HS.out _ (hHeld.1.trans (b3.mono hHeld.1.size))) (fun hH_1 => ?_)
    clear d3 b3
    clear hK1 K1
    try simp only [Act.put, List.setIfInBounds_toArray, List.set_cons_zero, List.set_cons_succ]
    refine wpAnyH_ready (rs := [2, 6]) (by kernel_rfl) (by simp) (AllReadyH.cons (o := { dst := some 16, op := Op.call { callee := Callee.value (Operand.func 7), args := #[Operand.tmp 14, Operand.tmp 15], argTypes := #[25, 32] }, type := 27, pos := "outright.go:30", after := #[{ on := 0, ground := Ground.data }, { on := 1, ground := Ground.data }, { on := 1, ground := Ground.chain }], guard := none }) rfl (fun K2 hK2 => ?_) (AllReadyH.cons (o := { dst := some 3, op := Op.alloc 25, type := 0, pos := "outright.go:30", after := #[], guard := none }) rfl (fun K6 hK6 => ?_) AllReadyH.nil))
    · go_simp
      refine (HP2.out _ _ _ _ _ _ _ _ _ (V3.out.below hH_1.1) D3.out).mono ?_
      rintro e wp ⟨x1, y1, x2, y2, rfl, _, b4⟩
      try (have BX := Lib.hid (BX.out.up b4); have z0 := BX.out.c0; have z1 := BX.out.c1; have z2 := BX.out.c2; have z3 := BX.out.c3; have g0 := BX.out.fz 0; have g1 := BX.out.fz 1; have g2 := BX.out.fz 2; have g3 := BX.out.fz 3)
      refine hK2.out _ _ (HS.out _ (hH_1.1.trans (b4.mono hH_1.1.size))) (fun hH_2 => ?_)
      clear b4
      clear hK2 K2
      try simp only [Act.put, List.setIfInBounds_toArray, List.set_cons_zero, List.set_cons_succ]
      refine wpAnyH_take (i := 3) (oi := { dst := some 13, op := Op.move (Operand.tmp 16), type := 27, pos := "outright.go:30", after := #[{ on := 2, ground := Ground.data }], guard := none }) (v := ?_) rfl (by kernel_rfl) (by kernel_rfl) (by kernel_rfl) (fun _ _ _ h => h) (Or.inl ⟨by rfl, ?_⟩) hH_2 ?_
      rotate_left
      · (intro w hSw; (try dsimp only at hSw); go_simp <;> with_reducible rfl)
      try simp only [Act.put, List.setIfInBounds_toArray, List.set_cons_zero, List.set_cons_succ]
      refine wpAnyH_take (i := 4) (oi := { dst := some 17, op := Op.extract (Operand.tmp 13) 0, type := 25, pos := "outright.go:30", after := #[{ on := 3, ground := Ground.data }], guard := none }) (v := ?_) rfl (by kernel_rfl) (by kernel_rfl) (by kernel_rfl) (fun _ _ _ h => h) (Or.inl ⟨by rfl, ?_⟩) hH_2 ?_
      rotate_left
      · (intro w hSw; (try dsimp only at hSw); go_simp <;> with_reducible rfl)
      try simp only [Act.put, List.setIfInBounds_toArray, List.set_cons_zero, List.set_cons_succ]
      refine wpAnyH_take (i := 5) (oi := { dst := some 18, op := Op.extract (Operand.tmp 13) 1, type := 26, pos := "outright.go:30", after := #[{ on := 3, ground := Ground.data }, { on := 7, ground := Ground.gcOnly Departure.lateStores }], guard := none }) (v := ?_) rfl (by kernel_rfl) (by kernel_rfl) (by kernel_rfl) (fun _ _ _ h => h) (Or.inl ⟨by rfl, ?_⟩) hH_2 ?_
      rotate_left
      · (intro w hSw; (try dsimp only at hSw); go_simp <;> with_reducible rfl)
      try simp only [Act.put, List.setIfInBounds_toArray, List.set_cons_zero, List.set_cons_succ]
      refine wpAnyH_ready (rs := [6]) (by kernel_rfl) (by simp) (AllReadyH.cons (o := { dst := some 3, op := Op.alloc 25, type := 0, pos := "outright.go:30", after := #[], guard := none }) rfl (fun K6 hK6 => ?_) AllReadyH.nil)
      go_simp
      have BX := Lib.hid (HBN.out _ hH_2)
      have HQ := Lib.hid hH_2.1.size
      try (have BX : Hid (Bx4 (X.drew.alloc (.cells #[.string ⟨#[]⟩, .int .i64 0, .slice none 0 0, .slice none 0 0] 25)) X.heap.size 25 (.string ⟨#[]⟩) (.int .i64 0) (.slice none 0 0) (.slice none 0 0)) := BX; have HQ : Hid (X.heap.size ≤ X.heap.size) := HQ)
      try (have D3 := Lib.hid (D3.out.below ((Below.refl _ _).alloc (Nat.le_refl _) (.cells #[.string ⟨#[]⟩, .int .i64 0, .slice none 0 0, .slice none 0 0] 25))))
      refine hK6.out _ _ (HS.out _ (hH_2.1.alloc hH_2.1.size _)) (fun hH_6 => ?_)
      clear hK6 K6
      try simp only [Act.put, List.setIfInBounds_toArray, List.set_cons_zero, List.set_cons_succ]
      refine wpAnyH_ready (rs := [7]) (by kernel_rfl) (by simp) (AllReadyH.cons (o := { dst := none, op := Op.store 25 (Operand.tmp 3) (Operand.tmp 17), type := 0, pos := "outright.go:30", after := #[{ on := 6, ground := Ground.data }, { on := 4, ground := Ground.data }, { on := 2, ground := Ground.chain }, { on := 0, ground := Ground.phase }, { on := 1, ground := Ground.phase }, { on := 2, ground := Ground.phase }, { on := 3, ground := Ground.phase }, { on := 4, ground := Ground.phase }, { on := 5, ground := Ground.textOnly Departure.lateStores }, { on := 6, ground := Ground.phase }], guard := none }) rfl (fun K7 hK7 => ?_) AllReadyH.nil)
      go_simp
      refine hK7.out _ _ (HS.out _ (by first | exact hH_2.1.alloc hH_2.1.size _ | exact w4_below hH_6.1 HQ.out _ _ _ _)) (fun hH_7 => ?_)
      clear hK7 K7
      try simp only [Act.put, List.setIfInBounds_toArray, List.set_cons_zero, List.set_cons_succ]
      refine wpAnyH_take (i := 8) (oi := { dst := some 4, op := Op.assign (Operand.tmp 18), type := 26, pos := "outright.go:30", after := #[{ on := 5, ground := Ground.data }, { on := 7, ground := Ground.chain }, { on := 0, ground := Ground.phase }, { on := 1, ground := Ground.phase }, { on := 2, ground := Ground.phase }, { on := 3, ground := Ground.phase }, { on := 4, ground := Ground.phase }, { on := 5, ground := Ground.phase }, { on := 6, ground := Ground.phase }, { on := 7, ground := Ground.phase }], guard := none }) (v := ?_) rfl (by kernel_rfl) (by kernel_rfl) (by kernel_rfl) (fun _ _ _ h => h) (Or.inl ⟨by rfl, ?_⟩) hH_7 ?_
      rotate_left
      · (intro w hSw; (try dsimp only at hSw); go_simp <;> with_reducible rfl)
      try simp only [Act.put, List.setIfInBounds_toArray, List.set_cons_zero, List.set_cons_succ]
      refine wpAnyH_done (by kernel_rfl) ?_ _
      have VY := Lib.hid (V3.out.below hH_7.1)
      have SY := Lib.hid hH_7
      have q0 := hH_7.2.1
      have q1 := hH_7.2.2.1
      have q2 := hH_7.2.2.2.1
      have q3 := hH_7.2.2.2.2
      clear hHeld
      go_wp2_with fail
      refine (HGT.out _ _ _ _ _ _ VY.out).mono ?_
      rintro e w6 ⟨q, rfl, dq, b6⟩
      have B6 := Lib.hid (SY.out.1.trans (b6.mono SY.out.1.size))
      have D6 := Lib.hid dq
      clear dq b6 VY SY q0 q1 q2 q3
      go_wp2_with fail
      obtain ⟨y, hy⟩ : ∃ y, y = w6.heap.size := ⟨_, rfl⟩
      obtain ⟨Z, hZ⟩ : ∃ Z, Z = w6.alloc (.cells #[.string ⟨#[98]⟩, .slice (some ⟨q, 0, none⟩) 3 3] 32) := ⟨_, rfl⟩
      have HZ : Hid (Bx2 Z y (.string ⟨#[98]⟩) (.slice (some ⟨q, 0, none⟩) 3 3)) := Lib.hid (by rw [hZ, hy]; exact bx2_new w6 _ _)
      have BZ : Hid (Below X.heap.size X Z) := Lib.hid (by rw [hZ]; exact B6.out.alloc B6.out.size _)
      have DQ : Hid (DV 0 Z (some ⟨q, 0, none⟩) 3 rb.d) := Lib.hid (by rw [hZ]; exact (D6.out.below ((Below.refl _ _).alloc (Nat.le_refl _) _)).mono (Nat.zero_le _))
      have BW := Lib.hid (B4.out.trans (BZ.out.mono B4.out.size))
      rw [← hZ, ← hy]
      clear hZ hy B6 D6
      have HS4 : Hid (∀ w', Below Z.heap.size Z w' → (fun w' => Below Z.heap.size Z w' ∧ w'.cell? ⟨p, 3, none⟩ = some (.slice (some ⟨rb0, ro0, none⟩) 2 f2) ∧ w'.cell? ⟨rb0, ro0, none⟩ = some (.string ⟨#[97]⟩) ∧ w'.cell? ⟨y, 0, none⟩ = some (.string ⟨#[98]⟩) ∧ w'.cell? ⟨y, 1, none⟩ = some (.slice (some ⟨q, 0, none⟩) 3 3)) w') := Lib.hid (fun w' k => ⟨k, (HS.out _ (BZ.out.trans (k.mono BZ.out.size))).2.2.2.2, HRW.out _ (BZ.out.trans (k.mono BZ.out.size)), (HZ.out.up k).c0, (HZ.out.up k).c1⟩)
      clear HS HRW HZ BZ
      refine wp_region_held_drew (S := (fun w' => Below Z.heap.size Z w' ∧ w'.cell? ⟨p, 3, none⟩ = some (.slice (some ⟨rb0, ro0, none⟩) 2 f2) ∧ w'.cell? ⟨rb0, ro0, none⟩ = some (.string ⟨#[97]⟩) ∧ w'.cell? ⟨y, 0, none⟩ = some (.string ⟨#[98]⟩) ∧ w'.cell? ⟨y, 1, none⟩ = some (.slice (some ⟨q, 0, none⟩) 3 3))) (by kernel_rfl) (HS4.out _ ((Below.refl _ _).drew)) (fun hHeld => ?_)
      refine wpAnyH_take (i := 0) (oi := { dst := some 24, op := Op.move (Operand.tmp 2), type := 26, pos := "outright.go:32", after := #[], guard := none }) (v := ?_) rfl (by kernel_rfl) (by kernel_rfl) (by kernel_rfl) (fun _ _ _ h => h) (Or.inl ⟨by rfl, ?_⟩) hHeld ?_
      rotate_left
      · (intro w hSw; (try dsimp only at hSw); go_simp <;> with_reducible rfl)
      try simp only [Act.put, List.setIfInBounds_toArray, List.set_cons_zero, List.set_cons_succ]
      refine wpAnyH_take (i := 1) (oi := { dst := some 25, op := Op.binOp BinOp.eql 26 (Operand.tmp 24) (Operand.const (Value.int IntKind.i64 0)) 26, type := 4, pos := "outright.go:32", after := #[{ on := 0, ground := Ground.data }], guard := none }) (v := ?_) rfl (by kernel_rfl) (by kernel_rfl) (by kernel_rfl) (fun _ _ _ h => h) (Or.inl ⟨by rfl, ?_⟩) hHeld ?_
      rotate_left
      · (intro w hSw; (try dsimp only at hSw); go_simp <;> with_reducible rfl)
      try simp only [Act.put, List.setIfInBounds_toArray, List.set_cons_zero, List.set_cons_succ]
      refine wpAnyH_take (i := 2) (oi := { dst := some 26, op := Op.move (Operand.tmp 25), type := 4, pos := "outright.go:32", after := #[{ on := 1, ground := Ground.data }], guard := none }) (v := ?_) rfl (by kernel_rfl) (by kernel_rfl) (by kernel_rfl) (fun _ _ _ h => h) (Or.inl ⟨by rfl, ?_⟩) hHeld ?_
      rotate_left
      · (intro w hSw; (try dsimp only at hSw); go_simp <;> with_reducible rfl)
      try simp only [Act.put, List.setIfInBounds_toArray, List.set_cons_zero, List.set_cons_succ]
      refine wpAnyH_take (i := 3) (oi := { dst := some 27, op := Op.fieldAddr 25 (Operand.tmp 1) 3, type := 0, pos := "outright.go:32", after := #[{ on := 2, ground := Ground.guard }], guard := some (2, true) }) (v := ?_) rfl (by kernel_rfl) (by kernel_rfl) (by kernel_rfl) (fun _ _ _ h => h) (Or.inl ⟨by rfl, ?_⟩) hHeld ?_
      rotate_left
      · (intro w hSw; (try dsimp only at hSw); go_simp <;> with_reducible rfl)
      try simp only [Act.put, List.setIfInBounds_toArray, List.set_cons_zero, List.set_cons_succ]
      refine wpAnyH_take (i := 4) (oi := { dst := some 28, op := Op.load 23 (Operand.tmp 27), type := 23, pos := "outright.go:32", after := #[{ on := 3, ground := Ground.data }, { on := 2, ground := Ground.guard }], guard := some (2, true) }) (v := ?_) rfl (by kernel_rfl) (by kernel_rfl) (by kernel_rfl) (fun _ _ _ h => h) (Or.inl ⟨by rfl, ?_⟩) hHeld ?_
      rotate_left
      · (intro w hSw; (try dsimp only at hSw); go_simp <;> with_reducible rfl)
      try simp only [Act.put, List.setIfInBounds_toArray, List.set_cons_zero, List.set_cons_succ]
      refine wpAnyH_take (i := 5) (oi := { dst := some 29, op := Op.call { callee := Callee.builtin Builtin.len, args := #[Operand.tmp 28], argTypes := #[23] }, type := 3, pos := "outright.go:32", after := #[{ on := 4, ground := Ground.data }, { on := 2, ground := Ground.guard }], guard := some (2, true) }) (v := ?_) rfl (by kernel_rfl) (by kernel_rfl) (by kernel_rfl) (fun _ _ _ h => h) (Or.inl ⟨by rfl, ?_⟩) hHeld ?_
      rotate_left
      · (intro w hSw; (try dsimp only at hSw); go_simp <;> with_reducible rfl)
      try simp only [Act.put, List.setIfInBounds_toArray, List.set_cons_zero, List.set_cons_succ]
      refine wpAnyH_take (i := 6) (oi := { dst := some 30, op := Op.binOp BinOp.eql 3 (Operand.tmp 29) (Operand.const (Value.int IntKind.i64 2)) 3, type := 4, pos := "outright.go:32", after := #[{ on := 5, ground := Ground.data }, { on := 2, ground := Ground.guard }], guard := some (2, true) }) (v := ?_) rfl (by kernel_rfl) (by kernel_rfl) (by kernel_rfl) (fun _ _ _ h => h) (Or.inl ⟨by rfl, ?_⟩) hHeld ?_
      rotate_left
      · (intro w hSw; (try dsimp only at hSw); go_simp <;> with_reducible rfl)
      try simp only [Act.put, List.setIfInBounds_toArray, List.set_cons_zero, List.set_cons_succ]
      refine wpAnyH_take (i := 7) (oi := { dst := some 31, op := Op.pick (Operand.tmp 26) (Operand.tmp 30) (Operand.const (Value.bool false)), type := 4, pos := "outright.go:32", after := #[{ on := 2, ground := Ground.data }, { on := 6, ground := Ground.data }], guard := none }) (v := ?_) rfl (by kernel_rfl) (by kernel_rfl) (by kernel_rfl) (fun _ _ _ h => h) (Or.inl ⟨by rfl, ?_⟩) hHeld ?_
      rotate_left
      · (intro w hSw; (try dsimp only at hSw); go_simp <;> with_reducible rfl)
      try simp only [Act.put, List.setIfInBounds_toArray, List.set_cons_zero, List.set_cons_succ]
      refine wpAnyH_take (i := 8) (oi := { dst := some 32, op := Op.move (Operand.tmp 31), type := 4, pos := "outright.go:32", after := #[{ on := 7, ground := Ground.data }, { on := 2, ground := Ground.chain }], guard := none }) (v := ?_) rfl (by kernel_rfl) (by kernel_rfl) (by kernel_rfl) (fun _ _ _ h => h) (Or.inl ⟨by rfl, ?_⟩) hHeld ?_
      rotate_left
      · (intro w hSw; (try dsimp only at hSw); go_simp <;> with_reducible rfl)
      try simp only [Act.put, List.setIfInBounds_toArray, List.set_cons_zero, List.set_cons_succ]
      refine wpAnyH_take (i := 9) (oi := { dst := some 33, op := Op.fieldAddr 25 (Operand.tmp 1) 3, type := 0, pos := "outright.go:32", after := #[{ on := 8, ground := Ground.guard }], guard := some (8, true) }) (v := ?_) rfl (by kernel_rfl) (by kernel_rfl) (by kernel_rfl) (fun _ _ _ h => h) (Or.inl ⟨by rfl, ?_⟩) hHeld ?_
      rotate_left
      · (intro w hSw; (try dsimp only at hSw); go_simp <;> with_reducible rfl)
      try simp only [Act.put, List.setIfInBounds_toArray, List.set_cons_zero, List.set_cons_succ]
      refine wpAnyH_take (i := 10) (oi := { dst := some 34, op := Op.load 23 (Operand.tmp 33), type := 23, pos := "outright.go:32", after := #[{ on := 9, ground := Ground.data }, { on := 8, ground := Ground.guard }], guard := some (8, true) }) (v := ?_) rfl (by kernel_rfl) (by kernel_rfl) (by kernel_rfl) (fun _ _ _ h => h) (Or.inl ⟨by rfl, ?_⟩) hHeld ?_
      rotate_left
      · (intro w hSw; (try dsimp only at hSw); go_simp <;> with_reducible rfl)
      try simp only [Act.put, List.setIfInBounds_toArray, List.set_cons_zero, List.set_cons_succ]
      refine wpAnyH_take (i := 11) (oi := { dst := some 35, op := Op.indexAddr 23 (Operand.tmp 34) (Operand.const (Value.int IntKind.i64 0)), type := 0, pos := "outright.go:32", after := #[{ on := 10, ground := Ground.data }, { on := 8, ground := Ground.guard }], guard := some (8, true) }) (v := ?_) rfl (by kernel_rfl) (by kernel_rfl) (by kernel_rfl) (fun _ _ _ h => h) (Or.inl ⟨by rfl, ?_⟩) hHeld ?_
      rotate_left
      · (intro w hSw; (try dsimp only at hSw); go_simp <;> with_reducible rfl)
      try simp only [Act.put, List.setIfInBounds_toArray, List.set_cons_zero, List.set_cons_succ]
      refine wpAnyH_take (i := 12) (oi := { dst := some 36, op := Op.fieldAddr 32 (Operand.tmp 35) 0, type := 0, pos := "outright.go:32", after := #[{ on := 11, ground := Ground.data }, { on := 8, ground := Ground.guard }], guard := some (8, true) }) (v := ?_) rfl (by kernel_rfl) (by kernel_rfl) (by kernel_rfl) (fun _ _ _ h => h) (Or.inl ⟨by rfl, ?_⟩) hHeld ?_
      rotate_left
      · (intro w hSw; (try dsimp only at hSw); go_simp <;> with_reducible rfl)
      try simp only [Act.put, List.setIfInBounds_toArray, List.set_cons_zero, List.set_cons_succ]
      refine wpAnyH_take (i := 13) (oi := { dst := some 37, op := Op.load 9 (Operand.tmp 36), type := 9, pos := "outright.go:32", after := #[{ on := 12, ground := Ground.data }, { on := 8, ground := Ground.guard }], guard := some (8, true) }) (v := ?_) rfl (by kernel_rfl) (by kernel_rfl) (by kernel_rfl) (fun _ _ _ h => h) (Or.inl ⟨by rfl, ?_⟩) hHeld ?_
      rotate_left
      · (intro w hSw; (try dsimp only at hSw); go_simp <;> with_reducible rfl)
      try simp only [Act.put, List.setIfInBounds_toArray, List.set_cons_zero, List.set_cons_succ]
      refine wpAnyH_take (i := 14) (oi := { dst := some 38, op := Op.binOp BinOp.eql 9 (Operand.tmp 37) (Operand.const (Value.string { data := #[97] })) 9, type := 4, pos := "outright.go:32", after := #[{ on := 13, ground := Ground.data }, { on := 8, ground := Ground.guard }], guard := some (8, true) }) (v := ?_) rfl (by kernel_rfl) (by kernel_rfl) (by kernel_rfl) (fun _ _ _ h => h) (Or.inl ⟨by rfl, ?_⟩) hHeld ?_
      rotate_left
      · (intro w hSw; (try dsimp only at hSw); go_simp <;> with_reducible rfl)
      try simp only [Act.put, List.setIfInBounds_toArray, List.set_cons_zero, List.set_cons_succ]
      refine wpAnyH_take (i := 15) (oi := { dst := some 39, op := Op.pick (Operand.tmp 32) (Operand.tmp 38) (Operand.const (Value.bool false)), type := 4, pos := "outright.go:32", after := #[{ on := 8, ground := Ground.data }, { on := 14, ground := Ground.data }], guard := none }) (v := ?_) rfl (by kernel_rfl) (by kernel_rfl) (by kernel_rfl) (fun _ _ _ h => h) (Or.inl ⟨by rfl, ?_⟩) hHeld ?_
      rotate_left
      · (intro w hSw; (try dsimp only at hSw); go_simp <;> with_reducible rfl)
      try simp only [Act.put, List.setIfInBounds_toArray, List.set_cons_zero, List.set_cons_succ]
      refine wpAnyH_take (i := 16) (oi := { dst := some 40, op := Op.move (Operand.tmp 39), type := 4, pos := "outright.go:32", after := #[{ on := 15, ground := Ground.data }, { on := 8, ground := Ground.chain }], guard := none }) (v := ?_) rfl (by kernel_rfl) (by kernel_rfl) (by kernel_rfl) (fun _ _ _ h => h) (Or.inl ⟨by rfl, ?_⟩) hHeld ?_
      rotate_left
      · (intro w hSw; (try dsimp only at hSw); go_simp <;> with_reducible rfl)
      try simp only [Act.put, List.setIfInBounds_toArray, List.set_cons_zero, List.set_cons_succ]
      refine wpAnyH_take (i := 17) (oi := { dst := some 41, op := Op.move (Operand.tmp 4), type := 26, pos := "outright.go:32", after := #[{ on := 16, ground := Ground.guard }], guard := some (16, true) }) (v := ?_) rfl (by kernel_rfl) (by kernel_rfl) (by kernel_rfl) (fun _ _ _ h => h) (Or.inl ⟨by rfl, ?_⟩) hHeld ?_
      rotate_left
      · (intro w hSw; (try dsimp only at hSw); go_simp <;> with_reducible rfl)
      try simp only [Act.put, List.setIfInBounds_toArray, List.set_cons_zero, List.set_cons_succ]
      refine wpAnyH_take (i := 18) (oi := { dst := some 42, op := Op.binOp BinOp.eql 26 (Operand.tmp 41) (Operand.const (Value.int IntKind.i64 272)) 26, type := 4, pos := "outright.go:32", after := #[{ on := 17, ground := Ground.data }, { on := 16, ground := Ground.guard }], guard := some (16, true) }) (v := ?_) rfl (by kernel_rfl) (by kernel_rfl) (by kernel_rfl) (fun _ _ _ h => h) (Or.inl ⟨by rfl, ?_⟩) hHeld ?_
      rotate_left
      · (intro w hSw; (try dsimp only at hSw); go_simp <;> with_reducible rfl)
      try simp only [Act.put, List.setIfInBounds_toArray, List.set_cons_zero, List.set_cons_succ]
      refine wpAnyH_take (i := 19) (oi := { dst := some 43, op := Op.pick (Operand.tmp 40) (Operand.tmp 42) (Operand.const (Value.bool false)), type := 4, pos := "outright.go:32", after := #[{ on := 16, ground := Ground.data }, { on := 18, ground := Ground.data }], guard := none }) (v := ?_) rfl (by kernel_rfl) (by kernel_rfl) (by kernel_rfl) (fun _ _ _ h => h) (Or.inl ⟨by rfl, ?_⟩) hHeld ?_
      rotate_left
      · (intro w hSw; (try dsimp only at hSw); go_simp <;> with_reducible rfl)
      try simp only [Act.put, List.setIfInBounds_toArray, List.set_cons_zero, List.set_cons_succ]
      refine wpAnyH_take (i := 20) (oi := { dst := some 44, op := Op.move (Operand.tmp 43), type := 4, pos := "outright.go:32", after := #[{ on := 19, ground := Ground.data }, { on := 16, ground := Ground.chain }], guard := none }) (v := ?_) rfl (by kernel_rfl) (by kernel_rfl) (by kernel_rfl) (fun _ _ _ h => h) (Or.inl ⟨by rfl, ?_⟩) hHeld ?_
      rotate_left
      · (intro w hSw; (try dsimp only at hSw); go_simp <;> with_reducible rfl)
      try simp only [Act.put, List.setIfInBounds_toArray, List.set_cons_zero, List.set_cons_succ]
      refine wpAnyH_take (i := 21) (oi := { dst := some 45, op := Op.move (Operand.tmp 6), type := 4, pos := "outright.go:32", after := #[{ on := 20, ground := Ground.guard }], guard := some (20, true) }) (v := ?_) rfl (by kernel_rfl) (by kernel_rfl) (by kernel_rfl) (fun _ _ _ h => h) (Or.inl ⟨by rfl, ?_⟩) hHeld ?_
      rotate_left
      · (intro w hSw; (try dsimp only at hSw); go_simp <;> with_reducible rfl)
      try simp only [Act.put, List.setIfInBounds_toArray, List.set_cons_zero, List.set_cons_succ]
      refine wpAnyH_take (i := 22) (oi := { dst := some 46, op := Op.pick (Operand.tmp 44) (Operand.tmp 45) (Operand.const (Value.bool false)), type := 4, pos := "outright.go:32", after := #[{ on := 20, ground := Ground.data }, { on := 21, ground := Ground.data }], guard := none }) (v := ?_) rfl (by kernel_rfl) (by kernel_rfl) (by kernel_rfl) (fun _ _ _ h => h) (Or.inl ⟨by rfl, ?_⟩) hHeld ?_
      rotate_left
      · (intro w hSw; (try dsimp only at hSw); go_simp <;> with_reducible rfl)
      try simp only [Act.put, List.setIfInBounds_toArray, List.set_cons_zero, List.set_cons_succ]
      refine wpAnyH_take (i := 23) (oi := { dst := some 47, op := Op.move (Operand.tmp 46), type := 4, pos := "outright.go:32", after := #[{ on := 22, ground := Ground.data }, { on := 20, ground := Ground.chain }], guard := none }) (v := ?_) rfl (by kernel_rfl) (by kernel_rfl) (by kernel_rfl) (fun _ _ _ h => h) (Or.inl ⟨by rfl, ?_⟩) hHeld ?_
      rotate_left
      · (intro w hSw; (try dsimp only at hSw); go_simp <;> with_reducible rfl)
      try simp only [Act.put, List.setIfInBounds_toArray, List.set_cons_zero, List.set_cons_succ]
      refine wpAnyH_take (i := 24) (oi := { dst := some 48, op := Op.load 32 (Operand.tmp 5), type := 32, pos := "outright.go:32", after := #[{ on := 23, ground := Ground.guard }], guard := some (23, true) }) (v := ?_) rfl (by kernel_rfl) (by kernel_rfl) (by kernel_rfl) (fun _ _ _ h => h) (Or.inl ⟨by rfl, ?_⟩) hHeld ?_
      rotate_left
      · (intro w hSw; (try dsimp only at hSw); go_simp <;> with_reducible rfl)
      try simp only [Act.put, List.setIfInBounds_toArray, List.set_cons_zero, List.set_cons_succ]
      refine wpAnyH_ready (rs := [25]) (by kernel_rfl) (by simp) (AllReadyH.cons (o := { dst := some 49, op := Op.call { callee := Callee.value (Operand.func 9), args := #[Operand.const (Value.string { data := #[98] }), Operand.const (Value.int IntKind.i64 2)], argTypes := #[9, 2] }, type := 32, pos := "outright.go:32", after := #[{ on := 23, ground := Ground.chain }, { on := 23, ground := Ground.guard }], guard := some (23, true) }) rfl (fun K25 hK25 => ?_) AllReadyH.nil)
      go_simp
      refine (HRB.out _).mono ?_
      rintro e wr ⟨ad5, cp5, rfl, d5, b5⟩
      have D5 := Lib.hid d5
      refine hK25.out _ _ (HS4.out _ (hHeld.1.trans (b5.mono hHeld.1.size))) (fun hH_25 => ?_)
      clear d5 b5
      clear hK25 K25
      try simp only [Act.put, List.setIfInBounds_toArray, List.set_cons_zero, List.set_cons_succ]
      refine wpAnyH_ready (rs := [26]) (by kernel_rfl) (by simp) (AllReadyH.cons (o := { dst := some 50, op := Op.call { callee := Callee.value (Operand.func 13), args := #[Operand.tmp 48, Operand.tmp 49], argTypes := #[32, 32] }, type := 4, pos := "outright.go:32", after := #[{ on := 24, ground := Ground.data }, { on := 25, ground := Ground.data }, { on := 25, ground := Ground.chain }, { on := 23, ground := Ground.guard }], guard := some (23, true) }) rfl (fun K26 hK26 => ?_) AllReadyH.nil)
      go_simp
      refine (HSR.out _ _ _ _ _ _ _ (DQ.out.below hH_25.1) D5.out).mono ?_
      rintro e wp ⟨rfl, b6⟩
      refine hK26.out _ _ (HS4.out _ (hH_25.1.trans (b6.mono hH_25.1.size))) (fun hH_26 => ?_)
      clear b6
      clear hK26 K26
      try simp only [Act.put, List.setIfInBounds_toArray, List.set_cons_zero, List.set_cons_succ]
      refine wpAnyH_take (i := 27) (oi := { dst := some 51, op := Op.pick (Operand.tmp 47) (Operand.tmp 50) (Operand.const (Value.bool false)), type := 4, pos := "outright.go:32", after := #[{ on := 23, ground := Ground.data }, { on := 26, ground := Ground.data }], guard := none }) (v := ?_) rfl (by kernel_rfl) (by kernel_rfl) (by kernel_rfl) (fun _ _ _ h => h) (Or.inl ⟨by rfl, ?_⟩) hH_26 ?_
      rotate_left
      · (intro w hSw; (try dsimp only at hSw); go_simp <;> with_reducible rfl)
      try simp only [Act.put, List.setIfInBounds_toArray, List.set_cons_zero, List.set_cons_succ]
      refine wpAnyH_take (i := 28) (oi := { dst := some 0, op := Op.assign (Operand.tmp 51), type := 4, pos := "outright.go:32", after := #[{ on := 27, ground := Ground.data }, { on := 26, ground := Ground.chain }, { on := 0, ground := Ground.phase }, { on := 1, ground := Ground.phase }, { on := 2, ground := Ground.phase }, { on := 3, ground := Ground.phase }, { on := 4, ground := Ground.phase }, { on := 5, ground := Ground.phase }, { on := 6, ground := Ground.phase }, { on := 7, ground := Ground.phase }, { on := 8, ground := Ground.phase }, { on := 9, ground := Ground.phase }, { on := 10, ground := Ground.phase }, { on := 11, ground := Ground.phase }, { on := 12, ground := Ground.phase }, { on := 13, ground := Ground.phase }, { on := 14, ground := Ground.phase }, { on := 15, ground := Ground.phase }, { on := 16, ground := Ground.phase }, { on := 17, ground := Ground.phase }, { on := 18, ground := Ground.phase }, { on := 19, ground := Ground.phase }, { on := 20, ground := Ground.phase }, { on := 21, ground := Ground.phase }, { on := 22, ground := Ground.phase }, { on := 23, ground := Ground.phase }, { on := 24, ground := Ground.phase }, { on := 25, ground := Ground.phase }, { on := 26, ground := Ground.phase }, { on := 27, ground := Ground.phase }], guard := none }) (v := ?_) rfl (by kernel_rfl) (by kernel_rfl) (by kernel_rfl) (fun _ _ _ h => h) (Or.inl ⟨by rfl, ?_⟩) hH_26 ?_
      rotate_left
      · (intro w hSw; (try dsimp only at hSw); go_simp <;> with_reducible rfl)
      try simp only [Act.put, List.setIfInBounds_toArray, List.set_cons_zero, List.set_cons_succ]
      refine wpAnyH_done (by kernel_rfl) ?_ _
      have HF := Lib.hid (BW.out.trans (hH_26.1.mono BW.out.size))
      clear hHeld
      go_wp2_with fail
      go_ret
      exact ⟨rfl, HF.out⟩
    · go_simp
      have BX := Lib.hid (HBN.out _ hH_1)
      have HQ := Lib.hid hH_1.1.size
      try (have BX : Hid (Bx4 (X.drew.alloc (.cells #[.string ⟨#[]⟩, .int .i64 0, .slice none 0 0, .slice none 0 0] 25)) X.heap.size 25 (.string ⟨#[]⟩) (.int .i64 0) (.slice none 0 0) (.slice none 0 0)) := BX; have HQ : Hid (X.heap.size ≤ X.heap.size) := HQ)
      try (have D3 := Lib.hid (D3.out.below ((Below.refl _ _).alloc (Nat.le_refl _) (.cells #[.string ⟨#[]⟩, .int .i64 0, .slice none 0 0, .slice none 0 0] 25))))
      refine hK6.out _ _ (HS.out _ (hH_1.1.alloc hH_1.1.size _)) (fun hH_6 => ?_)
      clear hK6 K6
      try simp only [Act.put, List.setIfInBounds_toArray, List.set_cons_zero, List.set_cons_succ]
      refine wpAnyH_ready (rs := [2]) (by kernel_rfl) (by simp) (AllReadyH.cons (o := { dst := some 16, op := Op.call { callee := Callee.value (Operand.func 7), args := #[Operand.tmp 14, Operand.tmp 15], argTypes := #[25, 32] }, type := 27, pos := "outright.go:30", after := #[{ on := 0, ground := Ground.data }, { on := 1, ground := Ground.data }, { on := 1, ground := Ground.chain }], guard := none }) rfl (fun K2 hK2 => ?_) AllReadyH.nil)
      go_simp
      refine (HP2.out _ _ _ _ _ _ _ _ _ (V3.out.below hH_6.1) D3.out).mono ?_
      rintro e wp ⟨x1, y1, x2, y2, rfl, _, b4⟩
      try (have BX := Lib.hid (BX.out.up b4); have z0 := BX.out.c0; have z1 := BX.out.c1; have z2 := BX.out.c2; have z3 := BX.out.c3; have g0 := BX.out.fz 0; have g1 := BX.out.fz 1; have g2 := BX.out.fz 2; have g3 := BX.out.fz 3)
      refine hK2.out _ _ (HS.out _ (hH_6.1.trans (b4.mono hH_6.1.size))) (fun hH_2 => ?_)
      clear b4
      clear hK2 K2
      try simp only [Act.put, List.setIfInBounds_toArray, List.set_cons_zero, List.set_cons_succ]
      refine wpAnyH_take (i := 3) (oi := { dst := some 13, op := Op.move (Operand.tmp 16), type := 27, pos := "outright.go:30", after := #[{ on := 2, ground := Ground.data }], guard := none }) (v := ?_) rfl (by kernel_rfl) (by kernel_rfl) (by kernel_rfl) (fun _ _ _ h => h) (Or.inl ⟨by rfl, ?_⟩) hH_2 ?_
      rotate_left
      · (intro w hSw; (try dsimp only at hSw); go_simp <;> with_reducible rfl)
      try simp only [Act.put, List.setIfInBounds_toArray, List.set_cons_zero, List.set_cons_succ]
      refine wpAnyH_take (i := 4) (oi := { dst := some 17, op := Op.extract (Operand.tmp 13) 0, type := 25, pos := "outright.go:30", after := #[{ on := 3, ground := Ground.data }], guard := none }) (v := ?_) rfl (by kernel_rfl) (by kernel_rfl) (by kernel_rfl) (fun _ _ _ h => h) (Or.inl ⟨by rfl, ?_⟩) hH_2 ?_
      rotate_left
      · (intro w hSw; (try dsimp only at hSw); go_simp <;> with_reducible rfl)
      try simp only [Act.put, List.setIfInBounds_toArray, List.set_cons_zero, List.set_cons_succ]
      refine wpAnyH_take (i := 5) (oi := { dst := some 18, op := Op.extract (Operand.tmp 13) 1, type := 26, pos := "outright.go:30", after := #[{ on := 3, ground := Ground.data }, { on := 7, ground := Ground.gcOnly Departure.lateStores }], guard := none }) (v := ?_) rfl (by kernel_rfl) (by kernel_rfl) (by kernel_rfl) (fun _ _ _ h => h) (Or.inl ⟨by rfl, ?_⟩) hH_2 ?_
      rotate_left
      · (intro w hSw; (try dsimp only at hSw); go_simp <;> with_reducible rfl)
      try simp only [Act.put, List.setIfInBounds_toArray, List.set_cons_zero, List.set_cons_succ]
      refine wpAnyH_ready (rs := [7]) (by kernel_rfl) (by simp) (AllReadyH.cons (o := { dst := none, op := Op.store 25 (Operand.tmp 3) (Operand.tmp 17), type := 0, pos := "outright.go:30", after := #[{ on := 6, ground := Ground.data }, { on := 4, ground := Ground.data }, { on := 2, ground := Ground.chain }, { on := 0, ground := Ground.phase }, { on := 1, ground := Ground.phase }, { on := 2, ground := Ground.phase }, { on := 3, ground := Ground.phase }, { on := 4, ground := Ground.phase }, { on := 5, ground := Ground.textOnly Departure.lateStores }, { on := 6, ground := Ground.phase }], guard := none }) rfl (fun K7 hK7 => ?_) AllReadyH.nil)
      go_simp
      refine hK7.out _ _ (HS.out _ (by first | exact hH_2.1.alloc hH_2.1.size _ | exact w4_below hH_2.1 HQ.out _ _ _ _)) (fun hH_7 => ?_)
      clear hK7 K7
      try simp only [Act.put, List.setIfInBounds_toArray, List.set_cons_zero, List.set_cons_succ]
      refine wpAnyH_take (i := 8) (oi := { dst := some 4, op := Op.assign (Operand.tmp 18), type := 26, pos := "outright.go:30", after := #[{ on := 5, ground := Ground.data }, { on := 7, ground := Ground.chain }, { on := 0, ground := Ground.phase }, { on := 1, ground := Ground.phase }, { on := 2, ground := Ground.phase }, { on := 3, ground := Ground.phase }, { on := 4, ground := Ground.phase }, { on := 5, ground := Ground.phase }, { on := 6, ground := Ground.phase }, { on := 7, ground := Ground.phase }], guard := none }) (v := ?_) rfl (by kernel_rfl) (by kernel_rfl) (by kernel_rfl) (fun _ _ _ h => h) (Or.inl ⟨by rfl, ?_⟩) hH_7 ?_
      rotate_left
      · (intro w hSw; (try dsimp only at hSw); go_simp <;> with_reducible rfl)
      try simp only [Act.put, List.setIfInBounds_toArray, List.set_cons_zero, List.set_cons_succ]
      refine wpAnyH_done (by kernel_rfl) ?_ _
      have VY := Lib.hid (V3.out.below hH_7.1)
      have SY := Lib.hid hH_7
      have q0 := hH_7.2.1
      have q1 := hH_7.2.2.1
      have q2 := hH_7.2.2.2.1
      have q3 := hH_7.2.2.2.2
      clear hHeld
      go_wp2_with fail
      refine (HGT.out _ _ _ _ _ _ VY.out).mono ?_
      rintro e w6 ⟨q, rfl, dq, b6⟩
      have B6 := Lib.hid (SY.out.1.trans (b6.mono SY.out.1.size))
      have D6 := Lib.hid dq
      clear dq b6 VY SY q0 q1 q2 q3
      go_wp2_with fail
      obtain ⟨y, hy⟩ : ∃ y, y = w6.heap.size := ⟨_, rfl⟩
      obtain ⟨Z, hZ⟩ : ∃ Z, Z = w6.alloc (.cells #[.string ⟨#[98]⟩, .slice (some ⟨q, 0, none⟩) 3 3] 32) := ⟨_, rfl⟩
      have HZ : Hid (Bx2 Z y (.string ⟨#[98]⟩) (.slice (some ⟨q, 0, none⟩) 3 3)) := Lib.hid (by rw [hZ, hy]; exact bx2_new w6 _ _)
      have BZ : Hid (Below X.heap.size X Z) := Lib.hid (by rw [hZ]; exact B6.out.alloc B6.out.size _)
      have DQ : Hid (DV 0 Z (some ⟨q, 0, none⟩) 3 rb.d) := Lib.hid (by rw [hZ]; exact (D6.out.below ((Below.refl _ _).alloc (Nat.le_refl _) _)).mono (Nat.zero_le _))
      have BW := Lib.hid (B4.out.trans (BZ.out.mono B4.out.size))
      rw [← hZ, ← hy]
      clear hZ hy B6 D6
      have HS4 : Hid (∀ w', Below Z.heap.size Z w' → (fun w' => Below Z.heap.size Z w' ∧ w'.cell? ⟨p, 3, none⟩ = some (.slice (some ⟨rb0, ro0, none⟩) 2 f2) ∧ w'.cell? ⟨rb0, ro0, none⟩ = some (.string ⟨#[97]⟩) ∧ w'.cell? ⟨y, 0, none⟩ = some (.string ⟨#[98]⟩) ∧ w'.cell? ⟨y, 1, none⟩ = some (.slice (some ⟨q, 0, none⟩) 3 3)) w') := Lib.hid (fun w' k => ⟨k, (HS.out _ (BZ.out.trans (k.mono BZ.out.size))).2.2.2.2, HRW.out _ (BZ.out.trans (k.mono BZ.out.size)), (HZ.out.up k).c0, (HZ.out.up k).c1⟩)
      clear HS HRW HZ BZ
      refine wp_region_held_drew (S := (fun w' => Below Z.heap.size Z w' ∧ w'.cell? ⟨p, 3, none⟩ = some (.slice (some ⟨rb0, ro0, none⟩) 2 f2) ∧ w'.cell? ⟨rb0, ro0, none⟩ = some (.string ⟨#[97]⟩) ∧ w'.cell? ⟨y, 0, none⟩ = some (.string ⟨#[98]⟩) ∧ w'.cell? ⟨y, 1, none⟩ = some (.slice (some ⟨q, 0, none⟩) 3 3))) (by kernel_rfl) (HS4.out _ ((Below.refl _ _).drew)) (fun hHeld => ?_)
      refine wpAnyH_take (i := 0) (oi := { dst := some 24, op := Op.move (Operand.tmp 2), type := 26, pos := "outright.go:32", after := #[], guard := none }) (v := ?_) rfl (by kernel_rfl) (by kernel_rfl) (by kernel_rfl) (fun _ _ _ h => h) (Or.inl ⟨by rfl, ?_⟩) hHeld ?_
      rotate_left
      · (intro w hSw; (try dsimp only at hSw); go_simp <;> with_reducible rfl)
      try simp only [Act.put, List.setIfInBounds_toArray, List.set_cons_zero, List.set_cons_succ]
      refine wpAnyH_take (i := 1) (oi := { dst := some 25, op := Op.binOp BinOp.eql 26 (Operand.tmp 24) (Operand.const (Value.int IntKind.i64 0)) 26, type := 4, pos := "outright.go:32", after := #[{ on := 0, ground := Ground.data }], guard := none }) (v := ?_) rfl (by kernel_rfl) (by kernel_rfl) (by kernel_rfl) (fun _ _ _ h => h) (Or.inl ⟨by rfl, ?_⟩) hHeld ?_
      rotate_left
      · (intro w hSw; (try dsimp only at hSw); go_simp <;> with_reducible rfl)
      try simp only [Act.put, List.setIfInBounds_toArray, List.set_cons_zero, List.set_cons_succ]
      refine wpAnyH_take (i := 2) (oi := { dst := some 26, op := Op.move (Operand.tmp 25), type := 4, pos := "outright.go:32", after := #[{ on := 1, ground := Ground.data }], guard := none }) (v := ?_) rfl (by kernel_rfl) (by kernel_rfl) (by kernel_rfl) (fun _ _ _ h => h) (Or.inl ⟨by rfl, ?_⟩) hHeld ?_
      rotate_left
      · (intro w hSw; (try dsimp only at hSw); go_simp <;> with_reducible rfl)
      try simp only [Act.put, List.setIfInBounds_toArray, List.set_cons_zero, List.set_cons_succ]
      refine wpAnyH_take (i := 3) (oi := { dst := some 27, op := Op.fieldAddr 25 (Operand.tmp 1) 3, type := 0, pos := "outright.go:32", after := #[{ on := 2, ground := Ground.guard }], guard := some (2, true) }) (v := ?_) rfl (by kernel_rfl) (by kernel_rfl) (by kernel_rfl) (fun _ _ _ h => h) (Or.inl ⟨by rfl, ?_⟩) hHeld ?_
      rotate_left
      · (intro w hSw; (try dsimp only at hSw); go_simp <;> with_reducible rfl)
      try simp only [Act.put, List.setIfInBounds_toArray, List.set_cons_zero, List.set_cons_succ]
      refine wpAnyH_take (i := 4) (oi := { dst := some 28, op := Op.load 23 (Operand.tmp 27), type := 23, pos := "outright.go:32", after := #[{ on := 3, ground := Ground.data }, { on := 2, ground := Ground.guard }], guard := some (2, true) }) (v := ?_) rfl (by kernel_rfl) (by kernel_rfl) (by kernel_rfl) (fun _ _ _ h => h) (Or.inl ⟨by rfl, ?_⟩) hHeld ?_
      rotate_left
      · (intro w hSw; (try dsimp only at hSw); go_simp <;> with_reducible rfl)
      try simp only [Act.put, List.setIfInBounds_toArray, List.set_cons_zero, List.set_cons_succ]
      refine wpAnyH_take (i := 5) (oi := { dst := some 29, op := Op.call { callee := Callee.builtin Builtin.len, args := #[Operand.tmp 28], argTypes := #[23] }, type := 3, pos := "outright.go:32", after := #[{ on := 4, ground := Ground.data }, { on := 2, ground := Ground.guard }], guard := some (2, true) }) (v := ?_) rfl (by kernel_rfl) (by kernel_rfl) (by kernel_rfl) (fun _ _ _ h => h) (Or.inl ⟨by rfl, ?_⟩) hHeld ?_
      rotate_left
      · (intro w hSw; (try dsimp only at hSw); go_simp <;> with_reducible rfl)
      try simp only [Act.put, List.setIfInBounds_toArray, List.set_cons_zero, List.set_cons_succ]
      refine wpAnyH_take (i := 6) (oi := { dst := some 30, op := Op.binOp BinOp.eql 3 (Operand.tmp 29) (Operand.const (Value.int IntKind.i64 2)) 3, type := 4, pos := "outright.go:32", after := #[{ on := 5, ground := Ground.data }, { on := 2, ground := Ground.guard }], guard := some (2, true) }) (v := ?_) rfl (by kernel_rfl) (by kernel_rfl) (by kernel_rfl) (fun _ _ _ h => h) (Or.inl ⟨by rfl, ?_⟩) hHeld ?_
      rotate_left
      · (intro w hSw; (try dsimp only at hSw); go_simp <;> with_reducible rfl)
      try simp only [Act.put, List.setIfInBounds_toArray, List.set_cons_zero, List.set_cons_succ]
      refine wpAnyH_take (i := 7) (oi := { dst := some 31, op := Op.pick (Operand.tmp 26) (Operand.tmp 30) (Operand.const (Value.bool false)), type := 4, pos := "outright.go:32", after := #[{ on := 2, ground := Ground.data }, { on := 6, ground := Ground.data }], guard := none }) (v := ?_) rfl (by kernel_rfl) (by kernel_rfl) (by kernel_rfl) (fun _ _ _ h => h) (Or.inl ⟨by rfl, ?_⟩) hHeld ?_
      rotate_left
      · (intro w hSw; (try dsimp only at hSw); go_simp <;> with_reducible rfl)
      try simp only [Act.put, List.setIfInBounds_toArray, List.set_cons_zero, List.set_cons_succ]
      refine wpAnyH_take (i := 8) (oi := { dst := some 32, op := Op.move (Operand.tmp 31), type := 4, pos := "outright.go:32", after := #[{ on := 7, ground := Ground.data }, { on := 2, ground := Ground.chain }], guard := none }) (v := ?_) rfl (by kernel_rfl) (by kernel_rfl) (by kernel_rfl) (fun _ _ _ h => h) (Or.inl ⟨by rfl, ?_⟩) hHeld ?_
      rotate_left
      · (intro w hSw; (try dsimp only at hSw); go_simp <;> with_reducible rfl)
      try simp only [Act.put, List.setIfInBounds_toArray, List.set_cons_zero, List.set_cons_succ]
      refine wpAnyH_take (i := 9) (oi := { dst := some 33, op := Op.fieldAddr 25 (Operand.tmp 1) 3, type := 0, pos := "outright.go:32", after := #[{ on := 8, ground := Ground.guard }], guard := some (8, true) }) (v := ?_) rfl (by kernel_rfl) (by kernel_rfl) (by kernel_rfl) (fun _ _ _ h => h) (Or.inl ⟨by rfl, ?_⟩) hHeld ?_
      rotate_left
      · (intro w hSw; (try dsimp only at hSw); go_simp <;> with_reducible rfl)
      try simp only [Act.put, List.setIfInBounds_toArray, List.set_cons_zero, List.set_cons_succ]
      refine wpAnyH_take (i := 10) (oi := { dst := some 34, op := Op.load 23 (Operand.tmp 33), type := 23, pos := "outright.go:32", after := #[{ on := 9, ground := Ground.data }, { on := 8, ground := Ground.guard }], guard := some (8, true) }) (v := ?_) rfl (by kernel_rfl) (by kernel_rfl) (by kernel_rfl) (fun _ _ _ h => h) (Or.inl ⟨by rfl, ?_⟩) hHeld ?_
      rotate_left
      · (intro w hSw; (try dsimp only at hSw); go_simp <;> with_reducible rfl)
      try simp only [Act.put, List.setIfInBounds_toArray, List.set_cons_zero, List.set_cons_succ]
      refine wpAnyH_take (i := 11) (oi := { dst := some 35, op := Op.indexAddr 23 (Operand.tmp 34) (Operand.const (Value.int IntKind.i64 0)), type := 0, pos := "outright.go:32", after := #[{ on := 10, ground := Ground.data }, { on := 8, ground := Ground.guard }], guard := some (8, true) }) (v := ?_) rfl (by kernel_rfl) (by kernel_rfl) (by kernel_rfl) (fun _ _ _ h => h) (Or.inl ⟨by rfl, ?_⟩) hHeld ?_
      rotate_left
      · (intro w hSw; (try dsimp only at hSw); go_simp <;> with_reducible rfl)
      try simp only [Act.put, List.setIfInBounds_toArray, List.set_cons_zero, List.set_cons_succ]
      refine wpAnyH_take (i := 12) (oi := { dst := some 36, op := Op.fieldAddr 32 (Operand.tmp 35) 0, type := 0, pos := "outright.go:32", after := #[{ on := 11, ground := Ground.data }, { on := 8, ground := Ground.guard }], guard := some (8, true) }) (v := ?_) rfl (by kernel_rfl) (by kernel_rfl) (by kernel_rfl) (fun _ _ _ h => h) (Or.inl ⟨by rfl, ?_⟩) hHeld ?_
      rotate_left
      · (intro w hSw; (try dsimp only at hSw); go_simp <;> with_reducible rfl)
      try simp only [Act.put, List.setIfInBounds_toArray, List.set_cons_zero, List.set_cons_succ]
      refine wpAnyH_take (i := 13) (oi := { dst := some 37, op := Op.load 9 (Operand.tmp 36), type := 9, pos := "outright.go:32", after := #[{ on := 12, ground := Ground.data }, { on := 8, ground := Ground.guard }], guard := some (8, true) }) (v := ?_) rfl (by kernel_rfl) (by kernel_rfl) (by kernel_rfl) (fun _ _ _ h => h) (Or.inl ⟨by rfl, ?_⟩) hHeld ?_
      rotate_left
      · (intro w hSw; (try dsimp only at hSw); go_simp <;> with_reducible rfl)
      try simp only [Act.put, List.setIfInBounds_toArray, List.set_cons_zero, List.set_cons_succ]
      refine wpAnyH_take (i := 14) (oi := { dst := some 38, op := Op.binOp BinOp.eql 9 (Operand.tmp 37) (Operand.const (Value.string { data := #[97] })) 9, type := 4, pos := "outright.go:32", after := #[{ on := 13, ground := Ground.data }, { on := 8, ground := Ground.guard }], guard := some (8, true) }) (v := ?_) rfl (by kernel_rfl) (by kernel_rfl) (by kernel_rfl) (fun _ _ _ h => h) (Or.inl ⟨by rfl, ?_⟩) hHeld ?_
      rotate_left
      · (intro w hSw; (try dsimp only at hSw); go_simp <;> with_reducible rfl)
      try simp only [Act.put, List.setIfInBounds_toArray, List.set_cons_zero, List.set_cons_succ]
      refine wpAnyH_take (i := 15) (oi := { dst := some 39, op := Op.pick (Operand.tmp 32) (Operand.tmp 38) (Operand.const (Value.bool false)), type := 4, pos := "outright.go:32", after := #[{ on := 8, ground := Ground.data }, { on := 14, ground := Ground.data }], guard := none }) (v := ?_) rfl (by kernel_rfl) (by kernel_rfl) (by kernel_rfl) (fun _ _ _ h => h) (Or.inl ⟨by rfl, ?_⟩) hHeld ?_
      rotate_left
      · (intro w hSw; (try dsimp only at hSw); go_simp <;> with_reducible rfl)
      try simp only [Act.put, List.setIfInBounds_toArray, List.set_cons_zero, List.set_cons_succ]
      refine wpAnyH_take (i := 16) (oi := { dst := some 40, op := Op.move (Operand.tmp 39), type := 4, pos := "outright.go:32", after := #[{ on := 15, ground := Ground.data }, { on := 8, ground := Ground.chain }], guard := none }) (v := ?_) rfl (by kernel_rfl) (by kernel_rfl) (by kernel_rfl) (fun _ _ _ h => h) (Or.inl ⟨by rfl, ?_⟩) hHeld ?_
      rotate_left
      · (intro w hSw; (try dsimp only at hSw); go_simp <;> with_reducible rfl)
      try simp only [Act.put, List.setIfInBounds_toArray, List.set_cons_zero, List.set_cons_succ]
      refine wpAnyH_take (i := 17) (oi := { dst := some 41, op := Op.move (Operand.tmp 4), type := 26, pos := "outright.go:32", after := #[{ on := 16, ground := Ground.guard }], guard := some (16, true) }) (v := ?_) rfl (by kernel_rfl) (by kernel_rfl) (by kernel_rfl) (fun _ _ _ h => h) (Or.inl ⟨by rfl, ?_⟩) hHeld ?_
      rotate_left
      · (intro w hSw; (try dsimp only at hSw); go_simp <;> with_reducible rfl)
      try simp only [Act.put, List.setIfInBounds_toArray, List.set_cons_zero, List.set_cons_succ]
      refine wpAnyH_take (i := 18) (oi := { dst := some 42, op := Op.binOp BinOp.eql 26 (Operand.tmp 41) (Operand.const (Value.int IntKind.i64 272)) 26, type := 4, pos := "outright.go:32", after := #[{ on := 17, ground := Ground.data }, { on := 16, ground := Ground.guard }], guard := some (16, true) }) (v := ?_) rfl (by kernel_rfl) (by kernel_rfl) (by kernel_rfl) (fun _ _ _ h => h) (Or.inl ⟨by rfl, ?_⟩) hHeld ?_
      rotate_left
      · (intro w hSw; (try dsimp only at hSw); go_simp <;> with_reducible rfl)
      try simp only [Act.put, List.setIfInBounds_toArray, List.set_cons_zero, List.set_cons_succ]
      refine wpAnyH_take (i := 19) (oi := { dst := some 43, op := Op.pick (Operand.tmp 40) (Operand.tmp 42) (Operand.const (Value.bool false)), type := 4, pos := "outright.go:32", after := #[{ on := 16, ground := Ground.data }, { on := 18, ground := Ground.data }], guard := none }) (v := ?_) rfl (by kernel_rfl) (by kernel_rfl) (by kernel_rfl) (fun _ _ _ h => h) (Or.inl ⟨by rfl, ?_⟩) hHeld ?_
      rotate_left
      · (intro w hSw; (try dsimp only at hSw); go_simp <;> with_reducible rfl)
      try simp only [Act.put, List.setIfInBounds_toArray, List.set_cons_zero, List.set_cons_succ]
      refine wpAnyH_take (i := 20) (oi := { dst := some 44, op := Op.move (Operand.tmp 43), type := 4, pos := "outright.go:32", after := #[{ on := 19, ground := Ground.data }, { on := 16, ground := Ground.chain }], guard := none }) (v := ?_) rfl (by kernel_rfl) (by kernel_rfl) (by kernel_rfl) (fun _ _ _ h => h) (Or.inl ⟨by rfl, ?_⟩) hHeld ?_
      rotate_left
      · (intro w hSw; (try dsimp only at hSw); go_simp <;> with_reducible rfl)
      try simp only [Act.put, List.setIfInBounds_toArray, List.set_cons_zero, List.set_cons_succ]
      refine wpAnyH_take (i := 21) (oi := { dst := some 45, op := Op.move (Operand.tmp 6), type := 4, pos := "outright.go:32", after := #[{ on := 20, ground := Ground.guard }], guard := some (20, true) }) (v := ?_) rfl (by kernel_rfl) (by kernel_rfl) (by kernel_rfl) (fun _ _ _ h => h) (Or.inl ⟨by rfl, ?_⟩) hHeld ?_
      rotate_left
      · (intro w hSw; (try dsimp only at hSw); go_simp <;> with_reducible rfl)
      try simp only [Act.put, List.setIfInBounds_toArray, List.set_cons_zero, List.set_cons_succ]
      refine wpAnyH_take (i := 22) (oi := { dst := some 46, op := Op.pick (Operand.tmp 44) (Operand.tmp 45) (Operand.const (Value.bool false)), type := 4, pos := "outright.go:32", after := #[{ on := 20, ground := Ground.data }, { on := 21, ground := Ground.data }], guard := none }) (v := ?_) rfl (by kernel_rfl) (by kernel_rfl) (by kernel_rfl) (fun _ _ _ h => h) (Or.inl ⟨by rfl, ?_⟩) hHeld ?_
      rotate_left
      · (intro w hSw; (try dsimp only at hSw); go_simp <;> with_reducible rfl)
      try simp only [Act.put, List.setIfInBounds_toArray, List.set_cons_zero, List.set_cons_succ]
      refine wpAnyH_take (i := 23) (oi := { dst := some 47, op := Op.move (Operand.tmp 46), type := 4, pos := "outright.go:32", after := #[{ on := 22, ground := Ground.data }, { on := 20, ground := Ground.chain }], guard := none }) (v := ?_) rfl (by kernel_rfl) (by kernel_rfl) (by kernel_rfl) (fun _ _ _ h => h) (Or.inl ⟨by rfl, ?_⟩) hHeld ?_
      rotate_left
      · (intro w hSw; (try dsimp only at hSw); go_simp <;> with_reducible rfl)
      try simp only [Act.put, List.setIfInBounds_toArray, List.set_cons_zero, List.set_cons_succ]
      refine wpAnyH_take (i := 24) (oi := { dst := some 48, op := Op.load 32 (Operand.tmp 5), type := 32, pos := "outright.go:32", after := #[{ on := 23, ground := Ground.guard }], guard := some (23, true) }) (v := ?_) rfl (by kernel_rfl) (by kernel_rfl) (by kernel_rfl) (fun _ _ _ h => h) (Or.inl ⟨by rfl, ?_⟩) hHeld ?_
      rotate_left
      · (intro w hSw; (try dsimp only at hSw); go_simp <;> with_reducible rfl)
      try simp only [Act.put, List.setIfInBounds_toArray, List.set_cons_zero, List.set_cons_succ]
      refine wpAnyH_ready (rs := [25]) (by kernel_rfl) (by simp) (AllReadyH.cons (o := { dst := some 49, op := Op.call { callee := Callee.value (Operand.func 9), args := #[Operand.const (Value.string { data := #[98] }), Operand.const (Value.int IntKind.i64 2)], argTypes := #[9, 2] }, type := 32, pos := "outright.go:32", after := #[{ on := 23, ground := Ground.chain }, { on := 23, ground := Ground.guard }], guard := some (23, true) }) rfl (fun K25 hK25 => ?_) AllReadyH.nil)
      go_simp
      refine (HRB.out _).mono ?_
      rintro e wr ⟨ad5, cp5, rfl, d5, b5⟩
      have D5 := Lib.hid d5
      refine hK25.out _ _ (HS4.out _ (hHeld.1.trans (b5.mono hHeld.1.size))) (fun hH_25 => ?_)
      clear d5 b5
      clear hK25 K25
      try simp only [Act.put, List.setIfInBounds_toArray, List.set_cons_zero, List.set_cons_succ]
      refine wpAnyH_ready (rs := [26]) (by kernel_rfl) (by simp) (AllReadyH.cons (o := { dst := some 50, op := Op.call { callee := Callee.value (Operand.func 13), args := #[Operand.tmp 48, Operand.tmp 49], argTypes := #[32, 32] }, type := 4, pos := "outright.go:32", after := #[{ on := 24, ground := Ground.data }, { on := 25, ground := Ground.data }, { on := 25, ground := Ground.chain }, { on := 23, ground := Ground.guard }], guard := some (23, true) }) rfl (fun K26 hK26 => ?_) AllReadyH.nil)
      go_simp
      refine (HSR.out _ _ _ _ _ _ _ (DQ.out.below hH_25.1) D5.out).mono ?_
      rintro e wp ⟨rfl, b6⟩
      refine hK26.out _ _ (HS4.out _ (hH_25.1.trans (b6.mono hH_25.1.size))) (fun hH_26 => ?_)
      clear b6
      clear hK26 K26
      try simp only [Act.put, List.setIfInBounds_toArray, List.set_cons_zero, List.set_cons_succ]
      refine wpAnyH_take (i := 27) (oi := { dst := some 51, op := Op.pick (Operand.tmp 47) (Operand.tmp 50) (Operand.const (Value.bool false)), type := 4, pos := "outright.go:32", after := #[{ on := 23, ground := Ground.data }, { on := 26, ground := Ground.data }], guard := none }) (v := ?_) rfl (by kernel_rfl) (by kernel_rfl) (by kernel_rfl) (fun _ _ _ h => h) (Or.inl ⟨by rfl, ?_⟩) hH_26 ?_
      rotate_left
      · (intro w hSw; (try dsimp only at hSw); go_simp <;> with_reducible rfl)
      try simp only [Act.put, List.setIfInBounds_toArray, List.set_cons_zero, List.set_cons_succ]
      refine wpAnyH_take (i := 28) (oi := { dst := some 0, op := Op.assign (Operand.tmp 51), type := 4, pos := "outright.go:32", after := #[{ on := 27, ground := Ground.data }, { on := 26, ground := Ground.chain }, { on := 0, ground := Ground.phase }, { on := 1, ground := Ground.phase }, { on := 2, ground := Ground.phase }, { on := 3, ground := Ground.phase }, { on := 4, ground := Ground.phase }, { on := 5, ground := Ground.phase }, { on := 6, ground := Ground.phase }, { on := 7, ground := Ground.phase }, { on := 8, ground := Ground.phase }, { on := 9, ground := Ground.phase }, { on := 10, ground := Ground.phase }, { on := 11, ground := Ground.phase }, { on := 12, ground := Ground.phase }, { on := 13, ground := Ground.phase }, { on := 14, ground := Ground.phase }, { on := 15, ground := Ground.phase }, { on := 16, ground := Ground.phase }, { on := 17, ground := Ground.phase }, { on := 18, ground := Ground.phase }, { on := 19, ground := Ground.phase }, { on := 20, ground := Ground.phase }, { on := 21, ground := Ground.phase }, { on := 22, ground := Ground.phase }, { on := 23, ground := Ground.phase }, { on := 24, ground := Ground.phase }, { on := 25, ground := Ground.phase }, { on := 26, ground := Ground.phase }, { on := 27, ground := Ground.phase }], guard := none }) (v := ?_) rfl (by kernel_rfl) (by kernel_rfl) (by kernel_rfl) (fun _ _ _ h => h) (Or.inl ⟨by rfl, ?_⟩) hH_26 ?_
      rotate_left
      · (intro w hSw; (try dsimp only at hSw); go_simp <;> with_reducible rfl)
      try simp only [Act.put, List.setIfInBounds_toArray, List.set_cons_zero, List.set_cons_succ]
      refine wpAnyH_done (by kernel_rfl) ?_ _
      have HF := Lib.hid (BW.out.trans (hH_26.1.mono BW.out.size))
      clear hHeld
      go_wp2_with fail
      go_ret
      exact ⟨rfl, HF.out⟩
  · go_simp
    have BX := Lib.hid (HBN.out _ hHeld)
    have HQ := Lib.hid hHeld.1.size
    try (have BX : Hid (Bx4 (X.drew.alloc (.cells #[.string ⟨#[]⟩, .int .i64 0, .slice none 0 0, .slice none 0 0] 25)) X.heap.size 25 (.string ⟨#[]⟩) (.int .i64 0) (.slice none 0 0) (.slice none 0 0)) := BX; have HQ : Hid (X.heap.size ≤ X.heap.size) := HQ)
    try (have D3 := Lib.hid (D3.out.below ((Below.refl _ _).alloc (Nat.le_refl _) (.cells #[.string ⟨#[]⟩, .int .i64 0, .slice none 0 0, .slice none 0 0] 25))))
    refine hK6.out _ _ (HS.out _ (hHeld.1.alloc hHeld.1.size _)) (fun hH_6 => ?_)
    clear hK6 K6
    try simp only [Act.put, List.setIfInBounds_toArray, List.set_cons_zero, List.set_cons_succ]
    refine wpAnyH_ready (rs := [1]) (by kernel_rfl) (by simp) (AllReadyH.cons (o := { dst := some 15, op := Op.call { callee := Callee.value (Operand.func 9), args := #[Operand.const (Value.string { data := #[99] }), Operand.const (Value.int IntKind.i64 3)], argTypes := #[9, 2] }, type := 32, pos := "outright.go:30", after := #[], guard := none }) rfl (fun K1 hK1 => ?_) AllReadyH.nil)
    go_simp
    refine (HRC.out _).mono ?_
    rintro e wr ⟨ad3, cp3, rfl, d3, b3⟩
    have D3 := Lib.hid d3
    try (have BX := Lib.hid (BX.out.up b3))
    refine hK1.out _ _ (HS.out _ (hH_6.1.trans (b3.mono hH_6.1.size))) (fun hH_1 => ?_)
    clear d3 b3
    clear hK1 K1
    try simp only [Act.put, List.setIfInBounds_toArray, List.set_cons_zero, List.set_cons_succ]
    refine wpAnyH_ready (rs := [2]) (by kernel_rfl) (by simp) (AllReadyH.cons (o := { dst := some 16, op := Op.call { callee := Callee.value (Operand.func 7), args := #[Operand.tmp 14, Operand.tmp 15], argTypes := #[25, 32] }, type := 27, pos := "outright.go:30", after := #[{ on := 0, ground := Ground.data }, { on := 1, ground := Ground.data }, { on := 1, ground := Ground.chain }], guard := none }) rfl (fun K2 hK2 => ?_) AllReadyH.nil)
    go_simp
    refine (HP2.out _ _ _ _ _ _ _ _ _ (V3.out.below hH_1.1) D3.out).mono ?_
    rintro e wp ⟨x1, y1, x2, y2, rfl, _, b4⟩
    try (have BX := Lib.hid (BX.out.up b4); have z0 := BX.out.c0; have z1 := BX.out.c1; have z2 := BX.out.c2; have z3 := BX.out.c3; have g0 := BX.out.fz 0; have g1 := BX.out.fz 1; have g2 := BX.out.fz 2; have g3 := BX.out.fz 3)
    refine hK2.out _ _ (HS.out _ (hH_1.1.trans (b4.mono hH_1.1.size))) (fun hH_2 => ?_)
    clear b4
    clear hK2 K2
    try simp only [Act.put, List.setIfInBounds_toArray, List.set_cons_zero, List.set_cons_succ]
    refine wpAnyH_take (i := 3) (oi := { dst := some 13, op := Op.move (Operand.tmp 16), type := 27, pos := "outright.go:30", after := #[{ on := 2, ground := Ground.data }], guard := none }) (v := ?_) rfl (by kernel_rfl) (by kernel_rfl) (by kernel_rfl) (fun _ _ _ h => h) (Or.inl ⟨by rfl, ?_⟩) hH_2 ?_
    rotate_left
    · (intro w hSw; (try dsimp only at hSw); go_simp <;> with_reducible rfl)
    try simp only [Act.put, List.setIfInBounds_toArray, List.set_cons_zero, List.set_cons_succ]
    refine wpAnyH_take (i := 4) (oi := { dst := some 17, op := Op.extract (Operand.tmp 13) 0, type := 25, pos := "outright.go:30", after := #[{ on := 3, ground := Ground.data }], guard := none }) (v := ?_) rfl (by kernel_rfl) (by kernel_rfl) (by kernel_rfl) (fun _ _ _ h => h) (Or.inl ⟨by rfl, ?_⟩) hH_2 ?_
    rotate_left
    · (intro w hSw; (try dsimp only at hSw); go_simp <;> with_reducible rfl)
    try simp only [Act.put, List.setIfInBounds_toArray, List.set_cons_zero, List.set_cons_succ]
    refine wpAnyH_take (i := 5) (oi := { dst := some 18, op := Op.extract (Operand.tmp 13) 1, type := 26, pos := "outright.go:30", after := #[{ on := 3, ground := Ground.data }, { on := 7, ground := Ground.gcOnly Departure.lateStores }], guard := none }) (v := ?_) rfl (by kernel_rfl) (by kernel_rfl) (by kernel_rfl) (fun _ _ _ h => h) (Or.inl ⟨by rfl, ?_⟩) hH_2 ?_
    rotate_left
    · (intro w hSw; (try dsimp only at hSw); go_simp <;> with_reducible rfl)
    try simp only [Act.put, List.setIfInBounds_toArray, List.set_cons_zero, List.set_cons_succ]
    refine wpAnyH_ready (rs := [7]) (by kernel_rfl) (by simp) (AllReadyH.cons (o := { dst := none, op := Op.store 25 (Operand.tmp 3) (Operand.tmp 17), type := 0, pos := "outright.go:30", after := #[{ on := 6, ground := Ground.data }, { on := 4, ground := Ground.data }, { on := 2, ground := Ground.chain }, { on := 0, ground := Ground.phase }, { on := 1, ground := Ground.phase }, { on := 2, ground := Ground.phase }, { on := 3, ground := Ground.phase }, { on := 4, ground := Ground.phase }, { on := 5, ground := Ground.textOnly Departure.lateStores }, { on := 6, ground := Ground.phase }], guard := none }) rfl (fun K7 hK7 => ?_) AllReadyH.nil)
    go_simp
    refine hK7.out _ _ (HS.out _ (by first | exact hH_2.1.alloc hH_2.1.size _ | exact w4_below hH_2.1 HQ.out _ _ _ _)) (fun hH_7 => ?_)
    clear hK7 K7
    try simp only [Act.put, List.setIfInBounds_toArray, List.set_cons_zero, List.set_cons_succ]
    refine wpAnyH_take (i := 8) (oi := { dst := some 4, op := Op.assign (Operand.tmp 18), type := 26, pos := "outright.go:30", after := #[{ on := 5, ground := Ground.data }, { on := 7, ground := Ground.chain }, { on := 0, ground := Ground.phase }, { on := 1, ground := Ground.phase }, { on := 2, ground := Ground.phase }, { on := 3, ground := Ground.phase }, { on := 4, ground := Ground.phase }, { on := 5, ground := Ground.phase }, { on := 6, ground := Ground.phase }, { on := 7, ground := Ground.phase }], guard := none }) (v := ?_) rfl (by kernel_rfl) (by kernel_rfl) (by kernel_rfl) (fun _ _ _ h => h) (Or.inl ⟨by rfl, ?_⟩) hH_7 ?_
    rotate_left
    · (intro w hSw; (try dsimp only at hSw); go_simp <;> with_reducible rfl)
    try simp only [Act.put, List.setIfInBounds_toArray, List.set_cons_zero, List.set_cons_succ]
    refine wpAnyH_done (by kernel_rfl) ?_ _
    have VY := Lib.hid (V3.out.below hH_7.1)
    have SY := Lib.hid hH_7
    have q0 := hH_7.2.1
    have q1 := hH_7.2.2.1
    have q2 := hH_7.2.2.2.1
    have q3 := hH_7.2.2.2.2
    clear hHeld
    go_wp2_with fail
    refine (HGT.out _ _ _ _ _ _ VY.out).mono ?_
    rintro e w6 ⟨q, rfl, dq, b6⟩
    have B6 := Lib.hid (SY.out.1.trans (b6.mono SY.out.1.size))
    have D6 := Lib.hid dq
    clear dq b6 VY SY q0 q1 q2 q3
    go_wp2_with fail
    obtain ⟨y, hy⟩ : ∃ y, y = w6.heap.size := ⟨_, rfl⟩
    obtain ⟨Z, hZ⟩ : ∃ Z, Z = w6.alloc (.cells #[.string ⟨#[98]⟩, .slice (some ⟨q, 0, none⟩) 3 3] 32) := ⟨_, rfl⟩
    have HZ : Hid (Bx2 Z y (.string ⟨#[98]⟩) (.slice (some ⟨q, 0, none⟩) 3 3)) := Lib.hid (by rw [hZ, hy]; exact bx2_new w6 _ _)
    have BZ : Hid (Below X.heap.size X Z) := Lib.hid (by rw [hZ]; exact B6.out.alloc B6.out.size _)
    have DQ : Hid (DV 0 Z (some ⟨q, 0, none⟩) 3 rb.d) := Lib.hid (by rw [hZ]; exact (D6.out.below ((Below.refl _ _).alloc (Nat.le_refl _) _)).mono (Nat.zero_le _))
    have BW := Lib.hid (B4.out.trans (BZ.out.mono B4.out.size))
    rw [← hZ, ← hy]
    clear hZ hy B6 D6
    have HS4 : Hid (∀ w', Below Z.heap.size Z w' → (fun w' => Below Z.heap.size Z w' ∧ w'.cell? ⟨p, 3, none⟩ = some (.slice (some ⟨rb0, ro0, none⟩) 2 f2) ∧ w'.cell? ⟨rb0, ro0, none⟩ = some (.string ⟨#[97]⟩) ∧ w'.cell? ⟨y, 0, none⟩ = some (.string ⟨#[98]⟩) ∧ w'.cell? ⟨y, 1, none⟩ = some (.slice (some ⟨q, 0, none⟩) 3 3)) w') := Lib.hid (fun w' k => ⟨k, (HS.out _ (BZ.out.trans (k.mono BZ.out.size))).2.2.2.2, HRW.out _ (BZ.out.trans (k.mono BZ.out.size)), (HZ.out.up k).c0, (HZ.out.up k).c1⟩)
    clear HS HRW HZ BZ
    refine wp_region_held_drew (S := (fun w' => Below Z.heap.size Z w' ∧ w'.cell? ⟨p, 3, none⟩ = some (.slice (some ⟨rb0, ro0, none⟩) 2 f2) ∧ w'.cell? ⟨rb0, ro0, none⟩ = some (.string ⟨#[97]⟩) ∧ w'.cell? ⟨y, 0, none⟩ = some (.string ⟨#[98]⟩) ∧ w'.cell? ⟨y, 1, none⟩ = some (.slice (some ⟨q, 0, none⟩) 3 3))) (by kernel_rfl) (HS4.out _ ((Below.refl _ _).drew)) (fun hHeld => ?_)
    refine wpAnyH_take (i := 0) (oi := { dst := some 24, op := Op.move (Operand.tmp 2), type := 26, pos := "outright.go:32", after := #[], guard := none }) (v := ?_) rfl (by kernel_rfl) (by kernel_rfl) (by kernel_rfl) (fun _ _ _ h => h) (Or.inl ⟨by rfl, ?_⟩) hHeld ?_
    rotate_left
    · (intro w hSw; (try dsimp only at hSw); go_simp <;> with_reducible rfl)
    try simp only [Act.put, List.setIfInBounds_toArray, List.set_cons_zero, List.set_cons_succ]
    refine wpAnyH_take (i := 1) (oi := { dst := some 25, op := Op.binOp BinOp.eql 26 (Operand.tmp 24) (Operand.const (Value.int IntKind.i64 0)) 26, type := 4, pos := "outright.go:32", after := #[{ on := 0, ground := Ground.data }], guard := none }) (v := ?_) rfl (by kernel_rfl) (by kernel_rfl) (by kernel_rfl) (fun _ _ _ h => h) (Or.inl ⟨by rfl, ?_⟩) hHeld ?_
    rotate_left
    · (intro w hSw; (try dsimp only at hSw); go_simp <;> with_reducible rfl)
    try simp only [Act.put, List.setIfInBounds_toArray, List.set_cons_zero, List.set_cons_succ]
    refine wpAnyH_take (i := 2) (oi := { dst := some 26, op := Op.move (Operand.tmp 25), type := 4, pos := "outright.go:32", after := #[{ on := 1, ground := Ground.data }], guard := none }) (v := ?_) rfl (by kernel_rfl) (by kernel_rfl) (by kernel_rfl) (fun _ _ _ h => h) (Or.inl ⟨by rfl, ?_⟩) hHeld ?_
    rotate_left
    · (intro w hSw; (try dsimp only at hSw); go_simp <;> with_reducible rfl)
    try simp only [Act.put, List.setIfInBounds_toArray, List.set_cons_zero, List.set_cons_succ]
    refine wpAnyH_take (i := 3) (oi := { dst := some 27, op := Op.fieldAddr 25 (Operand.tmp 1) 3, type := 0, pos := "outright.go:32", after := #[{ on := 2, ground := Ground.guard }], guard := some (2, true) }) (v := ?_) rfl (by kernel_rfl) (by kernel_rfl) (by kernel_rfl) (fun _ _ _ h => h) (Or.inl ⟨by rfl, ?_⟩) hHeld ?_
    rotate_left
    · (intro w hSw; (try dsimp only at hSw); go_simp <;> with_reducible rfl)
    try simp only [Act.put, List.setIfInBounds_toArray, List.set_cons_zero, List.set_cons_succ]
    refine wpAnyH_take (i := 4) (oi := { dst := some 28, op := Op.load 23 (Operand.tmp 27), type := 23, pos := "outright.go:32", after := #[{ on := 3, ground := Ground.data }, { on := 2, ground := Ground.guard }], guard := some (2, true) }) (v := ?_) rfl (by kernel_rfl) (by kernel_rfl) (by kernel_rfl) (fun _ _ _ h => h) (Or.inl ⟨by rfl, ?_⟩) hHeld ?_
    rotate_left
    · (intro w hSw; (try dsimp only at hSw); go_simp <;> with_reducible rfl)
    try simp only [Act.put, List.setIfInBounds_toArray, List.set_cons_zero, List.set_cons_succ]
    refine wpAnyH_take (i := 5) (oi := { dst := some 29, op := Op.call { callee := Callee.builtin Builtin.len, args := #[Operand.tmp 28], argTypes := #[23] }, type := 3, pos := "outright.go:32", after := #[{ on := 4, ground := Ground.data }, { on := 2, ground := Ground.guard }], guard := some (2, true) }) (v := ?_) rfl (by kernel_rfl) (by kernel_rfl) (by kernel_rfl) (fun _ _ _ h => h) (Or.inl ⟨by rfl, ?_⟩) hHeld ?_
    rotate_left
    · (intro w hSw; (try dsimp only at hSw); go_simp <;> with_reducible rfl)
    try simp only [Act.put, List.setIfInBounds_toArray, List.set_cons_zero, List.set_cons_succ]
    refine wpAnyH_take (i := 6) (oi := { dst := some 30, op := Op.binOp BinOp.eql 3 (Operand.tmp 29) (Operand.const (Value.int IntKind.i64 2)) 3, type := 4, pos := "outright.go:32", after := #[{ on := 5, ground := Ground.data }, { on := 2, ground := Ground.guard }], guard := some (2, true) }) (v := ?_) rfl (by kernel_rfl) (by kernel_rfl) (by kernel_rfl) (fun _ _ _ h => h) (Or.inl ⟨by rfl, ?_⟩) hHeld ?_
    rotate_left
    · (intro w hSw; (try dsimp only at hSw); go_simp <;> with_reducible rfl)
    try simp only [Act.put, List.setIfInBounds_toArray, List.set_cons_zero, List.set_cons_succ]
    refine wpAnyH_take (i := 7) (oi := { dst := some 31, op := Op.pick (Operand.tmp 26) (Operand.tmp 30) (Operand.const (Value.bool false)), type := 4, pos := "outright.go:32", after := #[{ on := 2, ground := Ground.data }, { on := 6, ground := Ground.data }], guard := none }) (v := ?_) rfl (by kernel_rfl) (by kernel_rfl) (by kernel_rfl) (fun _ _ _ h => h) (Or.inl ⟨by rfl, ?_⟩) hHeld ?_
    rotate_left
    · (intro w hSw; (try dsimp only at hSw); go_simp <;> with_reducible rfl)
    try simp only [Act.put, List.setIfInBounds_toArray, List.set_cons_zero, List.set_cons_succ]
    refine wpAnyH_take (i := 8) (oi := { dst := some 32, op := Op.move (Operand.tmp 31), type := 4, pos := "outright.go:32", after := #[{ on := 7, ground := Ground.data }, { on := 2, ground := Ground.chain }], guard := none }) (v := ?_) rfl (by kernel_rfl) (by kernel_rfl) (by kernel_rfl) (fun _ _ _ h => h) (Or.inl ⟨by rfl, ?_⟩) hHeld ?_
    rotate_left
    · (intro w hSw; (try dsimp only at hSw); go_simp <;> with_reducible rfl)
    try simp only [Act.put, List.setIfInBounds_toArray, List.set_cons_zero, List.set_cons_succ]
    refine wpAnyH_take (i := 9) (oi := { dst := some 33, op := Op.fieldAddr 25 (Operand.tmp 1) 3, type := 0, pos := "outright.go:32", after := #[{ on := 8, ground := Ground.guard }], guard := some (8, true) }) (v := ?_) rfl (by kernel_rfl) (by kernel_rfl) (by kernel_rfl) (fun _ _ _ h => h) (Or.inl ⟨by rfl, ?_⟩) hHeld ?_
    rotate_left
    · (intro w hSw; (try dsimp only at hSw); go_simp <;> with_reducible rfl)
    try simp only [Act.put, List.setIfInBounds_toArray, List.set_cons_zero, List.set_cons_succ]
    refine wpAnyH_take (i := 10) (oi := { dst := some 34, op := Op.load 23 (Operand.tmp 33), type := 23, pos := "outright.go:32", after := #[{ on := 9, ground := Ground.data }, { on := 8, ground := Ground.guard }], guard := some (8, true) }) (v := ?_) rfl (by kernel_rfl) (by kernel_rfl) (by kernel_rfl) (fun _ _ _ h => h) (Or.inl ⟨by rfl, ?_⟩) hHeld ?_
    rotate_left
    · (intro w hSw; (try dsimp only at hSw); go_simp <;> with_reducible rfl)
    try simp only [Act.put, List.setIfInBounds_toArray, List.set_cons_zero, List.set_cons_succ]
    refine wpAnyH_take (i := 11) (oi := { dst := some 35, op := Op.indexAddr 23 (Operand.tmp 34) (Operand.const (Value.int IntKind.i64 0)), type := 0, pos := "outright.go:32", after := #[{ on := 10, ground := Ground.data }, { on := 8, ground := Ground.guard }], guard := some (8, true) }) (v := ?_) rfl (by kernel_rfl) (by kernel_rfl) (by kernel_rfl) (fun _ _ _ h => h) (Or.inl ⟨by rfl, ?_⟩) hHeld ?_
    rotate_left
    · (intro w hSw; (try dsimp only at hSw); go_simp <;> with_reducible rfl)
    try simp only [Act.put, List.setIfInBounds_toArray, List.set_cons_zero, List.set_cons_succ]
    refine wpAnyH_take (i := 12) (oi := { dst := some 36, op := Op.fieldAddr 32 (Operand.tmp 35) 0, type := 0, pos := "outright.go:32", after := #[{ on := 11, ground := Ground.data }, { on := 8, ground := Ground.guard }], guard := some (8, true) }) (v := ?_) rfl (by kernel_rfl) (by kernel_rfl) (by kernel_rfl) (fun _ _ _ h => h) (Or.inl ⟨by rfl, ?_⟩) hHeld ?_
    rotate_left
    · (intro w hSw; (try dsimp only at hSw); go_simp <;> with_reducible rfl)
    try simp only [Act.put, List.setIfInBounds_toArray, List.set_cons_zero, List.set_cons_succ]
    refine wpAnyH_take (i := 13) (oi := { dst := some 37, op := Op.load 9 (Operand.tmp 36), type := 9, pos := "outright.go:32", after := #[{ on := 12, ground := Ground.data }, { on := 8, ground := Ground.guard }], guard := some (8, true) }) (v := ?_) rfl (by kernel_rfl) (by kernel_rfl) (by kernel_rfl) (fun _ _ _ h => h) (Or.inl ⟨by rfl, ?_⟩) hHeld ?_
    rotate_left
    · (intro w hSw; (try dsimp only at hSw); go_simp <;> with_reducible rfl)
    try simp only [Act.put, List.setIfInBounds_toArray, List.set_cons_zero, List.set_cons_succ]
    refine wpAnyH_take (i := 14) (oi := { dst := some 38, op := Op.binOp BinOp.eql 9 (Operand.tmp 37) (Operand.const (Value.string { data := #[97] })) 9, type := 4, pos := "outright.go:32", after := #[{ on := 13, ground := Ground.data }, { on := 8, ground := Ground.guard }], guard := some (8, true) }) (v := ?_) rfl (by kernel_rfl) (by kernel_rfl) (by kernel_rfl) (fun _ _ _ h => h) (Or.inl ⟨by rfl, ?_⟩) hHeld ?_
    rotate_left
    · (intro w hSw; (try dsimp only at hSw); go_simp <;> with_reducible rfl)
    try simp only [Act.put, List.setIfInBounds_toArray, List.set_cons_zero, List.set_cons_succ]
    refine wpAnyH_take (i := 15) (oi := { dst := some 39, op := Op.pick (Operand.tmp 32) (Operand.tmp 38) (Operand.const (Value.bool false)), type := 4, pos := "outright.go:32", after := #[{ on := 8, ground := Ground.data }, { on := 14, ground := Ground.data }], guard := none }) (v := ?_) rfl (by kernel_rfl) (by kernel_rfl) (by kernel_rfl) (fun _ _ _ h => h) (Or.inl ⟨by rfl, ?_⟩) hHeld ?_
    rotate_left
    · (intro w hSw; (try dsimp only at hSw); go_simp <;> with_reducible rfl)
    try simp only [Act.put, List.setIfInBounds_toArray, List.set_cons_zero, List.set_cons_succ]
    refine wpAnyH_take (i := 16) (oi := { dst := some 40, op := Op.move (Operand.tmp 39), type := 4, pos := "outright.go:32", after := #[{ on := 15, ground := Ground.data }, { on := 8, ground := Ground.chain }], guard := none }) (v := ?_) rfl (by kernel_rfl) (by kernel_rfl) (by kernel_rfl) (fun _ _ _ h => h) (Or.inl ⟨by rfl, ?_⟩) hHeld ?_
    rotate_left
    · (intro w hSw; (try dsimp only at hSw); go_simp <;> with_reducible rfl)
    try simp only [Act.put, List.setIfInBounds_toArray, List.set_cons_zero, List.set_cons_succ]
    refine wpAnyH_take (i := 17) (oi := { dst := some 41, op := Op.move (Operand.tmp 4), type := 26, pos := "outright.go:32", after := #[{ on := 16, ground := Ground.guard }], guard := some (16, true) }) (v := ?_) rfl (by kernel_rfl) (by kernel_rfl) (by kernel_rfl) (fun _ _ _ h => h) (Or.inl ⟨by rfl, ?_⟩) hHeld ?_
    rotate_left
    · (intro w hSw; (try dsimp only at hSw); go_simp <;> with_reducible rfl)
    try simp only [Act.put, List.setIfInBounds_toArray, List.set_cons_zero, List.set_cons_succ]
    refine wpAnyH_take (i := 18) (oi := { dst := some 42, op := Op.binOp BinOp.eql 26 (Operand.tmp 41) (Operand.const (Value.int IntKind.i64 272)) 26, type := 4, pos := "outright.go:32", after := #[{ on := 17, ground := Ground.data }, { on := 16, ground := Ground.guard }], guard := some (16, true) }) (v := ?_) rfl (by kernel_rfl) (by kernel_rfl) (by kernel_rfl) (fun _ _ _ h => h) (Or.inl ⟨by rfl, ?_⟩) hHeld ?_
    rotate_left
    · (intro w hSw; (try dsimp only at hSw); go_simp <;> with_reducible rfl)
    try simp only [Act.put, List.setIfInBounds_toArray, List.set_cons_zero, List.set_cons_succ]
    refine wpAnyH_take (i := 19) (oi := { dst := some 43, op := Op.pick (Operand.tmp 40) (Operand.tmp 42) (Operand.const (Value.bool false)), type := 4, pos := "outright.go:32", after := #[{ on := 16, ground := Ground.data }, { on := 18, ground := Ground.data }], guard := none }) (v := ?_) rfl (by kernel_rfl) (by kernel_rfl) (by kernel_rfl) (fun _ _ _ h => h) (Or.inl ⟨by rfl, ?_⟩) hHeld ?_
    rotate_left
    · (intro w hSw; (try dsimp only at hSw); go_simp <;> with_reducible rfl)
    try simp only [Act.put, List.setIfInBounds_toArray, List.set_cons_zero, List.set_cons_succ]
    refine wpAnyH_take (i := 20) (oi := { dst := some 44, op := Op.move (Operand.tmp 43), type := 4, pos := "outright.go:32", after := #[{ on := 19, ground := Ground.data }, { on := 16, ground := Ground.chain }], guard := none }) (v := ?_) rfl (by kernel_rfl) (by kernel_rfl) (by kernel_rfl) (fun _ _ _ h => h) (Or.inl ⟨by rfl, ?_⟩) hHeld ?_
    rotate_left
    · (intro w hSw; (try dsimp only at hSw); go_simp <;> with_reducible rfl)
    try simp only [Act.put, List.setIfInBounds_toArray, List.set_cons_zero, List.set_cons_succ]
    refine wpAnyH_take (i := 21) (oi := { dst := some 45, op := Op.move (Operand.tmp 6), type := 4, pos := "outright.go:32", after := #[{ on := 20, ground := Ground.guard }], guard := some (20, true) }) (v := ?_) rfl (by kernel_rfl) (by kernel_rfl) (by kernel_rfl) (fun _ _ _ h => h) (Or.inl ⟨by rfl, ?_⟩) hHeld ?_
    rotate_left
    · (intro w hSw; (try dsimp only at hSw); go_simp <;> with_reducible rfl)
    try simp only [Act.put, List.setIfInBounds_toArray, List.set_cons_zero, List.set_cons_succ]
    refine wpAnyH_take (i := 22) (oi := { dst := some 46, op := Op.pick (Operand.tmp 44) (Operand.tmp 45) (Operand.const (Value.bool false)), type := 4, pos := "outright.go:32", after := #[{ on := 20, ground := Ground.data }, { on := 21, ground := Ground.data }], guard := none }) (v := ?_) rfl (by kernel_rfl) (by kernel_rfl) (by kernel_rfl) (fun _ _ _ h => h) (Or.inl ⟨by rfl, ?_⟩) hHeld ?_
    rotate_left
    · (intro w hSw; (try dsimp only at hSw); go_simp <;> with_reducible rfl)
    try simp only [Act.put, List.setIfInBounds_toArray, List.set_cons_zero, List.set_cons_succ]
    refine wpAnyH_take (i := 23) (oi := { dst := some 47, op := Op.move (Operand.tmp 46), type := 4, pos := "outright.go:32", after := #[{ on := 22, ground := Ground.data }, { on := 20, ground := Ground.chain }], guard := none }) (v := ?_) rfl (by kernel_rfl) (by kernel_rfl) (by kernel_rfl) (fun _ _ _ h => h) (Or.inl ⟨by rfl, ?_⟩) hHeld ?_
    rotate_left
    · (intro w hSw; (try dsimp only at hSw); go_simp <;> with_reducible rfl)
    try simp only [Act.put, List.setIfInBounds_toArray, List.set_cons_zero, List.set_cons_succ]
    refine wpAnyH_take (i := 24) (oi := { dst := some 48, op := Op.load 32 (Operand.tmp 5), type := 32, pos := "outright.go:32", after := #[{ on := 23, ground := Ground.guard }], guard := some (23, true) }) (v := ?_) rfl (by kernel_rfl) (by kernel_rfl) (by kernel_rfl) (fun _ _ _ h => h) (Or.inl ⟨by rfl, ?_⟩) hHeld ?_
    rotate_left
    · (intro w hSw; (try dsimp only at hSw); go_simp <;> with_reducible rfl)
    try simp only [Act.put, List.setIfInBounds_toArray, List.set_cons_zero, List.set_cons_succ]
    refine wpAnyH_ready (rs := [25]) (by kernel_rfl) (by simp) (AllReadyH.cons (o := { dst := some 49, op := Op.call { callee := Callee.value (Operand.func 9), args := #[Operand.const (Value.string { data := #[98] }), Operand.const (Value.int IntKind.i64 2)], argTypes := #[9, 2] }, type := 32, pos := "outright.go:32", after := #[{ on := 23, ground := Ground.chain }, { on := 23, ground := Ground.guard }], guard := some (23, true) }) rfl (fun K25 hK25 => ?_) AllReadyH.nil)
    go_simp
    refine (HRB.out _).mono ?_
    rintro e wr ⟨ad5, cp5, rfl, d5, b5⟩
    have D5 := Lib.hid d5
    refine hK25.out _ _ (HS4.out _ (hHeld.1.trans (b5.mono hHeld.1.size))) (fun hH_25 => ?_)
    clear d5 b5
    clear hK25 K25
    try simp only [Act.put, List.setIfInBounds_toArray, List.set_cons_zero, List.set_cons_succ]
    refine wpAnyH_ready (rs := [26]) (by kernel_rfl) (by simp) (AllReadyH.cons (o := { dst := some 50, op := Op.call { callee := Callee.value (Operand.func 13), args := #[Operand.tmp 48, Operand.tmp 49], argTypes := #[32, 32] }, type := 4, pos := "outright.go:32", after := #[{ on := 24, ground := Ground.data }, { on := 25, ground := Ground.data }, { on := 25, ground := Ground.chain }, { on := 23, ground := Ground.guard }], guard := some (23, true) }) rfl (fun K26 hK26 => ?_) AllReadyH.nil)
    go_simp
    refine (HSR.out _ _ _ _ _ _ _ (DQ.out.below hH_25.1) D5.out).mono ?_
    rintro e wp ⟨rfl, b6⟩
    refine hK26.out _ _ (HS4.out _ (hH_25.1.trans (b6.mono hH_25.1.size))) (fun hH_26 => ?_)
    clear b6
    clear hK26 K26
    try simp only [Act.put, List.setIfInBounds_toArray, List.set_cons_zero, List.set_cons_succ]
    refine wpAnyH_take (i := 27) (oi := { dst := some 51, op := Op.pick (Operand.tmp 47) (Operand.tmp 50) (Operand.const (Value.bool false)), type := 4, pos := "outright.go:32", after := #[{ on := 23, ground := Ground.data }, { on := 26, ground := Ground.data }], guard := none }) (v := ?_) rfl (by kernel_rfl) (by kernel_rfl) (by kernel_rfl) (fun _ _ _ h => h) (Or.inl ⟨by rfl, ?_⟩) hH_26 ?_
    rotate_left
    · (intro w hSw; (try dsimp only at hSw); go_simp <;> with_reducible rfl)
    try simp only [Act.put, List.setIfInBounds_toArray, List.set_cons_zero, List.set_cons_succ]
    refine wpAnyH_take (i := 28) (oi := { dst := some 0, op := Op.assign (Operand.tmp 51), type := 4, pos := "outright.go:32", after := #[{ on := 27, ground := Ground.data }, { on := 26, ground := Ground.chain }, { on := 0, ground := Ground.phase }, { on := 1, ground := Ground.phase }, { on := 2, ground := Ground.phase }, { on := 3, ground := Ground.phase }, { on := 4, ground := Ground.phase }, { on := 5, ground := Ground.phase }, { on := 6, ground := Ground.phase }, { on := 7, ground := Ground.phase }, { on := 8, ground := Ground.phase }, { on := 9, ground := Ground.phase }, { on := 10, ground := Ground.phase }, { on := 11, ground := Ground.phase }, { on := 12, ground := Ground.phase }, { on := 13, ground := Ground.phase }, { on := 14, ground := Ground.phase }, { on := 15, ground := Ground.phase }, { on := 16, ground := Ground.phase }, { on := 17, ground := Ground.phase }, { on := 18, ground := Ground.phase }, { on := 19, ground := Ground.phase }, { on := 20, ground := Ground.phase }, { on := 21, ground := Ground.phase }, { on := 22, ground := Ground.phase }, { on := 23, ground := Ground.phase }, { on := 24, ground := Ground.phase }, { on := 25, ground := Ground.phase }, { on := 26, ground := Ground.phase }, { on := 27, ground := Ground.phase }], guard := none }) (v := ?_) rfl (by kernel_rfl) (by kernel_rfl) (by kernel_rfl) (fun _ _ _ h => h) (Or.inl ⟨by rfl, ?_⟩) hH_26 ?_
    rotate_left
    · (intro w hSw; (try dsimp only at hSw); go_simp <;> with_reducible rfl)
    try simp only [Act.put, List.setIfInBounds_toArray, List.set_cons_zero, List.set_cons_succ]
    refine wpAnyH_done (by kernel_rfl) ?_ _
    have HF := Lib.hid (BW.out.trans (hH_26.1.mono BW.out.size))
    clear hHeld
    go_wp2_with fail
    go_ret
    exact ⟨rfl, HF.out⟩
end Go.Proofs.Ytfigebepeniikaa

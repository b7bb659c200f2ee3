import Derived.Test.YtfigebepeniikaaGreatK18
import Derived.Test.YtfigebepeniikaaGreatK17
/- Layer 27: the document's Clashes. -/
namespace Go.Proofs.YtfigebepeniikaaGreat
open Go.RowKit Go.Maps Go.Shelf
set_option maxRecDepth 20000 in
set_option maxHeartbeats 8000000 in
theorem rClashes_any (B B' : Nat) (T : TM) (a1 a2 : Option Addr) (c1 c2 : Nat) (r : RC) (ad : Option Addr) (cp : Nat) (w : World) (hv : TVs B w T a1 c1 a2 c2) (hs : SmT T) (hz : ∀ x ∈ T.rows, NZ x) (hk : ∀ x ∈ T.rows, recOk x = true) (hd : DV B' w ad cp r.d) (hr0 : SmR r) (hzr : NZ r) (kr : recOk r = true) : Calls Tryz.prog 63 #[tv T a1 c1 a2 c2, rv r ad cp] w fun e w' => e = .returned (.bool (clT T r)) ∧ Below w.heap.size w w' := by
  obtain ⟨nm, m, uq, R⟩ := T
  show Calls Tryz.prog 63 #[.agg #[.string nm, .int .i64 m, .slice a1 uq.length c1, .slice a2 R.length c2], .agg #[.string r.id, .slice ad r.d.length cp]] w fun e w' => e = .returned (.bool (clT ⟨nm, m, uq, R⟩ r)) ∧ Below w.heap.size w w'
  obtain ⟨x, hx⟩ : ∃ x, x = clT ⟨nm, m, uq, R⟩ r := ⟨_, rfl⟩
  have HX1 : Hid (∀ i, i < R.length → (rl R i).id ≠ r.id → (uq.any fun s => clash (rl R i) r s) = true → x = true) := Lib.hid (fun i hi h1 h2 => hx.trans (List.any_eq_true.2 ⟨_, rl_mem hi, by rw [decide_eq_true h1, Bool.true_and]; exact h2⟩))
  have HX2 : Hid ((∀ i, i < R.length → (rl R i).id ≠ r.id → (uq.any fun s => clash (rl R i) r s) = false) → x = false) := Lib.hid (fun h => hx.trans (List.any_eq_false.2 (fun y hy => by
    obtain ⟨i, hi, rfl⟩ := rl_of hy
    by_cases e : (rl R i).id = r.id
    · simp [e]
    · have := h i hi e
      rw [decide_eq_true e, Bool.true_and]
      show ¬ (uq.any fun s => clash (rl R i) r s) = true
      rw [this]; decide)))
  rw [← hx]
  clear hx
  have hr : RV B w a2 R := hv.r
  have hu : Ord.SView w a1 uq.length uq := hv.u
  have hRn : R.length ≤ 1000 := hs.rows
  have hUn : uq.length ≤ 1000 := hs.uq
  obtain ⟨W, hW⟩ : ∃ W, W = (w.alloc (.cells #[.string nm, .int .i64 m, .slice a1 uq.length c1, .slice a2 R.length c2] 25)).alloc (.cells #[.string r.id, .slice ad r.d.length cp] 28) := ⟨_, rfl⟩
  have HW : Hid (Below w.heap.size w W) := Lib.hid (by rw [hW]; exact ((Below.refl _ _).alloc (Nat.le_refl _) _).alloc (by simp) _)
  have HQ1 : Hid (Bx4 W w.heap.size 25 (.string nm) (.int .i64 m) (.slice a1 uq.length c1) (.slice a2 R.length c2)) := Lib.hid (by rw [hW]; exact (bx4_new w _ _ _ _ _).up ((Below.refl _ _).alloc (Nat.le_refl _) _))
  have HQ3 : Hid (Bx2 W (w.heap.size + 1) (.string r.id) (.slice ad r.d.length cp)) := Lib.hid (by
    rw [hW]
    have h := bx2_new (w.alloc (.cells #[.string nm, .int .i64 m, .slice a1 uq.length c1, .slice a2 R.length c2] 25)) (.string r.id) (.slice ad r.d.length cp)
    simpa using h)
  have HCL := Lib.hid (fun i (hi : i < R.length) ae ce V (k : Below w.heap.size w V) (he : DV B V ae ce (rl R i).d) => rclash_any B B' (rl R i) r ae ad a1 ce cp c1 uq V (hu.below k) (by omega) he (hd.below k) (hs.each _ (rl_mem hi)) hr0 (hz _ (rl_mem hi)) hzr (hk _ (rl_mem hi)) kr)
  have HRV := Lib.hid (fun V (k : Below w.heap.size w V) => hr.below k)
  unfold rv at HCL
  have r1 : (R.length : Int) ≤ 1000 := by omega
  clear hv hs hr hu hz hk hd hr0 hzr kr
  go_enter Tryz.func63, Tryz.ntmps63
  go_wp2_with fail
  rw [← hW]
  clear hW
  go_loopw [5] (fun v5 wr => ∃ i : Nat, i ≤ R.length ∧ v5 = .int .i64 i ∧ Hid (Below W.heap.size W wr) ∧ Hid (∀ j, j < i → (rl R j).id ≠ r.id → (uq.any fun s => clash (rl R j) r s) = false)) (fun v5 _ => R.length - (intOf v5).toNat)
  case atStart => exact ⟨0, Nat.zero_le _, rfl, Lib.hid (Below.refl _ _), Lib.hid (fun j hj => by omega)⟩
  case round =>
    obtain ⟨i, hi, rfl, HB, HN⟩ := hrel
    have Q1r := Lib.hid (HQ1.out.up HB.out)
    have Q3r := Lib.hid (HQ3.out.up HB.out)
    have x3 := Q1r.out.c3
    have HBw := Lib.hid (HW.out.trans (HB.out.mono HW.out.size))
    by_cases hlt : i < R.length
    · have hlt' : (i : Int) < R.length := by omega
      have hge : (0 : Int) ≤ i := by omega
      have HRr := Lib.hid (HRV.out wr HBw.out)
      obtain ⟨rb, ro, rfl⟩ := HRr.out.addr (by omega)
      obtain ⟨ai, ci, _, _, d0, d1, dv⟩ := HRr.out.at_ hlt
      have HLI : Hid (∀ V, Below wr.heap.size wr V → V.cell? ⟨rb, ro + i * 2, none⟩ = some (.string (rl R i).id) ∧ V.cell? ⟨rb, ro + i * 2 + 1, none⟩ = some (.slice ai (rl R i).d.length ci)) := Lib.hid (fun V k => ⟨(k.cell (p := ⟨rb, _, none⟩) (World.block_lt_of_cell? _ _ d0)).trans d0, (k.cell (p := ⟨rb, _, none⟩) (World.block_lt_of_cell? _ _ d1)).trans d1⟩)
      have HCC := Lib.hid (fun V (k : Below wr.heap.size wr V) => HCL.out i hlt ai ci V (HBw.out.trans (k.mono HBw.out.size)) (dv.below k))
      have HX1i := Lib.hid (HX1.out i hlt)
      obtain ⟨id, hid⟩ : ∃ s, s = (rl R i).id := ⟨_, rfl⟩
      obtain ⟨l, hl⟩ : ∃ s, s = (rl R i).d.length := ⟨_, rfl⟩
      obtain ⟨cc, hcc⟩ : ∃ c, c = uq.any fun s => clash (rl R i) r s := ⟨_, rfl⟩
      have HCE := Lib.hid hcc
      have HID := Lib.hid hid
      rw [← hid, ← hl] at HCC HLI
      rw [← hcc] at HCC HX1i
      rw [← hid] at HX1i
      clear hid hl hcc d0 d1 dv HRr HRV HCL HX1 HX2
      have HS : Hid (∀ w', Below wr.heap.size wr w' → (fun w' => Below wr.heap.size wr w' ∧ w'.cell? ⟨w.heap.size, 2, none⟩ = some (.slice a1 uq.length c1) ∧ w'.cell? ⟨w.heap.size, 3, none⟩ = some (.slice (some ⟨rb, ro, none⟩) R.length c2) ∧ w'.cell? ⟨rb, ro + i * 2, none⟩ = some (.string id) ∧ w'.cell? ⟨rb, ro + i * 2 + 1, none⟩ = some (.slice ai l ci) ∧ w'.cell? ⟨w.heap.size + 1, 0, none⟩ = some (.string r.id) ∧ w'.cell? ⟨w.heap.size + 1, 1, none⟩ = some (.slice ad r.d.length cp)) w') := Lib.hid (fun w' k => ⟨k, (Q1r.out.up k).c2, (Q1r.out.up k).c3, (HLI.out w' k).1, (HLI.out w' k).2, (Q3r.out.up k).c0, (Q3r.out.up k).c1⟩)
      by_cases he : id = r.id
      · have hse : (id.toList == r.id.toList) = true := by rw [str_is]; simpa using he
        have HN2 : Hid (∀ j, j < i + 1 → (rl R j).id ≠ r.id → (uq.any fun s => clash (rl R j) r s) = false) := Lib.hid (fun j hj hne => by
          by_cases e : j = i
          · subst e; exact absurd (HID.out.symm.trans he) hne
          · exact HN.out j (by omega) hne)
        clear he HX1i
        go_wp2_with fail
        clear x3
        refine wp_region_held_drew (S := (fun w' => Below wr.heap.size wr w' ∧ w'.cell? ⟨w.heap.size, 2, none⟩ = some (.slice a1 uq.length c1) ∧ w'.cell? ⟨w.heap.size, 3, none⟩ = some (.slice (some ⟨rb, ro, none⟩) R.length c2) ∧ w'.cell? ⟨rb, ro + i * 2, none⟩ = some (.string id) ∧ w'.cell? ⟨rb, ro + i * 2 + 1, none⟩ = some (.slice ai l ci) ∧ w'.cell? ⟨w.heap.size + 1, 0, none⟩ = some (.string r.id) ∧ w'.cell? ⟨w.heap.size + 1, 1, none⟩ = some (.slice ad r.d.length cp))) (by kernel_rfl) (HS.out _ ((Below.refl _ _).drew)) (fun hHeld => ?_)
        refine wpAnyH_take (i := 0) (oi := { dst := some 13, op := Op.fieldAddr 25 (Operand.tmp 2) 3, type := 0, pos := "ref.go:152", after := #[], guard := none }) (v := ?_) rfl (by kernel_rfl) (by kernel_rfl) (by kernel_rfl) (fun _ _ _ h => h) (Or.inl ⟨by rfl, ?_⟩) hHeld ?_
        rotate_left
        · (intro w hSw; (try dsimp only at hSw); go_simp <;> with_reducible rfl)
        try simp only [Act.put, List.setIfInBounds_toArray, List.set_cons_zero, List.set_cons_succ]
        refine wpAnyH_take (i := 1) (oi := { dst := some 14, op := Op.load 23 (Operand.tmp 13), type := 23, pos := "ref.go:152", after := #[{ on := 0, ground := Ground.data }], guard := none }) (v := ?_) rfl (by kernel_rfl) (by kernel_rfl) (by kernel_rfl) (fun _ _ _ h => h) (Or.inl ⟨by rfl, ?_⟩) hHeld ?_
        rotate_left
        · (intro w hSw; (try dsimp only at hSw); go_simp <;> with_reducible rfl)
        try simp only [Act.put, List.setIfInBounds_toArray, List.set_cons_zero, List.set_cons_succ]
        refine wpAnyH_take (i := 2) (oi := { dst := some 15, op := Op.move (Operand.tmp 5), type := 3, pos := "ref.go:152", after := #[], guard := none }) (v := ?_) rfl (by kernel_rfl) (by kernel_rfl) (by kernel_rfl) (fun _ _ _ h => h) (Or.inl ⟨by rfl, ?_⟩) hHeld ?_
        rotate_left
        · (intro w hSw; (try dsimp only at hSw); go_simp <;> with_reducible rfl)
        try simp only [Act.put, List.setIfInBounds_toArray, List.set_cons_zero, List.set_cons_succ]
        refine wpAnyH_take (i := 3) (oi := { dst := some 16, op := Op.indexAddr 23 (Operand.tmp 14) (Operand.tmp 15), type := 0, pos := "ref.go:152", after := #[{ on := 1, ground := Ground.data }, { on := 2, ground := Ground.data }], guard := none }) (v := ?_) rfl (by kernel_rfl) (by kernel_rfl) (by kernel_rfl) (fun _ _ _ h => h) (Or.inl ⟨by rfl, ?_⟩) hHeld ?_
        rotate_left
        · (intro w hSw; (try dsimp only at hSw); go_simp <;> with_reducible rfl)
        try simp only [Act.put, List.setIfInBounds_toArray, List.set_cons_zero, List.set_cons_succ]
        refine wpAnyH_take (i := 4) (oi := { dst := some 17, op := Op.fieldAddr 28 (Operand.tmp 16) 0, type := 0, pos := "ref.go:152", after := #[{ on := 3, ground := Ground.data }], guard := none }) (v := ?_) rfl (by kernel_rfl) (by kernel_rfl) (by kernel_rfl) (fun _ _ _ h => h) (Or.inl ⟨by rfl, ?_⟩) hHeld ?_
        rotate_left
        · (intro w hSw; (try dsimp only at hSw); go_simp <;> with_reducible rfl)
        try simp only [Act.put, List.setIfInBounds_toArray, List.set_cons_zero, List.set_cons_succ]
        refine wpAnyH_take (i := 5) (oi := { dst := some 18, op := Op.load 9 (Operand.tmp 17), type := 9, pos := "ref.go:152", after := #[{ on := 4, ground := Ground.data }], guard := none }) (v := ?_) rfl (by kernel_rfl) (by kernel_rfl) (by kernel_rfl) (fun _ _ _ h => h) (Or.inl ⟨by rfl, ?_⟩) hHeld ?_
        rotate_left
        · (intro w hSw; (try dsimp only at hSw); go_simp <;> with_reducible rfl)
        try simp only [Act.put, List.setIfInBounds_toArray, List.set_cons_zero, List.set_cons_succ]
        refine wpAnyH_take (i := 6) (oi := { dst := some 19, op := Op.fieldAddr 28 (Operand.tmp 3) 0, type := 0, pos := "ref.go:152", after := #[], guard := none }) (v := ?_) rfl (by kernel_rfl) (by kernel_rfl) (by kernel_rfl) (fun _ _ _ h => h) (Or.inl ⟨by rfl, ?_⟩) hHeld ?_
        rotate_left
        · (intro w hSw; (try dsimp only at hSw); go_simp <;> with_reducible rfl)
        try simp only [Act.put, List.setIfInBounds_toArray, List.set_cons_zero, List.set_cons_succ]
        refine wpAnyH_take (i := 7) (oi := { dst := some 20, op := Op.load 9 (Operand.tmp 19), type := 9, pos := "ref.go:152", after := #[{ on := 6, ground := Ground.data }], guard := none }) (v := ?_) rfl (by kernel_rfl) (by kernel_rfl) (by kernel_rfl) (fun _ _ _ h => h) (Or.inl ⟨by rfl, ?_⟩) hHeld ?_
        rotate_left
        · (intro w hSw; (try dsimp only at hSw); go_simp <;> with_reducible rfl)
        try simp only [Act.put, List.setIfInBounds_toArray, List.set_cons_zero, List.set_cons_succ]
        refine wpAnyH_take (i := 8) (oi := { dst := some 21, op := Op.binOp BinOp.neq 9 (Operand.tmp 18) (Operand.tmp 20) 9, type := 4, pos := "ref.go:152", after := #[{ on := 5, ground := Ground.data }, { on := 7, ground := Ground.data }], guard := none }) (v := ?_) rfl (by kernel_rfl) (by kernel_rfl) (by kernel_rfl) (fun _ _ _ h => h) (Or.inl ⟨by rfl, ?_⟩) hHeld ?_
        rotate_left
        · (intro w hSw; (try dsimp only at hSw); go_simp <;> with_reducible rfl)
        try simp only [Act.put, List.setIfInBounds_toArray, List.set_cons_zero, List.set_cons_succ]
        refine wpAnyH_take (i := 9) (oi := { dst := some 22, op := Op.move (Operand.tmp 21), type := 4, pos := "ref.go:152", after := #[{ on := 8, ground := Ground.data }], guard := none }) (v := ?_) rfl (by kernel_rfl) (by kernel_rfl) (by kernel_rfl) (fun _ _ _ h => h) (Or.inl ⟨by rfl, ?_⟩) hHeld ?_
        rotate_left
        · (intro w hSw; (try dsimp only at hSw); go_simp <;> with_reducible rfl)
        try simp only [Act.put, List.setIfInBounds_toArray, List.set_cons_zero, List.set_cons_succ]
        refine wpAnyH_take (i := 10) (oi := { dst := some 23, op := Op.fieldAddr 25 (Operand.tmp 2) 2, type := 0, pos := "ref.go:152", after := #[{ on := 9, ground := Ground.guard }], guard := some (9, true) }) (v := undef) rfl (by kernel_rfl) (by kernel_rfl) (by kernel_rfl) (fun _ _ _ h => h) (Or.inr ⟨by rfl, rfl⟩) hHeld ?_
        try simp only [Act.put, List.setIfInBounds_toArray, List.set_cons_zero, List.set_cons_succ]
        refine wpAnyH_take (i := 11) (oi := { dst := some 24, op := Op.load 22 (Operand.tmp 23), type := 22, pos := "ref.go:152", after := #[{ on := 10, ground := Ground.data }, { on := 9, ground := Ground.guard }], guard := some (9, true) }) (v := undef) rfl (by kernel_rfl) (by kernel_rfl) (by kernel_rfl) (fun _ _ _ h => h) (Or.inr ⟨by rfl, rfl⟩) hHeld ?_
        try simp only [Act.put, List.setIfInBounds_toArray, List.set_cons_zero, List.set_cons_succ]
        refine wpAnyH_take (i := 12) (oi := { dst := some 25, op := Op.fieldAddr 25 (Operand.tmp 2) 3, type := 0, pos := "ref.go:152", after := #[{ on := 9, ground := Ground.guard }], guard := some (9, true) }) (v := undef) rfl (by kernel_rfl) (by kernel_rfl) (by kernel_rfl) (fun _ _ _ h => h) (Or.inr ⟨by rfl, rfl⟩) hHeld ?_
        try simp only [Act.put, List.setIfInBounds_toArray, List.set_cons_zero, List.set_cons_succ]
        refine wpAnyH_take (i := 13) (oi := { dst := some 26, op := Op.load 23 (Operand.tmp 25), type := 23, pos := "ref.go:152", after := #[{ on := 12, ground := Ground.data }, { on := 9, ground := Ground.guard }], guard := some (9, true) }) (v := undef) rfl (by kernel_rfl) (by kernel_rfl) (by kernel_rfl) (fun _ _ _ h => h) (Or.inr ⟨by rfl, rfl⟩) hHeld ?_
        try simp only [Act.put, List.setIfInBounds_toArray, List.set_cons_zero, List.set_cons_succ]
        refine wpAnyH_take (i := 14) (oi := { dst := some 27, op := Op.move (Operand.tmp 5), type := 3, pos := "ref.go:152", after := #[{ on := 9, ground := Ground.guard }], guard := some (9, true) }) (v := undef) rfl (by kernel_rfl) (by kernel_rfl) (by kernel_rfl) (fun _ _ _ h => h) (Or.inr ⟨by rfl, rfl⟩) hHeld ?_
        try simp only [Act.put, List.setIfInBounds_toArray, List.set_cons_zero, List.set_cons_succ]
        refine wpAnyH_take (i := 15) (oi := { dst := some 28, op := Op.indexAddr 23 (Operand.tmp 26) (Operand.tmp 27), type := 0, pos := "ref.go:152", after := #[{ on := 13, ground := Ground.data }, { on := 14, ground := Ground.data }, { on := 9, ground := Ground.guard }], guard := some (9, true) }) (v := undef) rfl (by kernel_rfl) (by kernel_rfl) (by kernel_rfl) (fun _ _ _ h => h) (Or.inr ⟨by rfl, rfl⟩) hHeld ?_
        try simp only [Act.put, List.setIfInBounds_toArray, List.set_cons_zero, List.set_cons_succ]
        refine wpAnyH_take (i := 16) (oi := { dst := some 29, op := Op.load 28 (Operand.tmp 28), type := 28, pos := "ref.go:152", after := #[{ on := 15, ground := Ground.data }, { on := 9, ground := Ground.guard }], guard := some (9, true) }) (v := undef) rfl (by kernel_rfl) (by kernel_rfl) (by kernel_rfl) (fun _ _ _ h => h) (Or.inr ⟨by rfl, rfl⟩) hHeld ?_
        try simp only [Act.put, List.setIfInBounds_toArray, List.set_cons_zero, List.set_cons_succ]
        refine wpAnyH_take (i := 17) (oi := { dst := some 30, op := Op.load 28 (Operand.tmp 3), type := 28, pos := "ref.go:152", after := #[{ on := 9, ground := Ground.guard }], guard := some (9, true) }) (v := undef) rfl (by kernel_rfl) (by kernel_rfl) (by kernel_rfl) (fun _ _ _ h => h) (Or.inr ⟨by rfl, rfl⟩) hHeld ?_
        try simp only [Act.put, List.setIfInBounds_toArray, List.set_cons_zero, List.set_cons_succ]
        refine wpAnyH_take (i := 18) (oi := { dst := some 31, op := Op.call { callee := Callee.value (Operand.func 50), args := #[Operand.tmp 24, Operand.tmp 29, Operand.tmp 30], argTypes := #[22, 28, 28] }, type := 4, pos := "ref.go:152", after := #[{ on := 11, ground := Ground.data }, { on := 16, ground := Ground.data }, { on := 17, ground := Ground.data }, { on := 9, ground := Ground.chain }, { on := 9, ground := Ground.guard }], guard := some (9, true) }) (v := undef) rfl (by kernel_rfl) (by kernel_rfl) (by kernel_rfl) (fun _ _ _ h => h) (Or.inr ⟨by rfl, rfl⟩) hHeld ?_
        try simp only [Act.put, List.setIfInBounds_toArray, List.set_cons_zero, List.set_cons_succ]
        refine wpAnyH_take (i := 19) (oi := { dst := some 32, op := Op.pick (Operand.tmp 22) (Operand.tmp 31) (Operand.const (Value.bool false)), type := 4, pos := "ref.go:152", after := #[{ on := 9, ground := Ground.data }, { on := 18, ground := Ground.data }], guard := none }) (v := ?_) rfl (by kernel_rfl) (by kernel_rfl) (by kernel_rfl) (fun _ _ _ h => h) (Or.inl ⟨by rfl, ?_⟩) hHeld ?_
        rotate_left
        · (intro w hSw; (try dsimp only at hSw); go_simp <;> with_reducible rfl)
        try simp only [Act.put, List.setIfInBounds_toArray, List.set_cons_zero, List.set_cons_succ]
        refine wpAnyH_done (by kernel_rfl) ?_ _
        have HF := Lib.hid (HB.out.trans (hHeld.1.mono HB.out.size))
        clear hHeld
        go_wp2_with fail
        go_roundw
        case rel => exact ⟨i + 1, by omega, by go_num, HF, HN2⟩
        case measure => simp [intOf]; omega
      · have hse : (id.toList == r.id.toList) = false := by rw [str_is]; simpa using he
        have HN2 : Hid (cc = false → ∀ j, j < i + 1 → (rl R j).id ≠ r.id → (uq.any fun s => clash (rl R j) r s) = false) := Lib.hid (fun hc j hj hne => by
          by_cases e : j = i
          · subst e; rw [← HCE.out]; exact hc
          · exact HN.out j (by omega) hne)
        have HX1j := Lib.hid (HX1i.out he)
        clear he HX1i
        go_wp2_with fail
        clear x3
        refine wp_region_held_drew (S := (fun w' => Below wr.heap.size wr w' ∧ w'.cell? ⟨w.heap.size, 2, none⟩ = some (.slice a1 uq.length c1) ∧ w'.cell? ⟨w.heap.size, 3, none⟩ = some (.slice (some ⟨rb, ro, none⟩) R.length c2) ∧ w'.cell? ⟨rb, ro + i * 2, none⟩ = some (.string id) ∧ w'.cell? ⟨rb, ro + i * 2 + 1, none⟩ = some (.slice ai l ci) ∧ w'.cell? ⟨w.heap.size + 1, 0, none⟩ = some (.string r.id) ∧ w'.cell? ⟨w.heap.size + 1, 1, none⟩ = some (.slice ad r.d.length cp))) (by kernel_rfl) (HS.out _ ((Below.refl _ _).drew)) (fun hHeld => ?_)
        refine wpAnyH_take (i := 0) (oi := { dst := some 13, op := Op.fieldAddr 25 (Operand.tmp 2) 3, type := 0, pos := "ref.go:152", after := #[], guard := none }) (v := ?_) rfl (by kernel_rfl) (by kernel_rfl) (by kernel_rfl) (fun _ _ _ h => h) (Or.inl ⟨by rfl, ?_⟩) hHeld ?_
        rotate_left
        · (intro w hSw; (try dsimp only at hSw); go_simp <;> with_reducible rfl)
        try simp only [Act.put, List.setIfInBounds_toArray, List.set_cons_zero, List.set_cons_succ]
        refine wpAnyH_take (i := 1) (oi := { dst := some 14, op := Op.load 23 (Operand.tmp 13), type := 23, pos := "ref.go:152", after := #[{ on := 0, ground := Ground.data }], guard := none }) (v := ?_) rfl (by kernel_rfl) (by kernel_rfl) (by kernel_rfl) (fun _ _ _ h => h) (Or.inl ⟨by rfl, ?_⟩) hHeld ?_
        rotate_left
        · (intro w hSw; (try dsimp only at hSw); go_simp <;> with_reducible rfl)
        try simp only [Act.put, List.setIfInBounds_toArray, List.set_cons_zero, List.set_cons_succ]
        refine wpAnyH_take (i := 2) (oi := { dst := some 15, op := Op.move (Operand.tmp 5), type := 3, pos := "ref.go:152", after := #[], guard := none }) (v := ?_) rfl (by kernel_rfl) (by kernel_rfl) (by kernel_rfl) (fun _ _ _ h => h) (Or.inl ⟨by rfl, ?_⟩) hHeld ?_
        rotate_left
        · (intro w hSw; (try dsimp only at hSw); go_simp <;> with_reducible rfl)
        try simp only [Act.put, List.setIfInBounds_toArray, List.set_cons_zero, List.set_cons_succ]
        refine wpAnyH_take (i := 3) (oi := { dst := some 16, op := Op.indexAddr 23 (Operand.tmp 14) (Operand.tmp 15), type := 0, pos := "ref.go:152", after := #[{ on := 1, ground := Ground.data }, { on := 2, ground := Ground.data }], guard := none }) (v := ?_) rfl (by kernel_rfl) (by kernel_rfl) (by kernel_rfl) (fun _ _ _ h => h) (Or.inl ⟨by rfl, ?_⟩) hHeld ?_
        rotate_left
        · (intro w hSw; (try dsimp only at hSw); go_simp <;> with_reducible rfl)
        try simp only [Act.put, List.setIfInBounds_toArray, List.set_cons_zero, List.set_cons_succ]
        refine wpAnyH_take (i := 4) (oi := { dst := some 17, op := Op.fieldAddr 28 (Operand.tmp 16) 0, type := 0, pos := "ref.go:152", after := #[{ on := 3, ground := Ground.data }], guard := none }) (v := ?_) rfl (by kernel_rfl) (by kernel_rfl) (by kernel_rfl) (fun _ _ _ h => h) (Or.inl ⟨by rfl, ?_⟩) hHeld ?_
        rotate_left
        · (intro w hSw; (try dsimp only at hSw); go_simp <;> with_reducible rfl)
        try simp only [Act.put, List.setIfInBounds_toArray, List.set_cons_zero, List.set_cons_succ]
        refine wpAnyH_take (i := 5) (oi := { dst := some 18, op := Op.load 9 (Operand.tmp 17), type := 9, pos := "ref.go:152", after := #[{ on := 4, ground := Ground.data }], guard := none }) (v := ?_) rfl (by kernel_rfl) (by kernel_rfl) (by kernel_rfl) (fun _ _ _ h => h) (Or.inl ⟨by rfl, ?_⟩) hHeld ?_
        rotate_left
        · (intro w hSw; (try dsimp only at hSw); go_simp <;> with_reducible rfl)
        try simp only [Act.put, List.setIfInBounds_toArray, List.set_cons_zero, List.set_cons_succ]
        refine wpAnyH_take (i := 6) (oi := { dst := some 19, op := Op.fieldAddr 28 (Operand.tmp 3) 0, type := 0, pos := "ref.go:152", after := #[], guard := none }) (v := ?_) rfl (by kernel_rfl) (by kernel_rfl) (by kernel_rfl) (fun _ _ _ h => h) (Or.inl ⟨by rfl, ?_⟩) hHeld ?_
        rotate_left
        · (intro w hSw; (try dsimp only at hSw); go_simp <;> with_reducible rfl)
        try simp only [Act.put, List.setIfInBounds_toArray, List.set_cons_zero, List.set_cons_succ]
        refine wpAnyH_take (i := 7) (oi := { dst := some 20, op := Op.load 9 (Operand.tmp 19), type := 9, pos := "ref.go:152", after := #[{ on := 6, ground := Ground.data }], guard := none }) (v := ?_) rfl (by kernel_rfl) (by kernel_rfl) (by kernel_rfl) (fun _ _ _ h => h) (Or.inl ⟨by rfl, ?_⟩) hHeld ?_
        rotate_left
        · (intro w hSw; (try dsimp only at hSw); go_simp <;> with_reducible rfl)
        try simp only [Act.put, List.setIfInBounds_toArray, List.set_cons_zero, List.set_cons_succ]
        refine wpAnyH_take (i := 8) (oi := { dst := some 21, op := Op.binOp BinOp.neq 9 (Operand.tmp 18) (Operand.tmp 20) 9, type := 4, pos := "ref.go:152", after := #[{ on := 5, ground := Ground.data }, { on := 7, ground := Ground.data }], guard := none }) (v := ?_) rfl (by kernel_rfl) (by kernel_rfl) (by kernel_rfl) (fun _ _ _ h => h) (Or.inl ⟨by rfl, ?_⟩) hHeld ?_
        rotate_left
        · (intro w hSw; (try dsimp only at hSw); go_simp <;> with_reducible rfl)
        try simp only [Act.put, List.setIfInBounds_toArray, List.set_cons_zero, List.set_cons_succ]
        refine wpAnyH_take (i := 9) (oi := { dst := some 22, op := Op.move (Operand.tmp 21), type := 4, pos := "ref.go:152", after := #[{ on := 8, ground := Ground.data }], guard := none }) (v := ?_) rfl (by kernel_rfl) (by kernel_rfl) (by kernel_rfl) (fun _ _ _ h => h) (Or.inl ⟨by rfl, ?_⟩) hHeld ?_
        rotate_left
        · (intro w hSw; (try dsimp only at hSw); go_simp <;> with_reducible rfl)
        try simp only [Act.put, List.setIfInBounds_toArray, List.set_cons_zero, List.set_cons_succ]
        refine wpAnyH_take (i := 10) (oi := { dst := some 23, op := Op.fieldAddr 25 (Operand.tmp 2) 2, type := 0, pos := "ref.go:152", after := #[{ on := 9, ground := Ground.guard }], guard := some (9, true) }) (v := ?_) rfl (by kernel_rfl) (by kernel_rfl) (by kernel_rfl) (fun _ _ _ h => h) (Or.inl ⟨by rfl, ?_⟩) hHeld ?_
        rotate_left
        · (intro w hSw; (try dsimp only at hSw); go_simp <;> with_reducible rfl)
        try simp only [Act.put, List.setIfInBounds_toArray, List.set_cons_zero, List.set_cons_succ]
        refine wpAnyH_take (i := 11) (oi := { dst := some 24, op := Op.load 22 (Operand.tmp 23), type := 22, pos := "ref.go:152", after := #[{ on := 10, ground := Ground.data }, { on := 9, ground := Ground.guard }], guard := some (9, true) }) (v := ?_) rfl (by kernel_rfl) (by kernel_rfl) (by kernel_rfl) (fun _ _ _ h => h) (Or.inl ⟨by rfl, ?_⟩) hHeld ?_
        rotate_left
        · (intro w hSw; (try dsimp only at hSw); go_simp <;> with_reducible rfl)
        try simp only [Act.put, List.setIfInBounds_toArray, List.set_cons_zero, List.set_cons_succ]
        refine wpAnyH_take (i := 12) (oi := { dst := some 25, op := Op.fieldAddr 25 (Operand.tmp 2) 3, type := 0, pos := "ref.go:152", after := #[{ on := 9, ground := Ground.guard }], guard := some (9, true) }) (v := ?_) rfl (by kernel_rfl) (by kernel_rfl) (by kernel_rfl) (fun _ _ _ h => h) (Or.inl ⟨by rfl, ?_⟩) hHeld ?_
        rotate_left
        · (intro w hSw; (try dsimp only at hSw); go_simp <;> with_reducible rfl)
        try simp only [Act.put, List.setIfInBounds_toArray, List.set_cons_zero, List.set_cons_succ]
        refine wpAnyH_take (i := 13) (oi := { dst := some 26, op := Op.load 23 (Operand.tmp 25), type := 23, pos := "ref.go:152", after := #[{ on := 12, ground := Ground.data }, { on := 9, ground := Ground.guard }], guard := some (9, true) }) (v := ?_) rfl (by kernel_rfl) (by kernel_rfl) (by kernel_rfl) (fun _ _ _ h => h) (Or.inl ⟨by rfl, ?_⟩) hHeld ?_
        rotate_left
        · (intro w hSw; (try dsimp only at hSw); go_simp <;> with_reducible rfl)
        try simp only [Act.put, List.setIfInBounds_toArray, List.set_cons_zero, List.set_cons_succ]
        refine wpAnyH_take (i := 14) (oi := { dst := some 27, op := Op.move (Operand.tmp 5), type := 3, pos := "ref.go:152", after := #[{ on := 9, ground := Ground.guard }], guard := some (9, true) }) (v := ?_) rfl (by kernel_rfl) (by kernel_rfl) (by kernel_rfl) (fun _ _ _ h => h) (Or.inl ⟨by rfl, ?_⟩) hHeld ?_
        rotate_left
        · (intro w hSw; (try dsimp only at hSw); go_simp <;> with_reducible rfl)
        try simp only [Act.put, List.setIfInBounds_toArray, List.set_cons_zero, List.set_cons_succ]
        refine wpAnyH_take (i := 15) (oi := { dst := some 28, op := Op.indexAddr 23 (Operand.tmp 26) (Operand.tmp 27), type := 0, pos := "ref.go:152", after := #[{ on := 13, ground := Ground.data }, { on := 14, ground := Ground.data }, { on := 9, ground := Ground.guard }], guard := some (9, true) }) (v := ?_) rfl (by kernel_rfl) (by kernel_rfl) (by kernel_rfl) (fun _ _ _ h => h) (Or.inl ⟨by rfl, ?_⟩) hHeld ?_
        rotate_left
        · (intro w hSw; (try dsimp only at hSw); go_simp <;> with_reducible rfl)
        try simp only [Act.put, List.setIfInBounds_toArray, List.set_cons_zero, List.set_cons_succ]
        refine wpAnyH_take (i := 16) (oi := { dst := some 29, op := Op.load 28 (Operand.tmp 28), type := 28, pos := "ref.go:152", after := #[{ on := 15, ground := Ground.data }, { on := 9, ground := Ground.guard }], guard := some (9, true) }) (v := ?_) rfl (by kernel_rfl) (by kernel_rfl) (by kernel_rfl) (fun _ _ _ h => h) (Or.inl ⟨by rfl, ?_⟩) hHeld ?_
        rotate_left
        · (intro w hSw; (try dsimp only at hSw); go_simp <;> with_reducible rfl)
        try simp only [Act.put, List.setIfInBounds_toArray, List.set_cons_zero, List.set_cons_succ]
        refine wpAnyH_take (i := 17) (oi := { dst := some 30, op := Op.load 28 (Operand.tmp 3), type := 28, pos := "ref.go:152", after := #[{ on := 9, ground := Ground.guard }], guard := some (9, true) }) (v := ?_) rfl (by kernel_rfl) (by kernel_rfl) (by kernel_rfl) (fun _ _ _ h => h) (Or.inl ⟨by rfl, ?_⟩) hHeld ?_
        rotate_left
        · (intro w hSw; (try dsimp only at hSw); go_simp <;> with_reducible rfl)
        try simp only [Act.put, List.setIfInBounds_toArray, List.set_cons_zero, List.set_cons_succ]
        refine wpAnyH_ready (rs := [18]) (by kernel_rfl) (by simp) (AllReadyH.cons (o := { dst := some 31, op := Op.call { callee := Callee.value (Operand.func 50), args := #[Operand.tmp 24, Operand.tmp 29, Operand.tmp 30], argTypes := #[22, 28, 28] }, type := 4, pos := "ref.go:152", after := #[{ on := 11, ground := Ground.data }, { on := 16, ground := Ground.data }, { on := 17, ground := Ground.data }, { on := 9, ground := Ground.chain }, { on := 9, ground := Ground.guard }], guard := some (9, true) }) rfl (fun K18 hK18 => ?_) AllReadyH.nil)
        go_simp
        refine (HCC.out _ hHeld.1).mono ?_
        rintro e' wq ⟨rfl, bq⟩
        refine hK18.out _ _ (HS.out _ (hHeld.1.trans (bq.mono hHeld.1.size))) (fun hH_18 => ?_)
        clear bq
        clear hK18 K18
        try simp only [Act.put, List.setIfInBounds_toArray, List.set_cons_zero, List.set_cons_succ]
        refine wpAnyH_take (i := 19) (oi := { dst := some 32, op := Op.pick (Operand.tmp 22) (Operand.tmp 31) (Operand.const (Value.bool false)), type := 4, pos := "ref.go:152", after := #[{ on := 9, ground := Ground.data }, { on := 18, ground := Ground.data }], guard := none }) (v := ?_) rfl (by kernel_rfl) (by kernel_rfl) (by kernel_rfl) (fun _ _ _ h => h) (Or.inl ⟨by rfl, ?_⟩) hH_18 ?_
        rotate_left
        · (intro w hSw; (try dsimp only at hSw); go_simp <;> with_reducible rfl)
        try simp only [Act.put, List.setIfInBounds_toArray, List.set_cons_zero, List.set_cons_succ]
        refine wpAnyH_done (by kernel_rfl) ?_ _
        have HF := Lib.hid (HB.out.trans (hH_18.1.mono HB.out.size))
        clear hHeld
        cases cc with
        | true =>
          have e1 := HX1j.out rfl
          subst e1
          go_wp2_with fail
          go_ret
          exact ⟨rfl, HW.out.trans (HF.out.mono HW.out.size)⟩
        | false =>
          have HN3 := Lib.hid (HN2.out rfl)
          clear HN2
          go_wp2_with fail
          go_roundw
          case rel => exact ⟨i + 1, by omega, by go_num, HF, HN3⟩
          case measure => simp [intOf]; omega
    · have him : i = R.length := by omega
      subst him
      have hz : ¬ ((R.length : Int) < (R.length : Int)) := by omega
      have e1 := HX2.out HN.out
      subst e1
      clear HX1 HX2 HCL HRV HN
      go_wp2_with fail
      go_ret
      exact ⟨rfl, HBw.out⟩
end Go.Proofs.YtfigebepeniikaaGreat
/- Layer 27: the document's Added, Turned, Put, Set, Drop, Get, Check. -/
namespace Go.Proofs.YtfigebepeniikaaGreat
open Go.RowKit Go.Maps Go.Shelf
theorem GT'.vals {w w' : World} {T : TM} {v : Value} (h : GT' w T v w') : ∃ u1 k1 u2 n2 k2, v = .agg #[.string T.name, .int .i64 T.most, .slice u1 T.uq.length k1, .slice u2 n2 k2] := by
  obtain ⟨v1, v2, P, rfl, h2, h3, h4⟩ := h
  obtain ⟨ua, uc, rfl⟩ := own_slice h2
  obtain ⟨va, vc, rfl⟩ := own_slice h3.row
  exact ⟨_, _, _, _, _, rfl⟩
def AP (w : World) (X : TM) (e : Int) (en : Ending) (w' : World) : Prop := (∃ v, en = .returned (.tuple #[v, .int .i64 e]) ∧ GT' w X v w') ∧ Below w.heap.size w w'
theorem AP.zero {w w' : World} {X : TM} {e e' : Int} (hX : (X, e) = (zT, e')) (hb : Below w.heap.size w w') : AP w X e (.returned (.tuple #[.agg #[.string ⟨#[]⟩, .int .i64 0, .slice none 0 0, .slice none 0 0], .int .i64 e'])) w' := by
  cases hX
  exact ⟨⟨_, rfl, gt_zero _ _⟩, hb⟩
theorem row_yes {R : List RC} {s : ByteArray} {i : Int} (h : RowP R s i) : (s ∈ idsR R ∧ 0 ≤ i ∧ ∃ k : Nat, i = k ∧ k < R.length ∧ fndR R s = some (rl R k)) ∨ (¬ s ∈ idsR R ∧ i = -1) := by
  rcases h with ⟨k, hk, h1, h2, rfl⟩ | ⟨h1, rfl⟩
  · refine .inl ⟨(idsR_mem _ _).2 ⟨_, rl_mem hk, h1⟩, by omega, k, rfl, hk, ?_⟩
    unfold fndR
    have e : R = R.take k ++ R[k] :: R.drop (k + 1) := by rw [← List.drop_eq_getElem_cons hk, List.take_append_drop]
    conv => lhs; rw [e]
    rw [List.find?_append, List.find?_eq_none.2 (fun x hx => ?_)]
    · rw [Option.none_or, List.find?_cons, ← rl_get hk, h1]; simp
    · obtain ⟨j, hj, e2⟩ := List.mem_iff_getElem.1 hx
      rw [List.length_take] at hj
      rw [List.getElem_take] at e2
      have := h2 j (by omega)
      rw [rl_get (by omega), e2] at this
      simpa using this
  · refine .inr ⟨fun h => ?_, rfl⟩
    obtain ⟨x, hx, e⟩ := (idsR_mem _ _).1 h
    obtain ⟨j, hj, rfl⟩ := rl_of hx
    exact h1 j hj e
theorem put_fit {T : TM} {r : RC} (h1 : tabOk T = true) (h2 : recOk r = true) (h3 : ¬ r.id ∈ idsR T.rows) (h4 : clT T r = false) (h5 : (T.rows.length : Int) ≠ T.most) : putT T r = ({ T with rows := wiR r T.rows }, 0) := by
  unfold putT
  rw [h1, h2, decide_eq_false h3, h4, if_neg (by simp), if_neg (by simp), if_neg h5, putT_w h3]
theorem set_bad' {T : TM} {r : RC} (h : (tabOk T && recOk r) = false) : setT T r = (zT, 8) := by unfold setT; rw [if_pos h]
theorem set_none' {T : TM} {r : RC} (h1 : tabOk T = true) (h2 : recOk r = true) (h3 : ¬ r.id ∈ idsR T.rows) : setT T r = (zT, 270) := by
  unfold setT
  rw [h1, h2, if_neg (by simp), if_pos h3]
theorem set_cl' {T : TM} {r : RC} (h1 : tabOk T = true) (h2 : recOk r = true) (h3 : r.id ∈ idsR T.rows) (h4 : clT T r = true) : setT T r = (zT, 271) := by
  unfold setT
  rw [h1, h2, if_neg (by simp), if_neg (by simpa using h3), if_pos h4]
theorem set_fit {T : TM} {r : RC} (h1 : tabOk T = true) (h2 : recOk r = true) (h3 : r.id ∈ idsR T.rows) (h4 : clT T r = false) : setT T r = ({ T with rows := wiR r (ftR r.id T.rows) }, 0) := by
  unfold setT
  rw [h1, h2, if_neg (by simp), if_neg (by simpa using h3), h4, if_neg (by decide)]
  unfold ftR
  rw [wiR_set r T.rows (up_pw (tabOk_iff.1 h1).up) h3]
theorem drop_bad' {T : TM} {s : ByteArray} (h : tabOk T = false) : dropT T s = (zT, 8) := by unfold dropT; rw [if_pos h]
theorem drop_none' {T : TM} {s : ByteArray} (h1 : tabOk T = true) (h3 : ¬ s ∈ idsR T.rows) : dropT T s = (zT, 270) := by
  unfold dropT
  rw [h1, if_neg (by simp), if_pos h3]
theorem drop_fit {T : TM} {s : ByteArray} (h1 : tabOk T = true) (h3 : s ∈ idsR T.rows) : dropT T s = ({ T with rows := ftR s T.rows }, 0) := by
  unfold dropT
  rw [h1, if_neg (by simp), if_neg (by simpa using h3)]; rfl
/-- What the document's answers ask of a table and a record. -/
structure Good (T : TM) : Prop where
  sm : SmT T
  n : T.rows.length ≤ 900
  nz : ∀ x ∈ T.rows, NZ x
set_option maxRecDepth 20000 in
set_option maxHeartbeats 8000000 in
theorem rAdded_any (B B' : Nat) (T : TM) (a1 a2 : Option Addr) (c1 c2 : Nat) (r : RC) (ad : Option Addr) (cp : Nat) (w : World) (hv : TVs B w T a1 c1 a2 c2) (hs : Good T) (hd : DV B' w ad cp r.d) (hr0 : SmR r) (hzr : NZ r) (ht : tabOk T = true) (kr : recOk r = true) : Calls Tryz.prog 33 #[tv T a1 c1 a2 c2, rv r ad cp] w (AP w (putT T r).1 (putT T r).2) := by
  obtain ⟨nm, m, uq, R⟩ := T
  show Calls Tryz.prog 33 #[.agg #[.string nm, .int .i64 m, .slice a1 uq.length c1, .slice a2 R.length c2], .agg #[.string r.id, .slice ad r.d.length cp]] w (AP w (putT ⟨nm, m, uq, R⟩ r).1 (putT ⟨nm, m, uq, R⟩ r).2)
  have hRn : R.length ≤ 900 := hs.n
  obtain ⟨W, hW⟩ : ∃ W, W = ((w.alloc (.cells #[.string nm, .int .i64 m, .slice a1 uq.length c1, .slice a2 R.length c2] 25)).alloc (.cells #[.string r.id, .slice ad r.d.length cp] 28)).alloc (.cells #[.string ⟨#[]⟩, .int .i64 0, .slice none 0 0, .slice none 0 0] 25) := ⟨_, rfl⟩
  have HW : Hid (Below w.heap.size w W) := Lib.hid (by rw [hW]; exact (((Below.refl _ _).alloc (Nat.le_refl _) _).alloc (by simp) _).alloc (by simp; omega) _)
  have HQ1 : Hid (Bx4 W w.heap.size 25 (.string nm) (.int .i64 m) (.slice a1 uq.length c1) (.slice a2 R.length c2)) := Lib.hid (by rw [hW]; exact ((bx4_new w _ _ _ _ _).up ((Below.refl _ _).alloc (Nat.le_refl _) _)).up ((Below.refl _ _).alloc (Nat.le_refl _) _))
  have HQ3 : Hid (Bx2 W (w.heap.size + 1) (.string r.id) (.slice ad r.d.length cp)) := Lib.hid (by
    rw [hW]
    have h := (bx2_new (w.alloc (.cells #[.string nm, .int .i64 m, .slice a1 uq.length c1, .slice a2 R.length c2] 25)) (.string r.id) (.slice ad r.d.length cp)).up ((Below.refl _ _).alloc (Nat.le_refl _) (.cells #[.string ⟨#[]⟩, .int .i64 0, .slice none 0 0, .slice none 0 0] 25))
    simpa using h)
  have HQ2 : Hid (Bx4 W (w.heap.size + 1 + 1) 25 (.string ⟨#[]⟩) (.int .i64 0) (.slice none 0 0) (.slice none 0 0)) := Lib.hid (by
    rw [hW]
    have h := bx4_new ((w.alloc (.cells #[.string nm, .int .i64 m, .slice a1 uq.length c1, .slice a2 R.length c2] 25)).alloc (.cells #[.string r.id, .slice ad r.d.length cp] 28)) 25 (.string ⟨#[]⟩) (.int .i64 0) (.slice none 0 0) (.slice none 0 0)
    simpa using h)
  have HSZ : Hid (w.heap.size + 3 = W.heap.size) := Lib.hid (by rw [hW]; simp)
  have hsz := HSZ.out
  have r1 : (R.length : Int) ≤ 900 := by omega
  have HRW : Hid (Calls Tryz.prog 27 #[.agg #[.string nm, .int .i64 m, .slice a1 uq.length c1, .slice a2 R.length c2], .string r.id] W fun e w' => (∃ i, e = .returned (.int .i64 i) ∧ RowP R r.id i) ∧ Below W.heap.size W w') := Lib.hid (rRow_any B ⟨nm, m, uq, R⟩ a1 a2 c1 c2 r.id W (hv.below HW.out) hs.sm)
  have HCL : Hid (∀ V, Below W.heap.size W V → Calls Tryz.prog 63 #[.agg #[.string nm, .int .i64 m, .slice a1 uq.length c1, .slice a2 R.length c2], .agg #[.string r.id, .slice ad r.d.length cp]] V fun e w' => e = .returned (.bool (clT ⟨nm, m, uq, R⟩ r)) ∧ Below V.heap.size V w') := Lib.hid (fun V k => rClashes_any B B' ⟨nm, m, uq, R⟩ a1 a2 c1 c2 r ad cp V ((hv.below HW.out).below k) hs.sm hs.nz (tabOk_iff.1 ht).rcs ((hd.below HW.out).below k) hr0 hzr kr)
  have HWI : Hid (∀ V, Below W.heap.size W V → Calls Tryz.prog 64 #[.agg #[.string nm, .int .i64 m, .slice a1 uq.length c1, .slice a2 R.length c2], .agg #[.string r.id, .slice ad r.d.length cp]] V fun e w' => (∃ v, e = .returned v ∧ GT' V ⟨nm, m, uq, wiR r R⟩ v w') ∧ Below V.heap.size V w') := Lib.hid (fun V k => rWith_any B B' ⟨nm, m, uq, R⟩ a1 a2 c1 c2 r ad cp V ((hv.below HW.out).below k) hs.sm hs.n ((hd.below HW.out).below k) hr0)
  obtain ⟨X, e, hX⟩ : ∃ X e, putT ⟨nm, m, uq, R⟩ r = (X, e) := ⟨_, _, rfl⟩
  have H1 : Hid (r.id ∈ idsR R → (X, e) = (zT, 271)) := Lib.hid (fun h => hX.symm.trans (put_in ht kr h))
  have H2 : Hid (clT ⟨nm, m, uq, R⟩ r = true → (X, e) = (zT, 271)) := Lib.hid (fun h => hX.symm.trans (put_cl ht kr h))
  have H3 : Hid (¬ r.id ∈ idsR R → clT ⟨nm, m, uq, R⟩ r = false → (R.length : Int) = m → (X, e) = (zT, 272)) := Lib.hid (fun h h2 h3 => hX.symm.trans (put_full ht kr h h2 h3))
  have H4 : Hid (¬ r.id ∈ idsR R → clT ⟨nm, m, uq, R⟩ r = false → (R.length : Int) ≠ m → (X, e) = (⟨nm, m, uq, wiR r R⟩, 0)) := Lib.hid (fun h h2 h3 => hX.symm.trans (put_fit ht kr h h2 h3))
  have hlm : (R.length : Int) ≤ m := (tabOk_iff.1 ht).len
  rw [hX]
  show Calls Tryz.prog 33 #[.agg #[.string nm, .int .i64 m, .slice a1 uq.length c1, .slice a2 R.length c2], .agg #[.string r.id, .slice ad r.d.length cp]] w (AP w X e)
  obtain ⟨cl, hcl⟩ : ∃ c, c = clT ⟨nm, m, uq, R⟩ r := ⟨_, rfl⟩
  rw [← hcl] at HCL H2 H3 H4
  clear hX hv hs hd hr0 hzr ht kr hcl
  go_enter Tryz.func33, Tryz.ntmps33
  go_wp2_with fail
  rw [← hW]
  clear hW
  refine HRW.out.mono ?_
  rintro en w1 ⟨⟨i, rfl, hrow⟩, b1⟩
  have B1 := Lib.hid b1
  clear b1 HRW
  have P1 := Lib.hid (HQ1.out.up B1.out)
  have x0 := P1.out.c0
  have x1 := P1.out.c1
  have x2 := P1.out.c2
  have x3 := P1.out.c3
  have P3 := Lib.hid (HQ3.out.up B1.out)
  have u0 := P3.out.c0
  have u1 := P3.out.c1
  have P2 := Lib.hid (HQ2.out.up B1.out)
  have z0 := P2.out.c0
  have z1 := P2.out.c1
  have z2 := P2.out.c2
  have z3 := P2.out.c3
  have f0 := P2.out.fz 0
  have f1 := P2.out.fz 1
  have f2 := P2.out.fz 2
  have f3 := P2.out.fz 3
  rcases row_yes hrow with ⟨hin, hi0, _⟩ | ⟨hni, rfl⟩
  · have HE := Lib.hid (H1.out hin)
    clear hrow hin H1 H2 H3 H4
    go_wp2_with fail
    exact ret_tt Tryz.results33 rfl rfl (P2.out.set4 _ _ _ _) (AP.zero HE.out (w4_below (HW.out.trans (B1.out.mono HW.out.size)) (by omega) _ _ _ _))
  · clear hrow H1
    go_wp2_with fail
    refine (HCL.out _ B1.out).mono ?_
    rintro en w2 ⟨rfl, b2⟩
    have B2 := Lib.hid (B1.out.trans (b2.mono B1.out.size))
    clear b2 HCL x0 x1 x2 x3 u0 u1 z0 z1 z2 z3 f0 f1 f2 f3 P1 P2 P3
    have P1 := Lib.hid (HQ1.out.up B2.out)
    have x0 := P1.out.c0
    have x1 := P1.out.c1
    have x2 := P1.out.c2
    have x3 := P1.out.c3
    have P3 := Lib.hid (HQ3.out.up B2.out)
    have u0 := P3.out.c0
    have u1 := P3.out.c1
    have P2 := Lib.hid (HQ2.out.up B2.out)
    have z0 := P2.out.c0
    have z1 := P2.out.c1
    have z2 := P2.out.c2
    have z3 := P2.out.c3
    have f0 := P2.out.fz 0
    have f1 := P2.out.fz 1
    have f2 := P2.out.fz 2
    have f3 := P2.out.fz 3
    cases cl with
    | true =>
      have HE := Lib.hid (H2.out rfl)
      clear hni H2 H3 H4
      go_wp2_with fail
      exact ret_tt Tryz.results33 rfl rfl (P2.out.set4 _ _ _ _) (AP.zero HE.out (w4_below (HW.out.trans (B2.out.mono HW.out.size)) (by omega) _ _ _ _))
    | false =>
      by_cases hf : (R.length : Int) = m
      · have HE := Lib.hid (H3.out hni rfl hf)
        have hge : m ≤ (R.length : Int) := by omega
        clear hni hf H2 H3 H4
        go_wp2_with fail
        exact ret_tt Tryz.results33 rfl rfl (P2.out.set4 _ _ _ _) (AP.zero HE.out (w4_below (HW.out.trans (B2.out.mono HW.out.size)) (by omega) _ _ _ _))
      · have HE := Lib.hid (H4.out hni rfl hf)
        have hge : ¬ m ≤ (R.length : Int) := by omega
        clear hni hf H2 H3 H4
        go_wp2_with fail
        refine (HWI.out _ B2.out).mono ?_
        rintro en w3 ⟨⟨v, rfl, hg⟩, b3⟩
        have B3 := Lib.hid (B2.out.trans (b3.mono B2.out.size))
        clear b3 HWI x0 x1 x2 x3 u0 u1 z0 z1 z2 z3 f0 f1 f2 f3 P1 P2 P3
        cases HE.out
        have HE' : Hid (True) := Lib.hid trivial
        obtain ⟨p1, k1, p2, n2, k2, rfl⟩ := hg.vals
        have HG := Lib.hid hg
        clear hg
        have P2 := Lib.hid (HQ2.out.up B3.out)
        have z0 := P2.out.c0
        have z1 := P2.out.c1
        have z2 := P2.out.c2
        have z3 := P2.out.c3
        have f0 := P2.out.fz 0
        have f1 := P2.out.fz 1
        have f2 := P2.out.fz 2
        have f3 := P2.out.fz 3
        go_wp2_with fail
        exact ret_tt Tryz.results33 rfl rfl (P2.out.set4 _ _ _ _) ⟨⟨_, rfl, (HG.out.set4 P2.out _ _ _ _).base (HW.out.trans (B2.out.mono HW.out.size)).size⟩, w4_below (HW.out.trans (B3.out.mono HW.out.size)) (by omega) _ _ _ _⟩
set_option maxRecDepth 20000 in
set_option maxHeartbeats 8000000 in
theorem rTurned_any (B B' : Nat) (T : TM) (a1 a2 : Option Addr) (c1 c2 : Nat) (r : RC) (ad : Option Addr) (cp : Nat) (w : World) (hv : TVs B w T a1 c1 a2 c2) (hs : Good T) (hd : DV B' w ad cp r.d) (hr0 : SmR r) (hzr : NZ r) (ht : tabOk T = true) (kr : recOk r = true) : Calls Tryz.prog 34 #[tv T a1 c1 a2 c2, rv r ad cp] w (AP w (setT T r).1 (setT T r).2) := by
  obtain ⟨nm, m, uq, R⟩ := T
  show Calls Tryz.prog 34 #[.agg #[.string nm, .int .i64 m, .slice a1 uq.length c1, .slice a2 R.length c2], .agg #[.string r.id, .slice ad r.d.length cp]] w (AP w (setT ⟨nm, m, uq, R⟩ r).1 (setT ⟨nm, m, uq, R⟩ r).2)
  have hRn : R.length ≤ 900 := hs.n
  obtain ⟨W, hW⟩ : ∃ W, W = ((w.alloc (.cells #[.string nm, .int .i64 m, .slice a1 uq.length c1, .slice a2 R.length c2] 25)).alloc (.cells #[.string r.id, .slice ad r.d.length cp] 28)).alloc (.cells #[.string ⟨#[]⟩, .int .i64 0, .slice none 0 0, .slice none 0 0] 25) := ⟨_, rfl⟩
  have HW : Hid (Below w.heap.size w W) := Lib.hid (by rw [hW]; exact (((Below.refl _ _).alloc (Nat.le_refl _) _).alloc (by simp) _).alloc (by simp; omega) _)
  have HQ1 : Hid (Bx4 W w.heap.size 25 (.string nm) (.int .i64 m) (.slice a1 uq.length c1) (.slice a2 R.length c2)) := Lib.hid (by rw [hW]; exact ((bx4_new w _ _ _ _ _).up ((Below.refl _ _).alloc (Nat.le_refl _) _)).up ((Below.refl _ _).alloc (Nat.le_refl _) _))
  have HQ3 : Hid (Bx2 W (w.heap.size + 1) (.string r.id) (.slice ad r.d.length cp)) := Lib.hid (by
    rw [hW]
    have h := (bx2_new (w.alloc (.cells #[.string nm, .int .i64 m, .slice a1 uq.length c1, .slice a2 R.length c2] 25)) (.string r.id) (.slice ad r.d.length cp)).up ((Below.refl _ _).alloc (Nat.le_refl _) (.cells #[.string ⟨#[]⟩, .int .i64 0, .slice none 0 0, .slice none 0 0] 25))
    simpa using h)
  have HQ2 : Hid (Bx4 W (w.heap.size + 1 + 1) 25 (.string ⟨#[]⟩) (.int .i64 0) (.slice none 0 0) (.slice none 0 0)) := Lib.hid (by
    rw [hW]
    have h := bx4_new ((w.alloc (.cells #[.string nm, .int .i64 m, .slice a1 uq.length c1, .slice a2 R.length c2] 25)).alloc (.cells #[.string r.id, .slice ad r.d.length cp] 28)) 25 (.string ⟨#[]⟩) (.int .i64 0) (.slice none 0 0) (.slice none 0 0)
    simpa using h)
  have HSZ : Hid (w.heap.size + 3 = W.heap.size) := Lib.hid (by rw [hW]; simp)
  have hsz := HSZ.out
  have r1 : (R.length : Int) ≤ 900 := by omega
  have HRW : Hid (Calls Tryz.prog 27 #[.agg #[.string nm, .int .i64 m, .slice a1 uq.length c1, .slice a2 R.length c2], .string r.id] W fun e w' => (∃ i, e = .returned (.int .i64 i) ∧ RowP R r.id i) ∧ Below W.heap.size W w') := Lib.hid (rRow_any B ⟨nm, m, uq, R⟩ a1 a2 c1 c2 r.id W (hv.below HW.out) hs.sm)
  have HCL : Hid (∀ V, Below W.heap.size W V → Calls Tryz.prog 63 #[.agg #[.string nm, .int .i64 m, .slice a1 uq.length c1, .slice a2 R.length c2], .agg #[.string r.id, .slice ad r.d.length cp]] V fun e w' => e = .returned (.bool (clT ⟨nm, m, uq, R⟩ r)) ∧ Below V.heap.size V w') := Lib.hid (fun V k => rClashes_any B B' ⟨nm, m, uq, R⟩ a1 a2 c1 c2 r ad cp V ((hv.below HW.out).below k) hs.sm hs.nz (tabOk_iff.1 ht).rcs ((hd.below HW.out).below k) hr0 hzr kr)
  have HWO : Hid (∀ V, Below W.heap.size W V → Calls Tryz.prog 36 #[.agg #[.string nm, .int .i64 m, .slice a1 uq.length c1, .slice a2 R.length c2], .string r.id] V fun e w' => (∃ v, e = .returned v ∧ GT' V ⟨nm, m, uq, ftR r.id R⟩ v w') ∧ Below V.heap.size V w') := Lib.hid (fun V k => rWithout_any B ⟨nm, m, uq, R⟩ a1 a2 c1 c2 r.id V ((hv.below HW.out).below k) hs.sm)
  have hsm2 : SmT ⟨nm, m, uq, ftR r.id R⟩ := ⟨Nat.le_trans (ft_len _ _) hs.sm.rows, hs.sm.uq, fun x hx => hs.sm.each x (List.mem_filter.1 hx).1, hs.sm.us⟩
  have HWI : Hid (∀ V b1 k1 b2 n2 k2, Below W.heap.size W V → GT' W ⟨nm, m, uq, ftR r.id R⟩ (.agg #[.string nm, .int .i64 m, .slice b1 uq.length k1, .slice b2 n2 k2]) V → Calls Tryz.prog 64 #[.agg #[.string nm, .int .i64 m, .slice b1 uq.length k1, .slice b2 n2 k2], .agg #[.string r.id, .slice ad r.d.length cp]] V fun e w' => (∃ v, e = .returned v ∧ GT' V ⟨nm, m, uq, wiR r (ftR r.id R)⟩ v w') ∧ Below V.heap.size V w') := Lib.hid (fun V b1 k1 b2 n2 k2 k hg => by
    obtain ⟨e1, g1, e2, g2, e, hT⟩ := hg.tvs
    have h := rWith_any _ B' ⟨nm, m, uq, ftR r.id R⟩ e1 e2 g1 g2 r ad cp V hT hsm2 (Nat.le_trans (ft_len _ _) hs.n) ((hd.below HW.out).below k) hr0
    rw [e]
    exact h)
  obtain ⟨X, e, hX⟩ : ∃ X e, setT ⟨nm, m, uq, R⟩ r = (X, e) := ⟨_, _, rfl⟩
  have H1 : Hid (¬ r.id ∈ idsR R → (X, e) = (zT, 270)) := Lib.hid (fun h => hX.symm.trans (set_none' ht kr h))
  have H2 : Hid (r.id ∈ idsR R → clT ⟨nm, m, uq, R⟩ r = true → (X, e) = (zT, 271)) := Lib.hid (fun h h2 => hX.symm.trans (set_cl' ht kr h h2))
  have H4 : Hid (r.id ∈ idsR R → clT ⟨nm, m, uq, R⟩ r = false → (X, e) = (⟨nm, m, uq, wiR r (ftR r.id R)⟩, 0)) := Lib.hid (fun h h2 => hX.symm.trans (set_fit ht kr h h2))
  rw [hX]
  show Calls Tryz.prog 34 #[.agg #[.string nm, .int .i64 m, .slice a1 uq.length c1, .slice a2 R.length c2], .agg #[.string r.id, .slice ad r.d.length cp]] w (AP w X e)
  obtain ⟨cl, hcl⟩ : ∃ c, c = clT ⟨nm, m, uq, R⟩ r := ⟨_, rfl⟩
  rw [← hcl] at HCL H2 H4
  clear hX hv hs hd hr0 hzr ht kr hcl hsm2
  go_enter Tryz.func34, Tryz.ntmps34
  go_wp2_with fail
  rw [← hW]
  clear hW
  refine HRW.out.mono ?_
  rintro en w1 ⟨⟨i, rfl, hrow⟩, b1⟩
  have B1 := Lib.hid b1
  clear b1 HRW
  have P1 := Lib.hid (HQ1.out.up B1.out)
  have x0 := P1.out.c0
  have x1 := P1.out.c1
  have x2 := P1.out.c2
  have x3 := P1.out.c3
  have P3 := Lib.hid (HQ3.out.up B1.out)
  have u0 := P3.out.c0
  have u1 := P3.out.c1
  have P2 := Lib.hid (HQ2.out.up B1.out)
  have z0 := P2.out.c0
  have z1 := P2.out.c1
  have z2 := P2.out.c2
  have z3 := P2.out.c3
  have f0 := P2.out.fz 0
  have f1 := P2.out.fz 1
  have f2 := P2.out.fz 2
  have f3 := P2.out.fz 3
  rcases row_yes hrow with ⟨hin, hi0, _⟩ | ⟨hni, rfl⟩
  rotate_left
  · have HE := Lib.hid (H1.out hni)
    clear hrow hni H1 H2 H4
    go_wp2_with fail
    exact ret_tt Tryz.results34 rfl rfl (P2.out.set4 _ _ _ _) (AP.zero HE.out (w4_below (HW.out.trans (B1.out.mono HW.out.size)) (by omega) _ _ _ _))
  · have hi1 : ¬ i < 0 := by omega
    clear hrow H1
    go_wp2_with fail
    refine (HCL.out _ B1.out).mono ?_
    rintro en w2 ⟨rfl, b2⟩
    have B2 := Lib.hid (B1.out.trans (b2.mono B1.out.size))
    clear b2 HCL x0 x1 x2 x3 u0 u1 z0 z1 z2 z3 f0 f1 f2 f3 P1 P2 P3
    have P1 := Lib.hid (HQ1.out.up B2.out)
    have x0 := P1.out.c0
    have x1 := P1.out.c1
    have x2 := P1.out.c2
    have x3 := P1.out.c3
    have P3 := Lib.hid (HQ3.out.up B2.out)
    have u0 := P3.out.c0
    have u1 := P3.out.c1
    have P2 := Lib.hid (HQ2.out.up B2.out)
    have z0 := P2.out.c0
    have z1 := P2.out.c1
    have z2 := P2.out.c2
    have z3 := P2.out.c3
    have f0 := P2.out.fz 0
    have f1 := P2.out.fz 1
    have f2 := P2.out.fz 2
    have f3 := P2.out.fz 3
    cases cl with
    | true =>
      have HE := Lib.hid (H2.out hin rfl)
      clear hin H2 H4
      go_wp2_with fail
      exact ret_tt Tryz.results34 rfl rfl (P2.out.set4 _ _ _ _) (AP.zero HE.out (w4_below (HW.out.trans (B2.out.mono HW.out.size)) (by omega) _ _ _ _))
    | false =>
      have HE := Lib.hid (H4.out hin rfl)
      have B2d := Lib.hid (B2.out.drew)
      have HWOC := Lib.hid (HWO.out _ B2d.out)
      clear hin H2 H4 HWO x0 x1 x2 x3 u0 u1 z0 z1 z2 z3 f0 f1 f2 f3 P1 P2
      cases HE.out
      clear HE
      go_wp2_with fail
      have x0 := (HQ1.out.up B2.out).c0
      have x1 := (HQ1.out.up B2.out).c1
      have x2 := (HQ1.out.up B2.out).c2
      have x3 := (HQ1.out.up B2.out).c3
      have u0 := P3.out.c0
      have u1 := P3.out.c1
      go_region_law (first
        | (go_simp; go_at_call 36; refine HWOC.out.mono ?_; rintro en w3 ⟨⟨v, rfl, hg⟩, b3⟩; have B3 := Lib.hid (B2d.out.trans (b3.mono B2d.out.size)); have HG3 := Lib.hid (hg.base B2d.out.size); obtain ⟨p1, k1, p2, n2, k2, rfl⟩ := hg.vals; have HWIC := Lib.hid (HWI.out _ _ _ _ _ _ B3.out HG3.out); have P3' := Lib.hid (HQ3.out.up B3.out); have v0 := P3'.out.c0; have v1 := P3'.out.c1; clear hg b3)
        | (go_simp; go_at_call 64; refine HWIC.out.mono ?_; rintro en w4 ⟨⟨v, rfl, hg4⟩, b4⟩; have B4 := Lib.hid (B3.out.trans (b4.mono B3.out.size)); obtain ⟨q1, l1, q2, m2, l2, rfl⟩ := hg4.vals; have HG4 := Lib.hid hg4; have P2 := Lib.hid (HQ2.out.up B4.out); have z0 := P2.out.c0; have z1 := P2.out.c1; have z2 := P2.out.c2; have z3 := P2.out.c3; have f0 := P2.out.fz 0; have f1 := P2.out.fz 1; have f2 := P2.out.fz 2; have f3 := P2.out.fz 3; clear hg4 b4))
      all_goals
        go_wp2_with fail
        exact ret_tt Tryz.results34 rfl rfl (P2.out.set4 _ _ _ _) ⟨⟨_, rfl, (HG4.out.set4 P2.out _ _ _ _).base (HW.out.trans (B3.out.mono HW.out.size)).size⟩, w4_below (HW.out.trans (B4.out.mono HW.out.size)) (by omega) _ _ _ _⟩
set_option maxRecDepth 20000 in
set_option maxHeartbeats 8000000 in
theorem rDrop_any (B : Nat) (T : TM) (a1 a2 : Option Addr) (c1 c2 : Nat) (s : ByteArray) (w : World) (hv : TVs B w T a1 c1 a2 c2) (hs : Good T) : Calls Tryz.prog 14 #[tv T a1 c1 a2 c2, .string s] w (AP w (dropT T s).1 (dropT T s).2) := by
  obtain ⟨nm, m, uq, R⟩ := T
  show Calls Tryz.prog 14 #[.agg #[.string nm, .int .i64 m, .slice a1 uq.length c1, .slice a2 R.length c2], .string s] w (AP w (dropT ⟨nm, m, uq, R⟩ s).1 (dropT ⟨nm, m, uq, R⟩ s).2)
  have hRn : R.length ≤ 900 := hs.n
  obtain ⟨W, hW⟩ : ∃ W, W = (w.alloc (.cells #[.string nm, .int .i64 m, .slice a1 uq.length c1, .slice a2 R.length c2] 25)).alloc (.cells #[.string ⟨#[]⟩, .int .i64 0, .slice none 0 0, .slice none 0 0] 25) := ⟨_, rfl⟩
  have HW : Hid (Below w.heap.size w W) := Lib.hid (by rw [hW]; exact ((Below.refl _ _).alloc (Nat.le_refl _) _).alloc (by simp) _)
  have HQ1 : Hid (Bx4 W w.heap.size 25 (.string nm) (.int .i64 m) (.slice a1 uq.length c1) (.slice a2 R.length c2)) := Lib.hid (by rw [hW]; exact (bx4_new w _ _ _ _ _).up ((Below.refl _ _).alloc (Nat.le_refl _) _))
  have HQ2 : Hid (Bx4 W (w.heap.size + 1) 25 (.string ⟨#[]⟩) (.int .i64 0) (.slice none 0 0) (.slice none 0 0)) := Lib.hid (by
    rw [hW]
    have h := bx4_new (w.alloc (.cells #[.string nm, .int .i64 m, .slice a1 uq.length c1, .slice a2 R.length c2] 25)) 25 (.string ⟨#[]⟩) (.int .i64 0) (.slice none 0 0) (.slice none 0 0)
    simpa using h)
  have HSZ : Hid (w.heap.size + 2 = W.heap.size) := Lib.hid (by rw [hW]; simp)
  have hsz := HSZ.out
  have r1 : (R.length : Int) ≤ 900 := by omega
  have HMY : Hid (Calls Tryz.prog 26 #[.agg #[.string nm, .int .i64 m, .slice a1 uq.length c1, .slice a2 R.length c2]] W fun e w' => e = .returned (.bool (tabOk ⟨nm, m, uq, R⟩)) ∧ Below W.heap.size W w') := Lib.hid (rMay_any B ⟨nm, m, uq, R⟩ a1 a2 c1 c2 W (hv.below HW.out) hs.sm hs.nz)
  have HRW : Hid (∀ V, Below W.heap.size W V → Calls Tryz.prog 27 #[.agg #[.string nm, .int .i64 m, .slice a1 uq.length c1, .slice a2 R.length c2], .string s] V fun e w' => (∃ i, e = .returned (.int .i64 i) ∧ RowP R s i) ∧ Below V.heap.size V w') := Lib.hid (fun V k => rRow_any B ⟨nm, m, uq, R⟩ a1 a2 c1 c2 s V ((hv.below HW.out).below k) hs.sm)
  have HWO : Hid (∀ V, Below W.heap.size W V → Calls Tryz.prog 36 #[.agg #[.string nm, .int .i64 m, .slice a1 uq.length c1, .slice a2 R.length c2], .string s] V fun e w' => (∃ v, e = .returned v ∧ GT' V ⟨nm, m, uq, ftR s R⟩ v w') ∧ Below V.heap.size V w') := Lib.hid (fun V k => rWithout_any B ⟨nm, m, uq, R⟩ a1 a2 c1 c2 s V ((hv.below HW.out).below k) hs.sm)
  obtain ⟨X, e, hX⟩ : ∃ X e, dropT ⟨nm, m, uq, R⟩ s = (X, e) := ⟨_, _, rfl⟩
  obtain ⟨tk, htk⟩ : ∃ t, t = tabOk ⟨nm, m, uq, R⟩ := ⟨_, rfl⟩
  have H0 : Hid (tk = false → (X, e) = (zT, 8)) := Lib.hid (fun h => hX.symm.trans (drop_bad' (htk.symm.trans h)))
  have H1 : Hid (tk = true → ¬ s ∈ idsR R → (X, e) = (zT, 270)) := Lib.hid (fun h h1 => hX.symm.trans (drop_none' (htk.symm.trans h) h1))
  have H4 : Hid (tk = true → s ∈ idsR R → (X, e) = (⟨nm, m, uq, ftR s R⟩, 0)) := Lib.hid (fun h h1 => hX.symm.trans (drop_fit (htk.symm.trans h) h1))
  rw [hX]
  show Calls Tryz.prog 14 #[.agg #[.string nm, .int .i64 m, .slice a1 uq.length c1, .slice a2 R.length c2], .string s] w (AP w X e)
  rw [← htk] at HMY
  clear hX hv hs htk
  go_enter Tryz.func14, Tryz.ntmps14
  go_wp2_with fail
  rw [← hW]
  clear hW
  refine HMY.out.mono ?_
  rintro en w1 ⟨rfl, b1⟩
  have B1 := Lib.hid b1
  clear b1 HMY
  have P1 := Lib.hid (HQ1.out.up B1.out)
  have x0 := P1.out.c0
  have x1 := P1.out.c1
  have x2 := P1.out.c2
  have x3 := P1.out.c3
  have P2 := Lib.hid (HQ2.out.up B1.out)
  have z0 := P2.out.c0
  have z1 := P2.out.c1
  have z2 := P2.out.c2
  have z3 := P2.out.c3
  have f0 := P2.out.fz 0
  have f1 := P2.out.fz 1
  have f2 := P2.out.fz 2
  have f3 := P2.out.fz 3
  cases tk with
  | false =>
    have HE := Lib.hid (H0.out rfl)
    clear H0 H1 H4
    go_wp2_with fail
    exact ret_tt Tryz.results14 rfl rfl (P2.out.set4 _ _ _ _) (AP.zero HE.out (w4_below (HW.out.trans (B1.out.mono HW.out.size)) (by omega) _ _ _ _))
  | true =>
    go_wp2_with fail
    refine (HRW.out _ B1.out).mono ?_
    rintro en w2 ⟨⟨i, rfl, hrow⟩, b2⟩
    have B2 := Lib.hid (B1.out.trans (b2.mono B1.out.size))
    clear b2 HRW x0 x1 x2 x3 z0 z1 z2 z3 f0 f1 f2 f3 P1 P2
    have P1 := Lib.hid (HQ1.out.up B2.out)
    have x0 := P1.out.c0
    have x1 := P1.out.c1
    have x2 := P1.out.c2
    have x3 := P1.out.c3
    have P2 := Lib.hid (HQ2.out.up B2.out)
    have z0 := P2.out.c0
    have z1 := P2.out.c1
    have z2 := P2.out.c2
    have z3 := P2.out.c3
    have f0 := P2.out.fz 0
    have f1 := P2.out.fz 1
    have f2 := P2.out.fz 2
    have f3 := P2.out.fz 3
    rcases row_yes hrow with ⟨hin, hi0, _⟩ | ⟨hni, rfl⟩
    rotate_left
    · have HE := Lib.hid (H1.out (by first | rfl | trivial) hni)
      clear hrow hni H0 H1 H4
      go_wp2_with fail
      exact ret_tt Tryz.results14 rfl rfl (P2.out.set4 _ _ _ _) (AP.zero HE.out (w4_below (HW.out.trans (B2.out.mono HW.out.size)) (by omega) _ _ _ _))
    · have HE := Lib.hid (H4.out (by first | rfl | trivial) hin)
      have hi1 : ¬ i < 0 := by omega
      clear hrow hin H0 H1 H4
      go_wp2_with fail
      refine (HWO.out _ B2.out).mono ?_
      rintro en w3 ⟨⟨v, rfl, hg⟩, b3⟩
      have B3 := Lib.hid (B2.out.trans (b3.mono B2.out.size))
      clear b3 HWO x0 x1 x2 x3 z0 z1 z2 z3 f0 f1 f2 f3 P1 P2
      cases HE.out
      obtain ⟨p1, k1, p2, n2, k2, rfl⟩ := hg.vals
      have HG := Lib.hid hg
      clear hg
      have P2 := Lib.hid (HQ2.out.up B3.out)
      have z0 := P2.out.c0
      have z1 := P2.out.c1
      have z2 := P2.out.c2
      have z3 := P2.out.c3
      have f0 := P2.out.fz 0
      have f1 := P2.out.fz 1
      have f2 := P2.out.fz 2
      have f3 := P2.out.fz 3
      go_wp2_with fail
      exact ret_tt Tryz.results14 rfl rfl (P2.out.set4 _ _ _ _) ⟨⟨_, rfl, (HG.out.set4 P2.out _ _ _ _).base (HW.out.trans (B2.out.mono HW.out.size)).size⟩, w4_below (HW.out.trans (B3.out.mono HW.out.size)) (by omega) _ _ _ _⟩
set_option maxRecDepth 20000 in
theorem rCheckT_any (B : Nat) (T : TM) (a1 a2 : Option Addr) (c1 c2 : Nat) (w : World) (hv : TVs B w T a1 c1 a2 c2) (hs : Good T) : Calls Tryz.prog 18 #[tv T a1 c1 a2 c2] w fun e w' => e = .returned (.int .i64 (eC (tabOk T))) ∧ Below w.heap.size w w' := by
  obtain ⟨nm, m, uq, R⟩ := T
  show Calls Tryz.prog 18 #[.agg #[.string nm, .int .i64 m, .slice a1 uq.length c1, .slice a2 R.length c2]] w fun e w' => e = .returned (.int .i64 (eC (tabOk ⟨nm, m, uq, R⟩))) ∧ Below w.heap.size w w'
  obtain ⟨W, hW⟩ : ∃ W, W = w.alloc (.cells #[.string nm, .int .i64 m, .slice a1 uq.length c1, .slice a2 R.length c2] 25) := ⟨_, rfl⟩
  have HW : Hid (Below w.heap.size w W) := Lib.hid (by rw [hW]; exact (Below.refl _ _).alloc (Nat.le_refl _) _)
  have HMY : Hid (Calls Tryz.prog 26 #[.agg #[.string nm, .int .i64 m, .slice a1 uq.length c1, .slice a2 R.length c2]] W fun e w' => e = .returned (.bool (tabOk ⟨nm, m, uq, R⟩)) ∧ Below W.heap.size W w') := Lib.hid (rMay_any B ⟨nm, m, uq, R⟩ a1 a2 c1 c2 W (hv.below HW.out) hs.sm hs.nz)
  obtain ⟨tk, htk⟩ : ∃ t, t = tabOk ⟨nm, m, uq, R⟩ := ⟨_, rfl⟩
  rw [← htk] at HMY ⊢
  clear hv hs htk
  go_enter Tryz.func18, Tryz.ntmps18
  go_wp2_with fail
  rw [← hW]
  clear hW
  refine HMY.out.mono ?_
  rintro en w1 ⟨rfl, b1⟩
  have B1 := Lib.hid (HW.out.trans (b1.mono HW.out.size))
  clear b1 HMY
  cases tk <;> (go_wp2_with fail; go_ret; exact ⟨rfl, B1.out⟩)
end Go.Proofs.YtfigebepeniikaaGreat

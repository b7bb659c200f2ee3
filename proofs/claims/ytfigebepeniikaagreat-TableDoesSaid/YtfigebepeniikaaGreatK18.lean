import Derived.Test.YtfigebepeniikaaGreatK17
import Derived.Test.YtfigebepeniikaaGreatK12
/- Layer 27: the document's With. -/
namespace Go.Proofs.YtfigebepeniikaaGreat
open Go.RowKit Go.Maps Go.Shelf
def WI (r : RC) (R : List RC) (i : Nat) (d : Bool) (X : List RC) : Prop := (d = false ∧ X = R.take i ∧ wiR r R = R.take i ++ wiR r (R.drop i)) ∨ (d = true ∧ X ++ R.drop i = wiR r R)
theorem drop_rl {R : List RC} {i : Nat} (h : i < R.length) : R.drop i = rl R i :: R.drop (i + 1) := by rw [rl_get h, List.drop_eq_getElem_cons h]
theorem WI.zero (r : RC) (R : List RC) : WI r R 0 false [] := .inl ⟨rfl, rfl, rfl⟩
theorem WI.old {r : RC} {R : List RC} {i : Nat} {X : List RC} (h : WI r R i true X) (hi : i < R.length) : WI r R (i + 1) true (X ++ [rl R i]) := by
  rcases h with ⟨h, _⟩ | ⟨_, h⟩
  · cases h
  · refine .inr ⟨rfl, ?_⟩
    rw [← h, drop_rl hi, List.append_assoc]; rfl
theorem WI.put {r : RC} {R : List RC} {i : Nat} {X : List RC} (h : WI r R i false X) (hi : i < R.length) (hc : Ord.cmpB r.id (rl R i).id < 0) : WI r R (i + 1) true (X ++ [r] ++ [rl R i]) := by
  rcases h with ⟨_, h1, h2⟩ | ⟨h, _⟩
  · refine .inr ⟨rfl, ?_⟩
    rw [h1, h2]
    conv => rhs; rw [drop_rl hi]
    unfold wiR
    rw [if_pos hc]
    simp
  · cases h
theorem WI.skip {r : RC} {R : List RC} {i : Nat} {X : List RC} (h : WI r R i false X) (hi : i < R.length) (hc : ¬ Ord.cmpB r.id (rl R i).id < 0) : WI r R (i + 1) false (X ++ [rl R i]) := by
  rcases h with ⟨_, h1, h2⟩ | ⟨h, _⟩
  · refine .inl ⟨rfl, ?_, ?_⟩
    · rw [h1, take_rl hi]
    · rw [h2]
      conv => lhs; rw [drop_rl hi]
      conv => lhs; rhs; unfold wiR
      rw [if_neg hc, take_rl hi]
      simp
  · cases h
theorem WI.fin {r : RC} {R X : List RC} (h : WI r R R.length true X) : X = wiR r R := by
  rcases h with ⟨h, _⟩ | ⟨_, h⟩
  · cases h
  · rw [← h]; simp
theorem WI.last {r : RC} {R X : List RC} (h : WI r R R.length false X) : X ++ [r] = wiR r R := by
  rcases h with ⟨_, h1, h2⟩ | ⟨h, _⟩
  · rw [h2, h1]; simp [wiR]
  · cases h
theorem WI.len {r : RC} {R X : List RC} {i : Nat} {d : Bool} (h : WI r R i d X) (hi : i ≤ R.length) : X.length ≤ R.length + 1 := by
  rcases h with ⟨_, h1, _⟩ | ⟨_, h⟩
  · rw [h1, List.length_take]; omega
  · have hw : (wiR r R).length = R.length + 1 := by
      clear h
      induction R generalizing i with
      | nil => rfl
      | cons x L ih => unfold wiR; split <;> simp [ih (Nat.zero_le _)]
    have := congrArg List.length h
    rw [List.length_append, hw] at this
    omega
set_option maxRecDepth 20000 in
set_option maxHeartbeats 40000000 in
theorem rWith_any (B B' : Nat) (T : TM) (a1 a2 : Option Addr) (c1 c2 : Nat) (r : RC) (ad : Option Addr) (cp : Nat) (w : World) (hv : TVs B w T a1 c1 a2 c2) (hs : SmT T) (hn : T.rows.length ≤ 900) (hd : DV B' w ad cp r.d) (hr0 : SmR r) : Calls Tryz.prog 64 #[tv T a1 c1 a2 c2, rv r ad cp] w fun e w' => (∃ v, e = .returned v ∧ GT' w { T with rows := wiR r T.rows } v w') ∧ Below w.heap.size w w' := by
  obtain ⟨nm, m, uq, R⟩ := T
  show Calls Tryz.prog 64 #[.agg #[.string nm, .int .i64 m, .slice a1 uq.length c1, .slice a2 R.length c2], .agg #[.string r.id, .slice ad r.d.length cp]] w fun e w' => (∃ v, e = .returned v ∧ GT' w ⟨nm, m, uq, wiR r R⟩ v w') ∧ Below w.heap.size w w'
  have hr : RV B w a2 R := hv.r
  have hRn : R.length ≤ 900 := hn
  obtain ⟨W, hW⟩ : ∃ W, W = ((w.alloc (.cells #[.string nm, .int .i64 m, .slice a1 uq.length c1, .slice a2 R.length c2] 25)).alloc (.cells #[.string r.id, .slice ad r.d.length cp] 28)).alloc (.cells #[.string ⟨#[]⟩, .int .i64 0, .slice none 0 0, .slice none 0 0] 25) := ⟨_, rfl⟩
  have HW : Hid (Below w.heap.size w W) := Lib.hid (by rw [hW]; exact (((Below.refl _ _).alloc (Nat.le_refl _) _).alloc (by simp) _).alloc (by simp; omega) _)
  have HQ1 : Hid (Bx4 W w.heap.size 25 (.string nm) (.int .i64 m) (.slice a1 uq.length c1) (.slice a2 R.length c2)) := Lib.hid (by rw [hW]; exact ((bx4_new w _ _ _ _ _).up ((Below.refl _ _).alloc (Nat.le_refl _) _)).up ((Below.refl _ _).alloc (Nat.le_refl _) _))
  have HQ3 : Hid (Bx2 W (w.heap.size + 1) (.string r.id) (.slice ad r.d.length cp)) := Lib.hid (by
    rw [hW]
    have h := (bx2_new (w.alloc (.cells #[.string nm, .int .i64 m, .slice a1 uq.length c1, .slice a2 R.length c2] 25)) (.string r.id) (.slice ad r.d.length cp)).up ((Below.refl _ _).alloc (Nat.le_refl _) (.cells #[.string ⟨#[]⟩, .int .i64 0, .slice none 0 0, .slice none 0 0] 25))
    simpa using h)
  have HQ2 : Hid (Bx4 W (w.heap.size + 1 + 1) 25 (.string ⟨#[]⟩) (.int .i64 0) (.slice none 0 0) (.slice none 0 0)) := Lib.hid (by
    rw [hW]
    have h := bx4_new ((w.alloc (.cells #[.string nm, .int .i64 m, .slice a1 uq.length c1, .slice a2 R.length c2] 25)).alloc (.cells #[.string r.id, .slice ad r.d.length cp] 28)) 25 (.string ⟨#[]⟩) (.int .i64 0) (.slice none 0 0) (.slice none 0 0)
    simpa using h)
  have HSZ : Hid (w.heap.size + 3 = W.heap.size) := Lib.hid (by rw [hW]; simp)
  have HTN : Hid (Calls Tryz.prog 6 #[.agg #[.string nm, .int .i64 m, .slice a1 uq.length c1, .slice a2 R.length c2]] W fun e w' => (∃ v, e = .returned v ∧ GT' W ⟨nm, m, uq, R⟩ v w') ∧ Below W.heap.size W w') := Lib.hid (rTwinT_any B ⟨nm, m, uq, R⟩ a1 a2 c1 c2 W (hv.below HW.out) hs)
  have HRV := Lib.hid (fun V (k : Below w.heap.size w V) => hr.below k)
  have HTW := Lib.hid (fun i (hi : i < R.length) ad cp V (hd : DV B V ad cp (rl R i).d) => rtw_any B (rl R i) ad cp V hd (by have h : (rl R i).d.length ≤ 100000 := (hs.each (rl R i) (rl_mem hi)).2.1; omega))
  have HTR := Lib.hid (fun V (k : Below W.heap.size W V) => rtw_any B' r ad cp V ((hd.below HW.out).below k) (by have := hr0.2.1; omega))
  have HLS := Lib.hid (fun i (hi : i < R.length) V => less_b r.id (rl R i).id V hr0.2.2 (hs.each _ (rl_mem hi)).2.2)
  unfold rv at HTW HTR
  have r1 : (R.length : Int) ≤ 900 := by omega
  have hsz := HSZ.out
  have x0 := HQ1.out.c0
  have x1 := HQ1.out.c1
  have x2 := HQ1.out.c2
  have x3 := HQ1.out.c3
  clear hv hs hr hd hr0 hn
  go_enter Tryz.func64, Tryz.ntmps64
  go_wp2_with fail
  rw [← hW]
  clear hW
  refine HTN.out.mono ?_
  rintro e w1 ⟨⟨v, rfl, hg⟩, b1⟩
  obtain ⟨ua, uc, va, n, vc, rfl, hgs⟩ := gs_box2 hg b1
  have HG := Lib.hid hgs
  clear hg hgs b1 HTN x0 x1 x2 x3
  go_wp2_with fail
  obtain ⟨q, hq⟩ : ∃ q, q = w1.heap.size := ⟨_, rfl⟩
  generalize w1.alloc (.cells #[.string nm, .int .i64 m, .slice ua uq.length uc, .slice none 0 0] 25) = w2 at HG ⊢
  rw [← hq] at HG ⊢
  clear hq
  go_loopw [6, 7] (fun v6 v7 wr => ∃ (i : Nat) (d : Bool), i ≤ R.length ∧ v7 = .int .i64 i ∧ v6 = .bool d ∧ Hid (∃ v P, GS W wr q nm m (.slice ua uq.length uc) v uq P ∧ WI r R i d (P.map Prod.fst))) (fun _ v7 _ => R.length - (intOf v7).toNat)
  case atStart => exact ⟨0, false, Nat.zero_le _, rfl, rfl, Lib.hid ⟨_, [], HG.out, WI.zero r R⟩⟩
  case round =>
    obtain ⟨i, d, hi, rfl, rfl, HI⟩ := hrel
    obtain ⟨v, P, hg, hp⟩ := HI.out
    obtain ⟨va, vc, hv'⟩ := own_slice hg.r.row
    subst hv'
    have G := Lib.hid hg
    have HP := Lib.hid hp
    have HPL : Hid (P.length ≤ 901) := Lib.hid (by have h := hp.len hi; rw [List.length_map] at h; omega)
    have HPL1 : Hid (P.length ≤ 1000) := Lib.hid (by have := HPL.out; omega)
    clear hg hp HI
    have Q1r := Lib.hid (HQ1.out.up G.out.bl)
    have Q3r := Lib.hid (HQ3.out.up G.out.bl)
    have x3 := Q1r.out.c3
    have y3 := G.out.bx.c3
    have GD := Lib.hid (G.out.up (Below.refl wr.heap.size wr).drew)
    by_cases hlt : i < R.length
    · have hlt' : (i : Int) < R.length := by omega
      have hge : (0 : Int) ≤ i := by omega
      have HRr := Lib.hid (HRV.out wr (HW.out.trans (G.out.bl.mono HW.out.size)))
      obtain ⟨rb, ro, rfl⟩ := HRr.out.addr (by omega)
      obtain ⟨ai, ci, _, _, d0, d1, dv⟩ := HRr.out.at_ hlt
      have HTC := Lib.hid (fun V (k : Below wr.heap.size wr V) => HTW.out i hlt ai ci V (dv.below k))
      have HLC := Lib.hid (HLS.out i hlt)
      obtain ⟨r0, hr0⟩ : ∃ r, r = rl R i := ⟨_, rfl⟩
      have HR0 := Lib.hid hr0
      rw [← hr0] at d0 d1 HTC HLC
      have HLI : Hid (∀ V, Below wr.heap.size wr V → V.cell? ⟨rb, ro + i * 2, none⟩ = some (.string r0.id) ∧ V.cell? ⟨rb, ro + i * 2 + 1, none⟩ = some (.slice ai r0.d.length ci)) := Lib.hid (fun V k => ⟨(k.cell (p := ⟨rb, _, none⟩) (World.block_lt_of_cell? _ _ d0)).trans d0, (k.cell (p := ⟨rb, _, none⟩) (World.block_lt_of_cell? _ _ d1)).trans d1⟩)
      clear hr0 dv HRr
      cases d with
      | true =>
        have HN := Lib.hid (HP.out.old hlt)
        rw [← HR0.out] at HN
        have HTC0 := Lib.hid (HTC.out wr.drew.drew ((Below.refl _ _).drew.drew))
        have HS : Hid (∀ w', Below wr.heap.size wr w' → (fun w' => Below wr.heap.size wr w') w') := Lib.hid (fun w' k => k)
        clear HLC HLS HTR
        go_wp2_with fail
        refine wp_region_held_drew (S := (fun w' => Below wr.heap.size wr w')) (by kernel_rfl) (HS.out _ ((Below.refl _ _).drew)) (fun hHeld => ?_)
        refine wpAnyH_take (i := 0) (oi := { dst := some 18, op := Op.move (Operand.tmp 6), type := 4, pos := "ref.go:125", after := #[], guard := none }) (v := ?_) rfl (by kernel_rfl) (by kernel_rfl) (by kernel_rfl) (fun _ _ _ h => h) (Or.inl ⟨by rfl, ?_⟩) hHeld ?_
        rotate_left
        · (intro w hSw; (try dsimp only at hSw); go_simp <;> with_reducible rfl)
        try simp only [Act.put, List.setIfInBounds_toArray, List.set_cons_zero, List.set_cons_succ]
        refine wpAnyH_take (i := 1) (oi := { dst := some 19, op := Op.unOp UnOp.not 4 (Operand.tmp 18), type := 4, pos := "ref.go:125", after := #[{ on := 0, ground := Ground.data }], guard := none }) (v := ?_) rfl (by kernel_rfl) (by kernel_rfl) (by kernel_rfl) (fun _ _ _ h => h) (Or.inl ⟨by rfl, ?_⟩) hHeld ?_
        rotate_left
        · (intro w hSw; (try dsimp only at hSw); go_simp <;> with_reducible rfl)
        try simp only [Act.put, List.setIfInBounds_toArray, List.set_cons_zero, List.set_cons_succ]
        refine wpAnyH_take (i := 2) (oi := { dst := some 20, op := Op.move (Operand.tmp 19), type := 4, pos := "ref.go:125", after := #[{ on := 1, ground := Ground.data }], guard := none }) (v := ?_) rfl (by kernel_rfl) (by kernel_rfl) (by kernel_rfl) (fun _ _ _ h => h) (Or.inl ⟨by rfl, ?_⟩) hHeld ?_
        rotate_left
        · (intro w hSw; (try dsimp only at hSw); go_simp <;> with_reducible rfl)
        try simp only [Act.put, List.setIfInBounds_toArray, List.set_cons_zero, List.set_cons_succ]
        refine wpAnyH_take (i := 3) (oi := { dst := some 21, op := Op.fieldAddr 28 (Operand.tmp 3) 0, type := 0, pos := "ref.go:125", after := #[{ on := 2, ground := Ground.guard }], guard := some (2, true) }) (v := undef) rfl (by kernel_rfl) (by kernel_rfl) (by kernel_rfl) (fun _ _ _ h => h) (Or.inr ⟨by rfl, rfl⟩) hHeld ?_
        try simp only [Act.put, List.setIfInBounds_toArray, List.set_cons_zero, List.set_cons_succ]
        refine wpAnyH_take (i := 4) (oi := { dst := some 22, op := Op.load 9 (Operand.tmp 21), type := 9, pos := "ref.go:125", after := #[{ on := 3, ground := Ground.data }, { on := 2, ground := Ground.guard }], guard := some (2, true) }) (v := undef) rfl (by kernel_rfl) (by kernel_rfl) (by kernel_rfl) (fun _ _ _ h => h) (Or.inr ⟨by rfl, rfl⟩) hHeld ?_
        try simp only [Act.put, List.setIfInBounds_toArray, List.set_cons_zero, List.set_cons_succ]
        refine wpAnyH_take (i := 5) (oi := { dst := some 23, op := Op.fieldAddr 25 (Operand.tmp 2) 3, type := 0, pos := "ref.go:125", after := #[{ on := 2, ground := Ground.guard }], guard := some (2, true) }) (v := undef) rfl (by kernel_rfl) (by kernel_rfl) (by kernel_rfl) (fun _ _ _ h => h) (Or.inr ⟨by rfl, rfl⟩) hHeld ?_
        try simp only [Act.put, List.setIfInBounds_toArray, List.set_cons_zero, List.set_cons_succ]
        refine wpAnyH_take (i := 6) (oi := { dst := some 24, op := Op.load 23 (Operand.tmp 23), type := 23, pos := "ref.go:125", after := #[{ on := 5, ground := Ground.data }, { on := 2, ground := Ground.guard }], guard := some (2, true) }) (v := undef) rfl (by kernel_rfl) (by kernel_rfl) (by kernel_rfl) (fun _ _ _ h => h) (Or.inr ⟨by rfl, rfl⟩) hHeld ?_
        try simp only [Act.put, List.setIfInBounds_toArray, List.set_cons_zero, List.set_cons_succ]
        refine wpAnyH_take (i := 7) (oi := { dst := some 25, op := Op.move (Operand.tmp 7), type := 3, pos := "ref.go:125", after := #[{ on := 2, ground := Ground.guard }], guard := some (2, true) }) (v := undef) rfl (by kernel_rfl) (by kernel_rfl) (by kernel_rfl) (fun _ _ _ h => h) (Or.inr ⟨by rfl, rfl⟩) hHeld ?_
        try simp only [Act.put, List.setIfInBounds_toArray, List.set_cons_zero, List.set_cons_succ]
        refine wpAnyH_take (i := 8) (oi := { dst := some 26, op := Op.indexAddr 23 (Operand.tmp 24) (Operand.tmp 25), type := 0, pos := "ref.go:125", after := #[{ on := 6, ground := Ground.data }, { on := 7, ground := Ground.data }, { on := 2, ground := Ground.guard }], guard := some (2, true) }) (v := undef) rfl (by kernel_rfl) (by kernel_rfl) (by kernel_rfl) (fun _ _ _ h => h) (Or.inr ⟨by rfl, rfl⟩) hHeld ?_
        try simp only [Act.put, List.setIfInBounds_toArray, List.set_cons_zero, List.set_cons_succ]
        refine wpAnyH_take (i := 9) (oi := { dst := some 27, op := Op.fieldAddr 28 (Operand.tmp 26) 0, type := 0, pos := "ref.go:125", after := #[{ on := 8, ground := Ground.data }, { on := 2, ground := Ground.guard }], guard := some (2, true) }) (v := undef) rfl (by kernel_rfl) (by kernel_rfl) (by kernel_rfl) (fun _ _ _ h => h) (Or.inr ⟨by rfl, rfl⟩) hHeld ?_
        try simp only [Act.put, List.setIfInBounds_toArray, List.set_cons_zero, List.set_cons_succ]
        refine wpAnyH_take (i := 10) (oi := { dst := some 28, op := Op.load 9 (Operand.tmp 27), type := 9, pos := "ref.go:125", after := #[{ on := 9, ground := Ground.data }, { on := 2, ground := Ground.guard }], guard := some (2, true) }) (v := undef) rfl (by kernel_rfl) (by kernel_rfl) (by kernel_rfl) (fun _ _ _ h => h) (Or.inr ⟨by rfl, rfl⟩) hHeld ?_
        try simp only [Act.put, List.setIfInBounds_toArray, List.set_cons_zero, List.set_cons_succ]
        refine wpAnyH_take (i := 11) (oi := { dst := some 29, op := Op.call { callee := Callee.value (Operand.func 49), args := #[Operand.tmp 22, Operand.tmp 28], argTypes := #[9, 9] }, type := 4, pos := "ref.go:125", after := #[{ on := 4, ground := Ground.data }, { on := 10, ground := Ground.data }, { on := 2, ground := Ground.chain }, { on := 2, ground := Ground.guard }], guard := some (2, true) }) (v := undef) rfl (by kernel_rfl) (by kernel_rfl) (by kernel_rfl) (fun _ _ _ h => h) (Or.inr ⟨by rfl, rfl⟩) hHeld ?_
        try simp only [Act.put, List.setIfInBounds_toArray, List.set_cons_zero, List.set_cons_succ]
        refine wpAnyH_take (i := 12) (oi := { dst := some 30, op := Op.pick (Operand.tmp 20) (Operand.tmp 29) (Operand.const (Value.bool false)), type := 4, pos := "ref.go:125", after := #[{ on := 2, ground := Ground.data }, { on := 11, ground := Ground.data }], guard := none }) (v := ?_) rfl (by kernel_rfl) (by kernel_rfl) (by kernel_rfl) (fun _ _ _ h => h) (Or.inl ⟨by rfl, ?_⟩) hHeld ?_
        rotate_left
        · (intro w hSw; (try dsimp only at hSw); go_simp <;> with_reducible rfl)
        try simp only [Act.put, List.setIfInBounds_toArray, List.set_cons_zero, List.set_cons_succ]
        refine wpAnyH_done (by kernel_rfl) ?_ _
        have HF := Lib.hid hHeld
        clear hHeld HS
        have GX := Lib.hid (G.out.up HF.out)
        have GXD := Lib.hid (GX.out.up (Below.refl _ _).drew)
        have x3' := (Q1r.out.up HF.out).c3
        have y3' := GX.out.bx.c3
        have d0' := (HLI.out _ HF.out).1
        have d1' := (HLI.out _ HF.out).2
        have HTCX := Lib.hid (HTC.out _ HF.out.drew)
        go_wp2_with fail
        go_region_law (first
          | (refine step_rec rfl (.tmp 39) (.tmp 46) rfl (r0, ae, ce) w5.heap.size G5.out D5.out (by simp [Act.eval, Act.put]) (by simp [Act.eval, Act.put]) (heap_alloc_new _ _) HPL1.out ?_; intro v' w6 bx6 gs6; obtain ⟨ra, rc, hv'⟩ := own_slice gs6.r.row; subst hv'; rw [show (P ++ [(r0, ae, ce)]).length = P.length + 1 by simp] at gs6; have G6 := Lib.hid gs6; have z3 := bx6.c3; have f3 := bx6.fz 3; clear bx6 gs6)
          | (go_simp; go_at_call 23; refine HTCX.out.mono ?_; rintro e w5 ⟨ae, ce, rfl, d5, b5⟩; have G5' := Lib.hid (GXD.out.up b5); have y5 := G5'.out.bx.c3; have G5 := Lib.hid (G5'.out.up ((Below.refl w5.heap.size w5).alloc (Nat.le_refl _) (.cells #[.string r0.id, .slice ae r0.d.length ce] 28))); have y6 := G5.out.bx.c3; have D5 : Hid (DOw W.heap.size (w5.alloc (.cells #[.string r0.id, .slice ae r0.d.length ce] 28)) (r0, ae, ce)) := Lib.hid (own_up (ownsRow_mono d5 GXD.out.bl.size) ((Below.refl _ _).alloc (Nat.le_refl _) _)); clear d5 b5))
        all_goals
          clear HTCX
          go_wp2_with fail
          go_roundw
          case rel => exact ⟨i + 1, _, by omega, by go_num, rfl, Lib.hid ⟨_, _, G6.out, by rw [List.map_append]; exact HN.out⟩⟩
          case measure => simp [intOf]; omega
      | false =>
        obtain ⟨ls, hls⟩ : ∃ l, l = decide (Ord.cmpB r.id r0.id < 0) := ⟨_, rfl⟩
        rw [← hls] at HLC
        have HS : Hid (∀ w', Below wr.heap.size wr w' → (fun w' => Below wr.heap.size wr w' ∧ w'.cell? ⟨w.heap.size, 3, none⟩ = some (.slice (some ⟨rb, ro, none⟩) R.length c2) ∧ w'.cell? ⟨w.heap.size + 1, 0, none⟩ = some (.string r.id) ∧ w'.cell? ⟨rb, ro + i * 2, none⟩ = some (.string r0.id)) w') := Lib.hid (fun w' k => ⟨k, (Q1r.out.up k).c3, (Q3r.out.up k).c0, (HLI.out w' k).1⟩)
        cases ls with
        | true =>
          have HN := Lib.hid (HP.out.put hlt (by rw [← HR0.out]; exact of_decide_eq_true hls.symm))
          rw [← HR0.out] at HN
          clear hls
          go_wp2_with fail
          refine wp_region_held_drew (S := (fun w' => Below wr.heap.size wr w' ∧ w'.cell? ⟨w.heap.size, 3, none⟩ = some (.slice (some ⟨rb, ro, none⟩) R.length c2) ∧ w'.cell? ⟨w.heap.size + 1, 0, none⟩ = some (.string r.id) ∧ w'.cell? ⟨rb, ro + i * 2, none⟩ = some (.string r0.id))) (by kernel_rfl) (HS.out _ ((Below.refl _ _).drew)) (fun hHeld => ?_)
          refine wpAnyH_take (i := 0) (oi := { dst := some 18, op := Op.move (Operand.tmp 6), type := 4, pos := "ref.go:125", after := #[], guard := none }) (v := ?_) rfl (by kernel_rfl) (by kernel_rfl) (by kernel_rfl) (fun _ _ _ h => h) (Or.inl ⟨by rfl, ?_⟩) hHeld ?_
          rotate_left
          · (intro w hSw; (try dsimp only at hSw); go_simp <;> with_reducible rfl)
          try simp only [Act.put, List.setIfInBounds_toArray, List.set_cons_zero, List.set_cons_succ]
          refine wpAnyH_take (i := 1) (oi := { dst := some 19, op := Op.unOp UnOp.not 4 (Operand.tmp 18), type := 4, pos := "ref.go:125", after := #[{ on := 0, ground := Ground.data }], guard := none }) (v := ?_) rfl (by kernel_rfl) (by kernel_rfl) (by kernel_rfl) (fun _ _ _ h => h) (Or.inl ⟨by rfl, ?_⟩) hHeld ?_
          rotate_left
          · (intro w hSw; (try dsimp only at hSw); go_simp <;> with_reducible rfl)
          try simp only [Act.put, List.setIfInBounds_toArray, List.set_cons_zero, List.set_cons_succ]
          refine wpAnyH_take (i := 2) (oi := { dst := some 20, op := Op.move (Operand.tmp 19), type := 4, pos := "ref.go:125", after := #[{ on := 1, ground := Ground.data }], guard := none }) (v := ?_) rfl (by kernel_rfl) (by kernel_rfl) (by kernel_rfl) (fun _ _ _ h => h) (Or.inl ⟨by rfl, ?_⟩) hHeld ?_
          rotate_left
          · (intro w hSw; (try dsimp only at hSw); go_simp <;> with_reducible rfl)
          try simp only [Act.put, List.setIfInBounds_toArray, List.set_cons_zero, List.set_cons_succ]
          refine wpAnyH_take (i := 3) (oi := { dst := some 21, op := Op.fieldAddr 28 (Operand.tmp 3) 0, type := 0, pos := "ref.go:125", after := #[{ on := 2, ground := Ground.guard }], guard := some (2, true) }) (v := ?_) rfl (by kernel_rfl) (by kernel_rfl) (by kernel_rfl) (fun _ _ _ h => h) (Or.inl ⟨by rfl, ?_⟩) hHeld ?_
          rotate_left
          · (intro w hSw; (try dsimp only at hSw); go_simp <;> with_reducible rfl)
          try simp only [Act.put, List.setIfInBounds_toArray, List.set_cons_zero, List.set_cons_succ]
          refine wpAnyH_take (i := 4) (oi := { dst := some 22, op := Op.load 9 (Operand.tmp 21), type := 9, pos := "ref.go:125", after := #[{ on := 3, ground := Ground.data }, { on := 2, ground := Ground.guard }], guard := some (2, true) }) (v := ?_) rfl (by kernel_rfl) (by kernel_rfl) (by kernel_rfl) (fun _ _ _ h => h) (Or.inl ⟨by rfl, ?_⟩) hHeld ?_
          rotate_left
          · (intro w hSw; (try dsimp only at hSw); go_simp <;> with_reducible rfl)
          try simp only [Act.put, List.setIfInBounds_toArray, List.set_cons_zero, List.set_cons_succ]
          refine wpAnyH_take (i := 5) (oi := { dst := some 23, op := Op.fieldAddr 25 (Operand.tmp 2) 3, type := 0, pos := "ref.go:125", after := #[{ on := 2, ground := Ground.guard }], guard := some (2, true) }) (v := ?_) rfl (by kernel_rfl) (by kernel_rfl) (by kernel_rfl) (fun _ _ _ h => h) (Or.inl ⟨by rfl, ?_⟩) hHeld ?_
          rotate_left
          · (intro w hSw; (try dsimp only at hSw); go_simp <;> with_reducible rfl)
          try simp only [Act.put, List.setIfInBounds_toArray, List.set_cons_zero, List.set_cons_succ]
          refine wpAnyH_take (i := 6) (oi := { dst := some 24, op := Op.load 23 (Operand.tmp 23), type := 23, pos := "ref.go:125", after := #[{ on := 5, ground := Ground.data }, { on := 2, ground := Ground.guard }], guard := some (2, true) }) (v := ?_) rfl (by kernel_rfl) (by kernel_rfl) (by kernel_rfl) (fun _ _ _ h => h) (Or.inl ⟨by rfl, ?_⟩) hHeld ?_
          rotate_left
          · (intro w hSw; (try dsimp only at hSw); go_simp <;> with_reducible rfl)
          try simp only [Act.put, List.setIfInBounds_toArray, List.set_cons_zero, List.set_cons_succ]
          refine wpAnyH_take (i := 7) (oi := { dst := some 25, op := Op.move (Operand.tmp 7), type := 3, pos := "ref.go:125", after := #[{ on := 2, ground := Ground.guard }], guard := some (2, true) }) (v := ?_) rfl (by kernel_rfl) (by kernel_rfl) (by kernel_rfl) (fun _ _ _ h => h) (Or.inl ⟨by rfl, ?_⟩) hHeld ?_
          rotate_left
          · (intro w hSw; (try dsimp only at hSw); go_simp <;> with_reducible rfl)
          try simp only [Act.put, List.setIfInBounds_toArray, List.set_cons_zero, List.set_cons_succ]
          refine wpAnyH_take (i := 8) (oi := { dst := some 26, op := Op.indexAddr 23 (Operand.tmp 24) (Operand.tmp 25), type := 0, pos := "ref.go:125", after := #[{ on := 6, ground := Ground.data }, { on := 7, ground := Ground.data }, { on := 2, ground := Ground.guard }], guard := some (2, true) }) (v := ?_) rfl (by kernel_rfl) (by kernel_rfl) (by kernel_rfl) (fun _ _ _ h => h) (Or.inl ⟨by rfl, ?_⟩) hHeld ?_
          rotate_left
          · (intro w hSw; (try dsimp only at hSw); go_simp <;> with_reducible rfl)
          try simp only [Act.put, List.setIfInBounds_toArray, List.set_cons_zero, List.set_cons_succ]
          refine wpAnyH_take (i := 9) (oi := { dst := some 27, op := Op.fieldAddr 28 (Operand.tmp 26) 0, type := 0, pos := "ref.go:125", after := #[{ on := 8, ground := Ground.data }, { on := 2, ground := Ground.guard }], guard := some (2, true) }) (v := ?_) rfl (by kernel_rfl) (by kernel_rfl) (by kernel_rfl) (fun _ _ _ h => h) (Or.inl ⟨by rfl, ?_⟩) hHeld ?_
          rotate_left
          · (intro w hSw; (try dsimp only at hSw); go_simp <;> with_reducible rfl)
          try simp only [Act.put, List.setIfInBounds_toArray, List.set_cons_zero, List.set_cons_succ]
          refine wpAnyH_take (i := 10) (oi := { dst := some 28, op := Op.load 9 (Operand.tmp 27), type := 9, pos := "ref.go:125", after := #[{ on := 9, ground := Ground.data }, { on := 2, ground := Ground.guard }], guard := some (2, true) }) (v := ?_) rfl (by kernel_rfl) (by kernel_rfl) (by kernel_rfl) (fun _ _ _ h => h) (Or.inl ⟨by rfl, ?_⟩) hHeld ?_
          rotate_left
          · (intro w hSw; (try dsimp only at hSw); go_simp <;> with_reducible rfl)
          try simp only [Act.put, List.setIfInBounds_toArray, List.set_cons_zero, List.set_cons_succ]
          refine wpAnyH_ready (rs := [11]) (by kernel_rfl) (by simp) (AllReadyH.cons (o := { dst := some 29, op := Op.call { callee := Callee.value (Operand.func 49), args := #[Operand.tmp 22, Operand.tmp 28], argTypes := #[9, 9] }, type := 4, pos := "ref.go:125", after := #[{ on := 4, ground := Ground.data }, { on := 10, ground := Ground.data }, { on := 2, ground := Ground.chain }, { on := 2, ground := Ground.guard }], guard := some (2, true) }) rfl (fun K11 hK11 => ?_) AllReadyH.nil)
          go_simp
          refine (HLC.out _).mono ?_
          rintro e' wq ⟨rfl, bq⟩
          refine hK11.out _ _ (HS.out _ (hHeld.1.trans (bq.mono hHeld.1.size))) (fun hH_11 => ?_)
          clear bq
          clear hK11 K11
          try simp only [Act.put, List.setIfInBounds_toArray, List.set_cons_zero, List.set_cons_succ]
          refine wpAnyH_take (i := 12) (oi := { dst := some 30, op := Op.pick (Operand.tmp 20) (Operand.tmp 29) (Operand.const (Value.bool false)), type := 4, pos := "ref.go:125", after := #[{ on := 2, ground := Ground.data }, { on := 11, ground := Ground.data }], guard := none }) (v := ?_) rfl (by kernel_rfl) (by kernel_rfl) (by kernel_rfl) (fun _ _ _ h => h) (Or.inl ⟨by rfl, ?_⟩) hH_11 ?_
          rotate_left
          · (intro w hSw; (try dsimp only at hSw); go_simp <;> with_reducible rfl)
          try simp only [Act.put, List.setIfInBounds_toArray, List.set_cons_zero, List.set_cons_succ]
          refine wpAnyH_done (by kernel_rfl) ?_ _
          have HF := Lib.hid hH_11.1
          clear hHeld HS
          have GX := Lib.hid (G.out.up HF.out)
          have GXD := Lib.hid (GX.out.up (Below.refl _ _).drew)
          have Q3x := Lib.hid (Q3r.out.up HF.out)
          have u0 := Q3x.out.c0
          have u1 := Q3x.out.c1
          have y3' := GX.out.bx.c3
          have HTRX := Lib.hid (HTR.out _ (G.out.bl.trans (HF.out.drew.mono G.out.bl.size)))
          clear HLC
          go_wp2_with fail
          go_region_law (first
            | (refine step_rec rfl (.tmp 32) (.tmp 35) rfl (r, ae, ce) w5.heap.size G5.out D5.out (by simp [Act.eval, Act.put]) (by simp [Act.eval, Act.put]) (heap_alloc_new _ _) HPL1.out ?_; intro v' w6 bx6 gs6; obtain ⟨ra, rc, hv'⟩ := own_slice gs6.r.row; subst hv'; rw [show (P ++ [(r, ae, ce)]).length = P.length + 1 by simp] at gs6; have G6 := Lib.hid gs6; have z3 := bx6.c3; have f3 := bx6.fz 3; clear bx6 gs6)
            | (go_simp; go_at_call 23; refine HTRX.out.mono ?_; rintro e w5 ⟨ae, ce, rfl, d5, b5⟩; have G5' := Lib.hid (GXD.out.up b5); have y5 := G5'.out.bx.c3; have G5 := Lib.hid (G5'.out.up ((Below.refl w5.heap.size w5).alloc (Nat.le_refl _) (.cells #[.string r.id, .slice ae r.d.length ce] 28))); have y6 := G5.out.bx.c3; have D5 : Hid (DOw W.heap.size (w5.alloc (.cells #[.string r.id, .slice ae r.d.length ce] 28)) (r, ae, ce)) := Lib.hid (own_up (ownsRow_mono d5 GXD.out.bl.size) ((Below.refl _ _).alloc (Nat.le_refl _) _)); clear d5 b5))
          all_goals
            have G8 := G6
            have HN8 : Hid (P.length + 1 ≤ 1000) := Lib.hid (by have := HPL.out; omega)
            have HPL8 : Hid ((P ++ [(r, ae, ce)]).length ≤ 1000) := Lib.hid (by rw [List.length_append]; have := HPL.out; simp; omega)
            clear HTRX G5' G5 D5 GXD GX u0 u1 y3' y5 y6 z3 f3 Q3x
            obtain ⟨P8, hP8⟩ : ∃ Q, Q = P ++ [(r, ae, ce)] := ⟨_, rfl⟩
            have HP8 := Lib.hid hP8
            have hl8 : P.length + 1 = P8.length := by rw [hP8]; simp
            rw [← hP8] at G8 HPL8
            rw [hl8] at G8 ⊢
            clear hP8 hl8 G6
            obtain ⟨X8, hX8⟩ : ∃ X, X = w6.setCell ⟨q, 3, none⟩ (.slice ra P8.length rc) := ⟨_, rfl⟩
            rw [← hX8] at G8 ⊢
            clear hX8
            have HR8 := Lib.hid (HRV.out X8 (HW.out.trans (G8.out.bl.mono HW.out.size)))
            obtain ⟨ai8, ci8, _, _, e0, e1, dv8⟩ := HR8.out.at_ hlt
            have HTC8 := Lib.hid (HTW.out i hlt ai8 ci8 X8.drew (dv8.below (Below.refl _ _).drew))
            rw [← HR0.out] at e0 e1 HTC8
            have G8D := Lib.hid (G8.out.up (Below.refl X8.heap.size X8).drew)
            have x38 := (HQ1.out.up G8.out.bl).c3
            have y38 := G8.out.bx.c3
            clear dv8 HR8 HN8 HRV HTW HTC HTR
            go_wp2_with fail
            go_region_law (first
              | (refine step_rec rfl (.tmp 39) (.tmp 46) rfl (r0, ae, ce) w5.heap.size G5.out D5.out (by simp [Act.eval, Act.put]) (by simp [Act.eval, Act.put]) (heap_alloc_new _ _) HPL8.out ?_; intro v' w6 bx6 gs6; obtain ⟨ra, rc, hv'⟩ := own_slice gs6.r.row; subst hv'; rw [show (P8 ++ [(r0, ae, ce)]).length = P8.length + 1 by simp] at gs6; have G6 := Lib.hid gs6; have z3 := bx6.c3; have f3 := bx6.fz 3; clear bx6 gs6)
              | (go_simp; go_at_call 23; refine HTC8.out.mono ?_; rintro e w5 ⟨ae, ce, rfl, d5, b5⟩; have G5' := Lib.hid (G8D.out.up b5); have y5 := G5'.out.bx.c3; have G5 := Lib.hid (G5'.out.up ((Below.refl w5.heap.size w5).alloc (Nat.le_refl _) (.cells #[.string r0.id, .slice ae r0.d.length ce] 28))); have y6 := G5.out.bx.c3; have D5 : Hid (DOw W.heap.size (w5.alloc (.cells #[.string r0.id, .slice ae r0.d.length ce] 28)) (r0, ae, ce)) := Lib.hid (own_up (ownsRow_mono d5 G8D.out.bl.size) ((Below.refl _ _).alloc (Nat.le_refl _) _)); clear d5 b5))
            all_goals
              clear HTC8
              go_wp2_with fail
              go_roundw
              case rel => exact ⟨i + 1, _, by omega, by go_num, rfl, Lib.hid ⟨_, _, G6.out, by rw [List.map_append, HP8.out, List.map_append]; exact HN.out⟩⟩
              case measure => simp [intOf]; omega
        | false =>
          have HN := Lib.hid (HP.out.skip hlt (by rw [← HR0.out]; exact of_decide_eq_false hls.symm))
          rw [← HR0.out] at HN
          clear hls
          go_wp2_with fail
          refine wp_region_held_drew (S := (fun w' => Below wr.heap.size wr w' ∧ w'.cell? ⟨w.heap.size, 3, none⟩ = some (.slice (some ⟨rb, ro, none⟩) R.length c2) ∧ w'.cell? ⟨w.heap.size + 1, 0, none⟩ = some (.string r.id) ∧ w'.cell? ⟨rb, ro + i * 2, none⟩ = some (.string r0.id))) (by kernel_rfl) (HS.out _ ((Below.refl _ _).drew)) (fun hHeld => ?_)
          refine wpAnyH_take (i := 0) (oi := { dst := some 18, op := Op.move (Operand.tmp 6), type := 4, pos := "ref.go:125", after := #[], guard := none }) (v := ?_) rfl (by kernel_rfl) (by kernel_rfl) (by kernel_rfl) (fun _ _ _ h => h) (Or.inl ⟨by rfl, ?_⟩) hHeld ?_
          rotate_left
          · (intro w hSw; (try dsimp only at hSw); go_simp <;> with_reducible rfl)
          try simp only [Act.put, List.setIfInBounds_toArray, List.set_cons_zero, List.set_cons_succ]
          refine wpAnyH_take (i := 1) (oi := { dst := some 19, op := Op.unOp UnOp.not 4 (Operand.tmp 18), type := 4, pos := "ref.go:125", after := #[{ on := 0, ground := Ground.data }], guard := none }) (v := ?_) rfl (by kernel_rfl) (by kernel_rfl) (by kernel_rfl) (fun _ _ _ h => h) (Or.inl ⟨by rfl, ?_⟩) hHeld ?_
          rotate_left
          · (intro w hSw; (try dsimp only at hSw); go_simp <;> with_reducible rfl)
          try simp only [Act.put, List.setIfInBounds_toArray, List.set_cons_zero, List.set_cons_succ]
          refine wpAnyH_take (i := 2) (oi := { dst := some 20, op := Op.move (Operand.tmp 19), type := 4, pos := "ref.go:125", after := #[{ on := 1, ground := Ground.data }], guard := none }) (v := ?_) rfl (by kernel_rfl) (by kernel_rfl) (by kernel_rfl) (fun _ _ _ h => h) (Or.inl ⟨by rfl, ?_⟩) hHeld ?_
          rotate_left
          · (intro w hSw; (try dsimp only at hSw); go_simp <;> with_reducible rfl)
          try simp only [Act.put, List.setIfInBounds_toArray, List.set_cons_zero, List.set_cons_succ]
          refine wpAnyH_take (i := 3) (oi := { dst := some 21, op := Op.fieldAddr 28 (Operand.tmp 3) 0, type := 0, pos := "ref.go:125", after := #[{ on := 2, ground := Ground.guard }], guard := some (2, true) }) (v := ?_) rfl (by kernel_rfl) (by kernel_rfl) (by kernel_rfl) (fun _ _ _ h => h) (Or.inl ⟨by rfl, ?_⟩) hHeld ?_
          rotate_left
          · (intro w hSw; (try dsimp only at hSw); go_simp <;> with_reducible rfl)
          try simp only [Act.put, List.setIfInBounds_toArray, List.set_cons_zero, List.set_cons_succ]
          refine wpAnyH_take (i := 4) (oi := { dst := some 22, op := Op.load 9 (Operand.tmp 21), type := 9, pos := "ref.go:125", after := #[{ on := 3, ground := Ground.data }, { on := 2, ground := Ground.guard }], guard := some (2, true) }) (v := ?_) rfl (by kernel_rfl) (by kernel_rfl) (by kernel_rfl) (fun _ _ _ h => h) (Or.inl ⟨by rfl, ?_⟩) hHeld ?_
          rotate_left
          · (intro w hSw; (try dsimp only at hSw); go_simp <;> with_reducible rfl)
          try simp only [Act.put, List.setIfInBounds_toArray, List.set_cons_zero, List.set_cons_succ]
          refine wpAnyH_take (i := 5) (oi := { dst := some 23, op := Op.fieldAddr 25 (Operand.tmp 2) 3, type := 0, pos := "ref.go:125", after := #[{ on := 2, ground := Ground.guard }], guard := some (2, true) }) (v := ?_) rfl (by kernel_rfl) (by kernel_rfl) (by kernel_rfl) (fun _ _ _ h => h) (Or.inl ⟨by rfl, ?_⟩) hHeld ?_
          rotate_left
          · (intro w hSw; (try dsimp only at hSw); go_simp <;> with_reducible rfl)
          try simp only [Act.put, List.setIfInBounds_toArray, List.set_cons_zero, List.set_cons_succ]
          refine wpAnyH_take (i := 6) (oi := { dst := some 24, op := Op.load 23 (Operand.tmp 23), type := 23, pos := "ref.go:125", after := #[{ on := 5, ground := Ground.data }, { on := 2, ground := Ground.guard }], guard := some (2, true) }) (v := ?_) rfl (by kernel_rfl) (by kernel_rfl) (by kernel_rfl) (fun _ _ _ h => h) (Or.inl ⟨by rfl, ?_⟩) hHeld ?_
          rotate_left
          · (intro w hSw; (try dsimp only at hSw); go_simp <;> with_reducible rfl)
          try simp only [Act.put, List.setIfInBounds_toArray, List.set_cons_zero, List.set_cons_succ]
          refine wpAnyH_take (i := 7) (oi := { dst := some 25, op := Op.move (Operand.tmp 7), type := 3, pos := "ref.go:125", after := #[{ on := 2, ground := Ground.guard }], guard := some (2, true) }) (v := ?_) rfl (by kernel_rfl) (by kernel_rfl) (by kernel_rfl) (fun _ _ _ h => h) (Or.inl ⟨by rfl, ?_⟩) hHeld ?_
          rotate_left
          · (intro w hSw; (try dsimp only at hSw); go_simp <;> with_reducible rfl)
          try simp only [Act.put, List.setIfInBounds_toArray, List.set_cons_zero, List.set_cons_succ]
          refine wpAnyH_take (i := 8) (oi := { dst := some 26, op := Op.indexAddr 23 (Operand.tmp 24) (Operand.tmp 25), type := 0, pos := "ref.go:125", after := #[{ on := 6, ground := Ground.data }, { on := 7, ground := Ground.data }, { on := 2, ground := Ground.guard }], guard := some (2, true) }) (v := ?_) rfl (by kernel_rfl) (by kernel_rfl) (by kernel_rfl) (fun _ _ _ h => h) (Or.inl ⟨by rfl, ?_⟩) hHeld ?_
          rotate_left
          · (intro w hSw; (try dsimp only at hSw); go_simp <;> with_reducible rfl)
          try simp only [Act.put, List.setIfInBounds_toArray, List.set_cons_zero, List.set_cons_succ]
          refine wpAnyH_take (i := 9) (oi := { dst := some 27, op := Op.fieldAddr 28 (Operand.tmp 26) 0, type := 0, pos := "ref.go:125", after := #[{ on := 8, ground := Ground.data }, { on := 2, ground := Ground.guard }], guard := some (2, true) }) (v := ?_) rfl (by kernel_rfl) (by kernel_rfl) (by kernel_rfl) (fun _ _ _ h => h) (Or.inl ⟨by rfl, ?_⟩) hHeld ?_
          rotate_left
          · (intro w hSw; (try dsimp only at hSw); go_simp <;> with_reducible rfl)
          try simp only [Act.put, List.setIfInBounds_toArray, List.set_cons_zero, List.set_cons_succ]
          refine wpAnyH_take (i := 10) (oi := { dst := some 28, op := Op.load 9 (Operand.tmp 27), type := 9, pos := "ref.go:125", after := #[{ on := 9, ground := Ground.data }, { on := 2, ground := Ground.guard }], guard := some (2, true) }) (v := ?_) rfl (by kernel_rfl) (by kernel_rfl) (by kernel_rfl) (fun _ _ _ h => h) (Or.inl ⟨by rfl, ?_⟩) hHeld ?_
          rotate_left
          · (intro w hSw; (try dsimp only at hSw); go_simp <;> with_reducible rfl)
          try simp only [Act.put, List.setIfInBounds_toArray, List.set_cons_zero, List.set_cons_succ]
          refine wpAnyH_ready (rs := [11]) (by kernel_rfl) (by simp) (AllReadyH.cons (o := { dst := some 29, op := Op.call { callee := Callee.value (Operand.func 49), args := #[Operand.tmp 22, Operand.tmp 28], argTypes := #[9, 9] }, type := 4, pos := "ref.go:125", after := #[{ on := 4, ground := Ground.data }, { on := 10, ground := Ground.data }, { on := 2, ground := Ground.chain }, { on := 2, ground := Ground.guard }], guard := some (2, true) }) rfl (fun K11 hK11 => ?_) AllReadyH.nil)
          go_simp
          refine (HLC.out _).mono ?_
          rintro e' wq ⟨rfl, bq⟩
          refine hK11.out _ _ (HS.out _ (hHeld.1.trans (bq.mono hHeld.1.size))) (fun hH_11 => ?_)
          clear bq
          clear hK11 K11
          try simp only [Act.put, List.setIfInBounds_toArray, List.set_cons_zero, List.set_cons_succ]
          refine wpAnyH_take (i := 12) (oi := { dst := some 30, op := Op.pick (Operand.tmp 20) (Operand.tmp 29) (Operand.const (Value.bool false)), type := 4, pos := "ref.go:125", after := #[{ on := 2, ground := Ground.data }, { on := 11, ground := Ground.data }], guard := none }) (v := ?_) rfl (by kernel_rfl) (by kernel_rfl) (by kernel_rfl) (fun _ _ _ h => h) (Or.inl ⟨by rfl, ?_⟩) hH_11 ?_
          rotate_left
          · (intro w hSw; (try dsimp only at hSw); go_simp <;> with_reducible rfl)
          try simp only [Act.put, List.setIfInBounds_toArray, List.set_cons_zero, List.set_cons_succ]
          refine wpAnyH_done (by kernel_rfl) ?_ _
          have HF := Lib.hid hH_11.1
          clear hHeld HS
          have GX := Lib.hid (G.out.up HF.out)
          have GXD := Lib.hid (GX.out.up (Below.refl _ _).drew)
          have x3' := (Q1r.out.up HF.out).c3
          have y3' := GX.out.bx.c3
          have d0' := (HLI.out _ HF.out).1
          have d1' := (HLI.out _ HF.out).2
          have HTCX := Lib.hid (HTC.out _ HF.out.drew)
          clear HTC HLC
          go_wp2_with fail
          go_region_law (first
            | (refine step_rec rfl (.tmp 39) (.tmp 46) rfl (r0, ae, ce) w5.heap.size G5.out D5.out (by simp [Act.eval, Act.put]) (by simp [Act.eval, Act.put]) (heap_alloc_new _ _) HPL1.out ?_; intro v' w6 bx6 gs6; obtain ⟨ra, rc, hv'⟩ := own_slice gs6.r.row; subst hv'; rw [show (P ++ [(r0, ae, ce)]).length = P.length + 1 by simp] at gs6; have G6 := Lib.hid gs6; have z3 := bx6.c3; have f3 := bx6.fz 3; clear bx6 gs6)
            | (go_simp; go_at_call 23; refine HTCX.out.mono ?_; rintro e w5 ⟨ae, ce, rfl, d5, b5⟩; have G5' := Lib.hid (GXD.out.up b5); have y5 := G5'.out.bx.c3; have G5 := Lib.hid (G5'.out.up ((Below.refl w5.heap.size w5).alloc (Nat.le_refl _) (.cells #[.string r0.id, .slice ae r0.d.length ce] 28))); have y6 := G5.out.bx.c3; have D5 : Hid (DOw W.heap.size (w5.alloc (.cells #[.string r0.id, .slice ae r0.d.length ce] 28)) (r0, ae, ce)) := Lib.hid (own_up (ownsRow_mono d5 GXD.out.bl.size) ((Below.refl _ _).alloc (Nat.le_refl _) _)); clear d5 b5))
          all_goals
            clear HTCX
            go_wp2_with fail
            go_roundw
            case rel => exact ⟨i + 1, _, by omega, by go_num, rfl, Lib.hid ⟨_, _, G6.out, by rw [List.map_append]; exact HN.out⟩⟩
            case measure => simp [intOf]; omega
    · have him : i = R.length := by omega
      subst him
      have hz : ¬ ((R.length : Int) < (R.length : Int)) := by omega
      cases d with
      | true =>
        have HPT : Hid (P.map Prod.fst = wiR r R) := Lib.hid HP.out.fin
        have Q2r := Lib.hid (HQ2.out.up G.out.bl)
        have y0 := G.out.bx.c0
        have y1 := G.out.bx.c1
        have y2 := G.out.bx.c2
        have y3 := G.out.bx.c3
        have z0 := Q2r.out.c0
        have z1 := Q2r.out.c1
        have z2 := Q2r.out.c2
        have z3 := Q2r.out.c3
        have f0 := Q2r.out.fz 0
        have f1 := Q2r.out.fz 1
        have f2 := Q2r.out.fz 2
        have f3 := Q2r.out.fz 3
        have HF := Lib.hid (GT'.of G.out HPT.out)
        clear HTW HRV HTR HLS
        go_wp2_with fail
        exact ret_tabp Tryz.results64 rfl (Q2r.out.set4 _ _ _ _) ⟨⟨_, rfl, (HF.out.set4 Q2r.out _ _ _ _).base HW.out.size⟩, w4_below (HW.out.trans (G.out.bl.mono HW.out.size)) (by omega) _ _ _ _⟩
      | false =>
        have HPT : Hid (P.map Prod.fst ++ [r] = wiR r R) := Lib.hid HP.out.last
        have HTC0 := Lib.hid (HTR.out wr.drew (G.out.bl.drew))
        have u0 := Q3r.out.c0
        have u1 := Q3r.out.c1
        clear HTW HRV HTR HLS HP
        go_wp2_with fail
        go_region_law (first
          | (refine step_rec rfl (.tmp 52) (.tmp 55) rfl (r, ae, ce) w5.heap.size G5.out D5.out (by simp [Act.eval, Act.put]) (by simp [Act.eval, Act.put]) (heap_alloc_new _ _) HPL1.out ?_; intro v' w6 bx6 gs6; obtain ⟨ra, rc, hv'⟩ := own_slice gs6.r.row; subst hv'; rw [show (P ++ [(r, ae, ce)]).length = P.length + 1 by simp] at gs6; have G6 := Lib.hid gs6; have z3 := bx6.c3; have f3 := bx6.fz 3; clear bx6 gs6)
          | (go_simp; go_at_call 23; refine HTC0.out.mono ?_; rintro e w5 ⟨ae, ce, rfl, d5, b5⟩; have G5' := Lib.hid (GD.out.up b5); have y5 := G5'.out.bx.c3; have G5 := Lib.hid (G5'.out.up ((Below.refl w5.heap.size w5).alloc (Nat.le_refl _) (.cells #[.string r.id, .slice ae r.d.length ce] 28))); have y6 := G5.out.bx.c3; have D5 : Hid (DOw W.heap.size (w5.alloc (.cells #[.string r.id, .slice ae r.d.length ce] 28)) (r, ae, ce)) := Lib.hid (own_up (ownsRow_mono d5 GD.out.bl.size) ((Below.refl _ _).alloc (Nat.le_refl _) _)); clear d5 b5))
        all_goals
          have HPT2 : Hid ((P ++ [(r, ae, ce)]).map Prod.fst = wiR r R) := Lib.hid (by rw [List.map_append, ← HPT.out]; rfl)
          have Q2r := Lib.hid (HQ2.out.up G6.out.bl)
          have y0 := G6.out.bx.c0
          have y1 := G6.out.bx.c1
          have y2 := G6.out.bx.c2
          have y3 := G6.out.bx.c3
          have z0 := Q2r.out.c0
          have z1 := Q2r.out.c1
          have z2 := Q2r.out.c2
          have z3 := Q2r.out.c3
          have f0 := Q2r.out.fz 0
          have f1 := Q2r.out.fz 1
          have f2 := Q2r.out.fz 2
          have f3 := Q2r.out.fz 3
          have HF := Lib.hid (GT'.of G6.out HPT2.out)
          go_wp2_with fail
          exact ret_tabp Tryz.results64 rfl (Q2r.out.set4 _ _ _ _) ⟨⟨_, rfl, (HF.out.set4 Q2r.out _ _ _ _).base HW.out.size⟩, w4_below (HW.out.trans (G6.out.bl.mono HW.out.size)) (by omega) _ _ _ _⟩
end Go.Proofs.YtfigebepeniikaaGreat

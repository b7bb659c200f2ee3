import Derived.Test.YtfigebepeniikaaGreatK16
import Derived.Test.YtfigebepeniikaaGreatK12
/- Layer 27: the document's May. -/
namespace Go.Proofs.YtfigebepeniikaaGreat
open Go.RowKit Go.Maps
theorem below_dn {B : Nat} {w w1 : World} (h : Below B w w1) (n : Nat) : Below B w (w1.drewN n) := ⟨h.os, h.tape, h.output, h.size, h.block⟩
theorem less_b (a b : ByteArray) (w : World) (ha : a.size ≤ 1000000) (hb : b.size ≤ 1000000) : Calls Tryz.prog 49 #[.string a, .string b] w fun e w' => e = .returned (.bool (decide (Ord.cmpB a b < 0))) ∧ Below w.heap.size w w' :=
  (Ls.less_q a b w (by unfold maxLen; omega) (by unfold maxLen; omega)).mono fun e w' h => ⟨h.1, by obtain ⟨m, e⟩ := h.2; rw [e]; exact below_dn (Below.refl _ _) m⟩
set_option maxRecDepth 20000 in
set_option maxHeartbeats 40000000 in
theorem rMay_any (B : Nat) (T : TM) (a1 a2 : Option Addr) (c1 c2 : Nat) (w : World) (hv : TVs B w T a1 c1 a2 c2) (hs : SmT T) (hz : ∀ r ∈ T.rows, NZ r) : Calls Tryz.prog 26 #[tv T a1 c1 a2 c2] w fun e w' => e = .returned (.bool (tabOk T)) ∧ Below w.heap.size w w' := by
  obtain ⟨nm, m, uq, R⟩ := T
  show Calls Tryz.prog 26 #[.agg #[.string nm, .int .i64 m, .slice a1 uq.length c1, .slice a2 R.length c2]] w fun e w' => e = .returned (.bool (tabOk ⟨nm, m, uq, R⟩)) ∧ Below w.heap.size w w'
  obtain ⟨x, hx⟩ : ∃ x, x = tabOk ⟨nm, m, uq, R⟩ := ⟨_, rfl⟩
  have HX1 : Hid (m < 1 ∨ 64 < m ∨ m < (R.length : Int) → x = false) := Lib.hid (fun h => hx.trans (tab_most h))
  have HX2 : Hid (∀ i k, i < uq.length → k < i → Ord.nth uq i = Ord.nth uq k → x = false) := Lib.hid (fun i k h1 h2 h3 => hx.trans (tab_uq (T := ⟨nm, m, uq, R⟩) h1 h2 h3))
  have HX3 : Hid (∀ i, i < R.length → recOk (rl R i) = false → x = false) := Lib.hid (fun i h1 h2 => hx.trans (tab_rec (T := ⟨nm, m, uq, R⟩) h1 h2))
  have HX4 : Hid (∀ i, i + 1 < R.length → ¬ Ord.cmpB (rl R i).id (rl R (i + 1)).id < 0 → x = false) := Lib.hid (fun i h1 h2 => hx.trans (tab_less (T := ⟨nm, m, uq, R⟩) h1 h2))
  have HX5 : Hid (∀ i k, i < R.length → k < i → (uq.any fun s => clash (rl R i) (rl R k) s) = true → x = false) := Lib.hid (fun i k h1 h2 h3 => hx.trans (tab_clash (T := ⟨nm, m, uq, R⟩) h1 h2 h3))
  have HXY : Hid (1 ≤ m → m ≤ 64 → (R.length : Int) ≤ m → (∀ i k, i < uq.length → k < i → Ord.nth uq i ≠ Ord.nth uq k) → (∀ i, i < R.length → recOk (rl R i) = true) → (∀ i, i + 1 < R.length → Ord.cmpB (rl R i).id (rl R (i + 1)).id < 0) → (∀ i k, i < R.length → k < i → (uq.any fun s => clash (rl R i) (rl R k) s) = false) → x = true) := Lib.hid (fun h1 h2 h3 h4 h5 h6 h7 => hx.trans (tab_yes (T := ⟨nm, m, uq, R⟩) h1 h2 h3 h4 h5 h6 h7))
  rw [← hx]
  clear hx
  have hr : RV B w a2 R := hv.r
  have hu : Ord.SView w a1 uq.length uq := hv.u
  have hRn : R.length ≤ 1000 := hs.rows
  have hUn : uq.length ≤ 1000 := hs.uq
  have hsr : ∀ i, i < R.length → SmR (rl R i) ∧ NZ (rl R i) := fun i hi => ⟨hs.each _ (rl_mem hi), hz _ (rl_mem hi)⟩
  have HON := Lib.hid (fun i (hi : i < R.length) ad cp W (hd : DV B W ad cp (rl R i).d) => rOne_any B (rl R i) ad cp W hd (hsr i hi).1 (hsr i hi).2)
  have HLS := Lib.hid (fun i (hi : i < R.length) j (hj : j < R.length) W => less_b (rl R i).id (rl R j).id W (hsr i hi).1.2.2 (hsr j hj).1.2.2)
  have HCL := Lib.hid (fun i (hi : i < R.length) j (hj : j < R.length) (ki : recOk (rl R i) = true) (kj : recOk (rl R j) = true) ad cp ae ce W (hL : Ord.SView W a1 uq.length uq) (hd : DV B W ad cp (rl R i).d) (he : DV B W ae ce (rl R j).d) => rclash_any B B (rl R i) (rl R j) ad ae a1 cp ce c1 uq W hL (by omega) hd he (hsr i hi).1 (hsr j hj).1 (hsr i hi).2 (hsr j hj).2 ki kj)
  unfold rv at HON HCL
  obtain ⟨W, hW⟩ : ∃ W, W = w.alloc (.cells #[.string nm, .int .i64 m, .slice a1 uq.length c1, .slice a2 R.length c2] 25) := ⟨_, rfl⟩
  have HW : Hid (Below w.heap.size w W) := Lib.hid (by rw [hW]; exact (Below.refl _ _).alloc (Nat.le_refl _) _)
  have HQ : Hid (Bx4 W w.heap.size 25 (.string nm) (.int .i64 m) (.slice a1 uq.length c1) (.slice a2 R.length c2)) := Lib.hid (by rw [hW]; exact bx4_new w _ _ _ _ _)
  have HR := Lib.hid (hr.below HW.out)
  have HU := Lib.hid (hu.below HW.out)
  have r1 : (R.length : Int) ≤ 1000 := by omega
  have u1 : (uq.length : Int) ≤ 1000 := by omega
  clear hv hs hz hr hu hsr
  by_cases m1 : m < 1
  · have e1 := HX1.out (.inl m1)
    subst e1
    go_enter Tryz.func26, Tryz.ntmps26
    go_wp2_with fail
    rw [← hW]
    go_ret
    exact ⟨rfl, HW.out⟩
  by_cases m2 : 64 < m
  · have e1 := HX1.out (.inr (.inl m2))
    subst e1
    go_enter Tryz.func26, Tryz.ntmps26
    go_wp2_with fail
    rw [← hW]
    go_ret
    exact ⟨rfl, HW.out⟩
  by_cases m3 : m < (R.length : Int)
  · have e1 := HX1.out (.inr (.inr m3))
    subst e1
    go_enter Tryz.func26, Tryz.ntmps26
    go_wp2_with fail
    rw [← hW]
    go_ret
    exact ⟨rfl, HW.out⟩
  go_enter Tryz.func26, Tryz.ntmps26
  have HXZ := Lib.hid (HXY.out (by omega) (by omega) (by omega))
  clear HX1 HXY
  go_wp2_with fail
  rw [← hW]
  clear hW
  go_loopw [3, 4] (fun v3 _ wr => ∃ i : Nat, i ≤ uq.length ∧ v3 = .int .i64 i ∧ Hid (Below W.heap.size W wr) ∧ Hid (∀ j k, j < i → k < j → Ord.nth uq j ≠ Ord.nth uq k)) (fun v3 _ _ => uq.length - (intOf v3).toNat)
  case atStart => exact ⟨0, Nat.zero_le _, rfl, Lib.hid (Below.refl _ _), Lib.hid (fun j k hj => by omega)⟩
  case round =>
    obtain ⟨i, hi, rfl, HB, HN⟩ := hrel
    have Qr := Lib.hid (HQ.out.up HB.out)
    have q1r := Qr.out.c1
    have q2r := Qr.out.c2
    have q3r := Qr.out.c3
    by_cases hlt : i < uq.length
    · have hlt' : (i : Int) < uq.length := by omega
      have hge : (0 : Int) ≤ i := by omega
      obtain ⟨nb, off, rfl⟩ := sv_addr HU.out (by omega)
      have HXi := Lib.hid (HX2.out i)
      go_wp2_with fail
      go_loopw [4] (fun v4 wr2 => ∃ k : Nat, k ≤ i ∧ v4 = .int .i64 k ∧ Hid (Below W.heap.size W wr2) ∧ Hid (∀ j, j < k → Ord.nth uq i ≠ Ord.nth uq j)) (fun v4 _ => i - (intOf v4).toNat)
      case atStart => exact ⟨0, Nat.zero_le _, rfl, HB, Lib.hid (fun j hj => by omega)⟩
      case round =>
        obtain ⟨k, hk, rfl, HB2, HN2⟩ := hrel
        have Qs := Lib.hid (HQ.out.up HB2.out)
        have q2s := Qs.out.c2
        by_cases hkt : k < i
        · have hkt' : (k : Int) < i := by omega
          have hgk : (0 : Int) ≤ k := by omega
          have hku : (k : Int) < uq.length := by omega
          have ci := (sv_at (HU.out.below HB2.out) hlt).2
          have ck := (sv_at (HU.out.below HB2.out) (show k < uq.length by omega)).2
          by_cases he : Ord.nth uq i = Ord.nth uq k
          · have e1 := HXi.out k hlt hkt he
            subst e1
            have HE := Lib.hid he
            obtain ⟨s, hs⟩ : ∃ s, s = Ord.nth uq i := ⟨_, rfl⟩
            rw [← he, ← hs] at ck
            rw [← hs] at ci
            clear he hs q1r q2r q3r
            go_wp2_with fail
            go_quiet (fail)
            go_wp2_with fail
            go_ret
            exact ⟨rfl, HW.out.trans ((below_dn HB2.out _).mono HW.out.size)⟩
          · have HN3 : Hid (∀ j, j < k + 1 → Ord.nth uq i ≠ Ord.nth uq j) := Lib.hid (fun j hj => by
              by_cases e : j = k
              · subst e; exact he
              · exact HN2.out j (by omega))
            have hse : ((Ord.nth uq i).toList == (Ord.nth uq k).toList) = false := by rw [str_is]; simpa using he
            obtain ⟨s, hs⟩ : ∃ s, s = Ord.nth uq i := ⟨_, rfl⟩
            obtain ⟨t, ht⟩ : ∃ s, s = Ord.nth uq k := ⟨_, rfl⟩
            rw [← ht] at ck hse
            rw [← hs] at ci hse
            clear he hs ht q1r q2r q3r
            go_wp2_with fail
            go_quiet (fail)
            go_wp2_with fail
            go_roundw
            case rel => exact ⟨k + 1, by omega, by go_num, Lib.hid (below_dn HB2.out _), HN3⟩
            case measure => simp [intOf]; omega
        · have hik : k = i := by omega
          subst hik
          have hge2 : ¬ ((k : Int) < (k : Int)) := by omega
          clear q1r q2r q3r
          go_wp2_with fail
          go_roundw
          case rel => exact ⟨k + 1, by omega, by go_num, HB2, Lib.hid (fun j l hj hl => by
              by_cases e : j = k
              · subst e; exact HN2.out l hl
              · exact HN.out j l (by omega) hl)⟩
          case measure => simp [intOf]; omega
    · have him : i = uq.length := by omega
      subst him
      have hz : ¬ ((uq.length : Int) < (uq.length : Int)) := by omega
      have HXW := Lib.hid (HXZ.out HN.out)
      clear HX2 HXZ HN
      go_wp2_with fail
      clear q1r q2r q3r Qr
      go_loopw [5, 6] (fun v5 _ wr => ∃ i : Nat, i ≤ R.length ∧ v5 = .int .i64 i ∧ Hid (Below W.heap.size W wr) ∧ Hid (∀ j, j < i → recOk (rl R j) = true) ∧ Hid (∀ j, j + 1 < i → Ord.cmpB (rl R j).id (rl R (j + 1)).id < 0) ∧ Hid (∀ j k, j < i → k < j → (uq.any fun s => clash (rl R j) (rl R k) s) = false)) (fun v5 _ _ => R.length - (intOf v5).toNat)
      case atStart => exact ⟨0, Nat.zero_le _, rfl, HB, Lib.hid (fun j hj => by omega), Lib.hid (fun j hj => by omega), Lib.hid (fun j k hj => by omega)⟩
      case round =>
        obtain ⟨i, hi, rfl, HB3, HN1, HN2, HN3⟩ := hrel
        have Qr := Lib.hid (HQ.out.up HB3.out)
        have q2 := Qr.out.c2
        have q3 := Qr.out.c3
        by_cases hlt : i < R.length
        · have hlt' : (i : Int) < R.length := by omega
          have hge : (0 : Int) ≤ i := by omega
          have HRr := Lib.hid (HR.out.below HB3.out)
          obtain ⟨rb, ro, rfl⟩ := HRr.out.addr (by omega)
          obtain ⟨ai, ki, _, _, d0, d1, dv⟩ := HRr.out.at_ hlt
          have HDV := Lib.hid dv
          have HLI : Hid (∀ V, Below wr.heap.size wr V → V.cell? ⟨rb, ro + i * 2, none⟩ = some (.string (rl R i).id) ∧ V.cell? ⟨rb, ro + i * 2 + 1, none⟩ = some (.slice ai (rl R i).d.length ki)) := Lib.hid (fun V k => ⟨(k.cell (p := ⟨rb, _, none⟩) (World.block_lt_of_cell? _ _ d0)).trans d0, (k.cell (p := ⟨rb, _, none⟩) (World.block_lt_of_cell? _ _ d1)).trans d1⟩)
          have HOC := Lib.hid (fun V (k : Below wr.heap.size wr V) => HON.out i hlt ai ki V (HDV.out.below k))
          have HX3i := Lib.hid (HX3.out i hlt)
          obtain ⟨z, hz⟩ : ∃ z, z = recOk (rl R i) := ⟨_, rfl⟩
          have HZ := Lib.hid hz
          rw [← hz] at HOC HX3i
          clear dv hz d0 d1
          obtain ⟨id, hid⟩ : ∃ s, s = (rl R i).id := ⟨_, rfl⟩
          obtain ⟨l, hl⟩ : ∃ s, s = (rl R i).d.length := ⟨_, rfl⟩
          have HID := Lib.hid hid
          have HLL := Lib.hid hl
          rw [← hid, ← hl] at HOC HLI
          clear hid hl
          cases z with
          | false =>
            have e1 := HX3i.out rfl
            subst e1
            have HS : Hid (∀ w', Below wr.heap.size wr w' → (fun w' => Below wr.heap.size wr w' ∧ w'.cell? ⟨w.heap.size, 3, none⟩ = some (.slice (some ⟨rb, ro, none⟩) R.length c2) ∧ w'.cell? ⟨rb, ro + i * 2, none⟩ = some (.string id) ∧ w'.cell? ⟨rb, ro + i * 2 + 1, none⟩ = some (.slice ai l ki)) w') := Lib.hid (fun w' k => ⟨k, (Qr.out.up k).c3, (HLI.out w' k).1, (HLI.out w' k).2⟩)
            clear HX3 HX4 HX5 HON HLS HCL
            go_wp2_with fail
            clear q2 q3
            refine wp_region_held_drew (S := (fun w' => Below wr.heap.size wr w' ∧ w'.cell? ⟨w.heap.size, 3, none⟩ = some (.slice (some ⟨rb, ro, none⟩) R.length c2) ∧ w'.cell? ⟨rb, ro + i * 2, none⟩ = some (.string id) ∧ w'.cell? ⟨rb, ro + i * 2 + 1, none⟩ = some (.slice ai l ki))) (by kernel_rfl) (HS.out _ ((Below.refl _ _).drew)) (fun hHeld => ?_)
            refine wpAnyH_take (i := 0) (oi := { dst := some 53, op := Op.fieldAddr 25 (Operand.tmp 1) 3, type := 0, pos := "ref.go:67", after := #[], guard := none }) (v := ?_) rfl (by kernel_rfl) (by kernel_rfl) (by kernel_rfl) (fun _ _ _ h => h) (Or.inl ⟨by rfl, ?_⟩) hHeld ?_
            rotate_left
            · (intro w hSw; (try dsimp only at hSw); go_simp <;> with_reducible rfl)
            try simp only [Act.put, List.setIfInBounds_toArray, List.set_cons_zero, List.set_cons_succ]
            refine wpAnyH_take (i := 1) (oi := { dst := some 54, op := Op.load 23 (Operand.tmp 53), type := 23, pos := "ref.go:67", after := #[{ on := 0, ground := Ground.data }], guard := none }) (v := ?_) rfl (by kernel_rfl) (by kernel_rfl) (by kernel_rfl) (fun _ _ _ h => h) (Or.inl ⟨by rfl, ?_⟩) hHeld ?_
            rotate_left
            · (intro w hSw; (try dsimp only at hSw); go_simp <;> with_reducible rfl)
            try simp only [Act.put, List.setIfInBounds_toArray, List.set_cons_zero, List.set_cons_succ]
            refine wpAnyH_take (i := 2) (oi := { dst := some 55, op := Op.move (Operand.tmp 5), type := 3, pos := "ref.go:67", after := #[], guard := none }) (v := ?_) rfl (by kernel_rfl) (by kernel_rfl) (by kernel_rfl) (fun _ _ _ h => h) (Or.inl ⟨by rfl, ?_⟩) hHeld ?_
            rotate_left
            · (intro w hSw; (try dsimp only at hSw); go_simp <;> with_reducible rfl)
            try simp only [Act.put, List.setIfInBounds_toArray, List.set_cons_zero, List.set_cons_succ]
            refine wpAnyH_take (i := 3) (oi := { dst := some 56, op := Op.indexAddr 23 (Operand.tmp 54) (Operand.tmp 55), type := 0, pos := "ref.go:67", after := #[{ on := 1, ground := Ground.data }, { on := 2, ground := Ground.data }], guard := none }) (v := ?_) rfl (by kernel_rfl) (by kernel_rfl) (by kernel_rfl) (fun _ _ _ h => h) (Or.inl ⟨by rfl, ?_⟩) hHeld ?_
            rotate_left
            · (intro w hSw; (try dsimp only at hSw); go_simp <;> with_reducible rfl)
            try simp only [Act.put, List.setIfInBounds_toArray, List.set_cons_zero, List.set_cons_succ]
            refine wpAnyH_take (i := 4) (oi := { dst := some 57, op := Op.load 28 (Operand.tmp 56), type := 28, pos := "ref.go:67", after := #[{ on := 3, ground := Ground.data }], guard := none }) (v := ?_) rfl (by kernel_rfl) (by kernel_rfl) (by kernel_rfl) (fun _ _ _ h => h) (Or.inl ⟨by rfl, ?_⟩) hHeld ?_
            rotate_left
            · (intro w hSw; (try dsimp only at hSw); go_simp <;> with_reducible rfl)
            try simp only [Act.put, List.setIfInBounds_toArray, List.set_cons_zero, List.set_cons_succ]
            refine wpAnyH_ready (rs := [5]) (by kernel_rfl) (by simp) (AllReadyH.cons (o := { dst := some 58, op := Op.call { callee := Callee.value (Operand.func 32), args := #[Operand.tmp 57], argTypes := #[28] }, type := 4, pos := "ref.go:67", after := #[{ on := 4, ground := Ground.data }], guard := none }) rfl (fun K5 hK5 => ?_) AllReadyH.nil)
            go_simp
            refine (HOC.out _ hHeld.1).mono ?_
            rintro e' wq ⟨rfl, bq⟩
            refine hK5.out _ _ (HS.out _ (hHeld.1.trans (bq.mono hHeld.1.size))) (fun hH_5 => ?_)
            clear bq
            clear hK5 K5
            try simp only [Act.put, List.setIfInBounds_toArray, List.set_cons_zero, List.set_cons_succ]
            refine wpAnyH_take (i := 6) (oi := { dst := some 59, op := Op.unOp UnOp.not 4 (Operand.tmp 58), type := 4, pos := "ref.go:67", after := #[{ on := 5, ground := Ground.data }], guard := none }) (v := ?_) rfl (by kernel_rfl) (by kernel_rfl) (by kernel_rfl) (fun _ _ _ h => h) (Or.inl ⟨by rfl, ?_⟩) hH_5 ?_
            rotate_left
            · (intro w hSw; (try dsimp only at hSw); go_simp <;> with_reducible rfl)
            try simp only [Act.put, List.setIfInBounds_toArray, List.set_cons_zero, List.set_cons_succ]
            refine wpAnyH_take (i := 7) (oi := { dst := some 60, op := Op.move (Operand.tmp 59), type := 4, pos := "ref.go:67", after := #[{ on := 6, ground := Ground.data }, { on := 5, ground := Ground.chain }], guard := none }) (v := ?_) rfl (by kernel_rfl) (by kernel_rfl) (by kernel_rfl) (fun _ _ _ h => h) (Or.inl ⟨by rfl, ?_⟩) hH_5 ?_
            rotate_left
            · (intro w hSw; (try dsimp only at hSw); go_simp <;> with_reducible rfl)
            try simp only [Act.put, List.setIfInBounds_toArray, List.set_cons_zero, List.set_cons_succ]
            refine wpAnyH_take (i := 8) (oi := { dst := some 61, op := Op.move (Operand.tmp 5), type := 3, pos := "ref.go:67", after := #[{ on := 7, ground := Ground.guard }], guard := some (7, false) }) (v := undef) rfl (by kernel_rfl) (by kernel_rfl) (by kernel_rfl) (fun _ _ _ h => h) (Or.inr ⟨by rfl, rfl⟩) hH_5 ?_
            try simp only [Act.put, List.setIfInBounds_toArray, List.set_cons_zero, List.set_cons_succ]
            refine wpAnyH_take (i := 9) (oi := { dst := some 62, op := Op.binOp BinOp.gtr 3 (Operand.tmp 61) (Operand.const (Value.int IntKind.i64 0)) 3, type := 4, pos := "ref.go:67", after := #[{ on := 8, ground := Ground.data }, { on := 7, ground := Ground.guard }], guard := some (7, false) }) (v := undef) rfl (by kernel_rfl) (by kernel_rfl) (by kernel_rfl) (fun _ _ _ h => h) (Or.inr ⟨by rfl, rfl⟩) hH_5 ?_
            try simp only [Act.put, List.setIfInBounds_toArray, List.set_cons_zero, List.set_cons_succ]
            refine wpAnyH_take (i := 10) (oi := { dst := some 63, op := Op.move (Operand.tmp 62), type := 4, pos := "ref.go:67", after := #[{ on := 9, ground := Ground.data }, { on := 7, ground := Ground.chain }, { on := 7, ground := Ground.guard }], guard := some (7, false) }) (v := undef) rfl (by kernel_rfl) (by kernel_rfl) (by kernel_rfl) (fun _ _ _ h => h) (Or.inr ⟨by rfl, rfl⟩) hH_5 ?_
            try simp only [Act.put, List.setIfInBounds_toArray, List.set_cons_zero, List.set_cons_succ]
            refine wpAnyH_take (i := 11) (oi := { dst := some 64, op := Op.fieldAddr 25 (Operand.tmp 1) 3, type := 0, pos := "ref.go:67", after := #[{ on := 10, ground := Ground.guard }], guard := some (10, true) }) (v := undef) rfl (by kernel_rfl) (by kernel_rfl) (by kernel_rfl) (fun _ _ _ h => h) (Or.inr ⟨by rfl, rfl⟩) hH_5 ?_
            try simp only [Act.put, List.setIfInBounds_toArray, List.set_cons_zero, List.set_cons_succ]
            refine wpAnyH_take (i := 12) (oi := { dst := some 65, op := Op.load 23 (Operand.tmp 64), type := 23, pos := "ref.go:67", after := #[{ on := 11, ground := Ground.data }, { on := 10, ground := Ground.guard }], guard := some (10, true) }) (v := undef) rfl (by kernel_rfl) (by kernel_rfl) (by kernel_rfl) (fun _ _ _ h => h) (Or.inr ⟨by rfl, rfl⟩) hH_5 ?_
            try simp only [Act.put, List.setIfInBounds_toArray, List.set_cons_zero, List.set_cons_succ]
            refine wpAnyH_take (i := 13) (oi := { dst := some 66, op := Op.move (Operand.tmp 5), type := 3, pos := "ref.go:67", after := #[{ on := 10, ground := Ground.guard }], guard := some (10, true) }) (v := undef) rfl (by kernel_rfl) (by kernel_rfl) (by kernel_rfl) (fun _ _ _ h => h) (Or.inr ⟨by rfl, rfl⟩) hH_5 ?_
            try simp only [Act.put, List.setIfInBounds_toArray, List.set_cons_zero, List.set_cons_succ]
            refine wpAnyH_take (i := 14) (oi := { dst := some 67, op := Op.binOp BinOp.sub 3 (Operand.tmp 66) (Operand.const (Value.int IntKind.i64 1)) 3, type := 3, pos := "ref.go:67", after := #[{ on := 13, ground := Ground.data }, { on := 10, ground := Ground.guard }], guard := some (10, true) }) (v := undef) rfl (by kernel_rfl) (by kernel_rfl) (by kernel_rfl) (fun _ _ _ h => h) (Or.inr ⟨by rfl, rfl⟩) hH_5 ?_
            try simp only [Act.put, List.setIfInBounds_toArray, List.set_cons_zero, List.set_cons_succ]
            refine wpAnyH_take (i := 15) (oi := { dst := some 68, op := Op.indexAddr 23 (Operand.tmp 65) (Operand.tmp 67), type := 0, pos := "ref.go:67", after := #[{ on := 12, ground := Ground.data }, { on := 14, ground := Ground.data }, { on := 10, ground := Ground.guard }], guard := some (10, true) }) (v := undef) rfl (by kernel_rfl) (by kernel_rfl) (by kernel_rfl) (fun _ _ _ h => h) (Or.inr ⟨by rfl, rfl⟩) hH_5 ?_
            try simp only [Act.put, List.setIfInBounds_toArray, List.set_cons_zero, List.set_cons_succ]
            refine wpAnyH_take (i := 16) (oi := { dst := some 69, op := Op.fieldAddr 28 (Operand.tmp 68) 0, type := 0, pos := "ref.go:67", after := #[{ on := 15, ground := Ground.data }, { on := 10, ground := Ground.guard }], guard := some (10, true) }) (v := undef) rfl (by kernel_rfl) (by kernel_rfl) (by kernel_rfl) (fun _ _ _ h => h) (Or.inr ⟨by rfl, rfl⟩) hH_5 ?_
            try simp only [Act.put, List.setIfInBounds_toArray, List.set_cons_zero, List.set_cons_succ]
            refine wpAnyH_take (i := 17) (oi := { dst := some 70, op := Op.load 9 (Operand.tmp 69), type := 9, pos := "ref.go:67", after := #[{ on := 16, ground := Ground.data }, { on := 10, ground := Ground.guard }], guard := some (10, true) }) (v := undef) rfl (by kernel_rfl) (by kernel_rfl) (by kernel_rfl) (fun _ _ _ h => h) (Or.inr ⟨by rfl, rfl⟩) hH_5 ?_
            try simp only [Act.put, List.setIfInBounds_toArray, List.set_cons_zero, List.set_cons_succ]
            refine wpAnyH_take (i := 18) (oi := { dst := some 71, op := Op.fieldAddr 25 (Operand.tmp 1) 3, type := 0, pos := "ref.go:67", after := #[{ on := 10, ground := Ground.guard }], guard := some (10, true) }) (v := undef) rfl (by kernel_rfl) (by kernel_rfl) (by kernel_rfl) (fun _ _ _ h => h) (Or.inr ⟨by rfl, rfl⟩) hH_5 ?_
            try simp only [Act.put, List.setIfInBounds_toArray, List.set_cons_zero, List.set_cons_succ]
            refine wpAnyH_take (i := 19) (oi := { dst := some 72, op := Op.load 23 (Operand.tmp 71), type := 23, pos := "ref.go:67", after := #[{ on := 18, ground := Ground.data }, { on := 10, ground := Ground.guard }], guard := some (10, true) }) (v := undef) rfl (by kernel_rfl) (by kernel_rfl) (by kernel_rfl) (fun _ _ _ h => h) (Or.inr ⟨by rfl, rfl⟩) hH_5 ?_
            try simp only [Act.put, List.setIfInBounds_toArray, List.set_cons_zero, List.set_cons_succ]
            refine wpAnyH_take (i := 20) (oi := { dst := some 73, op := Op.move (Operand.tmp 5), type := 3, pos := "ref.go:67", after := #[{ on := 10, ground := Ground.guard }], guard := some (10, true) }) (v := undef) rfl (by kernel_rfl) (by kernel_rfl) (by kernel_rfl) (fun _ _ _ h => h) (Or.inr ⟨by rfl, rfl⟩) hH_5 ?_
            try simp only [Act.put, List.setIfInBounds_toArray, List.set_cons_zero, List.set_cons_succ]
            refine wpAnyH_take (i := 21) (oi := { dst := some 74, op := Op.indexAddr 23 (Operand.tmp 72) (Operand.tmp 73), type := 0, pos := "ref.go:67", after := #[{ on := 19, ground := Ground.data }, { on := 20, ground := Ground.data }, { on := 10, ground := Ground.guard }], guard := some (10, true) }) (v := undef) rfl (by kernel_rfl) (by kernel_rfl) (by kernel_rfl) (fun _ _ _ h => h) (Or.inr ⟨by rfl, rfl⟩) hH_5 ?_
            try simp only [Act.put, List.setIfInBounds_toArray, List.set_cons_zero, List.set_cons_succ]
            refine wpAnyH_take (i := 22) (oi := { dst := some 75, op := Op.fieldAddr 28 (Operand.tmp 74) 0, type := 0, pos := "ref.go:67", after := #[{ on := 21, ground := Ground.data }, { on := 10, ground := Ground.guard }], guard := some (10, true) }) (v := undef) rfl (by kernel_rfl) (by kernel_rfl) (by kernel_rfl) (fun _ _ _ h => h) (Or.inr ⟨by rfl, rfl⟩) hH_5 ?_
            try simp only [Act.put, List.setIfInBounds_toArray, List.set_cons_zero, List.set_cons_succ]
            refine wpAnyH_take (i := 23) (oi := { dst := some 76, op := Op.load 9 (Operand.tmp 75), type := 9, pos := "ref.go:67", after := #[{ on := 22, ground := Ground.data }, { on := 10, ground := Ground.guard }], guard := some (10, true) }) (v := undef) rfl (by kernel_rfl) (by kernel_rfl) (by kernel_rfl) (fun _ _ _ h => h) (Or.inr ⟨by rfl, rfl⟩) hH_5 ?_
            try simp only [Act.put, List.setIfInBounds_toArray, List.set_cons_zero, List.set_cons_succ]
            refine wpAnyH_take (i := 24) (oi := { dst := some 77, op := Op.call { callee := Callee.value (Operand.func 49), args := #[Operand.tmp 70, Operand.tmp 76], argTypes := #[9, 9] }, type := 4, pos := "ref.go:67", after := #[{ on := 17, ground := Ground.data }, { on := 23, ground := Ground.data }, { on := 10, ground := Ground.chain }, { on := 10, ground := Ground.guard }], guard := some (10, true) }) (v := undef) rfl (by kernel_rfl) (by kernel_rfl) (by kernel_rfl) (fun _ _ _ h => h) (Or.inr ⟨by rfl, rfl⟩) hH_5 ?_
            try simp only [Act.put, List.setIfInBounds_toArray, List.set_cons_zero, List.set_cons_succ]
            refine wpAnyH_take (i := 25) (oi := { dst := some 78, op := Op.unOp UnOp.not 4 (Operand.tmp 77), type := 4, pos := "ref.go:67", after := #[{ on := 24, ground := Ground.data }, { on := 10, ground := Ground.guard }], guard := some (10, true) }) (v := undef) rfl (by kernel_rfl) (by kernel_rfl) (by kernel_rfl) (fun _ _ _ h => h) (Or.inr ⟨by rfl, rfl⟩) hH_5 ?_
            try simp only [Act.put, List.setIfInBounds_toArray, List.set_cons_zero, List.set_cons_succ]
            refine wpAnyH_take (i := 26) (oi := { dst := some 79, op := Op.pick (Operand.tmp 63) (Operand.tmp 78) (Operand.const (Value.bool false)), type := 4, pos := "ref.go:67", after := #[{ on := 10, ground := Ground.data }, { on := 25, ground := Ground.data }, { on := 7, ground := Ground.guard }], guard := some (7, false) }) (v := undef) rfl (by kernel_rfl) (by kernel_rfl) (by kernel_rfl) (fun _ _ _ h => h) (Or.inr ⟨by rfl, rfl⟩) hH_5 ?_
            try simp only [Act.put, List.setIfInBounds_toArray, List.set_cons_zero, List.set_cons_succ]
            refine wpAnyH_take (i := 27) (oi := { dst := some 80, op := Op.pick (Operand.tmp 60) (Operand.const (Value.bool true)) (Operand.tmp 79), type := 4, pos := "ref.go:67", after := #[{ on := 7, ground := Ground.data }, { on := 26, ground := Ground.data }], guard := none }) (v := ?_) rfl (by kernel_rfl) (by kernel_rfl) (by kernel_rfl) (fun _ _ _ h => h) (Or.inl ⟨by rfl, ?_⟩) hH_5 ?_
            rotate_left
            · (intro w hSw; (try dsimp only at hSw); go_simp <;> with_reducible rfl)
            try simp only [Act.put, List.setIfInBounds_toArray, List.set_cons_zero, List.set_cons_succ]
            refine wpAnyH_done (by kernel_rfl) ?_ _
            have HF := Lib.hid (HB3.out.trans (hH_5.1.mono HB3.out.size))
            clear hHeld
            go_wp2_with fail
            go_ret
            exact ⟨rfl, HW.out.trans (HF.out.mono HW.out.size)⟩
          | true =>
            clear HX3i
            rcases Nat.eq_zero_or_pos i with hi0 | hi0
            · subst hi0
              have HN2' : Hid (∀ j, j + 1 < 0 + 1 → Ord.cmpB (rl R j).id (rl R (j + 1)).id < 0) := Lib.hid (fun j hj => by omega)
              have HS : Hid (∀ w', Below wr.heap.size wr w' → (fun w' => Below wr.heap.size wr w' ∧ w'.cell? ⟨w.heap.size, 3, none⟩ = some (.slice (some ⟨rb, ro, none⟩) R.length c2) ∧ w'.cell? ⟨rb, ro, none⟩ = some (.string id) ∧ w'.cell? ⟨rb, ro + 1, none⟩ = some (.slice ai l ki)) w') := Lib.hid (fun w' k => by
                have h := HLI.out w' k
                simp only [Nat.zero_mul, Nat.add_zero] at h
                exact ⟨k, (Qr.out.up k).c3, h.1, h.2⟩)
              go_wp2_with fail
              clear q2 q3
              refine wp_region_held_drew (S := (fun w' => Below wr.heap.size wr w' ∧ w'.cell? ⟨w.heap.size, 3, none⟩ = some (.slice (some ⟨rb, ro, none⟩) R.length c2) ∧ w'.cell? ⟨rb, ro, none⟩ = some (.string id) ∧ w'.cell? ⟨rb, ro + 1, none⟩ = some (.slice ai l ki))) (by kernel_rfl) (HS.out _ ((Below.refl _ _).drew)) (fun hHeld => ?_)
              refine wpAnyH_take (i := 0) (oi := { dst := some 53, op := Op.fieldAddr 25 (Operand.tmp 1) 3, type := 0, pos := "ref.go:67", after := #[], guard := none }) (v := ?_) rfl (by kernel_rfl) (by kernel_rfl) (by kernel_rfl) (fun _ _ _ h => h) (Or.inl ⟨by rfl, ?_⟩) hHeld ?_
              rotate_left
              · (intro w hSw; (try dsimp only at hSw); go_simp <;> with_reducible rfl)
              try simp only [Act.put, List.setIfInBounds_toArray, List.set_cons_zero, List.set_cons_succ]
              refine wpAnyH_take (i := 1) (oi := { dst := some 54, op := Op.load 23 (Operand.tmp 53), type := 23, pos := "ref.go:67", after := #[{ on := 0, ground := Ground.data }], guard := none }) (v := ?_) rfl (by kernel_rfl) (by kernel_rfl) (by kernel_rfl) (fun _ _ _ h => h) (Or.inl ⟨by rfl, ?_⟩) hHeld ?_
              rotate_left
              · (intro w hSw; (try dsimp only at hSw); go_simp <;> with_reducible rfl)
              try simp only [Act.put, List.setIfInBounds_toArray, List.set_cons_zero, List.set_cons_succ]
              refine wpAnyH_take (i := 2) (oi := { dst := some 55, op := Op.move (Operand.tmp 5), type := 3, pos := "ref.go:67", after := #[], guard := none }) (v := ?_) rfl (by kernel_rfl) (by kernel_rfl) (by kernel_rfl) (fun _ _ _ h => h) (Or.inl ⟨by rfl, ?_⟩) hHeld ?_
              rotate_left
              · (intro w hSw; (try dsimp only at hSw); go_simp <;> with_reducible rfl)
              try simp only [Act.put, List.setIfInBounds_toArray, List.set_cons_zero, List.set_cons_succ]
              refine wpAnyH_take (i := 3) (oi := { dst := some 56, op := Op.indexAddr 23 (Operand.tmp 54) (Operand.tmp 55), type := 0, pos := "ref.go:67", after := #[{ on := 1, ground := Ground.data }, { on := 2, ground := Ground.data }], guard := none }) (v := ?_) rfl (by kernel_rfl) (by kernel_rfl) (by kernel_rfl) (fun _ _ _ h => h) (Or.inl ⟨by rfl, ?_⟩) hHeld ?_
              rotate_left
              · (intro w hSw; (try dsimp only at hSw); go_simp <;> with_reducible rfl)
              try simp only [Act.put, List.setIfInBounds_toArray, List.set_cons_zero, List.set_cons_succ]
              refine wpAnyH_take (i := 4) (oi := { dst := some 57, op := Op.load 28 (Operand.tmp 56), type := 28, pos := "ref.go:67", after := #[{ on := 3, ground := Ground.data }], guard := none }) (v := ?_) rfl (by kernel_rfl) (by kernel_rfl) (by kernel_rfl) (fun _ _ _ h => h) (Or.inl ⟨by rfl, ?_⟩) hHeld ?_
              rotate_left
              · (intro w hSw; (try dsimp only at hSw); go_simp <;> with_reducible rfl)
              try simp only [Act.put, List.setIfInBounds_toArray, List.set_cons_zero, List.set_cons_succ]
              refine wpAnyH_ready (rs := [5]) (by kernel_rfl) (by simp) (AllReadyH.cons (o := { dst := some 58, op := Op.call { callee := Callee.value (Operand.func 32), args := #[Operand.tmp 57], argTypes := #[28] }, type := 4, pos := "ref.go:67", after := #[{ on := 4, ground := Ground.data }], guard := none }) rfl (fun K5 hK5 => ?_) AllReadyH.nil)
              go_simp
              refine (HOC.out _ hHeld.1).mono ?_
              rintro e' wq ⟨rfl, bq⟩
              refine hK5.out _ _ (HS.out _ (hHeld.1.trans (bq.mono hHeld.1.size))) (fun hH_5 => ?_)
              clear bq
              clear hK5 K5
              try simp only [Act.put, List.setIfInBounds_toArray, List.set_cons_zero, List.set_cons_succ]
              refine wpAnyH_take (i := 6) (oi := { dst := some 59, op := Op.unOp UnOp.not 4 (Operand.tmp 58), type := 4, pos := "ref.go:67", after := #[{ on := 5, ground := Ground.data }], guard := none }) (v := ?_) rfl (by kernel_rfl) (by kernel_rfl) (by kernel_rfl) (fun _ _ _ h => h) (Or.inl ⟨by rfl, ?_⟩) hH_5 ?_
              rotate_left
              · (intro w hSw; (try dsimp only at hSw); go_simp <;> with_reducible rfl)
              try simp only [Act.put, List.setIfInBounds_toArray, List.set_cons_zero, List.set_cons_succ]
              refine wpAnyH_take (i := 7) (oi := { dst := some 60, op := Op.move (Operand.tmp 59), type := 4, pos := "ref.go:67", after := #[{ on := 6, ground := Ground.data }, { on := 5, ground := Ground.chain }], guard := none }) (v := ?_) rfl (by kernel_rfl) (by kernel_rfl) (by kernel_rfl) (fun _ _ _ h => h) (Or.inl ⟨by rfl, ?_⟩) hH_5 ?_
              rotate_left
              · (intro w hSw; (try dsimp only at hSw); go_simp <;> with_reducible rfl)
              try simp only [Act.put, List.setIfInBounds_toArray, List.set_cons_zero, List.set_cons_succ]
              refine wpAnyH_take (i := 8) (oi := { dst := some 61, op := Op.move (Operand.tmp 5), type := 3, pos := "ref.go:67", after := #[{ on := 7, ground := Ground.guard }], guard := some (7, false) }) (v := ?_) rfl (by kernel_rfl) (by kernel_rfl) (by kernel_rfl) (fun _ _ _ h => h) (Or.inl ⟨by rfl, ?_⟩) hH_5 ?_
              rotate_left
              · (intro w hSw; (try dsimp only at hSw); go_simp <;> with_reducible rfl)
              try simp only [Act.put, List.setIfInBounds_toArray, List.set_cons_zero, List.set_cons_succ]
              refine wpAnyH_take (i := 9) (oi := { dst := some 62, op := Op.binOp BinOp.gtr 3 (Operand.tmp 61) (Operand.const (Value.int IntKind.i64 0)) 3, type := 4, pos := "ref.go:67", after := #[{ on := 8, ground := Ground.data }, { on := 7, ground := Ground.guard }], guard := some (7, false) }) (v := ?_) rfl (by kernel_rfl) (by kernel_rfl) (by kernel_rfl) (fun _ _ _ h => h) (Or.inl ⟨by rfl, ?_⟩) hH_5 ?_
              rotate_left
              · (intro w hSw; (try dsimp only at hSw); go_simp <;> with_reducible rfl)
              try simp only [Act.put, List.setIfInBounds_toArray, List.set_cons_zero, List.set_cons_succ]
              refine wpAnyH_take (i := 10) (oi := { dst := some 63, op := Op.move (Operand.tmp 62), type := 4, pos := "ref.go:67", after := #[{ on := 9, ground := Ground.data }, { on := 7, ground := Ground.chain }, { on := 7, ground := Ground.guard }], guard := some (7, false) }) (v := ?_) rfl (by kernel_rfl) (by kernel_rfl) (by kernel_rfl) (fun _ _ _ h => h) (Or.inl ⟨by rfl, ?_⟩) hH_5 ?_
              rotate_left
              · (intro w hSw; (try dsimp only at hSw); go_simp <;> with_reducible rfl)
              try simp only [Act.put, List.setIfInBounds_toArray, List.set_cons_zero, List.set_cons_succ]
              refine wpAnyH_take (i := 11) (oi := { dst := some 64, op := Op.fieldAddr 25 (Operand.tmp 1) 3, type := 0, pos := "ref.go:67", after := #[{ on := 10, ground := Ground.guard }], guard := some (10, true) }) (v := undef) rfl (by kernel_rfl) (by kernel_rfl) (by kernel_rfl) (fun _ _ _ h => h) (Or.inr ⟨by rfl, rfl⟩) hH_5 ?_
              try simp only [Act.put, List.setIfInBounds_toArray, List.set_cons_zero, List.set_cons_succ]
              refine wpAnyH_take (i := 12) (oi := { dst := some 65, op := Op.load 23 (Operand.tmp 64), type := 23, pos := "ref.go:67", after := #[{ on := 11, ground := Ground.data }, { on := 10, ground := Ground.guard }], guard := some (10, true) }) (v := undef) rfl (by kernel_rfl) (by kernel_rfl) (by kernel_rfl) (fun _ _ _ h => h) (Or.inr ⟨by rfl, rfl⟩) hH_5 ?_
              try simp only [Act.put, List.setIfInBounds_toArray, List.set_cons_zero, List.set_cons_succ]
              refine wpAnyH_take (i := 13) (oi := { dst := some 66, op := Op.move (Operand.tmp 5), type := 3, pos := "ref.go:67", after := #[{ on := 10, ground := Ground.guard }], guard := some (10, true) }) (v := undef) rfl (by kernel_rfl) (by kernel_rfl) (by kernel_rfl) (fun _ _ _ h => h) (Or.inr ⟨by rfl, rfl⟩) hH_5 ?_
              try simp only [Act.put, List.setIfInBounds_toArray, List.set_cons_zero, List.set_cons_succ]
              refine wpAnyH_take (i := 14) (oi := { dst := some 67, op := Op.binOp BinOp.sub 3 (Operand.tmp 66) (Operand.const (Value.int IntKind.i64 1)) 3, type := 3, pos := "ref.go:67", after := #[{ on := 13, ground := Ground.data }, { on := 10, ground := Ground.guard }], guard := some (10, true) }) (v := undef) rfl (by kernel_rfl) (by kernel_rfl) (by kernel_rfl) (fun _ _ _ h => h) (Or.inr ⟨by rfl, rfl⟩) hH_5 ?_
              try simp only [Act.put, List.setIfInBounds_toArray, List.set_cons_zero, List.set_cons_succ]
              refine wpAnyH_take (i := 15) (oi := { dst := some 68, op := Op.indexAddr 23 (Operand.tmp 65) (Operand.tmp 67), type := 0, pos := "ref.go:67", after := #[{ on := 12, ground := Ground.data }, { on := 14, ground := Ground.data }, { on := 10, ground := Ground.guard }], guard := some (10, true) }) (v := undef) rfl (by kernel_rfl) (by kernel_rfl) (by kernel_rfl) (fun _ _ _ h => h) (Or.inr ⟨by rfl, rfl⟩) hH_5 ?_
              try simp only [Act.put, List.setIfInBounds_toArray, List.set_cons_zero, List.set_cons_succ]
              refine wpAnyH_take (i := 16) (oi := { dst := some 69, op := Op.fieldAddr 28 (Operand.tmp 68) 0, type := 0, pos := "ref.go:67", after := #[{ on := 15, ground := Ground.data }, { on := 10, ground := Ground.guard }], guard := some (10, true) }) (v := undef) rfl (by kernel_rfl) (by kernel_rfl) (by kernel_rfl) (fun _ _ _ h => h) (Or.inr ⟨by rfl, rfl⟩) hH_5 ?_
              try simp only [Act.put, List.setIfInBounds_toArray, List.set_cons_zero, List.set_cons_succ]
              refine wpAnyH_take (i := 17) (oi := { dst := some 70, op := Op.load 9 (Operand.tmp 69), type := 9, pos := "ref.go:67", after := #[{ on := 16, ground := Ground.data }, { on := 10, ground := Ground.guard }], guard := some (10, true) }) (v := undef) rfl (by kernel_rfl) (by kernel_rfl) (by kernel_rfl) (fun _ _ _ h => h) (Or.inr ⟨by rfl, rfl⟩) hH_5 ?_
              try simp only [Act.put, List.setIfInBounds_toArray, List.set_cons_zero, List.set_cons_succ]
              refine wpAnyH_take (i := 18) (oi := { dst := some 71, op := Op.fieldAddr 25 (Operand.tmp 1) 3, type := 0, pos := "ref.go:67", after := #[{ on := 10, ground := Ground.guard }], guard := some (10, true) }) (v := undef) rfl (by kernel_rfl) (by kernel_rfl) (by kernel_rfl) (fun _ _ _ h => h) (Or.inr ⟨by rfl, rfl⟩) hH_5 ?_
              try simp only [Act.put, List.setIfInBounds_toArray, List.set_cons_zero, List.set_cons_succ]
              refine wpAnyH_take (i := 19) (oi := { dst := some 72, op := Op.load 23 (Operand.tmp 71), type := 23, pos := "ref.go:67", after := #[{ on := 18, ground := Ground.data }, { on := 10, ground := Ground.guard }], guard := some (10, true) }) (v := undef) rfl (by kernel_rfl) (by kernel_rfl) (by kernel_rfl) (fun _ _ _ h => h) (Or.inr ⟨by rfl, rfl⟩) hH_5 ?_
              try simp only [Act.put, List.setIfInBounds_toArray, List.set_cons_zero, List.set_cons_succ]
              refine wpAnyH_take (i := 20) (oi := { dst := some 73, op := Op.move (Operand.tmp 5), type := 3, pos := "ref.go:67", after := #[{ on := 10, ground := Ground.guard }], guard := some (10, true) }) (v := undef) rfl (by kernel_rfl) (by kernel_rfl) (by kernel_rfl) (fun _ _ _ h => h) (Or.inr ⟨by rfl, rfl⟩) hH_5 ?_
              try simp only [Act.put, List.setIfInBounds_toArray, List.set_cons_zero, List.set_cons_succ]
              refine wpAnyH_take (i := 21) (oi := { dst := some 74, op := Op.indexAddr 23 (Operand.tmp 72) (Operand.tmp 73), type := 0, pos := "ref.go:67", after := #[{ on := 19, ground := Ground.data }, { on := 20, ground := Ground.data }, { on := 10, ground := Ground.guard }], guard := some (10, true) }) (v := undef) rfl (by kernel_rfl) (by kernel_rfl) (by kernel_rfl) (fun _ _ _ h => h) (Or.inr ⟨by rfl, rfl⟩) hH_5 ?_
              try simp only [Act.put, List.setIfInBounds_toArray, List.set_cons_zero, List.set_cons_succ]
              refine wpAnyH_take (i := 22) (oi := { dst := some 75, op := Op.fieldAddr 28 (Operand.tmp 74) 0, type := 0, pos := "ref.go:67", after := #[{ on := 21, ground := Ground.data }, { on := 10, ground := Ground.guard }], guard := some (10, true) }) (v := undef) rfl (by kernel_rfl) (by kernel_rfl) (by kernel_rfl) (fun _ _ _ h => h) (Or.inr ⟨by rfl, rfl⟩) hH_5 ?_
              try simp only [Act.put, List.setIfInBounds_toArray, List.set_cons_zero, List.set_cons_succ]
              refine wpAnyH_take (i := 23) (oi := { dst := some 76, op := Op.load 9 (Operand.tmp 75), type := 9, pos := "ref.go:67", after := #[{ on := 22, ground := Ground.data }, { on := 10, ground := Ground.guard }], guard := some (10, true) }) (v := undef) rfl (by kernel_rfl) (by kernel_rfl) (by kernel_rfl) (fun _ _ _ h => h) (Or.inr ⟨by rfl, rfl⟩) hH_5 ?_
              try simp only [Act.put, List.setIfInBounds_toArray, List.set_cons_zero, List.set_cons_succ]
              refine wpAnyH_take (i := 24) (oi := { dst := some 77, op := Op.call { callee := Callee.value (Operand.func 49), args := #[Operand.tmp 70, Operand.tmp 76], argTypes := #[9, 9] }, type := 4, pos := "ref.go:67", after := #[{ on := 17, ground := Ground.data }, { on := 23, ground := Ground.data }, { on := 10, ground := Ground.chain }, { on := 10, ground := Ground.guard }], guard := some (10, true) }) (v := undef) rfl (by kernel_rfl) (by kernel_rfl) (by kernel_rfl) (fun _ _ _ h => h) (Or.inr ⟨by rfl, rfl⟩) hH_5 ?_
              try simp only [Act.put, List.setIfInBounds_toArray, List.set_cons_zero, List.set_cons_succ]
              refine wpAnyH_take (i := 25) (oi := { dst := some 78, op := Op.unOp UnOp.not 4 (Operand.tmp 77), type := 4, pos := "ref.go:67", after := #[{ on := 24, ground := Ground.data }, { on := 10, ground := Ground.guard }], guard := some (10, true) }) (v := undef) rfl (by kernel_rfl) (by kernel_rfl) (by kernel_rfl) (fun _ _ _ h => h) (Or.inr ⟨by rfl, rfl⟩) hH_5 ?_
              try simp only [Act.put, List.setIfInBounds_toArray, List.set_cons_zero, List.set_cons_succ]
              refine wpAnyH_take (i := 26) (oi := { dst := some 79, op := Op.pick (Operand.tmp 63) (Operand.tmp 78) (Operand.const (Value.bool false)), type := 4, pos := "ref.go:67", after := #[{ on := 10, ground := Ground.data }, { on := 25, ground := Ground.data }, { on := 7, ground := Ground.guard }], guard := some (7, false) }) (v := ?_) rfl (by kernel_rfl) (by kernel_rfl) (by kernel_rfl) (fun _ _ _ h => h) (Or.inl ⟨by rfl, ?_⟩) hH_5 ?_
              rotate_left
              · (intro w hSw; (try dsimp only at hSw); go_simp <;> with_reducible rfl)
              try simp only [Act.put, List.setIfInBounds_toArray, List.set_cons_zero, List.set_cons_succ]
              refine wpAnyH_take (i := 27) (oi := { dst := some 80, op := Op.pick (Operand.tmp 60) (Operand.const (Value.bool true)) (Operand.tmp 79), type := 4, pos := "ref.go:67", after := #[{ on := 7, ground := Ground.data }, { on := 26, ground := Ground.data }], guard := none }) (v := ?_) rfl (by kernel_rfl) (by kernel_rfl) (by kernel_rfl) (fun _ _ _ h => h) (Or.inl ⟨by rfl, ?_⟩) hH_5 ?_
              rotate_left
              · (intro w hSw; (try dsimp only at hSw); go_simp <;> with_reducible rfl)
              try simp only [Act.put, List.setIfInBounds_toArray, List.set_cons_zero, List.set_cons_succ]
              refine wpAnyH_done (by kernel_rfl) ?_ _
              have HF := Lib.hid (HB3.out.trans (hH_5.1.mono HB3.out.size))
              clear hHeld
              go_wp2_with fail
              have hge2 : ¬ ((0 : Int) < ((0 : Nat) : Int)) := by decide
              refine wp_loop_rounds 1 ?_
              rw [rounds_succ]
              go_wp2_with fail
              go_roundw
              case rel => exact ⟨0 + 1, by omega, by go_num, HF, Lib.hid (fun j hj => by
                  obtain rfl : j = 0 := by omega
                  exact HZ.out.symm), HN2', Lib.hid (fun j l hj hl => by omega)⟩
              case measure => simp [intOf]; omega
            · have hip : (0 : Int) < i := by omega
              have hw1 : IntKind.i64.wrap ((i : Int) - 1) = ((i - 1 : Nat) : Int) := by rw [IntKind.wrap_i64] <;> omega
              have HRp := Lib.hid (HR.out.below HB3.out)
              obtain ⟨ap, kp, _, _, p0, _, _⟩ := HRp.out.at_ (show i - 1 < R.length by omega)
              have HLP : Hid (∀ V, Below wr.heap.size wr V → V.cell? ⟨rb, ro + (i - 1) * 2, none⟩ = some (.string (rl R (i - 1)).id)) := Lib.hid (fun V k => (k.cell (p := ⟨rb, _, none⟩) (World.block_lt_of_cell? _ _ p0)).trans p0)
              have HLC := Lib.hid (HLS.out (i - 1) (by omega) i hlt)
              rw [← HID.out] at HLC
              have HX4i : Hid (¬ Ord.cmpB (rl R (i - 1)).id id < 0 → x = false) := Lib.hid (fun h => HX4.out (i - 1) (by omega) (by rw [show i - 1 + 1 = i by omega, ← HID.out]; first | exact h | omega))
              have HN2' : Hid (Ord.cmpB (rl R (i - 1)).id id < 0 → ∀ j, j + 1 < i + 1 → Ord.cmpB (rl R j).id (rl R (j + 1)).id < 0) := Lib.hid (fun h j hj => by
                by_cases e : j = i - 1
                · rw [e, show i - 1 + 1 = i by omega, ← HID.out]; exact h
                · exact HN2.out j (by omega))
              obtain ⟨idp, hidp⟩ : ∃ s, s = (rl R (i - 1)).id := ⟨_, rfl⟩
              rw [← hidp] at HLP HLC HX4i HN2'
              obtain ⟨ip, hip2⟩ : ∃ p, p = i - 1 := ⟨_, rfl⟩
              rw [← hip2] at HLP hw1
              have hip3 : (ip : Int) < R.length := by omega
              have hip4 : (0 : Int) ≤ ip := by omega
              have HS : Hid (∀ w', Below wr.heap.size wr w' → (fun w' => Below wr.heap.size wr w' ∧ w'.cell? ⟨w.heap.size, 3, none⟩ = some (.slice (some ⟨rb, ro, none⟩) R.length c2) ∧ w'.cell? ⟨rb, ro + i * 2, none⟩ = some (.string id) ∧ w'.cell? ⟨rb, ro + i * 2 + 1, none⟩ = some (.slice ai l ki) ∧ w'.cell? ⟨rb, ro + ip * 2, none⟩ = some (.string idp)) w') := Lib.hid (fun w' k => ⟨k, (Qr.out.up k).c3, (HLI.out w' k).1, (HLI.out w' k).2, HLP.out w' k⟩)
              obtain ⟨ls, hls⟩ : ∃ l, l = decide (Ord.cmpB idp id < 0) := ⟨_, rfl⟩
              rw [← hls] at HLC
              cases ls with
              | true =>
                have HN2'' := Lib.hid (HN2'.out (of_decide_eq_true hls.symm))
                clear HN2' HX4i hls hidp p0 hip2
                have HN2' := HN2''
                clear HN2''
                go_wp2_with fail
                clear q2 q3
                refine wp_region_held_drew (S := (fun w' => Below wr.heap.size wr w' ∧ w'.cell? ⟨w.heap.size, 3, none⟩ = some (.slice (some ⟨rb, ro, none⟩) R.length c2) ∧ w'.cell? ⟨rb, ro + i * 2, none⟩ = some (.string id) ∧ w'.cell? ⟨rb, ro + i * 2 + 1, none⟩ = some (.slice ai l ki) ∧ w'.cell? ⟨rb, ro + ip * 2, none⟩ = some (.string idp))) (by kernel_rfl) (HS.out _ ((Below.refl _ _).drew)) (fun hHeld => ?_)
                refine wpAnyH_take (i := 0) (oi := { dst := some 53, op := Op.fieldAddr 25 (Operand.tmp 1) 3, type := 0, pos := "ref.go:67", after := #[], guard := none }) (v := ?_) rfl (by kernel_rfl) (by kernel_rfl) (by kernel_rfl) (fun _ _ _ h => h) (Or.inl ⟨by rfl, ?_⟩) hHeld ?_
                rotate_left
                · (intro w hSw; (try dsimp only at hSw); go_simp <;> with_reducible rfl)
                try simp only [Act.put, List.setIfInBounds_toArray, List.set_cons_zero, List.set_cons_succ]
                refine wpAnyH_take (i := 1) (oi := { dst := some 54, op := Op.load 23 (Operand.tmp 53), type := 23, pos := "ref.go:67", after := #[{ on := 0, ground := Ground.data }], guard := none }) (v := ?_) rfl (by kernel_rfl) (by kernel_rfl) (by kernel_rfl) (fun _ _ _ h => h) (Or.inl ⟨by rfl, ?_⟩) hHeld ?_
                rotate_left
                · (intro w hSw; (try dsimp only at hSw); go_simp <;> with_reducible rfl)
                try simp only [Act.put, List.setIfInBounds_toArray, List.set_cons_zero, List.set_cons_succ]
                refine wpAnyH_take (i := 2) (oi := { dst := some 55, op := Op.move (Operand.tmp 5), type := 3, pos := "ref.go:67", after := #[], guard := none }) (v := ?_) rfl (by kernel_rfl) (by kernel_rfl) (by kernel_rfl) (fun _ _ _ h => h) (Or.inl ⟨by rfl, ?_⟩) hHeld ?_
                rotate_left
                · (intro w hSw; (try dsimp only at hSw); go_simp <;> with_reducible rfl)
                try simp only [Act.put, List.setIfInBounds_toArray, List.set_cons_zero, List.set_cons_succ]
                refine wpAnyH_take (i := 3) (oi := { dst := some 56, op := Op.indexAddr 23 (Operand.tmp 54) (Operand.tmp 55), type := 0, pos := "ref.go:67", after := #[{ on := 1, ground := Ground.data }, { on := 2, ground := Ground.data }], guard := none }) (v := ?_) rfl (by kernel_rfl) (by kernel_rfl) (by kernel_rfl) (fun _ _ _ h => h) (Or.inl ⟨by rfl, ?_⟩) hHeld ?_
                rotate_left
                · (intro w hSw; (try dsimp only at hSw); go_simp <;> with_reducible rfl)
                try simp only [Act.put, List.setIfInBounds_toArray, List.set_cons_zero, List.set_cons_succ]
                refine wpAnyH_take (i := 4) (oi := { dst := some 57, op := Op.load 28 (Operand.tmp 56), type := 28, pos := "ref.go:67", after := #[{ on := 3, ground := Ground.data }], guard := none }) (v := ?_) rfl (by kernel_rfl) (by kernel_rfl) (by kernel_rfl) (fun _ _ _ h => h) (Or.inl ⟨by rfl, ?_⟩) hHeld ?_
                rotate_left
                · (intro w hSw; (try dsimp only at hSw); go_simp <;> with_reducible rfl)
                try simp only [Act.put, List.setIfInBounds_toArray, List.set_cons_zero, List.set_cons_succ]
                refine wpAnyH_ready (rs := [5]) (by kernel_rfl) (by simp) (AllReadyH.cons (o := { dst := some 58, op := Op.call { callee := Callee.value (Operand.func 32), args := #[Operand.tmp 57], argTypes := #[28] }, type := 4, pos := "ref.go:67", after := #[{ on := 4, ground := Ground.data }], guard := none }) rfl (fun K5 hK5 => ?_) AllReadyH.nil)
                go_simp
                refine (HOC.out _ hHeld.1).mono ?_
                rintro e' wq ⟨rfl, bq⟩
                refine hK5.out _ _ (HS.out _ (hHeld.1.trans (bq.mono hHeld.1.size))) (fun hH_5 => ?_)
                clear bq
                clear hK5 K5
                try simp only [Act.put, List.setIfInBounds_toArray, List.set_cons_zero, List.set_cons_succ]
                refine wpAnyH_take (i := 6) (oi := { dst := some 59, op := Op.unOp UnOp.not 4 (Operand.tmp 58), type := 4, pos := "ref.go:67", after := #[{ on := 5, ground := Ground.data }], guard := none }) (v := ?_) rfl (by kernel_rfl) (by kernel_rfl) (by kernel_rfl) (fun _ _ _ h => h) (Or.inl ⟨by rfl, ?_⟩) hH_5 ?_
                rotate_left
                · (intro w hSw; (try dsimp only at hSw); go_simp <;> with_reducible rfl)
                try simp only [Act.put, List.setIfInBounds_toArray, List.set_cons_zero, List.set_cons_succ]
                refine wpAnyH_take (i := 7) (oi := { dst := some 60, op := Op.move (Operand.tmp 59), type := 4, pos := "ref.go:67", after := #[{ on := 6, ground := Ground.data }, { on := 5, ground := Ground.chain }], guard := none }) (v := ?_) rfl (by kernel_rfl) (by kernel_rfl) (by kernel_rfl) (fun _ _ _ h => h) (Or.inl ⟨by rfl, ?_⟩) hH_5 ?_
                rotate_left
                · (intro w hSw; (try dsimp only at hSw); go_simp <;> with_reducible rfl)
                try simp only [Act.put, List.setIfInBounds_toArray, List.set_cons_zero, List.set_cons_succ]
                refine wpAnyH_take (i := 8) (oi := { dst := some 61, op := Op.move (Operand.tmp 5), type := 3, pos := "ref.go:67", after := #[{ on := 7, ground := Ground.guard }], guard := some (7, false) }) (v := ?_) rfl (by kernel_rfl) (by kernel_rfl) (by kernel_rfl) (fun _ _ _ h => h) (Or.inl ⟨by rfl, ?_⟩) hH_5 ?_
                rotate_left
                · (intro w hSw; (try dsimp only at hSw); go_simp <;> with_reducible rfl)
                try simp only [Act.put, List.setIfInBounds_toArray, List.set_cons_zero, List.set_cons_succ]
                refine wpAnyH_take (i := 9) (oi := { dst := some 62, op := Op.binOp BinOp.gtr 3 (Operand.tmp 61) (Operand.const (Value.int IntKind.i64 0)) 3, type := 4, pos := "ref.go:67", after := #[{ on := 8, ground := Ground.data }, { on := 7, ground := Ground.guard }], guard := some (7, false) }) (v := ?_) rfl (by kernel_rfl) (by kernel_rfl) (by kernel_rfl) (fun _ _ _ h => h) (Or.inl ⟨by rfl, ?_⟩) hH_5 ?_
                rotate_left
                · (intro w hSw; (try dsimp only at hSw); go_simp <;> with_reducible rfl)
                try simp only [Act.put, List.setIfInBounds_toArray, List.set_cons_zero, List.set_cons_succ]
                refine wpAnyH_take (i := 10) (oi := { dst := some 63, op := Op.move (Operand.tmp 62), type := 4, pos := "ref.go:67", after := #[{ on := 9, ground := Ground.data }, { on := 7, ground := Ground.chain }, { on := 7, ground := Ground.guard }], guard := some (7, false) }) (v := ?_) rfl (by kernel_rfl) (by kernel_rfl) (by kernel_rfl) (fun _ _ _ h => h) (Or.inl ⟨by rfl, ?_⟩) hH_5 ?_
                rotate_left
                · (intro w hSw; (try dsimp only at hSw); go_simp <;> with_reducible rfl)
                try simp only [Act.put, List.setIfInBounds_toArray, List.set_cons_zero, List.set_cons_succ]
                refine wpAnyH_take (i := 11) (oi := { dst := some 64, op := Op.fieldAddr 25 (Operand.tmp 1) 3, type := 0, pos := "ref.go:67", after := #[{ on := 10, ground := Ground.guard }], guard := some (10, true) }) (v := ?_) rfl (by kernel_rfl) (by kernel_rfl) (by kernel_rfl) (fun _ _ _ h => h) (Or.inl ⟨by rfl, ?_⟩) hH_5 ?_
                rotate_left
                · (intro w hSw; (try dsimp only at hSw); go_simp <;> with_reducible rfl)
                try simp only [Act.put, List.setIfInBounds_toArray, List.set_cons_zero, List.set_cons_succ]
                refine wpAnyH_take (i := 12) (oi := { dst := some 65, op := Op.load 23 (Operand.tmp 64), type := 23, pos := "ref.go:67", after := #[{ on := 11, ground := Ground.data }, { on := 10, ground := Ground.guard }], guard := some (10, true) }) (v := ?_) rfl (by kernel_rfl) (by kernel_rfl) (by kernel_rfl) (fun _ _ _ h => h) (Or.inl ⟨by rfl, ?_⟩) hH_5 ?_
                rotate_left
                · (intro w hSw; (try dsimp only at hSw); go_simp <;> with_reducible rfl)
                try simp only [Act.put, List.setIfInBounds_toArray, List.set_cons_zero, List.set_cons_succ]
                refine wpAnyH_take (i := 13) (oi := { dst := some 66, op := Op.move (Operand.tmp 5), type := 3, pos := "ref.go:67", after := #[{ on := 10, ground := Ground.guard }], guard := some (10, true) }) (v := ?_) rfl (by kernel_rfl) (by kernel_rfl) (by kernel_rfl) (fun _ _ _ h => h) (Or.inl ⟨by rfl, ?_⟩) hH_5 ?_
                rotate_left
                · (intro w hSw; (try dsimp only at hSw); go_simp <;> with_reducible rfl)
                try simp only [Act.put, List.setIfInBounds_toArray, List.set_cons_zero, List.set_cons_succ]
                refine wpAnyH_take (i := 14) (oi := { dst := some 67, op := Op.binOp BinOp.sub 3 (Operand.tmp 66) (Operand.const (Value.int IntKind.i64 1)) 3, type := 3, pos := "ref.go:67", after := #[{ on := 13, ground := Ground.data }, { on := 10, ground := Ground.guard }], guard := some (10, true) }) (v := ?_) rfl (by kernel_rfl) (by kernel_rfl) (by kernel_rfl) (fun _ _ _ h => h) (Or.inl ⟨by rfl, ?_⟩) hH_5 ?_
                rotate_left
                · (intro w hSw; (try dsimp only at hSw); go_simp <;> with_reducible rfl)
                try simp only [Act.put, List.setIfInBounds_toArray, List.set_cons_zero, List.set_cons_succ]
                refine wpAnyH_take (i := 15) (oi := { dst := some 68, op := Op.indexAddr 23 (Operand.tmp 65) (Operand.tmp 67), type := 0, pos := "ref.go:67", after := #[{ on := 12, ground := Ground.data }, { on := 14, ground := Ground.data }, { on := 10, ground := Ground.guard }], guard := some (10, true) }) (v := ?_) rfl (by kernel_rfl) (by kernel_rfl) (by kernel_rfl) (fun _ _ _ h => h) (Or.inl ⟨by rfl, ?_⟩) hH_5 ?_
                rotate_left
                · (intro w hSw; (try dsimp only at hSw); go_simp <;> with_reducible rfl)
                try simp only [Act.put, List.setIfInBounds_toArray, List.set_cons_zero, List.set_cons_succ]
                refine wpAnyH_take (i := 16) (oi := { dst := some 69, op := Op.fieldAddr 28 (Operand.tmp 68) 0, type := 0, pos := "ref.go:67", after := #[{ on := 15, ground := Ground.data }, { on := 10, ground := Ground.guard }], guard := some (10, true) }) (v := ?_) rfl (by kernel_rfl) (by kernel_rfl) (by kernel_rfl) (fun _ _ _ h => h) (Or.inl ⟨by rfl, ?_⟩) hH_5 ?_
                rotate_left
                · (intro w hSw; (try dsimp only at hSw); go_simp <;> with_reducible rfl)
                try simp only [Act.put, List.setIfInBounds_toArray, List.set_cons_zero, List.set_cons_succ]
                refine wpAnyH_take (i := 17) (oi := { dst := some 70, op := Op.load 9 (Operand.tmp 69), type := 9, pos := "ref.go:67", after := #[{ on := 16, ground := Ground.data }, { on := 10, ground := Ground.guard }], guard := some (10, true) }) (v := ?_) rfl (by kernel_rfl) (by kernel_rfl) (by kernel_rfl) (fun _ _ _ h => h) (Or.inl ⟨by rfl, ?_⟩) hH_5 ?_
                rotate_left
                · (intro w hSw; (try dsimp only at hSw); go_simp <;> with_reducible rfl)
                try simp only [Act.put, List.setIfInBounds_toArray, List.set_cons_zero, List.set_cons_succ]
                refine wpAnyH_take (i := 18) (oi := { dst := some 71, op := Op.fieldAddr 25 (Operand.tmp 1) 3, type := 0, pos := "ref.go:67", after := #[{ on := 10, ground := Ground.guard }], guard := some (10, true) }) (v := ?_) rfl (by kernel_rfl) (by kernel_rfl) (by kernel_rfl) (fun _ _ _ h => h) (Or.inl ⟨by rfl, ?_⟩) hH_5 ?_
                rotate_left
                · (intro w hSw; (try dsimp only at hSw); go_simp <;> with_reducible rfl)
                try simp only [Act.put, List.setIfInBounds_toArray, List.set_cons_zero, List.set_cons_succ]
                refine wpAnyH_take (i := 19) (oi := { dst := some 72, op := Op.load 23 (Operand.tmp 71), type := 23, pos := "ref.go:67", after := #[{ on := 18, ground := Ground.data }, { on := 10, ground := Ground.guard }], guard := some (10, true) }) (v := ?_) rfl (by kernel_rfl) (by kernel_rfl) (by kernel_rfl) (fun _ _ _ h => h) (Or.inl ⟨by rfl, ?_⟩) hH_5 ?_
                rotate_left
                · (intro w hSw; (try dsimp only at hSw); go_simp <;> with_reducible rfl)
                try simp only [Act.put, List.setIfInBounds_toArray, List.set_cons_zero, List.set_cons_succ]
                refine wpAnyH_take (i := 20) (oi := { dst := some 73, op := Op.move (Operand.tmp 5), type := 3, pos := "ref.go:67", after := #[{ on := 10, ground := Ground.guard }], guard := some (10, true) }) (v := ?_) rfl (by kernel_rfl) (by kernel_rfl) (by kernel_rfl) (fun _ _ _ h => h) (Or.inl ⟨by rfl, ?_⟩) hH_5 ?_
                rotate_left
                · (intro w hSw; (try dsimp only at hSw); go_simp <;> with_reducible rfl)
                try simp only [Act.put, List.setIfInBounds_toArray, List.set_cons_zero, List.set_cons_succ]
                refine wpAnyH_take (i := 21) (oi := { dst := some 74, op := Op.indexAddr 23 (Operand.tmp 72) (Operand.tmp 73), type := 0, pos := "ref.go:67", after := #[{ on := 19, ground := Ground.data }, { on := 20, ground := Ground.data }, { on := 10, ground := Ground.guard }], guard := some (10, true) }) (v := ?_) rfl (by kernel_rfl) (by kernel_rfl) (by kernel_rfl) (fun _ _ _ h => h) (Or.inl ⟨by rfl, ?_⟩) hH_5 ?_
                rotate_left
                · (intro w hSw; (try dsimp only at hSw); go_simp <;> with_reducible rfl)
                try simp only [Act.put, List.setIfInBounds_toArray, List.set_cons_zero, List.set_cons_succ]
                refine wpAnyH_take (i := 22) (oi := { dst := some 75, op := Op.fieldAddr 28 (Operand.tmp 74) 0, type := 0, pos := "ref.go:67", after := #[{ on := 21, ground := Ground.data }, { on := 10, ground := Ground.guard }], guard := some (10, true) }) (v := ?_) rfl (by kernel_rfl) (by kernel_rfl) (by kernel_rfl) (fun _ _ _ h => h) (Or.inl ⟨by rfl, ?_⟩) hH_5 ?_
                rotate_left
                · (intro w hSw; (try dsimp only at hSw); go_simp <;> with_reducible rfl)
                try simp only [Act.put, List.setIfInBounds_toArray, List.set_cons_zero, List.set_cons_succ]
                refine wpAnyH_take (i := 23) (oi := { dst := some 76, op := Op.load 9 (Operand.tmp 75), type := 9, pos := "ref.go:67", after := #[{ on := 22, ground := Ground.data }, { on := 10, ground := Ground.guard }], guard := some (10, true) }) (v := ?_) rfl (by kernel_rfl) (by kernel_rfl) (by kernel_rfl) (fun _ _ _ h => h) (Or.inl ⟨by rfl, ?_⟩) hH_5 ?_
                rotate_left
                · (intro w hSw; (try dsimp only at hSw); go_simp <;> with_reducible rfl)
                try simp only [Act.put, List.setIfInBounds_toArray, List.set_cons_zero, List.set_cons_succ]
                refine wpAnyH_ready (rs := [24]) (by kernel_rfl) (by simp) (AllReadyH.cons (o := { dst := some 77, op := Op.call { callee := Callee.value (Operand.func 49), args := #[Operand.tmp 70, Operand.tmp 76], argTypes := #[9, 9] }, type := 4, pos := "ref.go:67", after := #[{ on := 17, ground := Ground.data }, { on := 23, ground := Ground.data }, { on := 10, ground := Ground.chain }, { on := 10, ground := Ground.guard }], guard := some (10, true) }) rfl (fun K24 hK24 => ?_) AllReadyH.nil)
                go_simp
                refine (HLC.out _).mono ?_
                rintro e' wq ⟨rfl, bq⟩
                refine hK24.out _ _ (HS.out _ (hH_5.1.trans (bq.mono hH_5.1.size))) (fun hH_24 => ?_)
                clear bq
                clear hK24 K24
                try simp only [Act.put, List.setIfInBounds_toArray, List.set_cons_zero, List.set_cons_succ]
                refine wpAnyH_take (i := 25) (oi := { dst := some 78, op := Op.unOp UnOp.not 4 (Operand.tmp 77), type := 4, pos := "ref.go:67", after := #[{ on := 24, ground := Ground.data }, { on := 10, ground := Ground.guard }], guard := some (10, true) }) (v := ?_) rfl (by kernel_rfl) (by kernel_rfl) (by kernel_rfl) (fun _ _ _ h => h) (Or.inl ⟨by rfl, ?_⟩) hH_24 ?_
                rotate_left
                · (intro w hSw; (try dsimp only at hSw); go_simp <;> with_reducible rfl)
                try simp only [Act.put, List.setIfInBounds_toArray, List.set_cons_zero, List.set_cons_succ]
                refine wpAnyH_take (i := 26) (oi := { dst := some 79, op := Op.pick (Operand.tmp 63) (Operand.tmp 78) (Operand.const (Value.bool false)), type := 4, pos := "ref.go:67", after := #[{ on := 10, ground := Ground.data }, { on := 25, ground := Ground.data }, { on := 7, ground := Ground.guard }], guard := some (7, false) }) (v := ?_) rfl (by kernel_rfl) (by kernel_rfl) (by kernel_rfl) (fun _ _ _ h => h) (Or.inl ⟨by rfl, ?_⟩) hH_24 ?_
                rotate_left
                · (intro w hSw; (try dsimp only at hSw); go_simp <;> with_reducible rfl)
                try simp only [Act.put, List.setIfInBounds_toArray, List.set_cons_zero, List.set_cons_succ]
                refine wpAnyH_take (i := 27) (oi := { dst := some 80, op := Op.pick (Operand.tmp 60) (Operand.const (Value.bool true)) (Operand.tmp 79), type := 4, pos := "ref.go:67", after := #[{ on := 7, ground := Ground.data }, { on := 26, ground := Ground.data }], guard := none }) (v := ?_) rfl (by kernel_rfl) (by kernel_rfl) (by kernel_rfl) (fun _ _ _ h => h) (Or.inl ⟨by rfl, ?_⟩) hH_24 ?_
                rotate_left
                · (intro w hSw; (try dsimp only at hSw); go_simp <;> with_reducible rfl)
                try simp only [Act.put, List.setIfInBounds_toArray, List.set_cons_zero, List.set_cons_succ]
                refine wpAnyH_done (by kernel_rfl) ?_ _
                have HF := Lib.hid (HB3.out.trans (hH_24.1.mono HB3.out.size))
                clear hHeld
                go_wp2_with fail
                go_loopw [6] (fun v6 wr => ∃ k : Nat, k ≤ i ∧ v6 = .int .i64 k ∧ Hid (Below W.heap.size W wr) ∧ Hid (∀ j, j < k → (uq.any fun s => clash (rl R i) (rl R j) s) = false)) (fun v6 _ => i - (intOf v6).toNat)
                case atStart => exact ⟨0, Nat.zero_le _, rfl, HF, Lib.hid (fun j hj => by omega)⟩
                case round =>
                  obtain ⟨k, hk, rfl, HB4, HN4⟩ := hrel
                  have Qs := Lib.hid (HQ.out.up HB4.out)
                  have q2s := Qs.out.c2
                  have q3s := Qs.out.c3
                  by_cases hkt : k < i
                  · have hkt' : (k : Int) < i := by omega
                    have hgk : (0 : Int) ≤ k := by omega
                    have hkr : (k : Int) < R.length := by omega
                    have hkR : k < R.length := by omega
                    have HRs := Lib.hid (HR.out.below HB4.out)
                    obtain ⟨bi, pi, _, _, g0, g1, gv⟩ := HRs.out.at_ hlt
                    obtain ⟨bk, pk, _, _, h0, h1, hv⟩ := HRs.out.at_ hkR
                    have HCC := Lib.hid (HCL.out i hlt k hkR HZ.out.symm (HN1.out k hkt) bi pi bk pk _ ((HU.out.below HB4.out).below (Below.refl _ _).drew) (gv.below (Below.refl _ _).drew) (hv.below (Below.refl _ _).drew))
                    have HX5i := Lib.hid (HX5.out i k hlt hkt)
                    rw [← HID.out] at g0 HCC
                    rw [← HLL.out] at g1 HCC
                    obtain ⟨idk, hidk⟩ : ∃ s, s = (rl R k).id := ⟨_, rfl⟩
                    obtain ⟨lk, hlk⟩ : ∃ s, s = (rl R k).d.length := ⟨_, rfl⟩
                    rw [← hidk] at h0 HCC
                    rw [← hlk] at h1 HCC
                    obtain ⟨cc, hcc⟩ : ∃ c, c = uq.any fun s => clash (rl R i) (rl R k) s := ⟨_, rfl⟩
                    have HCE := Lib.hid hcc
                    rw [← hcc] at HCC HX5i
                    clear hcc hidk hlk gv hv
                    go_wp2_with fail
                    go_region_law (first
                      | (go_simp; refine HCC.out.mono ?_; rintro e w5 ⟨rfl, k1⟩; have HB5 := Lib.hid (HB4.out.trans ((Below.refl _ _).drew.trans k1 |>.mono HB4.out.size)); clear k1))
                    all_goals
                      clear HCC g0 g1 h0 h1 q2s q3s Qs
                      cases cc with
                      | true =>
                        have e1 := HX5i.out rfl
                        subst e1
                        go_wp2_with fail
                        go_ret
                        exact ⟨rfl, HW.out.trans (HB5.out.mono HW.out.size)⟩
                      | false =>
                        go_wp2_with fail
                        go_roundw
                        case rel => exact ⟨k + 1, by omega, by go_num, HB5, Lib.hid (fun j hj => by
                            by_cases e : j = k
                            · subst e; exact HCE.out.symm
                            · exact HN4.out j (by omega))⟩
                        case measure => simp [intOf]; omega
                  · have hik : k = i := by omega
                    subst hik
                    have hge2 : ¬ ((k : Int) < (k : Int)) := by omega
                    clear q2s q3s Qs
                    go_wp2_with fail
                    go_roundw
                    case rel => exact ⟨k + 1, by omega, by go_num, HB4, Lib.hid (fun j hj => by
                        by_cases e : j = k
                        · subst e; exact HZ.out.symm
                        · exact HN1.out j (by omega)), HN2', Lib.hid (fun j l hj hl => by
                        by_cases e : j = k
                        · subst e; exact HN4.out l hl
                        · exact HN3.out j l (by omega) hl)⟩
                    case measure => simp [intOf]; omega
              | false =>
                have e1 := HX4i.out (of_decide_eq_false hls.symm)
                subst e1
                clear HN2' HX4i hls hidp p0 hip2
                go_wp2_with fail
                clear q2 q3
                refine wp_region_held_drew (S := (fun w' => Below wr.heap.size wr w' ∧ w'.cell? ⟨w.heap.size, 3, none⟩ = some (.slice (some ⟨rb, ro, none⟩) R.length c2) ∧ w'.cell? ⟨rb, ro + i * 2, none⟩ = some (.string id) ∧ w'.cell? ⟨rb, ro + i * 2 + 1, none⟩ = some (.slice ai l ki) ∧ w'.cell? ⟨rb, ro + ip * 2, none⟩ = some (.string idp))) (by kernel_rfl) (HS.out _ ((Below.refl _ _).drew)) (fun hHeld => ?_)
                refine wpAnyH_take (i := 0) (oi := { dst := some 53, op := Op.fieldAddr 25 (Operand.tmp 1) 3, type := 0, pos := "ref.go:67", after := #[], guard := none }) (v := ?_) rfl (by kernel_rfl) (by kernel_rfl) (by kernel_rfl) (fun _ _ _ h => h) (Or.inl ⟨by rfl, ?_⟩) hHeld ?_
                rotate_left
                · (intro w hSw; (try dsimp only at hSw); go_simp <;> with_reducible rfl)
                try simp only [Act.put, List.setIfInBounds_toArray, List.set_cons_zero, List.set_cons_succ]
                refine wpAnyH_take (i := 1) (oi := { dst := some 54, op := Op.load 23 (Operand.tmp 53), type := 23, pos := "ref.go:67", after := #[{ on := 0, ground := Ground.data }], guard := none }) (v := ?_) rfl (by kernel_rfl) (by kernel_rfl) (by kernel_rfl) (fun _ _ _ h => h) (Or.inl ⟨by rfl, ?_⟩) hHeld ?_
                rotate_left
                · (intro w hSw; (try dsimp only at hSw); go_simp <;> with_reducible rfl)
                try simp only [Act.put, List.setIfInBounds_toArray, List.set_cons_zero, List.set_cons_succ]
                refine wpAnyH_take (i := 2) (oi := { dst := some 55, op := Op.move (Operand.tmp 5), type := 3, pos := "ref.go:67", after := #[], guard := none }) (v := ?_) rfl (by kernel_rfl) (by kernel_rfl) (by kernel_rfl) (fun _ _ _ h => h) (Or.inl ⟨by rfl, ?_⟩) hHeld ?_
                rotate_left
                · (intro w hSw; (try dsimp only at hSw); go_simp <;> with_reducible rfl)
                try simp only [Act.put, List.setIfInBounds_toArray, List.set_cons_zero, List.set_cons_succ]
                refine wpAnyH_take (i := 3) (oi := { dst := some 56, op := Op.indexAddr 23 (Operand.tmp 54) (Operand.tmp 55), type := 0, pos := "ref.go:67", after := #[{ on := 1, ground := Ground.data }, { on := 2, ground := Ground.data }], guard := none }) (v := ?_) rfl (by kernel_rfl) (by kernel_rfl) (by kernel_rfl) (fun _ _ _ h => h) (Or.inl ⟨by rfl, ?_⟩) hHeld ?_
                rotate_left
                · (intro w hSw; (try dsimp only at hSw); go_simp <;> with_reducible rfl)
                try simp only [Act.put, List.setIfInBounds_toArray, List.set_cons_zero, List.set_cons_succ]
                refine wpAnyH_take (i := 4) (oi := { dst := some 57, op := Op.load 28 (Operand.tmp 56), type := 28, pos := "ref.go:67", after := #[{ on := 3, ground := Ground.data }], guard := none }) (v := ?_) rfl (by kernel_rfl) (by kernel_rfl) (by kernel_rfl) (fun _ _ _ h => h) (Or.inl ⟨by rfl, ?_⟩) hHeld ?_
                rotate_left
                · (intro w hSw; (try dsimp only at hSw); go_simp <;> with_reducible rfl)
                try simp only [Act.put, List.setIfInBounds_toArray, List.set_cons_zero, List.set_cons_succ]
                refine wpAnyH_ready (rs := [5]) (by kernel_rfl) (by simp) (AllReadyH.cons (o := { dst := some 58, op := Op.call { callee := Callee.value (Operand.func 32), args := #[Operand.tmp 57], argTypes := #[28] }, type := 4, pos := "ref.go:67", after := #[{ on := 4, ground := Ground.data }], guard := none }) rfl (fun K5 hK5 => ?_) AllReadyH.nil)
                go_simp
                refine (HOC.out _ hHeld.1).mono ?_
                rintro e' wq ⟨rfl, bq⟩
                refine hK5.out _ _ (HS.out _ (hHeld.1.trans (bq.mono hHeld.1.size))) (fun hH_5 => ?_)
                clear bq
                clear hK5 K5
                try simp only [Act.put, List.setIfInBounds_toArray, List.set_cons_zero, List.set_cons_succ]
                refine wpAnyH_take (i := 6) (oi := { dst := some 59, op := Op.unOp UnOp.not 4 (Operand.tmp 58), type := 4, pos := "ref.go:67", after := #[{ on := 5, ground := Ground.data }], guard := none }) (v := ?_) rfl (by kernel_rfl) (by kernel_rfl) (by kernel_rfl) (fun _ _ _ h => h) (Or.inl ⟨by rfl, ?_⟩) hH_5 ?_
                rotate_left
                · (intro w hSw; (try dsimp only at hSw); go_simp <;> with_reducible rfl)
                try simp only [Act.put, List.setIfInBounds_toArray, List.set_cons_zero, List.set_cons_succ]
                refine wpAnyH_take (i := 7) (oi := { dst := some 60, op := Op.move (Operand.tmp 59), type := 4, pos := "ref.go:67", after := #[{ on := 6, ground := Ground.data }, { on := 5, ground := Ground.chain }], guard := none }) (v := ?_) rfl (by kernel_rfl) (by kernel_rfl) (by kernel_rfl) (fun _ _ _ h => h) (Or.inl ⟨by rfl, ?_⟩) hH_5 ?_
                rotate_left
                · (intro w hSw; (try dsimp only at hSw); go_simp <;> with_reducible rfl)
                try simp only [Act.put, List.setIfInBounds_toArray, List.set_cons_zero, List.set_cons_succ]
                refine wpAnyH_take (i := 8) (oi := { dst := some 61, op := Op.move (Operand.tmp 5), type := 3, pos := "ref.go:67", after := #[{ on := 7, ground := Ground.guard }], guard := some (7, false) }) (v := ?_) rfl (by kernel_rfl) (by kernel_rfl) (by kernel_rfl) (fun _ _ _ h => h) (Or.inl ⟨by rfl, ?_⟩) hH_5 ?_
                rotate_left
                · (intro w hSw; (try dsimp only at hSw); go_simp <;> with_reducible rfl)
                try simp only [Act.put, List.setIfInBounds_toArray, List.set_cons_zero, List.set_cons_succ]
                refine wpAnyH_take (i := 9) (oi := { dst := some 62, op := Op.binOp BinOp.gtr 3 (Operand.tmp 61) (Operand.const (Value.int IntKind.i64 0)) 3, type := 4, pos := "ref.go:67", after := #[{ on := 8, ground := Ground.data }, { on := 7, ground := Ground.guard }], guard := some (7, false) }) (v := ?_) rfl (by kernel_rfl) (by kernel_rfl) (by kernel_rfl) (fun _ _ _ h => h) (Or.inl ⟨by rfl, ?_⟩) hH_5 ?_
                rotate_left
                · (intro w hSw; (try dsimp only at hSw); go_simp <;> with_reducible rfl)
                try simp only [Act.put, List.setIfInBounds_toArray, List.set_cons_zero, List.set_cons_succ]
                refine wpAnyH_take (i := 10) (oi := { dst := some 63, op := Op.move (Operand.tmp 62), type := 4, pos := "ref.go:67", after := #[{ on := 9, ground := Ground.data }, { on := 7, ground := Ground.chain }, { on := 7, ground := Ground.guard }], guard := some (7, false) }) (v := ?_) rfl (by kernel_rfl) (by kernel_rfl) (by kernel_rfl) (fun _ _ _ h => h) (Or.inl ⟨by rfl, ?_⟩) hH_5 ?_
                rotate_left
                · (intro w hSw; (try dsimp only at hSw); go_simp <;> with_reducible rfl)
                try simp only [Act.put, List.setIfInBounds_toArray, List.set_cons_zero, List.set_cons_succ]
                refine wpAnyH_take (i := 11) (oi := { dst := some 64, op := Op.fieldAddr 25 (Operand.tmp 1) 3, type := 0, pos := "ref.go:67", after := #[{ on := 10, ground := Ground.guard }], guard := some (10, true) }) (v := ?_) rfl (by kernel_rfl) (by kernel_rfl) (by kernel_rfl) (fun _ _ _ h => h) (Or.inl ⟨by rfl, ?_⟩) hH_5 ?_
                rotate_left
                · (intro w hSw; (try dsimp only at hSw); go_simp <;> with_reducible rfl)
                try simp only [Act.put, List.setIfInBounds_toArray, List.set_cons_zero, List.set_cons_succ]
                refine wpAnyH_take (i := 12) (oi := { dst := some 65, op := Op.load 23 (Operand.tmp 64), type := 23, pos := "ref.go:67", after := #[{ on := 11, ground := Ground.data }, { on := 10, ground := Ground.guard }], guard := some (10, true) }) (v := ?_) rfl (by kernel_rfl) (by kernel_rfl) (by kernel_rfl) (fun _ _ _ h => h) (Or.inl ⟨by rfl, ?_⟩) hH_5 ?_
                rotate_left
                · (intro w hSw; (try dsimp only at hSw); go_simp <;> with_reducible rfl)
                try simp only [Act.put, List.setIfInBounds_toArray, List.set_cons_zero, List.set_cons_succ]
                refine wpAnyH_take (i := 13) (oi := { dst := some 66, op := Op.move (Operand.tmp 5), type := 3, pos := "ref.go:67", after := #[{ on := 10, ground := Ground.guard }], guard := some (10, true) }) (v := ?_) rfl (by kernel_rfl) (by kernel_rfl) (by kernel_rfl) (fun _ _ _ h => h) (Or.inl ⟨by rfl, ?_⟩) hH_5 ?_
                rotate_left
                · (intro w hSw; (try dsimp only at hSw); go_simp <;> with_reducible rfl)
                try simp only [Act.put, List.setIfInBounds_toArray, List.set_cons_zero, List.set_cons_succ]
                refine wpAnyH_take (i := 14) (oi := { dst := some 67, op := Op.binOp BinOp.sub 3 (Operand.tmp 66) (Operand.const (Value.int IntKind.i64 1)) 3, type := 3, pos := "ref.go:67", after := #[{ on := 13, ground := Ground.data }, { on := 10, ground := Ground.guard }], guard := some (10, true) }) (v := ?_) rfl (by kernel_rfl) (by kernel_rfl) (by kernel_rfl) (fun _ _ _ h => h) (Or.inl ⟨by rfl, ?_⟩) hH_5 ?_
                rotate_left
                · (intro w hSw; (try dsimp only at hSw); go_simp <;> with_reducible rfl)
                try simp only [Act.put, List.setIfInBounds_toArray, List.set_cons_zero, List.set_cons_succ]
                refine wpAnyH_take (i := 15) (oi := { dst := some 68, op := Op.indexAddr 23 (Operand.tmp 65) (Operand.tmp 67), type := 0, pos := "ref.go:67", after := #[{ on := 12, ground := Ground.data }, { on := 14, ground := Ground.data }, { on := 10, ground := Ground.guard }], guard := some (10, true) }) (v := ?_) rfl (by kernel_rfl) (by kernel_rfl) (by kernel_rfl) (fun _ _ _ h => h) (Or.inl ⟨by rfl, ?_⟩) hH_5 ?_
                rotate_left
                · (intro w hSw; (try dsimp only at hSw); go_simp <;> with_reducible rfl)
                try simp only [Act.put, List.setIfInBounds_toArray, List.set_cons_zero, List.set_cons_succ]
                refine wpAnyH_take (i := 16) (oi := { dst := some 69, op := Op.fieldAddr 28 (Operand.tmp 68) 0, type := 0, pos := "ref.go:67", after := #[{ on := 15, ground := Ground.data }, { on := 10, ground := Ground.guard }], guard := some (10, true) }) (v := ?_) rfl (by kernel_rfl) (by kernel_rfl) (by kernel_rfl) (fun _ _ _ h => h) (Or.inl ⟨by rfl, ?_⟩) hH_5 ?_
                rotate_left
                · (intro w hSw; (try dsimp only at hSw); go_simp <;> with_reducible rfl)
                try simp only [Act.put, List.setIfInBounds_toArray, List.set_cons_zero, List.set_cons_succ]
                refine wpAnyH_take (i := 17) (oi := { dst := some 70, op := Op.load 9 (Operand.tmp 69), type := 9, pos := "ref.go:67", after := #[{ on := 16, ground := Ground.data }, { on := 10, ground := Ground.guard }], guard := some (10, true) }) (v := ?_) rfl (by kernel_rfl) (by kernel_rfl) (by kernel_rfl) (fun _ _ _ h => h) (Or.inl ⟨by rfl, ?_⟩) hH_5 ?_
                rotate_left
                · (intro w hSw; (try dsimp only at hSw); go_simp <;> with_reducible rfl)
                try simp only [Act.put, List.setIfInBounds_toArray, List.set_cons_zero, List.set_cons_succ]
                refine wpAnyH_take (i := 18) (oi := { dst := some 71, op := Op.fieldAddr 25 (Operand.tmp 1) 3, type := 0, pos := "ref.go:67", after := #[{ on := 10, ground := Ground.guard }], guard := some (10, true) }) (v := ?_) rfl (by kernel_rfl) (by kernel_rfl) (by kernel_rfl) (fun _ _ _ h => h) (Or.inl ⟨by rfl, ?_⟩) hH_5 ?_
                rotate_left
                · (intro w hSw; (try dsimp only at hSw); go_simp <;> with_reducible rfl)
                try simp only [Act.put, List.setIfInBounds_toArray, List.set_cons_zero, List.set_cons_succ]
                refine wpAnyH_take (i := 19) (oi := { dst := some 72, op := Op.load 23 (Operand.tmp 71), type := 23, pos := "ref.go:67", after := #[{ on := 18, ground := Ground.data }, { on := 10, ground := Ground.guard }], guard := some (10, true) }) (v := ?_) rfl (by kernel_rfl) (by kernel_rfl) (by kernel_rfl) (fun _ _ _ h => h) (Or.inl ⟨by rfl, ?_⟩) hH_5 ?_
                rotate_left
                · (intro w hSw; (try dsimp only at hSw); go_simp <;> with_reducible rfl)
                try simp only [Act.put, List.setIfInBounds_toArray, List.set_cons_zero, List.set_cons_succ]
                refine wpAnyH_take (i := 20) (oi := { dst := some 73, op := Op.move (Operand.tmp 5), type := 3, pos := "ref.go:67", after := #[{ on := 10, ground := Ground.guard }], guard := some (10, true) }) (v := ?_) rfl (by kernel_rfl) (by kernel_rfl) (by kernel_rfl) (fun _ _ _ h => h) (Or.inl ⟨by rfl, ?_⟩) hH_5 ?_
                rotate_left
                · (intro w hSw; (try dsimp only at hSw); go_simp <;> with_reducible rfl)
                try simp only [Act.put, List.setIfInBounds_toArray, List.set_cons_zero, List.set_cons_succ]
                refine wpAnyH_take (i := 21) (oi := { dst := some 74, op := Op.indexAddr 23 (Operand.tmp 72) (Operand.tmp 73), type := 0, pos := "ref.go:67", after := #[{ on := 19, ground := Ground.data }, { on := 20, ground := Ground.data }, { on := 10, ground := Ground.guard }], guard := some (10, true) }) (v := ?_) rfl (by kernel_rfl) (by kernel_rfl) (by kernel_rfl) (fun _ _ _ h => h) (Or.inl ⟨by rfl, ?_⟩) hH_5 ?_
                rotate_left
                · (intro w hSw; (try dsimp only at hSw); go_simp <;> with_reducible rfl)
                try simp only [Act.put, List.setIfInBounds_toArray, List.set_cons_zero, List.set_cons_succ]
                refine wpAnyH_take (i := 22) (oi := { dst := some 75, op := Op.fieldAddr 28 (Operand.tmp 74) 0, type := 0, pos := "ref.go:67", after := #[{ on := 21, ground := Ground.data }, { on := 10, ground := Ground.guard }], guard := some (10, true) }) (v := ?_) rfl (by kernel_rfl) (by kernel_rfl) (by kernel_rfl) (fun _ _ _ h => h) (Or.inl ⟨by rfl, ?_⟩) hH_5 ?_
                rotate_left
                · (intro w hSw; (try dsimp only at hSw); go_simp <;> with_reducible rfl)
                try simp only [Act.put, List.setIfInBounds_toArray, List.set_cons_zero, List.set_cons_succ]
                refine wpAnyH_take (i := 23) (oi := { dst := some 76, op := Op.load 9 (Operand.tmp 75), type := 9, pos := "ref.go:67", after := #[{ on := 22, ground := Ground.data }, { on := 10, ground := Ground.guard }], guard := some (10, true) }) (v := ?_) rfl (by kernel_rfl) (by kernel_rfl) (by kernel_rfl) (fun _ _ _ h => h) (Or.inl ⟨by rfl, ?_⟩) hH_5 ?_
                rotate_left
                · (intro w hSw; (try dsimp only at hSw); go_simp <;> with_reducible rfl)
                try simp only [Act.put, List.setIfInBounds_toArray, List.set_cons_zero, List.set_cons_succ]
                refine wpAnyH_ready (rs := [24]) (by kernel_rfl) (by simp) (AllReadyH.cons (o := { dst := some 77, op := Op.call { callee := Callee.value (Operand.func 49), args := #[Operand.tmp 70, Operand.tmp 76], argTypes := #[9, 9] }, type := 4, pos := "ref.go:67", after := #[{ on := 17, ground := Ground.data }, { on := 23, ground := Ground.data }, { on := 10, ground := Ground.chain }, { on := 10, ground := Ground.guard }], guard := some (10, true) }) rfl (fun K24 hK24 => ?_) AllReadyH.nil)
                go_simp
                refine (HLC.out _).mono ?_
                rintro e' wq ⟨rfl, bq⟩
                refine hK24.out _ _ (HS.out _ (hH_5.1.trans (bq.mono hH_5.1.size))) (fun hH_24 => ?_)
                clear bq
                clear hK24 K24
                try simp only [Act.put, List.setIfInBounds_toArray, List.set_cons_zero, List.set_cons_succ]
                refine wpAnyH_take (i := 25) (oi := { dst := some 78, op := Op.unOp UnOp.not 4 (Operand.tmp 77), type := 4, pos := "ref.go:67", after := #[{ on := 24, ground := Ground.data }, { on := 10, ground := Ground.guard }], guard := some (10, true) }) (v := ?_) rfl (by kernel_rfl) (by kernel_rfl) (by kernel_rfl) (fun _ _ _ h => h) (Or.inl ⟨by rfl, ?_⟩) hH_24 ?_
                rotate_left
                · (intro w hSw; (try dsimp only at hSw); go_simp <;> with_reducible rfl)
                try simp only [Act.put, List.setIfInBounds_toArray, List.set_cons_zero, List.set_cons_succ]
                refine wpAnyH_take (i := 26) (oi := { dst := some 79, op := Op.pick (Operand.tmp 63) (Operand.tmp 78) (Operand.const (Value.bool false)), type := 4, pos := "ref.go:67", after := #[{ on := 10, ground := Ground.data }, { on := 25, ground := Ground.data }, { on := 7, ground := Ground.guard }], guard := some (7, false) }) (v := ?_) rfl (by kernel_rfl) (by kernel_rfl) (by kernel_rfl) (fun _ _ _ h => h) (Or.inl ⟨by rfl, ?_⟩) hH_24 ?_
                rotate_left
                · (intro w hSw; (try dsimp only at hSw); go_simp <;> with_reducible rfl)
                try simp only [Act.put, List.setIfInBounds_toArray, List.set_cons_zero, List.set_cons_succ]
                refine wpAnyH_take (i := 27) (oi := { dst := some 80, op := Op.pick (Operand.tmp 60) (Operand.const (Value.bool true)) (Operand.tmp 79), type := 4, pos := "ref.go:67", after := #[{ on := 7, ground := Ground.data }, { on := 26, ground := Ground.data }], guard := none }) (v := ?_) rfl (by kernel_rfl) (by kernel_rfl) (by kernel_rfl) (fun _ _ _ h => h) (Or.inl ⟨by rfl, ?_⟩) hH_24 ?_
                rotate_left
                · (intro w hSw; (try dsimp only at hSw); go_simp <;> with_reducible rfl)
                try simp only [Act.put, List.setIfInBounds_toArray, List.set_cons_zero, List.set_cons_succ]
                refine wpAnyH_done (by kernel_rfl) ?_ _
                have HF := Lib.hid (HB3.out.trans (hH_24.1.mono HB3.out.size))
                clear hHeld
                go_wp2_with fail
                go_ret
                exact ⟨rfl, HW.out.trans (HF.out.mono HW.out.size)⟩
        · have him : i = R.length := by omega
          subst him
          have hz : ¬ ((R.length : Int) < (R.length : Int)) := by omega
          have e1 := HXW.out HN1.out HN2.out HN3.out
          subst e1
          clear HN1 HN2 HN3 HXW HX3 HX4 HX5 HCL HLS HON
          go_wp2_with fail
          go_ret
          exact ⟨rfl, HW.out.trans (HB3.out.mono HW.out.size)⟩
end Go.Proofs.YtfigebepeniikaaGreat

import Derived.Test.YtoicmcjpaodgpaaDoorK13
import Derived.Test.YtoicmcjpaodgpaaDoorK5
import Derived.Deep.DeepCutAuto
import Derived.Maps.RangeWalk
import Derived.Test.YtoicmcjpaodgpaaDoorK4
import Derived.Test.YtoicmcjpaodgpaaDoorK6
import Derived.Test.YtoicmcjpaodgpaaDoorK7
import Derived.Test.YtoicmcjpaodgpaaDoorK8
/- Layer 4, the document's Read: four digits to the base of 16. -/
namespace Go.Proofs.YtoicmcjpaodgpaaDoor
open Go.RowKit Go.Maps
/-- The digit that has been found among the first m ones. -/
def dV (b : Int) (m : Nat) : Int := if 0 ≤ hexV b ∧ hexV b < m then hexV b else -1
theorem dV_16 (b : Int) : dV b 16 = hexV b := by
  have := hexV_range b
  unfold dV
  split <;> omega
/-- What four digits end in: what they tell, or 0 and an error that is noted. -/
def RfZ (p : Nat) (s : ByteArray) (v : Value) (L : List CR) (w : World) (x : Rs (Int × Nat)) (e : Ending) (w' : World) : Prop := match x with
  | .ok r => e = .returned (.int .i64 r.1) ∧ RfB w' p s r.2 v L 0 ∧ Fr p v v w w'
  | .bad m => ∃ j : Nat, e = .returned (.int .i64 0) ∧ j ≤ s.size ∧ RfB w' p s j v L m ∧ Fr p v v w w'
set_option maxRecDepth 20000 in
set_option maxHeartbeats 0 in
theorem rfour_any {p i : Nat} {s : ByteArray} {v : Value} {L : List CR} (w : World) (h : RfB w p s i v L 0) (hs : s.size ≤ 1000000) (hi : i ≤ s.size) : Calls Tryd.prog 87 #[.pointer (some ⟨p, 0, none⟩)] w (RfZ p s v L w (fourF s 4 i 0)) := by
  have H := Lib.hid h
  clear h
  obtain ⟨X, hX⟩ : ∃ X, X = fourF s 4 i 0 := ⟨_, rfl⟩
  rw [← hX]
  have HX : Hid (fourF s (4 - 0) (i + 0) 0 = X) := Lib.hid (by rw [hX]; rfl)
  clear hX
  go_enter Tryd.func87, Tryd.ntmps87
  go_wp2_with fail
  go_loopw [3, 4, 5, 6] (fun v3 v4 _ _ wr => ∃ (k : Nat) (n : Int), k ≤ 4 ∧ i + k ≤ s.size ∧ v4 = .int .i64 k ∧ v3 = .int .i64 n ∧ 0 ≤ n ∧ n + 1 ≤ 16 ^ k ∧ Hid (fourF s (4 - k) (i + k) n = X) ∧ Hid (RfB wr p s (i + k) v L 0 ∧ Fr p v v w wr)) (fun _ v4 _ _ _ => 4 - (intOf v4).toNat)
  case atStart => exact ⟨0, 0, by omega, hi, rfl, rfl, by omega, by decide, HX, Lib.hid ⟨H.out, Fr.refl _ _ _⟩⟩
  case round =>
    obtain ⟨k, n, hk, hik, rfl, rfl, hn0, hn1, HE, HR⟩ := hrel
    obtain ⟨W0, hW0⟩ : ∃ x, x = wr := ⟨_, rfl⟩
    subst hW0
    by_cases hk4 : k < 4
    · have hki : (k : Int) < 4 := by omega
      have hp1 : (16 : Int) ^ k ≤ 4096 := by
        rcases (by omega : k = 0 ∨ k = 1 ∨ k = 2 ∨ k = 3) with rfl | rfl | rfl | rfl <;> decide
      have hp2 : (16 : Int) ^ (k + 1) = 16 ^ k * 16 := Int.pow_succ _ _
      obtain ⟨P, hP⟩ : ∃ P, P = (16 : Int) ^ k := ⟨_, rfl⟩
      rw [← hP] at hn1 hp1 hp2
      have HP2 := Lib.hid hp2
      have hbr := byt_range s (i + k)
      have HS : Hid (X = if hexV (byt s (i + k)) < 0 then .bad 40 else fourF s (4 - (k + 1)) (i + (k + 1)) (n * 16 + hexV (byt s (i + k)))) := Lib.hid (by
        rw [← HE.out, show 4 - k = (4 - (k + 1)) + 1 by omega]; rfl)
      have HIN : Hid (byt s (i + k) ≠ 0 → i + k < s.size) := Lib.hid (fun e => byt_in e)
      have HPI : Hid (∀ W, Dr W0 W → Calls Tryd.prog 35 #[.pointer (some ⟨p, 0, none⟩)] W fun e W' => e = .returned (.int .u8 (byt s (i + k))) ∧ Dr W0 W') := Lib.hid (fun W d => (rlook_any W (HR.out.1.dr d).1 (by omega) (by omega)).mono (fun e W' q => ⟨q.1, d.trans q.2⟩))
      obtain ⟨b, hb⟩ : ∃ b, b = byt s (i + k) := ⟨_, rfl⟩
      rw [← hb] at HS HIN HPI hbr
      clear hb HE hP hp2
      go_wp2_with fail
      go_loopg [5, 6] 17 (fun f v5 v6 wr => ∃ (m : Nat) (dd : Int), 17 - m ≤ f ∧ m ≤ 16 ∧ v6 = .int .i64 m ∧ v5 = .int .i64 dd ∧ Hid (dd = dV b m) ∧ Hid (Dr W0 wr))
      case atStart => exact ⟨0, -1, by omega, by omega, rfl, rfl, Lib.hid (by unfold dV; rw [if_neg (by omega)]), Lib.hid (Dr.refl _)⟩
      case round =>
        obtain ⟨m, dd, hf, hm, rfl, rfl, HDD, HDr⟩ := hrel
        by_cases hm16 : m < 16
        · have hmi : (m : Int) < 16 := by omega
          obtain ⟨M, hM⟩ : ∃ M, M = decide (hexV b = m) := ⟨_, rfl⟩
          have HM0 := Lib.hid hM
          clear hM
          go_upto_region 9 with fail
          go_cut [31] (fun v wr => v = .bool M ∧ Hid (Dr W0 wr))
          case first =>
            have i1 := fun W => hexL_at (m : Int) (by omega) (by omega) W .i64
            by_cases h10 : m < 10
            · rw [show hexI (m : Int) = 48 + (m : Int) by unfold hexI; rw [if_pos (by omega)]] at i1
              have hg : ¬ (9 : Int) < (m : Int) := by omega
              by_cases hbm : b = 48 + (m : Int)
              · have HM : Hid (M = true) := Lib.hid (by rw [HM0.out]; apply decide_eq_true; unfold hexV; rw [if_pos (by omega)]; omega)
                have hq : (b == 48 + (m : Int)) = true := by simp [hbm]
                clear hbm
                refine wp_region_held_drew (S := (fun w' => Dr W0 w' ∧ True)) (by kernel_rfl) ⟨HDr.out.trans (⟨rfl, rfl, rfl, rfl⟩ : Dr wr wr.drew), trivial⟩ (fun hHeld => ?_)
                refine wpAnyH_take (i := 0) (oi := { dst := some 15, op := Op.move (Operand.tmp 0), type := 47, pos := "ref.go:203", after := #[], guard := none }) (v := ?_) rfl (by kernel_rfl) (by kernel_rfl) (by kernel_rfl) (fun _ _ _ h => h) (Or.inl ⟨by rfl, ?_⟩) hHeld ?_
                rotate_left
                · (intro w hSw; (try dsimp only at hSw); go_simp <;> with_reducible rfl)
                try simp only [Act.put, List.setIfInBounds_toArray, List.set_cons_zero, List.set_cons_succ]
                refine wpAnyH_take (i := 2) (oi := { dst := some 17, op := Op.move (Operand.tmp 6), type := 3, pos := "ref.go:203", after := #[], guard := none }) (v := ?_) rfl (by kernel_rfl) (by kernel_rfl) (by kernel_rfl) (fun _ _ _ h => h) (Or.inl ⟨by rfl, ?_⟩) hHeld ?_
                rotate_left
                · (intro w hSw; (try dsimp only at hSw); go_simp <;> with_reducible rfl)
                try simp only [Act.put, List.setIfInBounds_toArray, List.set_cons_zero, List.set_cons_succ]
                refine wpAnyH_take (i := 3) (oi := { dst := some 18, op := Op.index 9 (Operand.const (Value.string { data := #[48, 49, 50, 51, 52, 53, 54, 55, 56, 57, 97, 98, 99, 100, 101, 102] })) (Operand.tmp 17), type := 5, pos := "ref.go:203", after := #[{ on := 2, ground := Ground.data }], guard := none }) (v := ?_) rfl (by kernel_rfl) (by kernel_rfl) (by kernel_rfl) (fun _ _ _ h => h) (Or.inl ⟨by rfl, ?_⟩) hHeld ?_
                rotate_left
                · (intro w hSw; (try dsimp only at hSw); go_simp <;> with_reducible rfl)
                try simp only [Act.put, List.setIfInBounds_toArray, List.set_cons_zero, List.set_cons_succ]
                refine wpAnyH_ready (rs := [1]) (by kernel_rfl) (by simp) (AllReadyH.cons (o := { dst := some 16, op := Op.call { callee := Callee.value (Operand.func 35), args := #[Operand.tmp 15], argTypes := #[47] }, type := 5, pos := "ref.go:203", after := #[{ on := 0, ground := Ground.data }], guard := none }) rfl (fun K1 hK1 => ?_) AllReadyH.nil)
                go_simp
                refine (HPI.out _ hHeld.1).mono ?_
                rintro e w' ⟨rfl, hq2⟩
                refine hK1.out _ _ ⟨hq2, trivial⟩ (fun hH_1 => ?_)
                clear hq2
                clear hK1 K1
                try simp only [Act.put, List.setIfInBounds_toArray, List.set_cons_zero, List.set_cons_succ]
                refine wpAnyH_take (i := 4) (oi := { dst := some 19, op := Op.binOp BinOp.eql 5 (Operand.tmp 16) (Operand.tmp 18) 5, type := 4, pos := "ref.go:203", after := #[{ on := 1, ground := Ground.data }, { on := 3, ground := Ground.data }], guard := none }) (v := ?_) rfl (by kernel_rfl) (by kernel_rfl) (by kernel_rfl) (fun _ _ _ h => h) (Or.inl ⟨by rfl, ?_⟩) hH_1 ?_
                rotate_left
                · (intro w hSw; (try dsimp only at hSw); go_simp <;> with_reducible rfl)
                try simp only [Act.put, List.setIfInBounds_toArray, List.set_cons_zero, List.set_cons_succ]
                refine wpAnyH_take (i := 5) (oi := { dst := some 20, op := Op.move (Operand.tmp 19), type := 4, pos := "ref.go:203", after := #[{ on := 4, ground := Ground.data }, { on := 1, ground := Ground.chain }], guard := none }) (v := ?_) rfl (by kernel_rfl) (by kernel_rfl) (by kernel_rfl) (fun _ _ _ h => h) (Or.inl ⟨by rfl, ?_⟩) hH_1 ?_
                rotate_left
                · (intro w hSw; (try dsimp only at hSw); go_simp <;> with_reducible rfl)
                try simp only [Act.put, List.setIfInBounds_toArray, List.set_cons_zero, List.set_cons_succ]
                refine wpAnyH_take (i := 6) (oi := { dst := some 21, op := Op.move (Operand.tmp 6), type := 3, pos := "ref.go:203", after := #[{ on := 5, ground := Ground.guard }], guard := some (5, false) }) (v := undef) rfl (by kernel_rfl) (by kernel_rfl) (by kernel_rfl) (fun _ _ _ h => h) (Or.inr ⟨by rfl, rfl⟩) hH_1 ?_
                try simp only [Act.put, List.setIfInBounds_toArray, List.set_cons_zero, List.set_cons_succ]
                refine wpAnyH_take (i := 7) (oi := { dst := some 22, op := Op.binOp BinOp.gtr 3 (Operand.tmp 21) (Operand.const (Value.int IntKind.i64 9)) 3, type := 4, pos := "ref.go:203", after := #[{ on := 6, ground := Ground.data }, { on := 5, ground := Ground.guard }], guard := some (5, false) }) (v := undef) rfl (by kernel_rfl) (by kernel_rfl) (by kernel_rfl) (fun _ _ _ h => h) (Or.inr ⟨by rfl, rfl⟩) hH_1 ?_
                try simp only [Act.put, List.setIfInBounds_toArray, List.set_cons_zero, List.set_cons_succ]
                refine wpAnyH_take (i := 8) (oi := { dst := some 23, op := Op.move (Operand.tmp 22), type := 4, pos := "ref.go:203", after := #[{ on := 7, ground := Ground.data }, { on := 5, ground := Ground.chain }, { on := 5, ground := Ground.guard }], guard := some (5, false) }) (v := undef) rfl (by kernel_rfl) (by kernel_rfl) (by kernel_rfl) (fun _ _ _ h => h) (Or.inr ⟨by rfl, rfl⟩) hH_1 ?_
                try simp only [Act.put, List.setIfInBounds_toArray, List.set_cons_zero, List.set_cons_succ]
                refine wpAnyH_take (i := 9) (oi := { dst := some 24, op := Op.move (Operand.tmp 0), type := 47, pos := "ref.go:203", after := #[{ on := 8, ground := Ground.guard }], guard := some (8, true) }) (v := undef) rfl (by kernel_rfl) (by kernel_rfl) (by kernel_rfl) (fun _ _ _ h => h) (Or.inr ⟨by rfl, rfl⟩) hH_1 ?_
                try simp only [Act.put, List.setIfInBounds_toArray, List.set_cons_zero, List.set_cons_succ]
                refine wpAnyH_take (i := 10) (oi := { dst := some 25, op := Op.call { callee := Callee.value (Operand.func 35), args := #[Operand.tmp 24], argTypes := #[47] }, type := 5, pos := "ref.go:203", after := #[{ on := 9, ground := Ground.data }, { on := 8, ground := Ground.chain }, { on := 8, ground := Ground.guard }], guard := some (8, true) }) (v := undef) rfl (by kernel_rfl) (by kernel_rfl) (by kernel_rfl) (fun _ _ _ h => h) (Or.inr ⟨by rfl, rfl⟩) hH_1 ?_
                try simp only [Act.put, List.setIfInBounds_toArray, List.set_cons_zero, List.set_cons_succ]
                refine wpAnyH_take (i := 11) (oi := { dst := some 26, op := Op.move (Operand.tmp 6), type := 3, pos := "ref.go:203", after := #[{ on := 8, ground := Ground.guard }], guard := some (8, true) }) (v := undef) rfl (by kernel_rfl) (by kernel_rfl) (by kernel_rfl) (fun _ _ _ h => h) (Or.inr ⟨by rfl, rfl⟩) hH_1 ?_
                try simp only [Act.put, List.setIfInBounds_toArray, List.set_cons_zero, List.set_cons_succ]
                refine wpAnyH_take (i := 12) (oi := { dst := some 27, op := Op.index 9 (Operand.const (Value.string { data := #[48, 49, 50, 51, 52, 53, 54, 55, 56, 57, 97, 98, 99, 100, 101, 102] })) (Operand.tmp 26), type := 5, pos := "ref.go:203", after := #[{ on := 11, ground := Ground.data }, { on := 8, ground := Ground.guard }], guard := some (8, true) }) (v := undef) rfl (by kernel_rfl) (by kernel_rfl) (by kernel_rfl) (fun _ _ _ h => h) (Or.inr ⟨by rfl, rfl⟩) hH_1 ?_
                try simp only [Act.put, List.setIfInBounds_toArray, List.set_cons_zero, List.set_cons_succ]
                refine wpAnyH_take (i := 13) (oi := { dst := some 28, op := Op.binOp BinOp.sub 5 (Operand.tmp 27) (Operand.const (Value.int IntKind.u8 32)) 5, type := 5, pos := "ref.go:203", after := #[{ on := 12, ground := Ground.data }, { on := 8, ground := Ground.guard }], guard := some (8, true) }) (v := undef) rfl (by kernel_rfl) (by kernel_rfl) (by kernel_rfl) (fun _ _ _ h => h) (Or.inr ⟨by rfl, rfl⟩) hH_1 ?_
                try simp only [Act.put, List.setIfInBounds_toArray, List.set_cons_zero, List.set_cons_succ]
                refine wpAnyH_take (i := 14) (oi := { dst := some 29, op := Op.binOp BinOp.eql 5 (Operand.tmp 25) (Operand.tmp 28) 5, type := 4, pos := "ref.go:203", after := #[{ on := 10, ground := Ground.data }, { on := 13, ground := Ground.data }, { on := 8, ground := Ground.guard }], guard := some (8, true) }) (v := undef) rfl (by kernel_rfl) (by kernel_rfl) (by kernel_rfl) (fun _ _ _ h => h) (Or.inr ⟨by rfl, rfl⟩) hH_1 ?_
                try simp only [Act.put, List.setIfInBounds_toArray, List.set_cons_zero, List.set_cons_succ]
                refine wpAnyH_take (i := 15) (oi := { dst := some 30, op := Op.pick (Operand.tmp 23) (Operand.tmp 29) (Operand.const (Value.bool false)), type := 4, pos := "ref.go:203", after := #[{ on := 8, ground := Ground.data }, { on := 14, ground := Ground.data }, { on := 5, ground := Ground.guard }], guard := some (5, false) }) (v := undef) rfl (by kernel_rfl) (by kernel_rfl) (by kernel_rfl) (fun _ _ _ h => h) (Or.inr ⟨by rfl, rfl⟩) hH_1 ?_
                try simp only [Act.put, List.setIfInBounds_toArray, List.set_cons_zero, List.set_cons_succ]
                refine wpAnyH_take (i := 16) (oi := { dst := some 31, op := Op.pick (Operand.tmp 20) (Operand.const (Value.bool true)) (Operand.tmp 30), type := 4, pos := "ref.go:203", after := #[{ on := 5, ground := Ground.data }, { on := 15, ground := Ground.data }], guard := none }) (v := ?_) rfl (by kernel_rfl) (by kernel_rfl) (by kernel_rfl) (fun _ _ _ h => h) (Or.inl ⟨by rfl, ?_⟩) hH_1 ?_
                rotate_left
                · (intro w hSw; (try dsimp only at hSw); go_simp <;> with_reducible rfl)
                try simp only [Act.put, List.setIfInBounds_toArray, List.set_cons_zero, List.set_cons_succ]
                refine wpAnyH_done (by kernel_rfl) ?_ _
                have hLast := Lib.hid hH_1.1
                go_wp2_with fail
                go_meet
                exact ⟨by rw [HM.out], hLast⟩
              · have HM : Hid (M = false) := Lib.hid (by rw [HM0.out]; apply decide_eq_false; unfold hexV; (repeat' split) <;> omega)
                have hq : (b == 48 + (m : Int)) = false := beq_eq_false_iff_ne.2 hbm
                clear hbm
                first | (go_region_with (go_at_call 35; refine (HPI.out _ (HDr.out.trans (⟨rfl, rfl, rfl, rfl⟩ : Dr wr wr.drew))).mono ?_; rintro e w1 ⟨rfl, d⟩; have D1 := Lib.hid d; clear d)) | fail
                all_goals
                  go_wp2_with fail
                  go_meet
                  exact ⟨by rw [HM.out], D1⟩
            · rw [show hexI (m : Int) = 87 + (m : Int) by unfold hexI; rw [if_neg (by omega)]] at i1
              have hg : (9 : Int) < (m : Int) := by omega
              have t1 : IntKind.u8.wrap (87 + (m : Int) - 32) = 55 + (m : Int) := by rw [IntKind.wrap_u8]; omega
              by_cases hbm : b = 87 + (m : Int)
              · have HM : Hid (M = true) := Lib.hid (by rw [HM0.out]; apply decide_eq_true; unfold hexV; (repeat' split) <;> omega)
                have hq : (b == 87 + (m : Int)) = true := by simp [hbm]
                clear hbm
                refine wp_region_held_drew (S := (fun w' => Dr W0 w' ∧ True)) (by kernel_rfl) ⟨HDr.out.trans (⟨rfl, rfl, rfl, rfl⟩ : Dr wr wr.drew), trivial⟩ (fun hHeld => ?_)
                refine wpAnyH_take (i := 0) (oi := { dst := some 15, op := Op.move (Operand.tmp 0), type := 47, pos := "ref.go:203", after := #[], guard := none }) (v := ?_) rfl (by kernel_rfl) (by kernel_rfl) (by kernel_rfl) (fun _ _ _ h => h) (Or.inl ⟨by rfl, ?_⟩) hHeld ?_
                rotate_left
                · (intro w hSw; (try dsimp only at hSw); go_simp <;> with_reducible rfl)
                try simp only [Act.put, List.setIfInBounds_toArray, List.set_cons_zero, List.set_cons_succ]
                refine wpAnyH_take (i := 2) (oi := { dst := some 17, op := Op.move (Operand.tmp 6), type := 3, pos := "ref.go:203", after := #[], guard := none }) (v := ?_) rfl (by kernel_rfl) (by kernel_rfl) (by kernel_rfl) (fun _ _ _ h => h) (Or.inl ⟨by rfl, ?_⟩) hHeld ?_
                rotate_left
                · (intro w hSw; (try dsimp only at hSw); go_simp <;> with_reducible rfl)
                try simp only [Act.put, List.setIfInBounds_toArray, List.set_cons_zero, List.set_cons_succ]
                refine wpAnyH_take (i := 3) (oi := { dst := some 18, op := Op.index 9 (Operand.const (Value.string { data := #[48, 49, 50, 51, 52, 53, 54, 55, 56, 57, 97, 98, 99, 100, 101, 102] })) (Operand.tmp 17), type := 5, pos := "ref.go:203", after := #[{ on := 2, ground := Ground.data }], guard := none }) (v := ?_) rfl (by kernel_rfl) (by kernel_rfl) (by kernel_rfl) (fun _ _ _ h => h) (Or.inl ⟨by rfl, ?_⟩) hHeld ?_
                rotate_left
                · (intro w hSw; (try dsimp only at hSw); go_simp <;> with_reducible rfl)
                try simp only [Act.put, List.setIfInBounds_toArray, List.set_cons_zero, List.set_cons_succ]
                refine wpAnyH_ready (rs := [1]) (by kernel_rfl) (by simp) (AllReadyH.cons (o := { dst := some 16, op := Op.call { callee := Callee.value (Operand.func 35), args := #[Operand.tmp 15], argTypes := #[47] }, type := 5, pos := "ref.go:203", after := #[{ on := 0, ground := Ground.data }], guard := none }) rfl (fun K1 hK1 => ?_) AllReadyH.nil)
                go_simp
                refine (HPI.out _ hHeld.1).mono ?_
                rintro e w' ⟨rfl, hq2⟩
                refine hK1.out _ _ ⟨hq2, trivial⟩ (fun hH_1 => ?_)
                clear hq2
                clear hK1 K1
                try simp only [Act.put, List.setIfInBounds_toArray, List.set_cons_zero, List.set_cons_succ]
                refine wpAnyH_take (i := 4) (oi := { dst := some 19, op := Op.binOp BinOp.eql 5 (Operand.tmp 16) (Operand.tmp 18) 5, type := 4, pos := "ref.go:203", after := #[{ on := 1, ground := Ground.data }, { on := 3, ground := Ground.data }], guard := none }) (v := ?_) rfl (by kernel_rfl) (by kernel_rfl) (by kernel_rfl) (fun _ _ _ h => h) (Or.inl ⟨by rfl, ?_⟩) hH_1 ?_
                rotate_left
                · (intro w hSw; (try dsimp only at hSw); go_simp <;> with_reducible rfl)
                try simp only [Act.put, List.setIfInBounds_toArray, List.set_cons_zero, List.set_cons_succ]
                refine wpAnyH_take (i := 5) (oi := { dst := some 20, op := Op.move (Operand.tmp 19), type := 4, pos := "ref.go:203", after := #[{ on := 4, ground := Ground.data }, { on := 1, ground := Ground.chain }], guard := none }) (v := ?_) rfl (by kernel_rfl) (by kernel_rfl) (by kernel_rfl) (fun _ _ _ h => h) (Or.inl ⟨by rfl, ?_⟩) hH_1 ?_
                rotate_left
                · (intro w hSw; (try dsimp only at hSw); go_simp <;> with_reducible rfl)
                try simp only [Act.put, List.setIfInBounds_toArray, List.set_cons_zero, List.set_cons_succ]
                refine wpAnyH_take (i := 6) (oi := { dst := some 21, op := Op.move (Operand.tmp 6), type := 3, pos := "ref.go:203", after := #[{ on := 5, ground := Ground.guard }], guard := some (5, false) }) (v := undef) rfl (by kernel_rfl) (by kernel_rfl) (by kernel_rfl) (fun _ _ _ h => h) (Or.inr ⟨by rfl, rfl⟩) hH_1 ?_
                try simp only [Act.put, List.setIfInBounds_toArray, List.set_cons_zero, List.set_cons_succ]
                refine wpAnyH_take (i := 7) (oi := { dst := some 22, op := Op.binOp BinOp.gtr 3 (Operand.tmp 21) (Operand.const (Value.int IntKind.i64 9)) 3, type := 4, pos := "ref.go:203", after := #[{ on := 6, ground := Ground.data }, { on := 5, ground := Ground.guard }], guard := some (5, false) }) (v := undef) rfl (by kernel_rfl) (by kernel_rfl) (by kernel_rfl) (fun _ _ _ h => h) (Or.inr ⟨by rfl, rfl⟩) hH_1 ?_
                try simp only [Act.put, List.setIfInBounds_toArray, List.set_cons_zero, List.set_cons_succ]
                refine wpAnyH_take (i := 8) (oi := { dst := some 23, op := Op.move (Operand.tmp 22), type := 4, pos := "ref.go:203", after := #[{ on := 7, ground := Ground.data }, { on := 5, ground := Ground.chain }, { on := 5, ground := Ground.guard }], guard := some (5, false) }) (v := undef) rfl (by kernel_rfl) (by kernel_rfl) (by kernel_rfl) (fun _ _ _ h => h) (Or.inr ⟨by rfl, rfl⟩) hH_1 ?_
                try simp only [Act.put, List.setIfInBounds_toArray, List.set_cons_zero, List.set_cons_succ]
                refine wpAnyH_take (i := 9) (oi := { dst := some 24, op := Op.move (Operand.tmp 0), type := 47, pos := "ref.go:203", after := #[{ on := 8, ground := Ground.guard }], guard := some (8, true) }) (v := undef) rfl (by kernel_rfl) (by kernel_rfl) (by kernel_rfl) (fun _ _ _ h => h) (Or.inr ⟨by rfl, rfl⟩) hH_1 ?_
                try simp only [Act.put, List.setIfInBounds_toArray, List.set_cons_zero, List.set_cons_succ]
                refine wpAnyH_take (i := 10) (oi := { dst := some 25, op := Op.call { callee := Callee.value (Operand.func 35), args := #[Operand.tmp 24], argTypes := #[47] }, type := 5, pos := "ref.go:203", after := #[{ on := 9, ground := Ground.data }, { on := 8, ground := Ground.chain }, { on := 8, ground := Ground.guard }], guard := some (8, true) }) (v := undef) rfl (by kernel_rfl) (by kernel_rfl) (by kernel_rfl) (fun _ _ _ h => h) (Or.inr ⟨by rfl, rfl⟩) hH_1 ?_
                try simp only [Act.put, List.setIfInBounds_toArray, List.set_cons_zero, List.set_cons_succ]
                refine wpAnyH_take (i := 11) (oi := { dst := some 26, op := Op.move (Operand.tmp 6), type := 3, pos := "ref.go:203", after := #[{ on := 8, ground := Ground.guard }], guard := some (8, true) }) (v := undef) rfl (by kernel_rfl) (by kernel_rfl) (by kernel_rfl) (fun _ _ _ h => h) (Or.inr ⟨by rfl, rfl⟩) hH_1 ?_
                try simp only [Act.put, List.setIfInBounds_toArray, List.set_cons_zero, List.set_cons_succ]
                refine wpAnyH_take (i := 12) (oi := { dst := some 27, op := Op.index 9 (Operand.const (Value.string { data := #[48, 49, 50, 51, 52, 53, 54, 55, 56, 57, 97, 98, 99, 100, 101, 102] })) (Operand.tmp 26), type := 5, pos := "ref.go:203", after := #[{ on := 11, ground := Ground.data }, { on := 8, ground := Ground.guard }], guard := some (8, true) }) (v := undef) rfl (by kernel_rfl) (by kernel_rfl) (by kernel_rfl) (fun _ _ _ h => h) (Or.inr ⟨by rfl, rfl⟩) hH_1 ?_
                try simp only [Act.put, List.setIfInBounds_toArray, List.set_cons_zero, List.set_cons_succ]
                refine wpAnyH_take (i := 13) (oi := { dst := some 28, op := Op.binOp BinOp.sub 5 (Operand.tmp 27) (Operand.const (Value.int IntKind.u8 32)) 5, type := 5, pos := "ref.go:203", after := #[{ on := 12, ground := Ground.data }, { on := 8, ground := Ground.guard }], guard := some (8, true) }) (v := undef) rfl (by kernel_rfl) (by kernel_rfl) (by kernel_rfl) (fun _ _ _ h => h) (Or.inr ⟨by rfl, rfl⟩) hH_1 ?_
                try simp only [Act.put, List.setIfInBounds_toArray, List.set_cons_zero, List.set_cons_succ]
                refine wpAnyH_take (i := 14) (oi := { dst := some 29, op := Op.binOp BinOp.eql 5 (Operand.tmp 25) (Operand.tmp 28) 5, type := 4, pos := "ref.go:203", after := #[{ on := 10, ground := Ground.data }, { on := 13, ground := Ground.data }, { on := 8, ground := Ground.guard }], guard := some (8, true) }) (v := undef) rfl (by kernel_rfl) (by kernel_rfl) (by kernel_rfl) (fun _ _ _ h => h) (Or.inr ⟨by rfl, rfl⟩) hH_1 ?_
                try simp only [Act.put, List.setIfInBounds_toArray, List.set_cons_zero, List.set_cons_succ]
                refine wpAnyH_take (i := 15) (oi := { dst := some 30, op := Op.pick (Operand.tmp 23) (Operand.tmp 29) (Operand.const (Value.bool false)), type := 4, pos := "ref.go:203", after := #[{ on := 8, ground := Ground.data }, { on := 14, ground := Ground.data }, { on := 5, ground := Ground.guard }], guard := some (5, false) }) (v := undef) rfl (by kernel_rfl) (by kernel_rfl) (by kernel_rfl) (fun _ _ _ h => h) (Or.inr ⟨by rfl, rfl⟩) hH_1 ?_
                try simp only [Act.put, List.setIfInBounds_toArray, List.set_cons_zero, List.set_cons_succ]
                refine wpAnyH_take (i := 16) (oi := { dst := some 31, op := Op.pick (Operand.tmp 20) (Operand.const (Value.bool true)) (Operand.tmp 30), type := 4, pos := "ref.go:203", after := #[{ on := 5, ground := Ground.data }, { on := 15, ground := Ground.data }], guard := none }) (v := ?_) rfl (by kernel_rfl) (by kernel_rfl) (by kernel_rfl) (fun _ _ _ h => h) (Or.inl ⟨by rfl, ?_⟩) hH_1 ?_
                rotate_left
                · (intro w hSw; (try dsimp only at hSw); go_simp <;> with_reducible rfl)
                try simp only [Act.put, List.setIfInBounds_toArray, List.set_cons_zero, List.set_cons_succ]
                refine wpAnyH_done (by kernel_rfl) ?_ _
                have hLast := Lib.hid hH_1.1
                go_wp2_with fail
                go_meet
                exact ⟨by rw [HM.out], hLast⟩
              have hq : (b == 87 + (m : Int)) = false := beq_eq_false_iff_ne.2 hbm
              by_cases hbn : b = 55 + (m : Int)
              · have HM : Hid (M = true) := Lib.hid (by rw [HM0.out]; apply decide_eq_true; unfold hexV; (repeat' split) <;> omega)
                have hq2 : (b == 55 + (m : Int)) = true := by simp [hbn]
                clear hbm hbn
                first | (go_region_with (first | (go_at_call 35; refine (HPI.out _ D1.out).mono ?_; rintro e w2 ⟨rfl, d⟩; have D2 := Lib.hid d; clear d) | (go_at_call 35; refine (HPI.out _ (HDr.out.trans (⟨rfl, rfl, rfl, rfl⟩ : Dr wr wr.drew))).mono ?_; rintro e w1 ⟨rfl, d⟩; have D1 := Lib.hid d; clear d))) | fail
                all_goals
                  go_wp2_with fail
                  go_meet
                  exact ⟨by rw [HM.out], D2⟩
              · have HM : Hid (M = false) := Lib.hid (by rw [HM0.out]; apply decide_eq_false; unfold hexV; (repeat' split) <;> omega)
                have hq2 : (b == 55 + (m : Int)) = false := beq_eq_false_iff_ne.2 hbn
                clear hbm hbn
                first | (go_region_with (first | (go_at_call 35; refine (HPI.out _ D1.out).mono ?_; rintro e w2 ⟨rfl, d⟩; have D2 := Lib.hid d; clear d) | (go_at_call 35; refine (HPI.out _ (HDr.out.trans (⟨rfl, rfl, rfl, rfl⟩ : Dr wr wr.drew))).mono ?_; rintro e w1 ⟨rfl, d⟩; have D1 := Lib.hid d; clear d))) | fail
                all_goals
                  go_wp2_with fail
                  go_meet
                  exact ⟨by rw [HM.out], D2⟩
          case rest =>
            obtain ⟨rfl, HD3⟩ := hcut
            by_cases hMh : hexV b = m
            · have HN : Hid ((m : Int) = dV b (m + 1)) := Lib.hid (by have := hexV_range b; unfold dV; rw [if_pos (by omega)]; omega)
              have hMt : M = true := by rw [HM0.out]; exact decide_eq_true hMh
              subst hMt
              clear hMh
              go_wp2_with fail
              go_roundg (gk - 1)
              case rel => exact ⟨m + 1, _, by omega, by omega, by go_num, rfl, HN, HD3⟩
              case measure => omega
            · have HN : Hid (dd = dV b (m + 1)) := Lib.hid (by rw [HDD.out]; unfold dV; (repeat' split) <;> omega)
              have hMt : M = false := by rw [HM0.out]; exact decide_eq_false hMh
              subst hMt
              clear hMh
              go_wp2_with fail
              go_roundg (gk - 1)
              case rel => exact ⟨m + 1, _, by omega, by omega, by go_num, rfl, HN, HD3⟩
              case measure => omega
        · obtain rfl : m = 16 := by omega
          have HD16 : Hid (dd = hexV b) := Lib.hid (by rw [HDD.out]; exact dV_16 b)
          clear HDD
          have hxr := hexV_range b
          rw [← HD16.out] at HS hxr
          have HR2 := Lib.hid (HR.out.1.dr HDr.out)
          by_cases hd0 : dd < 0
          · rw [if_pos hd0] at HS
            go_wp2_with fail
            refine (rfail_ok 40 _ HR2.out.1).mono ?_
            rintro e w2 ⟨rfl, r2, f2⟩
            have R2 := Lib.hid (And.intro r2 (HR.out.2.trans (HR2.out.2.trans f2)))
            clear r2 f2
            go_wp2_with fail
            go_ret
            rw [HS.out]
            exact ⟨i + k, rfl, hik, R2.out.1, R2.out.2⟩
          · rw [if_neg hd0] at HS
            have hbz : b ≠ 0 := by
              intro e
              have q := HD16.out
              rw [e] at q
              rw [q] at hd0
              exact hd0 (by decide)
            have hin := HIN.out hbz
            have c1 := HR2.out.1.c1
            have z1 := HR2.out.1.z 1
            have RN := Lib.hid (And.intro (HR2.out.1.at_ (i + k + 1) (((i + k : Nat) : Int) + 1) (by omega)).1 (HR2.out.2.trans (HR2.out.1.at_ (i + k + 1) (((i + k : Nat) : Int) + 1) (by omega)).2))
            have hiki : ((i + k : Nat) : Int) ≤ 1000000 := by omega
            clear hbz
            go_wp2_with fail
            go_roundw
            case rel => exact ⟨k + 1, 16 * n + dd, by omega, by omega, by go_num, rfl, by omega, by rw [HP2.out]; omega, Lib.hid (by rw [Int.mul_comm 16 n]; exact HS.out.symm), Lib.hid ⟨RN.out.1, HR.out.2.trans RN.out.2⟩⟩
            case measure => (simp [intOf]; omega)
    · obtain rfl : k = 4 := by omega
      go_wp2_with fail
      go_ret
      rw [← HE.out]
      exact ⟨rfl, HR.out.1, HR.out.2⟩
end Go.Proofs.YtoicmcjpaodgpaaDoor
/- Layer 4, the document's Read: four digits where an error stands. -/
namespace Go.Proofs.YtoicmcjpaodgpaaDoor
open Go.RowKit Go.Maps
theorem wordM_bad {s : ByteArray} : ∀ (l : List Int) (i : Nat) (m : Int), wordM s l i = .bad m → m = 40
  | [], i, m, e => by cases e
  | c :: r, i, m, e => by
    unfold wordM at e
    split at e
    · exact wordM_bad r _ _ e
    · cases e; rfl
theorem fourF_bad {s : ByteArray} : ∀ (k i : Nat) (n m : Int), fourF s k i n = .bad m → m = 40
  | 0, i, n, m, e => by cases e
  | k + 1, i, n, m, e => by
    unfold fourF at e
    split at e
    · cases e; rfl
    · exact fourF_bad k _ _ _ e
theorem pointM_bad {s : ByteArray} {i : Nat} {m : Int} (e : pointM s i = .bad m) : m = 40 := by
  unfold pointM at e
  cases h1 : fourF s 4 i 0 with
  | bad m' => rw [h1] at e; cases e; exact fourF_bad _ _ _ _ h1
  | ok y =>
    rw [h1] at e
    simp only [Rs.bind_ok] at e
    split at e
    · cases h2 : wordM s [92, 117] y.2 with
      | bad m' => rw [h2] at e; cases e; exact wordM_bad _ _ _ h2
      | ok j =>
        rw [h2] at e
        simp only [Rs.bind_ok] at e
        cases h3 : fourF s 4 j 0 with
        | bad m' => rw [h3] at e; cases e; exact fourF_bad _ _ _ _ h3
        | ok z =>
          rw [h3] at e
          simp only [Rs.bind_ok] at e
          split at e
          · cases e; rfl
          · cases e
    · split at e
      · cases e
      · cases e; rfl
theorem escP_bad {s : ByteArray} {i : Nat} {m : Int} (e : escP s i = .bad m) : m = 40 := by
  unfold escP at e
  split at e
  · cases e
  split at e
  · cases e
  split at e
  · cases e
  split at e
  · cases e
  split at e
  · cases e
  split at e
  · cases e
  split at e
  · exact pointM_bad e
  · cases e; rfl
theorem stP_bad {s : ByteArray} : ∀ (f j : Nat) (ps : List Int) (m : Int), stP s f j ps = .bad m → m = 40 := by
  intro f
  induction f with
  | zero => intro j ps m e; cases e; rfl
  | succ f ih =>
    intro j ps m e
    unfold stP at e
    split at e
    · cases e
    split at e
    · cases e; rfl
    split at e
    · cases he : escP s (j + 1) with
      | bad m' => rw [he] at e; cases e; exact escP_bad he
      | ok y => rw [he] at e; exact ih _ _ _ e
    · exact ih _ _ _ e
set_option maxRecDepth 20000 in
set_option maxHeartbeats 4000000 in
theorem rfour_err {p i : Nat} {s : ByteArray} {v : Value} {L : List CR} {e0 : Int} (w : World) (h : RfB w p s i v L e0) (he : e0 ≠ 0) (hs : s.size ≤ 1000000) (hi : i ≤ s.size) : Calls Tryd.prog 87 #[.pointer (some ⟨p, 0, none⟩)] w fun e w' => e = .returned (.int .i64 0) ∧ RfB w' p s i v L e0 ∧ Fr p v v w w' := by
  have H := Lib.hid h
  have HPI : Hid (∀ W, Dr w W → Calls Tryd.prog 35 #[.pointer (some ⟨p, 0, none⟩)] W fun e W' => e = .returned (.int .u8 0) ∧ Dr w W') := Lib.hid (fun W d => by
    have q := rlook_any W (h.dr d).1 (by omega) (by omega)
    have e1 : lk s e0 i = 0 := by unfold lk; rw [if_neg he]
    rw [e1] at q
    exact q.mono (fun e W' q => ⟨q.1, d.trans q.2⟩))
  have HF := Lib.hid (fun W (r : RfB W p s i v L e0) => rfail_no 40 W r he)
  clear h hi hs he
  go_enter Tryd.func87, Tryd.ntmps87
  go_wp2_with fail
  refine wp_loop_rounds 1 ?_
  rw [rounds_succ]
  go_wp2_with fail
  go_loopg [5, 6] 17 (fun f v5 v6 wr => ∃ m : Nat, 17 - m ≤ f ∧ m ≤ 16 ∧ v6 = .int .i64 m ∧ v5 = .int .i64 (-1) ∧ Hid (Dr w wr))
  case atStart => exact ⟨0, by omega, by omega, rfl, rfl, Lib.hid (Dr.refl _)⟩
  case round =>
    obtain ⟨m, hf, hm, rfl, rfl, HDr⟩ := hrel
    by_cases hm16 : m < 16
    · have hmi : (m : Int) < 16 := by omega
      have i1 := fun W => hexL_at (m : Int) (by omega) (by omega) W .i64
      by_cases h10 : m < 10
      · rw [show hexI (m : Int) = 48 + (m : Int) by unfold hexI; rw [if_pos (by omega)]] at i1
        have hg : ¬ (9 : Int) < (m : Int) := by omega
        have hq : ((0 : Int) == 48 + (m : Int)) = false := beq_eq_false_iff_ne.2 (by omega)
        go_wp2_with fail
        first | (go_region_with (go_at_call 35; refine (HPI.out _ (HDr.out.trans (⟨rfl, rfl, rfl, rfl⟩ : Dr wr wr.drew))).mono ?_; rintro e w1 ⟨rfl, d⟩; have D1 := Lib.hid d; clear d)) | fail
        all_goals
          go_wp2_with fail
          go_roundg (gk - 1)
          case rel => exact ⟨m + 1, by omega, by omega, by go_num, rfl, D1⟩
          case measure => omega
      · rw [show hexI (m : Int) = 87 + (m : Int) by unfold hexI; rw [if_neg (by omega)]] at i1
        have hg : (9 : Int) < (m : Int) := by omega
        have t1 : IntKind.u8.wrap (87 + (m : Int) - 32) = 55 + (m : Int) := by rw [IntKind.wrap_u8]; omega
        have hq : ((0 : Int) == 87 + (m : Int)) = false := beq_eq_false_iff_ne.2 (by omega)
        have hq2 : ((0 : Int) == 55 + (m : Int)) = false := beq_eq_false_iff_ne.2 (by omega)
        go_wp2_with fail
        first | (go_region_with (first | (go_at_call 35; refine (HPI.out _ D1.out).mono ?_; rintro e w2 ⟨rfl, d⟩; have D2 := Lib.hid d; clear d) | (go_at_call 35; refine (HPI.out _ (HDr.out.trans (⟨rfl, rfl, rfl, rfl⟩ : Dr wr wr.drew))).mono ?_; rintro e w1 ⟨rfl, d⟩; have D1 := Lib.hid d; clear d))) | fail
        all_goals
          go_wp2_with fail
          go_roundg (gk - 1)
          case rel => exact ⟨m + 1, by omega, by omega, by go_num, rfl, D2⟩
          case measure => omega
    · obtain rfl : m = 16 := by omega
      go_wp2_with fail
      refine (HF.out _ (H.out.dr HDr.out).1).mono ?_
      rintro e w2 ⟨rfl, hw⟩
      obtain rfl := hw.symm
      go_wp2_with fail
      go_ret
      exact ⟨rfl, (H.out.dr HDr.out).1, (H.out.dr HDr.out).2⟩
end Go.Proofs.YtoicmcjpaodgpaaDoor
/- Layer 4, the document's Read: what stands behind a backslash. -/
namespace Go.Proofs.YtoicmcjpaodgpaaDoor
open Go.RowKit Go.Maps
/-- The marks, and their code points. -/
def mkI (m : Nat) : Int := ([34, 92, 47, 98, 102, 110, 114, 116] : List Int).getD m 0
def ptI (m : Nat) : Int := ([34, 92, 47, 8, 12, 10, 13, 9] : List Int).getD m 0
theorem mkL_at (m : Nat) (h : m < 8) (w : World) : (Instr.index 9 (.string ⟨#[34, 92, 47, 98, 102, 110, 114, 116]⟩) (.int .i64 (m : Int))).run Tryd.prog w = .ok (.int .u8 (mkI m)) w := by
  rw [run_index_string _ _ _ _ _ Tryd.underlying9]
  rcases (show m = 0 ∨ m = 1 ∨ m = 2 ∨ m = 3 ∨ m = 4 ∨ m = 5 ∨ m = 6 ∨ m = 7 by omega) with rfl | rfl | rfl | rfl | rfl | rfl | rfl | rfl <;> rfl
theorem pt_cells {w : World} {m : Nat} (h : m < 8) : (w.alloc (.cells #[.int .i64 34, .int .i64 92, .int .i64 47, .int .i64 8, .int .i64 12, .int .i64 10, .int .i64 13, .int .i64 9] 3)).cell? ⟨w.heap.size, m, none⟩ = some (.int .i64 (ptI m)) := by
  simp only [World.cell?, heap_alloc_new]
  rcases (show m = 0 ∨ m = 1 ∨ m = 2 ∨ m = 3 ∨ m = 4 ∨ m = 5 ∨ m = 6 ∨ m = 7 by omega) with rfl | rfl | rfl | rfl | rfl | rfl | rfl | rfl <;> rfl
theorem escP_hit {s : ByteArray} {i m : Nat} (h : m < 8) (hb : byt s i = mkI m) : escP s i = .ok (ptI m, i + 1) := by
  unfold escP
  rw [hb]
  rcases (show m = 0 ∨ m = 1 ∨ m = 2 ∨ m = 3 ∨ m = 4 ∨ m = 5 ∨ m = 6 ∨ m = 7 by omega) with rfl | rfl | rfl | rfl | rfl | rfl | rfl | rfl <;> rfl
theorem mkI_ne {m : Nat} (h : m < 8) : mkI m ≠ 0 ∧ mkI m ≠ 117 := by
  rcases (show m = 0 ∨ m = 1 ∨ m = 2 ∨ m = 3 ∨ m = 4 ∨ m = 5 ∨ m = 6 ∨ m = 7 by omega) with rfl | rfl | rfl | rfl | rfl | rfl | rfl | rfl <;> decide
theorem escP_miss {s : ByteArray} {i : Nat} (h : ∀ m, m < 8 → byt s i ≠ mkI m) : escP s i = if byt s i = 117 then pointM s (i + 1) else .bad 40 := by
  have h0 := h 0 (by decide)
  have h1 := h 1 (by decide)
  have h2 := h 2 (by decide)
  have h3 := h 3 (by decide)
  have h4 := h 4 (by decide)
  have h5 := h 5 (by decide)
  have h6 := h 6 (by decide)
  have h7 := h 7 (by decide)
  unfold mkI at h0 h1 h2 h3 h4 h5 h6 h7
  simp at h0 h1 h2 h3 h4 h5 h6 h7
  unfold escP
  rw [if_neg (by omega), if_neg h3, if_neg h4, if_neg h5, if_neg h6, if_neg h7]
theorem word_in {s : ByteArray} : ∀ {l : List Int} {i j : Nat}, wordM s l i = .ok j → i ≤ s.size → (∀ c ∈ l, c ≠ 0) → j ≤ s.size
  | [], i, j, e, h, _ => by cases e; exact h
  | c :: r, i, j, e, h, h0 => by
    unfold wordM at e
    split at e
    · rename_i hb
      have := byt_in (s := s) (i := i) (by rw [hb]; exact h0 c (by simp))
      exact word_in e this (fun x hx => h0 x (by simp [hx]))
    · cases e
theorem four_in {s : ByteArray} : ∀ {k i : Nat} {n m : Int} {j : Nat}, fourF s k i n = .ok (m, j) → i ≤ s.size → j ≤ s.size
  | 0, i, n, m, j, e, h => by cases e; exact h
  | k + 1, i, n, m, j, e, h => by
    unfold fourF at e
    split at e
    · cases e
    · rename_i hh
      have := byt_in (s := s) (i := i) (by intro e0; rw [e0] at hh; exact hh (by decide))
      exact four_in e this
theorem isPt_16 {n : Int} (h0 : 0 ≤ n) (h1 : n ≤ 65535) (h2 : ¬ (55296 ≤ n ∧ n ≤ 56319)) : isPt n = !(decide (56320 ≤ n ∧ n ≤ 57343)) := by
  unfold isPt
  by_cases k : 56320 ≤ n ∧ n ≤ 57343
  · rw [decide_eq_true k, decide_eq_false (by omega)]; rfl
  · rw [decide_eq_false k, decide_eq_true (by omega)]; rfl
set_option maxRecDepth 20000 in
set_option maxHeartbeats 0 in
theorem rescape_any {p i : Nat} {s : ByteArray} {v : Value} {L : List CR} (w : World) (h : RfB w p s i v L 0) (hs : s.size ≤ 1000000) (hi : i ≤ s.size) : Calls Tryd.prog 60 #[.pointer (some ⟨p, 0, none⟩)] w (RfV p s v L w (escP s i)) := by
  obtain ⟨X, hX⟩ : ∃ X, X = escP s i := ⟨_, rfl⟩
  rw [← hX]
  have HXX := Lib.hid hX
  obtain ⟨W0, hW0⟩ : ∃ W0, W0 = w.alloc (.cells #[.int .i64 34, .int .i64 92, .int .i64 47, .int .i64 8, .int .i64 12, .int .i64 10, .int .i64 13, .int .i64 9] 3) := ⟨_, rfl⟩
  have R0 := Lib.hid (h.below (w' := W0) (by rw [hW0]; exact (Below.refl _ _).alloc (Nat.le_refl _) _))
  have HC : Hid (∀ m, m < 8 → W0.cell? ⟨w.heap.size, m, none⟩ = some (.int .i64 (ptI m))) := Lib.hid (fun m hm => by rw [hW0]; exact pt_cells hm)
  have HB : Hid (w.heap.size < W0.heap.size ∧ p < w.heap.size ∧ ∀ k, v.ownBlock = some k → k < w.heap.size) := Lib.hid ⟨by rw [hW0]; simp, h.lt, fun k hk => (h.row.lt k hk).2⟩
  have HPI : Hid (∀ W, Dr W0 W → Calls Tryd.prog 35 #[.pointer (some ⟨p, 0, none⟩)] W fun e W' => e = .returned (.int .u8 (byt s i)) ∧ Dr W0 W') := Lib.hid (fun W d => (rlook_any W (R0.out.1.dr d).1 (by omega) (by omega)).mono (fun e W' q => ⟨q.1, d.trans q.2⟩))
  have HM := Lib.hid (fun m (h : m < 8) (e : byt s i = mkI m) => escP_hit h e)
  have HN := Lib.hid (fun (h : ∀ m, m < 8 → byt s i ≠ mkI m) => escP_miss h)
  have HIN : Hid (byt s i ≠ 0 → i < s.size) := Lib.hid (fun e => byt_in e)
  have H117 : Hid (wordM s [117] i = if byt s i = 117 then .ok (i + 1) else .bad 40) := Lib.hid rfl
  obtain ⟨b, hb⟩ : ∃ b, b = byt s i := ⟨_, rfl⟩
  rw [← hb] at HPI HM HN HIN H117
  have hii : (i : Int) ≤ 1000000 := by omega
  clear h hX hb
  go_enter Tryd.func60, Tryd.ntmps60
  go_wp2_with fail
  rw [← hW0]
  clear hW0
  obtain ⟨B, hB⟩ : ∃ B, B = w.heap.size := ⟨_, rfl⟩
  rw [← hB] at HC HB ⊢
  have HBB := Lib.hid hB
  clear hB
  go_loopg [5] 9 (fun f v5 wr => ∃ m : Nat, 9 - m ≤ f ∧ m ≤ 8 ∧ v5 = .int .i64 m ∧ Hid (∀ k, k < m → b ≠ mkI k) ∧ Hid (Dr W0 wr))
  case atStart => exact ⟨0, by omega, by omega, rfl, Lib.hid (fun k hk => absurd hk (by omega)), Lib.hid (Dr.refl _)⟩
  case round =>
    obtain ⟨m, hf, hm, rfl, HK, HDr⟩ := hrel
    by_cases hm8 : m < 8
    · have hmi : (m : Int) < 8 := by omega
      have hm0 : (0 : Int) ≤ m := by omega
      have i1 := fun W => mkL_at m hm8 W
      have HNE := Lib.hid (mkI_ne hm8)
      have HMM := Lib.hid (HM.out m hm8)
      obtain ⟨c, hc⟩ : ∃ c, c = mkI m := ⟨_, rfl⟩
      rw [← hc] at i1 HNE HMM
      have HCC := Lib.hid hc
      clear hc
      by_cases hbc : b = c
      · have HX1 : Hid (X = .ok (ptI m, i + 1)) := Lib.hid (by rw [HXX.out]; exact HMM.out hbc)
        have hin := HIN.out (by rw [hbc]; exact HNE.out.1)
        have hq : (b == c) = true := by simp [hbc]
        clear hbc
        go_wp2_with fail
        first | (go_region_with (go_at_call 35; refine (HPI.out _ (HDr.out.trans (⟨rfl, rfl, rfl, rfl⟩ : Dr wr wr.drew))).mono ?_; rintro e w1 ⟨rfl, d⟩; have D1 := Lib.hid d; clear d)) | fail
        all_goals
          have c1 := (R0.out.1.dr D1.out).1.c1
          have z1 := (R0.out.1.dr D1.out).1.z 1
          have RN := Lib.hid (And.intro ((R0.out.1.dr D1.out).1.at_ (i + 1) ((i : Int) + 1) (by omega)).1 ((R0.out.1.dr D1.out).2.trans ((R0.out.1.dr D1.out).1.at_ (i + 1) ((i : Int) + 1) (by omega)).2))
          go_upto_region 7 with fail
          simp only [Act.put, List.getElem_toArray, List.getElem_cons_succ, List.getElem_cons_zero, List.setIfInBounds_toArray, List.set_cons_succ, List.set_cons_zero]
          go_cut [] (fun wx => Hid (RfB wx p s (i + 1) v L 0 ∧ Fr p v v W0 wx))
          case first =>
            go_wp2_with fail
            go_meet
            exact RN
          case rest =>
            have cB : wc.cell? ⟨B, m, none⟩ = some (.int .i64 (ptI m)) := by
              have hk := hcut.out.2.kept B HB.out.1 (by have := HB.out.2.1; omega) (fun e => by have := HB.out.2.2 B e; omega)
              rw [← HC.out m hm8]
              simp only [World.cell?, hk]
            go_wp2_with fail
            go_ret
            rw [HX1.out]
            exact ⟨rfl, hcut.out.1, R0.out.2.trans hcut.out.2⟩
      · have HK2 : Hid (∀ k, k < m + 1 → b ≠ mkI k) := Lib.hid (fun k hk => by
          by_cases e : k = m
          · subst e; rw [← HCC.out]; exact hbc
          · exact HK.out k (by omega))
        have hq : (b == c) = false := beq_eq_false_iff_ne.2 hbc
        clear hbc
        go_wp2_with fail
        first | (go_region_with (go_at_call 35; refine (HPI.out _ (HDr.out.trans (⟨rfl, rfl, rfl, rfl⟩ : Dr wr wr.drew))).mono ?_; rintro e w1 ⟨rfl, d⟩; have D1 := Lib.hid d; clear d)) | fail
        all_goals
          go_wp2_with fail
          go_roundg (gk - 1)
          case rel => exact ⟨m + 1, by omega, by omega, by go_num, HK2, D1⟩
          case measure => omega
    · obtain rfl : m = 8 := by omega
      have HX1 := HN.out HK.out
      rw [← HXX.out] at HX1
      have R1 := Lib.hid (And.intro (R0.out.1.dr HDr.out).1 (R0.out.2.trans (R0.out.1.dr HDr.out).2))
      clear HM HN HK HC HPI
      have HT := Lib.hid (rtake_any (i := i) (⟨#[117]⟩ : ByteArray) _ R1.out.1 hs hi (by decide) (by decide))
      have e117 : bI ⟨#[117]⟩ = [117] := rfl
      rw [e117, H117.out] at HT
      clear e117 H117
      by_cases hu : b = 117
      · rw [if_pos hu] at HX1 HT
        have hin := HIN.out (by rw [hu]; decide)
        clear hu
        have HX2 := Lib.hid HX1
        clear HX1
        go_wp2_with fail
        refine HT.out.mono ?_
        rintro e w2 ⟨rfl, r2, f2⟩
        have R2 := Lib.hid (And.intro r2 (R1.out.2.trans f2))
        have H4 := Lib.hid (rfour_any w2 r2 hs hin)
        have HPM : Hid (pointM s (i + 1) = _) := Lib.hid (by unfold pointM; exact rfl)
        clear r2 f2
        cases h4 : fourF s 4 (i + 1) 0 with
        | bad m =>
          obtain rfl := fourF_bad _ _ _ _ h4
          rw [h4] at H4 HPM
          have HX3 : Hid (X = .bad 40) := Lib.hid (by rw [HX2.out, HPM.out]; rfl)
          clear h4 HPM HX2
          go_wp2_with fail
          refine H4.out.mono ?_
          rintro e w3 ⟨j, rfl, hj, r3, f3⟩
          have R3 := Lib.hid (And.intro r3 (R2.out.2.trans f3))
          clear r3 f3
          go_wp2_with fail
          go_ret
          rw [HX3.out]
          exact ⟨0, j, rfl, hj, R3.out.1, R3.out.2⟩
        | ok y =>
          obtain ⟨n, j⟩ := y
          obtain ⟨hj, hn0, hn1⟩ := fourF_ok 4 (i + 1) 0 n j (by decide) h4
          have hj2 : j ≤ s.size := four_in h4 hin
          have hn2 : n ≤ 65535 := by have : (16 : Int) ^ 4 = 65536 := by decide
                                     omega
          rw [h4] at H4 HPM
          simp only [Rs.bind_ok] at HPM
          clear h4 hn1 hj
          by_cases hsur : 55296 ≤ n ∧ n ≤ 56319
          · rw [if_pos hsur] at HPM
            obtain ⟨g1, g2⟩ := hsur
            go_wp2_with fail
            refine H4.out.mono ?_
            rintro e w3 ⟨rfl, r3, f3⟩
            have R3 := Lib.hid (And.intro r3 (R2.out.2.trans f3))
            have HT2 := Lib.hid (rtake_any (i := j) (⟨#[92, 117]⟩ : ByteArray) _ r3 hs hj2 (by decide) (by decide))
            have e92 : bI ⟨#[92, 117]⟩ = [92, 117] := rfl
            rw [e92] at HT2
            clear e92 r3 f3
            cases hw : wordM s [92, 117] j with
            | bad m =>
              obtain rfl := wordM_bad _ _ _ hw
              rw [hw] at HT2 HPM
              have HX3 : Hid (X = .bad 40) := Lib.hid (by rw [HX2.out, HPM.out]; rfl)
              clear hw HPM HX2
              go_wp2_with fail
              refine HT2.out.mono ?_
              rintro e w4 ⟨rfl, j4, hj4, r4, f4⟩
              have R4 := Lib.hid (And.intro r4 (R3.out.2.trans f4))
              have H44 := Lib.hid (rfour_err w4 r4 (by decide) hs hj4)
              clear r4 f4
              go_wp2_with fail
              refine H44.out.mono ?_
              rintro e w5 ⟨rfl, r5, f5⟩
              have R5 := Lib.hid (And.intro r5 (R4.out.2.trans f5))
              clear r5 f5
              go_wp2_with fail
              refine (rfail_no 40 _ R5.out.1 (by decide)).mono ?_
              rintro e w6 ⟨rfl, hw6⟩
              obtain rfl := hw6.symm
              go_wp2_with fail
              go_ret
              rw [HX3.out]
              exact ⟨0, j4, rfl, hj4, R5.out.1, R5.out.2⟩
            | ok k =>
              have hk := word_gt hw
              rw [hw] at HT2 HPM
              simp only [Rs.bind_ok] at HPM
              have hk2 : k ≤ s.size := word_in hw hj2 (by decide)
              clear hw hk
              go_wp2_with fail
              refine HT2.out.mono ?_
              rintro e w4 ⟨rfl, r4, f4⟩
              have R4 := Lib.hid (And.intro r4 (R3.out.2.trans f4))
              have H44 := Lib.hid (rfour_any w4 r4 hs hk2)
              clear r4 f4
              cases h5 : fourF s 4 k 0 with
              | bad m =>
                obtain rfl := fourF_bad _ _ _ _ h5
                rw [h5] at H44 HPM
                have HX3 : Hid (X = .bad 40) := Lib.hid (by rw [HX2.out, HPM.out]; rfl)
                clear h5 HPM HX2
                go_wp2_with fail
                refine H44.out.mono ?_
                rintro e w5 ⟨j5, rfl, hj5, r5, f5⟩
                have R5 := Lib.hid (And.intro r5 (R4.out.2.trans f5))
                clear r5 f5
                go_wp2_with fail
                refine (rfail_no 40 _ R5.out.1 (by decide)).mono ?_
                rintro e w6 ⟨rfl, hw6⟩
                obtain rfl := hw6.symm
                go_wp2_with fail
                go_ret
                rw [HX3.out]
                exact ⟨0, j5, rfl, hj5, R5.out.1, R5.out.2⟩
              | ok z =>
                obtain ⟨lo, j5⟩ := z
                obtain ⟨_, hl0, hl1⟩ := fourF_ok 4 k 0 lo j5 (by decide) h5
                have hj5 : j5 ≤ s.size := four_in h5 hk2
                have hl2 : lo ≤ 65535 := by have : (16 : Int) ^ 4 = 65536 := by decide
                                            omega
                rw [h5] at H44 HPM
                simp only [Rs.bind_ok] at HPM
                clear h5 hl1
                by_cases hlo : lo < 56320 ∨ 57343 < lo
                · rw [if_pos hlo] at HPM
                  have HX3 : Hid (X = .bad 40) := Lib.hid (by rw [HX2.out, HPM.out])
                  clear HPM HX2
                  rcases hlo with k1 | k1
                  all_goals
                    have k2 : lo < 56320 ∨ ¬ lo < 56320 := by omega
                    go_wp2_with fail
                    refine H44.out.mono ?_
                    rintro e w5 ⟨rfl, r5, f5⟩
                    have R5 := Lib.hid (And.intro r5 (R4.out.2.trans f5))
                    clear r5 f5
                    go_wp2_with fail
                    refine (rfail_ok 40 _ R5.out.1).mono ?_
                    rintro e w6 ⟨rfl, r6, f6⟩
                    have R6 := Lib.hid (And.intro r6 (R5.out.2.trans f6))
                    clear r6 f6
                    go_wp2_with fail
                    go_ret
                    rw [HX3.out]
                    exact ⟨0, j5, rfl, hj5, R6.out.1, R6.out.2⟩
                · rw [if_neg hlo] at HPM
                  have HX3 : Hid (X = .ok (65536 + (n % 1024 * 1024 + lo % 1024), j5)) := Lib.hid (by rw [HX2.out, HPM.out])
                  clear HPM HX2
                  have k1 : ¬ lo < 56320 := by omega
                  have k2 : ¬ 57343 < lo := by omega
                  clear hlo
                  go_wp2_with fail
                  refine H44.out.mono ?_
                  rintro e w5 ⟨rfl, r5, f5⟩
                  have R5 := Lib.hid (And.intro r5 (R4.out.2.trans f5))
                  clear r5 f5
                  go_wp2_with fail
                  go_ret
                  rw [HX3.out]
                  exact ⟨ret_intL (by dsimp only; omega), R5.out.1, R5.out.2⟩
          · rw [if_neg hsur] at HPM
            by_cases hlow : 56320 ≤ n ∧ n ≤ 57343
            · rw [isPt_16 hn0 hn2 hsur, decide_eq_true hlow] at HPM
              have HX3 : Hid (X = .bad 40) := Lib.hid (by rw [HX2.out, HPM.out]; rfl)
              obtain ⟨g1, g2⟩ := hlow
              have g3 : ¬ n ≤ 56319 := by omega
              clear HPM HX2 hsur
              go_wp2_with fail
              refine H4.out.mono ?_
              rintro e w3 ⟨rfl, r3, f3⟩
              have R3 := Lib.hid (And.intro r3 (R2.out.2.trans f3))
              clear r3 f3
              go_wp2_with fail
              refine (rfail_ok 40 _ R3.out.1).mono ?_
              rintro e w6 ⟨rfl, r6, f6⟩
              have R6 := Lib.hid (And.intro r6 (R3.out.2.trans f6))
              clear r6 f6
              go_wp2_with fail
              go_ret
              rw [HX3.out]
              exact ⟨n, j, rfl, hj2, R6.out.1, R6.out.2⟩
            · rw [isPt_16 hn0 hn2 hsur, decide_eq_false hlow] at HPM
              have HX3 : Hid (X = .ok (n, j)) := Lib.hid (by rw [HX2.out, HPM.out]; rfl)
              clear HPM HX2
              rcases (show n < 55296 ∨ 57343 < n by omega) with g1 | g1
              all_goals
                have g2 : n < 56320 ∨ ¬ n < 56320 := by omega
                clear hsur hlow
                go_wp2_with fail
                refine H4.out.mono ?_
                rintro e w3 ⟨rfl, r3, f3⟩
                have R3 := Lib.hid (And.intro r3 (R2.out.2.trans f3))
                clear r3 f3
                go_wp2_with fail
                go_ret
                rw [HX3.out]
                exact ⟨rfl, R3.out.1, R3.out.2⟩
      · rw [if_neg hu] at HX1 HT
        have HX2 := Lib.hid HX1
        clear HX1 hu
        go_wp2_with fail
        refine HT.out.mono ?_
        rintro e w2 ⟨rfl, j, hj, r2, f2⟩
        have R2 := Lib.hid (And.intro r2 (R1.out.2.trans f2))
        have H4 := Lib.hid (rfour_err w2 r2 (by decide) hs hj)
        clear r2 f2
        go_wp2_with fail
        refine H4.out.mono ?_
        rintro e w3 ⟨rfl, r3, f3⟩
        have R3 := Lib.hid (And.intro r3 (R2.out.2.trans f3))
        clear r3 f3
        go_wp2_with fail
        go_ret
        rw [HX2.out]
        exact ⟨0, j, rfl, hj, R3.out.1, R3.out.2⟩
end Go.Proofs.YtoicmcjpaodgpaaDoor
/- Layer 4, the document's Read: the text of code points; an own row of numbers. -/
namespace Go.Proofs.YtoicmcjpaodgpaaDoor
open Go.RowKit Go.Maps
theorem allPt_at {L : List Int} {k n : Nat} (hk : k < n) (h : allPt L n = true) : isPt (L.getD k 0) = true := by
  have := allPt_le (j := k + 1) (by omega) h
  simp only [allPt, Bool.and_eq_true] at this
  exact this.2
set_option maxRecDepth 20000 in
set_option maxHeartbeats 4000000 in
theorem rTextOf_any (a : Option Addr) (len cap : Nat) (L : List Int) (w : World) (hv : PView w a len L) (hm : len ≤ 100000) (ha : allPt L len = true) :
    Calls Tryd.prog 61 #[.slice a len cap] w fun e w' => e = .returned (.string (mkB (encs L len))) ∧ Below w.heap.size w w' := by
  obtain ⟨i0, hi, hz0, hz1, hz2⟩ := info_parts info5
  obtain ⟨hL, hc⟩ := hv
  by_cases hz : len = 0
  · subst hz
    have hcv := conv_own (L := []) (World.ownsRow_nil w w.heap.size 5 1) (fun x hx => by simp at hx)
    clear hc hL ha
    go_enter Tryd.func61, Tryd.ntmps61
    go_wp2_with fail
    refine wp_loop_rounds 1 ?_
    rw [rounds_succ]
    go_wp2_with fail
    go_ret
    exact ⟨rfl, Below.refl _ _⟩
  · obtain ⟨b, off, rfl, hxb, _⟩ := hc 0 (by omega)
    have HC : Hid (∀ k, k < len → w.cell? ⟨b, off + k, none⟩ = some (.int .i64 (L.getD k 0))) := Lib.hid (fun k hk => by
      obtain ⟨b', off', he, _, hx⟩ := hc k hk
      simp only [Option.some.injEq, Addr.mk.injEq, and_true] at he
      obtain ⟨rfl, rfl⟩ := he
      exact hx)
    have HA := Lib.hid ha
    clear hc hL ha
    go_enter Tryd.func61, Tryd.ntmps61
    go_wp2_with fail
    go_loopw [3, 4] (fun v i wr => ∃ k : Nat, k ≤ len ∧ i = .int .i64 k ∧ wr.ownsRow w.heap.size 5 1 v (encs L k).length ((encs L k).map (Value.int .u8)) ∧ Below w.heap.size w wr) (fun _ i _ => len - (intOf i).toNat)
    case atStart => exact ⟨0, by omega, rfl, World.ownsRow_nil _ _ _ _, Below.refl _ _⟩
    case round =>
      obtain ⟨k, hk, rfl, hown, hb⟩ := hrel
      by_cases hlt : k < len
      · have hcx := (hb.cell (p := ⟨b, off + k, none⟩) hxb).trans (HC.out k hlt)
        have hpt := isPt_range (allPt_at hlt HA.out)
        have hE : Hid (encs L (k + 1) = encs L k ++ enc (L.getD k 0)) := Lib.hid rfl
        obtain ⟨p, hp⟩ : ∃ p, p = L.getD k 0 := ⟨_, rfl⟩
        rw [← hp] at hcx hpt hE
        have HK : Hid (p = L.getD k 0) := hp
        have hle := encs_len L k
        have hen := enc_len p
        have HO := Lib.hid hown
        have HB := Lib.hid hb
        have hsz := hb.size
        have hbnd : Hid ((encs L k).length + (enc p).length ≤ 1000000) := Lib.hid (by omega)
        clear hp hown hb hle hen
        go_wp2_with fail
        refine (bytes_any p _ hpt.1 hpt.2).mono ?_
        rintro e w1 ⟨rfl, cs, hcs, rfl⟩
        have b1 : Below w.heap.size w (wr.alloc (.cells cs 5)) := HB.out.alloc hsz _
        have HB1 := Lib.hid b1
        have HC1 := Lib.hid (cell_news wr cs 5 _ hcs)
        clear b1 hcs
        go_wp2_with (at_builtin; refine wpList_append_own _ rfl _ _ 44 rfl w.heap.size 5 i0 (.int .u8 0) 1 1 Tryd.underlying44 hi hz0 hz1 hz2 rfl (by decide) _ _ _ rfl (HO.out.alloc _) ⟨wr.heap.size, 0, none⟩ (enc p).length (enc p).length ((enc p).map (Value.int .u8)) rfl ?h1 HC1.out ?h2 ?h3 ?h4 ?h5 ?_; rotate_right; intro v' w' ho hg _)
        case h1 => rw [List.length_map, Nat.mul_one]
        case h2 => intro u hu; simp only [List.mem_map] at hu; obtain ⟨x, _, rfl⟩ := hu; rfl
        case h3 => have := hbnd.out; unfold maxLen; omega
        case h4 => have := hbnd.out; omega
        case h5 => exact HB1.out.size
        go_roundw
        case rel => exact ⟨k + 1, by omega, by go_num, by rw [hE.out, List.length_append, List.map_append]; exact ho, HB1.out.grown hg HB1.out.size (fun q hq => (HO.out.lt q hq).1)⟩
        case measure => simp [intOf]; omega
      · obtain rfl : k = len := by omega
        have hcv := conv_own hown (encs_range L k HA.out)
        have HB := Lib.hid hb
        clear hb hown
        go_wp2_with fail
        go_ret
        exact ⟨rfl, HB.out⟩
/-- An own row of Ints. -/
def OwI (B : Nat) (w : World) (v : Value) (L : List Int) : Prop := w.ownsRow B 3 1 v L.length (L.map (Value.int .i64)) ∧ B ≤ w.heap.size
theorem OwI.nil {B : Nat} {w : World} (h : B ≤ w.heap.size) : OwI B w (.slice none 0 0) [] := ⟨World.ownsRow_nil _ _ _ _, h⟩
theorem OwI.up {B : Nat} {w w' : World} {v : Value} {L : List Int} (h : OwI B w v L) (hb : Below w.heap.size w w') : OwI B w' v L := ⟨own_below h.1 hb, Nat.le_trans h.2 hb.size⟩
theorem OwI.fr {B p : Nat} {w w' : World} {v v1 v2 : Value} {L : List Int} (h : OwI B w v L) (f : Fr p v1 v2 w w') (hp : p < B) (hv : ∀ k, v1.ownBlock = some k → k < B) : OwI B w' v L := by
  refine ⟨⟨h.1.1, ?_⟩, Nat.le_trans h.2 f.size⟩
  rcases h.1.2 with h1 | ⟨g, cap, cur, rfl, hg, hc, rest⟩
  · exact .inl h1
  · exact .inr ⟨g, cap, cur, rfl, hg, by rw [f.kept g (Array.getElem?_eq_some_iff.1 hc).1 (by omega) (fun e => by have := hv g e; omega)]; exact hc, rest⟩
theorem OwI.view {B : Nat} {w : World} {v : Value} {L : List Int} (h : OwI B w v L) : ∃ a cap, v = .slice a L.length cap ∧ PView w a L.length L := by
  rcases h.1.2 with ⟨rfl, hn⟩ | ⟨g, cap, cur, rfl, hg, hgg, h1, h2, h3, h4⟩
  · have : L = [] := List.length_eq_zero_iff.1 hn
    subst this
    exact ⟨none, 0, rfl, ⟨rfl, fun k hk => by simp at hk⟩⟩
  · refine ⟨some ⟨g, 0, none⟩, cap, rfl, ⟨rfl, fun k hk => ⟨g, 0, rfl, (Array.getElem?_eq_some_iff.1 hgg).1, ?_⟩⟩⟩
    rw [Nat.zero_add, h.1.cellAt k (by omega)]
    simp [List.getD, hk]
theorem owi_end {B : Nat} {w w1 : World} {v v' : Value} {L : List Int} {x : Int} {o : Obj} (ho : w1.ownsRow B 3 1 v' (L.length + 1) (L.map (Value.int .i64) ++ [.int .i64 x])) (h : OwI B w v L) (hg : (w.alloc o).grownBy w1 v.ownBlock) : OwI B w1 v' (L ++ [x]) ∧ Below B w w1 := by
  have hs : (w.alloc o).heap.size = w.heap.size + 1 := by simp
  have h2 := h.2
  refine ⟨⟨by rw [List.length_append, List.map_append]; exact ho, Nat.le_trans (by omega) hg.size⟩, ((Below.refl B w).alloc h.2 o).grown hg (by omega) (fun k hk => (h.1.lt k hk).1)⟩
theorem RfB.low {B : Nat} {w w' : World} {p i : Nat} {s : ByteArray} {v : Value} {L : List CR} {e : Int} (h : RfB w p s i v L e) (b : Below B w w') (hp : p < B) (hv : ∀ k, v.ownBlock = some k → k < B) : RfB w' p s i v L e :=
  ⟨by rw [b.block p hp]; exact h.box, own_move h.row (fun j hj => b.block j (hv j hj))⟩
end Go.Proofs.YtoicmcjpaodgpaaDoor
/- Layer 4, the document's Read: a string. -/
namespace Go.Proofs.YtoicmcjpaodgpaaDoor
open Go.RowKit Go.Maps
/-- What a string ends in: its text, or an error that is noted. -/
def RfT (p : Nat) (s : ByteArray) (v : Value) (L : List CR) (w : World) (x : Rs (List Int × Nat)) (e : Ending) (w' : World) : Prop := match x with
  | .ok r => e = .returned (.string (mkB r.1)) ∧ RfB w' p s r.2 v L 0 ∧ Fr p v v w w'
  | .bad m => ∃ j : Nat, e = .returned (.string ⟨#[]⟩) ∧ j ≤ s.size ∧ RfB w' p s j v L m ∧ Fr p v v w w'
/-- Within a string: the reader, and the code points. -/
structure TxM (B p : Nat) (s : ByteArray) (v : Value) (L : List CR) (w W : World) (j : Nat) (m : Int) (vl : Value) (ps : List Int) : Prop where
  rd : RfB W p s j v L m
  fb : FB B p v w W
  own : OwI B W vl ps
theorem TxM.fr {B p : Nat} {s : ByteArray} {v : Value} {L : List CR} {w W W' : World} {j j' : Nat} {m m' : Int} {vl : Value} {ps : List Int} (h : TxM B p s v L w W j m vl ps) (r : RfB W' p s j' v L m') (f : Fr p v v W W') (hp : p < B) (hv : ∀ k, v.ownBlock = some k → k < B) : TxM B p s v L w W' j' m' vl ps :=
  ⟨r, h.fb.trans (f.fb h.own.2), h.own.fr f hp hv⟩
theorem TxM.up {B p : Nat} {s : ByteArray} {v : Value} {L : List CR} {w W W' : World} {j : Nat} {m : Int} {vl : Value} {ps : List Int} (h : TxM B p s v L w W j m vl ps) (b : Below W.heap.size W W') (hp : p < B) (hv : ∀ k, v.ownBlock = some k → k < B) : TxM B p s v L w W' j m vl ps :=
  h.fr (h.rd.below b).1 (h.rd.below b).2 hp hv
theorem TxM.add {B p : Nat} {s : ByteArray} {v : Value} {L : List CR} {w W W' : World} {j : Nat} {m : Int} {vl vl' : Value} {ps : List Int} {x : Int} (h : TxM B p s v L w W j m vl ps) (o : OwI B W' vl' (ps ++ [x])) (b : Below B W W') (hp : p < B) (hv : ∀ k, v.ownBlock = some k → k < B) : TxM B p s v L w W' j m vl' (ps ++ [x]) :=
  ⟨h.rd.low b hp hv, h.fb.trans (fb_below b), o⟩
set_option maxRecDepth 20000 in
set_option maxHeartbeats 0 in
theorem rtxt1_any {p i : Nat} {s : ByteArray} {v : Value} {L : List CR} (w : World) (h : RfB w p s i v L 0) (hs : s.size ≤ 90000) (hi : i ≤ s.size) (hw : Tw s i s.size) : Calls Tryd.prog 38 #[.pointer (some ⟨p, 0, none⟩)] w (RfT p s v L w (strM s i)) := by
  obtain ⟨i0, hi0, hz0, hz1, hz2⟩ := infoI
  have HT := Lib.hid (rtake_any (i := i) (⟨#[34]⟩ : ByteArray) w h (by omega) hi (by decide) (by decide))
  have e34 : bI ⟨#[34]⟩ = [34] := rfl
  rw [e34] at HT
  have HLT : Hid (p < w.heap.size) := Lib.hid h.lt
  have HV : Hid (∀ k, v.ownBlock = some k → k < w.heap.size) := Lib.hid (fun k hk => (h.row.lt k hk).2)
  obtain ⟨X, hX⟩ : ∃ X, X = strM s i := ⟨_, rfl⟩
  rw [← hX]
  have HX0 : Hid (X = (wordM s [34] i).bind fun j => (stP s (s.size - j + 1) j []).bind fun x => .ok (x.1.flatMap enc, x.2 + 1)) := Lib.hid (by rw [hX]; exact strM_P hw)
  clear hX h
  cases h1 : wordM s [34] i with
  | bad m =>
    obtain rfl := wordM_bad _ _ _ h1
    rw [h1] at HT HX0
    have HX : Hid (X = .bad 40) := Lib.hid HX0.out
    clear h1 HX0
    go_enter Tryd.func38, Tryd.ntmps38
    go_wp2_with fail
    refine HT.out.mono ?_
    rintro e w1 ⟨rfl, j, hj, r1, f1⟩
    have R1 := Lib.hid (And.intro r1 f1)
    have c3 := r1.c3
    have HE := Lib.hid (rtake_err (⟨#[34]⟩ : ByteArray) w1 r1 (by decide) (by omega) hj (by decide) (by decide) (by decide))
    clear r1 f1
    go_wp2_with fail
    refine wp_loop_rounds 1 ?_
    rw [rounds_succ]
    go_wp2_with fail
    refine HE.out.mono ?_
    rintro e w2 ⟨rfl, r2, f2⟩
    have R2 := Lib.hid (And.intro r2 (R1.out.2.trans f2))
    have c3 := r2.c3
    clear r2 f2
    go_wp2_with fail
    go_ret
    rw [HX.out]
    exact ⟨j, rfl, hj, R2.out.1, R2.out.2⟩
  | ok j0 =>
    obtain ⟨w34, rfl⟩ := word1 h1
    have hin := byt_in (s := s) (i := i) (by omega)
    have hw1 : Tw s (i + 1) s.size := hw.asc (Asc.one (by omega)) (by omega)
    have HTW := Lib.hid hw1
    rw [h1] at HT HX0
    obtain ⟨Y, hY⟩ : ∃ Y, Y = stP s (s.size - (i + 1) + 1) (i + 1) [] := ⟨_, rfl⟩
    have HY := Lib.hid hY.symm
    have HX : Hid (X = Y.bind fun x => .ok (x.1.flatMap enc, x.2 + 1)) := Lib.hid (by rw [HX0.out, hY]; rfl)
    clear h1 HX0 hY hw1 w34 hw
    go_enter Tryd.func38, Tryd.ntmps38
    go_wp2_with fail
    refine HT.out.mono ?_
    rintro e w1 ⟨rfl, r1, f1⟩
    have HS0 : Hid (TxM w.heap.size p s v L w w1 (i + 1) 0 (.slice none 0 0) []) := Lib.hid ⟨r1, f1.fb (Nat.le_refl _), OwI.nil f1.size⟩
    clear r1 f1
    obtain ⟨B, hB⟩ : ∃ B, B = w.heap.size := ⟨_, rfl⟩
    rw [← hB] at HLT HV HS0
    have HBB := Lib.hid hB
    clear hB HT
    go_wp2_with fail
    go_loopg [3, 4, 5, 6] (s.size - (i + 1) + 1) (fun f v3 _ _ _ wr => ∃ (j : Nat) (m : Int) (ps : List Int) (vl : Value), 1 ≤ f ∧ j ≤ s.size ∧ vl = v3 ∧ Hid (TxM B p s v L w wr j m vl ps) ∧ (m = 0 ∧ ps.length ≤ j ∧ s.size - j + 1 ≤ f ∧ Hid (Tw s j s.size ∧ (∀ q ∈ ps, isPt q = true) ∧ stP s f j ps = Y) ∨ m = 40 ∧ Hid (Y = .bad 40)))
    case atStart => exact ⟨i + 1, 0, [], _, by omega, by omega, rfl, HS0, .inl ⟨rfl, by simp, by omega, Lib.hid ⟨HTW.out, by simp, HY.out⟩⟩⟩
    case round =>
      obtain ⟨j, m, ps, vl, hf1, hj, rfl, HS, hmode⟩ := hrel
      have c3 := HS.out.rd.c3
      rcases hmode with ⟨rfl, hps, hfj, HM⟩ | ⟨rfl, HM⟩
      · -- main
        have HL : Hid (∀ W, TxM B p s v L w W j 0 vl ps → Calls Tryd.prog 35 #[.pointer (some ⟨p, 0, none⟩)] W fun e W' => e = .returned (.int .u8 (byt s j)) ∧ TxM B p s v L w W' j 0 vl ps) := Lib.hid (fun W t => (rlook_any W t.rd (by omega) (by omega)).mono (fun e W' q => ⟨q.1, t.up (q.2.below _) HLT.out HV.out⟩))
        have HST := HM.out.2.2
        rw [stP_step hf1] at HST
        have HTWJ := Lib.hid HM.out.1
        have HPTS := Lib.hid HM.out.2.1
        have HIN : Hid (byt s j ≠ 0 → j < s.size) := Lib.hid (fun e => byt_in e)
        have HB0 := (byt_range s j).1
        have HB1 := (byt_range s j).2
        have HWT : Hid (byt s j = 34 → wordM s [34] j = .ok (j + 1)) := Lib.hid (fun e => by show (if byt s j = 34 then Rs.ok (j + 1) else .bad 40) = _; rw [if_pos e])
        have HASC : Hid (byt s j < 128 → Tw s (j + 1) s.size ∨ ¬ j < s.size) := Lib.hid (fun e => by
          by_cases hlt : j < s.size
          · exact .inl (HTWJ.out.asc (Asc.one e) (by omega))
          · exact .inr hlt)
        obtain ⟨b, hb⟩ : ∃ b, b = byt s j := ⟨_, rfl⟩
        rw [← hb] at HL HST HIN HB0 HB1 HWT HASC
        have HBY := Lib.hid hb
        have hji : (j : Int) ≤ 90000 := by omega
        clear hb HM
        by_cases h34 : b = 34
        · rw [if_pos h34] at HST
          have HY2 := Lib.hid HST
          have HW := HWT.out h34
          have hin := HIN.out (by omega)
          subst h34
          clear HST HWT HIN
          go_wp2_with fail
          refine (HL.out _ HS.out).mono ?_
          rintro e w2 ⟨rfl, t2⟩
          have T2 := Lib.hid t2
          have c3 := t2.rd.c3
          clear t2
          have HTK := Lib.hid (rtake_any (i := j) (⟨#[34]⟩ : ByteArray) w2 T2.out.rd (by omega) hj (by decide) (by decide))
          have e34 : bI ⟨#[34]⟩ = [34] := rfl
          rw [e34, HW] at HTK
          clear HW e34
          go_wp2_with fail
          refine HTK.out.mono ?_
          rintro e w3 ⟨rfl, r3, f3⟩
          have T3 := Lib.hid (T2.out.fr r3 f3 HLT.out HV.out)
          have c3 := r3.c3
          clear r3 f3 HTK
          obtain ⟨a, cap, rfl, hpv⟩ := T3.out.own.view
          have HTX := Lib.hid (rTextOf_any a _ cap ps w3 hpv (by omega) (allPt_of HPTS.out _ (Nat.le_refl _)))
          rw [encs_all] at HTX
          clear hpv
          go_wp2_with fail
          refine HTX.out.mono ?_
          rintro e w4 ⟨rfl, b4⟩
          have T4 := Lib.hid (T3.out.up b4 HLT.out HV.out)
          clear b4
          go_wp2_with fail
          go_ret
          rw [HX.out, ← HY2.out]
          exact ⟨rfl, T4.out.rd, by have q := T4.out.fb; rw [HBB.out] at q; exact q.fr⟩
        rw [if_neg h34] at HST
        have hq34 : (b != 34) = true := by simp [h34]
        by_cases h32 : b < 32
        · rw [if_pos h32] at HST
          have HY2 := Lib.hid HST
          clear HST HWT HIN HASC
          go_wp2_with fail
          refine (HL.out _ HS.out).mono ?_
          rintro e w2 ⟨rfl, t2⟩
          have T2 := Lib.hid t2
          have c3 := t2.rd.c3
          clear t2
          go_wp2_with fail
          refine (HL.out _ T2.out).mono ?_
          rintro e w3 ⟨rfl, t2⟩
          have T3 := Lib.hid t2
          have c3 := t2.rd.c3
          clear t2
          go_wp2_with fail
          refine (rfail_ok 40 _ T3.out.rd).mono ?_
          rintro e w4 ⟨rfl, r4, f4⟩
          have T4 := Lib.hid (T3.out.fr r4 f4 HLT.out HV.out)
          clear r4 f4
          go_wp2_with fail
          go_ret
          rw [HX.out, ← HY2.out]
          exact ⟨j, rfl, hj, T4.out.rd, by have q := T4.out.fb; rw [HBB.out] at q; exact q.fr⟩
        rw [if_neg h32] at HST
        have hin := HIN.out (by omega)
        by_cases h92 : b = 92
        · rw [if_pos h92] at HST
          have HTN : Tw s (j + 1) s.size := (HASC.out (by omega)).elim id (fun k => absurd hin k)
          have HTN1 := Lib.hid HTN
          have HST1 := Lib.hid HST
          subst h92
          clear HST HWT HIN HASC HTN h32
          go_wp2_with fail
          refine (HL.out _ HS.out).mono ?_
          rintro e w2 ⟨rfl, t2⟩
          have T2 := Lib.hid t2
          have c3 := t2.rd.c3
          clear t2
          go_wp2_with fail
          refine (HL.out _ T2.out).mono ?_
          rintro e w3 ⟨rfl, t2⟩
          have T3 := Lib.hid t2
          have c3 := t2.rd.c3
          clear t2
          go_wp2_with fail
          refine (HL.out _ T3.out).mono ?_
          rintro e w4 ⟨rfl, t2⟩
          have T4 := Lib.hid t2
          have c3 := t2.rd.c3
          clear t2
          have c1 := T4.out.rd.c1
          have z1 := T4.out.rd.z 1
          have hat := T4.out.rd.at_ (j + 1) ((j : Int) + 1) (by omega)
          have T5 := Lib.hid (T4.out.fr hat.1 hat.2 HLT.out HV.out)
          have HES := Lib.hid (rescape_any _ T5.out.rd (by omega) hin)
          clear hat
          cases hes : escP s (j + 1) with
          | bad m =>
            obtain rfl := escP_bad hes
            rw [hes] at HES HST1
            have HY2 : Hid (Y = .bad 40) := Lib.hid HST1.out.symm
            clear hes HST1
            go_wp2_with fail
            refine HES.out.mono ?_
            rintro e w5 ⟨n, j5, rfl, hj5, r5, f5⟩
            have T7 := Lib.hid (T5.out.fr r5 f5 HLT.out HV.out)
            clear r5 f5
            go_wp2_with (at_builtin; refine wpList_append_own _ rfl _ _ 65 rfl B 3 i0 (.int .i64 0) 1 8 Tryd.underlying65 hi0 hz0 hz1 hz2 rfl (by decide) _ ps.length (ps.map (Value.int .i64)) rfl (T7.out.own.1.alloc _) ⟨w5.heap.size, 0, none⟩ 1 1 [.int .i64 n] rfl rfl (news_at _ _ _ _ rfl) (by intro u hu; simp at hu; subst hu; rfl) (by unfold maxLen; omega) (by omega) (by have := T7.out.own.2; simp; omega) ?_; intro v' w6 ho hg _; have oe := owi_end ho T7.out.own hg; have T6 := Lib.hid (T7.out.add oe.1 oe.2 HLT.out HV.out); clear oe ho hg)
            go_roundg (gk - 1)
            case rel => exact ⟨j5, 40, ps ++ [n], v', by omega, hj5, rfl, T6, .inr ⟨rfl, HY2⟩⟩
            case measure => omega
          | ok y =>
            obtain ⟨q, j5⟩ := y
            rw [hes] at HES HST1
            have hes2 : escM s (j + 1) = .ok (enc q, j5) := by rw [escM_P, hes]; rfl
            have hxo := escM_ok hes2
            have HQ : Hid (Tw s j5 s.size ∧ (∀ x ∈ ps ++ [q], isPt x = true) ∧ stP s (gk - 1) j5 (ps ++ [q]) = Y) := Lib.hid ⟨HTN1.out.asc (esc_pt hes2).1 hxo.2.1, fun x hx => by
              rcases List.mem_append.1 hx with h | h
              · exact HPTS.out x h
              · obtain rfl := List.mem_singleton.1 h; exact escP_pt hes, HST1.out⟩
            have hlt5 := hxo.1
            have hle5 := hxo.2.1
            clear hes hes2 hxo HST1
            go_wp2_with fail
            refine HES.out.mono ?_
            rintro e w5 ⟨rfl, r5, f5⟩
            have T7 := Lib.hid (T5.out.fr r5 f5 HLT.out HV.out)
            clear r5 f5
            go_wp2_with (at_builtin; refine wpList_append_own _ rfl _ _ 65 rfl B 3 i0 (.int .i64 0) 1 8 Tryd.underlying65 hi0 hz0 hz1 hz2 rfl (by decide) _ ps.length (ps.map (Value.int .i64)) rfl (T7.out.own.1.alloc _) ⟨w5.heap.size, 0, none⟩ 1 1 [.int .i64 q] rfl rfl (news_at _ _ _ _ rfl) (by intro u hu; simp at hu; subst hu; rfl) (by unfold maxLen; omega) (by omega) (by have := T7.out.own.2; simp; omega) ?_; intro v' w6 ho hg _; have oe := owi_end ho T7.out.own hg; have T6 := Lib.hid (T7.out.add oe.1 oe.2 HLT.out HV.out); clear oe ho hg)
            go_roundg (gk - 1)
            case rel => exact ⟨j5, 0, ps ++ [q], v', by omega, hle5, rfl, T6, .inl ⟨rfl, by rw [List.length_append, List.length_singleton]; omega, by omega, HQ⟩⟩
            case measure => omega
        rw [if_neg h92] at HST
        have hq92 : (b == 92) = false := beq_eq_false_iff_ne.2 h92
        obtain ⟨_, hd, hw2⟩ := HTWJ.out.inv (by omega)
        have hdn : decN s j = leadN (byt s j) ∧ leadN (byt s j) ≠ 0 := by
          rcases decN_eq s j with h | h
          · exact h.2
          · rw [hd] at h; cases h.1
        have hz4 := leadN_le (byt s j)
        have hnx := nx_at hin
        rw [hd, hdn.1] at hnx
        have HNX0 := fun W => rnext_any s (j : Int) W (by omega)
        rw [hnx.1, hnx.2.1, hnx.2.2, if_pos rfl] at HNX0
        have hpt : isPt (decP s j) = true := by
          have hdd := hd
          unfold decIs at hdd
          simp only [Bool.and_eq_true] at hdd
          unfold decP
          rw [hd]
          exact hdd.1.2
        have hzp : leadN (byt s j) ≠ 0 := hdn.2
        have hjz := hw2.le
        obtain ⟨z, hz⟩ : ∃ z, z = leadN (byt s j) := ⟨_, rfl⟩
        obtain ⟨q, hq⟩ : ∃ q, q = decP s j := ⟨_, rfl⟩
        rw [HBY.out] at HST
        rw [← hz] at HST hz4 HNX0 hw2 hzp hjz
        rw [← hq] at HST HNX0 hpt
        have HNX : Hid (∀ W, TxM B p s v L w W j 0 vl ps → Calls Tryd.prog 58 #[.string s, .int .i64 j] W fun e W' => e = .returned (.tuple #[.int .i64 q, .int .i64 z, .int .i64 0]) ∧ TxM B p s v L w W' j 0 vl ps) := Lib.hid (fun W t => (HNX0 W).mono (fun e W' k => ⟨k.1, t.up k.2 HLT.out HV.out⟩))
        have HQ : Hid (Tw s (j + z) s.size ∧ (∀ x ∈ ps ++ [q], isPt x = true) ∧ stP s (gk - 1) (j + z) (ps ++ [q]) = Y) := Lib.hid ⟨hw2, fun x hx => by
          rcases List.mem_append.1 hx with h | h
          · exact HPTS.out x h
          · obtain rfl := List.mem_singleton.1 h; exact hpt, HST⟩
        clear hd hw2 hdn hnx HNX0 hpt hz hq HST HWT HIN HASC HTWJ HPTS HBY
        go_wp2_with fail
        refine (HL.out _ HS.out).mono ?_
        rintro e w2 ⟨rfl, t2⟩
        have T2 := Lib.hid t2
        have c3 := t2.rd.c3
        clear t2
        go_wp2_with fail
        refine (HL.out _ T2.out).mono ?_
        rintro e w3 ⟨rfl, t2⟩
        have T3 := Lib.hid t2
        have c3 := t2.rd.c3
        clear t2
        go_wp2_with fail
        refine (HL.out _ T3.out).mono ?_
        rintro e w4 ⟨rfl, t2⟩
        have T4 := Lib.hid t2
        have c3 := t2.rd.c3
        clear t2
        have c0 := T4.out.rd.c0
        have c1 := T4.out.rd.c1
        go_wp2_with fail
        first | (go_region_with (go_at_call 58; refine (HNX.out _ (T4.out.up (Dr.below (⟨rfl, rfl, rfl, rfl⟩ : Dr w4 w4.drew) _) HLT.out HV.out)).mono ?_; rintro e w5 ⟨rfl, t5⟩; have T5 := Lib.hid t5; clear t5)) | fail
        all_goals
          go_wp2_with (at_builtin; refine wpList_append_own _ rfl _ _ 65 rfl B 3 i0 (.int .i64 0) 1 8 Tryd.underlying65 hi0 hz0 hz1 hz2 rfl (by decide) _ ps.length (ps.map (Value.int .i64)) rfl (T5.out.own.1.alloc _) ⟨w5.heap.size, 0, none⟩ 1 1 [.int .i64 q] rfl rfl (news_at _ _ _ _ rfl) (by intro u hu; simp at hu; subst hu; rfl) (by unfold maxLen; omega) (by omega) (by have := T5.out.own.2; simp; omega) ?_; intro v' w6 ho hg _; have oe := owi_end ho T5.out.own hg; have T6 := Lib.hid (T5.out.add oe.1 oe.2 HLT.out HV.out); clear oe ho hg; have c1 := T6.out.rd.c1; have z1 := T6.out.rd.z 1)
          have hat := T6.out.rd.at_ (j + z) ((j : Int) + z) (by omega)
          have T7 := Lib.hid (T6.out.fr hat.1 hat.2 HLT.out HV.out)
          clear hat
          go_roundg (gk - 1)
          case rel => exact ⟨j + z, 0, ps ++ [q], v', by omega, by omega, rfl, T7, .inl ⟨rfl, by rw [List.length_append, List.length_singleton]; omega, by omega, HQ⟩⟩
          case measure => omega
      · have HE := Lib.hid (rtake_err (⟨#[34]⟩ : ByteArray) wr HS.out.rd (by decide) (by omega) hj (by decide) (by decide) (by decide))
        go_wp2_with fail
        refine HE.out.mono ?_
        rintro e w2 ⟨rfl, r2, f2⟩
        have R2 := Lib.hid (HS.out.fr r2 f2 HLT.out HV.out)
        have c3 := r2.c3
        clear r2 f2
        go_wp2_with fail
        go_ret
        rw [HX.out, HM.out]
        exact ⟨j, rfl, hj, R2.out.rd, by have q := R2.out.fb; rw [HBB.out] at q; exact q.fr⟩
end Go.Proofs.YtoicmcjpaodgpaaDoor
/- Layer 4, the document's Read: its row of cells; a name among names. -/
namespace Go.Proofs.YtoicmcjpaodgpaaDoor
open Go.RowKit Go.Maps
theorem RfB.slice {w : World} {p i : Nat} {s : ByteArray} {v : Value} {L : List CR} {e : Int} (h : RfB w p s i v L e) : ∃ ad cap, v = .slice ad L.length cap := by
  rcases h.row.2 with ⟨rfl, h0⟩ | ⟨g, cap, cur, rfl, _⟩
  · exact ⟨none, 0, by rw [h0]⟩
  · exact ⟨_, _, rfl⟩
theorem RfB.addr {w : World} {p i : Nat} {s : ByteArray} {v : Value} {L : List CR} {e : Int} (h : RfB w p s i v L e) (h0 : 0 < L.length) : ∃ q cap, v = .slice (some ⟨q, 0, none⟩) L.length cap ∧ p < q ∧ q < w.heap.size := by
  obtain ⟨q, cap, e, h1, h2⟩ := own_addr h.row h0
  exact ⟨q, cap, e, by omega, h2⟩
theorem RfB.cellz {w : World} {p q cap i : Nat} {s : ByteArray} {L : List CR} {e : Int} (h : RfB w p s i (.slice (some ⟨q, 0, none⟩) L.length cap) L e) (o : Nat) : w.frozen? ⟨q, o, none⟩ = false := by
  rcases h.row.2 with ⟨h', _⟩ | ⟨g', cap', cur, h', hb, hg, h1, h2, h3, h4⟩
  · simp at h'
  · simp only [Value.slice.injEq, Option.some.injEq, Addr.mk.injEq, and_true, true_and] at h'
    obtain ⟨rfl, rfl⟩ := h'
    simp [World.frozen?, hg]
theorem RfB.cells {w : World} {p q cap i : Nat} {s : ByteArray} {L : List CR} {e : Int} (h : RfB w p s i (.slice (some ⟨q, 0, none⟩) L.length cap) L e) {k : Nat} (hk : k < L.length) : w.cell? ⟨q, k * 5, none⟩ = some (.int .u8 (gl L k).k) ∧ w.cell? ⟨q, k * 5 + 1, none⟩ = some (.string (gl L k).nm) ∧ w.cell? ⟨q, k * 5 + 2, none⟩ = some (.string (gl L k).tx) ∧ w.cell? ⟨q, k * 5 + 3, none⟩ = some (.int .i64 (gl L k).n) ∧ w.cell? ⟨q, k * 5 + 4, none⟩ = some (.int .i64 (gl L k).m) := by
  obtain ⟨a0, a1, a2, a3, a4⟩ := rw5_at L k hk
  refine ⟨?_, ?_, ?_, ?_, ?_⟩
  · rw [h.row.cellAt _ (by omega)]; exact a0
  · rw [h.row.cellAt _ (by omega)]; exact a1
  · rw [h.row.cellAt _ (by omega)]; exact a2
  · rw [h.row.cellAt _ (by omega)]; exact a3
  · rw [h.row.cellAt _ (by omega)]; exact a4
/-- A field of a cell is set. -/
theorem RfB.setF {w : World} {p q cap i : Nat} {s : ByteArray} {L : List CR} {e : Int} (h : RfB w p s i (.slice (some ⟨q, 0, none⟩) L.length cap) L e) (hpq : p < q) {k : Nat} (hk : k < L.length) (f : Nat) (hf : f < 5) (x : Value) (c' : CR) (hx : (cellL (gl L k)).set f x = cellL c') :
    RfB (w.setCell ⟨q, k * 5 + f, none⟩ x) p s i (.slice (some ⟨q, 0, none⟩) L.length cap) (L.set k c') e ∧ Fr p (.slice (some ⟨q, 0, none⟩) L.length cap) (.slice (some ⟨q, 0, none⟩) L.length cap) w (w.setCell ⟨q, k * 5 + f, none⟩ x) := by
  have hkk : ∀ j, j ≠ q → (w.setCell ⟨q, k * 5 + f, none⟩ x).heap[j]? = w.heap[j]? := fun j hj => Below.heap_setCell w ⟨q, k * 5 + f, none⟩ _ j hj
  refine ⟨⟨by rw [hkk p (by omega)]; exact h.box, ?_⟩, ⟨rfl, rfl, rfl, by simp, fun j _ _ h3 => hkk j (fun e => h3 (by simp [Value.ownBlock, e])), fun j e => .inl (by simpa [Value.ownBlock] using e)⟩⟩
  rw [List.length_set]
  refine ⟨by rw [rw5_len, List.length_set], ?_⟩
  rcases h.row.2 with ⟨h', _⟩ | ⟨g', cap', cur, h', hb, hg, h1, h2, h3, h4⟩
  · simp at h'
  · simp only [Value.slice.injEq, Option.some.injEq, Addr.mk.injEq, and_true, true_and] at h'
    obtain ⟨rfl, rfl⟩ := h'
    refine .inr ⟨q, cap, cur.setIfInBounds (k * 5 + f) x, rfl, hb, ?_, h1, h2, by simpa using h3, ?_⟩
    · simp [World.setCell, Array.getElem?_modify, hg]
    · rw [Array.toList_setIfInBounds, List.take_set, h4]
      exact rw5_setF f x L k c' hk hf hx
theorem RfB.push {w w' : World} {p i : Nat} {s : ByteArray} {v v' : Value} {L : List CR} {e : Int} (h : RfB w p s i v L e) (c : CR) (o : w'.ownsRow (p + 1) 42 5 v' (L.length + 1) (rw5 L ++ cellL c)) (os : w'.os = w.os) (tape : w'.tape = w.tape) (out : w'.output = w.output) (sz : w.heap.size ≤ w'.heap.size) (kp : ∀ k, k < w.heap.size → v.ownBlock ≠ some k → w'.heap[k]? = w.heap[k]?) (ha : v'.ownBlock = v.ownBlock ∨ ∃ k, v'.ownBlock = some k ∧ w.heap.size ≤ k) :
    w'.cell? ⟨p, 2, none⟩ = some v ∧ w'.frozen? ⟨p, 2, none⟩ = false ∧ RfB (w'.setCell ⟨p, 2, none⟩ v') p s i v' (L ++ [c]) e ∧ Fr p v v' w (w'.setCell ⟨p, 2, none⟩ v') := by
  have hb : w'.heap[p]? = some (.cells #[.string s, .int .i64 i, v, .int .i64 e] 49) := by
    rw [kp p h.lt (fun e => by have := h.far p e; omega)]
    exact h.box
  have hk : ∀ k, k ≠ p → (w'.setCell ⟨p, 2, none⟩ v').heap[k]? = w'.heap[k]? := fun k hk => Below.heap_setCell w' ⟨p, 2, none⟩ _ k hk
  refine ⟨by simp [World.cell?, hb], by simp [World.frozen?, hb], ⟨by simp [World.setCell, Array.getElem?_modify, hb], ?_⟩, ⟨os, tape, out, by simpa using sz, fun k h1 h2 h3 => by rw [hk k h2]; exact kp k h1 h3, fun k e => ?_⟩⟩
  · have o2 := own_move (w' := w'.setCell ⟨p, 2, none⟩ v') o (fun j hj => hk j (by have := (o.lt j hj).1; omega))
    rw [List.length_append, rw5_app]
    exact o2
  · rcases ha with ha | ⟨g, h1, h2⟩
    · exact .inl (ha ▸ e)
    · rw [h1] at e
      cases e
      exact .inr h2
theorem RfB.veq {w : World} {p i i' : Nat} {s : ByteArray} {v v' : Value} {L L' : List CR} {e e' : Int} (h : RfB w p s i v L e) (k : RfB w p s i' v' L' e') : v = v' := by
  have q := h.box.symm.trans k.box
  simp only [Option.some.injEq, Obj.cells.injEq, Array.mk.injEq, List.cons.injEq, and_true] at q
  exact q.2.2.1
/-- An own row of names. -/
def OwN (B : Nat) (w : World) (v : Value) (L : List ByteArray) : Prop := w.ownsRow B 9 1 v L.length (L.map Value.string) ∧ B ≤ w.heap.size
theorem OwN.nil {B : Nat} {w : World} (h : B ≤ w.heap.size) : OwN B w (.slice none 0 0) [] := ⟨World.ownsRow_nil _ _ _ _, h⟩
/-- A step of the reader leaves the row of names. -/
theorem OwN.fr {B p : Nat} {w w' : World} {v v1 v2 : Value} {L : List ByteArray} (h : OwN B w v L) (f : Fr p v1 v2 w w') (hp : p < B) (hv : ∀ k, v.ownBlock = some k → v1.ownBlock ≠ some k) : OwN B w' v L ∧ ∀ k, v.ownBlock = some k → v2.ownBlock ≠ some k := by
  refine ⟨⟨⟨h.1.1, ?_⟩, Nat.le_trans h.2 f.size⟩, fun k hk e => ?_⟩
  · rcases h.1.2 with h1 | ⟨g, cap, cur, rfl, hg, hc, rest⟩
    · exact .inl h1
    · exact .inr ⟨g, cap, cur, rfl, hg, by rw [f.kept g (Array.getElem?_eq_some_iff.1 hc).1 (by omega) (hv g rfl)]; exact hc, rest⟩
  · rcases f.own k e with e | e
    · exact hv k hk e
    · have := (h.1.lt k hk).2; omega
theorem OwN.at {B : Nat} {w : World} {v : Value} {L : List ByteArray} (h : OwN B w v L) : ∃ a cap, v = .slice a L.length cap ∧ ∀ k (hk : k < L.length), ∃ b, a = some ⟨b, 0, none⟩ ∧ w.cell? ⟨b, k, none⟩ = some (.string L[k]) := by
  rcases h.1.2 with ⟨rfl, hn⟩ | ⟨g, cap, cur, rfl, hg, hgg, h1, h2, h3, h4⟩
  · have : L = [] := List.length_eq_zero_iff.1 hn
    subst this
    exact ⟨none, 0, rfl, fun k hk => by simp at hk⟩
  · refine ⟨some ⟨g, 0, none⟩, cap, rfl, fun k hk => ⟨g, rfl, ?_⟩⟩
    rw [h.1.cellAt k (by omega)]
    simp [hk]
theorem infoS : ∃ i, Tryd.prog.info? 9 = some i ∧ i.zero = some (.string ⟨#[]⟩) ∧ i.size = 1 ∧ i.bytes = 16 := by
  have h := Tryd.typeInfo9 default
  unfold typeInfo at h
  cases hq : Tryd.prog.info? 9 with
  | none => simp [hq] at h
  | some i => exact ⟨i, rfl, by simp [hq] at h; subst h; exact ⟨rfl, rfl, rfl⟩⟩
theorem strq_ne {x y : ByteArray} (h : x ≠ y) : (x.toList == y.toList) = false := by rw [str_eq]; simpa using h
theorem strq_yes {x y : ByteArray} (h : x = y) : (x.toList == y.toList) = true := by rw [str_eq]; simpa using h
set_option maxRecDepth 20000 in
theorem amongR_any {B : Nat} {v : Value} {L : List ByteArray} (x : ByteArray) (w : World) (h : OwN B w v L) (hL : L.length ≤ 100000) : Calls Tryd.prog 59 #[v, .string x] w fun e w' => e = .returned (.bool (L.any fun y => decide (y = x))) ∧ w' = w := by
  obtain ⟨a, cap, rfl, hc⟩ := h.at
  obtain ⟨r, hr⟩ : ∃ r, r = (L.any fun y => decide (y = x)) := ⟨_, rfl⟩
  rw [← hr]
  have HR := Lib.hid hr
  have HC := Lib.hid hc
  have hn0 : (L.length : Int) ≤ 100000 := by omega
  clear hr hc h
  go_enter Tryd.func59, Tryd.ntmps59
  go_wp2_with fail
  go_loop [5] (fun v => ∃ i : Nat, i ≤ L.length ∧ v = .int .i64 i ∧ Hid (∀ j (hj : j < L.length), j < i → L[j] ≠ x)) (fun v => L.length - (intOf v).toNat)
  case atStart => exact ⟨0, Nat.zero_le _, rfl, Lib.hid (fun j _ hj => absurd hj (Nat.not_lt_zero j))⟩
  case round =>
    obtain ⟨i, hi, rfl, HP⟩ := hrel
    by_cases hlt : i < L.length
    · obtain ⟨b, rfl, c⟩ := HC.out i hlt
      have hi0 : (0 : Int) ≤ (i : Int) := by omega
      have hi1 : (i : Int) < L.length := by omega
      by_cases he : L[i] = x
      · have g := strq_yes he
        have HO : Hid (r = true) := Lib.hid (HR.out.trans (List.any_eq_true.2 ⟨L[i], List.getElem_mem hlt, by simpa using he⟩))
        clear he HP HR
        obtain ⟨y, hy⟩ : ∃ y, y = L[i] := ⟨_, rfl⟩
        rw [← hy] at c g
        clear hy
        go_wp2_with fail
        go_ret
        exact ⟨ret_bool HO.out.symm, rfl⟩
      · have g := strq_ne he
        have HN : Hid (∀ j (hj : j < L.length), j < i + 1 → L[j] ≠ x) := Lib.hid (fun j hj h1 => by
          by_cases e : j = i
          · subst e; exact he
          · exact HP.out j hj (by omega))
        clear he HP HR
        obtain ⟨y, hy⟩ : ∃ y, y = L[i] := ⟨_, rfl⟩
        rw [← hy] at c g
        clear hy
        go_wp2_with fail
        go_round
        case rel => exact ⟨i + 1, by omega, by go_num, HN⟩
        case measure => simp [intOf]; omega
    · have hge : ¬ ((i : Int) < L.length) := by omega
      have HO : Hid (r = false) := Lib.hid (HR.out.trans (by
        rw [List.any_eq_false]
        intro y hy
        obtain ⟨j, hj, rfl⟩ := List.mem_iff_getElem.1 hy
        have := HP.out j hj (by omega)
        simpa using this))
      clear HP HR
      go_wp2_with fail
      go_ret
      exact ⟨ret_bool HO.out.symm, rfl⟩
end Go.Proofs.YtoicmcjpaodgpaaDoor

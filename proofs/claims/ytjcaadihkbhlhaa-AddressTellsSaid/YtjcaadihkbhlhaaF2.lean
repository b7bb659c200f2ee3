import Derived.Test.YtjcaadihkbhlhaaF1
import Derived.Test.YtjcaadihkbhlhaaD2
namespace Go.Proofs.Ytjcaadihkbhlhaa
open Go.RowKit
set_option maxRecDepth 20000 in
theorem tells_big0 (s u h p a q : ByteArray) (hu hq : Bool) (w : World) (h0 : (1000 : Int) < (s.size : Int)) :
    Calls Try.prog 3 #[adV s u h p a q hu hq] w fun e w' => e = .returned (.bool true) ∧ Below w.heap.size w w' := by
  unfold adV
  have P0 := Lib.hid (AB.new w s u h p a q hu hq)
  go_enter Try.func3, Try.ntmps3
  go_upto_region 1 with fail
  obtain ⟨w0, hw0⟩ : ∃ w0, w0 = w.alloc (.cells #[.string s, .string u, .string h, .string p, .string a, .string q, .bool hu, .bool hq] 23) := ⟨_, rfl⟩
  rw [← hw0] at P0 ⊢
  clear hw0
  have hP0 := P0.out
  unfold AB at hP0
  obtain ⟨c0, c1, c2, c3, c4, c5, c6, c7, hsz, hbl⟩ := hP0
  go_wp2_with fail
  go_ret
  exact ⟨rfl, P0.out.2.2.2.2.2.2.2.2.2⟩
set_option maxRecDepth 20000 in
theorem tells_big1 (s u h p a q : ByteArray) (hu hq : Bool) (w : World) (h0 : ¬ (1000 : Int) < (s.size : Int)) (h1 : (1000 : Int) < (u.size : Int)) :
    Calls Try.prog 3 #[adV s u h p a q hu hq] w fun e w' => e = .returned (.bool true) ∧ Below w.heap.size w w' := by
  unfold adV
  have P0 := Lib.hid (AB.new w s u h p a q hu hq)
  go_enter Try.func3, Try.ntmps3
  go_upto_region 1 with fail
  obtain ⟨w0, hw0⟩ : ∃ w0, w0 = w.alloc (.cells #[.string s, .string u, .string h, .string p, .string a, .string q, .bool hu, .bool hq] 23) := ⟨_, rfl⟩
  rw [← hw0] at P0 ⊢
  clear hw0
  have hP0 := P0.out
  unfold AB at hP0
  obtain ⟨c0, c1, c2, c3, c4, c5, c6, c7, hsz, hbl⟩ := hP0
  go_wp2_with fail
  go_ret
  exact ⟨rfl, P0.out.2.2.2.2.2.2.2.2.2⟩
set_option maxRecDepth 20000 in
theorem tells_big2 (s u h p a q : ByteArray) (hu hq : Bool) (w : World) (h0 : ¬ (1000 : Int) < (s.size : Int)) (h1 : ¬ (1000 : Int) < (u.size : Int)) (h2 : (1000 : Int) < (h.size : Int)) :
    Calls Try.prog 3 #[adV s u h p a q hu hq] w fun e w' => e = .returned (.bool true) ∧ Below w.heap.size w w' := by
  unfold adV
  have P0 := Lib.hid (AB.new w s u h p a q hu hq)
  go_enter Try.func3, Try.ntmps3
  go_upto_region 1 with fail
  obtain ⟨w0, hw0⟩ : ∃ w0, w0 = w.alloc (.cells #[.string s, .string u, .string h, .string p, .string a, .string q, .bool hu, .bool hq] 23) := ⟨_, rfl⟩
  rw [← hw0] at P0 ⊢
  clear hw0
  have hP0 := P0.out
  unfold AB at hP0
  obtain ⟨c0, c1, c2, c3, c4, c5, c6, c7, hsz, hbl⟩ := hP0
  go_wp2_with fail
  go_ret
  exact ⟨rfl, P0.out.2.2.2.2.2.2.2.2.2⟩
set_option maxRecDepth 20000 in
theorem tells_big3 (s u h p a q : ByteArray) (hu hq : Bool) (w : World) (h0 : ¬ (1000 : Int) < (s.size : Int)) (h1 : ¬ (1000 : Int) < (u.size : Int)) (h2 : ¬ (1000 : Int) < (h.size : Int)) (h3 : (1000 : Int) < (p.size : Int)) :
    Calls Try.prog 3 #[adV s u h p a q hu hq] w fun e w' => e = .returned (.bool true) ∧ Below w.heap.size w w' := by
  unfold adV
  have P0 := Lib.hid (AB.new w s u h p a q hu hq)
  go_enter Try.func3, Try.ntmps3
  go_upto_region 1 with fail
  obtain ⟨w0, hw0⟩ : ∃ w0, w0 = w.alloc (.cells #[.string s, .string u, .string h, .string p, .string a, .string q, .bool hu, .bool hq] 23) := ⟨_, rfl⟩
  rw [← hw0] at P0 ⊢
  clear hw0
  have hP0 := P0.out
  unfold AB at hP0
  obtain ⟨c0, c1, c2, c3, c4, c5, c6, c7, hsz, hbl⟩ := hP0
  go_wp2_with fail
  go_ret
  exact ⟨rfl, P0.out.2.2.2.2.2.2.2.2.2⟩
set_option maxRecDepth 20000 in
theorem tells_big4 (s u h p a q : ByteArray) (hu hq : Bool) (w : World) (h0 : ¬ (1000 : Int) < (s.size : Int)) (h1 : ¬ (1000 : Int) < (u.size : Int)) (h2 : ¬ (1000 : Int) < (h.size : Int)) (h3 : ¬ (1000 : Int) < (p.size : Int)) (h4 : (1000 : Int) < (a.size : Int)) :
    Calls Try.prog 3 #[adV s u h p a q hu hq] w fun e w' => e = .returned (.bool true) ∧ Below w.heap.size w w' := by
  unfold adV
  have P0 := Lib.hid (AB.new w s u h p a q hu hq)
  go_enter Try.func3, Try.ntmps3
  go_upto_region 1 with fail
  obtain ⟨w0, hw0⟩ : ∃ w0, w0 = w.alloc (.cells #[.string s, .string u, .string h, .string p, .string a, .string q, .bool hu, .bool hq] 23) := ⟨_, rfl⟩
  rw [← hw0] at P0 ⊢
  clear hw0
  have hP0 := P0.out
  unfold AB at hP0
  obtain ⟨c0, c1, c2, c3, c4, c5, c6, c7, hsz, hbl⟩ := hP0
  go_wp2_with fail
  go_ret
  exact ⟨rfl, P0.out.2.2.2.2.2.2.2.2.2⟩
set_option maxRecDepth 20000 in
theorem tells_big5 (s u h p a q : ByteArray) (hu hq : Bool) (w : World) (h0 : ¬ (1000 : Int) < (s.size : Int)) (h1 : ¬ (1000 : Int) < (u.size : Int)) (h2 : ¬ (1000 : Int) < (h.size : Int)) (h3 : ¬ (1000 : Int) < (p.size : Int)) (h4 : ¬ (1000 : Int) < (a.size : Int)) (h5 : (1000 : Int) < (q.size : Int)) :
    Calls Try.prog 3 #[adV s u h p a q hu hq] w fun e w' => e = .returned (.bool true) ∧ Below w.heap.size w w' := by
  unfold adV
  have P0 := Lib.hid (AB.new w s u h p a q hu hq)
  go_enter Try.func3, Try.ntmps3
  go_upto_region 1 with fail
  obtain ⟨w0, hw0⟩ : ∃ w0, w0 = w.alloc (.cells #[.string s, .string u, .string h, .string p, .string a, .string q, .bool hu, .bool hq] 23) := ⟨_, rfl⟩
  rw [← hw0] at P0 ⊢
  clear hw0
  have hP0 := P0.out
  unfold AB at hP0
  obtain ⟨c0, c1, c2, c3, c4, c5, c6, c7, hsz, hbl⟩ := hP0
  go_wp2_with fail
  go_ret
  exact ⟨rfl, P0.out.2.2.2.2.2.2.2.2.2⟩
set_option maxRecDepth 20000 in
set_option maxHeartbeats 4000000 in
theorem tells_small (s u h p a q : ByteArray) (hu hq : Bool) (w : World) (h0 : ¬ (1000 : Int) < (s.size : Int)) (h1 : ¬ (1000 : Int) < (u.size : Int)) (h2 : ¬ (1000 : Int) < (h.size : Int)) (h3 : ¬ (1000 : Int) < (p.size : Int)) (h4 : ¬ (1000 : Int) < (a.size : Int)) (h5 : ¬ (1000 : Int) < (q.size : Int)) :
    Calls Try.prog 3 #[adV s u h p a q hu hq] w fun e w' => e = .returned (.bool true) ∧ Below w.heap.size w w' := by
  have CX := Lib.hid (fun W => text_any s u h p a q hu hq (by omega) (by omega) (by omega) (by omega) (by omega) (by omega) W)
  have RX := Lib.hid (fun W => rtext_any s u h p a q hu hq (by omega) (by omega) (by omega) (by omega) (by omega) (by omega) W)
  have CC := Lib.hid (fun W => check_any s u h p a q hu hq (by omega) (by omega) (by omega) (by omega) (by omega) (by omega) W)
  have RC := Lib.hid (fun W => rcheck_any s u h p a q hu hq (by omega) (by omega) (by omega) (by omega) (by omega) (by omega) W)
  obtain ⟨X, hX⟩ : ∃ j, j = textE (mayP s u h p a q hu hq) (joinT s u h p a q hu hq) := ⟨_, rfl⟩
  obtain ⟨E, hE⟩ : ∃ j, j = numE (mayP s u h p a q hu hq) := ⟨_, rfl⟩
  rw [← hX] at CX RX
  rw [← hE] at CX RX CC RC
  clear hX hE
  unfold adV at CX RX CC RC ⊢
  have P0 := Lib.hid (AB.new w s u h p a q hu hq)
  go_enter Try.func3, Try.ntmps3
  go_upto_region 1 with fail
  obtain ⟨w0, hw0⟩ : ∃ w0, w0 = w.alloc (.cells #[.string s, .string u, .string h, .string p, .string a, .string q, .bool hu, .bool hq] 23) := ⟨_, rfl⟩
  rw [← hw0] at P0 ⊢
  clear hw0
  have hP0 := P0.out
  unfold AB at hP0
  obtain ⟨c0, c1, c2, c3, c4, c5, c6, c7, hsz, hbl⟩ := hP0
  go_wp2_with fail
  refine (CX.out _).mono ?_
  rintro e w1 ⟨rfl, b1⟩
  have P1 := Lib.hid (P0.out.up b1)
  clear b1 c0 c1 c2 c3 c4 c5 c6 c7 hsz hbl h0 h1 h2 h3 h4 h5
  have hP0 := P1.out
  unfold AB at hP0
  obtain ⟨c0, c1, c2, c3, c4, c5, c6, c7, hsz, hbl⟩ := hP0
  go_wp2_with fail
  refine (RX.out _).mono ?_
  rintro e w2 ⟨rfl, b2⟩
  have P2 := Lib.hid (P1.out.up b2)
  clear b2 c0 c1 c2 c3 c4 c5 c6 c7 hsz hbl P1 P0 CX RX
  go_upto_region 5 with fail
  have hSS : AB w s u h p a q hu hq w2.drew := P2.out.up ((Below.refl _ _).drew)
  first | refine wp_region_held_drew (S := fun W => AB w s u h p a q hu hq W) (by kernel_rfl) hSS (fun hHeld => ?_) | (refine wp_region_noPanic ?_; refine wp_region_held_drew (S := fun W => AB w s u h p a q hu hq W) (by kernel_rfl) hSS (fun hHeld => ?_))
  refine wpAnyH_take (i := 0) (oi := { dst := some 51, op := Op.move (Operand.tmp 3), type := 9, pos := "law.go:29", after := #[], guard := none }) (v := .string X) rfl (by kernel_rfl) (by kernel_rfl) (by kernel_rfl) (fun _ _ _ h => h) (Or.inl ⟨by rfl, fun w hSw => by (go_simp <;> rfl)⟩) hHeld ?_
  try simp only [Act.put, List.setIfInBounds_toArray, List.set_cons_zero, List.set_cons_succ]
  refine wpAnyH_take (i := 1) (oi := { dst := some 52, op := Op.move (Operand.tmp 5), type := 9, pos := "law.go:29", after := #[], guard := none }) (v := .string X) rfl (by kernel_rfl) (by kernel_rfl) (by kernel_rfl) (fun _ _ _ h => h) (Or.inl ⟨by rfl, fun w hSw => by (go_simp <;> rfl)⟩) hHeld ?_
  try simp only [Act.put, List.setIfInBounds_toArray, List.set_cons_zero, List.set_cons_succ]
  refine wpAnyH_take (i := 2) (oi := { dst := some 53, op := Op.binOp BinOp.eql 9 (Operand.tmp 51) (Operand.tmp 52) 9, type := 4, pos := "law.go:29", after := #[{ on := 0, ground := Ground.data }, { on := 1, ground := Ground.data }], guard := none }) (v := .bool true) rfl (by kernel_rfl) (by kernel_rfl) (by kernel_rfl) (fun _ _ _ h => h) (Or.inl ⟨by rfl, fun w hSw => by (go_simp <;> rfl)⟩) hHeld ?_
  try simp only [Act.put, List.setIfInBounds_toArray, List.set_cons_zero, List.set_cons_succ]
  refine wpAnyH_take (i := 3) (oi := { dst := some 54, op := Op.move (Operand.tmp 53), type := 4, pos := "law.go:29", after := #[{ on := 2, ground := Ground.data }], guard := none }) (v := .bool true) rfl (by kernel_rfl) (by kernel_rfl) (by kernel_rfl) (fun _ _ _ h => h) (Or.inl ⟨by rfl, fun w hSw => by (go_simp <;> rfl)⟩) hHeld ?_
  try simp only [Act.put, List.setIfInBounds_toArray, List.set_cons_zero, List.set_cons_succ]
  refine wpAnyH_take (i := 4) (oi := { dst := some 55, op := Op.move (Operand.tmp 4), type := 24, pos := "law.go:29", after := #[{ on := 3, ground := Ground.guard }], guard := some (3, true) }) (v := .int .i64 E) rfl (by kernel_rfl) (by kernel_rfl) (by kernel_rfl) (fun _ _ _ h => h) (Or.inl ⟨by rfl, fun w hSw => by (go_simp <;> rfl)⟩) hHeld ?_
  try simp only [Act.put, List.setIfInBounds_toArray, List.set_cons_zero, List.set_cons_succ]
  refine wpAnyH_take (i := 5) (oi := { dst := some 56, op := Op.move (Operand.tmp 6), type := 3, pos := "law.go:29", after := #[{ on := 3, ground := Ground.guard }], guard := some (3, true) }) (v := .int .i64 E) rfl (by kernel_rfl) (by kernel_rfl) (by kernel_rfl) (fun _ _ _ h => h) (Or.inl ⟨by rfl, fun w hSw => by (go_simp <;> rfl)⟩) hHeld ?_
  try simp only [Act.put, List.setIfInBounds_toArray, List.set_cons_zero, List.set_cons_succ]
  refine wpAnyH_take (i := 6) (oi := { dst := some 57, op := Op.binOp BinOp.eql 3 (Operand.tmp 55) (Operand.tmp 56) 3, type := 4, pos := "law.go:29", after := #[{ on := 4, ground := Ground.data }, { on := 5, ground := Ground.data }, { on := 3, ground := Ground.guard }], guard := some (3, true) }) (v := .bool true) rfl (by kernel_rfl) (by kernel_rfl) (by kernel_rfl) (fun _ _ _ h => h) (Or.inl ⟨by rfl, fun w hSw => by (go_simp <;> rfl)⟩) hHeld ?_
  try simp only [Act.put, List.setIfInBounds_toArray, List.set_cons_zero, List.set_cons_succ]
  refine wpAnyH_take (i := 7) (oi := { dst := some 58, op := Op.pick (Operand.tmp 54) (Operand.tmp 57) (Operand.const (Value.bool false)), type := 4, pos := "law.go:29", after := #[{ on := 3, ground := Ground.data }, { on := 6, ground := Ground.data }], guard := none }) (v := .bool true) rfl (by kernel_rfl) (by kernel_rfl) (by kernel_rfl) (fun _ _ _ h => h) (Or.inl ⟨by rfl, fun w hSw => by (go_simp <;> rfl)⟩) hHeld ?_
  try simp only [Act.put, List.setIfInBounds_toArray, List.set_cons_zero, List.set_cons_succ]
  refine wpAnyH_take (i := 8) (oi := { dst := some 59, op := Op.move (Operand.tmp 58), type := 4, pos := "law.go:29", after := #[{ on := 7, ground := Ground.data }, { on := 3, ground := Ground.chain }], guard := none }) (v := .bool true) rfl (by kernel_rfl) (by kernel_rfl) (by kernel_rfl) (fun _ _ _ h => h) (Or.inl ⟨by rfl, fun w hSw => by (go_simp <;> rfl)⟩) hHeld ?_
  try simp only [Act.put, List.setIfInBounds_toArray, List.set_cons_zero, List.set_cons_succ]
  refine wpAnyH_take (i := 9) (oi := { dst := some 60, op := Op.load 23 (Operand.tmp 1), type := 23, pos := "law.go:29", after := #[{ on := 8, ground := Ground.guard }], guard := some (8, true) }) (v := .agg #[.string s, .string u, .string h, .string p, .string a, .string q, .bool hu, .bool hq]) rfl (by kernel_rfl) (by kernel_rfl) (by kernel_rfl) (fun _ _ _ h => h) (Or.inl ⟨by rfl, fun w hSw => by (have g0 := hSw.1; have g1 := hSw.2.1; have g2 := hSw.2.2.1; have g3 := hSw.2.2.2.1; have g4 := hSw.2.2.2.2.1; have g5 := hSw.2.2.2.2.2.1; have g6 := hSw.2.2.2.2.2.2.1; have g7 := hSw.2.2.2.2.2.2.2.1; go_simp <;> rfl)⟩) hHeld ?_
  try simp only [Act.put, List.setIfInBounds_toArray, List.set_cons_zero, List.set_cons_succ]
  refine wpAnyH_take (i := 11) (oi := { dst := some 62, op := Op.load 23 (Operand.tmp 1), type := 23, pos := "law.go:29", after := #[{ on := 8, ground := Ground.guard }], guard := some (8, true) }) (v := .agg #[.string s, .string u, .string h, .string p, .string a, .string q, .bool hu, .bool hq]) rfl (by kernel_rfl) (by kernel_rfl) (by kernel_rfl) (fun _ _ _ h => h) (Or.inl ⟨by rfl, fun w hSw => by (have g0 := hSw.1; have g1 := hSw.2.1; have g2 := hSw.2.2.1; have g3 := hSw.2.2.2.1; have g4 := hSw.2.2.2.2.1; have g5 := hSw.2.2.2.2.2.1; have g6 := hSw.2.2.2.2.2.2.1; have g7 := hSw.2.2.2.2.2.2.2.1; go_simp <;> rfl)⟩) hHeld ?_
  try simp only [Act.put, List.setIfInBounds_toArray, List.set_cons_zero, List.set_cons_succ]
  refine wpAnyH_ready (rs := [10]) (by kernel_rfl) (by simp) (AllReadyH.cons (o := { dst := some 61, op := Op.call { callee := Callee.value (Operand.func 6), args := #[Operand.tmp 60], argTypes := #[23] }, type := 24, pos := "law.go:29", after := #[{ on := 9, ground := Ground.data }, { on := 8, ground := Ground.chain }, { on := 8, ground := Ground.guard }], guard := some (8, true) }) rfl (fun K10 hK10 => ?_) AllReadyH.nil)
  go_simp
  refine (CC.out _).mono ?_
  rintro e w10 ⟨rfl, b10⟩
  refine hK10.out _ _ (AB.up hHeld b10) (fun hH11_10 => ?_)
  clear b10
  clear hK10 K10
  try simp only [Act.put, List.setIfInBounds_toArray, List.set_cons_zero, List.set_cons_succ]
  refine wpAnyH_ready (rs := [12]) (by kernel_rfl) (by simp) (AllReadyH.cons (o := { dst := some 63, op := Op.call { callee := Callee.value (Operand.func 7), args := #[Operand.tmp 62], argTypes := #[23] }, type := 3, pos := "law.go:29", after := #[{ on := 11, ground := Ground.data }, { on := 10, ground := Ground.chain }, { on := 8, ground := Ground.guard }], guard := some (8, true) }) rfl (fun K12 hK12 => ?_) AllReadyH.nil)
  go_simp
  refine (RC.out _).mono ?_
  rintro e w12 ⟨rfl, b12⟩
  refine hK12.out _ _ (AB.up hH11_10 b12) (fun hH12_12 => ?_)
  clear b12
  clear hK12 K12
  try simp only [Act.put, List.setIfInBounds_toArray, List.set_cons_zero, List.set_cons_succ]
  refine wpAnyH_take (i := 13) (oi := { dst := some 64, op := Op.binOp BinOp.eql 3 (Operand.tmp 61) (Operand.tmp 63) 3, type := 4, pos := "law.go:29", after := #[{ on := 10, ground := Ground.data }, { on := 12, ground := Ground.data }, { on := 8, ground := Ground.guard }], guard := some (8, true) }) (v := .bool true) rfl (by kernel_rfl) (by kernel_rfl) (by kernel_rfl) (fun _ _ _ h => h) (Or.inl ⟨by rfl, fun w hSw => by (go_simp <;> rfl)⟩) hH12_12 ?_
  try simp only [Act.put, List.setIfInBounds_toArray, List.set_cons_zero, List.set_cons_succ]
  refine wpAnyH_take (i := 14) (oi := { dst := some 65, op := Op.pick (Operand.tmp 59) (Operand.tmp 64) (Operand.const (Value.bool false)), type := 4, pos := "law.go:29", after := #[{ on := 8, ground := Ground.data }, { on := 13, ground := Ground.data }], guard := none }) (v := .bool true) rfl (by kernel_rfl) (by kernel_rfl) (by kernel_rfl) (fun _ _ _ h => h) (Or.inl ⟨by rfl, fun w hSw => by (go_simp <;> rfl)⟩) hH12_12 ?_
  try simp only [Act.put, List.setIfInBounds_toArray, List.set_cons_zero, List.set_cons_succ]
  refine wpAnyH_take (i := 15) (oi := { dst := some 2, op := Op.assign (Operand.tmp 65), type := 4, pos := "law.go:29", after := #[{ on := 14, ground := Ground.data }, { on := 12, ground := Ground.chain }, { on := 0, ground := Ground.phase }, { on := 1, ground := Ground.phase }, { on := 2, ground := Ground.phase }, { on := 3, ground := Ground.phase }, { on := 4, ground := Ground.phase }, { on := 5, ground := Ground.phase }, { on := 6, ground := Ground.phase }, { on := 7, ground := Ground.phase }, { on := 8, ground := Ground.phase }, { on := 9, ground := Ground.phase }, { on := 10, ground := Ground.phase }, { on := 11, ground := Ground.phase }, { on := 12, ground := Ground.phase }, { on := 13, ground := Ground.phase }, { on := 14, ground := Ground.phase }], guard := none }) (v := .bool true) rfl (by kernel_rfl) (by kernel_rfl) (by kernel_rfl) (fun _ _ _ h => h) (Or.inl ⟨by rfl, fun w hSw => by (go_simp <;> rfl)⟩) hH12_12 ?_
  try simp only [Act.put, List.setIfInBounds_toArray, List.set_cons_zero, List.set_cons_succ]
  refine wpAnyH_done (by kernel_rfl) ?_ _
  have HL := Lib.hid hH12_12
  first | refine NoPanic.normal ?_ | skip
  go_wp2_with fail
  go_ret
  exact ⟨rfl, HL.out.2.2.2.2.2.2.2.2.2⟩
theorem tells_any (s u h p a q : ByteArray) (hu hq : Bool) (w : World) :
    Calls Try.prog 3 #[adV s u h p a q hu hq] w fun e w' => e = .returned (.bool true) ∧ Below w.heap.size w w' := by
  by_cases h0 : (1000 : Int) < (s.size : Int)
  · exact tells_big0 s u h p a q hu hq w h0
  by_cases h1 : (1000 : Int) < (u.size : Int)
  · exact tells_big1 s u h p a q hu hq w h0 h1
  by_cases h2 : (1000 : Int) < (h.size : Int)
  · exact tells_big2 s u h p a q hu hq w h0 h1 h2
  by_cases h3 : (1000 : Int) < (p.size : Int)
  · exact tells_big3 s u h p a q hu hq w h0 h1 h2 h3
  by_cases h4 : (1000 : Int) < (a.size : Int)
  · exact tells_big4 s u h p a q hu hq w h0 h1 h2 h3 h4
  by_cases h5 : (1000 : Int) < (q.size : Int)
  · exact tells_big5 s u h p a q hu hq w h0 h1 h2 h3 h4 h5
  exact tells_small s u h p a q hu hq w h0 h1 h2 h3 h4 h5
end Go.Proofs.Ytjcaadihkbhlhaa

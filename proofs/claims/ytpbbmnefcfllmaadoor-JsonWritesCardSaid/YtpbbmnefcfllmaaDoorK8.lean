import Derived.Test.YtpbbmnefcfllmaaDoorK7
/- Layer 3: the document's Behind, its loop. -/
namespace Go.Proofs.YtpbbmnefcfllmaaDoor
open Go.RowKit Go.Maps
theorem kidsF_step (w : Nat → Option Nat) (g : Nat → CR) (n : Nat) (obj : Bool) (m i : Nat) (names : List ByteArray) (q : Nat) (hi : i < m) : kidsF w g n obj (m - i) names q = if n ≤ q then none else if namedP obj names (g q).nm then (match w q with
      | none => none
      | some a' => kidsF w g n obj (m - (i + 1)) (if obj then (g q).nm :: names else names) a') else none := by
  rw [show m - i = (m - (i + 1)) + 1 by omega, kidsF]
  rfl
def NilIf (obj : Bool) (names : List ByteArray) : Prop := obj = false → names = []
def KRel (obj : Bool) (n : Nat) (W w2 : World) (m : Nat) (K : Nat → List ByteArray → Nat → Option Nat) (res : Option Nat) (v1 v8 v9 : Value) (wr : World) : Prop :=
  ∃ (i q : Nat) (names : List ByteArray), i ≤ m ∧ v9 = .int .i64 i ∧ v1 = .int .i64 q ∧ q ≤ n ∧ Hid (NL wr w2.heap.size v8 names.reverse) ∧ Hid (Below w2.heap.size w2 wr) ∧ Hid (K i names q = res) ∧ Hid (names.length ≤ q) ∧ Hid (NilIf obj names)
set_option maxRecDepth 20000 in
set_option maxHeartbeats 4000000 in
theorem beh_kids6 (a : Option Addr) (n cap : Nat) (g : Nat → CR) (hcw : CW n g) (hn : n ≤ 2048) (r : Nat) (dv : Int) (p : Nat) (W : World) (hv : CV W a n g) (hnz : ∀ i, i < n → (g i).nm.size ≤ 2000000) (hp : p < n) (ho : oneP (g p) = true) (hk : (g p).k = 6) (r0 : Nat) (hr : r = r0 + 1) (hd : dv = ((r0 + 1 : Nat) : Int)) (hr0 : r0 ≤ 16)
    (IH : ∀ (dv' : Int), dv' = r0 → ∀ (q : Nat) (W' : World), CV W' a n g → q ≤ n → Calls Tryd.prog 27 #[.slice a n cap, .int .i64 (q : Nat), .int .i64 dv'] W' (BPost W' (wk g n r0 q))) :
    Calls Tryd.prog 27 #[.slice a n cap, .int .i64 (p : Nat), .int .i64 dv] W (BPost W (wk g n r p)) := by
  have hh : headP (g p) = true := by unfold headP; rw [hk]; rfl
  have hm0 := (one_head ho hh).2.2.1
  obtain ⟨m, hm⟩ : ∃ m : Nat, (g p).m = m := ⟨(g p).m.toNat, by omega⟩
  have HR : Hid (wk g n r p = kidsF (wk g n r0) g n false (m - 0) [] (p + 1)) := Lib.hid (by subst hr; rw [wk_s, if_neg (by omega), ho, hh, hk, hm]; rfl)
  obtain ⟨res, hres⟩ : ∃ x, x = wk g n r p := ⟨_, rfl⟩
  rw [← hres] at HR ⊢
  clear hres
  obtain ⟨b, off, rfl, hb, k0, k1, k2, k3, k4⟩ := hv p hp
  have HO := Lib.hid (fun W' => rone_any (g p) W' (hcw p hp).2.2.1)
  rw [ho] at HO
  obtain ⟨c, hc⟩ : ∃ c, c = g p := ⟨_, rfl⟩
  have g1 : ¬ ((p : Int) < 0) := by omega
  have g2 : ¬ ((n : Int) ≤ p) := by omega
  have g3 : (p : Int) < n := by omega
  have g4 : (0 : Int) ≤ p := by omega
  have g5 : (n : Int) ≤ 2048 := by omega
  have hkc : c.k = 6 := by rw [hc]; exact hk
  have hmc : c.m = m := by rw [hc]; exact hm
  rw [← hc] at k0 k1 k2 k3 k4 HO
  have hm3 : (m : Int) ≤ 9223372036854775807 := by rw [← hmc, hc]; exact (hcw p hp).2.2.2.2
  rw [hmc] at k4 HO
  rw [hkc] at k0 HO
  replace k0 : W.cell? ⟨b, off + p * 5, none⟩ = some (.int .u8 6) := k0
  replace HO : Hid (∀ W', Calls Tryd.prog 39 #[.agg #[.int .u8 6, .string c.nm, .string c.tx, .int .i64 c.n, .int .i64 m]] W' fun e w' => e = .returned (.bool true) ∧ Below W'.heap.size W' w') := HO
  obtain rfl : dv = (r0 : Int) + 1 := by omega
  have gd : ((r0 : Int) + 1 == 0) = false := by rw [beq_eq_false_iff_ne]; omega
  have HV := Lib.hid hv
  have hIH := Lib.hid IH
  have HNZ := Lib.hid hnz
  have hpn1 : p + 1 ≤ n := by omega
  obtain ⟨i0, hi0, hz0, hz1, hz2⟩ := infoStr
  clear hc hm hmc hkc hcw hv ho hh hk hr hd IH hnz hm0 hp
  go_enter Tryd.func27, Tryd.ntmps27
  go_wp2_with fail
  with_reducible refine (HO.out W).mono ?_
  rintro e w1 ⟨rfl, b1⟩
  have B1 := Lib.hid b1
  have d0 := (b1.cell (World.block_lt_of_cell? _ _ k0)).trans k0
  have d1 := (b1.cell (World.block_lt_of_cell? _ _ k1)).trans k1
  have d2 := (b1.cell (World.block_lt_of_cell? _ _ k2)).trans k2
  have d3 := (b1.cell (World.block_lt_of_cell? _ _ k3)).trans k3
  have d4 := (b1.cell (World.block_lt_of_cell? _ _ k4)).trans k4
  clear b1 k0 k1 k2 k3 k4
  go_wp2_with fail
  obtain ⟨w2, hw2⟩ : ∃ x, x = w1.alloc (.cells #[.int .u8 6, .string c.nm, .string c.tx, .int .i64 c.n, .int .i64 m] 33) := ⟨_, rfl⟩
  have e0 : w2.cell? ⟨w1.heap.size, 0, none⟩ = some (.int .u8 6) := by rw [hw2]; simp
  have e4 : w2.cell? ⟨w1.heap.size, 4, none⟩ = some (.int .i64 m) := by rw [hw2]; simp
  have B2 : Hid (Below W.heap.size W w2) := Lib.hid (by rw [hw2]; exact B1.out.alloc B1.out.size _)
  rw [← hw2]
  clear hw2 d0 d1 d2 d3 d4 HO B1
  obtain ⟨BX, hBX⟩ : ∃ x, x = w1.heap.size := ⟨_, rfl⟩
  rw [← hBX] at e0 e4 ⊢
  clear hBX
  obtain ⟨K, hK⟩ : ∃ K : Nat → List ByteArray → Nat → Option Nat, K = fun i names q => kidsF (wk g n r0) g n false (m - i) names q := ⟨_, rfl⟩
  have HKS : Hid (∀ i names q, i < m → K i names q = if n ≤ q then none else if namedP false names (g q).nm then (match wk g n r0 q with
      | none => none
      | some a' => K (i + 1) (if false then (g q).nm :: names else names) a') else none) := Lib.hid (fun i names q hi => by rw [hK]; exact kidsF_step _ _ _ _ _ _ _ _ hi)
  have HKE : Hid (∀ names q, K m names q = some q) := Lib.hid (fun names q => by rw [hK]; show kidsF _ _ _ _ (m - m) _ _ = _; rw [Nat.sub_self, kidsF])
  have HR0 : Hid (K 0 [] (p + 1) = res) := Lib.hid (by rw [hK]; exact HR.out.symm)
  clear hK HR
  go_loopw [1, 8, 9] (fun v1 v8 v9 wr => KRel false n W w2 m K res v1 v8 v9 wr) (fun _ _ v9 _ => m - (intOf v9).toNat)
  case atStart => exact ⟨0, p + 1, [], Nat.zero_le _, rfl, by go_num, hpn1, Lib.hid (World.ownsRow_nil _ _ _ _), Lib.hid (Below.refl _ _), HR0, Lib.hid (Nat.zero_le _), Lib.hid (fun _ => rfl)⟩
  case round =>
    obtain ⟨i, q, names, hi, rfl, rfl, hq, HN, HB, HK, HL, HNN⟩ := hrel
    have f0 := (HB.out.cell (World.block_lt_of_cell? _ _ e0)).trans e0
    have f4 := (HB.out.cell (World.block_lt_of_cell? _ _ e4)).trans e4
    clear HR0 e0 e4
    obtain ⟨RL, hRL⟩ : ∃ RL, RL = names.reverse := ⟨_, rfl⟩
    rw [← hRL] at HN
    have HRL := Lib.hid hRL
    clear hRL
    by_cases hlt : i < m
    · have hlt' : (i : Int) < m := by omega
      have hq0 : (0 : Int) ≤ q := by omega
      have HK1 := Lib.hid ((HKS.out i names q hlt).symm.trans HK.out)
      have HBW := Lib.hid (B2.out.trans (HB.out.mono B2.out.size))
      clear HK
      by_cases hqn : q < n
      · have hq1 : ¬ ((n : Int) ≤ q) := by omega
        have hq1d : decide (n ≤ q) = false := by simp; omega
        have hq2 : (q : Int) < n := by omega
        obtain ⟨_, _, e, _, _, c1, _, _, _⟩ := (HV.out.below HBW.out) q hqn
        cases e
        have hsz := HNZ.out q hqn
        have HKN : Hid (namedP false names (g q).nm = false → res = none) := Lib.hid (fun h => by
          have := HK1.out
          rw [if_neg (by omega), h] at this
          exact this.symm)
        have HKY : Hid (namedP false names (g q).nm = true → (match wk g n r0 q with
            | none => none
            | some a' => K (i + 1) (if false then (g q).nm :: names else names) a') = res) := Lib.hid (fun h => by
          have := HK1.out
          rw [if_neg (by omega), if_pos h] at this
          exact this)
        obtain ⟨nm, hnm⟩ : ∃ x, x = (g q).nm := ⟨_, rfl⟩
        rw [← hnm] at c1 hsz HKN HKY
        clear HK1 hnm hqn
        cases he : em nm with
        | false =>
          have ge := em_no he
          have HZ : Hid (res = none) := Lib.hid (HKN.out (by unfold namedP; exact he))
          clear HKN HKY HKS HKE hIH HL
          go_wp2_with fail
          go_quiet (fail)
          go_wp2_with fail
          go_ret
          exact BPost.no HZ.out (below_drewN0 HBW.out _)
        | true =>
          obtain rfl := em_yes he
          clear he
          have HX := Lib.hid (fun W' => rtxt_any ⟨#[]⟩ W' hsz)
          rw [show ckB ⟨#[]⟩ = true from rfl] at HX
          have HY := Lib.hid (HKY.out rfl)
          have hnil : Hid (names = []) := Lib.hid (HNN.out rfl)
          obtain ⟨na, nc, rfl, _⟩ := HN.out.nv
          have hSS : BS w2 w2.heap.size BX b (off + q * 5 + 1) ⟨6, ⟨#[]⟩, ⟨#[]⟩, 0, 0⟩ ⟨#[]⟩ (.slice na RL.length nc) RL wr.drew := ⟨f0, c1, HB.out.drew, HN.out.drew⟩
          have HAV : Hid (names.any (fun y => decide (y = ⟨#[]⟩)) = false) := Lib.hid (by rw [hnil.out]; rfl)
          have HT : Hid (∀ w', BS w2 w2.heap.size BX b (off + q * 5 + 1) ⟨6, ⟨#[]⟩, ⟨#[]⟩, 0, 0⟩ ⟨#[]⟩ (.slice na RL.length nc) RL w' → Calls Tryd.prog 40 #[.string ⟨#[]⟩] w' fun e wx => e = .returned (.bool true) ∧ BS w2 w2.heap.size BX b (off + q * 5 + 1) ⟨6, ⟨#[]⟩, ⟨#[]⟩, 0, 0⟩ ⟨#[]⟩ (.slice na RL.length nc) RL wx) := Lib.hid (fun w' h => (HX.out w').mono fun e wx ⟨h1, h2⟩ => ⟨h1, h.up h2⟩)
          have HA : Hid (∀ w', BS w2 w2.heap.size BX b (off + q * 5 + 1) ⟨6, ⟨#[]⟩, ⟨#[]⟩, 0, 0⟩ ⟨#[]⟩ (.slice na RL.length nc) RL w' → Calls Tryd.prog 41 #[(.slice na RL.length nc), .string ⟨#[]⟩] w' fun e wx => e = .returned (.bool false) ∧ BS w2 w2.heap.size BX b (off + q * 5 + 1) ⟨6, ⟨#[]⟩, ⟨#[]⟩, 0, 0⟩ ⟨#[]⟩ (.slice na RL.length nc) RL wx) := Lib.hid (fun w' h => (among_nl names RL HRL.out (by have := HL.out; omega) ⟨#[]⟩ false HAV.out w2.heap.size na nc w' h.2.2.2).mono fun e wx ⟨h1, h2⟩ => ⟨h1, by rw [h2]; exact h⟩)
          clear HN HB
          go_wp2_with fail
          clear f4 c1 f0
          refine wp_region_held_drew (S := (fun w' => w'.cell? ⟨BX, 0, none⟩ = some (.int .u8 6) ∧ w'.cell? ⟨b, off + q * 5 + 1, none⟩ = some (.string ⟨#[]⟩) ∧ Below w2.heap.size w2 w' ∧ NL w' w2.heap.size (.slice na RL.length nc) RL)) (by kernel_rfl) hSS (fun hHeld => ?_)
          refine wpAnyH_take (i := 0) (oi := { dst := some 49, op := Op.move (Operand.tmp 1), type := 3, pos := "ref.go:71", after := #[], guard := none }) (v := ?_) rfl (by kernel_rfl) (by kernel_rfl) (by kernel_rfl) (fun _ _ _ h => h) (Or.inl ⟨by rfl, ?_⟩) hHeld ?_
          rotate_left
          · (intro w hSw; (try dsimp only at hSw); go_simp <;> with_reducible rfl)
          try simp only [Act.put, List.setIfInBounds_toArray, List.set_cons_zero, List.set_cons_succ]
          refine wpAnyH_take (i := 1) (oi := { dst := some 50, op := Op.move (Operand.tmp 0), type := 22, pos := "ref.go:71", after := #[], guard := none }) (v := ?_) rfl (by kernel_rfl) (by kernel_rfl) (by kernel_rfl) (fun _ _ _ h => h) (Or.inl ⟨by rfl, ?_⟩) hHeld ?_
          rotate_left
          · (intro w hSw; (try dsimp only at hSw); go_simp <;> with_reducible rfl)
          try simp only [Act.put, List.setIfInBounds_toArray, List.set_cons_zero, List.set_cons_succ]
          refine wpAnyH_take (i := 2) (oi := { dst := some 51, op := Op.call { callee := Callee.builtin Builtin.len, args := #[Operand.tmp 50], argTypes := #[22] }, type := 3, pos := "ref.go:71", after := #[{ on := 1, ground := Ground.data }], guard := none }) (v := ?_) rfl (by kernel_rfl) (by kernel_rfl) (by kernel_rfl) (fun _ _ _ h => h) (Or.inl ⟨by rfl, ?_⟩) hHeld ?_
          rotate_left
          · (intro w hSw; (try dsimp only at hSw); go_simp <;> with_reducible rfl)
          try simp only [Act.put, List.setIfInBounds_toArray, List.set_cons_zero, List.set_cons_succ]
          refine wpAnyH_take (i := 3) (oi := { dst := some 52, op := Op.binOp BinOp.geq 3 (Operand.tmp 49) (Operand.tmp 51) 3, type := 4, pos := "ref.go:71", after := #[{ on := 0, ground := Ground.data }, { on := 2, ground := Ground.data }], guard := none }) (v := ?_) rfl (by kernel_rfl) (by kernel_rfl) (by kernel_rfl) (fun _ _ _ h => h) (Or.inl ⟨by rfl, ?_⟩) hHeld ?_
          rotate_left
          · (intro w hSw; (try dsimp only at hSw); go_simp <;> with_reducible rfl)
          try simp only [Act.put, List.setIfInBounds_toArray, List.set_cons_zero, List.set_cons_succ]
          refine wpAnyH_take (i := 4) (oi := { dst := some 53, op := Op.move (Operand.tmp 52), type := 4, pos := "ref.go:71", after := #[{ on := 3, ground := Ground.data }], guard := none }) (v := ?_) rfl (by kernel_rfl) (by kernel_rfl) (by kernel_rfl) (fun _ _ _ h => h) (Or.inl ⟨by rfl, ?_⟩) hHeld ?_
          rotate_left
          · (intro w hSw; (try dsimp only at hSw); go_simp <;> with_reducible rfl)
          try simp only [Act.put, List.setIfInBounds_toArray, List.set_cons_zero, List.set_cons_succ]
          refine wpAnyH_take (i := 5) (oi := { dst := some 54, op := Op.move (Operand.tmp 0), type := 22, pos := "ref.go:71", after := #[{ on := 4, ground := Ground.guard }], guard := some (4, false) }) (v := ?_) rfl (by kernel_rfl) (by kernel_rfl) (by kernel_rfl) (fun _ _ _ h => h) (Or.inl ⟨by rfl, ?_⟩) hHeld ?_
          rotate_left
          · (intro w hSw; (try dsimp only at hSw); go_simp <;> with_reducible rfl)
          try simp only [Act.put, List.setIfInBounds_toArray, List.set_cons_zero, List.set_cons_succ]
          refine wpAnyH_take (i := 6) (oi := { dst := some 55, op := Op.move (Operand.tmp 1), type := 3, pos := "ref.go:71", after := #[{ on := 4, ground := Ground.guard }], guard := some (4, false) }) (v := ?_) rfl (by kernel_rfl) (by kernel_rfl) (by kernel_rfl) (fun _ _ _ h => h) (Or.inl ⟨by rfl, ?_⟩) hHeld ?_
          rotate_left
          · (intro w hSw; (try dsimp only at hSw); go_simp <;> with_reducible rfl)
          try simp only [Act.put, List.setIfInBounds_toArray, List.set_cons_zero, List.set_cons_succ]
          refine wpAnyH_take (i := 7) (oi := { dst := some 56, op := Op.indexAddr 22 (Operand.tmp 54) (Operand.tmp 55), type := 0, pos := "ref.go:71", after := #[{ on := 5, ground := Ground.data }, { on := 6, ground := Ground.data }, { on := 4, ground := Ground.guard }], guard := some (4, false) }) (v := ?_) rfl (by kernel_rfl) (by kernel_rfl) (by kernel_rfl) (fun _ _ _ h => h) (Or.inl ⟨by rfl, ?_⟩) hHeld ?_
          rotate_left
          · (intro w hSw; (try dsimp only at hSw); go_simp <;> with_reducible rfl)
          try simp only [Act.put, List.setIfInBounds_toArray, List.set_cons_zero, List.set_cons_succ]
          refine wpAnyH_take (i := 8) (oi := { dst := some 57, op := Op.fieldAddr 33 (Operand.tmp 56) 1, type := 0, pos := "ref.go:71", after := #[{ on := 7, ground := Ground.data }, { on := 4, ground := Ground.guard }], guard := some (4, false) }) (v := ?_) rfl (by kernel_rfl) (by kernel_rfl) (by kernel_rfl) (fun _ _ _ h => h) (Or.inl ⟨by rfl, ?_⟩) hHeld ?_
          rotate_left
          · (intro w hSw; (try dsimp only at hSw); go_simp <;> with_reducible rfl)
          try simp only [Act.put, List.setIfInBounds_toArray, List.set_cons_zero, List.set_cons_succ]
          refine wpAnyH_take (i := 9) (oi := { dst := some 58, op := Op.load 9 (Operand.tmp 57), type := 9, pos := "ref.go:71", after := #[{ on := 8, ground := Ground.data }, { on := 4, ground := Ground.guard }], guard := some (4, false) }) (v := ?_) rfl (by kernel_rfl) (by kernel_rfl) (by kernel_rfl) (fun _ _ _ h => h) (Or.inl ⟨by rfl, ?_⟩) hHeld ?_
          rotate_left
          · (intro w hSw; (try dsimp only at hSw); go_simp <;> with_reducible rfl)
          try simp only [Act.put, List.setIfInBounds_toArray, List.set_cons_zero, List.set_cons_succ]
          refine wpAnyH_take (i := 10) (oi := { dst := some 59, op := Op.binOp BinOp.eql 9 (Operand.tmp 58) (Operand.const (Value.string { data := #[] })) 9, type := 4, pos := "ref.go:71", after := #[{ on := 9, ground := Ground.data }, { on := 4, ground := Ground.guard }], guard := some (4, false) }) (v := ?_) rfl (by kernel_rfl) (by kernel_rfl) (by kernel_rfl) (fun _ _ _ h => h) (Or.inl ⟨by rfl, ?_⟩) hHeld ?_
          rotate_left
          · (intro w hSw; (try dsimp only at hSw); go_simp <;> with_reducible rfl)
          try simp only [Act.put, List.setIfInBounds_toArray, List.set_cons_zero, List.set_cons_succ]
          refine wpAnyH_take (i := 11) (oi := { dst := some 60, op := Op.fieldAddr 33 (Operand.tmp 7) 0, type := 0, pos := "ref.go:71", after := #[{ on := 4, ground := Ground.guard }], guard := some (4, false) }) (v := ?_) rfl (by kernel_rfl) (by kernel_rfl) (by kernel_rfl) (fun _ _ _ h => h) (Or.inl ⟨by rfl, ?_⟩) hHeld ?_
          rotate_left
          · (intro w hSw; (try dsimp only at hSw); go_simp <;> with_reducible rfl)
          try simp only [Act.put, List.setIfInBounds_toArray, List.set_cons_zero, List.set_cons_succ]
          refine wpAnyH_take (i := 12) (oi := { dst := some 61, op := Op.load 5 (Operand.tmp 60), type := 5, pos := "ref.go:71", after := #[{ on := 11, ground := Ground.data }, { on := 4, ground := Ground.guard }], guard := some (4, false) }) (v := ?_) rfl (by kernel_rfl) (by kernel_rfl) (by kernel_rfl) (fun _ _ _ h => h) (Or.inl ⟨by rfl, ?_⟩) hHeld ?_
          rotate_left
          · (intro w hSw; (try dsimp only at hSw); go_simp <;> with_reducible rfl)
          try simp only [Act.put, List.setIfInBounds_toArray, List.set_cons_zero, List.set_cons_succ]
          refine wpAnyH_take (i := 13) (oi := { dst := some 62, op := Op.binOp BinOp.eql 5 (Operand.tmp 61) (Operand.const (Value.int IntKind.u8 6)) 5, type := 4, pos := "ref.go:71", after := #[{ on := 12, ground := Ground.data }, { on := 4, ground := Ground.guard }], guard := some (4, false) }) (v := ?_) rfl (by kernel_rfl) (by kernel_rfl) (by kernel_rfl) (fun _ _ _ h => h) (Or.inl ⟨by rfl, ?_⟩) hHeld ?_
          rotate_left
          · (intro w hSw; (try dsimp only at hSw); go_simp <;> with_reducible rfl)
          try simp only [Act.put, List.setIfInBounds_toArray, List.set_cons_zero, List.set_cons_succ]
          refine wpAnyH_take (i := 14) (oi := { dst := some 63, op := Op.binOp BinOp.neq 4 (Operand.tmp 59) (Operand.tmp 62) 4, type := 4, pos := "ref.go:71", after := #[{ on := 10, ground := Ground.data }, { on := 13, ground := Ground.data }, { on := 4, ground := Ground.guard }], guard := some (4, false) }) (v := ?_) rfl (by kernel_rfl) (by kernel_rfl) (by kernel_rfl) (fun _ _ _ h => h) (Or.inl ⟨by rfl, ?_⟩) hHeld ?_
          rotate_left
          · (intro w hSw; (try dsimp only at hSw); go_simp <;> with_reducible rfl)
          try simp only [Act.put, List.setIfInBounds_toArray, List.set_cons_zero, List.set_cons_succ]
          refine wpAnyH_take (i := 15) (oi := { dst := some 64, op := Op.pick (Operand.tmp 53) (Operand.const (Value.bool true)) (Operand.tmp 63), type := 4, pos := "ref.go:71", after := #[{ on := 4, ground := Ground.data }, { on := 14, ground := Ground.data }], guard := none }) (v := ?_) rfl (by kernel_rfl) (by kernel_rfl) (by kernel_rfl) (fun _ _ _ h => h) (Or.inl ⟨by rfl, ?_⟩) hHeld ?_
          rotate_left
          · (intro w hSw; (try dsimp only at hSw); go_simp <;> with_reducible rfl)
          try simp only [Act.put, List.setIfInBounds_toArray, List.set_cons_zero, List.set_cons_succ]
          refine wpAnyH_take (i := 16) (oi := { dst := some 65, op := Op.move (Operand.tmp 64), type := 4, pos := "ref.go:71", after := #[{ on := 15, ground := Ground.data }, { on := 4, ground := Ground.chain }], guard := none }) (v := ?_) rfl (by kernel_rfl) (by kernel_rfl) (by kernel_rfl) (fun _ _ _ h => h) (Or.inl ⟨by rfl, ?_⟩) hHeld ?_
          rotate_left
          · (intro w hSw; (try dsimp only at hSw); go_simp <;> with_reducible rfl)
          try simp only [Act.put, List.setIfInBounds_toArray, List.set_cons_zero, List.set_cons_succ]
          refine wpAnyH_take (i := 17) (oi := { dst := some 66, op := Op.move (Operand.tmp 0), type := 22, pos := "ref.go:71", after := #[{ on := 16, ground := Ground.guard }], guard := some (16, false) }) (v := ?_) rfl (by kernel_rfl) (by kernel_rfl) (by kernel_rfl) (fun _ _ _ h => h) (Or.inl ⟨by rfl, ?_⟩) hHeld ?_
          rotate_left
          · (intro w hSw; (try dsimp only at hSw); go_simp <;> with_reducible rfl)
          try simp only [Act.put, List.setIfInBounds_toArray, List.set_cons_zero, List.set_cons_succ]
          refine wpAnyH_take (i := 18) (oi := { dst := some 67, op := Op.move (Operand.tmp 1), type := 3, pos := "ref.go:71", after := #[{ on := 16, ground := Ground.guard }], guard := some (16, false) }) (v := ?_) rfl (by kernel_rfl) (by kernel_rfl) (by kernel_rfl) (fun _ _ _ h => h) (Or.inl ⟨by rfl, ?_⟩) hHeld ?_
          rotate_left
          · (intro w hSw; (try dsimp only at hSw); go_simp <;> with_reducible rfl)
          try simp only [Act.put, List.setIfInBounds_toArray, List.set_cons_zero, List.set_cons_succ]
          refine wpAnyH_take (i := 19) (oi := { dst := some 68, op := Op.indexAddr 22 (Operand.tmp 66) (Operand.tmp 67), type := 0, pos := "ref.go:71", after := #[{ on := 17, ground := Ground.data }, { on := 18, ground := Ground.data }, { on := 16, ground := Ground.guard }], guard := some (16, false) }) (v := ?_) rfl (by kernel_rfl) (by kernel_rfl) (by kernel_rfl) (fun _ _ _ h => h) (Or.inl ⟨by rfl, ?_⟩) hHeld ?_
          rotate_left
          · (intro w hSw; (try dsimp only at hSw); go_simp <;> with_reducible rfl)
          try simp only [Act.put, List.setIfInBounds_toArray, List.set_cons_zero, List.set_cons_succ]
          refine wpAnyH_take (i := 20) (oi := { dst := some 69, op := Op.fieldAddr 33 (Operand.tmp 68) 1, type := 0, pos := "ref.go:71", after := #[{ on := 19, ground := Ground.data }, { on := 16, ground := Ground.guard }], guard := some (16, false) }) (v := ?_) rfl (by kernel_rfl) (by kernel_rfl) (by kernel_rfl) (fun _ _ _ h => h) (Or.inl ⟨by rfl, ?_⟩) hHeld ?_
          rotate_left
          · (intro w hSw; (try dsimp only at hSw); go_simp <;> with_reducible rfl)
          try simp only [Act.put, List.setIfInBounds_toArray, List.set_cons_zero, List.set_cons_succ]
          refine wpAnyH_take (i := 21) (oi := { dst := some 70, op := Op.load 9 (Operand.tmp 69), type := 9, pos := "ref.go:71", after := #[{ on := 20, ground := Ground.data }, { on := 16, ground := Ground.guard }], guard := some (16, false) }) (v := ?_) rfl (by kernel_rfl) (by kernel_rfl) (by kernel_rfl) (fun _ _ _ h => h) (Or.inl ⟨by rfl, ?_⟩) hHeld ?_
          rotate_left
          · (intro w hSw; (try dsimp only at hSw); go_simp <;> with_reducible rfl)
          try simp only [Act.put, List.setIfInBounds_toArray, List.set_cons_zero, List.set_cons_succ]
          refine wpAnyH_ready (rs := [22]) (by kernel_rfl) (by simp) (AllReadyH.cons (o := { dst := some 71, op := Op.call { callee := Callee.value (Operand.func 40), args := #[Operand.tmp 70], argTypes := #[9] }, type := 4, pos := "ref.go:71", after := #[{ on := 21, ground := Ground.data }, { on := 16, ground := Ground.chain }, { on := 16, ground := Ground.guard }], guard := some (16, false) }) rfl (fun K22 hK22 => ?_) AllReadyH.nil)
          go_simp
          refine (HT.out _ hHeld).mono ?_
          rintro e wa ⟨rfl, hS2⟩
          refine hK22.out _ _ hS2 (fun hH_22 => ?_)
          clear hS2
          clear hK22 K22
          try simp only [Act.put, List.setIfInBounds_toArray, List.set_cons_zero, List.set_cons_succ]
          refine wpAnyH_take (i := 23) (oi := { dst := some 72, op := Op.unOp UnOp.not 4 (Operand.tmp 71), type := 4, pos := "ref.go:71", after := #[{ on := 22, ground := Ground.data }, { on := 16, ground := Ground.guard }], guard := some (16, false) }) (v := ?_) rfl (by kernel_rfl) (by kernel_rfl) (by kernel_rfl) (fun _ _ _ h => h) (Or.inl ⟨by rfl, ?_⟩) hH_22 ?_
          rotate_left
          · (intro w hSw; (try dsimp only at hSw); go_simp <;> with_reducible rfl)
          try simp only [Act.put, List.setIfInBounds_toArray, List.set_cons_zero, List.set_cons_succ]
          refine wpAnyH_take (i := 24) (oi := { dst := some 73, op := Op.pick (Operand.tmp 65) (Operand.const (Value.bool true)) (Operand.tmp 72), type := 4, pos := "ref.go:71", after := #[{ on := 16, ground := Ground.data }, { on := 23, ground := Ground.data }], guard := none }) (v := ?_) rfl (by kernel_rfl) (by kernel_rfl) (by kernel_rfl) (fun _ _ _ h => h) (Or.inl ⟨by rfl, ?_⟩) hH_22 ?_
          rotate_left
          · (intro w hSw; (try dsimp only at hSw); go_simp <;> with_reducible rfl)
          try simp only [Act.put, List.setIfInBounds_toArray, List.set_cons_zero, List.set_cons_succ]
          refine wpAnyH_take (i := 25) (oi := { dst := some 74, op := Op.move (Operand.tmp 73), type := 4, pos := "ref.go:71", after := #[{ on := 24, ground := Ground.data }, { on := 22, ground := Ground.chain }], guard := none }) (v := ?_) rfl (by kernel_rfl) (by kernel_rfl) (by kernel_rfl) (fun _ _ _ h => h) (Or.inl ⟨by rfl, ?_⟩) hH_22 ?_
          rotate_left
          · (intro w hSw; (try dsimp only at hSw); go_simp <;> with_reducible rfl)
          try simp only [Act.put, List.setIfInBounds_toArray, List.set_cons_zero, List.set_cons_succ]
          refine wpAnyH_take (i := 26) (oi := { dst := some 75, op := Op.move (Operand.tmp 8), type := 61, pos := "ref.go:71", after := #[{ on := 25, ground := Ground.guard }], guard := some (25, false) }) (v := ?_) rfl (by kernel_rfl) (by kernel_rfl) (by kernel_rfl) (fun _ _ _ h => h) (Or.inl ⟨by rfl, ?_⟩) hH_22 ?_
          rotate_left
          · (intro w hSw; (try dsimp only at hSw); go_simp <;> with_reducible rfl)
          try simp only [Act.put, List.setIfInBounds_toArray, List.set_cons_zero, List.set_cons_succ]
          refine wpAnyH_take (i := 27) (oi := { dst := some 76, op := Op.move (Operand.tmp 0), type := 22, pos := "ref.go:71", after := #[{ on := 25, ground := Ground.guard }], guard := some (25, false) }) (v := ?_) rfl (by kernel_rfl) (by kernel_rfl) (by kernel_rfl) (fun _ _ _ h => h) (Or.inl ⟨by rfl, ?_⟩) hH_22 ?_
          rotate_left
          · (intro w hSw; (try dsimp only at hSw); go_simp <;> with_reducible rfl)
          try simp only [Act.put, List.setIfInBounds_toArray, List.set_cons_zero, List.set_cons_succ]
          refine wpAnyH_take (i := 28) (oi := { dst := some 77, op := Op.move (Operand.tmp 1), type := 3, pos := "ref.go:71", after := #[{ on := 25, ground := Ground.guard }], guard := some (25, false) }) (v := ?_) rfl (by kernel_rfl) (by kernel_rfl) (by kernel_rfl) (fun _ _ _ h => h) (Or.inl ⟨by rfl, ?_⟩) hH_22 ?_
          rotate_left
          · (intro w hSw; (try dsimp only at hSw); go_simp <;> with_reducible rfl)
          try simp only [Act.put, List.setIfInBounds_toArray, List.set_cons_zero, List.set_cons_succ]
          refine wpAnyH_take (i := 29) (oi := { dst := some 78, op := Op.indexAddr 22 (Operand.tmp 76) (Operand.tmp 77), type := 0, pos := "ref.go:71", after := #[{ on := 27, ground := Ground.data }, { on := 28, ground := Ground.data }, { on := 25, ground := Ground.guard }], guard := some (25, false) }) (v := ?_) rfl (by kernel_rfl) (by kernel_rfl) (by kernel_rfl) (fun _ _ _ h => h) (Or.inl ⟨by rfl, ?_⟩) hH_22 ?_
          rotate_left
          · (intro w hSw; (try dsimp only at hSw); go_simp <;> with_reducible rfl)
          try simp only [Act.put, List.setIfInBounds_toArray, List.set_cons_zero, List.set_cons_succ]
          refine wpAnyH_take (i := 30) (oi := { dst := some 79, op := Op.fieldAddr 33 (Operand.tmp 78) 1, type := 0, pos := "ref.go:71", after := #[{ on := 29, ground := Ground.data }, { on := 25, ground := Ground.guard }], guard := some (25, false) }) (v := ?_) rfl (by kernel_rfl) (by kernel_rfl) (by kernel_rfl) (fun _ _ _ h => h) (Or.inl ⟨by rfl, ?_⟩) hH_22 ?_
          rotate_left
          · (intro w hSw; (try dsimp only at hSw); go_simp <;> with_reducible rfl)
          try simp only [Act.put, List.setIfInBounds_toArray, List.set_cons_zero, List.set_cons_succ]
          refine wpAnyH_take (i := 31) (oi := { dst := some 80, op := Op.load 9 (Operand.tmp 79), type := 9, pos := "ref.go:71", after := #[{ on := 30, ground := Ground.data }, { on := 25, ground := Ground.guard }], guard := some (25, false) }) (v := ?_) rfl (by kernel_rfl) (by kernel_rfl) (by kernel_rfl) (fun _ _ _ h => h) (Or.inl ⟨by rfl, ?_⟩) hH_22 ?_
          rotate_left
          · (intro w hSw; (try dsimp only at hSw); go_simp <;> with_reducible rfl)
          try simp only [Act.put, List.setIfInBounds_toArray, List.set_cons_zero, List.set_cons_succ]
          refine wpAnyH_ready (rs := [32]) (by kernel_rfl) (by simp) (AllReadyH.cons (o := { dst := some 81, op := Op.call { callee := Callee.value (Operand.func 41), args := #[Operand.tmp 75, Operand.tmp 80], argTypes := #[61, 9] }, type := 4, pos := "ref.go:71", after := #[{ on := 26, ground := Ground.data }, { on := 31, ground := Ground.data }, { on := 25, ground := Ground.chain }, { on := 25, ground := Ground.guard }], guard := some (25, false) }) rfl (fun K32 hK32 => ?_) AllReadyH.nil)
          go_simp
          refine (HA.out _ hH_22).mono ?_
          rintro e w' ⟨rfl, hS3⟩
          refine hK32.out _ _ hS3 (fun hH_32 => ?_)
          clear hS3
          clear hK32 K32
          try simp only [Act.put, List.setIfInBounds_toArray, List.set_cons_zero, List.set_cons_succ]
          refine wpAnyH_take (i := 33) (oi := { dst := some 82, op := Op.pick (Operand.tmp 74) (Operand.const (Value.bool true)) (Operand.tmp 81), type := 4, pos := "ref.go:71", after := #[{ on := 25, ground := Ground.data }, { on := 32, ground := Ground.data }], guard := none }) (v := ?_) rfl (by kernel_rfl) (by kernel_rfl) (by kernel_rfl) (fun _ _ _ h => h) (Or.inl ⟨by rfl, ?_⟩) hH_32 ?_
          rotate_left
          · (intro w hSw; (try dsimp only at hSw); go_simp <;> with_reducible rfl)
          try simp only [Act.put, List.setIfInBounds_toArray, List.set_cons_zero, List.set_cons_succ]
          refine wpAnyH_done (by kernel_rfl) ?_ _
          have hLast := Lib.hid hH_32
          clear hHeld hH_22 hH_32
          obtain ⟨f0, c1, HB3, HN3⟩ := hLast.out
          clear hLast
          clear hSS HT HA HAV
          replace HB3 := Lib.hid HB3
          replace HN3 := Lib.hid HN3
          cases hx : wk g n r0 q with
          | none =>
            have HZ : Hid (res = none) := Lib.hid (by have := HY.out; rw [hx] at this; exact this.symm)
            have HI := Lib.hid (hIH.out r0 rfl q _ (HV.out.below (B2.out.trans (HB3.out.mono B2.out.size))) (by omega))
            rw [hx] at HI
            clear hx HY HKN HKY HKS HKE hIH HL HX
            go_wp2_with fail
            with_reducible refine HI.out.mono ?_
            rintro e w4 ⟨rfl, b4⟩
            unfold wkI
            clear HI
            have B4 := Lib.hid ((B2.out.trans (HB3.out.mono B2.out.size)).trans (b4.mono (B2.out.trans (HB3.out.mono B2.out.size)).size))
            clear b4
            go_wp2_with fail
            go_ret
            exact BPost.no HZ.out B4.out
          | some q2 =>
            have hql := wk_lt _ _ _ hx
            have HY2 := HY.out
            rw [hx] at HY2
            have HI := Lib.hid (hIH.out r0 rfl q _ (HV.out.below (B2.out.trans (HB3.out.mono B2.out.size))) (by omega))
            rw [hx] at HI
            replace HY2 := Lib.hid HY2
            have hq20 : (0 : Int) ≤ q2 := by omega
            clear hx HY HKN HKY HKS HKE hIH HX
            go_wp2_with fail
            with_reducible refine HI.out.mono ?_
            rintro e w4 ⟨rfl, b4⟩
            unfold wkI
            have HB4 := Lib.hid (HB3.out.trans (b4.mono HB3.out.size))
            have HN4 : Hid (NL w4 w2.heap.size _ _) := Lib.hid (own_below HN3.out b4)
            clear b4 HI
            go_wp2_with fail
            have HNN2 : Hid (NilIf false names) := HNN
            go_roundw
            case rel => exact ⟨i + 1, q2, names, by omega, by go_num, rfl, hql.2, Lib.hid (by rw [← HRL.out]; exact HN4.out), HB4, HY2, Lib.hid (by have := HL.out; simp; omega), HNN2⟩
            case measure => simp [intOf]; omega
      · have HZ : Hid (res = none) := Lib.hid (by have := HK1.out; rw [if_pos (by omega)] at this; exact this.symm)
        have hq1 : (n : Int) ≤ q := by omega
        have hq1d : decide (n ≤ q) = true := by simp; omega
        clear HKS HKE hIH HL HK1
        go_wp2_with fail
        go_quiet (fail)
        go_wp2_with fail
        go_ret
        exact BPost.no HZ.out (below_drewN0 HBW.out _)
    · have e1 : i = m := by omega
      subst e1
      have hge : ¬ ((i : Int) < i) := by omega
      have HZ : Hid (res = some q) := Lib.hid (by rw [← HK.out, HKE.out])
      clear HKS HKE hIH HK
      go_wp2_with fail
      go_ret
      exact BPost.yes HZ.out rfl (B2.out.trans (HB.out.mono B2.out.size))
set_option maxRecDepth 20000 in
set_option maxHeartbeats 4000000 in
theorem beh_kids7 (a : Option Addr) (n cap : Nat) (g : Nat → CR) (hcw : CW n g) (hn : n ≤ 2048) (r : Nat) (dv : Int) (p : Nat) (W : World) (hv : CV W a n g) (hnz : ∀ i, i < n → (g i).nm.size ≤ 2000000) (hp : p < n) (ho : oneP (g p) = true) (hk : (g p).k = 7) (r0 : Nat) (hr : r = r0 + 1) (hd : dv = ((r0 + 1 : Nat) : Int)) (hr0 : r0 ≤ 16)
    (IH : ∀ (dv' : Int), dv' = r0 → ∀ (q : Nat) (W' : World), CV W' a n g → q ≤ n → Calls Tryd.prog 27 #[.slice a n cap, .int .i64 (q : Nat), .int .i64 dv'] W' (BPost W' (wk g n r0 q))) :
    Calls Tryd.prog 27 #[.slice a n cap, .int .i64 (p : Nat), .int .i64 dv] W (BPost W (wk g n r p)) := by
  have hh : headP (g p) = true := by unfold headP; rw [hk]; rfl
  have hm0 := (one_head ho hh).2.2.1
  obtain ⟨m, hm⟩ : ∃ m : Nat, (g p).m = m := ⟨(g p).m.toNat, by omega⟩
  have HR : Hid (wk g n r p = kidsF (wk g n r0) g n true (m - 0) [] (p + 1)) := Lib.hid (by subst hr; rw [wk_s, if_neg (by omega), ho, hh, hk, hm]; rfl)
  obtain ⟨res, hres⟩ : ∃ x, x = wk g n r p := ⟨_, rfl⟩
  rw [← hres] at HR ⊢
  clear hres
  obtain ⟨b, off, rfl, hb, k0, k1, k2, k3, k4⟩ := hv p hp
  have HO := Lib.hid (fun W' => rone_any (g p) W' (hcw p hp).2.2.1)
  rw [ho] at HO
  obtain ⟨c, hc⟩ : ∃ c, c = g p := ⟨_, rfl⟩
  have g1 : ¬ ((p : Int) < 0) := by omega
  have g2 : ¬ ((n : Int) ≤ p) := by omega
  have g3 : (p : Int) < n := by omega
  have g4 : (0 : Int) ≤ p := by omega
  have g5 : (n : Int) ≤ 2048 := by omega
  have hkc : c.k = 7 := by rw [hc]; exact hk
  have hmc : c.m = m := by rw [hc]; exact hm
  rw [← hc] at k0 k1 k2 k3 k4 HO
  have hm3 : (m : Int) ≤ 9223372036854775807 := by rw [← hmc, hc]; exact (hcw p hp).2.2.2.2
  rw [hmc] at k4 HO
  rw [hkc] at k0 HO
  replace k0 : W.cell? ⟨b, off + p * 5, none⟩ = some (.int .u8 7) := k0
  replace HO : Hid (∀ W', Calls Tryd.prog 39 #[.agg #[.int .u8 7, .string c.nm, .string c.tx, .int .i64 c.n, .int .i64 m]] W' fun e w' => e = .returned (.bool true) ∧ Below W'.heap.size W' w') := HO
  obtain rfl : dv = (r0 : Int) + 1 := by omega
  have gd : ((r0 : Int) + 1 == 0) = false := by rw [beq_eq_false_iff_ne]; omega
  have HV := Lib.hid hv
  have hIH := Lib.hid IH
  have HNZ := Lib.hid hnz
  have hpn1 : p + 1 ≤ n := by omega
  obtain ⟨i0, hi0, hz0, hz1, hz2⟩ := infoStr
  clear hc hm hmc hkc hcw hv ho hh hk hr hd IH hnz hm0 hp
  go_enter Tryd.func27, Tryd.ntmps27
  go_wp2_with fail
  with_reducible refine (HO.out W).mono ?_
  rintro e w1 ⟨rfl, b1⟩
  have B1 := Lib.hid b1
  have d0 := (b1.cell (World.block_lt_of_cell? _ _ k0)).trans k0
  have d1 := (b1.cell (World.block_lt_of_cell? _ _ k1)).trans k1
  have d2 := (b1.cell (World.block_lt_of_cell? _ _ k2)).trans k2
  have d3 := (b1.cell (World.block_lt_of_cell? _ _ k3)).trans k3
  have d4 := (b1.cell (World.block_lt_of_cell? _ _ k4)).trans k4
  clear b1 k0 k1 k2 k3 k4
  go_wp2_with fail
  obtain ⟨w2, hw2⟩ : ∃ x, x = w1.alloc (.cells #[.int .u8 7, .string c.nm, .string c.tx, .int .i64 c.n, .int .i64 m] 33) := ⟨_, rfl⟩
  have e0 : w2.cell? ⟨w1.heap.size, 0, none⟩ = some (.int .u8 7) := by rw [hw2]; simp
  have e4 : w2.cell? ⟨w1.heap.size, 4, none⟩ = some (.int .i64 m) := by rw [hw2]; simp
  have B2 : Hid (Below W.heap.size W w2) := Lib.hid (by rw [hw2]; exact B1.out.alloc B1.out.size _)
  rw [← hw2]
  clear hw2 d0 d1 d2 d3 d4 HO B1
  obtain ⟨BX, hBX⟩ : ∃ x, x = w1.heap.size := ⟨_, rfl⟩
  rw [← hBX] at e0 e4 ⊢
  clear hBX
  obtain ⟨K, hK⟩ : ∃ K : Nat → List ByteArray → Nat → Option Nat, K = fun i names q => kidsF (wk g n r0) g n true (m - i) names q := ⟨_, rfl⟩
  have HKS : Hid (∀ i names q, i < m → K i names q = if n ≤ q then none else if namedP true names (g q).nm then (match wk g n r0 q with
      | none => none
      | some a' => K (i + 1) (if true then (g q).nm :: names else names) a') else none) := Lib.hid (fun i names q hi => by rw [hK]; exact kidsF_step _ _ _ _ _ _ _ _ hi)
  have HKE : Hid (∀ names q, K m names q = some q) := Lib.hid (fun names q => by rw [hK]; show kidsF _ _ _ _ (m - m) _ _ = _; rw [Nat.sub_self, kidsF])
  have HR0 : Hid (K 0 [] (p + 1) = res) := Lib.hid (by rw [hK]; exact HR.out.symm)
  clear hK HR
  go_loopw [1, 8, 9] (fun v1 v8 v9 wr => KRel true n W w2 m K res v1 v8 v9 wr) (fun _ _ v9 _ => m - (intOf v9).toNat)
  case atStart => exact ⟨0, p + 1, [], Nat.zero_le _, rfl, by go_num, hpn1, Lib.hid (World.ownsRow_nil _ _ _ _), Lib.hid (Below.refl _ _), HR0, Lib.hid (Nat.zero_le _), Lib.hid (fun _ => rfl)⟩
  case round =>
    obtain ⟨i, q, names, hi, rfl, rfl, hq, HN, HB, HK, HL, HNN⟩ := hrel
    have f0 := (HB.out.cell (World.block_lt_of_cell? _ _ e0)).trans e0
    have f4 := (HB.out.cell (World.block_lt_of_cell? _ _ e4)).trans e4
    clear HR0 e0 e4
    obtain ⟨RL, hRL⟩ : ∃ RL, RL = names.reverse := ⟨_, rfl⟩
    rw [← hRL] at HN
    have HRL := Lib.hid hRL
    clear hRL
    by_cases hlt : i < m
    · have hlt' : (i : Int) < m := by omega
      have hq0 : (0 : Int) ≤ q := by omega
      have HK1 := Lib.hid ((HKS.out i names q hlt).symm.trans HK.out)
      have HBW := Lib.hid (B2.out.trans (HB.out.mono B2.out.size))
      clear HK
      by_cases hqn : q < n
      · have hq1 : ¬ ((n : Int) ≤ q) := by omega
        have hq1d : decide (n ≤ q) = false := by simp; omega
        have hq2 : (q : Int) < n := by omega
        obtain ⟨_, _, e, _, _, c1, _, _, _⟩ := (HV.out.below HBW.out) q hqn
        cases e
        have hsz := HNZ.out q hqn
        have HKN : Hid (namedP true names (g q).nm = false → res = none) := Lib.hid (fun h => by
          have := HK1.out
          rw [if_neg (by omega), h] at this
          exact this.symm)
        have HKY : Hid (namedP true names (g q).nm = true → (match wk g n r0 q with
            | none => none
            | some a' => K (i + 1) (if true then (g q).nm :: names else names) a') = res) := Lib.hid (fun h => by
          have := HK1.out
          rw [if_neg (by omega), if_pos h] at this
          exact this)
        obtain ⟨nm, hnm⟩ : ∃ x, x = (g q).nm := ⟨_, rfl⟩
        rw [← hnm] at c1 hsz HKN HKY
        clear HK1 hnm hqn
        cases he : em nm with
        | true =>
          obtain rfl := em_yes he
          clear he
          have HZ : Hid (res = none) := Lib.hid (HKN.out (by unfold namedP; rw [show em ⟨#[]⟩ = true from rfl]; simp))
          clear HKN HKY HKS HKE hIH HL
          go_wp2_with fail
          go_quiet (fail)
          go_wp2_with fail
          go_ret
          exact BPost.no HZ.out (below_drewN0 HBW.out _)
        | false =>
          have ge := em_no he
          have HX := Lib.hid (fun W' => rtxt_any nm W' hsz)
          cases hck : ckB nm with
          | false =>
            rw [hck] at HX
            have HZ : Hid (res = none) := Lib.hid (HKN.out (by unfold namedP; rw [hck]; simp))
            clear hck he
            obtain ⟨na, nc, rfl, _⟩ := HN.out.nv
            have hSS : BS w2 w2.heap.size BX b (off + q * 5 + 1) ⟨7, ⟨#[]⟩, ⟨#[]⟩, 0, 0⟩ nm (.slice na RL.length nc) RL wr.drew := ⟨f0, c1, HB.out.drew, HN.out.drew⟩
            have HT : Hid (∀ w', BS w2 w2.heap.size BX b (off + q * 5 + 1) ⟨7, ⟨#[]⟩, ⟨#[]⟩, 0, 0⟩ nm (.slice na RL.length nc) RL w' → Calls Tryd.prog 40 #[.string nm] w' fun e wx => e = .returned (.bool false) ∧ BS w2 w2.heap.size BX b (off + q * 5 + 1) ⟨7, ⟨#[]⟩, ⟨#[]⟩, 0, 0⟩ nm (.slice na RL.length nc) RL wx) := Lib.hid (fun w' h => (HX.out w').mono fun e wx ⟨h1, h2⟩ => ⟨h1, h.up h2⟩)
            clear HN HB
            go_wp2_with fail
            clear f4 c1 f0
            refine wp_region_held_drew (S := (fun w' => w'.cell? ⟨BX, 0, none⟩ = some (.int .u8 7) ∧ w'.cell? ⟨b, off + q * 5 + 1, none⟩ = some (.string nm) ∧ Below w2.heap.size w2 w' ∧ NL w' w2.heap.size (.slice na RL.length nc) RL)) (by kernel_rfl) hSS (fun hHeld => ?_)
            refine wpAnyH_take (i := 0) (oi := { dst := some 49, op := Op.move (Operand.tmp 1), type := 3, pos := "ref.go:71", after := #[], guard := none }) (v := ?_) rfl (by kernel_rfl) (by kernel_rfl) (by kernel_rfl) (fun _ _ _ h => h) (Or.inl ⟨by rfl, ?_⟩) hHeld ?_
            rotate_left
            · (intro w hSw; (try dsimp only at hSw); go_simp <;> with_reducible rfl)
            try simp only [Act.put, List.setIfInBounds_toArray, List.set_cons_zero, List.set_cons_succ]
            refine wpAnyH_take (i := 1) (oi := { dst := some 50, op := Op.move (Operand.tmp 0), type := 22, pos := "ref.go:71", after := #[], guard := none }) (v := ?_) rfl (by kernel_rfl) (by kernel_rfl) (by kernel_rfl) (fun _ _ _ h => h) (Or.inl ⟨by rfl, ?_⟩) hHeld ?_
            rotate_left
            · (intro w hSw; (try dsimp only at hSw); go_simp <;> with_reducible rfl)
            try simp only [Act.put, List.setIfInBounds_toArray, List.set_cons_zero, List.set_cons_succ]
            refine wpAnyH_take (i := 2) (oi := { dst := some 51, op := Op.call { callee := Callee.builtin Builtin.len, args := #[Operand.tmp 50], argTypes := #[22] }, type := 3, pos := "ref.go:71", after := #[{ on := 1, ground := Ground.data }], guard := none }) (v := ?_) rfl (by kernel_rfl) (by kernel_rfl) (by kernel_rfl) (fun _ _ _ h => h) (Or.inl ⟨by rfl, ?_⟩) hHeld ?_
            rotate_left
            · (intro w hSw; (try dsimp only at hSw); go_simp <;> with_reducible rfl)
            try simp only [Act.put, List.setIfInBounds_toArray, List.set_cons_zero, List.set_cons_succ]
            refine wpAnyH_take (i := 3) (oi := { dst := some 52, op := Op.binOp BinOp.geq 3 (Operand.tmp 49) (Operand.tmp 51) 3, type := 4, pos := "ref.go:71", after := #[{ on := 0, ground := Ground.data }, { on := 2, ground := Ground.data }], guard := none }) (v := ?_) rfl (by kernel_rfl) (by kernel_rfl) (by kernel_rfl) (fun _ _ _ h => h) (Or.inl ⟨by rfl, ?_⟩) hHeld ?_
            rotate_left
            · (intro w hSw; (try dsimp only at hSw); go_simp <;> with_reducible rfl)
            try simp only [Act.put, List.setIfInBounds_toArray, List.set_cons_zero, List.set_cons_succ]
            refine wpAnyH_take (i := 4) (oi := { dst := some 53, op := Op.move (Operand.tmp 52), type := 4, pos := "ref.go:71", after := #[{ on := 3, ground := Ground.data }], guard := none }) (v := ?_) rfl (by kernel_rfl) (by kernel_rfl) (by kernel_rfl) (fun _ _ _ h => h) (Or.inl ⟨by rfl, ?_⟩) hHeld ?_
            rotate_left
            · (intro w hSw; (try dsimp only at hSw); go_simp <;> with_reducible rfl)
            try simp only [Act.put, List.setIfInBounds_toArray, List.set_cons_zero, List.set_cons_succ]
            refine wpAnyH_take (i := 5) (oi := { dst := some 54, op := Op.move (Operand.tmp 0), type := 22, pos := "ref.go:71", after := #[{ on := 4, ground := Ground.guard }], guard := some (4, false) }) (v := ?_) rfl (by kernel_rfl) (by kernel_rfl) (by kernel_rfl) (fun _ _ _ h => h) (Or.inl ⟨by rfl, ?_⟩) hHeld ?_
            rotate_left
            · (intro w hSw; (try dsimp only at hSw); go_simp <;> with_reducible rfl)
            try simp only [Act.put, List.setIfInBounds_toArray, List.set_cons_zero, List.set_cons_succ]
            refine wpAnyH_take (i := 6) (oi := { dst := some 55, op := Op.move (Operand.tmp 1), type := 3, pos := "ref.go:71", after := #[{ on := 4, ground := Ground.guard }], guard := some (4, false) }) (v := ?_) rfl (by kernel_rfl) (by kernel_rfl) (by kernel_rfl) (fun _ _ _ h => h) (Or.inl ⟨by rfl, ?_⟩) hHeld ?_
            rotate_left
            · (intro w hSw; (try dsimp only at hSw); go_simp <;> with_reducible rfl)
            try simp only [Act.put, List.setIfInBounds_toArray, List.set_cons_zero, List.set_cons_succ]
            refine wpAnyH_take (i := 7) (oi := { dst := some 56, op := Op.indexAddr 22 (Operand.tmp 54) (Operand.tmp 55), type := 0, pos := "ref.go:71", after := #[{ on := 5, ground := Ground.data }, { on := 6, ground := Ground.data }, { on := 4, ground := Ground.guard }], guard := some (4, false) }) (v := ?_) rfl (by kernel_rfl) (by kernel_rfl) (by kernel_rfl) (fun _ _ _ h => h) (Or.inl ⟨by rfl, ?_⟩) hHeld ?_
            rotate_left
            · (intro w hSw; (try dsimp only at hSw); go_simp <;> with_reducible rfl)
            try simp only [Act.put, List.setIfInBounds_toArray, List.set_cons_zero, List.set_cons_succ]
            refine wpAnyH_take (i := 8) (oi := { dst := some 57, op := Op.fieldAddr 33 (Operand.tmp 56) 1, type := 0, pos := "ref.go:71", after := #[{ on := 7, ground := Ground.data }, { on := 4, ground := Ground.guard }], guard := some (4, false) }) (v := ?_) rfl (by kernel_rfl) (by kernel_rfl) (by kernel_rfl) (fun _ _ _ h => h) (Or.inl ⟨by rfl, ?_⟩) hHeld ?_
            rotate_left
            · (intro w hSw; (try dsimp only at hSw); go_simp <;> with_reducible rfl)
            try simp only [Act.put, List.setIfInBounds_toArray, List.set_cons_zero, List.set_cons_succ]
            refine wpAnyH_take (i := 9) (oi := { dst := some 58, op := Op.load 9 (Operand.tmp 57), type := 9, pos := "ref.go:71", after := #[{ on := 8, ground := Ground.data }, { on := 4, ground := Ground.guard }], guard := some (4, false) }) (v := ?_) rfl (by kernel_rfl) (by kernel_rfl) (by kernel_rfl) (fun _ _ _ h => h) (Or.inl ⟨by rfl, ?_⟩) hHeld ?_
            rotate_left
            · (intro w hSw; (try dsimp only at hSw); go_simp <;> with_reducible rfl)
            try simp only [Act.put, List.setIfInBounds_toArray, List.set_cons_zero, List.set_cons_succ]
            refine wpAnyH_take (i := 10) (oi := { dst := some 59, op := Op.binOp BinOp.eql 9 (Operand.tmp 58) (Operand.const (Value.string { data := #[] })) 9, type := 4, pos := "ref.go:71", after := #[{ on := 9, ground := Ground.data }, { on := 4, ground := Ground.guard }], guard := some (4, false) }) (v := ?_) rfl (by kernel_rfl) (by kernel_rfl) (by kernel_rfl) (fun _ _ _ h => h) (Or.inl ⟨by rfl, ?_⟩) hHeld ?_
            rotate_left
            · (intro w hSw; (try dsimp only at hSw); go_simp <;> with_reducible rfl)
            try simp only [Act.put, List.setIfInBounds_toArray, List.set_cons_zero, List.set_cons_succ]
            refine wpAnyH_take (i := 11) (oi := { dst := some 60, op := Op.fieldAddr 33 (Operand.tmp 7) 0, type := 0, pos := "ref.go:71", after := #[{ on := 4, ground := Ground.guard }], guard := some (4, false) }) (v := ?_) rfl (by kernel_rfl) (by kernel_rfl) (by kernel_rfl) (fun _ _ _ h => h) (Or.inl ⟨by rfl, ?_⟩) hHeld ?_
            rotate_left
            · (intro w hSw; (try dsimp only at hSw); go_simp <;> with_reducible rfl)
            try simp only [Act.put, List.setIfInBounds_toArray, List.set_cons_zero, List.set_cons_succ]
            refine wpAnyH_take (i := 12) (oi := { dst := some 61, op := Op.load 5 (Operand.tmp 60), type := 5, pos := "ref.go:71", after := #[{ on := 11, ground := Ground.data }, { on := 4, ground := Ground.guard }], guard := some (4, false) }) (v := ?_) rfl (by kernel_rfl) (by kernel_rfl) (by kernel_rfl) (fun _ _ _ h => h) (Or.inl ⟨by rfl, ?_⟩) hHeld ?_
            rotate_left
            · (intro w hSw; (try dsimp only at hSw); go_simp <;> with_reducible rfl)
            try simp only [Act.put, List.setIfInBounds_toArray, List.set_cons_zero, List.set_cons_succ]
            refine wpAnyH_take (i := 13) (oi := { dst := some 62, op := Op.binOp BinOp.eql 5 (Operand.tmp 61) (Operand.const (Value.int IntKind.u8 6)) 5, type := 4, pos := "ref.go:71", after := #[{ on := 12, ground := Ground.data }, { on := 4, ground := Ground.guard }], guard := some (4, false) }) (v := ?_) rfl (by kernel_rfl) (by kernel_rfl) (by kernel_rfl) (fun _ _ _ h => h) (Or.inl ⟨by rfl, ?_⟩) hHeld ?_
            rotate_left
            · (intro w hSw; (try dsimp only at hSw); go_simp <;> with_reducible rfl)
            try simp only [Act.put, List.setIfInBounds_toArray, List.set_cons_zero, List.set_cons_succ]
            refine wpAnyH_take (i := 14) (oi := { dst := some 63, op := Op.binOp BinOp.neq 4 (Operand.tmp 59) (Operand.tmp 62) 4, type := 4, pos := "ref.go:71", after := #[{ on := 10, ground := Ground.data }, { on := 13, ground := Ground.data }, { on := 4, ground := Ground.guard }], guard := some (4, false) }) (v := ?_) rfl (by kernel_rfl) (by kernel_rfl) (by kernel_rfl) (fun _ _ _ h => h) (Or.inl ⟨by rfl, ?_⟩) hHeld ?_
            rotate_left
            · (intro w hSw; (try dsimp only at hSw); go_simp <;> with_reducible rfl)
            try simp only [Act.put, List.setIfInBounds_toArray, List.set_cons_zero, List.set_cons_succ]
            refine wpAnyH_take (i := 15) (oi := { dst := some 64, op := Op.pick (Operand.tmp 53) (Operand.const (Value.bool true)) (Operand.tmp 63), type := 4, pos := "ref.go:71", after := #[{ on := 4, ground := Ground.data }, { on := 14, ground := Ground.data }], guard := none }) (v := ?_) rfl (by kernel_rfl) (by kernel_rfl) (by kernel_rfl) (fun _ _ _ h => h) (Or.inl ⟨by rfl, ?_⟩) hHeld ?_
            rotate_left
            · (intro w hSw; (try dsimp only at hSw); go_simp <;> with_reducible rfl)
            try simp only [Act.put, List.setIfInBounds_toArray, List.set_cons_zero, List.set_cons_succ]
            refine wpAnyH_take (i := 16) (oi := { dst := some 65, op := Op.move (Operand.tmp 64), type := 4, pos := "ref.go:71", after := #[{ on := 15, ground := Ground.data }, { on := 4, ground := Ground.chain }], guard := none }) (v := ?_) rfl (by kernel_rfl) (by kernel_rfl) (by kernel_rfl) (fun _ _ _ h => h) (Or.inl ⟨by rfl, ?_⟩) hHeld ?_
            rotate_left
            · (intro w hSw; (try dsimp only at hSw); go_simp <;> with_reducible rfl)
            try simp only [Act.put, List.setIfInBounds_toArray, List.set_cons_zero, List.set_cons_succ]
            refine wpAnyH_take (i := 17) (oi := { dst := some 66, op := Op.move (Operand.tmp 0), type := 22, pos := "ref.go:71", after := #[{ on := 16, ground := Ground.guard }], guard := some (16, false) }) (v := ?_) rfl (by kernel_rfl) (by kernel_rfl) (by kernel_rfl) (fun _ _ _ h => h) (Or.inl ⟨by rfl, ?_⟩) hHeld ?_
            rotate_left
            · (intro w hSw; (try dsimp only at hSw); go_simp <;> with_reducible rfl)
            try simp only [Act.put, List.setIfInBounds_toArray, List.set_cons_zero, List.set_cons_succ]
            refine wpAnyH_take (i := 18) (oi := { dst := some 67, op := Op.move (Operand.tmp 1), type := 3, pos := "ref.go:71", after := #[{ on := 16, ground := Ground.guard }], guard := some (16, false) }) (v := ?_) rfl (by kernel_rfl) (by kernel_rfl) (by kernel_rfl) (fun _ _ _ h => h) (Or.inl ⟨by rfl, ?_⟩) hHeld ?_
            rotate_left
            · (intro w hSw; (try dsimp only at hSw); go_simp <;> with_reducible rfl)
            try simp only [Act.put, List.setIfInBounds_toArray, List.set_cons_zero, List.set_cons_succ]
            refine wpAnyH_take (i := 19) (oi := { dst := some 68, op := Op.indexAddr 22 (Operand.tmp 66) (Operand.tmp 67), type := 0, pos := "ref.go:71", after := #[{ on := 17, ground := Ground.data }, { on := 18, ground := Ground.data }, { on := 16, ground := Ground.guard }], guard := some (16, false) }) (v := ?_) rfl (by kernel_rfl) (by kernel_rfl) (by kernel_rfl) (fun _ _ _ h => h) (Or.inl ⟨by rfl, ?_⟩) hHeld ?_
            rotate_left
            · (intro w hSw; (try dsimp only at hSw); go_simp <;> with_reducible rfl)
            try simp only [Act.put, List.setIfInBounds_toArray, List.set_cons_zero, List.set_cons_succ]
            refine wpAnyH_take (i := 20) (oi := { dst := some 69, op := Op.fieldAddr 33 (Operand.tmp 68) 1, type := 0, pos := "ref.go:71", after := #[{ on := 19, ground := Ground.data }, { on := 16, ground := Ground.guard }], guard := some (16, false) }) (v := ?_) rfl (by kernel_rfl) (by kernel_rfl) (by kernel_rfl) (fun _ _ _ h => h) (Or.inl ⟨by rfl, ?_⟩) hHeld ?_
            rotate_left
            · (intro w hSw; (try dsimp only at hSw); go_simp <;> with_reducible rfl)
            try simp only [Act.put, List.setIfInBounds_toArray, List.set_cons_zero, List.set_cons_succ]
            refine wpAnyH_take (i := 21) (oi := { dst := some 70, op := Op.load 9 (Operand.tmp 69), type := 9, pos := "ref.go:71", after := #[{ on := 20, ground := Ground.data }, { on := 16, ground := Ground.guard }], guard := some (16, false) }) (v := ?_) rfl (by kernel_rfl) (by kernel_rfl) (by kernel_rfl) (fun _ _ _ h => h) (Or.inl ⟨by rfl, ?_⟩) hHeld ?_
            rotate_left
            · (intro w hSw; (try dsimp only at hSw); go_simp <;> with_reducible rfl)
            try simp only [Act.put, List.setIfInBounds_toArray, List.set_cons_zero, List.set_cons_succ]
            refine wpAnyH_ready (rs := [22]) (by kernel_rfl) (by simp) (AllReadyH.cons (o := { dst := some 71, op := Op.call { callee := Callee.value (Operand.func 40), args := #[Operand.tmp 70], argTypes := #[9] }, type := 4, pos := "ref.go:71", after := #[{ on := 21, ground := Ground.data }, { on := 16, ground := Ground.chain }, { on := 16, ground := Ground.guard }], guard := some (16, false) }) rfl (fun K22 hK22 => ?_) AllReadyH.nil)
            go_simp
            refine (HT.out _ hHeld).mono ?_
            rintro e w' ⟨rfl, hS2⟩
            refine hK22.out _ _ hS2 (fun hH_22 => ?_)
            clear hS2
            clear hK22 K22
            try simp only [Act.put, List.setIfInBounds_toArray, List.set_cons_zero, List.set_cons_succ]
            refine wpAnyH_take (i := 23) (oi := { dst := some 72, op := Op.unOp UnOp.not 4 (Operand.tmp 71), type := 4, pos := "ref.go:71", after := #[{ on := 22, ground := Ground.data }, { on := 16, ground := Ground.guard }], guard := some (16, false) }) (v := ?_) rfl (by kernel_rfl) (by kernel_rfl) (by kernel_rfl) (fun _ _ _ h => h) (Or.inl ⟨by rfl, ?_⟩) hH_22 ?_
            rotate_left
            · (intro w hSw; (try dsimp only at hSw); go_simp <;> with_reducible rfl)
            try simp only [Act.put, List.setIfInBounds_toArray, List.set_cons_zero, List.set_cons_succ]
            refine wpAnyH_take (i := 24) (oi := { dst := some 73, op := Op.pick (Operand.tmp 65) (Operand.const (Value.bool true)) (Operand.tmp 72), type := 4, pos := "ref.go:71", after := #[{ on := 16, ground := Ground.data }, { on := 23, ground := Ground.data }], guard := none }) (v := ?_) rfl (by kernel_rfl) (by kernel_rfl) (by kernel_rfl) (fun _ _ _ h => h) (Or.inl ⟨by rfl, ?_⟩) hH_22 ?_
            rotate_left
            · (intro w hSw; (try dsimp only at hSw); go_simp <;> with_reducible rfl)
            try simp only [Act.put, List.setIfInBounds_toArray, List.set_cons_zero, List.set_cons_succ]
            refine wpAnyH_take (i := 25) (oi := { dst := some 74, op := Op.move (Operand.tmp 73), type := 4, pos := "ref.go:71", after := #[{ on := 24, ground := Ground.data }, { on := 22, ground := Ground.chain }], guard := none }) (v := ?_) rfl (by kernel_rfl) (by kernel_rfl) (by kernel_rfl) (fun _ _ _ h => h) (Or.inl ⟨by rfl, ?_⟩) hH_22 ?_
            rotate_left
            · (intro w hSw; (try dsimp only at hSw); go_simp <;> with_reducible rfl)
            try simp only [Act.put, List.setIfInBounds_toArray, List.set_cons_zero, List.set_cons_succ]
            refine wpAnyH_take (i := 26) (oi := { dst := some 75, op := Op.move (Operand.tmp 8), type := 61, pos := "ref.go:71", after := #[{ on := 25, ground := Ground.guard }], guard := some (25, false) }) (v := undef) rfl (by kernel_rfl) (by kernel_rfl) (by kernel_rfl) (fun _ _ _ h => h) (Or.inr ⟨by rfl, rfl⟩) hH_22 ?_
            try simp only [Act.put, List.setIfInBounds_toArray, List.set_cons_zero, List.set_cons_succ]
            refine wpAnyH_take (i := 27) (oi := { dst := some 76, op := Op.move (Operand.tmp 0), type := 22, pos := "ref.go:71", after := #[{ on := 25, ground := Ground.guard }], guard := some (25, false) }) (v := undef) rfl (by kernel_rfl) (by kernel_rfl) (by kernel_rfl) (fun _ _ _ h => h) (Or.inr ⟨by rfl, rfl⟩) hH_22 ?_
            try simp only [Act.put, List.setIfInBounds_toArray, List.set_cons_zero, List.set_cons_succ]
            refine wpAnyH_take (i := 28) (oi := { dst := some 77, op := Op.move (Operand.tmp 1), type := 3, pos := "ref.go:71", after := #[{ on := 25, ground := Ground.guard }], guard := some (25, false) }) (v := undef) rfl (by kernel_rfl) (by kernel_rfl) (by kernel_rfl) (fun _ _ _ h => h) (Or.inr ⟨by rfl, rfl⟩) hH_22 ?_
            try simp only [Act.put, List.setIfInBounds_toArray, List.set_cons_zero, List.set_cons_succ]
            refine wpAnyH_take (i := 29) (oi := { dst := some 78, op := Op.indexAddr 22 (Operand.tmp 76) (Operand.tmp 77), type := 0, pos := "ref.go:71", after := #[{ on := 27, ground := Ground.data }, { on := 28, ground := Ground.data }, { on := 25, ground := Ground.guard }], guard := some (25, false) }) (v := undef) rfl (by kernel_rfl) (by kernel_rfl) (by kernel_rfl) (fun _ _ _ h => h) (Or.inr ⟨by rfl, rfl⟩) hH_22 ?_
            try simp only [Act.put, List.setIfInBounds_toArray, List.set_cons_zero, List.set_cons_succ]
            refine wpAnyH_take (i := 30) (oi := { dst := some 79, op := Op.fieldAddr 33 (Operand.tmp 78) 1, type := 0, pos := "ref.go:71", after := #[{ on := 29, ground := Ground.data }, { on := 25, ground := Ground.guard }], guard := some (25, false) }) (v := undef) rfl (by kernel_rfl) (by kernel_rfl) (by kernel_rfl) (fun _ _ _ h => h) (Or.inr ⟨by rfl, rfl⟩) hH_22 ?_
            try simp only [Act.put, List.setIfInBounds_toArray, List.set_cons_zero, List.set_cons_succ]
            refine wpAnyH_take (i := 31) (oi := { dst := some 80, op := Op.load 9 (Operand.tmp 79), type := 9, pos := "ref.go:71", after := #[{ on := 30, ground := Ground.data }, { on := 25, ground := Ground.guard }], guard := some (25, false) }) (v := undef) rfl (by kernel_rfl) (by kernel_rfl) (by kernel_rfl) (fun _ _ _ h => h) (Or.inr ⟨by rfl, rfl⟩) hH_22 ?_
            try simp only [Act.put, List.setIfInBounds_toArray, List.set_cons_zero, List.set_cons_succ]
            refine wpAnyH_take (i := 32) (oi := { dst := some 81, op := Op.call { callee := Callee.value (Operand.func 41), args := #[Operand.tmp 75, Operand.tmp 80], argTypes := #[61, 9] }, type := 4, pos := "ref.go:71", after := #[{ on := 26, ground := Ground.data }, { on := 31, ground := Ground.data }, { on := 25, ground := Ground.chain }, { on := 25, ground := Ground.guard }], guard := some (25, false) }) (v := undef) rfl (by kernel_rfl) (by kernel_rfl) (by kernel_rfl) (fun _ _ _ h => h) (Or.inr ⟨by rfl, rfl⟩) hH_22 ?_
            try simp only [Act.put, List.setIfInBounds_toArray, List.set_cons_zero, List.set_cons_succ]
            refine wpAnyH_take (i := 33) (oi := { dst := some 82, op := Op.pick (Operand.tmp 74) (Operand.const (Value.bool true)) (Operand.tmp 81), type := 4, pos := "ref.go:71", after := #[{ on := 25, ground := Ground.data }, { on := 32, ground := Ground.data }], guard := none }) (v := ?_) rfl (by kernel_rfl) (by kernel_rfl) (by kernel_rfl) (fun _ _ _ h => h) (Or.inl ⟨by rfl, ?_⟩) hH_22 ?_
            rotate_left
            · (intro w hSw; (try dsimp only at hSw); go_simp <;> with_reducible rfl)
            try simp only [Act.put, List.setIfInBounds_toArray, List.set_cons_zero, List.set_cons_succ]
            refine wpAnyH_done (by kernel_rfl) ?_ _
            have hLast := Lib.hid hH_22
            clear hHeld hH_22
            obtain ⟨f0, c1, HB3, HN3⟩ := hLast.out
            clear hLast
            clear hSS HT
            replace HB3 := Lib.hid HB3
            replace HN3 := Lib.hid HN3
            clear HKN HKY HKS HKE hIH HL HX
            go_wp2_with fail
            go_ret
            exact BPost.no HZ.out (B2.out.trans (HB3.out.mono B2.out.size))
          | true =>
            rw [hck] at HX
            cases hav : names.any (fun y => decide (y = nm)) with
            | true =>
              have HZ : Hid (res = none) := Lib.hid (HKN.out (by unfold namedP; rw [hav]; simp))
              have HAV := Lib.hid hav
              clear hck he hav
              obtain ⟨na, nc, rfl, _⟩ := HN.out.nv
              have hSS : BS w2 w2.heap.size BX b (off + q * 5 + 1) ⟨7, ⟨#[]⟩, ⟨#[]⟩, 0, 0⟩ nm (.slice na RL.length nc) RL wr.drew := ⟨f0, c1, HB.out.drew, HN.out.drew⟩
              have HT : Hid (∀ w', BS w2 w2.heap.size BX b (off + q * 5 + 1) ⟨7, ⟨#[]⟩, ⟨#[]⟩, 0, 0⟩ nm (.slice na RL.length nc) RL w' → Calls Tryd.prog 40 #[.string nm] w' fun e wx => e = .returned (.bool true) ∧ BS w2 w2.heap.size BX b (off + q * 5 + 1) ⟨7, ⟨#[]⟩, ⟨#[]⟩, 0, 0⟩ nm (.slice na RL.length nc) RL wx) := Lib.hid (fun w' h => (HX.out w').mono fun e wx ⟨h1, h2⟩ => ⟨h1, h.up h2⟩)
              have HA : Hid (∀ w', BS w2 w2.heap.size BX b (off + q * 5 + 1) ⟨7, ⟨#[]⟩, ⟨#[]⟩, 0, 0⟩ nm (.slice na RL.length nc) RL w' → Calls Tryd.prog 41 #[(.slice na RL.length nc), .string nm] w' fun e wx => e = .returned (.bool true) ∧ BS w2 w2.heap.size BX b (off + q * 5 + 1) ⟨7, ⟨#[]⟩, ⟨#[]⟩, 0, 0⟩ nm (.slice na RL.length nc) RL wx) := Lib.hid (fun w' h => (among_nl names RL HRL.out (by have := HL.out; omega) nm true HAV.out w2.heap.size na nc w' h.2.2.2).mono fun e wx ⟨h1, h2⟩ => ⟨h1, by rw [h2]; exact h⟩)
              clear HN HB
              go_wp2_with fail
              clear f4 c1 f0
              refine wp_region_held_drew (S := (fun w' => w'.cell? ⟨BX, 0, none⟩ = some (.int .u8 7) ∧ w'.cell? ⟨b, off + q * 5 + 1, none⟩ = some (.string nm) ∧ Below w2.heap.size w2 w' ∧ NL w' w2.heap.size (.slice na RL.length nc) RL)) (by kernel_rfl) hSS (fun hHeld => ?_)
              refine wpAnyH_take (i := 0) (oi := { dst := some 49, op := Op.move (Operand.tmp 1), type := 3, pos := "ref.go:71", after := #[], guard := none }) (v := ?_) rfl (by kernel_rfl) (by kernel_rfl) (by kernel_rfl) (fun _ _ _ h => h) (Or.inl ⟨by rfl, ?_⟩) hHeld ?_
              rotate_left
              · (intro w hSw; (try dsimp only at hSw); go_simp <;> with_reducible rfl)
              try simp only [Act.put, List.setIfInBounds_toArray, List.set_cons_zero, List.set_cons_succ]
              refine wpAnyH_take (i := 1) (oi := { dst := some 50, op := Op.move (Operand.tmp 0), type := 22, pos := "ref.go:71", after := #[], guard := none }) (v := ?_) rfl (by kernel_rfl) (by kernel_rfl) (by kernel_rfl) (fun _ _ _ h => h) (Or.inl ⟨by rfl, ?_⟩) hHeld ?_
              rotate_left
              · (intro w hSw; (try dsimp only at hSw); go_simp <;> with_reducible rfl)
              try simp only [Act.put, List.setIfInBounds_toArray, List.set_cons_zero, List.set_cons_succ]
              refine wpAnyH_take (i := 2) (oi := { dst := some 51, op := Op.call { callee := Callee.builtin Builtin.len, args := #[Operand.tmp 50], argTypes := #[22] }, type := 3, pos := "ref.go:71", after := #[{ on := 1, ground := Ground.data }], guard := none }) (v := ?_) rfl (by kernel_rfl) (by kernel_rfl) (by kernel_rfl) (fun _ _ _ h => h) (Or.inl ⟨by rfl, ?_⟩) hHeld ?_
              rotate_left
              · (intro w hSw; (try dsimp only at hSw); go_simp <;> with_reducible rfl)
              try simp only [Act.put, List.setIfInBounds_toArray, List.set_cons_zero, List.set_cons_succ]
              refine wpAnyH_take (i := 3) (oi := { dst := some 52, op := Op.binOp BinOp.geq 3 (Operand.tmp 49) (Operand.tmp 51) 3, type := 4, pos := "ref.go:71", after := #[{ on := 0, ground := Ground.data }, { on := 2, ground := Ground.data }], guard := none }) (v := ?_) rfl (by kernel_rfl) (by kernel_rfl) (by kernel_rfl) (fun _ _ _ h => h) (Or.inl ⟨by rfl, ?_⟩) hHeld ?_
              rotate_left
              · (intro w hSw; (try dsimp only at hSw); go_simp <;> with_reducible rfl)
              try simp only [Act.put, List.setIfInBounds_toArray, List.set_cons_zero, List.set_cons_succ]
              refine wpAnyH_take (i := 4) (oi := { dst := some 53, op := Op.move (Operand.tmp 52), type := 4, pos := "ref.go:71", after := #[{ on := 3, ground := Ground.data }], guard := none }) (v := ?_) rfl (by kernel_rfl) (by kernel_rfl) (by kernel_rfl) (fun _ _ _ h => h) (Or.inl ⟨by rfl, ?_⟩) hHeld ?_
              rotate_left
              · (intro w hSw; (try dsimp only at hSw); go_simp <;> with_reducible rfl)
              try simp only [Act.put, List.setIfInBounds_toArray, List.set_cons_zero, List.set_cons_succ]
              refine wpAnyH_take (i := 5) (oi := { dst := some 54, op := Op.move (Operand.tmp 0), type := 22, pos := "ref.go:71", after := #[{ on := 4, ground := Ground.guard }], guard := some (4, false) }) (v := ?_) rfl (by kernel_rfl) (by kernel_rfl) (by kernel_rfl) (fun _ _ _ h => h) (Or.inl ⟨by rfl, ?_⟩) hHeld ?_
              rotate_left
              · (intro w hSw; (try dsimp only at hSw); go_simp <;> with_reducible rfl)
              try simp only [Act.put, List.setIfInBounds_toArray, List.set_cons_zero, List.set_cons_succ]
              refine wpAnyH_take (i := 6) (oi := { dst := some 55, op := Op.move (Operand.tmp 1), type := 3, pos := "ref.go:71", after := #[{ on := 4, ground := Ground.guard }], guard := some (4, false) }) (v := ?_) rfl (by kernel_rfl) (by kernel_rfl) (by kernel_rfl) (fun _ _ _ h => h) (Or.inl ⟨by rfl, ?_⟩) hHeld ?_
              rotate_left
              · (intro w hSw; (try dsimp only at hSw); go_simp <;> with_reducible rfl)
              try simp only [Act.put, List.setIfInBounds_toArray, List.set_cons_zero, List.set_cons_succ]
              refine wpAnyH_take (i := 7) (oi := { dst := some 56, op := Op.indexAddr 22 (Operand.tmp 54) (Operand.tmp 55), type := 0, pos := "ref.go:71", after := #[{ on := 5, ground := Ground.data }, { on := 6, ground := Ground.data }, { on := 4, ground := Ground.guard }], guard := some (4, false) }) (v := ?_) rfl (by kernel_rfl) (by kernel_rfl) (by kernel_rfl) (fun _ _ _ h => h) (Or.inl ⟨by rfl, ?_⟩) hHeld ?_
              rotate_left
              · (intro w hSw; (try dsimp only at hSw); go_simp <;> with_reducible rfl)
              try simp only [Act.put, List.setIfInBounds_toArray, List.set_cons_zero, List.set_cons_succ]
              refine wpAnyH_take (i := 8) (oi := { dst := some 57, op := Op.fieldAddr 33 (Operand.tmp 56) 1, type := 0, pos := "ref.go:71", after := #[{ on := 7, ground := Ground.data }, { on := 4, ground := Ground.guard }], guard := some (4, false) }) (v := ?_) rfl (by kernel_rfl) (by kernel_rfl) (by kernel_rfl) (fun _ _ _ h => h) (Or.inl ⟨by rfl, ?_⟩) hHeld ?_
              rotate_left
              · (intro w hSw; (try dsimp only at hSw); go_simp <;> with_reducible rfl)
              try simp only [Act.put, List.setIfInBounds_toArray, List.set_cons_zero, List.set_cons_succ]
              refine wpAnyH_take (i := 9) (oi := { dst := some 58, op := Op.load 9 (Operand.tmp 57), type := 9, pos := "ref.go:71", after := #[{ on := 8, ground := Ground.data }, { on := 4, ground := Ground.guard }], guard := some (4, false) }) (v := ?_) rfl (by kernel_rfl) (by kernel_rfl) (by kernel_rfl) (fun _ _ _ h => h) (Or.inl ⟨by rfl, ?_⟩) hHeld ?_
              rotate_left
              · (intro w hSw; (try dsimp only at hSw); go_simp <;> with_reducible rfl)
              try simp only [Act.put, List.setIfInBounds_toArray, List.set_cons_zero, List.set_cons_succ]
              refine wpAnyH_take (i := 10) (oi := { dst := some 59, op := Op.binOp BinOp.eql 9 (Operand.tmp 58) (Operand.const (Value.string { data := #[] })) 9, type := 4, pos := "ref.go:71", after := #[{ on := 9, ground := Ground.data }, { on := 4, ground := Ground.guard }], guard := some (4, false) }) (v := ?_) rfl (by kernel_rfl) (by kernel_rfl) (by kernel_rfl) (fun _ _ _ h => h) (Or.inl ⟨by rfl, ?_⟩) hHeld ?_
              rotate_left
              · (intro w hSw; (try dsimp only at hSw); go_simp <;> with_reducible rfl)
              try simp only [Act.put, List.setIfInBounds_toArray, List.set_cons_zero, List.set_cons_succ]
              refine wpAnyH_take (i := 11) (oi := { dst := some 60, op := Op.fieldAddr 33 (Operand.tmp 7) 0, type := 0, pos := "ref.go:71", after := #[{ on := 4, ground := Ground.guard }], guard := some (4, false) }) (v := ?_) rfl (by kernel_rfl) (by kernel_rfl) (by kernel_rfl) (fun _ _ _ h => h) (Or.inl ⟨by rfl, ?_⟩) hHeld ?_
              rotate_left
              · (intro w hSw; (try dsimp only at hSw); go_simp <;> with_reducible rfl)
              try simp only [Act.put, List.setIfInBounds_toArray, List.set_cons_zero, List.set_cons_succ]
              refine wpAnyH_take (i := 12) (oi := { dst := some 61, op := Op.load 5 (Operand.tmp 60), type := 5, pos := "ref.go:71", after := #[{ on := 11, ground := Ground.data }, { on := 4, ground := Ground.guard }], guard := some (4, false) }) (v := ?_) rfl (by kernel_rfl) (by kernel_rfl) (by kernel_rfl) (fun _ _ _ h => h) (Or.inl ⟨by rfl, ?_⟩) hHeld ?_
              rotate_left
              · (intro w hSw; (try dsimp only at hSw); go_simp <;> with_reducible rfl)
              try simp only [Act.put, List.setIfInBounds_toArray, List.set_cons_zero, List.set_cons_succ]
              refine wpAnyH_take (i := 13) (oi := { dst := some 62, op := Op.binOp BinOp.eql 5 (Operand.tmp 61) (Operand.const (Value.int IntKind.u8 6)) 5, type := 4, pos := "ref.go:71", after := #[{ on := 12, ground := Ground.data }, { on := 4, ground := Ground.guard }], guard := some (4, false) }) (v := ?_) rfl (by kernel_rfl) (by kernel_rfl) (by kernel_rfl) (fun _ _ _ h => h) (Or.inl ⟨by rfl, ?_⟩) hHeld ?_
              rotate_left
              · (intro w hSw; (try dsimp only at hSw); go_simp <;> with_reducible rfl)
              try simp only [Act.put, List.setIfInBounds_toArray, List.set_cons_zero, List.set_cons_succ]
              refine wpAnyH_take (i := 14) (oi := { dst := some 63, op := Op.binOp BinOp.neq 4 (Operand.tmp 59) (Operand.tmp 62) 4, type := 4, pos := "ref.go:71", after := #[{ on := 10, ground := Ground.data }, { on := 13, ground := Ground.data }, { on := 4, ground := Ground.guard }], guard := some (4, false) }) (v := ?_) rfl (by kernel_rfl) (by kernel_rfl) (by kernel_rfl) (fun _ _ _ h => h) (Or.inl ⟨by rfl, ?_⟩) hHeld ?_
              rotate_left
              · (intro w hSw; (try dsimp only at hSw); go_simp <;> with_reducible rfl)
              try simp only [Act.put, List.setIfInBounds_toArray, List.set_cons_zero, List.set_cons_succ]
              refine wpAnyH_take (i := 15) (oi := { dst := some 64, op := Op.pick (Operand.tmp 53) (Operand.const (Value.bool true)) (Operand.tmp 63), type := 4, pos := "ref.go:71", after := #[{ on := 4, ground := Ground.data }, { on := 14, ground := Ground.data }], guard := none }) (v := ?_) rfl (by kernel_rfl) (by kernel_rfl) (by kernel_rfl) (fun _ _ _ h => h) (Or.inl ⟨by rfl, ?_⟩) hHeld ?_
              rotate_left
              · (intro w hSw; (try dsimp only at hSw); go_simp <;> with_reducible rfl)
              try simp only [Act.put, List.setIfInBounds_toArray, List.set_cons_zero, List.set_cons_succ]
              refine wpAnyH_take (i := 16) (oi := { dst := some 65, op := Op.move (Operand.tmp 64), type := 4, pos := "ref.go:71", after := #[{ on := 15, ground := Ground.data }, { on := 4, ground := Ground.chain }], guard := none }) (v := ?_) rfl (by kernel_rfl) (by kernel_rfl) (by kernel_rfl) (fun _ _ _ h => h) (Or.inl ⟨by rfl, ?_⟩) hHeld ?_
              rotate_left
              · (intro w hSw; (try dsimp only at hSw); go_simp <;> with_reducible rfl)
              try simp only [Act.put, List.setIfInBounds_toArray, List.set_cons_zero, List.set_cons_succ]
              refine wpAnyH_take (i := 17) (oi := { dst := some 66, op := Op.move (Operand.tmp 0), type := 22, pos := "ref.go:71", after := #[{ on := 16, ground := Ground.guard }], guard := some (16, false) }) (v := ?_) rfl (by kernel_rfl) (by kernel_rfl) (by kernel_rfl) (fun _ _ _ h => h) (Or.inl ⟨by rfl, ?_⟩) hHeld ?_
              rotate_left
              · (intro w hSw; (try dsimp only at hSw); go_simp <;> with_reducible rfl)
              try simp only [Act.put, List.setIfInBounds_toArray, List.set_cons_zero, List.set_cons_succ]
              refine wpAnyH_take (i := 18) (oi := { dst := some 67, op := Op.move (Operand.tmp 1), type := 3, pos := "ref.go:71", after := #[{ on := 16, ground := Ground.guard }], guard := some (16, false) }) (v := ?_) rfl (by kernel_rfl) (by kernel_rfl) (by kernel_rfl) (fun _ _ _ h => h) (Or.inl ⟨by rfl, ?_⟩) hHeld ?_
              rotate_left
              · (intro w hSw; (try dsimp only at hSw); go_simp <;> with_reducible rfl)
              try simp only [Act.put, List.setIfInBounds_toArray, List.set_cons_zero, List.set_cons_succ]
              refine wpAnyH_take (i := 19) (oi := { dst := some 68, op := Op.indexAddr 22 (Operand.tmp 66) (Operand.tmp 67), type := 0, pos := "ref.go:71", after := #[{ on := 17, ground := Ground.data }, { on := 18, ground := Ground.data }, { on := 16, ground := Ground.guard }], guard := some (16, false) }) (v := ?_) rfl (by kernel_rfl) (by kernel_rfl) (by kernel_rfl) (fun _ _ _ h => h) (Or.inl ⟨by rfl, ?_⟩) hHeld ?_
              rotate_left
              · (intro w hSw; (try dsimp only at hSw); go_simp <;> with_reducible rfl)
              try simp only [Act.put, List.setIfInBounds_toArray, List.set_cons_zero, List.set_cons_succ]
              refine wpAnyH_take (i := 20) (oi := { dst := some 69, op := Op.fieldAddr 33 (Operand.tmp 68) 1, type := 0, pos := "ref.go:71", after := #[{ on := 19, ground := Ground.data }, { on := 16, ground := Ground.guard }], guard := some (16, false) }) (v := ?_) rfl (by kernel_rfl) (by kernel_rfl) (by kernel_rfl) (fun _ _ _ h => h) (Or.inl ⟨by rfl, ?_⟩) hHeld ?_
              rotate_left
              · (intro w hSw; (try dsimp only at hSw); go_simp <;> with_reducible rfl)
              try simp only [Act.put, List.setIfInBounds_toArray, List.set_cons_zero, List.set_cons_succ]
              refine wpAnyH_take (i := 21) (oi := { dst := some 70, op := Op.load 9 (Operand.tmp 69), type := 9, pos := "ref.go:71", after := #[{ on := 20, ground := Ground.data }, { on := 16, ground := Ground.guard }], guard := some (16, false) }) (v := ?_) rfl (by kernel_rfl) (by kernel_rfl) (by kernel_rfl) (fun _ _ _ h => h) (Or.inl ⟨by rfl, ?_⟩) hHeld ?_
              rotate_left
              · (intro w hSw; (try dsimp only at hSw); go_simp <;> with_reducible rfl)
              try simp only [Act.put, List.setIfInBounds_toArray, List.set_cons_zero, List.set_cons_succ]
              refine wpAnyH_ready (rs := [22]) (by kernel_rfl) (by simp) (AllReadyH.cons (o := { dst := some 71, op := Op.call { callee := Callee.value (Operand.func 40), args := #[Operand.tmp 70], argTypes := #[9] }, type := 4, pos := "ref.go:71", after := #[{ on := 21, ground := Ground.data }, { on := 16, ground := Ground.chain }, { on := 16, ground := Ground.guard }], guard := some (16, false) }) rfl (fun K22 hK22 => ?_) AllReadyH.nil)
              go_simp
              refine (HT.out _ hHeld).mono ?_
              rintro e wa ⟨rfl, hS2⟩
              refine hK22.out _ _ hS2 (fun hH_22 => ?_)
              clear hS2
              clear hK22 K22
              try simp only [Act.put, List.setIfInBounds_toArray, List.set_cons_zero, List.set_cons_succ]
              refine wpAnyH_take (i := 23) (oi := { dst := some 72, op := Op.unOp UnOp.not 4 (Operand.tmp 71), type := 4, pos := "ref.go:71", after := #[{ on := 22, ground := Ground.data }, { on := 16, ground := Ground.guard }], guard := some (16, false) }) (v := ?_) rfl (by kernel_rfl) (by kernel_rfl) (by kernel_rfl) (fun _ _ _ h => h) (Or.inl ⟨by rfl, ?_⟩) hH_22 ?_
              rotate_left
              · (intro w hSw; (try dsimp only at hSw); go_simp <;> with_reducible rfl)
              try simp only [Act.put, List.setIfInBounds_toArray, List.set_cons_zero, List.set_cons_succ]
              refine wpAnyH_take (i := 24) (oi := { dst := some 73, op := Op.pick (Operand.tmp 65) (Operand.const (Value.bool true)) (Operand.tmp 72), type := 4, pos := "ref.go:71", after := #[{ on := 16, ground := Ground.data }, { on := 23, ground := Ground.data }], guard := none }) (v := ?_) rfl (by kernel_rfl) (by kernel_rfl) (by kernel_rfl) (fun _ _ _ h => h) (Or.inl ⟨by rfl, ?_⟩) hH_22 ?_
              rotate_left
              · (intro w hSw; (try dsimp only at hSw); go_simp <;> with_reducible rfl)
              try simp only [Act.put, List.setIfInBounds_toArray, List.set_cons_zero, List.set_cons_succ]
              refine wpAnyH_take (i := 25) (oi := { dst := some 74, op := Op.move (Operand.tmp 73), type := 4, pos := "ref.go:71", after := #[{ on := 24, ground := Ground.data }, { on := 22, ground := Ground.chain }], guard := none }) (v := ?_) rfl (by kernel_rfl) (by kernel_rfl) (by kernel_rfl) (fun _ _ _ h => h) (Or.inl ⟨by rfl, ?_⟩) hH_22 ?_
              rotate_left
              · (intro w hSw; (try dsimp only at hSw); go_simp <;> with_reducible rfl)
              try simp only [Act.put, List.setIfInBounds_toArray, List.set_cons_zero, List.set_cons_succ]
              refine wpAnyH_take (i := 26) (oi := { dst := some 75, op := Op.move (Operand.tmp 8), type := 61, pos := "ref.go:71", after := #[{ on := 25, ground := Ground.guard }], guard := some (25, false) }) (v := ?_) rfl (by kernel_rfl) (by kernel_rfl) (by kernel_rfl) (fun _ _ _ h => h) (Or.inl ⟨by rfl, ?_⟩) hH_22 ?_
              rotate_left
              · (intro w hSw; (try dsimp only at hSw); go_simp <;> with_reducible rfl)
              try simp only [Act.put, List.setIfInBounds_toArray, List.set_cons_zero, List.set_cons_succ]
              refine wpAnyH_take (i := 27) (oi := { dst := some 76, op := Op.move (Operand.tmp 0), type := 22, pos := "ref.go:71", after := #[{ on := 25, ground := Ground.guard }], guard := some (25, false) }) (v := ?_) rfl (by kernel_rfl) (by kernel_rfl) (by kernel_rfl) (fun _ _ _ h => h) (Or.inl ⟨by rfl, ?_⟩) hH_22 ?_
              rotate_left
              · (intro w hSw; (try dsimp only at hSw); go_simp <;> with_reducible rfl)
              try simp only [Act.put, List.setIfInBounds_toArray, List.set_cons_zero, List.set_cons_succ]
              refine wpAnyH_take (i := 28) (oi := { dst := some 77, op := Op.move (Operand.tmp 1), type := 3, pos := "ref.go:71", after := #[{ on := 25, ground := Ground.guard }], guard := some (25, false) }) (v := ?_) rfl (by kernel_rfl) (by kernel_rfl) (by kernel_rfl) (fun _ _ _ h => h) (Or.inl ⟨by rfl, ?_⟩) hH_22 ?_
              rotate_left
              · (intro w hSw; (try dsimp only at hSw); go_simp <;> with_reducible rfl)
              try simp only [Act.put, List.setIfInBounds_toArray, List.set_cons_zero, List.set_cons_succ]
              refine wpAnyH_take (i := 29) (oi := { dst := some 78, op := Op.indexAddr 22 (Operand.tmp 76) (Operand.tmp 77), type := 0, pos := "ref.go:71", after := #[{ on := 27, ground := Ground.data }, { on := 28, ground := Ground.data }, { on := 25, ground := Ground.guard }], guard := some (25, false) }) (v := ?_) rfl (by kernel_rfl) (by kernel_rfl) (by kernel_rfl) (fun _ _ _ h => h) (Or.inl ⟨by rfl, ?_⟩) hH_22 ?_
              rotate_left
              · (intro w hSw; (try dsimp only at hSw); go_simp <;> with_reducible rfl)
              try simp only [Act.put, List.setIfInBounds_toArray, List.set_cons_zero, List.set_cons_succ]
              refine wpAnyH_take (i := 30) (oi := { dst := some 79, op := Op.fieldAddr 33 (Operand.tmp 78) 1, type := 0, pos := "ref.go:71", after := #[{ on := 29, ground := Ground.data }, { on := 25, ground := Ground.guard }], guard := some (25, false) }) (v := ?_) rfl (by kernel_rfl) (by kernel_rfl) (by kernel_rfl) (fun _ _ _ h => h) (Or.inl ⟨by rfl, ?_⟩) hH_22 ?_
              rotate_left
              · (intro w hSw; (try dsimp only at hSw); go_simp <;> with_reducible rfl)
              try simp only [Act.put, List.setIfInBounds_toArray, List.set_cons_zero, List.set_cons_succ]
              refine wpAnyH_take (i := 31) (oi := { dst := some 80, op := Op.load 9 (Operand.tmp 79), type := 9, pos := "ref.go:71", after := #[{ on := 30, ground := Ground.data }, { on := 25, ground := Ground.guard }], guard := some (25, false) }) (v := ?_) rfl (by kernel_rfl) (by kernel_rfl) (by kernel_rfl) (fun _ _ _ h => h) (Or.inl ⟨by rfl, ?_⟩) hH_22 ?_
              rotate_left
              · (intro w hSw; (try dsimp only at hSw); go_simp <;> with_reducible rfl)
              try simp only [Act.put, List.setIfInBounds_toArray, List.set_cons_zero, List.set_cons_succ]
              refine wpAnyH_ready (rs := [32]) (by kernel_rfl) (by simp) (AllReadyH.cons (o := { dst := some 81, op := Op.call { callee := Callee.value (Operand.func 41), args := #[Operand.tmp 75, Operand.tmp 80], argTypes := #[61, 9] }, type := 4, pos := "ref.go:71", after := #[{ on := 26, ground := Ground.data }, { on := 31, ground := Ground.data }, { on := 25, ground := Ground.chain }, { on := 25, ground := Ground.guard }], guard := some (25, false) }) rfl (fun K32 hK32 => ?_) AllReadyH.nil)
              go_simp
              refine (HA.out _ hH_22).mono ?_
              rintro e w' ⟨rfl, hS3⟩
              refine hK32.out _ _ hS3 (fun hH_32 => ?_)
              clear hS3
              clear hK32 K32
              try simp only [Act.put, List.setIfInBounds_toArray, List.set_cons_zero, List.set_cons_succ]
              refine wpAnyH_take (i := 33) (oi := { dst := some 82, op := Op.pick (Operand.tmp 74) (Operand.const (Value.bool true)) (Operand.tmp 81), type := 4, pos := "ref.go:71", after := #[{ on := 25, ground := Ground.data }, { on := 32, ground := Ground.data }], guard := none }) (v := ?_) rfl (by kernel_rfl) (by kernel_rfl) (by kernel_rfl) (fun _ _ _ h => h) (Or.inl ⟨by rfl, ?_⟩) hH_32 ?_
              rotate_left
              · (intro w hSw; (try dsimp only at hSw); go_simp <;> with_reducible rfl)
              try simp only [Act.put, List.setIfInBounds_toArray, List.set_cons_zero, List.set_cons_succ]
              refine wpAnyH_done (by kernel_rfl) ?_ _
              have hLast := Lib.hid hH_32
              clear hHeld hH_22 hH_32
              obtain ⟨f0, c1, HB3, HN3⟩ := hLast.out
              clear hLast
              clear hSS HT HA HAV
              replace HB3 := Lib.hid HB3
              replace HN3 := Lib.hid HN3
              clear HKN HKY HKS HKE hIH HL HX
              go_wp2_with fail
              go_ret
              exact BPost.no HZ.out (B2.out.trans (HB3.out.mono B2.out.size))
            | false =>
              have HY := Lib.hid (HKY.out (by unfold namedP; rw [hav, he, hck]; rfl))
              have HAV := Lib.hid hav
              have hll : Hid (RL.length + 1 ≤ 4096) := Lib.hid (by have := HL.out; rw [HRL.out, List.length_reverse]; omega)
              clear hck he hav
              obtain ⟨na, nc, rfl, _⟩ := HN.out.nv
              have hSS : BS w2 w2.heap.size BX b (off + q * 5 + 1) ⟨7, ⟨#[]⟩, ⟨#[]⟩, 0, 0⟩ nm (.slice na RL.length nc) RL wr.drew := ⟨f0, c1, HB.out.drew, HN.out.drew⟩
              have HT : Hid (∀ w', BS w2 w2.heap.size BX b (off + q * 5 + 1) ⟨7, ⟨#[]⟩, ⟨#[]⟩, 0, 0⟩ nm (.slice na RL.length nc) RL w' → Calls Tryd.prog 40 #[.string nm] w' fun e wx => e = .returned (.bool true) ∧ BS w2 w2.heap.size BX b (off + q * 5 + 1) ⟨7, ⟨#[]⟩, ⟨#[]⟩, 0, 0⟩ nm (.slice na RL.length nc) RL wx) := Lib.hid (fun w' h => (HX.out w').mono fun e wx ⟨h1, h2⟩ => ⟨h1, h.up h2⟩)
              have HA : Hid (∀ w', BS w2 w2.heap.size BX b (off + q * 5 + 1) ⟨7, ⟨#[]⟩, ⟨#[]⟩, 0, 0⟩ nm (.slice na RL.length nc) RL w' → Calls Tryd.prog 41 #[(.slice na RL.length nc), .string nm] w' fun e wx => e = .returned (.bool false) ∧ BS w2 w2.heap.size BX b (off + q * 5 + 1) ⟨7, ⟨#[]⟩, ⟨#[]⟩, 0, 0⟩ nm (.slice na RL.length nc) RL wx) := Lib.hid (fun w' h => (among_nl names RL HRL.out (by have := HL.out; omega) nm false HAV.out w2.heap.size na nc w' h.2.2.2).mono fun e wx ⟨h1, h2⟩ => ⟨h1, by rw [h2]; exact h⟩)
              clear HN HB
              go_wp2_with fail
              clear f4 c1 f0
              refine wp_region_held_drew (S := (fun w' => w'.cell? ⟨BX, 0, none⟩ = some (.int .u8 7) ∧ w'.cell? ⟨b, off + q * 5 + 1, none⟩ = some (.string nm) ∧ Below w2.heap.size w2 w' ∧ NL w' w2.heap.size (.slice na RL.length nc) RL)) (by kernel_rfl) hSS (fun hHeld => ?_)
              refine wpAnyH_take (i := 0) (oi := { dst := some 49, op := Op.move (Operand.tmp 1), type := 3, pos := "ref.go:71", after := #[], guard := none }) (v := ?_) rfl (by kernel_rfl) (by kernel_rfl) (by kernel_rfl) (fun _ _ _ h => h) (Or.inl ⟨by rfl, ?_⟩) hHeld ?_
              rotate_left
              · (intro w hSw; (try dsimp only at hSw); go_simp <;> with_reducible rfl)
              try simp only [Act.put, List.setIfInBounds_toArray, List.set_cons_zero, List.set_cons_succ]
              refine wpAnyH_take (i := 1) (oi := { dst := some 50, op := Op.move (Operand.tmp 0), type := 22, pos := "ref.go:71", after := #[], guard := none }) (v := ?_) rfl (by kernel_rfl) (by kernel_rfl) (by kernel_rfl) (fun _ _ _ h => h) (Or.inl ⟨by rfl, ?_⟩) hHeld ?_
              rotate_left
              · (intro w hSw; (try dsimp only at hSw); go_simp <;> with_reducible rfl)
              try simp only [Act.put, List.setIfInBounds_toArray, List.set_cons_zero, List.set_cons_succ]
              refine wpAnyH_take (i := 2) (oi := { dst := some 51, op := Op.call { callee := Callee.builtin Builtin.len, args := #[Operand.tmp 50], argTypes := #[22] }, type := 3, pos := "ref.go:71", after := #[{ on := 1, ground := Ground.data }], guard := none }) (v := ?_) rfl (by kernel_rfl) (by kernel_rfl) (by kernel_rfl) (fun _ _ _ h => h) (Or.inl ⟨by rfl, ?_⟩) hHeld ?_
              rotate_left
              · (intro w hSw; (try dsimp only at hSw); go_simp <;> with_reducible rfl)
              try simp only [Act.put, List.setIfInBounds_toArray, List.set_cons_zero, List.set_cons_succ]
              refine wpAnyH_take (i := 3) (oi := { dst := some 52, op := Op.binOp BinOp.geq 3 (Operand.tmp 49) (Operand.tmp 51) 3, type := 4, pos := "ref.go:71", after := #[{ on := 0, ground := Ground.data }, { on := 2, ground := Ground.data }], guard := none }) (v := ?_) rfl (by kernel_rfl) (by kernel_rfl) (by kernel_rfl) (fun _ _ _ h => h) (Or.inl ⟨by rfl, ?_⟩) hHeld ?_
              rotate_left
              · (intro w hSw; (try dsimp only at hSw); go_simp <;> with_reducible rfl)
              try simp only [Act.put, List.setIfInBounds_toArray, List.set_cons_zero, List.set_cons_succ]
              refine wpAnyH_take (i := 4) (oi := { dst := some 53, op := Op.move (Operand.tmp 52), type := 4, pos := "ref.go:71", after := #[{ on := 3, ground := Ground.data }], guard := none }) (v := ?_) rfl (by kernel_rfl) (by kernel_rfl) (by kernel_rfl) (fun _ _ _ h => h) (Or.inl ⟨by rfl, ?_⟩) hHeld ?_
              rotate_left
              · (intro w hSw; (try dsimp only at hSw); go_simp <;> with_reducible rfl)
              try simp only [Act.put, List.setIfInBounds_toArray, List.set_cons_zero, List.set_cons_succ]
              refine wpAnyH_take (i := 5) (oi := { dst := some 54, op := Op.move (Operand.tmp 0), type := 22, pos := "ref.go:71", after := #[{ on := 4, ground := Ground.guard }], guard := some (4, false) }) (v := ?_) rfl (by kernel_rfl) (by kernel_rfl) (by kernel_rfl) (fun _ _ _ h => h) (Or.inl ⟨by rfl, ?_⟩) hHeld ?_
              rotate_left
              · (intro w hSw; (try dsimp only at hSw); go_simp <;> with_reducible rfl)
              try simp only [Act.put, List.setIfInBounds_toArray, List.set_cons_zero, List.set_cons_succ]
              refine wpAnyH_take (i := 6) (oi := { dst := some 55, op := Op.move (Operand.tmp 1), type := 3, pos := "ref.go:71", after := #[{ on := 4, ground := Ground.guard }], guard := some (4, false) }) (v := ?_) rfl (by kernel_rfl) (by kernel_rfl) (by kernel_rfl) (fun _ _ _ h => h) (Or.inl ⟨by rfl, ?_⟩) hHeld ?_
              rotate_left
              · (intro w hSw; (try dsimp only at hSw); go_simp <;> with_reducible rfl)
              try simp only [Act.put, List.setIfInBounds_toArray, List.set_cons_zero, List.set_cons_succ]
              refine wpAnyH_take (i := 7) (oi := { dst := some 56, op := Op.indexAddr 22 (Operand.tmp 54) (Operand.tmp 55), type := 0, pos := "ref.go:71", after := #[{ on := 5, ground := Ground.data }, { on := 6, ground := Ground.data }, { on := 4, ground := Ground.guard }], guard := some (4, false) }) (v := ?_) rfl (by kernel_rfl) (by kernel_rfl) (by kernel_rfl) (fun _ _ _ h => h) (Or.inl ⟨by rfl, ?_⟩) hHeld ?_
              rotate_left
              · (intro w hSw; (try dsimp only at hSw); go_simp <;> with_reducible rfl)
              try simp only [Act.put, List.setIfInBounds_toArray, List.set_cons_zero, List.set_cons_succ]
              refine wpAnyH_take (i := 8) (oi := { dst := some 57, op := Op.fieldAddr 33 (Operand.tmp 56) 1, type := 0, pos := "ref.go:71", after := #[{ on := 7, ground := Ground.data }, { on := 4, ground := Ground.guard }], guard := some (4, false) }) (v := ?_) rfl (by kernel_rfl) (by kernel_rfl) (by kernel_rfl) (fun _ _ _ h => h) (Or.inl ⟨by rfl, ?_⟩) hHeld ?_
              rotate_left
              · (intro w hSw; (try dsimp only at hSw); go_simp <;> with_reducible rfl)
              try simp only [Act.put, List.setIfInBounds_toArray, List.set_cons_zero, List.set_cons_succ]
              refine wpAnyH_take (i := 9) (oi := { dst := some 58, op := Op.load 9 (Operand.tmp 57), type := 9, pos := "ref.go:71", after := #[{ on := 8, ground := Ground.data }, { on := 4, ground := Ground.guard }], guard := some (4, false) }) (v := ?_) rfl (by kernel_rfl) (by kernel_rfl) (by kernel_rfl) (fun _ _ _ h => h) (Or.inl ⟨by rfl, ?_⟩) hHeld ?_
              rotate_left
              · (intro w hSw; (try dsimp only at hSw); go_simp <;> with_reducible rfl)
              try simp only [Act.put, List.setIfInBounds_toArray, List.set_cons_zero, List.set_cons_succ]
              refine wpAnyH_take (i := 10) (oi := { dst := some 59, op := Op.binOp BinOp.eql 9 (Operand.tmp 58) (Operand.const (Value.string { data := #[] })) 9, type := 4, pos := "ref.go:71", after := #[{ on := 9, ground := Ground.data }, { on := 4, ground := Ground.guard }], guard := some (4, false) }) (v := ?_) rfl (by kernel_rfl) (by kernel_rfl) (by kernel_rfl) (fun _ _ _ h => h) (Or.inl ⟨by rfl, ?_⟩) hHeld ?_
              rotate_left
              · (intro w hSw; (try dsimp only at hSw); go_simp <;> with_reducible rfl)
              try simp only [Act.put, List.setIfInBounds_toArray, List.set_cons_zero, List.set_cons_succ]
              refine wpAnyH_take (i := 11) (oi := { dst := some 60, op := Op.fieldAddr 33 (Operand.tmp 7) 0, type := 0, pos := "ref.go:71", after := #[{ on := 4, ground := Ground.guard }], guard := some (4, false) }) (v := ?_) rfl (by kernel_rfl) (by kernel_rfl) (by kernel_rfl) (fun _ _ _ h => h) (Or.inl ⟨by rfl, ?_⟩) hHeld ?_
              rotate_left
              · (intro w hSw; (try dsimp only at hSw); go_simp <;> with_reducible rfl)
              try simp only [Act.put, List.setIfInBounds_toArray, List.set_cons_zero, List.set_cons_succ]
              refine wpAnyH_take (i := 12) (oi := { dst := some 61, op := Op.load 5 (Operand.tmp 60), type := 5, pos := "ref.go:71", after := #[{ on := 11, ground := Ground.data }, { on := 4, ground := Ground.guard }], guard := some (4, false) }) (v := ?_) rfl (by kernel_rfl) (by kernel_rfl) (by kernel_rfl) (fun _ _ _ h => h) (Or.inl ⟨by rfl, ?_⟩) hHeld ?_
              rotate_left
              · (intro w hSw; (try dsimp only at hSw); go_simp <;> with_reducible rfl)
              try simp only [Act.put, List.setIfInBounds_toArray, List.set_cons_zero, List.set_cons_succ]
              refine wpAnyH_take (i := 13) (oi := { dst := some 62, op := Op.binOp BinOp.eql 5 (Operand.tmp 61) (Operand.const (Value.int IntKind.u8 6)) 5, type := 4, pos := "ref.go:71", after := #[{ on := 12, ground := Ground.data }, { on := 4, ground := Ground.guard }], guard := some (4, false) }) (v := ?_) rfl (by kernel_rfl) (by kernel_rfl) (by kernel_rfl) (fun _ _ _ h => h) (Or.inl ⟨by rfl, ?_⟩) hHeld ?_
              rotate_left
              · (intro w hSw; (try dsimp only at hSw); go_simp <;> with_reducible rfl)
              try simp only [Act.put, List.setIfInBounds_toArray, List.set_cons_zero, List.set_cons_succ]
              refine wpAnyH_take (i := 14) (oi := { dst := some 63, op := Op.binOp BinOp.neq 4 (Operand.tmp 59) (Operand.tmp 62) 4, type := 4, pos := "ref.go:71", after := #[{ on := 10, ground := Ground.data }, { on := 13, ground := Ground.data }, { on := 4, ground := Ground.guard }], guard := some (4, false) }) (v := ?_) rfl (by kernel_rfl) (by kernel_rfl) (by kernel_rfl) (fun _ _ _ h => h) (Or.inl ⟨by rfl, ?_⟩) hHeld ?_
              rotate_left
              · (intro w hSw; (try dsimp only at hSw); go_simp <;> with_reducible rfl)
              try simp only [Act.put, List.setIfInBounds_toArray, List.set_cons_zero, List.set_cons_succ]
              refine wpAnyH_take (i := 15) (oi := { dst := some 64, op := Op.pick (Operand.tmp 53) (Operand.const (Value.bool true)) (Operand.tmp 63), type := 4, pos := "ref.go:71", after := #[{ on := 4, ground := Ground.data }, { on := 14, ground := Ground.data }], guard := none }) (v := ?_) rfl (by kernel_rfl) (by kernel_rfl) (by kernel_rfl) (fun _ _ _ h => h) (Or.inl ⟨by rfl, ?_⟩) hHeld ?_
              rotate_left
              · (intro w hSw; (try dsimp only at hSw); go_simp <;> with_reducible rfl)
              try simp only [Act.put, List.setIfInBounds_toArray, List.set_cons_zero, List.set_cons_succ]
              refine wpAnyH_take (i := 16) (oi := { dst := some 65, op := Op.move (Operand.tmp 64), type := 4, pos := "ref.go:71", after := #[{ on := 15, ground := Ground.data }, { on := 4, ground := Ground.chain }], guard := none }) (v := ?_) rfl (by kernel_rfl) (by kernel_rfl) (by kernel_rfl) (fun _ _ _ h => h) (Or.inl ⟨by rfl, ?_⟩) hHeld ?_
              rotate_left
              · (intro w hSw; (try dsimp only at hSw); go_simp <;> with_reducible rfl)
              try simp only [Act.put, List.setIfInBounds_toArray, List.set_cons_zero, List.set_cons_succ]
              refine wpAnyH_take (i := 17) (oi := { dst := some 66, op := Op.move (Operand.tmp 0), type := 22, pos := "ref.go:71", after := #[{ on := 16, ground := Ground.guard }], guard := some (16, false) }) (v := ?_) rfl (by kernel_rfl) (by kernel_rfl) (by kernel_rfl) (fun _ _ _ h => h) (Or.inl ⟨by rfl, ?_⟩) hHeld ?_
              rotate_left
              · (intro w hSw; (try dsimp only at hSw); go_simp <;> with_reducible rfl)
              try simp only [Act.put, List.setIfInBounds_toArray, List.set_cons_zero, List.set_cons_succ]
              refine wpAnyH_take (i := 18) (oi := { dst := some 67, op := Op.move (Operand.tmp 1), type := 3, pos := "ref.go:71", after := #[{ on := 16, ground := Ground.guard }], guard := some (16, false) }) (v := ?_) rfl (by kernel_rfl) (by kernel_rfl) (by kernel_rfl) (fun _ _ _ h => h) (Or.inl ⟨by rfl, ?_⟩) hHeld ?_
              rotate_left
              · (intro w hSw; (try dsimp only at hSw); go_simp <;> with_reducible rfl)
              try simp only [Act.put, List.setIfInBounds_toArray, List.set_cons_zero, List.set_cons_succ]
              refine wpAnyH_take (i := 19) (oi := { dst := some 68, op := Op.indexAddr 22 (Operand.tmp 66) (Operand.tmp 67), type := 0, pos := "ref.go:71", after := #[{ on := 17, ground := Ground.data }, { on := 18, ground := Ground.data }, { on := 16, ground := Ground.guard }], guard := some (16, false) }) (v := ?_) rfl (by kernel_rfl) (by kernel_rfl) (by kernel_rfl) (fun _ _ _ h => h) (Or.inl ⟨by rfl, ?_⟩) hHeld ?_
              rotate_left
              · (intro w hSw; (try dsimp only at hSw); go_simp <;> with_reducible rfl)
              try simp only [Act.put, List.setIfInBounds_toArray, List.set_cons_zero, List.set_cons_succ]
              refine wpAnyH_take (i := 20) (oi := { dst := some 69, op := Op.fieldAddr 33 (Operand.tmp 68) 1, type := 0, pos := "ref.go:71", after := #[{ on := 19, ground := Ground.data }, { on := 16, ground := Ground.guard }], guard := some (16, false) }) (v := ?_) rfl (by kernel_rfl) (by kernel_rfl) (by kernel_rfl) (fun _ _ _ h => h) (Or.inl ⟨by rfl, ?_⟩) hHeld ?_
              rotate_left
              · (intro w hSw; (try dsimp only at hSw); go_simp <;> with_reducible rfl)
              try simp only [Act.put, List.setIfInBounds_toArray, List.set_cons_zero, List.set_cons_succ]
              refine wpAnyH_take (i := 21) (oi := { dst := some 70, op := Op.load 9 (Operand.tmp 69), type := 9, pos := "ref.go:71", after := #[{ on := 20, ground := Ground.data }, { on := 16, ground := Ground.guard }], guard := some (16, false) }) (v := ?_) rfl (by kernel_rfl) (by kernel_rfl) (by kernel_rfl) (fun _ _ _ h => h) (Or.inl ⟨by rfl, ?_⟩) hHeld ?_
              rotate_left
              · (intro w hSw; (try dsimp only at hSw); go_simp <;> with_reducible rfl)
              try simp only [Act.put, List.setIfInBounds_toArray, List.set_cons_zero, List.set_cons_succ]
              refine wpAnyH_ready (rs := [22]) (by kernel_rfl) (by simp) (AllReadyH.cons (o := { dst := some 71, op := Op.call { callee := Callee.value (Operand.func 40), args := #[Operand.tmp 70], argTypes := #[9] }, type := 4, pos := "ref.go:71", after := #[{ on := 21, ground := Ground.data }, { on := 16, ground := Ground.chain }, { on := 16, ground := Ground.guard }], guard := some (16, false) }) rfl (fun K22 hK22 => ?_) AllReadyH.nil)
              go_simp
              refine (HT.out _ hHeld).mono ?_
              rintro e wa ⟨rfl, hS2⟩
              refine hK22.out _ _ hS2 (fun hH_22 => ?_)
              clear hS2
              clear hK22 K22
              try simp only [Act.put, List.setIfInBounds_toArray, List.set_cons_zero, List.set_cons_succ]
              refine wpAnyH_take (i := 23) (oi := { dst := some 72, op := Op.unOp UnOp.not 4 (Operand.tmp 71), type := 4, pos := "ref.go:71", after := #[{ on := 22, ground := Ground.data }, { on := 16, ground := Ground.guard }], guard := some (16, false) }) (v := ?_) rfl (by kernel_rfl) (by kernel_rfl) (by kernel_rfl) (fun _ _ _ h => h) (Or.inl ⟨by rfl, ?_⟩) hH_22 ?_
              rotate_left
              · (intro w hSw; (try dsimp only at hSw); go_simp <;> with_reducible rfl)
              try simp only [Act.put, List.setIfInBounds_toArray, List.set_cons_zero, List.set_cons_succ]
              refine wpAnyH_take (i := 24) (oi := { dst := some 73, op := Op.pick (Operand.tmp 65) (Operand.const (Value.bool true)) (Operand.tmp 72), type := 4, pos := "ref.go:71", after := #[{ on := 16, ground := Ground.data }, { on := 23, ground := Ground.data }], guard := none }) (v := ?_) rfl (by kernel_rfl) (by kernel_rfl) (by kernel_rfl) (fun _ _ _ h => h) (Or.inl ⟨by rfl, ?_⟩) hH_22 ?_
              rotate_left
              · (intro w hSw; (try dsimp only at hSw); go_simp <;> with_reducible rfl)
              try simp only [Act.put, List.setIfInBounds_toArray, List.set_cons_zero, List.set_cons_succ]
              refine wpAnyH_take (i := 25) (oi := { dst := some 74, op := Op.move (Operand.tmp 73), type := 4, pos := "ref.go:71", after := #[{ on := 24, ground := Ground.data }, { on := 22, ground := Ground.chain }], guard := none }) (v := ?_) rfl (by kernel_rfl) (by kernel_rfl) (by kernel_rfl) (fun _ _ _ h => h) (Or.inl ⟨by rfl, ?_⟩) hH_22 ?_
              rotate_left
              · (intro w hSw; (try dsimp only at hSw); go_simp <;> with_reducible rfl)
              try simp only [Act.put, List.setIfInBounds_toArray, List.set_cons_zero, List.set_cons_succ]
              refine wpAnyH_take (i := 26) (oi := { dst := some 75, op := Op.move (Operand.tmp 8), type := 61, pos := "ref.go:71", after := #[{ on := 25, ground := Ground.guard }], guard := some (25, false) }) (v := ?_) rfl (by kernel_rfl) (by kernel_rfl) (by kernel_rfl) (fun _ _ _ h => h) (Or.inl ⟨by rfl, ?_⟩) hH_22 ?_
              rotate_left
              · (intro w hSw; (try dsimp only at hSw); go_simp <;> with_reducible rfl)
              try simp only [Act.put, List.setIfInBounds_toArray, List.set_cons_zero, List.set_cons_succ]
              refine wpAnyH_take (i := 27) (oi := { dst := some 76, op := Op.move (Operand.tmp 0), type := 22, pos := "ref.go:71", after := #[{ on := 25, ground := Ground.guard }], guard := some (25, false) }) (v := ?_) rfl (by kernel_rfl) (by kernel_rfl) (by kernel_rfl) (fun _ _ _ h => h) (Or.inl ⟨by rfl, ?_⟩) hH_22 ?_
              rotate_left
              · (intro w hSw; (try dsimp only at hSw); go_simp <;> with_reducible rfl)
              try simp only [Act.put, List.setIfInBounds_toArray, List.set_cons_zero, List.set_cons_succ]
              refine wpAnyH_take (i := 28) (oi := { dst := some 77, op := Op.move (Operand.tmp 1), type := 3, pos := "ref.go:71", after := #[{ on := 25, ground := Ground.guard }], guard := some (25, false) }) (v := ?_) rfl (by kernel_rfl) (by kernel_rfl) (by kernel_rfl) (fun _ _ _ h => h) (Or.inl ⟨by rfl, ?_⟩) hH_22 ?_
              rotate_left
              · (intro w hSw; (try dsimp only at hSw); go_simp <;> with_reducible rfl)
              try simp only [Act.put, List.setIfInBounds_toArray, List.set_cons_zero, List.set_cons_succ]
              refine wpAnyH_take (i := 29) (oi := { dst := some 78, op := Op.indexAddr 22 (Operand.tmp 76) (Operand.tmp 77), type := 0, pos := "ref.go:71", after := #[{ on := 27, ground := Ground.data }, { on := 28, ground := Ground.data }, { on := 25, ground := Ground.guard }], guard := some (25, false) }) (v := ?_) rfl (by kernel_rfl) (by kernel_rfl) (by kernel_rfl) (fun _ _ _ h => h) (Or.inl ⟨by rfl, ?_⟩) hH_22 ?_
              rotate_left
              · (intro w hSw; (try dsimp only at hSw); go_simp <;> with_reducible rfl)
              try simp only [Act.put, List.setIfInBounds_toArray, List.set_cons_zero, List.set_cons_succ]
              refine wpAnyH_take (i := 30) (oi := { dst := some 79, op := Op.fieldAddr 33 (Operand.tmp 78) 1, type := 0, pos := "ref.go:71", after := #[{ on := 29, ground := Ground.data }, { on := 25, ground := Ground.guard }], guard := some (25, false) }) (v := ?_) rfl (by kernel_rfl) (by kernel_rfl) (by kernel_rfl) (fun _ _ _ h => h) (Or.inl ⟨by rfl, ?_⟩) hH_22 ?_
              rotate_left
              · (intro w hSw; (try dsimp only at hSw); go_simp <;> with_reducible rfl)
              try simp only [Act.put, List.setIfInBounds_toArray, List.set_cons_zero, List.set_cons_succ]
              refine wpAnyH_take (i := 31) (oi := { dst := some 80, op := Op.load 9 (Operand.tmp 79), type := 9, pos := "ref.go:71", after := #[{ on := 30, ground := Ground.data }, { on := 25, ground := Ground.guard }], guard := some (25, false) }) (v := ?_) rfl (by kernel_rfl) (by kernel_rfl) (by kernel_rfl) (fun _ _ _ h => h) (Or.inl ⟨by rfl, ?_⟩) hH_22 ?_
              rotate_left
              · (intro w hSw; (try dsimp only at hSw); go_simp <;> with_reducible rfl)
              try simp only [Act.put, List.setIfInBounds_toArray, List.set_cons_zero, List.set_cons_succ]
              refine wpAnyH_ready (rs := [32]) (by kernel_rfl) (by simp) (AllReadyH.cons (o := { dst := some 81, op := Op.call { callee := Callee.value (Operand.func 41), args := #[Operand.tmp 75, Operand.tmp 80], argTypes := #[61, 9] }, type := 4, pos := "ref.go:71", after := #[{ on := 26, ground := Ground.data }, { on := 31, ground := Ground.data }, { on := 25, ground := Ground.chain }, { on := 25, ground := Ground.guard }], guard := some (25, false) }) rfl (fun K32 hK32 => ?_) AllReadyH.nil)
              go_simp
              refine (HA.out _ hH_22).mono ?_
              rintro e w' ⟨rfl, hS3⟩
              refine hK32.out _ _ hS3 (fun hH_32 => ?_)
              clear hS3
              clear hK32 K32
              try simp only [Act.put, List.setIfInBounds_toArray, List.set_cons_zero, List.set_cons_succ]
              refine wpAnyH_take (i := 33) (oi := { dst := some 82, op := Op.pick (Operand.tmp 74) (Operand.const (Value.bool true)) (Operand.tmp 81), type := 4, pos := "ref.go:71", after := #[{ on := 25, ground := Ground.data }, { on := 32, ground := Ground.data }], guard := none }) (v := ?_) rfl (by kernel_rfl) (by kernel_rfl) (by kernel_rfl) (fun _ _ _ h => h) (Or.inl ⟨by rfl, ?_⟩) hH_32 ?_
              rotate_left
              · (intro w hSw; (try dsimp only at hSw); go_simp <;> with_reducible rfl)
              try simp only [Act.put, List.setIfInBounds_toArray, List.set_cons_zero, List.set_cons_succ]
              refine wpAnyH_done (by kernel_rfl) ?_ _
              have hLast := Lib.hid hH_32
              clear hHeld hH_22 hH_32
              obtain ⟨f0, c1, HB3, HN3⟩ := hLast.out
              clear hLast
              clear hSS HT HA HAV
              replace HB3 := Lib.hid HB3
              replace HN3 := Lib.hid HN3
              clear HX
              go_wp2_with (at_builtin; refine wpList_append_own _ rfl _ _ 61 rfl w2.heap.size 9 i0 (.string ⟨#[]⟩) 1 16 Tryd.underlying61 hi0 hz0 hz1 hz2 rfl (by decide) _ _ _ rfl (HN3.out.alloc _) ⟨w'.heap.size, 0, none⟩ 1 1 [.string nm] rfl rfl (news_at _ _ _ _ rfl) (by intro u hu; simp at hu; subst hu; rfl) (by have := hll.out; unfold maxLen; omega) (by have := hll.out; omega) (by have := HB3.out.size; simp; omega) ?_; intro v5 w5 ho5 hg5 _; have HB5 : Hid (Below w2.heap.size w2 w5) := Lib.hid ((HB3.out.alloc HB3.out.size _).grown hg5 (by have := HB3.out.size; show w2.heap.size ≤ (w'.heap.push _).size; simp; omega) (fun x hx => (HN3.out.lt x hx).1)); have HN5 : Hid (NL w5 w2.heap.size v5 (nm :: names).reverse) := Lib.hid (by unfold NL; rw [List.reverse_cons, List.length_append, List.map_append, ← HRL.out]; exact ho5); clear ho5 hg5)
              clear HB3 HN3 f0 c1
              cases hx : wk g n r0 q with
              | none =>
                have HZ : Hid (res = none) := Lib.hid (by have := HY.out; rw [hx] at this; exact this.symm)
                have HI := Lib.hid (hIH.out r0 rfl q _ (HV.out.below (B2.out.trans (HB5.out.mono B2.out.size))) (by omega))
                rw [hx] at HI
                clear hx HY HKN HKY HKS HKE hIH HL
                with_reducible refine HI.out.mono ?_
                rintro e w4 ⟨rfl, b4⟩
                unfold wkI
                clear HI
                have B4 := Lib.hid ((B2.out.trans (HB5.out.mono B2.out.size)).trans (b4.mono (B2.out.trans (HB5.out.mono B2.out.size)).size))
                clear b4
                go_wp2_with fail
                go_ret
                exact BPost.no HZ.out B4.out
              | some q2 =>
                have hql := wk_lt _ _ _ hx
                have HY2 := HY.out
                rw [hx] at HY2
                have HI := Lib.hid (hIH.out r0 rfl q _ (HV.out.below (B2.out.trans (HB5.out.mono B2.out.size))) (by omega))
                rw [hx] at HI
                replace HY2 := Lib.hid HY2
                have hq20 : (0 : Int) ≤ q2 := by omega
                clear hx HY HKN HKY HKS HKE hIH
                with_reducible refine HI.out.mono ?_
                rintro e w4 ⟨rfl, b4⟩
                unfold wkI
                have HB4 := Lib.hid (HB5.out.trans (b4.mono HB5.out.size))
                have HN4 : Hid (NL w4 w2.heap.size _ _) := Lib.hid (own_below HN5.out b4)
                clear b4 HI
                go_wp2_with fail
                have HNN2 : Hid (NilIf true (nm :: names)) := Lib.hid (fun h => by cases h)
                go_roundw
                case rel => exact ⟨i + 1, q2, nm :: names, by omega, by go_num, rfl, hql.2, HN4, HB4, HY2, Lib.hid (by have := HL.out; simp; omega), HNN2⟩
                case measure => simp [intOf]; omega
      · have HZ : Hid (res = none) := Lib.hid (by have := HK1.out; rw [if_pos (by omega)] at this; exact this.symm)
        have hq1 : (n : Int) ≤ q := by omega
        have hq1d : decide (n ≤ q) = true := by simp; omega
        clear HKS HKE hIH HL HK1
        go_wp2_with fail
        go_quiet (fail)
        go_wp2_with fail
        go_ret
        exact BPost.no HZ.out (below_drewN0 HBW.out _)
    · have e1 : i = m := by omega
      subst e1
      have hge : ¬ ((i : Int) < i) := by omega
      have HZ : Hid (res = some q) := Lib.hid (by rw [← HK.out, HKE.out])
      clear HKS HKE hIH HK
      go_wp2_with fail
      go_ret
      exact BPost.yes HZ.out rfl (B2.out.trans (HB.out.mono B2.out.size))
end Go.Proofs.YtpbbmnefcfllmaaDoor

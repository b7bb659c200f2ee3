import Derived.Test.YtfphejndbnmfeabK5
namespace Go.Proofs.Ytfphejndbnmfeab
open Go.RowKit

theorem fits_non {n1 n2 : ByteArray} {A B : List Int} (h2 : non B = true) (h1 : non A = false) : fits n1 A n2 B = false := by
  unfold fits
  simp only [fitsF, h1, h2]
  split
  · rfl
  · simp
theorem use_fits {tn n2 : ByteArray} {L1 L2 : List Int} {has : Bool} {dl : Nat} {k0 : Int} (hf : Bool) (h : fits tn L1 n2 L2 = true) : usable tn n2 L1 L2 has dl k0 hf = true := by
  unfold usable
  cases h2 : (non L2 && !non L1)
  · simpa using h
  · rw [Bool.and_eq_true] at h2
    rw [fits_non h2.1 (by simpa using h2.2)] at h; cases h
theorem use_more {tn n2 : ByteArray} {L1 L2 : List Int} {has : Bool} {dl : Nat} {k0 : Int} (hf : Bool) (h : usable tn n2 L1 L2 has dl k0 false = true) : usable tn n2 L1 L2 has dl k0 hf = true := by
  unfold usable at h ⊢
  split at h
  · rename_i hh; rw [if_pos hh]
    rw [Bool.false_or, Bool.and_eq_true] at h
    rw [h.1, h.2]; simp
  · rename_i hh; rw [if_neg hh]; exact h
theorem use_one {tn n2 : ByteArray} {L1 L2 : List Int} {has : Bool} {dl : Nat} {k0 : Int} : usable tn n2 L1 L2 true 1 2 false = usable tn n2 L1 L2 has dl k0 true := by
  unfold usable hasD
  simp
set_option maxRecDepth 10000 in
set_option maxHeartbeats 4000000 in
theorem uses_walk (nm tn : ByteArray) (a : Option Addr) (l c : Nat) (has : Bool) (da : Option Addr) (dl dc : Nat) (xa : Option Addr) (xl xc : Nat) (n2 : ByteArray) (a2 : Option Addr) (l2 c2 : Nat) (hf : Bool) (L1 L2 : List Int) (k0 : Int) (w : World) (hv1 : View w a l L1) (hc1 : l ≤ c) (hv2 : View w a2 l2 L2) (hc2 : l2 ≤ c2) (hd : DView w da dl k0) :
    Calls Try.prog 6 #[inV nm tn a l c has da dl dc xa xl xc, refV n2 a2 l2 c2, .bool hf] w fun e w' => e = .returned (.bool true) ∧ Below w.heap.size w w' := by
  have hx1 : VBox ((w.alloc (.cells #[.string nm, .string tn, .slice a l c, .bool has, .slice da dl dc, .slice xa xl xc] 29)).alloc (.cells #[.string n2, .slice a2 l2 c2] 25)) w.heap.size #[.string nm, .string tn, .slice a l c, .bool has, .slice da dl dc, .slice xa xl xc] := by
    have h : VBox (w.alloc (.cells #[.string nm, .string tn, .slice a l c, .bool has, .slice da dl dc, .slice xa xl xc] 29)) w.heap.size #[.string nm, .string tn, .slice a l c, .bool has, .slice da dl dc, .slice xa xl xc] := heap_alloc_new w _
    exact h.up ((Below.refl _ _).alloc (Nat.le_refl _) _)
  have hx2 : Box ((w.alloc (.cells #[.string nm, .string tn, .slice a l c, .bool has, .slice da dl dc, .slice xa xl xc] 29)).alloc (.cells #[.string n2, .slice a2 l2 c2] 25)) (w.heap.size + 1) n2 a2 l2 c2 := by
    have h := heap_alloc_new (w.alloc (.cells #[.string nm, .string tn, .slice a l c, .bool has, .slice da dl dc, .slice xa xl xc] 29)) (.cells #[.string n2, .slice a2 l2 c2] 25)
    unfold Box; simpa using h
  have hbl : Below w.heap.size w ((w.alloc (.cells #[.string nm, .string tn, .slice a l c, .bool has, .slice da dl dc, .slice xa xl xc] 29)).alloc (.cells #[.string n2, .slice a2 l2 c2] 25)) := ((Below.refl _ w).alloc (Nat.le_refl _) _).alloc (by simp) _
  have X10 := Lib.hid hx1
  have X20 := Lib.hid hx2
  have BL0 := Lib.hid hbl
  have HV1 := Lib.hid hv1
  have HV2 := Lib.hid hv2
  have HC1 := Lib.hid hc1
  have HC2 := Lib.hid hc2
  have HD := Lib.hid hd
  clear hx1 hx2 hbl hv1 hv2 hc1 hc2 hd
  unfold inV refV
  by_cases hbig : 20 < l ∨ 20 < l2 ∨ 100 < dl
  · have hsp : (20 < l) ∨ (¬ 20 < l ∧ 20 < l2) ∨ (¬ 20 < l ∧ ¬ 20 < l2 ∧ 100 < dl) := by omega
    clear hbig
    rcases hsp with g1 | ⟨g1, g2⟩ | ⟨g1, g2, g3⟩
    · go_enter Try.func6, Try.ntmps6
      go_wp2_with fail
      refine (alive_true _).mono ?_
      rintro e w1 ⟨rfl, b1⟩
      have BL1 : Hid (Below w.heap.size w w1) := Lib.hid (BL0.out.trans (b1.mono BL0.out.size))
      have ua := X10.out.up b1
      have va := X20.out.up b1
      have ka0 : w1.cell? ⟨w.heap.size, 0, none⟩ = some (.string nm) := ua.at 0
      have ka1 : w1.cell? ⟨w.heap.size, 1, none⟩ = some (.string tn) := ua.at 1
      have ka2 : w1.cell? ⟨w.heap.size, 2, none⟩ = some (.slice a l c) := ua.at 2
      have ka3 : w1.cell? ⟨w.heap.size, 3, none⟩ = some (.bool has) := ua.at 3
      have ka4 : w1.cell? ⟨w.heap.size, 4, none⟩ = some (.slice da dl dc) := ua.at 4
      have ka5 : w1.cell? ⟨w.heap.size, 5, none⟩ = some (.slice xa xl xc) := ua.at 5
      have ma0 := va.c0
      have ma1 := va.c1
      have X1a := Lib.hid ua
      have X2a := Lib.hid va
      clear ua va
      clear b1
      go_wp2_with fail
      go_ret
      exact ⟨rfl, BL1.out⟩
    · go_enter Try.func6, Try.ntmps6
      go_wp2_with fail
      refine (alive_true _).mono ?_
      rintro e w1 ⟨rfl, b1⟩
      have BL1 : Hid (Below w.heap.size w w1) := Lib.hid (BL0.out.trans (b1.mono BL0.out.size))
      have ua := X10.out.up b1
      have va := X20.out.up b1
      have ka0 : w1.cell? ⟨w.heap.size, 0, none⟩ = some (.string nm) := ua.at 0
      have ka1 : w1.cell? ⟨w.heap.size, 1, none⟩ = some (.string tn) := ua.at 1
      have ka2 : w1.cell? ⟨w.heap.size, 2, none⟩ = some (.slice a l c) := ua.at 2
      have ka3 : w1.cell? ⟨w.heap.size, 3, none⟩ = some (.bool has) := ua.at 3
      have ka4 : w1.cell? ⟨w.heap.size, 4, none⟩ = some (.slice da dl dc) := ua.at 4
      have ka5 : w1.cell? ⟨w.heap.size, 5, none⟩ = some (.slice xa xl xc) := ua.at 5
      have ma0 := va.c0
      have ma1 := va.c1
      have X1a := Lib.hid ua
      have X2a := Lib.hid va
      clear ua va
      clear b1
      go_wp2_with fail
      go_ret
      exact ⟨rfl, BL1.out⟩
    · go_enter Try.func6, Try.ntmps6
      go_wp2_with fail
      refine (alive_true _).mono ?_
      rintro e w1 ⟨rfl, b1⟩
      have BL1 : Hid (Below w.heap.size w w1) := Lib.hid (BL0.out.trans (b1.mono BL0.out.size))
      have ua := X10.out.up b1
      have va := X20.out.up b1
      have ka0 : w1.cell? ⟨w.heap.size, 0, none⟩ = some (.string nm) := ua.at 0
      have ka1 : w1.cell? ⟨w.heap.size, 1, none⟩ = some (.string tn) := ua.at 1
      have ka2 : w1.cell? ⟨w.heap.size, 2, none⟩ = some (.slice a l c) := ua.at 2
      have ka3 : w1.cell? ⟨w.heap.size, 3, none⟩ = some (.bool has) := ua.at 3
      have ka4 : w1.cell? ⟨w.heap.size, 4, none⟩ = some (.slice da dl dc) := ua.at 4
      have ka5 : w1.cell? ⟨w.heap.size, 5, none⟩ = some (.slice xa xl xc) := ua.at 5
      have ma0 := va.c0
      have ma1 := va.c1
      have X1a := Lib.hid ua
      have X2a := Lib.hid va
      clear ua va
      clear b1
      go_wp2_with fail
      go_ret
      exact ⟨rfl, BL1.out⟩
  · have g1 : ¬ 20 < l := by omega
    have g2 : ¬ 20 < l2 := by omega
    have g3 : ¬ 100 < dl := by omega
    clear hbig
    obtain ⟨P, hP⟩ : ∃ P, P = usable tn n2 L1 L2 has dl k0 false := ⟨_, rfl⟩
    obtain ⟨Q, hQ⟩ : ∃ Q, Q = usable tn n2 L1 L2 has dl k0 hf := ⟨_, rfl⟩
    obtain ⟨F, hF⟩ : ∃ F, F = fits tn L1 n2 L2 := ⟨_, rfl⟩
    have hFP : F = true → P = true := fun h => by rw [hP]; exact use_fits false (hF ▸ h)
    have hPQ : P = true → Q = true := fun h => by rw [hQ]; exact use_more hf (hP ▸ h)
    have HP := Lib.hid hP
    have HQ := Lib.hid hQ
    have HF := Lib.hid hF
    have HFP := Lib.hid hFP
    have HPQ := Lib.hid hPQ
    clear hP hQ hF hFP hPQ
    go_enter Try.func6, Try.ntmps6
    go_wp2_with fail
    refine (alive_true _).mono ?_
    rintro e w1 ⟨rfl, b1⟩
    have BL1 : Hid (Below w.heap.size w w1) := Lib.hid (BL0.out.trans (b1.mono BL0.out.size))
    have ua := X10.out.up b1
    have va := X20.out.up b1
    have ka0 : w1.cell? ⟨w.heap.size, 0, none⟩ = some (.string nm) := ua.at 0
    have ka1 : w1.cell? ⟨w.heap.size, 1, none⟩ = some (.string tn) := ua.at 1
    have ka2 : w1.cell? ⟨w.heap.size, 2, none⟩ = some (.slice a l c) := ua.at 2
    have ka3 : w1.cell? ⟨w.heap.size, 3, none⟩ = some (.bool has) := ua.at 3
    have ka4 : w1.cell? ⟨w.heap.size, 4, none⟩ = some (.slice da dl dc) := ua.at 4
    have ka5 : w1.cell? ⟨w.heap.size, 5, none⟩ = some (.slice xa xl xc) := ua.at 5
    have ma0 := va.c0
    have ma1 := va.c1
    have X1a := Lib.hid ua
    have X2a := Lib.hid va
    clear ua va
    clear b1
    go_wp2_with fail
    refine (usable_any nm tn a l c has da dl dc xa xl xc n2 a2 l2 c2 L1 L2 k0 _ (HV1.out.below BL1.out) HC1.out (HV2.out.below BL1.out) HC2.out (HD.out.below BL1.out) false).mono ?_
    rintro e w2 ⟨rfl, b2⟩
    rw [← HP.out]
    have BL2 : Hid (Below w.heap.size w w2) := Lib.hid (BL1.out.trans (b2.mono BL1.out.size))
    have ub := X1a.out.up b2
    have vb := X2a.out.up b2
    have kb0 : w2.cell? ⟨w.heap.size, 0, none⟩ = some (.string nm) := ub.at 0
    have kb1 : w2.cell? ⟨w.heap.size, 1, none⟩ = some (.string tn) := ub.at 1
    have kb2 : w2.cell? ⟨w.heap.size, 2, none⟩ = some (.slice a l c) := ub.at 2
    have kb3 : w2.cell? ⟨w.heap.size, 3, none⟩ = some (.bool has) := ub.at 3
    have kb4 : w2.cell? ⟨w.heap.size, 4, none⟩ = some (.slice da dl dc) := ub.at 4
    have kb5 : w2.cell? ⟨w.heap.size, 5, none⟩ = some (.slice xa xl xc) := ub.at 5
    have mb0 := vb.c0
    have mb1 := vb.c1
    have X1b := Lib.hid ub
    have X2b := Lib.hid vb
    clear ub vb
    clear b2
    clear ka0 ka1 ka2 ka3 ka4 ka5 ma0 ma1
    go_wp2_with fail
    refine (fits_any tn n2 a a2 l c l2 c2 L1 L2 _ (HV1.out.below BL2.out) (HV2.out.below BL2.out) HC1.out HC2.out).mono ?_
    rintro e w3 ⟨rfl, b3⟩
    rw [← HF.out]
    have BL3 : Hid (Below w.heap.size w w3) := Lib.hid (BL2.out.trans (b3.mono BL2.out.size))
    have uc := X1b.out.up b3
    have vc := X2b.out.up b3
    have kc0 : w3.cell? ⟨w.heap.size, 0, none⟩ = some (.string nm) := uc.at 0
    have kc1 : w3.cell? ⟨w.heap.size, 1, none⟩ = some (.string tn) := uc.at 1
    have kc2 : w3.cell? ⟨w.heap.size, 2, none⟩ = some (.slice a l c) := uc.at 2
    have kc3 : w3.cell? ⟨w.heap.size, 3, none⟩ = some (.bool has) := uc.at 3
    have kc4 : w3.cell? ⟨w.heap.size, 4, none⟩ = some (.slice da dl dc) := uc.at 4
    have kc5 : w3.cell? ⟨w.heap.size, 5, none⟩ = some (.slice xa xl xc) := uc.at 5
    have mc0 := vc.c0
    have mc1 := vc.c1
    have X1c := Lib.hid uc
    have X2c := Lib.hid vc
    clear uc vc
    clear b3
    clear kb0 kb1 kb2 kb3 kb4 kb5 mb0 mb1
    cases P
    · have hF0 : F = false := by
        cases F
        · rfl
        · exact absurd (HFP.out rfl) (by simp)
      subst hF0
      go_wp2_with fail
      obtain ⟨W, hW⟩ : ∃ W, W = ((w3.alloc (.cells #[.string nm, .string tn, .slice a l c, .bool true, .slice (some ⟨w3.heap.size + 1, 0, none⟩) 1 1, .slice xa xl xc] 29)).alloc (.cells #[.int .u8 2, .string ⟨#[]⟩, .string ⟨#[]⟩, .int .i64 1, .int .i64 0] 47)) := ⟨_, rfl⟩
      rw [← hW]
      have hb : Below w3.heap.size w3 W := by rw [hW]; exact ((Below.refl _ _).alloc (Nat.le_refl _) _).alloc (by simp) _
      have x9 : VBox W w3.heap.size #[.string nm, .string tn, .slice a l c, .bool true, .slice (some ⟨w3.heap.size + 1, 0, none⟩) 1 1, .slice xa xl xc] := by
        rw [hW]
        have h : VBox (w3.alloc (.cells #[.string nm, .string tn, .slice a l c, .bool true, .slice (some ⟨w3.heap.size + 1, 0, none⟩) 1 1, .slice xa xl xc] 29)) w3.heap.size #[.string nm, .string tn, .slice a l c, .bool true, .slice (some ⟨w3.heap.size + 1, 0, none⟩) 1 1, .slice xa xl xc] := heap_alloc_new w3 _
        exact h.up ((Below.refl _ _).alloc (Nat.le_refl _) _)
      have xd : W.cell? ⟨w3.heap.size + 1, 0, none⟩ = some (.int .u8 2) := by rw [hW]; simp
      have hs : w3.heap.size + 1 < W.heap.size := by rw [hW]; simp
      have u := X1c.out.up hb
      have v := X2c.out.up hb
      have BLW : Hid (Below w.heap.size w W) := Lib.hid (BL3.out.trans (hb.mono BL3.out.size))
      have XD : Hid (DView W.drew (some ⟨w3.heap.size + 1, 0, none⟩) 1 2) := Lib.hid (fun _ => ⟨w3.heap.size + 1, 0, rfl, hs, xd⟩)
      have XU : Hid (VBox W.drew w.heap.size #[.string nm, .string tn, .slice a l c, .bool has, .slice da dl dc, .slice xa xl xc]) := Lib.hid u
      have XV : Hid (Box W.drew (w.heap.size + 1) n2 a2 l2 c2) := Lib.hid v
      have X9d : Hid (VBox W.drew w3.heap.size #[.string nm, .string tn, .slice a l c, .bool true, .slice (some ⟨w3.heap.size + 1, 0, none⟩) 1 1, .slice xa xl xc]) := Lib.hid x9
      clear hW
      clear kc0 kc1 kc2 kc3 kc4 kc5 mc0 mc1
      have z0 : W.cell? ⟨w3.heap.size, 0, none⟩ = some (.string nm) := x9.at 0
      have z1 : W.cell? ⟨w3.heap.size, 1, none⟩ = some (.string tn) := x9.at 1
      have z2 : W.cell? ⟨w3.heap.size, 2, none⟩ = some (.slice a l c) := x9.at 2
      have z3 : W.cell? ⟨w3.heap.size, 3, none⟩ = some (.bool true) := x9.at 3
      have z4 : W.cell? ⟨w3.heap.size, 4, none⟩ = some (.slice (some ⟨w3.heap.size + 1, 0, none⟩) 1 1) := x9.at 4
      have z5 : W.cell? ⟨w3.heap.size, 5, none⟩ = some (.slice xa xl xc) := x9.at 5
      have y0 : W.cell? ⟨w.heap.size, 0, none⟩ = some (.string nm) := u.at 0
      have y1 : W.cell? ⟨w.heap.size, 1, none⟩ = some (.string tn) := u.at 1
      have y2 : W.cell? ⟨w.heap.size, 2, none⟩ = some (.slice a l c) := u.at 2
      have y3 : W.cell? ⟨w.heap.size, 3, none⟩ = some (.bool has) := u.at 3
      have y4 : W.cell? ⟨w.heap.size, 4, none⟩ = some (.slice da dl dc) := u.at 4
      have y5 : W.cell? ⟨w.heap.size, 5, none⟩ = some (.slice xa xl xc) := u.at 5
      have y6 := v.c0
      have y7 := v.c1
      clear hb x9 xd hs u v
      have BLD : Hid (Below w.heap.size w W.drew) := Lib.hid BLW.out.drew
      obtain ⟨R, hR⟩ : ∃ R, R = usable tn n2 L1 L2 has dl k0 true := ⟨_, rfl⟩
      have HR := Lib.hid hR
      clear hR
      refine wp_region_held_drew (S := (fun W' => W'.cell? ⟨w3.heap.size, 0, none⟩ = some (.string nm) ∧ W'.cell? ⟨w3.heap.size, 1, none⟩ = some (.string tn) ∧ W'.cell? ⟨w3.heap.size, 2, none⟩ = some (.slice a l c) ∧ W'.cell? ⟨w3.heap.size, 3, none⟩ = some (.bool true) ∧ W'.cell? ⟨w3.heap.size, 4, none⟩ = some (.slice (some ⟨w3.heap.size + 1, 0, none⟩) 1 1) ∧ W'.cell? ⟨w3.heap.size, 5, none⟩ = some (.slice xa xl xc) ∧ W'.cell? ⟨w.heap.size, 0, none⟩ = some (.string nm) ∧ W'.cell? ⟨w.heap.size, 1, none⟩ = some (.string tn) ∧ W'.cell? ⟨w.heap.size, 2, none⟩ = some (.slice a l c) ∧ W'.cell? ⟨w.heap.size, 3, none⟩ = some (.bool has) ∧ W'.cell? ⟨w.heap.size, 4, none⟩ = some (.slice da dl dc) ∧ W'.cell? ⟨w.heap.size, 5, none⟩ = some (.slice xa xl xc) ∧ W'.cell? ⟨w.heap.size + 1, 0, none⟩ = some (.string n2) ∧ W'.cell? ⟨w.heap.size + 1, 1, none⟩ = some (.slice a2 l2 c2))) (by kernel_rfl) ⟨z0, z1, z2, z3, z4, z5, y0, y1, y2, y3, y4, y5, y6, y7⟩ (fun hHeld => ?_)
      refine wpAnyH_take (i := 0) (oi := { dst := some 59, op := Op.load 29 (Operand.tmp 9), type := 29, pos := "outright.go:82", after := #[], guard := none }) (v := .agg #[.string nm, .string tn, .slice a l c, .bool true, .slice (some ⟨w3.heap.size + 1, 0, none⟩) 1 1, .slice xa xl xc]) rfl (by kernel_rfl) (by kernel_rfl) (by kernel_rfl) (fun _ _ _ h => h) (Or.inl ⟨by rfl, fun w hSw => by (obtain ⟨g0, g1, g2, g3, g4, g5, g6, g7, g8, g9, g10, g11, g12, g13⟩ := hSw; go_simp <;> rfl)⟩) hHeld ?_
      try simp only [Act.put, List.setIfInBounds_toArray, List.set_cons_zero, List.set_cons_succ]
      refine wpAnyH_take (i := 1) (oi := { dst := some 60, op := Op.load 25 (Operand.tmp 4), type := 25, pos := "outright.go:82", after := #[], guard := none }) (v := .agg #[.string n2, .slice a2 l2 c2]) rfl (by kernel_rfl) (by kernel_rfl) (by kernel_rfl) (fun _ _ _ h => h) (Or.inl ⟨by rfl, fun w hSw => by (obtain ⟨g0, g1, g2, g3, g4, g5, g6, g7, g8, g9, g10, g11, g12, g13⟩ := hSw; go_simp <;> rfl)⟩) hHeld ?_
      try simp only [Act.put, List.setIfInBounds_toArray, List.set_cons_zero, List.set_cons_succ]
      refine wpAnyH_take (i := 3) (oi := { dst := some 62, op := Op.load 29 (Operand.tmp 3), type := 29, pos := "outright.go:82", after := #[], guard := none }) (v := .agg #[.string nm, .string tn, .slice a l c, .bool has, .slice da dl dc, .slice xa xl xc]) rfl (by kernel_rfl) (by kernel_rfl) (by kernel_rfl) (fun _ _ _ h => h) (Or.inl ⟨by rfl, fun w hSw => by (obtain ⟨g0, g1, g2, g3, g4, g5, g6, g7, g8, g9, g10, g11, g12, g13⟩ := hSw; go_simp <;> rfl)⟩) hHeld ?_
      try simp only [Act.put, List.setIfInBounds_toArray, List.set_cons_zero, List.set_cons_succ]
      refine wpAnyH_take (i := 4) (oi := { dst := some 63, op := Op.load 25 (Operand.tmp 4), type := 25, pos := "outright.go:82", after := #[], guard := none }) (v := .agg #[.string n2, .slice a2 l2 c2]) rfl (by kernel_rfl) (by kernel_rfl) (by kernel_rfl) (fun _ _ _ h => h) (Or.inl ⟨by rfl, fun w hSw => by (obtain ⟨g0, g1, g2, g3, g4, g5, g6, g7, g8, g9, g10, g11, g12, g13⟩ := hSw; go_simp <;> rfl)⟩) hHeld ?_
      try simp only [Act.put, List.setIfInBounds_toArray, List.set_cons_zero, List.set_cons_succ]
      clear z0 z1 z2 z3 z4 z5 y0 y1 y2 y3 y4 y5 y6 y7
      refine wpAnyH_ready (rs := [2]) (by kernel_rfl) (by simp) (AllReadyH.cons (o := { dst := some 61, op := Op.call { callee := Callee.value (Operand.func 19), args := #[Operand.tmp 59, Operand.tmp 60, Operand.const (Value.bool false)], argTypes := #[29, 25, 4] }, type := 4, pos := "outright.go:82", after := #[{ on := 0, ground := Ground.data }, { on := 1, ground := Ground.data }], guard := none }) rfl (fun K2 hK2 => ?_) AllReadyH.nil)
      go_simp
      refine (usable_any nm tn a l c true (some ⟨w3.heap.size + 1, 0, none⟩) 1 1 xa xl xc n2 a2 l2 c2 L1 L2 2 _ (HV1.out.below BLD.out) HC1.out (HV2.out.below BLD.out) HC2.out XD.out false).mono ?_
      rintro e wa ⟨rfl, ba⟩
      rw [use_one (has := has) (dl := dl) (k0 := k0), ← HR.out]
      have BLa : Hid (Below w.heap.size w wa) := Lib.hid (BLD.out.trans (ba.mono BLD.out.size))
      have x9a := X9d.out.up ba
      have ua := XU.out.up ba
      have va := XV.out.up ba
      have X9a := Lib.hid x9a
      have XUa := Lib.hid ua
      have XVa := Lib.hid va
      refine hK2.out _ _ ⟨x9a.at 0, x9a.at 1, x9a.at 2, x9a.at 3, x9a.at 4, x9a.at 5, ua.at 0, ua.at 1, ua.at 2, ua.at 3, ua.at 4, ua.at 5, va.c0, va.c1⟩ (fun hHeld2 => ?_)
      clear hK2 K2 ba x9a ua va
      try simp only [Act.put, List.setIfInBounds_toArray, List.set_cons_zero, List.set_cons_succ]
      refine wpAnyH_ready (rs := [5]) (by kernel_rfl) (by simp) (AllReadyH.cons (o := { dst := some 64, op := Op.call { callee := Callee.value (Operand.func 19), args := #[Operand.tmp 62, Operand.tmp 63, Operand.const (Value.bool true)], argTypes := #[29, 25, 4] }, type := 4, pos := "outright.go:82", after := #[{ on := 3, ground := Ground.data }, { on := 4, ground := Ground.data }, { on := 2, ground := Ground.chain }], guard := none }) rfl (fun K5 hK5 => ?_) AllReadyH.nil)
      go_simp
      refine (usable_any nm tn a l c has da dl dc xa xl xc n2 a2 l2 c2 L1 L2 k0 _ (HV1.out.below BLa.out) HC1.out (HV2.out.below BLa.out) HC2.out (HD.out.below BLa.out) true).mono ?_
      rintro e wb ⟨rfl, bb⟩
      rw [← HR.out]
      have BLb : Hid (Below w.heap.size w wb) := Lib.hid (BLa.out.trans (bb.mono BLa.out.size))
      have x9b := X9a.out.up bb
      have ub := XUa.out.up bb
      have vb := XVa.out.up bb
      refine hK5.out _ _ ⟨x9b.at 0, x9b.at 1, x9b.at 2, x9b.at 3, x9b.at 4, x9b.at 5, ub.at 0, ub.at 1, ub.at 2, ub.at 3, ub.at 4, ub.at 5, vb.c0, vb.c1⟩ (fun hHeld5 => ?_)
      clear hK5 K5 bb x9b ub vb hHeld hHeld2
      try simp only [Act.put, List.setIfInBounds_toArray, List.set_cons_zero, List.set_cons_succ]
      refine wpAnyH_take (i := 6) (oi := { dst := some 65, op := Op.binOp BinOp.eql 4 (Operand.tmp 61) (Operand.tmp 64) 4, type := 4, pos := "outright.go:82", after := #[{ on := 2, ground := Ground.data }, { on := 5, ground := Ground.data }], guard := none }) (v := .bool true) rfl (by kernel_rfl) (by kernel_rfl) (by kernel_rfl) (fun _ _ _ h => h) (Or.inl ⟨by rfl, fun w hSw => by (go_simp <;> rfl)⟩) hHeld5 ?_
      try simp only [Act.put, List.setIfInBounds_toArray, List.set_cons_zero, List.set_cons_succ]
      refine wpAnyH_take (i := 7) (oi := { dst := some 6, op := Op.assign (Operand.tmp 65), type := 4, pos := "outright.go:82", after := #[{ on := 6, ground := Ground.data }, { on := 5, ground := Ground.chain }, { on := 0, ground := Ground.phase }, { on := 1, ground := Ground.phase }, { on := 2, ground := Ground.phase }, { on := 3, ground := Ground.phase }, { on := 4, ground := Ground.phase }, { on := 5, ground := Ground.phase }, { on := 6, ground := Ground.phase }], guard := none }) (v := .bool true) rfl (by kernel_rfl) (by kernel_rfl) (by kernel_rfl) (fun _ _ _ h => h) (Or.inl ⟨by rfl, fun w hSw => by (go_simp <;> rfl)⟩) hHeld5 ?_
      try simp only [Act.put, List.setIfInBounds_toArray, List.set_cons_zero, List.set_cons_succ]
      refine wpAnyH_done (by kernel_rfl) ?_ _
      clear hHeld5
      go_wp2_with fail
      go_ret
      exact ⟨rfl, BLb.out⟩
    · have hQ1 := HPQ.out rfl
      subst hQ1
      cases F
      · go_wp2_with fail
        refine (usable_any nm tn a l c has da dl dc xa xl xc n2 a2 l2 c2 L1 L2 k0 _ (HV1.out.below BL3.out) HC1.out (HV2.out.below BL3.out) HC2.out (HD.out.below BL3.out) hf).mono ?_
        rintro e w4 ⟨rfl, b4⟩
        rw [← HQ.out]
        have BL4 : Hid (Below w.heap.size w w4) := Lib.hid (BL3.out.trans (b4.mono BL3.out.size))
        have ud := X1c.out.up b4
        have vd := X2c.out.up b4
        have kd0 : w4.cell? ⟨w.heap.size, 0, none⟩ = some (.string nm) := ud.at 0
        have kd1 : w4.cell? ⟨w.heap.size, 1, none⟩ = some (.string tn) := ud.at 1
        have kd2 : w4.cell? ⟨w.heap.size, 2, none⟩ = some (.slice a l c) := ud.at 2
        have kd3 : w4.cell? ⟨w.heap.size, 3, none⟩ = some (.bool has) := ud.at 3
        have kd4 : w4.cell? ⟨w.heap.size, 4, none⟩ = some (.slice da dl dc) := ud.at 4
        have kd5 : w4.cell? ⟨w.heap.size, 5, none⟩ = some (.slice xa xl xc) := ud.at 5
        have md0 := vd.c0
        have md1 := vd.c1
        have X1d := Lib.hid ud
        have X2d := Lib.hid vd
        clear ud vd
        clear b4
        clear kc0 kc1 kc2 kc3 kc4 kc5 mc0 mc1
        go_wp2_with fail
        obtain ⟨W, hW⟩ : ∃ W, W = ((w4.alloc (.cells #[.string nm, .string tn, .slice a l c, .bool true, .slice (some ⟨w4.heap.size + 1, 0, none⟩) 1 1, .slice xa xl xc] 29)).alloc (.cells #[.int .u8 2, .string ⟨#[]⟩, .string ⟨#[]⟩, .int .i64 1, .int .i64 0] 47)) := ⟨_, rfl⟩
        rw [← hW]
        have hb : Below w4.heap.size w4 W := by rw [hW]; exact ((Below.refl _ _).alloc (Nat.le_refl _) _).alloc (by simp) _
        have x9 : VBox W w4.heap.size #[.string nm, .string tn, .slice a l c, .bool true, .slice (some ⟨w4.heap.size + 1, 0, none⟩) 1 1, .slice xa xl xc] := by
          rw [hW]
          have h : VBox (w4.alloc (.cells #[.string nm, .string tn, .slice a l c, .bool true, .slice (some ⟨w4.heap.size + 1, 0, none⟩) 1 1, .slice xa xl xc] 29)) w4.heap.size #[.string nm, .string tn, .slice a l c, .bool true, .slice (some ⟨w4.heap.size + 1, 0, none⟩) 1 1, .slice xa xl xc] := heap_alloc_new w4 _
          exact h.up ((Below.refl _ _).alloc (Nat.le_refl _) _)
        have xd : W.cell? ⟨w4.heap.size + 1, 0, none⟩ = some (.int .u8 2) := by rw [hW]; simp
        have hs : w4.heap.size + 1 < W.heap.size := by rw [hW]; simp
        have u := X1d.out.up hb
        have v := X2d.out.up hb
        have BLW : Hid (Below w.heap.size w W) := Lib.hid (BL4.out.trans (hb.mono BL4.out.size))
        have XD : Hid (DView W.drew (some ⟨w4.heap.size + 1, 0, none⟩) 1 2) := Lib.hid (fun _ => ⟨w4.heap.size + 1, 0, rfl, hs, xd⟩)
        have XU : Hid (VBox W.drew w.heap.size #[.string nm, .string tn, .slice a l c, .bool has, .slice da dl dc, .slice xa xl xc]) := Lib.hid u
        have XV : Hid (Box W.drew (w.heap.size + 1) n2 a2 l2 c2) := Lib.hid v
        have X9d : Hid (VBox W.drew w4.heap.size #[.string nm, .string tn, .slice a l c, .bool true, .slice (some ⟨w4.heap.size + 1, 0, none⟩) 1 1, .slice xa xl xc]) := Lib.hid x9
        clear hW
        clear kd0 kd1 kd2 kd3 kd4 kd5 md0 md1
        have z0 : W.cell? ⟨w4.heap.size, 0, none⟩ = some (.string nm) := x9.at 0
        have z1 : W.cell? ⟨w4.heap.size, 1, none⟩ = some (.string tn) := x9.at 1
        have z2 : W.cell? ⟨w4.heap.size, 2, none⟩ = some (.slice a l c) := x9.at 2
        have z3 : W.cell? ⟨w4.heap.size, 3, none⟩ = some (.bool true) := x9.at 3
        have z4 : W.cell? ⟨w4.heap.size, 4, none⟩ = some (.slice (some ⟨w4.heap.size + 1, 0, none⟩) 1 1) := x9.at 4
        have z5 : W.cell? ⟨w4.heap.size, 5, none⟩ = some (.slice xa xl xc) := x9.at 5
        have y0 : W.cell? ⟨w.heap.size, 0, none⟩ = some (.string nm) := u.at 0
        have y1 : W.cell? ⟨w.heap.size, 1, none⟩ = some (.string tn) := u.at 1
        have y2 : W.cell? ⟨w.heap.size, 2, none⟩ = some (.slice a l c) := u.at 2
        have y3 : W.cell? ⟨w.heap.size, 3, none⟩ = some (.bool has) := u.at 3
        have y4 : W.cell? ⟨w.heap.size, 4, none⟩ = some (.slice da dl dc) := u.at 4
        have y5 : W.cell? ⟨w.heap.size, 5, none⟩ = some (.slice xa xl xc) := u.at 5
        have y6 := v.c0
        have y7 := v.c1
        clear hb x9 xd hs u v
        have BLD : Hid (Below w.heap.size w W.drew) := Lib.hid BLW.out.drew
        obtain ⟨R, hR⟩ : ∃ R, R = usable tn n2 L1 L2 has dl k0 true := ⟨_, rfl⟩
        have HR := Lib.hid hR
        clear hR
        refine wp_region_held_drew (S := (fun W' => W'.cell? ⟨w4.heap.size, 0, none⟩ = some (.string nm) ∧ W'.cell? ⟨w4.heap.size, 1, none⟩ = some (.string tn) ∧ W'.cell? ⟨w4.heap.size, 2, none⟩ = some (.slice a l c) ∧ W'.cell? ⟨w4.heap.size, 3, none⟩ = some (.bool true) ∧ W'.cell? ⟨w4.heap.size, 4, none⟩ = some (.slice (some ⟨w4.heap.size + 1, 0, none⟩) 1 1) ∧ W'.cell? ⟨w4.heap.size, 5, none⟩ = some (.slice xa xl xc) ∧ W'.cell? ⟨w.heap.size, 0, none⟩ = some (.string nm) ∧ W'.cell? ⟨w.heap.size, 1, none⟩ = some (.string tn) ∧ W'.cell? ⟨w.heap.size, 2, none⟩ = some (.slice a l c) ∧ W'.cell? ⟨w.heap.size, 3, none⟩ = some (.bool has) ∧ W'.cell? ⟨w.heap.size, 4, none⟩ = some (.slice da dl dc) ∧ W'.cell? ⟨w.heap.size, 5, none⟩ = some (.slice xa xl xc) ∧ W'.cell? ⟨w.heap.size + 1, 0, none⟩ = some (.string n2) ∧ W'.cell? ⟨w.heap.size + 1, 1, none⟩ = some (.slice a2 l2 c2))) (by kernel_rfl) ⟨z0, z1, z2, z3, z4, z5, y0, y1, y2, y3, y4, y5, y6, y7⟩ (fun hHeld => ?_)
        refine wpAnyH_take (i := 0) (oi := { dst := some 59, op := Op.load 29 (Operand.tmp 9), type := 29, pos := "outright.go:82", after := #[], guard := none }) (v := .agg #[.string nm, .string tn, .slice a l c, .bool true, .slice (some ⟨w4.heap.size + 1, 0, none⟩) 1 1, .slice xa xl xc]) rfl (by kernel_rfl) (by kernel_rfl) (by kernel_rfl) (fun _ _ _ h => h) (Or.inl ⟨by rfl, fun w hSw => by (obtain ⟨g0, g1, g2, g3, g4, g5, g6, g7, g8, g9, g10, g11, g12, g13⟩ := hSw; go_simp <;> rfl)⟩) hHeld ?_
        try simp only [Act.put, List.setIfInBounds_toArray, List.set_cons_zero, List.set_cons_succ]
        refine wpAnyH_take (i := 1) (oi := { dst := some 60, op := Op.load 25 (Operand.tmp 4), type := 25, pos := "outright.go:82", after := #[], guard := none }) (v := .agg #[.string n2, .slice a2 l2 c2]) rfl (by kernel_rfl) (by kernel_rfl) (by kernel_rfl) (fun _ _ _ h => h) (Or.inl ⟨by rfl, fun w hSw => by (obtain ⟨g0, g1, g2, g3, g4, g5, g6, g7, g8, g9, g10, g11, g12, g13⟩ := hSw; go_simp <;> rfl)⟩) hHeld ?_
        try simp only [Act.put, List.setIfInBounds_toArray, List.set_cons_zero, List.set_cons_succ]
        refine wpAnyH_take (i := 3) (oi := { dst := some 62, op := Op.load 29 (Operand.tmp 3), type := 29, pos := "outright.go:82", after := #[], guard := none }) (v := .agg #[.string nm, .string tn, .slice a l c, .bool has, .slice da dl dc, .slice xa xl xc]) rfl (by kernel_rfl) (by kernel_rfl) (by kernel_rfl) (fun _ _ _ h => h) (Or.inl ⟨by rfl, fun w hSw => by (obtain ⟨g0, g1, g2, g3, g4, g5, g6, g7, g8, g9, g10, g11, g12, g13⟩ := hSw; go_simp <;> rfl)⟩) hHeld ?_
        try simp only [Act.put, List.setIfInBounds_toArray, List.set_cons_zero, List.set_cons_succ]
        refine wpAnyH_take (i := 4) (oi := { dst := some 63, op := Op.load 25 (Operand.tmp 4), type := 25, pos := "outright.go:82", after := #[], guard := none }) (v := .agg #[.string n2, .slice a2 l2 c2]) rfl (by kernel_rfl) (by kernel_rfl) (by kernel_rfl) (fun _ _ _ h => h) (Or.inl ⟨by rfl, fun w hSw => by (obtain ⟨g0, g1, g2, g3, g4, g5, g6, g7, g8, g9, g10, g11, g12, g13⟩ := hSw; go_simp <;> rfl)⟩) hHeld ?_
        try simp only [Act.put, List.setIfInBounds_toArray, List.set_cons_zero, List.set_cons_succ]
        clear z0 z1 z2 z3 z4 z5 y0 y1 y2 y3 y4 y5 y6 y7
        refine wpAnyH_ready (rs := [2]) (by kernel_rfl) (by simp) (AllReadyH.cons (o := { dst := some 61, op := Op.call { callee := Callee.value (Operand.func 19), args := #[Operand.tmp 59, Operand.tmp 60, Operand.const (Value.bool false)], argTypes := #[29, 25, 4] }, type := 4, pos := "outright.go:82", after := #[{ on := 0, ground := Ground.data }, { on := 1, ground := Ground.data }], guard := none }) rfl (fun K2 hK2 => ?_) AllReadyH.nil)
        go_simp
        refine (usable_any nm tn a l c true (some ⟨w4.heap.size + 1, 0, none⟩) 1 1 xa xl xc n2 a2 l2 c2 L1 L2 2 _ (HV1.out.below BLD.out) HC1.out (HV2.out.below BLD.out) HC2.out XD.out false).mono ?_
        rintro e wa ⟨rfl, ba⟩
        rw [use_one (has := has) (dl := dl) (k0 := k0), ← HR.out]
        have BLa : Hid (Below w.heap.size w wa) := Lib.hid (BLD.out.trans (ba.mono BLD.out.size))
        have x9a := X9d.out.up ba
        have ua := XU.out.up ba
        have va := XV.out.up ba
        have X9a := Lib.hid x9a
        have XUa := Lib.hid ua
        have XVa := Lib.hid va
        refine hK2.out _ _ ⟨x9a.at 0, x9a.at 1, x9a.at 2, x9a.at 3, x9a.at 4, x9a.at 5, ua.at 0, ua.at 1, ua.at 2, ua.at 3, ua.at 4, ua.at 5, va.c0, va.c1⟩ (fun hHeld2 => ?_)
        clear hK2 K2 ba x9a ua va
        try simp only [Act.put, List.setIfInBounds_toArray, List.set_cons_zero, List.set_cons_succ]
        refine wpAnyH_ready (rs := [5]) (by kernel_rfl) (by simp) (AllReadyH.cons (o := { dst := some 64, op := Op.call { callee := Callee.value (Operand.func 19), args := #[Operand.tmp 62, Operand.tmp 63, Operand.const (Value.bool true)], argTypes := #[29, 25, 4] }, type := 4, pos := "outright.go:82", after := #[{ on := 3, ground := Ground.data }, { on := 4, ground := Ground.data }, { on := 2, ground := Ground.chain }], guard := none }) rfl (fun K5 hK5 => ?_) AllReadyH.nil)
        go_simp
        refine (usable_any nm tn a l c has da dl dc xa xl xc n2 a2 l2 c2 L1 L2 k0 _ (HV1.out.below BLa.out) HC1.out (HV2.out.below BLa.out) HC2.out (HD.out.below BLa.out) true).mono ?_
        rintro e wb ⟨rfl, bb⟩
        rw [← HR.out]
        have BLb : Hid (Below w.heap.size w wb) := Lib.hid (BLa.out.trans (bb.mono BLa.out.size))
        have x9b := X9a.out.up bb
        have ub := XUa.out.up bb
        have vb := XVa.out.up bb
        refine hK5.out _ _ ⟨x9b.at 0, x9b.at 1, x9b.at 2, x9b.at 3, x9b.at 4, x9b.at 5, ub.at 0, ub.at 1, ub.at 2, ub.at 3, ub.at 4, ub.at 5, vb.c0, vb.c1⟩ (fun hHeld5 => ?_)
        clear hK5 K5 bb x9b ub vb hHeld hHeld2
        try simp only [Act.put, List.setIfInBounds_toArray, List.set_cons_zero, List.set_cons_succ]
        refine wpAnyH_take (i := 6) (oi := { dst := some 65, op := Op.binOp BinOp.eql 4 (Operand.tmp 61) (Operand.tmp 64) 4, type := 4, pos := "outright.go:82", after := #[{ on := 2, ground := Ground.data }, { on := 5, ground := Ground.data }], guard := none }) (v := .bool true) rfl (by kernel_rfl) (by kernel_rfl) (by kernel_rfl) (fun _ _ _ h => h) (Or.inl ⟨by rfl, fun w hSw => by (go_simp <;> rfl)⟩) hHeld5 ?_
        try simp only [Act.put, List.setIfInBounds_toArray, List.set_cons_zero, List.set_cons_succ]
        refine wpAnyH_take (i := 7) (oi := { dst := some 6, op := Op.assign (Operand.tmp 65), type := 4, pos := "outright.go:82", after := #[{ on := 6, ground := Ground.data }, { on := 5, ground := Ground.chain }, { on := 0, ground := Ground.phase }, { on := 1, ground := Ground.phase }, { on := 2, ground := Ground.phase }, { on := 3, ground := Ground.phase }, { on := 4, ground := Ground.phase }, { on := 5, ground := Ground.phase }, { on := 6, ground := Ground.phase }], guard := none }) (v := .bool true) rfl (by kernel_rfl) (by kernel_rfl) (by kernel_rfl) (fun _ _ _ h => h) (Or.inl ⟨by rfl, fun w hSw => by (go_simp <;> rfl)⟩) hHeld5 ?_
        try simp only [Act.put, List.setIfInBounds_toArray, List.set_cons_zero, List.set_cons_succ]
        refine wpAnyH_done (by kernel_rfl) ?_ _
        clear hHeld5
        go_wp2_with fail
        go_ret
        exact ⟨rfl, BLb.out⟩
      · go_wp2_with fail
        refine (usable_any nm tn a l c has da dl dc xa xl xc n2 a2 l2 c2 L1 L2 k0 _ (HV1.out.below BL3.out) HC1.out (HV2.out.below BL3.out) HC2.out (HD.out.below BL3.out) hf).mono ?_
        rintro e w4 ⟨rfl, b4⟩
        rw [← HQ.out]
        have BL4 : Hid (Below w.heap.size w w4) := Lib.hid (BL3.out.trans (b4.mono BL3.out.size))
        have ud := X1c.out.up b4
        have vd := X2c.out.up b4
        have kd0 : w4.cell? ⟨w.heap.size, 0, none⟩ = some (.string nm) := ud.at 0
        have kd1 : w4.cell? ⟨w.heap.size, 1, none⟩ = some (.string tn) := ud.at 1
        have kd2 : w4.cell? ⟨w.heap.size, 2, none⟩ = some (.slice a l c) := ud.at 2
        have kd3 : w4.cell? ⟨w.heap.size, 3, none⟩ = some (.bool has) := ud.at 3
        have kd4 : w4.cell? ⟨w.heap.size, 4, none⟩ = some (.slice da dl dc) := ud.at 4
        have kd5 : w4.cell? ⟨w.heap.size, 5, none⟩ = some (.slice xa xl xc) := ud.at 5
        have md0 := vd.c0
        have md1 := vd.c1
        have X1d := Lib.hid ud
        have X2d := Lib.hid vd
        clear ud vd
        clear b4
        clear kc0 kc1 kc2 kc3 kc4 kc5 mc0 mc1
        go_wp2_with fail
        obtain ⟨W, hW⟩ : ∃ W, W = ((w4.alloc (.cells #[.string nm, .string tn, .slice a l c, .bool true, .slice (some ⟨w4.heap.size + 1, 0, none⟩) 1 1, .slice xa xl xc] 29)).alloc (.cells #[.int .u8 2, .string ⟨#[]⟩, .string ⟨#[]⟩, .int .i64 1, .int .i64 0] 47)) := ⟨_, rfl⟩
        rw [← hW]
        have hb : Below w4.heap.size w4 W := by rw [hW]; exact ((Below.refl _ _).alloc (Nat.le_refl _) _).alloc (by simp) _
        have x9 : VBox W w4.heap.size #[.string nm, .string tn, .slice a l c, .bool true, .slice (some ⟨w4.heap.size + 1, 0, none⟩) 1 1, .slice xa xl xc] := by
          rw [hW]
          have h : VBox (w4.alloc (.cells #[.string nm, .string tn, .slice a l c, .bool true, .slice (some ⟨w4.heap.size + 1, 0, none⟩) 1 1, .slice xa xl xc] 29)) w4.heap.size #[.string nm, .string tn, .slice a l c, .bool true, .slice (some ⟨w4.heap.size + 1, 0, none⟩) 1 1, .slice xa xl xc] := heap_alloc_new w4 _
          exact h.up ((Below.refl _ _).alloc (Nat.le_refl _) _)
        have xd : W.cell? ⟨w4.heap.size + 1, 0, none⟩ = some (.int .u8 2) := by rw [hW]; simp
        have hs : w4.heap.size + 1 < W.heap.size := by rw [hW]; simp
        have u := X1d.out.up hb
        have v := X2d.out.up hb
        have BLW : Hid (Below w.heap.size w W) := Lib.hid (BL4.out.trans (hb.mono BL4.out.size))
        have XD : Hid (DView W.drew (some ⟨w4.heap.size + 1, 0, none⟩) 1 2) := Lib.hid (fun _ => ⟨w4.heap.size + 1, 0, rfl, hs, xd⟩)
        have XU : Hid (VBox W.drew w.heap.size #[.string nm, .string tn, .slice a l c, .bool has, .slice da dl dc, .slice xa xl xc]) := Lib.hid u
        have XV : Hid (Box W.drew (w.heap.size + 1) n2 a2 l2 c2) := Lib.hid v
        have X9d : Hid (VBox W.drew w4.heap.size #[.string nm, .string tn, .slice a l c, .bool true, .slice (some ⟨w4.heap.size + 1, 0, none⟩) 1 1, .slice xa xl xc]) := Lib.hid x9
        clear hW
        clear kd0 kd1 kd2 kd3 kd4 kd5 md0 md1
        have z0 : W.cell? ⟨w4.heap.size, 0, none⟩ = some (.string nm) := x9.at 0
        have z1 : W.cell? ⟨w4.heap.size, 1, none⟩ = some (.string tn) := x9.at 1
        have z2 : W.cell? ⟨w4.heap.size, 2, none⟩ = some (.slice a l c) := x9.at 2
        have z3 : W.cell? ⟨w4.heap.size, 3, none⟩ = some (.bool true) := x9.at 3
        have z4 : W.cell? ⟨w4.heap.size, 4, none⟩ = some (.slice (some ⟨w4.heap.size + 1, 0, none⟩) 1 1) := x9.at 4
        have z5 : W.cell? ⟨w4.heap.size, 5, none⟩ = some (.slice xa xl xc) := x9.at 5
        have y0 : W.cell? ⟨w.heap.size, 0, none⟩ = some (.string nm) := u.at 0
        have y1 : W.cell? ⟨w.heap.size, 1, none⟩ = some (.string tn) := u.at 1
        have y2 : W.cell? ⟨w.heap.size, 2, none⟩ = some (.slice a l c) := u.at 2
        have y3 : W.cell? ⟨w.heap.size, 3, none⟩ = some (.bool has) := u.at 3
        have y4 : W.cell? ⟨w.heap.size, 4, none⟩ = some (.slice da dl dc) := u.at 4
        have y5 : W.cell? ⟨w.heap.size, 5, none⟩ = some (.slice xa xl xc) := u.at 5
        have y6 := v.c0
        have y7 := v.c1
        clear hb x9 xd hs u v
        have BLD : Hid (Below w.heap.size w W.drew) := Lib.hid BLW.out.drew
        obtain ⟨R, hR⟩ : ∃ R, R = usable tn n2 L1 L2 has dl k0 true := ⟨_, rfl⟩
        have HR := Lib.hid hR
        clear hR
        refine wp_region_held_drew (S := (fun W' => W'.cell? ⟨w4.heap.size, 0, none⟩ = some (.string nm) ∧ W'.cell? ⟨w4.heap.size, 1, none⟩ = some (.string tn) ∧ W'.cell? ⟨w4.heap.size, 2, none⟩ = some (.slice a l c) ∧ W'.cell? ⟨w4.heap.size, 3, none⟩ = some (.bool true) ∧ W'.cell? ⟨w4.heap.size, 4, none⟩ = some (.slice (some ⟨w4.heap.size + 1, 0, none⟩) 1 1) ∧ W'.cell? ⟨w4.heap.size, 5, none⟩ = some (.slice xa xl xc) ∧ W'.cell? ⟨w.heap.size, 0, none⟩ = some (.string nm) ∧ W'.cell? ⟨w.heap.size, 1, none⟩ = some (.string tn) ∧ W'.cell? ⟨w.heap.size, 2, none⟩ = some (.slice a l c) ∧ W'.cell? ⟨w.heap.size, 3, none⟩ = some (.bool has) ∧ W'.cell? ⟨w.heap.size, 4, none⟩ = some (.slice da dl dc) ∧ W'.cell? ⟨w.heap.size, 5, none⟩ = some (.slice xa xl xc) ∧ W'.cell? ⟨w.heap.size + 1, 0, none⟩ = some (.string n2) ∧ W'.cell? ⟨w.heap.size + 1, 1, none⟩ = some (.slice a2 l2 c2))) (by kernel_rfl) ⟨z0, z1, z2, z3, z4, z5, y0, y1, y2, y3, y4, y5, y6, y7⟩ (fun hHeld => ?_)
        refine wpAnyH_take (i := 0) (oi := { dst := some 59, op := Op.load 29 (Operand.tmp 9), type := 29, pos := "outright.go:82", after := #[], guard := none }) (v := .agg #[.string nm, .string tn, .slice a l c, .bool true, .slice (some ⟨w4.heap.size + 1, 0, none⟩) 1 1, .slice xa xl xc]) rfl (by kernel_rfl) (by kernel_rfl) (by kernel_rfl) (fun _ _ _ h => h) (Or.inl ⟨by rfl, fun w hSw => by (obtain ⟨g0, g1, g2, g3, g4, g5, g6, g7, g8, g9, g10, g11, g12, g13⟩ := hSw; go_simp <;> rfl)⟩) hHeld ?_
        try simp only [Act.put, List.setIfInBounds_toArray, List.set_cons_zero, List.set_cons_succ]
        refine wpAnyH_take (i := 1) (oi := { dst := some 60, op := Op.load 25 (Operand.tmp 4), type := 25, pos := "outright.go:82", after := #[], guard := none }) (v := .agg #[.string n2, .slice a2 l2 c2]) rfl (by kernel_rfl) (by kernel_rfl) (by kernel_rfl) (fun _ _ _ h => h) (Or.inl ⟨by rfl, fun w hSw => by (obtain ⟨g0, g1, g2, g3, g4, g5, g6, g7, g8, g9, g10, g11, g12, g13⟩ := hSw; go_simp <;> rfl)⟩) hHeld ?_
        try simp only [Act.put, List.setIfInBounds_toArray, List.set_cons_zero, List.set_cons_succ]
        refine wpAnyH_take (i := 3) (oi := { dst := some 62, op := Op.load 29 (Operand.tmp 3), type := 29, pos := "outright.go:82", after := #[], guard := none }) (v := .agg #[.string nm, .string tn, .slice a l c, .bool has, .slice da dl dc, .slice xa xl xc]) rfl (by kernel_rfl) (by kernel_rfl) (by kernel_rfl) (fun _ _ _ h => h) (Or.inl ⟨by rfl, fun w hSw => by (obtain ⟨g0, g1, g2, g3, g4, g5, g6, g7, g8, g9, g10, g11, g12, g13⟩ := hSw; go_simp <;> rfl)⟩) hHeld ?_
        try simp only [Act.put, List.setIfInBounds_toArray, List.set_cons_zero, List.set_cons_succ]
        refine wpAnyH_take (i := 4) (oi := { dst := some 63, op := Op.load 25 (Operand.tmp 4), type := 25, pos := "outright.go:82", after := #[], guard := none }) (v := .agg #[.string n2, .slice a2 l2 c2]) rfl (by kernel_rfl) (by kernel_rfl) (by kernel_rfl) (fun _ _ _ h => h) (Or.inl ⟨by rfl, fun w hSw => by (obtain ⟨g0, g1, g2, g3, g4, g5, g6, g7, g8, g9, g10, g11, g12, g13⟩ := hSw; go_simp <;> rfl)⟩) hHeld ?_
        try simp only [Act.put, List.setIfInBounds_toArray, List.set_cons_zero, List.set_cons_succ]
        clear z0 z1 z2 z3 z4 z5 y0 y1 y2 y3 y4 y5 y6 y7
        refine wpAnyH_ready (rs := [2]) (by kernel_rfl) (by simp) (AllReadyH.cons (o := { dst := some 61, op := Op.call { callee := Callee.value (Operand.func 19), args := #[Operand.tmp 59, Operand.tmp 60, Operand.const (Value.bool false)], argTypes := #[29, 25, 4] }, type := 4, pos := "outright.go:82", after := #[{ on := 0, ground := Ground.data }, { on := 1, ground := Ground.data }], guard := none }) rfl (fun K2 hK2 => ?_) AllReadyH.nil)
        go_simp
        refine (usable_any nm tn a l c true (some ⟨w4.heap.size + 1, 0, none⟩) 1 1 xa xl xc n2 a2 l2 c2 L1 L2 2 _ (HV1.out.below BLD.out) HC1.out (HV2.out.below BLD.out) HC2.out XD.out false).mono ?_
        rintro e wa ⟨rfl, ba⟩
        rw [use_one (has := has) (dl := dl) (k0 := k0), ← HR.out]
        have BLa : Hid (Below w.heap.size w wa) := Lib.hid (BLD.out.trans (ba.mono BLD.out.size))
        have x9a := X9d.out.up ba
        have ua := XU.out.up ba
        have va := XV.out.up ba
        have X9a := Lib.hid x9a
        have XUa := Lib.hid ua
        have XVa := Lib.hid va
        refine hK2.out _ _ ⟨x9a.at 0, x9a.at 1, x9a.at 2, x9a.at 3, x9a.at 4, x9a.at 5, ua.at 0, ua.at 1, ua.at 2, ua.at 3, ua.at 4, ua.at 5, va.c0, va.c1⟩ (fun hHeld2 => ?_)
        clear hK2 K2 ba x9a ua va
        try simp only [Act.put, List.setIfInBounds_toArray, List.set_cons_zero, List.set_cons_succ]
        refine wpAnyH_ready (rs := [5]) (by kernel_rfl) (by simp) (AllReadyH.cons (o := { dst := some 64, op := Op.call { callee := Callee.value (Operand.func 19), args := #[Operand.tmp 62, Operand.tmp 63, Operand.const (Value.bool true)], argTypes := #[29, 25, 4] }, type := 4, pos := "outright.go:82", after := #[{ on := 3, ground := Ground.data }, { on := 4, ground := Ground.data }, { on := 2, ground := Ground.chain }], guard := none }) rfl (fun K5 hK5 => ?_) AllReadyH.nil)
        go_simp
        refine (usable_any nm tn a l c has da dl dc xa xl xc n2 a2 l2 c2 L1 L2 k0 _ (HV1.out.below BLa.out) HC1.out (HV2.out.below BLa.out) HC2.out (HD.out.below BLa.out) true).mono ?_
        rintro e wb ⟨rfl, bb⟩
        rw [← HR.out]
        have BLb : Hid (Below w.heap.size w wb) := Lib.hid (BLa.out.trans (bb.mono BLa.out.size))
        have x9b := X9a.out.up bb
        have ub := XUa.out.up bb
        have vb := XVa.out.up bb
        refine hK5.out _ _ ⟨x9b.at 0, x9b.at 1, x9b.at 2, x9b.at 3, x9b.at 4, x9b.at 5, ub.at 0, ub.at 1, ub.at 2, ub.at 3, ub.at 4, ub.at 5, vb.c0, vb.c1⟩ (fun hHeld5 => ?_)
        clear hK5 K5 bb x9b ub vb hHeld hHeld2
        try simp only [Act.put, List.setIfInBounds_toArray, List.set_cons_zero, List.set_cons_succ]
        refine wpAnyH_take (i := 6) (oi := { dst := some 65, op := Op.binOp BinOp.eql 4 (Operand.tmp 61) (Operand.tmp 64) 4, type := 4, pos := "outright.go:82", after := #[{ on := 2, ground := Ground.data }, { on := 5, ground := Ground.data }], guard := none }) (v := .bool true) rfl (by kernel_rfl) (by kernel_rfl) (by kernel_rfl) (fun _ _ _ h => h) (Or.inl ⟨by rfl, fun w hSw => by (go_simp <;> rfl)⟩) hHeld5 ?_
        try simp only [Act.put, List.setIfInBounds_toArray, List.set_cons_zero, List.set_cons_succ]
        refine wpAnyH_take (i := 7) (oi := { dst := some 6, op := Op.assign (Operand.tmp 65), type := 4, pos := "outright.go:82", after := #[{ on := 6, ground := Ground.data }, { on := 5, ground := Ground.chain }, { on := 0, ground := Ground.phase }, { on := 1, ground := Ground.phase }, { on := 2, ground := Ground.phase }, { on := 3, ground := Ground.phase }, { on := 4, ground := Ground.phase }, { on := 5, ground := Ground.phase }, { on := 6, ground := Ground.phase }], guard := none }) (v := .bool true) rfl (by kernel_rfl) (by kernel_rfl) (by kernel_rfl) (fun _ _ _ h => h) (Or.inl ⟨by rfl, fun w hSw => by (go_simp <;> rfl)⟩) hHeld5 ?_
        try simp only [Act.put, List.setIfInBounds_toArray, List.set_cons_zero, List.set_cons_succ]
        refine wpAnyH_done (by kernel_rfl) ?_ _
        clear hHeld5
        go_wp2_with fail
        go_ret
        exact ⟨rfl, BLb.out⟩
end Go.Proofs.Ytfphejndbnmfeab

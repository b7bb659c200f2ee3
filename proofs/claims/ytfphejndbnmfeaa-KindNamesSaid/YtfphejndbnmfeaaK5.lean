import Derived.Test.YtfphejndbnmfeaaK4
import Derived.Deep.RegionHeld3
namespace Go.Proofs.Ytfphejndbnmfeaa
open Go.RowKit

/-- A variable of an input's type lies in a block of its own. -/
def VBox (w : World) (b : Nat) (cs : Array Value) : Prop := w.heap[b]? = some (.cells cs 39)
theorem VBox.lt {w : World} {b : Nat} {cs : Array Value} (h : VBox w b cs) : b < w.heap.size := (Array.getElem?_eq_some_iff.1 h).1
theorem VBox.up {w w' : World} {b : Nat} {cs : Array Value} (h : VBox w b cs) (hb : Below w.heap.size w w') : VBox w' b cs := by
  unfold VBox at h ⊢; rw [hb.block b (Array.getElem?_eq_some_iff.1 h).1]; exact h
theorem VBox.at {w : World} {b : Nat} {cs : Array Value} (h : VBox w b cs) (i : Nat) : w.cell? ⟨b, i, none⟩ = cs[i]? := by
  unfold VBox at h; simp [World.cell?, h]
def usable (tn n2 : ByteArray) (L1 L2 : List Int) (has : Bool) (dl : Nat) (k0 : Int) (hf : Bool) : Bool :=
  if non L2 && !non L1 then (hf || hasD has dl k0) && fits tn L1 n2 (bareL L2) else fits tn L1 n2 L2
set_option maxRecDepth 10000 in
set_option maxHeartbeats 1000000 in
theorem usable_else (nm tn : ByteArray) (a : Option Addr) (l c : Nat) (has : Bool) (da : Option Addr) (dl dc : Nat) (xa : Option Addr) (xl xc : Nat) (n2 : ByteArray) (a2 : Option Addr) (l2 c2 : Nat) (L1 L2 : List Int) (k0 : Int) (w : World) (hv1 : View w a l L1) (hc1 : l ≤ c) (hv2 : View w a2 l2 L2) (hc2 : l2 ≤ c2) (hd : DView w da dl k0) (hf : Bool) (hn : (non L2 && !non L1) = false) :
    Calls Try.prog 6 #[inV nm tn a l c has da dl dc xa xl xc, refV n2 a2 l2 c2, .bool hf] w fun e w' => e = .returned (.bool (usable tn n2 L1 L2 has dl k0 hf)) ∧ Below w.heap.size w w' := by
  have hx1 : VBox ((w.alloc (.cells #[.string nm, .string tn, .slice a l c, .bool has, .slice da dl dc, .slice xa xl xc] 39)).alloc (.cells #[.string n2, .slice a2 l2 c2] 36)) w.heap.size #[.string nm, .string tn, .slice a l c, .bool has, .slice da dl dc, .slice xa xl xc] := by
    have h : VBox (w.alloc (.cells #[.string nm, .string tn, .slice a l c, .bool has, .slice da dl dc, .slice xa xl xc] 39)) w.heap.size #[.string nm, .string tn, .slice a l c, .bool has, .slice da dl dc, .slice xa xl xc] := heap_alloc_new w _
    exact h.up ((Below.refl _ _).alloc (Nat.le_refl _) _)
  have hx2 : Box ((w.alloc (.cells #[.string nm, .string tn, .slice a l c, .bool has, .slice da dl dc, .slice xa xl xc] 39)).alloc (.cells #[.string n2, .slice a2 l2 c2] 36)) (w.heap.size + 1) n2 a2 l2 c2 := by
    have h := heap_alloc_new (w.alloc (.cells #[.string nm, .string tn, .slice a l c, .bool has, .slice da dl dc, .slice xa xl xc] 39)) (.cells #[.string n2, .slice a2 l2 c2] 36)
    unfold Box; simpa using h
  have hbl : Below w.heap.size w ((w.alloc (.cells #[.string nm, .string tn, .slice a l c, .bool has, .slice da dl dc, .slice xa xl xc] 39)).alloc (.cells #[.string n2, .slice a2 l2 c2] 36)) := ((Below.refl _ w).alloc (Nat.le_refl _) _).alloc (by simp) _
  have X10 := Lib.hid hx1
  have X20 := Lib.hid hx2
  have BL0 := Lib.hid hbl
  have HV1 := Lib.hid hv1
  have HV2 := Lib.hid hv2
  have HC1 := Lib.hid hc1
  have HC2 := Lib.hid hc2
  have HD := Lib.hid hd
  clear hx1 hx2 hbl hv1 hv2 hc1 hc2 hd
  have HU : Hid (usable tn n2 L1 L2 has dl k0 hf = fits tn L1 n2 L2) := Lib.hid (by unfold usable; rw [hn]; rfl)
  unfold inV refV
  cases h2 : non L2
  · have HN := Lib.hid h2
    clear hn h2
    go_enter Try.func6, Try.ntmps6
    go_wp2_with fail
    refine (isNon_any n2 a2 l2 c2 L2 _ (HV2.out.below BL0.out)).mono ?_
    rintro e w1 ⟨rfl, b1⟩
    rw [HN.out]
    have BL1 : Hid (Below w.heap.size w w1) := Lib.hid (BL0.out.trans (b1.mono BL0.out.size))
    have ua := X10.out.up b1
    have va := X20.out.up b1
    have ka0 : w1.cell? ⟨w.heap.size, 0, none⟩ = some (.string nm) := ua.at 0
    have ka1 : w1.cell? ⟨w.heap.size, 1, none⟩ = some (.string tn) := ua.at 1
    have ka2 : w1.cell? ⟨w.heap.size, 2, none⟩ = some (.slice a l c) := ua.at 2
    have ka3 : w1.cell? ⟨w.heap.size, 3, none⟩ = some (.bool has) := ua.at 3
    have ka4 : w1.cell? ⟨w.heap.size, 4, none⟩ = some (.slice da dl dc) := ua.at 4
    have ka5 : w1.cell? ⟨w.heap.size, 5, none⟩ = some (.slice xa xl xc) := ua.at 5
    have ma0 := va.c0
    have ma1 := va.c1
    have X1a := Lib.hid ua
    have X2a := Lib.hid va
    clear ua va
    clear b1
    go_wp2_with fail
    refine (fits_any tn n2 a a2 l c l2 c2 L1 L2 _ (HV1.out.below BL1.out) (HV2.out.below BL1.out) HC1.out HC2.out).mono ?_
    rintro e wz ⟨rfl, bz⟩
    have BLz : Hid (Below w.heap.size w wz) := Lib.hid (BL1.out.trans (bz.mono BL1.out.size))
    clear bz
    go_wp2_with fail
    go_ret
    exact ⟨ret_bool HU.out.symm, BLz.out⟩
  · have HN := Lib.hid h2
    have HM : Hid (non L1 = true) := Lib.hid (by rw [h2] at hn; simpa using hn)
    clear hn h2
    go_enter Try.func6, Try.ntmps6
    go_wp2_with fail
    refine (isNon_any n2 a2 l2 c2 L2 _ (HV2.out.below BL0.out)).mono ?_
    rintro e w1 ⟨rfl, b1⟩
    rw [HN.out]
    have BL1 : Hid (Below w.heap.size w w1) := Lib.hid (BL0.out.trans (b1.mono BL0.out.size))
    have ua := X10.out.up b1
    have va := X20.out.up b1
    have ka0 : w1.cell? ⟨w.heap.size, 0, none⟩ = some (.string nm) := ua.at 0
    have ka1 : w1.cell? ⟨w.heap.size, 1, none⟩ = some (.string tn) := ua.at 1
    have ka2 : w1.cell? ⟨w.heap.size, 2, none⟩ = some (.slice a l c) := ua.at 2
    have ka3 : w1.cell? ⟨w.heap.size, 3, none⟩ = some (.bool has) := ua.at 3
    have ka4 : w1.cell? ⟨w.heap.size, 4, none⟩ = some (.slice da dl dc) := ua.at 4
    have ka5 : w1.cell? ⟨w.heap.size, 5, none⟩ = some (.slice xa xl xc) := ua.at 5
    have ma0 := va.c0
    have ma1 := va.c1
    have X1a := Lib.hid ua
    have X2a := Lib.hid va
    clear ua va
    clear b1
    go_wp2_with fail
    refine (isNon_any tn a l c L1 _ (HV1.out.below BL1.out)).mono ?_
    rintro e w2 ⟨rfl, b2⟩
    rw [HM.out]
    have BL2 : Hid (Below w.heap.size w w2) := Lib.hid (BL1.out.trans (b2.mono BL1.out.size))
    have ub := X1a.out.up b2
    have vb := X2a.out.up b2
    have kb0 : w2.cell? ⟨w.heap.size, 0, none⟩ = some (.string nm) := ub.at 0
    have kb1 : w2.cell? ⟨w.heap.size, 1, none⟩ = some (.string tn) := ub.at 1
    have kb2 : w2.cell? ⟨w.heap.size, 2, none⟩ = some (.slice a l c) := ub.at 2
    have kb3 : w2.cell? ⟨w.heap.size, 3, none⟩ = some (.bool has) := ub.at 3
    have kb4 : w2.cell? ⟨w.heap.size, 4, none⟩ = some (.slice da dl dc) := ub.at 4
    have kb5 : w2.cell? ⟨w.heap.size, 5, none⟩ = some (.slice xa xl xc) := ub.at 5
    have mb0 := vb.c0
    have mb1 := vb.c1
    have X1b := Lib.hid ub
    have X2b := Lib.hid vb
    clear ub vb
    clear b2 ka0 ka1 ka2 ka3 ka4 ka5 ma0 ma1
    go_wp2_with fail
    refine (fits_any tn n2 a a2 l c l2 c2 L1 L2 _ (HV1.out.below BL2.out) (HV2.out.below BL2.out) HC1.out HC2.out).mono ?_
    rintro e wz ⟨rfl, bz⟩
    have BLz : Hid (Below w.heap.size w wz) := Lib.hid (BL2.out.trans (bz.mono BL2.out.size))
    clear bz
    go_wp2_with fail
    go_ret
    exact ⟨ret_bool HU.out.symm, BLz.out⟩
set_option maxRecDepth 10000 in
set_option maxHeartbeats 4000000 in
theorem usable_then (nm tn : ByteArray) (a : Option Addr) (l c : Nat) (has : Bool) (da : Option Addr) (dl dc : Nat) (xa : Option Addr) (xl xc : Nat) (n2 : ByteArray) (a2 : Option Addr) (l2 c2 : Nat) (L1 L2 : List Int) (k0 : Int) (w : World) (hv1 : View w a l L1) (hc1 : l ≤ c) (hv2 : View w a2 l2 L2) (hc2 : l2 ≤ c2) (hd : DView w da dl k0) (hf : Bool) (h2 : non L2 = true) (h1 : non L1 = false) :
    Calls Try.prog 6 #[inV nm tn a l c has da dl dc xa xl xc, refV n2 a2 l2 c2, .bool hf] w fun e w' => e = .returned (.bool (usable tn n2 L1 L2 has dl k0 hf)) ∧ Below w.heap.size w w' := by
  have hx1 : VBox ((w.alloc (.cells #[.string nm, .string tn, .slice a l c, .bool has, .slice da dl dc, .slice xa xl xc] 39)).alloc (.cells #[.string n2, .slice a2 l2 c2] 36)) w.heap.size #[.string nm, .string tn, .slice a l c, .bool has, .slice da dl dc, .slice xa xl xc] := by
    have h : VBox (w.alloc (.cells #[.string nm, .string tn, .slice a l c, .bool has, .slice da dl dc, .slice xa xl xc] 39)) w.heap.size #[.string nm, .string tn, .slice a l c, .bool has, .slice da dl dc, .slice xa xl xc] := heap_alloc_new w _
    exact h.up ((Below.refl _ _).alloc (Nat.le_refl _) _)
  have hx2 : Box ((w.alloc (.cells #[.string nm, .string tn, .slice a l c, .bool has, .slice da dl dc, .slice xa xl xc] 39)).alloc (.cells #[.string n2, .slice a2 l2 c2] 36)) (w.heap.size + 1) n2 a2 l2 c2 := by
    have h := heap_alloc_new (w.alloc (.cells #[.string nm, .string tn, .slice a l c, .bool has, .slice da dl dc, .slice xa xl xc] 39)) (.cells #[.string n2, .slice a2 l2 c2] 36)
    unfold Box; simpa using h
  have hbl : Below w.heap.size w ((w.alloc (.cells #[.string nm, .string tn, .slice a l c, .bool has, .slice da dl dc, .slice xa xl xc] 39)).alloc (.cells #[.string n2, .slice a2 l2 c2] 36)) := ((Below.refl _ w).alloc (Nat.le_refl _) _).alloc (by simp) _
  have X10 := Lib.hid hx1
  have X20 := Lib.hid hx2
  have BL0 := Lib.hid hbl
  have HV1 := Lib.hid hv1
  have HV2 := Lib.hid hv2
  have HC1 := Lib.hid hc1
  have HC2 := Lib.hid hc2
  have HD := Lib.hid hd
  clear hx1 hx2 hbl hv1 hv2 hc1 hc2 hd
  have HU0 : Hid (usable tn n2 L1 L2 has dl k0 hf = ((hf || hasD has dl k0) && fits tn L1 n2 (bareL L2))) := Lib.hid (by unfold usable; rw [h1, h2]; rfl)
  have HN := Lib.hid h2
  have HM := Lib.hid h1
  clear h1 h2
  unfold inV refV
  cases hf
  · cases hh : hasD has dl k0
    · have HH := Lib.hid hh
      have HU : Hid (usable tn n2 L1 L2 has dl k0 false = false) := Lib.hid (by rw [HU0.out, hh]; rfl)
      clear hh
      go_enter Try.func6, Try.ntmps6
      go_wp2_with fail
      refine (isNon_any n2 a2 l2 c2 L2 _ (HV2.out.below BL0.out)).mono ?_
      rintro e w1 ⟨rfl, b1⟩
      rw [HN.out]
      have BL1 : Hid (Below w.heap.size w w1) := Lib.hid (BL0.out.trans (b1.mono BL0.out.size))
      have ua := X10.out.up b1
      have va := X20.out.up b1
      have ka0 : w1.cell? ⟨w.heap.size, 0, none⟩ = some (.string nm) := ua.at 0
      have ka1 : w1.cell? ⟨w.heap.size, 1, none⟩ = some (.string tn) := ua.at 1
      have ka2 : w1.cell? ⟨w.heap.size, 2, none⟩ = some (.slice a l c) := ua.at 2
      have ka3 : w1.cell? ⟨w.heap.size, 3, none⟩ = some (.bool has) := ua.at 3
      have ka4 : w1.cell? ⟨w.heap.size, 4, none⟩ = some (.slice da dl dc) := ua.at 4
      have ka5 : w1.cell? ⟨w.heap.size, 5, none⟩ = some (.slice xa xl xc) := ua.at 5
      have ma0 := va.c0
      have ma1 := va.c1
      have X1a := Lib.hid ua
      have X2a := Lib.hid va
      clear ua va
      clear b1
      go_wp2_with fail
      refine (isNon_any tn a l c L1 _ (HV1.out.below BL1.out)).mono ?_
      rintro e w2 ⟨rfl, b2⟩
      rw [HM.out]
      have BL2 : Hid (Below w.heap.size w w2) := Lib.hid (BL1.out.trans (b2.mono BL1.out.size))
      have ub := X1a.out.up b2
      have vb := X2a.out.up b2
      have kb0 : w2.cell? ⟨w.heap.size, 0, none⟩ = some (.string nm) := ub.at 0
      have kb1 : w2.cell? ⟨w.heap.size, 1, none⟩ = some (.string tn) := ub.at 1
      have kb2 : w2.cell? ⟨w.heap.size, 2, none⟩ = some (.slice a l c) := ub.at 2
      have kb3 : w2.cell? ⟨w.heap.size, 3, none⟩ = some (.bool has) := ub.at 3
      have kb4 : w2.cell? ⟨w.heap.size, 4, none⟩ = some (.slice da dl dc) := ub.at 4
      have kb5 : w2.cell? ⟨w.heap.size, 5, none⟩ = some (.slice xa xl xc) := ub.at 5
      have mb0 := vb.c0
      have mb1 := vb.c1
      have X1b := Lib.hid ub
      have X2b := Lib.hid vb
      clear ub vb
      clear b2 ka0 ka1 ka2 ka3 ka4 ka5 ma0 ma1
      have BL2d : Hid (Below w.heap.size w w2.drew) := Lib.hid BL2.out.drew
      have X1d : Hid (VBox w2.drew w.heap.size #[.string nm, .string tn, .slice a l c, .bool has, .slice da dl dc, .slice xa xl xc]) := X1b
      have X2d : Hid (Box w2.drew (w.heap.size + 1) n2 a2 l2 c2) := X2b
      go_wp2_with fail
      refine wp_region_held_drew (S := (fun W => W.cell? ⟨w.heap.size, 0, none⟩ = some (.string nm) ∧ W.cell? ⟨w.heap.size, 1, none⟩ = some (.string tn) ∧ W.cell? ⟨w.heap.size, 2, none⟩ = some (.slice a l c) ∧ W.cell? ⟨w.heap.size, 3, none⟩ = some (.bool has) ∧ W.cell? ⟨w.heap.size, 4, none⟩ = some (.slice da dl dc) ∧ W.cell? ⟨w.heap.size, 5, none⟩ = some (.slice xa xl xc))) (by kernel_rfl) ⟨kb0, kb1, kb2, kb3, kb4, kb5⟩ (fun hHeld => ?_)
      refine wpAnyH_take (i := 0) (oi := { dst := some 15, op := Op.move (Operand.tmp 2), type := 4, pos := "kind.go:122", after := #[], guard := none }) (v := .bool false) rfl (by kernel_rfl) (by kernel_rfl) (by kernel_rfl) (fun _ _ _ h => h) (Or.inl ⟨by rfl, fun w hSw => by (go_simp <;> rfl)⟩) hHeld ?_
      try simp only [Act.put, List.setIfInBounds_toArray, List.set_cons_zero, List.set_cons_succ]
      refine wpAnyH_take (i := 1) (oi := { dst := some 16, op := Op.move (Operand.tmp 15), type := 4, pos := "kind.go:122", after := #[{ on := 0, ground := Ground.data }], guard := none }) (v := .bool false) rfl (by kernel_rfl) (by kernel_rfl) (by kernel_rfl) (fun _ _ _ h => h) (Or.inl ⟨by rfl, fun w hSw => by (go_simp <;> rfl)⟩) hHeld ?_
      try simp only [Act.put, List.setIfInBounds_toArray, List.set_cons_zero, List.set_cons_succ]
      refine wpAnyH_take (i := 2) (oi := { dst := some 17, op := Op.load 39 (Operand.tmp 3), type := 39, pos := "kind.go:122", after := #[{ on := 1, ground := Ground.guard }], guard := some (1, false) }) (v := .agg #[.string nm, .string tn, .slice a l c, .bool has, .slice da dl dc, .slice xa xl xc]) rfl (by kernel_rfl) (by kernel_rfl) (by kernel_rfl) (fun _ _ _ h => h) (Or.inl ⟨by rfl, fun w hSw => by (obtain ⟨g0, g1, g2, g3, g4, g5⟩ := hSw; go_simp <;> rfl)⟩) hHeld ?_
      try simp only [Act.put, List.setIfInBounds_toArray, List.set_cons_zero, List.set_cons_succ]
      refine wpAnyH_ready (rs := [3]) (by kernel_rfl) (by simp) (AllReadyH.cons (o := { dst := some 18, op := Op.call { callee := Callee.value (Operand.func 10), args := #[Operand.tmp 17], argTypes := #[39] }, type := 4, pos := "kind.go:122", after := #[{ on := 2, ground := Ground.data }, { on := 1, ground := Ground.chain }, { on := 1, ground := Ground.guard }], guard := some (1, false) }) rfl (fun K3 hK3 => ?_) AllReadyH.nil)
      go_simp
      refine (hasDefault_any nm tn a l c has da dl dc xa xl xc k0 _ (HD.out.below BL2d.out)).mono ?_
      rintro e wh ⟨rfl, bh⟩
      rw [HH.out]
      have BLh : Hid (Below w.heap.size w wh) := Lib.hid (BL2d.out.trans (bh.mono BL2d.out.size))
      have uh := X1d.out.up bh
      refine hK3.out _ _ ⟨uh.at 0, uh.at 1, uh.at 2, uh.at 3, uh.at 4, uh.at 5⟩ (fun hHeld3 => ?_)
      clear hK3 K3 bh uh
      try simp only [Act.put, List.setIfInBounds_toArray, List.set_cons_zero, List.set_cons_succ]
      refine wpAnyH_take (i := 4) (oi := { dst := some 19, op := Op.pick (Operand.tmp 16) (Operand.const (Value.bool true)) (Operand.tmp 18), type := 4, pos := "kind.go:122", after := #[{ on := 1, ground := Ground.data }, { on := 3, ground := Ground.data }], guard := none }) (v := .bool false) rfl (by kernel_rfl) (by kernel_rfl) (by kernel_rfl) (fun _ _ _ h => h) (Or.inl ⟨by rfl, fun w hSw => by (go_simp <;> rfl)⟩) hHeld3 ?_
      try simp only [Act.put, List.setIfInBounds_toArray, List.set_cons_zero, List.set_cons_succ]
      refine wpAnyH_take (i := 5) (oi := { dst := some 20, op := Op.move (Operand.tmp 19), type := 4, pos := "kind.go:122", after := #[{ on := 4, ground := Ground.data }, { on := 3, ground := Ground.chain }], guard := none }) (v := .bool false) rfl (by kernel_rfl) (by kernel_rfl) (by kernel_rfl) (fun _ _ _ h => h) (Or.inl ⟨by rfl, fun w hSw => by (go_simp <;> rfl)⟩) hHeld3 ?_
      try simp only [Act.put, List.setIfInBounds_toArray, List.set_cons_zero, List.set_cons_succ]
      refine wpAnyH_take (i := 6) (oi := { dst := some 21, op := Op.fieldAddr 39 (Operand.tmp 3) 1, type := 0, pos := "kind.go:122", after := #[{ on := 5, ground := Ground.guard }], guard := some (5, true) }) (v := undef) rfl (by kernel_rfl) (by kernel_rfl) (by kernel_rfl) (fun _ _ _ h => h) (Or.inr ⟨by rfl, rfl⟩) hHeld3 ?_
      try simp only [Act.put, List.setIfInBounds_toArray, List.set_cons_zero, List.set_cons_succ]
      refine wpAnyH_take (i := 7) (oi := { dst := some 22, op := Op.load 36 (Operand.tmp 21), type := 36, pos := "kind.go:122", after := #[{ on := 6, ground := Ground.data }, { on := 5, ground := Ground.guard }], guard := some (5, true) }) (v := undef) rfl (by kernel_rfl) (by kernel_rfl) (by kernel_rfl) (fun _ _ _ h => h) (Or.inr ⟨by rfl, rfl⟩) hHeld3 ?_
      try simp only [Act.put, List.setIfInBounds_toArray, List.set_cons_zero, List.set_cons_succ]
      refine wpAnyH_take (i := 8) (oi := { dst := some 23, op := Op.load 36 (Operand.tmp 4), type := 36, pos := "kind.go:122", after := #[{ on := 5, ground := Ground.guard }], guard := some (5, true) }) (v := undef) rfl (by kernel_rfl) (by kernel_rfl) (by kernel_rfl) (fun _ _ _ h => h) (Or.inr ⟨by rfl, rfl⟩) hHeld3 ?_
      try simp only [Act.put, List.setIfInBounds_toArray, List.set_cons_zero, List.set_cons_succ]
      refine wpAnyH_take (i := 9) (oi := { dst := some 24, op := Op.call { callee := Callee.value (Operand.func 12), args := #[Operand.tmp 23], argTypes := #[36] }, type := 36, pos := "kind.go:122", after := #[{ on := 8, ground := Ground.data }, { on := 5, ground := Ground.chain }, { on := 5, ground := Ground.guard }], guard := some (5, true) }) (v := undef) rfl (by kernel_rfl) (by kernel_rfl) (by kernel_rfl) (fun _ _ _ h => h) (Or.inr ⟨by rfl, rfl⟩) hHeld3 ?_
      try simp only [Act.put, List.setIfInBounds_toArray, List.set_cons_zero, List.set_cons_succ]
      refine wpAnyH_take (i := 10) (oi := { dst := some 25, op := Op.call { callee := Callee.value (Operand.func 11), args := #[Operand.tmp 22, Operand.tmp 24], argTypes := #[36, 36] }, type := 4, pos := "kind.go:122", after := #[{ on := 7, ground := Ground.data }, { on := 9, ground := Ground.data }, { on := 9, ground := Ground.chain }, { on := 5, ground := Ground.guard }], guard := some (5, true) }) (v := undef) rfl (by kernel_rfl) (by kernel_rfl) (by kernel_rfl) (fun _ _ _ h => h) (Or.inr ⟨by rfl, rfl⟩) hHeld3 ?_
      try simp only [Act.put, List.setIfInBounds_toArray, List.set_cons_zero, List.set_cons_succ]
      refine wpAnyH_take (i := 11) (oi := { dst := some 26, op := Op.pick (Operand.tmp 20) (Operand.tmp 25) (Operand.const (Value.bool false)), type := 4, pos := "kind.go:122", after := #[{ on := 5, ground := Ground.data }, { on := 10, ground := Ground.data }], guard := none }) (v := .bool false) rfl (by kernel_rfl) (by kernel_rfl) (by kernel_rfl) (fun _ _ _ h => h) (Or.inl ⟨by rfl, fun w hSw => by (go_simp <;> rfl)⟩) hHeld3 ?_
      try simp only [Act.put, List.setIfInBounds_toArray, List.set_cons_zero, List.set_cons_succ]
      refine wpAnyH_take (i := 12) (oi := { dst := some 6, op := Op.assign (Operand.tmp 26), type := 4, pos := "kind.go:122", after := #[{ on := 11, ground := Ground.data }, { on := 10, ground := Ground.chain }, { on := 0, ground := Ground.phase }, { on := 1, ground := Ground.phase }, { on := 2, ground := Ground.phase }, { on := 3, ground := Ground.phase }, { on := 4, ground := Ground.phase }, { on := 5, ground := Ground.phase }, { on := 6, ground := Ground.phase }, { on := 7, ground := Ground.phase }, { on := 8, ground := Ground.phase }, { on := 9, ground := Ground.phase }, { on := 10, ground := Ground.phase }, { on := 11, ground := Ground.phase }], guard := none }) (v := .bool false) rfl (by kernel_rfl) (by kernel_rfl) (by kernel_rfl) (fun _ _ _ h => h) (Or.inl ⟨by rfl, fun w hSw => by (go_simp <;> rfl)⟩) hHeld3 ?_
      try simp only [Act.put, List.setIfInBounds_toArray, List.set_cons_zero, List.set_cons_succ]
      refine wpAnyH_done (by kernel_rfl) ?_ _
      clear hHeld hHeld3
      all_goals (go_wp2_with fail)
      all_goals go_ret
      all_goals exact ⟨ret_bool HU.out.symm, BLh.out⟩
    · have HH := Lib.hid hh
      have HU : Hid (usable tn n2 L1 L2 has dl k0 false = fits tn L1 n2 (bareL L2)) := Lib.hid (by rw [HU0.out, hh]; rfl)
      clear hh
      go_enter Try.func6, Try.ntmps6
      go_wp2_with fail
      refine (isNon_any n2 a2 l2 c2 L2 _ (HV2.out.below BL0.out)).mono ?_
      rintro e w1 ⟨rfl, b1⟩
      rw [HN.out]
      have BL1 : Hid (Below w.heap.size w w1) := Lib.hid (BL0.out.trans (b1.mono BL0.out.size))
      have ua := X10.out.up b1
      have va := X20.out.up b1
      have ka0 : w1.cell? ⟨w.heap.size, 0, none⟩ = some (.string nm) := ua.at 0
      have ka1 : w1.cell? ⟨w.heap.size, 1, none⟩ = some (.string tn) := ua.at 1
      have ka2 : w1.cell? ⟨w.heap.size, 2, none⟩ = some (.slice a l c) := ua.at 2
      have ka3 : w1.cell? ⟨w.heap.size, 3, none⟩ = some (.bool has) := ua.at 3
      have ka4 : w1.cell? ⟨w.heap.size, 4, none⟩ = some (.slice da dl dc) := ua.at 4
      have ka5 : w1.cell? ⟨w.heap.size, 5, none⟩ = some (.slice xa xl xc) := ua.at 5
      have ma0 := va.c0
      have ma1 := va.c1
      have X1a := Lib.hid ua
      have X2a := Lib.hid va
      clear ua va
      clear b1
      go_wp2_with fail
      refine (isNon_any tn a l c L1 _ (HV1.out.below BL1.out)).mono ?_
      rintro e w2 ⟨rfl, b2⟩
      rw [HM.out]
      have BL2 : Hid (Below w.heap.size w w2) := Lib.hid (BL1.out.trans (b2.mono BL1.out.size))
      have ub := X1a.out.up b2
      have vb := X2a.out.up b2
      have kb0 : w2.cell? ⟨w.heap.size, 0, none⟩ = some (.string nm) := ub.at 0
      have kb1 : w2.cell? ⟨w.heap.size, 1, none⟩ = some (.string tn) := ub.at 1
      have kb2 : w2.cell? ⟨w.heap.size, 2, none⟩ = some (.slice a l c) := ub.at 2
      have kb3 : w2.cell? ⟨w.heap.size, 3, none⟩ = some (.bool has) := ub.at 3
      have kb4 : w2.cell? ⟨w.heap.size, 4, none⟩ = some (.slice da dl dc) := ub.at 4
      have kb5 : w2.cell? ⟨w.heap.size, 5, none⟩ = some (.slice xa xl xc) := ub.at 5
      have mb0 := vb.c0
      have mb1 := vb.c1
      have X1b := Lib.hid ub
      have X2b := Lib.hid vb
      clear ub vb
      clear b2 ka0 ka1 ka2 ka3 ka4 ka5 ma0 ma1
      have BL2d : Hid (Below w.heap.size w w2.drew) := Lib.hid BL2.out.drew
      have X1d : Hid (VBox w2.drew w.heap.size #[.string nm, .string tn, .slice a l c, .bool has, .slice da dl dc, .slice xa xl xc]) := X1b
      have X2d : Hid (Box w2.drew (w.heap.size + 1) n2 a2 l2 c2) := X2b
      go_wp2_with fail
      go_region_with (first | (go_at_call 10; refine (hasDefault_any nm tn a l c has da dl dc xa xl xc k0 _ (HD.out.below BL2d.out)).mono ?_; rintro e wh ⟨rfl, bh⟩; rw [HH.out]; have BLh : Hid (Below w.heap.size w wh) := Lib.hid (BL2d.out.trans (bh.mono BL2d.out.size)); have uh := X1d.out.up bh; have vh := X2d.out.up bh; have kh0 : wh.cell? ⟨w.heap.size, 0, none⟩ = some (.string nm) := uh.at 0; have kh1 : wh.cell? ⟨w.heap.size, 1, none⟩ = some (.string tn) := uh.at 1; have kh2 : wh.cell? ⟨w.heap.size, 2, none⟩ = some (.slice a l c) := uh.at 2; have kh3 : wh.cell? ⟨w.heap.size, 3, none⟩ = some (.bool has) := uh.at 3; have kh4 : wh.cell? ⟨w.heap.size, 4, none⟩ = some (.slice da dl dc) := uh.at 4; have kh5 : wh.cell? ⟨w.heap.size, 5, none⟩ = some (.slice xa xl xc) := uh.at 5; have mh0 := vh.c0; have mh1 := vh.c1; have X1h := Lib.hid uh; have X2h := Lib.hid vh; clear uh vh) | (go_at_call 12; refine (bare_any n2 a2 l2 c2 L2 _ (HV2.out.below BLh.out) HC2.out).mono ?_; rintro e wb ⟨v, rfl, ⟨a', len', cap', rfl, hv', hc'⟩, bb⟩; have BLb : Hid (Below w.heap.size w wb) := Lib.hid (BLh.out.trans (bb.mono BLh.out.size)); have HV' := Lib.hid (hv'.below bb); have HC' := Lib.hid hc'; have uq := X1h.out.up bb; have vq := X2h.out.up bb; have kq0 : wb.cell? ⟨w.heap.size, 0, none⟩ = some (.string nm) := uq.at 0; have kq1 : wb.cell? ⟨w.heap.size, 1, none⟩ = some (.string tn) := uq.at 1; have kq2 : wb.cell? ⟨w.heap.size, 2, none⟩ = some (.slice a l c) := uq.at 2; have kq3 : wb.cell? ⟨w.heap.size, 3, none⟩ = some (.bool has) := uq.at 3; have kq4 : wb.cell? ⟨w.heap.size, 4, none⟩ = some (.slice da dl dc) := uq.at 4; have kq5 : wb.cell? ⟨w.heap.size, 5, none⟩ = some (.slice xa xl xc) := uq.at 5; have mq0 := vq.c0; have mq1 := vq.c1; have X1q := Lib.hid uq; have X2q := Lib.hid vq; clear uq vq; clear hv' hc') | (go_at_call 11; refine (fits_any tn n2 a a' l c len' cap' L1 (bareL L2) _ (HV1.out.below BLb.out) HV'.out HC1.out HC'.out).mono ?_; rintro e wz ⟨rfl, bz⟩; have BLz : Hid (Below w.heap.size w wz) := Lib.hid (BLb.out.trans (bz.mono BLb.out.size)); clear bz))
      all_goals (go_wp2_with fail)
      all_goals go_ret
      all_goals exact ⟨ret_bool HU.out.symm, BLz.out⟩
  · have HU : Hid (usable tn n2 L1 L2 has dl k0 true = fits tn L1 n2 (bareL L2)) := Lib.hid (by rw [HU0.out]; rfl)
    go_enter Try.func6, Try.ntmps6
    go_wp2_with fail
    refine (isNon_any n2 a2 l2 c2 L2 _ (HV2.out.below BL0.out)).mono ?_
    rintro e w1 ⟨rfl, b1⟩
    rw [HN.out]
    have BL1 : Hid (Below w.heap.size w w1) := Lib.hid (BL0.out.trans (b1.mono BL0.out.size))
    have ua := X10.out.up b1
    have va := X20.out.up b1
    have ka0 : w1.cell? ⟨w.heap.size, 0, none⟩ = some (.string nm) := ua.at 0
    have ka1 : w1.cell? ⟨w.heap.size, 1, none⟩ = some (.string tn) := ua.at 1
    have ka2 : w1.cell? ⟨w.heap.size, 2, none⟩ = some (.slice a l c) := ua.at 2
    have ka3 : w1.cell? ⟨w.heap.size, 3, none⟩ = some (.bool has) := ua.at 3
    have ka4 : w1.cell? ⟨w.heap.size, 4, none⟩ = some (.slice da dl dc) := ua.at 4
    have ka5 : w1.cell? ⟨w.heap.size, 5, none⟩ = some (.slice xa xl xc) := ua.at 5
    have ma0 := va.c0
    have ma1 := va.c1
    have X1a := Lib.hid ua
    have X2a := Lib.hid va
    clear ua va
    clear b1
    go_wp2_with fail
    refine (isNon_any tn a l c L1 _ (HV1.out.below BL1.out)).mono ?_
    rintro e w2 ⟨rfl, b2⟩
    rw [HM.out]
    have BL2 : Hid (Below w.heap.size w w2) := Lib.hid (BL1.out.trans (b2.mono BL1.out.size))
    have ub := X1a.out.up b2
    have vb := X2a.out.up b2
    have kb0 : w2.cell? ⟨w.heap.size, 0, none⟩ = some (.string nm) := ub.at 0
    have kb1 : w2.cell? ⟨w.heap.size, 1, none⟩ = some (.string tn) := ub.at 1
    have kb2 : w2.cell? ⟨w.heap.size, 2, none⟩ = some (.slice a l c) := ub.at 2
    have kb3 : w2.cell? ⟨w.heap.size, 3, none⟩ = some (.bool has) := ub.at 3
    have kb4 : w2.cell? ⟨w.heap.size, 4, none⟩ = some (.slice da dl dc) := ub.at 4
    have kb5 : w2.cell? ⟨w.heap.size, 5, none⟩ = some (.slice xa xl xc) := ub.at 5
    have mb0 := vb.c0
    have mb1 := vb.c1
    have X1b := Lib.hid ub
    have X2b := Lib.hid vb
    clear ub vb
    clear b2 ka0 ka1 ka2 ka3 ka4 ka5 ma0 ma1
    have BL2d : Hid (Below w.heap.size w w2.drew) := Lib.hid BL2.out.drew
    have X1d : Hid (VBox w2.drew w.heap.size #[.string nm, .string tn, .slice a l c, .bool has, .slice da dl dc, .slice xa xl xc]) := X1b
    have X2d : Hid (Box w2.drew (w.heap.size + 1) n2 a2 l2 c2) := X2b
    go_wp2_with fail
    go_region_with (first | (go_at_call 12; refine (bare_any n2 a2 l2 c2 L2 _ (HV2.out.below BL2d.out) HC2.out).mono ?_; rintro e wb ⟨v, rfl, ⟨a', len', cap', rfl, hv', hc'⟩, bb⟩; have BLb : Hid (Below w.heap.size w wb) := Lib.hid (BL2d.out.trans (bb.mono BL2d.out.size)); have HV' := Lib.hid (hv'.below bb); have HC' := Lib.hid hc'; have uq := X1d.out.up bb; have vq := X2d.out.up bb; have kq0 : wb.cell? ⟨w.heap.size, 0, none⟩ = some (.string nm) := uq.at 0; have kq1 : wb.cell? ⟨w.heap.size, 1, none⟩ = some (.string tn) := uq.at 1; have kq2 : wb.cell? ⟨w.heap.size, 2, none⟩ = some (.slice a l c) := uq.at 2; have kq3 : wb.cell? ⟨w.heap.size, 3, none⟩ = some (.bool has) := uq.at 3; have kq4 : wb.cell? ⟨w.heap.size, 4, none⟩ = some (.slice da dl dc) := uq.at 4; have kq5 : wb.cell? ⟨w.heap.size, 5, none⟩ = some (.slice xa xl xc) := uq.at 5; have mq0 := vq.c0; have mq1 := vq.c1; have X1q := Lib.hid uq; have X2q := Lib.hid vq; clear uq vq; clear hv' hc') | (go_at_call 11; refine (fits_any tn n2 a a' l c len' cap' L1 (bareL L2) _ (HV1.out.below BLb.out) HV'.out HC1.out HC'.out).mono ?_; rintro e wz ⟨rfl, bz⟩; have BLz : Hid (Below w.heap.size w wz) := Lib.hid (BLb.out.trans (bz.mono BLb.out.size)); clear bz))
    all_goals (go_wp2_with fail)
    all_goals go_ret
    all_goals exact ⟨ret_bool HU.out.symm, BLz.out⟩
theorem usable_any (nm tn : ByteArray) (a : Option Addr) (l c : Nat) (has : Bool) (da : Option Addr) (dl dc : Nat) (xa : Option Addr) (xl xc : Nat) (n2 : ByteArray) (a2 : Option Addr) (l2 c2 : Nat) (L1 L2 : List Int) (k0 : Int) (w : World) (hv1 : View w a l L1) (hc1 : l ≤ c) (hv2 : View w a2 l2 L2) (hc2 : l2 ≤ c2) (hd : DView w da dl k0) (hf : Bool) :
    Calls Try.prog 6 #[inV nm tn a l c has da dl dc xa xl xc, refV n2 a2 l2 c2, .bool hf] w fun e w' => e = .returned (.bool (usable tn n2 L1 L2 has dl k0 hf)) ∧ Below w.heap.size w w' := by
  cases h : (non L2 && !non L1)
  · exact usable_else nm tn a l c has da dl dc xa xl xc n2 a2 l2 c2 L1 L2 k0 w hv1 hc1 hv2 hc2 hd hf h
  · rw [Bool.and_eq_true] at h
    exact usable_then nm tn a l c has da dl dc xa xl xc n2 a2 l2 c2 L1 L2 k0 w hv1 hc1 hv2 hc2 hd hf h.1 (by simpa using h.2)
end Go.Proofs.Ytfphejndbnmfeaa

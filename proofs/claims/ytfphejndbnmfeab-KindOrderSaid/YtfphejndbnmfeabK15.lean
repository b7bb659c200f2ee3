import Derived.Test.YtfphejndbnmfeabK14
import Derived.Deep.DeepCutAuto
namespace Go.Proofs.Ytfphejndbnmfeab
open Go.RowKit

theorem str_eq (x y : ByteArray) : (x.toList == y.toList) = decide (x = y) := by
  rw [ByteArray.toList_eq, ByteArray.toList_eq, Bool.eq_iff_iff]
  simp only [beq_iff_eq, decide_eq_true_eq]
  exact ⟨fun h => ByteArray.ext (Array.toList_inj.1 h), fun h => by rw [h]⟩
def Three (n1 : ByteArray) (p1 : Option Addr) (m1 q1 : Nat) (n2 : ByteArray) (p2 : Option Addr) (m2 q2 : Nat) (n3 : ByteArray) (p3 : Option Addr) (m3 q3 : Nat) (w W : World) : Prop :=
  Box W w.heap.size n1 p1 m1 q1 ∧ Box W (w.heap.size + 1) n2 p2 m2 q2 ∧ Box W (w.heap.size + 1 + 1) n3 p3 m3 q3 ∧ Below w.heap.size w W
theorem Three.up {n1 : ByteArray} {p1 : Option Addr} {m1 q1 : Nat} {n2 : ByteArray} {p2 : Option Addr} {m2 q2 : Nat} {n3 : ByteArray} {p3 : Option Addr} {m3 q3 : Nat} {w W W' : World} (h : Three n1 p1 m1 q1 n2 p2 m2 q2 n3 p3 m3 q3 w W) (hb : Below W.heap.size W W') : Three n1 p1 m1 q1 n2 p2 m2 q2 n3 p3 m3 q3 w W' :=
  ⟨h.1.up hb, h.2.1.up hb, h.2.2.1.up hb, h.2.2.2.trans (hb.mono h.2.2.2.size)⟩
theorem fits_two {n1 n2 : ByteArray} {A B : List Int} (h : fits n1 A n2 B = true) : n1 = n2 ∧ fit true A B = true := by
  rw [fits_eq] at h
  have := fit_same h
  rw [str_eq] at this
  exact ⟨by simpa using this.1, this.2⟩
theorem fits_mk {n1 : ByteArray} {A B : List Int} (h : fit true A B = true) : fits n1 A n1 B = true := by
  rw [fits_eq, show (n1.toList == n1.toList) = true by simp]; exact h
set_option maxRecDepth 10000 in
theorem order_big (n1 : ByteArray) (p1 : Option Addr) (m1 q1 : Nat) (n2 : ByteArray) (p2 : Option Addr) (m2 q2 : Nat) (n3 : ByteArray) (p3 : Option Addr) (m3 q3 : Nat) (w : World) (hbig : 20 < m1 ∨ 20 < m2 ∨ 20 < m3) :
    Calls Try.prog 4 #[refV n1 p1 m1 q1, refV n2 p2 m2 q2, refV n3 p3 m3 q3] w fun e w' => e = .returned (.bool true) ∧ Below w.heap.size w w' := by
  have hx1 : Box (((w.alloc (.cells #[.string n1, .slice p1 m1 q1] 25)).alloc (.cells #[.string n2, .slice p2 m2 q2] 25)).alloc (.cells #[.string n3, .slice p3 m3 q3] 25)) w.heap.size n1 p1 m1 q1 := by
    have h : Box (w.alloc (.cells #[.string n1, .slice p1 m1 q1] 25)) w.heap.size n1 p1 m1 q1 := heap_alloc_new w _
    exact (h.up ((Below.refl _ _).alloc (Nat.le_refl _) _)).up ((Below.refl _ _).alloc (Nat.le_refl _) _)
  have hx2 : Box (((w.alloc (.cells #[.string n1, .slice p1 m1 q1] 25)).alloc (.cells #[.string n2, .slice p2 m2 q2] 25)).alloc (.cells #[.string n3, .slice p3 m3 q3] 25)) (w.heap.size + 1) n2 p2 m2 q2 := by
    have h : Box ((w.alloc (.cells #[.string n1, .slice p1 m1 q1] 25)).alloc (.cells #[.string n2, .slice p2 m2 q2] 25)) (w.heap.size + 1) n2 p2 m2 q2 := by
      have h := heap_alloc_new (w.alloc (.cells #[.string n1, .slice p1 m1 q1] 25)) (.cells #[.string n2, .slice p2 m2 q2] 25)
      unfold Box; simpa using h
    exact h.up ((Below.refl _ _).alloc (Nat.le_refl _) _)
  have hx3 : Box (((w.alloc (.cells #[.string n1, .slice p1 m1 q1] 25)).alloc (.cells #[.string n2, .slice p2 m2 q2] 25)).alloc (.cells #[.string n3, .slice p3 m3 q3] 25)) (w.heap.size + 1 + 1) n3 p3 m3 q3 := by
    have h := heap_alloc_new ((w.alloc (.cells #[.string n1, .slice p1 m1 q1] 25)).alloc (.cells #[.string n2, .slice p2 m2 q2] 25)) (.cells #[.string n3, .slice p3 m3 q3] 25)
    unfold Box; simpa using h
  have hbl : Below w.heap.size w (((w.alloc (.cells #[.string n1, .slice p1 m1 q1] 25)).alloc (.cells #[.string n2, .slice p2 m2 q2] 25)).alloc (.cells #[.string n3, .slice p3 m3 q3] 25)) := (((Below.refl _ w).alloc (Nat.le_refl _) _).alloc (by simp) _).alloc (by simp; omega) _
  have HT0 : Hid (Three n1 p1 m1 q1 n2 p2 m2 q2 n3 p3 m3 q3 w (((w.alloc (.cells #[.string n1, .slice p1 m1 q1] 25)).alloc (.cells #[.string n2, .slice p2 m2 q2] 25)).alloc (.cells #[.string n3, .slice p3 m3 q3] 25))) := Lib.hid ⟨hx1, hx2, hx3, hbl⟩
  clear hx1 hx2 hx3 hbl
  have hsp : (20 < m1) ∨ (¬ 20 < m1 ∧ 20 < m2) ∨ (¬ 20 < m1 ∧ ¬ 20 < m2 ∧ 20 < m3) := by omega
  clear hbig
  unfold refV
  rcases hsp with g1 | ⟨g1, g2⟩ | ⟨g1, g2, g3⟩
  · go_enter Try.func4, Try.ntmps4
    go_wp2_with fail
    refine (alive_true _).mono ?_
    rintro e w1 ⟨rfl, b1⟩
    have HT1 := Lib.hid (HT0.out.up b1)
    clear b1
    have hT1 := HT1.out
    have a0 := hT1.1.c0
    have a1 := hT1.1.c1
    have a2 := hT1.2.1.c0
    have a3 := hT1.2.1.c1
    have a4 := hT1.2.2.1.c0
    have a5 := hT1.2.2.1.c1
    clear hT1
    go_wp2_with fail
    go_ret
    exact ⟨rfl, HT1.out.2.2.2⟩
  · go_enter Try.func4, Try.ntmps4
    go_wp2_with fail
    refine (alive_true _).mono ?_
    rintro e w1 ⟨rfl, b1⟩
    have HT1 := Lib.hid (HT0.out.up b1)
    clear b1
    have hT1 := HT1.out
    have a0 := hT1.1.c0
    have a1 := hT1.1.c1
    have a2 := hT1.2.1.c0
    have a3 := hT1.2.1.c1
    have a4 := hT1.2.2.1.c0
    have a5 := hT1.2.2.1.c1
    clear hT1
    go_wp2_with fail
    go_ret
    exact ⟨rfl, HT1.out.2.2.2⟩
  · go_enter Try.func4, Try.ntmps4
    go_wp2_with fail
    refine (alive_true _).mono ?_
    rintro e w1 ⟨rfl, b1⟩
    have HT1 := Lib.hid (HT0.out.up b1)
    clear b1
    have hT1 := HT1.out
    have a0 := hT1.1.c0
    have a1 := hT1.1.c1
    have a2 := hT1.2.1.c0
    have a3 := hT1.2.1.c1
    have a4 := hT1.2.2.1.c0
    have a5 := hT1.2.2.1.c1
    clear hT1
    go_wp2_with fail
    go_ret
    exact ⟨rfl, HT1.out.2.2.2⟩
set_option maxRecDepth 10000 in
set_option maxHeartbeats 4000000 in
theorem order_walk (n1 : ByteArray) (p1 : Option Addr) (m1 q1 : Nat) (n2 : ByteArray) (p2 : Option Addr) (m2 q2 : Nat) (n3 : ByteArray) (p3 : Option Addr) (m3 q3 : Nat) (A B C : List Int) (w : World)
    (hv1 : View w p1 m1 A) (hc1 : m1 ≤ q1) (hr1 : ∀ x ∈ A, 0 ≤ x ∧ x < 256) (hs1 : n1.size ≤ maxLen) (hv2 : View w p2 m2 B) (hc2 : m2 ≤ q2) (hv3 : View w p3 m3 C) (hc3 : m3 ≤ q3) (hm1 : ¬ 20 < m1) (hm2 : ¬ 20 < m2) (hm3 : ¬ 20 < m3) :
    Calls Try.prog 4 #[refV n1 p1 m1 q1, refV n2 p2 m2 q2, refV n3 p3 m3 q3] w fun e w' => e = .returned (.bool true) ∧ Below w.heap.size w w' := by
  have hx1 : Box (((w.alloc (.cells #[.string n1, .slice p1 m1 q1] 25)).alloc (.cells #[.string n2, .slice p2 m2 q2] 25)).alloc (.cells #[.string n3, .slice p3 m3 q3] 25)) w.heap.size n1 p1 m1 q1 := by
    have h : Box (w.alloc (.cells #[.string n1, .slice p1 m1 q1] 25)) w.heap.size n1 p1 m1 q1 := heap_alloc_new w _
    exact (h.up ((Below.refl _ _).alloc (Nat.le_refl _) _)).up ((Below.refl _ _).alloc (Nat.le_refl _) _)
  have hx2 : Box (((w.alloc (.cells #[.string n1, .slice p1 m1 q1] 25)).alloc (.cells #[.string n2, .slice p2 m2 q2] 25)).alloc (.cells #[.string n3, .slice p3 m3 q3] 25)) (w.heap.size + 1) n2 p2 m2 q2 := by
    have h : Box ((w.alloc (.cells #[.string n1, .slice p1 m1 q1] 25)).alloc (.cells #[.string n2, .slice p2 m2 q2] 25)) (w.heap.size + 1) n2 p2 m2 q2 := by
      have h := heap_alloc_new (w.alloc (.cells #[.string n1, .slice p1 m1 q1] 25)) (.cells #[.string n2, .slice p2 m2 q2] 25)
      unfold Box; simpa using h
    exact h.up ((Below.refl _ _).alloc (Nat.le_refl _) _)
  have hx3 : Box (((w.alloc (.cells #[.string n1, .slice p1 m1 q1] 25)).alloc (.cells #[.string n2, .slice p2 m2 q2] 25)).alloc (.cells #[.string n3, .slice p3 m3 q3] 25)) (w.heap.size + 1 + 1) n3 p3 m3 q3 := by
    have h := heap_alloc_new ((w.alloc (.cells #[.string n1, .slice p1 m1 q1] 25)).alloc (.cells #[.string n2, .slice p2 m2 q2] 25)) (.cells #[.string n3, .slice p3 m3 q3] 25)
    unfold Box; simpa using h
  have hbl : Below w.heap.size w (((w.alloc (.cells #[.string n1, .slice p1 m1 q1] 25)).alloc (.cells #[.string n2, .slice p2 m2 q2] 25)).alloc (.cells #[.string n3, .slice p3 m3 q3] 25)) := (((Below.refl _ w).alloc (Nat.le_refl _) _).alloc (by simp) _).alloc (by simp; omega) _
  have HT0 : Hid (Three n1 p1 m1 q1 n2 p2 m2 q2 n3 p3 m3 q3 w (((w.alloc (.cells #[.string n1, .slice p1 m1 q1] 25)).alloc (.cells #[.string n2, .slice p2 m2 q2] 25)).alloc (.cells #[.string n3, .slice p3 m3 q3] 25))) := Lib.hid ⟨hx1, hx2, hx3, hbl⟩
  clear hx1 hx2 hx3 hbl
  have HV1 := Lib.hid hv1
  have HV2 := Lib.hid hv2
  have HV3 := Lib.hid hv3
  have HC1 := Lib.hid hc1
  have HC2 := Lib.hid hc2
  have HC3 := Lib.hid hc3
  have HR1 := Lib.hid hr1
  have HS1 := Lib.hid hs1
  have HM1 : Hid (m1 ≤ 20) := Lib.hid (by omega)
  clear hv1 hv2 hv3 hc1 hc2 hc3 hr1 hs1
  unfold refV
  go_enter Try.func4, Try.ntmps4
  go_wp2_with fail
  refine (alive_true _).mono ?_
  rintro e w1 ⟨rfl, b1⟩
  have HT1 := Lib.hid (HT0.out.up b1)
  clear b1
  have hT1 := HT1.out
  have a0 := hT1.1.c0
  have a1 := hT1.1.c1
  have a2 := hT1.2.1.c0
  have a3 := hT1.2.1.c1
  have a4 := hT1.2.2.1.c0
  have a5 := hT1.2.2.1.c1
  clear hT1
  go_wp2_with fail
  clear a0 a1 a2 a3 a4 a5
  refine (tokens_any n1 p1 m1 q1 A _ (HV1.out.below HT1.out.2.2.2) HS1.out HM1.out).mono ?_
  rintro e w2 ⟨⟨v2, x2, rfl, hx2⟩, b2⟩
  have HX2 := Lib.hid hx2
  have HT2 := Lib.hid (HT1.out.up b2)
  clear b2 hx2 hm1 hm2 hm3
  have hT2 := HT2.out
  have a0 := hT2.1.c0
  have a1 := hT2.1.c1
  have a2 := hT2.2.1.c0
  have a3 := hT2.2.1.c1
  have a4 := hT2.2.2.1.c0
  have a5 := hT2.2.2.1.c1
  clear hT2
  have HV12 := Lib.hid (HV1.out.below HT2.out.2.2.2)
  go_upto_region 5 with fail
  go_cut [47] (fun s47 wx => s47 = .bool false ∧ Three n1 p1 m1 q1 n2 p2 m2 q2 n3 p3 m3 q3 w wx)
  case first =>
    by_cases hx0 : x2 = 0
    · have HFA : Hid (fits n1 A n1 A = true) := Lib.hid (fits_mk (fit_refl A (HX2.out hx0)))
      subst hx0
      go_wp2_with fail
      refine (fits_any n1 n1 p1 p1 m1 q1 m1 q1 A A _ HV12.out HV12.out HC1.out HC1.out).mono ?_
      rintro e w3 ⟨rfl, b3⟩
      rw [HFA.out]
      have HT3 := Lib.hid (HT2.out.up b3)
      clear b3
      go_wp2_with fail
      go_meet
      exact ⟨rfl, HT3.out⟩
    · have g0 : (x2 == 0) = false := by simp [hx0]
      go_wp2_with fail
      go_meet
      exact ⟨rfl, HT2.out⟩
  case rest =>
  obtain ⟨rfl, hT3⟩ := hcut
  obtain ⟨w3, rfl⟩ : ∃ w3, w3 = wc := ⟨_, rfl⟩
  have HT3 := Lib.hid hT3
  clear a0 a1 a2 a3 a4 a5 hT3
  have HBA := Lib.hid HT3.out.1
  have HBB := Lib.hid HT3.out.2.1
  have HBC := Lib.hid HT3.out.2.2.1
  have HV13 := Lib.hid (HV1.out.below HT3.out.2.2.2)
  have HV23 := Lib.hid (HV2.out.below HT3.out.2.2.2)
  have HV33 := Lib.hid (HV3.out.below HT3.out.2.2.2)
  obtain ⟨ab, hab⟩ : ∃ b, b = fits n1 A n2 B := ⟨_, rfl⟩
  obtain ⟨ba, hba⟩ : ∃ b, b = fits n2 B n1 A := ⟨_, rfl⟩
  obtain ⟨bc, hbc⟩ : ∃ b, b = fits n2 B n3 C := ⟨_, rfl⟩
  have HAB := Lib.hid hab
  have HBA2 := Lib.hid hba
  have HBC2 := Lib.hid hbc
  clear hab hba hbc
  go_upto_region 7 with fail
  refine wp_region_held_drew (S := fun W => Below w3.heap.size w3 W) (by kernel_rfl) (Below.refl _ _).drew (fun hHeld => ?_)
  refine wpAnyH_take (i := 0) (oi := { dst := some 48, op := Op.load 25 (Operand.tmp 3), type := 25, pos := "outright.go:45", after := #[], guard := none }) (v := .agg #[.string n1, .slice p1 m1 q1]) rfl (by kernel_rfl) (by kernel_rfl) (by kernel_rfl) (fun _ _ _ h => h) (Or.inl ⟨by rfl, fun w hSw => by (have g0 := (HBA.out.up hSw).c0; have g1 := (HBA.out.up hSw).c1; go_simp <;> rfl)⟩) hHeld ?_
  try simp only [Act.put, List.setIfInBounds_toArray, List.set_cons_zero, List.set_cons_succ]
  refine wpAnyH_take (i := 1) (oi := { dst := some 49, op := Op.load 25 (Operand.tmp 4), type := 25, pos := "outright.go:45", after := #[], guard := none }) (v := .agg #[.string n2, .slice p2 m2 q2]) rfl (by kernel_rfl) (by kernel_rfl) (by kernel_rfl) (fun _ _ _ h => h) (Or.inl ⟨by rfl, fun w hSw => by (have g0 := (HBB.out.up hSw).c0; have g1 := (HBB.out.up hSw).c1; go_simp <;> rfl)⟩) hHeld ?_
  try simp only [Act.put, List.setIfInBounds_toArray, List.set_cons_zero, List.set_cons_succ]
  refine wpAnyH_take (i := 3) (oi := { dst := some 51, op := Op.load 25 (Operand.tmp 4), type := 25, pos := "outright.go:45", after := #[], guard := none }) (v := .agg #[.string n2, .slice p2 m2 q2]) rfl (by kernel_rfl) (by kernel_rfl) (by kernel_rfl) (fun _ _ _ h => h) (Or.inl ⟨by rfl, fun w hSw => by (have g0 := (HBB.out.up hSw).c0; have g1 := (HBB.out.up hSw).c1; go_simp <;> rfl)⟩) hHeld ?_
  try simp only [Act.put, List.setIfInBounds_toArray, List.set_cons_zero, List.set_cons_succ]
  refine wpAnyH_take (i := 4) (oi := { dst := some 52, op := Op.load 25 (Operand.tmp 3), type := 25, pos := "outright.go:45", after := #[], guard := none }) (v := .agg #[.string n1, .slice p1 m1 q1]) rfl (by kernel_rfl) (by kernel_rfl) (by kernel_rfl) (fun _ _ _ h => h) (Or.inl ⟨by rfl, fun w hSw => by (have g0 := (HBA.out.up hSw).c0; have g1 := (HBA.out.up hSw).c1; go_simp <;> rfl)⟩) hHeld ?_
  try simp only [Act.put, List.setIfInBounds_toArray, List.set_cons_zero, List.set_cons_succ]
  refine wpAnyH_take (i := 6) (oi := { dst := some 54, op := Op.load 25 (Operand.tmp 4), type := 25, pos := "outright.go:45", after := #[], guard := none }) (v := .agg #[.string n2, .slice p2 m2 q2]) rfl (by kernel_rfl) (by kernel_rfl) (by kernel_rfl) (fun _ _ _ h => h) (Or.inl ⟨by rfl, fun w hSw => by (have g0 := (HBB.out.up hSw).c0; have g1 := (HBB.out.up hSw).c1; go_simp <;> rfl)⟩) hHeld ?_
  try simp only [Act.put, List.setIfInBounds_toArray, List.set_cons_zero, List.set_cons_succ]
  refine wpAnyH_take (i := 7) (oi := { dst := some 55, op := Op.load 25 (Operand.tmp 5), type := 25, pos := "outright.go:45", after := #[], guard := none }) (v := .agg #[.string n3, .slice p3 m3 q3]) rfl (by kernel_rfl) (by kernel_rfl) (by kernel_rfl) (fun _ _ _ h => h) (Or.inl ⟨by rfl, fun w hSw => by (have g0 := (HBC.out.up hSw).c0; have g1 := (HBC.out.up hSw).c1; go_simp <;> rfl)⟩) hHeld ?_
  try simp only [Act.put, List.setIfInBounds_toArray, List.set_cons_zero, List.set_cons_succ]
  refine wpAnyH_ready (rs := [2]) (by kernel_rfl) (by simp) (AllReadyH.cons (o := { dst := some 50, op := Op.call { callee := Callee.value (Operand.func 17), args := #[Operand.tmp 48, Operand.tmp 49], argTypes := #[25, 25] }, type := 4, pos := "outright.go:45", after := #[{ on := 0, ground := Ground.data }, { on := 1, ground := Ground.data }], guard := none }) rfl (fun K2 hK2 => ?_) AllReadyH.nil)
  go_simp
  refine (fits_any n1 n2 p1 p2 m1 q1 m2 q2 A B _ (HV13.out.below hHeld) (HV23.out.below hHeld) HC1.out HC2.out).mono ?_
  rintro e wa ⟨rfl, bwa⟩
  rw [← HAB.out]
  refine hK2.out _ _ (hHeld.trans (bwa.mono hHeld.size)) (fun hH6_2 => ?_)
  clear bwa
  clear hK2 K2
  try simp only [Act.put, List.setIfInBounds_toArray, List.set_cons_zero, List.set_cons_succ]
  refine wpAnyH_ready (rs := [5]) (by kernel_rfl) (by simp) (AllReadyH.cons (o := { dst := some 53, op := Op.call { callee := Callee.value (Operand.func 17), args := #[Operand.tmp 51, Operand.tmp 52], argTypes := #[25, 25] }, type := 4, pos := "outright.go:45", after := #[{ on := 3, ground := Ground.data }, { on := 4, ground := Ground.data }, { on := 2, ground := Ground.chain }], guard := none }) rfl (fun K5 hK5 => ?_) AllReadyH.nil)
  go_simp
  refine (fits_any n2 n1 p2 p1 m2 q2 m1 q1 B A _ (HV23.out.below hH6_2) (HV13.out.below hH6_2) HC2.out HC1.out).mono ?_
  rintro e wb ⟨rfl, bwb⟩
  rw [← HBA2.out]
  refine hK5.out _ _ (hH6_2.trans (bwb.mono hH6_2.size)) (fun hH7_5 => ?_)
  clear bwb
  clear hK5 K5
  try simp only [Act.put, List.setIfInBounds_toArray, List.set_cons_zero, List.set_cons_succ]
  refine wpAnyH_ready (rs := [8]) (by kernel_rfl) (by simp) (AllReadyH.cons (o := { dst := some 56, op := Op.call { callee := Callee.value (Operand.func 17), args := #[Operand.tmp 54, Operand.tmp 55], argTypes := #[25, 25] }, type := 4, pos := "outright.go:45", after := #[{ on := 6, ground := Ground.data }, { on := 7, ground := Ground.data }, { on := 5, ground := Ground.chain }], guard := none }) rfl (fun K8 hK8 => ?_) AllReadyH.nil)
  go_simp
  refine (fits_any n2 n3 p2 p3 m2 q2 m3 q3 B C _ (HV23.out.below hH7_5) (HV33.out.below hH7_5) HC2.out HC3.out).mono ?_
  rintro e wz ⟨rfl, bwz⟩
  rw [← HBC2.out]
  refine hK8.out _ _ (hH7_5.trans (bwz.mono hH7_5.size)) (fun hH8_8 => ?_)
  clear bwz
  clear hK8 K8
  try simp only [Act.put, List.setIfInBounds_toArray, List.set_cons_zero, List.set_cons_succ]
  refine wpAnyH_take (i := 9) (oi := { dst := some 10, op := Op.assign (Operand.tmp 50), type := 4, pos := "outright.go:45", after := #[{ on := 2, ground := Ground.data }, { on := 8, ground := Ground.chain }, { on := 0, ground := Ground.phase }, { on := 1, ground := Ground.phase }, { on := 2, ground := Ground.phase }, { on := 3, ground := Ground.textOnly Departure.lateStores }, { on := 4, ground := Ground.textOnly Departure.lateStores }, { on := 5, ground := Ground.textOnly Departure.lateStoresUnsure }, { on := 6, ground := Ground.textOnly Departure.lateStores }, { on := 7, ground := Ground.textOnly Departure.lateStores }, { on := 8, ground := Ground.textOnly Departure.lateStoresUnsure }], guard := none }) (v := .bool ab) rfl (by kernel_rfl) (by kernel_rfl) (by kernel_rfl) (fun _ _ _ h => h) (Or.inl ⟨by rfl, fun w hSw => by (go_simp <;> rfl)⟩) hH8_8 ?_
  try simp only [Act.put, List.setIfInBounds_toArray, List.set_cons_zero, List.set_cons_succ]
  refine wpAnyH_take (i := 10) (oi := { dst := some 11, op := Op.assign (Operand.tmp 53), type := 4, pos := "outright.go:45", after := #[{ on := 5, ground := Ground.data }, { on := 9, ground := Ground.chain }, { on := 0, ground := Ground.phase }, { on := 1, ground := Ground.phase }, { on := 2, ground := Ground.phase }, { on := 3, ground := Ground.phase }, { on := 4, ground := Ground.phase }, { on := 5, ground := Ground.phase }, { on := 6, ground := Ground.textOnly Departure.lateStores }, { on := 7, ground := Ground.textOnly Departure.lateStores }, { on := 8, ground := Ground.textOnly Departure.lateStoresUnsure }, { on := 9, ground := Ground.phase }], guard := none }) (v := .bool ba) rfl (by kernel_rfl) (by kernel_rfl) (by kernel_rfl) (fun _ _ _ h => h) (Or.inl ⟨by rfl, fun w hSw => by (go_simp <;> rfl)⟩) hH8_8 ?_
  try simp only [Act.put, List.setIfInBounds_toArray, List.set_cons_zero, List.set_cons_succ]
  refine wpAnyH_take (i := 11) (oi := { dst := some 12, op := Op.assign (Operand.tmp 56), type := 4, pos := "outright.go:45", after := #[{ on := 8, ground := Ground.data }, { on := 10, ground := Ground.chain }, { on := 0, ground := Ground.phase }, { on := 1, ground := Ground.phase }, { on := 2, ground := Ground.phase }, { on := 3, ground := Ground.phase }, { on := 4, ground := Ground.phase }, { on := 5, ground := Ground.phase }, { on := 6, ground := Ground.phase }, { on := 7, ground := Ground.phase }, { on := 8, ground := Ground.phase }, { on := 9, ground := Ground.phase }, { on := 10, ground := Ground.phase }], guard := none }) (v := .bool bc) rfl (by kernel_rfl) (by kernel_rfl) (by kernel_rfl) (fun _ _ _ h => h) (Or.inl ⟨by rfl, fun w hSw => by (go_simp <;> rfl)⟩) hH8_8 ?_
  try simp only [Act.put, List.setIfInBounds_toArray, List.set_cons_zero, List.set_cons_succ]
  refine wpAnyH_done (by kernel_rfl) ?_ _
  have HL := Lib.hid hH8_8
  clear hHeld
  have HT4 := Lib.hid (HT3.out.up HL.out)
  clear HBA HBB HBC HV13 HV23 HV33
  obtain ⟨w4, hw4⟩ : ∃ W, W = wz := ⟨_, rfl⟩
  rw [← hw4] at HT4 ⊢
  clear HL hw4
  have HV14 := Lib.hid (HV1.out.below HT4.out.2.2.2)
  have HV24 := Lib.hid (HV2.out.below HT4.out.2.2.2)
  have HV34 := Lib.hid (HV3.out.below HT4.out.2.2.2)
  have hT4 := HT4.out
  have a0 := hT4.1.c0
  have a1 := hT4.1.c1
  have a2 := hT4.2.1.c0
  have a3 := hT4.2.1.c1
  have a4 := hT4.2.2.1.c0
  have a5 := hT4.2.2.1.c1
  clear hT4
  cases ab
  · go_wp2_with fail
    go_ret
    exact ⟨rfl, HT4.out.2.2.2⟩
  have HABt := Lib.hid (fits_two HAB.out.symm)
  cases bc
  · cases ba
    · go_wp2_with fail
      go_ret
      exact ⟨rfl, HT4.out.2.2.2⟩
    · have HBAt := Lib.hid (fits_two HBA2.out.symm)
      obtain rfl : n1 = n2 := HABt.out.1
      obtain rfl : A = B := fit_anti A B HABt.out.2 HBAt.out.2
      go_wp2_with fail
      refine (same_any n1 p1 p2 m1 q1 m2 q2 A _ HV14.out HV24.out HR1.out).mono ?_
      rintro e w5 ⟨rfl, b5⟩
      have HT5 := Lib.hid (HT4.out.up b5)
      clear b5 a0 a1 a2 a3 a4 a5
      go_wp2_with fail
      go_ret
      exact ⟨rfl, HT5.out.2.2.2⟩
  have HBCt := Lib.hid (fits_two HBC2.out.symm)
  have HAC : Hid (fits n1 A n3 C = true) := Lib.hid (by
    rw [show n1 = n3 from HABt.out.1.trans HBCt.out.1]
    exact fits_mk (fit_trans A B C HABt.out.2 HBCt.out.2))
  cases ba
  · go_wp2_with fail
    refine (fits_any n1 n3 p1 p3 m1 q1 m3 q3 A C _ HV14.out HV34.out HC1.out HC3.out).mono ?_
    rintro e w5 ⟨rfl, b5⟩
    rw [HAC.out]
    have HT5 := Lib.hid (HT4.out.up b5)
    clear b5 a0 a1 a2 a3 a4 a5
    have hT5 := HT5.out
    have a0 := hT5.1.c0
    have a1 := hT5.1.c1
    have a2 := hT5.2.1.c0
    have a3 := hT5.2.1.c1
    have a4 := hT5.2.2.1.c0
    have a5 := hT5.2.2.1.c1
    clear hT5
    go_wp2_with fail
    go_ret
    exact ⟨rfl, HT5.out.2.2.2⟩
  · have HBAt := Lib.hid (fits_two HBA2.out.symm)
    obtain rfl : n1 = n2 := HABt.out.1
    obtain rfl : A = B := fit_anti A B HABt.out.2 HBAt.out.2
    go_wp2_with fail
    refine (fits_any n1 n3 p1 p3 m1 q1 m3 q3 A C _ HV14.out HV34.out HC1.out HC3.out).mono ?_
    rintro e w5 ⟨rfl, b5⟩
    rw [HAC.out]
    have HT5 := Lib.hid (HT4.out.up b5)
    have HV15 := Lib.hid (HV14.out.below b5)
    have HV25 := Lib.hid (HV24.out.below b5)
    clear b5 a0 a1 a2 a3 a4 a5
    have hT5 := HT5.out
    have a0 := hT5.1.c0
    have a1 := hT5.1.c1
    have a2 := hT5.2.1.c0
    have a3 := hT5.2.1.c1
    have a4 := hT5.2.2.1.c0
    have a5 := hT5.2.2.1.c1
    clear hT5
    go_wp2_with fail
    refine (same_any n1 p1 p2 m1 q1 m2 q2 A _ HV15.out HV25.out HR1.out).mono ?_
    rintro e w6 ⟨rfl, b6⟩
    have HT6 := Lib.hid (HT5.out.up b6)
    clear b6 a0 a1 a2 a3 a4 a5
    go_wp2_with fail
    go_ret
    exact ⟨rfl, HT6.out.2.2.2⟩
theorem order_all (n1 : ByteArray) (p1 : Option Addr) (m1 q1 : Nat) (n2 : ByteArray) (p2 : Option Addr) (m2 q2 : Nat) (n3 : ByteArray) (p3 : Option Addr) (m3 q3 : Nat) (A B C : List Int) (w : World)
    (hv1 : View w p1 m1 A) (hc1 : m1 ≤ q1) (hr1 : ∀ x ∈ A, 0 ≤ x ∧ x < 256) (hs1 : n1.size ≤ maxLen) (hv2 : View w p2 m2 B) (hc2 : m2 ≤ q2) (hv3 : View w p3 m3 C) (hc3 : m3 ≤ q3) :
    Calls Try.prog 4 #[refV n1 p1 m1 q1, refV n2 p2 m2 q2, refV n3 p3 m3 q3] w fun e w' => e = .returned (.bool true) ∧ Below w.heap.size w w' := by
  by_cases h : 20 < m1 ∨ 20 < m2 ∨ 20 < m3
  · exact order_big n1 p1 m1 q1 n2 p2 m2 q2 n3 p3 m3 q3 w h
  · exact order_walk n1 p1 m1 q1 n2 p2 m2 q2 n3 p3 m3 q3 A B C w hv1 hc1 hr1 hs1 hv2 hc2 hv3 hc3 (by omega) (by omega) (by omega)
end Go.Proofs.Ytfphejndbnmfeab

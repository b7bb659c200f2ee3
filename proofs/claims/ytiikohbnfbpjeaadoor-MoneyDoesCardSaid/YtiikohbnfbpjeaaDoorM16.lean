import Derived.Test.YtiikohbnfbpjeaaDoorM15
namespace Go.Proofs.YtiikohbnfbpjeaaDoor
open Go.RowKit
theorem cmpI_swap (a b : Int) : cmpI b a = -cmpI a b := by unfold cmpI; (repeat' split) <;> omega
theorem cmpI_range (a b : Int) : -1 ≤ cmpI a b ∧ cmpI a b ≤ 1 := by unfold cmpI; (repeat' split) <;> omega
theorem cmpI_zero (a b : Int) : cmpI a b = 0 ↔ a = b := by unfold cmpI; (repeat' split) <;> omega
theorem cmpI_through (a b c : Int) (h : cmpI a b ≤ 0) (g : cmpI b c ≤ 0) : cmpI a c = min (cmpI a b) (cmpI b c) := by
  unfold cmpI at *
  (repeat' split) <;> (repeat' split at h) <;> (repeat' split at g) <;> omega
theorem cm_swap (m p n q : Int) : cmV n q m p = -cmV m p n q ∧ cmE n q m p = cmE m p n q := by
  unfold cmV cmE
  rw [cmpI_swap (vM m p) (vM n q)]
  cases may m p <;> cases may n q <;> simp
theorem cm_range (m p n q : Int) : -1 ≤ cmV m p n q ∧ cmV m p n q ≤ 1 := by
  unfold cmV
  split
  · exact cmpI_range _ _
  · omega
theorem cm_err (m p n q : Int) : cmE m p n q = 0 ∨ cmE m p n q = 140 := by unfold cmE; split <;> simp
theorem cm_ok {m p n q : Int} (h : cmE m p n q = 0) : may m p = true ∧ may n q = true ∧ cmV m p n q = cmpI (vM m p) (vM n q) := by
  rcases cm_two m p n q with ⟨a, b, c, d⟩ | ⟨a, b, c⟩
  · exact ⟨a, b, c⟩
  · rw [c] at h; omega
theorem cm_same {m p n q : Int} (h : cmE m p n q = 0) : cmV m p n q = 0 ↔ (m = n ∧ p = q) := by
  obtain ⟨a, b, c⟩ := cm_ok h
  rw [c, cmpI_zero]
  constructor
  · exact vM_inj a b
  · rintro ⟨rfl, rfl⟩; rfl
theorem cm_through {m p n q r s : Int} (h : cmE m p n q = 0) (g : cmE n q r s = 0) (h1 : cmV m p n q ≤ 0) (g1 : cmV n q r s ≤ 0) : cmV m p r s = min (cmV m p n q) (cmV n q r s) := by
  obtain ⟨a, b, c⟩ := cm_ok h
  obtain ⟨-, d, e⟩ := cm_ok g
  rw [c] at h1 ⊢
  rw [e] at g1 ⊢
  rw [(cm_yes a d).1]
  exact cmpI_through _ _ _ h1 g1
/-- Three Decimals in new blocks. -/
def Tri (w W : World) (a c b f d g : Int) : Prop := FBox W w.heap.size a c ∧ FBox W (w.heap.size + 1) b f ∧ FBox W (w.heap.size + 1 + 1) d g ∧ Below w.heap.size w W
theorem Tri.up {w W W' : World} {a c b f d g : Int} (h : Tri w W a c b f d g) (hb : Below W.heap.size W W') : Tri w W' a c b f d g := ⟨h.1.up hb, h.2.1.up hb, h.2.2.1.up hb, h.2.2.2.trans (hb.mono h.2.2.2.size)⟩
theorem Tri.new (w : World) (a c b f d g : Int) : Tri w (((w.alloc (.cells #[.int .i64 a, .int .i64 c] 26)).alloc (.cells #[.int .i64 b, .int .i64 f] 26)).alloc (.cells #[.int .i64 d, .int .i64 g] 26)) a c b f d g := by
  have z1 : (w.alloc (.cells #[.int .i64 a, .int .i64 c] 26)).heap.size = w.heap.size + 1 := by simp
  have z2 : ((w.alloc (.cells #[.int .i64 a, .int .i64 c] 26)).alloc (.cells #[.int .i64 b, .int .i64 f] 26)).heap.size = w.heap.size + 1 + 1 := by simp
  have h1 := FBox.new w a c
  have h2 := FBox.new (w.alloc (.cells #[.int .i64 a, .int .i64 c] 26)) b f
  have h3 := FBox.new ((w.alloc (.cells #[.int .i64 a, .int .i64 c] 26)).alloc (.cells #[.int .i64 b, .int .i64 f] 26)) d g
  rw [z1] at h2
  rw [z2] at h3
  exact ⟨(h1.up ((Below.refl _ _).alloc (Nat.le_refl _) _)).up ((Below.refl _ _).alloc (Nat.le_refl _) _), h2.up ((Below.refl _ _).alloc (Nat.le_refl _) _), h3, (((Below.refl _ w).alloc (Nat.le_refl _) _).alloc (by simp) _).alloc (by simp; omega) _⟩
set_option maxRecDepth 20000 in
set_option maxHeartbeats 8000000 in
theorem order_law (a c b f d g : Int) (w : World) (hT : TL w) (a1 : -9223372036854775808 ≤ a) (a2 : a ≤ 9223372036854775807) (_ : -9223372036854775808 ≤ c) (_ : c ≤ 9223372036854775807) (b1 : -9223372036854775808 ≤ b) (b2 : b ≤ 9223372036854775807) (_ : -9223372036854775808 ≤ f) (_ : f ≤ 9223372036854775807) (d1 : -9223372036854775808 ≤ d) (d2 : d ≤ 9223372036854775807) (_ : -9223372036854775808 ≤ g) (_ : g ≤ 9223372036854775807) :
    Calls Tryd.prog 9 #[.agg #[.int .i64 a, .int .i64 c], .agg #[.int .i64 b, .int .i64 f], .agg #[.int .i64 d, .int .i64 g]] w fun e w' => e = .returned (.bool true) ∧ Below w.heap.size w w' := by
  have HT := Lib.hid (fun W (hb : Below w.heap.size w W) => hT.on hb)
  have C1 := Lib.hid (fun W => compare_any a c b f W a1 (by omega) b1 (by omega))
  have C2 := Lib.hid (fun W => compare_any b f a c W b1 (by omega) a1 (by omega))
  have C3 := Lib.hid (fun W => compare_any b f d g W b1 (by omega) d1 (by omega))
  have C4 := Lib.hid (fun W => compare_any a c d g W a1 (by omega) d1 (by omega))
  rw [(cm_swap a c b f).1, (cm_swap a c b f).2] at C2
  have hx := cm_range a c b f
  have hy := cm_range b f d g
  have hE := cm_err a c b f
  have hF := cm_err b f d g
  have hG := cm_err a c d g
  have hs : cmE a c b f = 0 → (cmV a c b f = 0 ↔ (a = b ∧ c = f)) := cm_same
  have ht : cmE a c b f = 0 → cmE b f d g = 0 → cmV a c b f ≤ 0 → cmV b f d g ≤ 0 → cmV a c d g = min (cmV a c b f) (cmV b f d g) := cm_through
  obtain ⟨x, hxe⟩ : ∃ x, x = cmV a c b f := ⟨_, rfl⟩
  obtain ⟨y, hye⟩ : ∃ x, x = cmV b f d g := ⟨_, rfl⟩
  obtain ⟨z, hze⟩ : ∃ x, x = cmV a c d g := ⟨_, rfl⟩
  obtain ⟨E, hEe⟩ : ∃ x, x = cmE a c b f := ⟨_, rfl⟩
  obtain ⟨F, hFe⟩ : ∃ x, x = cmE b f d g := ⟨_, rfl⟩
  obtain ⟨G, hGe⟩ : ∃ x, x = cmE a c d g := ⟨_, rfl⟩
  rw [← hxe, ← hEe] at C1 C2
  rw [← hye, ← hFe] at C3
  rw [← hze, ← hGe] at C4
  rw [← hxe] at hx
  rw [← hye] at hy
  rw [← hEe] at hE
  rw [← hFe] at hF
  rw [← hGe] at hG
  rw [← hxe, ← hEe] at hs
  rw [← hxe, ← hye, ← hze, ← hEe, ← hFe] at ht
  obtain ⟨x1, x2⟩ := hx
  obtain ⟨y1, y2⟩ := hy
  have HE := Lib.hid hE
  have HF := Lib.hid hF
  have HG := Lib.hid hG
  have HS := Lib.hid hs
  have HTH := Lib.hid ht
  have P0 := Lib.hid (Tri.new w a c b f d g)
  clear hT hE hF hG hs ht hxe hye hze hEe hFe hGe a1 a2 b1 b2 d1 d2
  go_enter Tryd.func9, Tryd.ntmps9
  go_wp2_with fail
  obtain ⟨w0, hw0⟩ : ∃ w0, w0 = ((w.alloc (.cells #[.int .i64 a, .int .i64 c] 26)).alloc (.cells #[.int .i64 b, .int .i64 f] 26)).alloc (.cells #[.int .i64 d, .int .i64 g] 26) := ⟨_, rfl⟩
  rw [← hw0] at P0 ⊢
  clear hw0
  refine (alive_any w0 (HT.out _ P0.out.2.2.2)).mono ?_
  rintro e w1 ⟨rfl, q⟩
  have P1 := Lib.hid (P0.out.up q)
  obtain ⟨⟨⟨c0, c1, -⟩, -, -⟩, ⟨⟨c2, c3, -⟩, -, -⟩, ⟨⟨c4, c5, -⟩, -, -⟩, -⟩ := P1.out
  clear q
  go_wp2_with fail
  clear c0 c1 c2 c3 c4 c5
  refine (C1.out _).mono ?_
  rintro e w2 ⟨rfl, q⟩
  have P2 := Lib.hid (P1.out.up q)
  obtain ⟨⟨⟨c0, c1, -⟩, -, -⟩, ⟨⟨c2, c3, -⟩, -, -⟩, ⟨⟨c4, c5, -⟩, -, -⟩, -⟩ := P2.out
  clear q
  go_wp2_with fail
  clear c0 c1 c2 c3 c4 c5
  refine (C2.out _).mono ?_
  rintro e w3 ⟨rfl, q⟩
  have P3 := Lib.hid (P2.out.up q)
  obtain ⟨⟨⟨c0, c1, -⟩, -, -⟩, ⟨⟨c2, c3, -⟩, -, -⟩, ⟨⟨c4, c5, -⟩, -, -⟩, -⟩ := P3.out
  clear q
  go_wp2_with fail
  clear c0 c1 c2 c3 c4 c5
  refine (C3.out _).mono ?_
  rintro e w4 ⟨rfl, q⟩
  have P4 := Lib.hid (P3.out.up q)
  obtain ⟨⟨⟨c0, c1, -⟩, -, -⟩, ⟨⟨c2, c3, -⟩, -, -⟩, ⟨⟨c4, c5, -⟩, -, -⟩, -⟩ := P4.out
  clear q
  go_wp2_with fail
  clear c0 c1 c2 c3 c4 c5
  refine (C4.out _).mono ?_
  rintro e w5 ⟨rfl, q⟩
  have P5 := Lib.hid (P4.out.up q)
  obtain ⟨⟨⟨c0, c1, -⟩, -, -⟩, ⟨⟨c2, c3, -⟩, -, -⟩, ⟨⟨c4, c5, -⟩, -, -⟩, -⟩ := P5.out
  clear q
  go_upto_region 6 with fail
  go_cut [61] (fun v wx => v = .bool false ∧ Tri w wx a c b f d g)
  case first =>
    rcases HE.out with h | h
    · have HSS := Lib.hid (HS.out h)
      subst h
      by_cases hx0 : x = 0
      · obtain ⟨rfl, rfl⟩ := HSS.out.1 hx0
        subst hx0
        go_wp2_with fail
        go_meet
        exact ⟨rfl, P5.out⟩
      · have gx : (x == 0) = false := beq_eq_false_iff_ne.2 hx0
        by_cases hab : a = b
        · have hcf : ¬ c = f := fun h => hx0 (HSS.out.2 ⟨hab, h⟩)
          have gc : (c == f) = false := beq_eq_false_iff_ne.2 hcf
          subst hab
          clear hx0
          go_wp2_with fail
          go_meet
          exact ⟨rfl, P5.out⟩
        · have ga : (a == b) = false := beq_eq_false_iff_ne.2 hab
          clear hx0 hab
          go_wp2_with fail
          go_meet
          exact ⟨rfl, P5.out⟩
    · subst h
      go_wp2_with fail
      go_meet
      exact ⟨rfl, P5.out⟩
  case rest =>
    obtain ⟨rfl, hp⟩ := hcut
    have P6 := Lib.hid hp
    clear hp c0 c1 c2 c3 c4 c5
    rcases HE.out with h | h
    · have HT1 := Lib.hid (HTH.out h)
      subst h
      rcases HF.out with h | h
      · have HT2 := Lib.hid (HT1.out h)
        subst h
        rcases HG.out with h | h
        · subst h
          by_cases hx0 : 0 < x
          · go_wp2_with fail
            go_ret
            exact ⟨rfl, P6.out.2.2.2⟩
          · by_cases hy0 : 0 < y
            · have gx : decide (0 < x) = false := decide_eq_false hx0
              go_wp2_with fail
              go_ret
              exact ⟨rfl, P6.out.2.2.2⟩
            · have gx : decide (0 < x) = false := decide_eq_false hx0
              have gy : decide (0 < y) = false := decide_eq_false hy0
              have hz := HT2.out (by omega) (by omega)
              clear hx0 hy0
              subst hz
              go_wp2_with fail
              go_ret
              exact ⟨rfl, P6.out.2.2.2⟩
        · subst h
          go_wp2_with fail
          go_ret
          exact ⟨rfl, P6.out.2.2.2⟩
      · subst h
        go_wp2_with fail
        go_ret
        exact ⟨rfl, P6.out.2.2.2⟩
    · subst h
      go_wp2_with fail
      go_ret
      exact ⟨rfl, P6.out.2.2.2⟩
end Go.Proofs.YtiikohbnfbpjeaaDoor

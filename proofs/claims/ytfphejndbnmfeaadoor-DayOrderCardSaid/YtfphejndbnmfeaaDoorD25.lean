import Derived.Test.YtfphejndbnmfeaaDoorD23
import Derived.Test.YtfphejndbnmfeaaDoorD24
namespace Go.Proofs.YtfphejndbnmfeaaDoor
open Go.RowKit

theorem TextOf.less {S N T M : Nat} {s t : ByteArray} (h : TextOf S N s.data.toList) (g : TextOf T M t.data.toList) (hst : S < T) (hT : T ≤ 315569519999) : Op.bytesLess s.toList t.toList = true := by
  rw [ByteArray.toList_eq, ByteArray.toList_eq]
  obtain ⟨y, r, m, d, h1, h2, h3⟩ := h
  obtain ⟨y', r', m', d', g1, g2, g3⟩ := g
  rw [h3, g3]
  have hm : m' < 12 := month_lt g1.2 (by have := g2.1; omega)
  have hd := (dim_two y' m' hm).2
  refine text_before N M (year_lt (by have := g1.1; omega) (show T / 86400 ≤ 3652424 by omega)) (by omega) (by have := g2.2; omega) (Nat.mod_lt _ (by decide)) (Nat.mod_lt _ (by decide)) ?_
  by_cases hD : S / 86400 < T / 86400
  · rcases day_before h1 h2 g1 g2 hD with h | ⟨h, k | ⟨k, l⟩⟩
    · exact .inl h
    · exact .inr ⟨h, .inl k⟩
    · exact .inr ⟨h, .inr ⟨k, .inl l⟩⟩
  · have e : S / 86400 = T / 86400 := by omega
    rw [e] at h1
    obtain ⟨rfl, rfl⟩ := year_uniq h1 g1
    obtain ⟨rfl, rfl⟩ := month_uniq h2 g2
    exact .inr ⟨rfl, .inr ⟨rfl, .inr ⟨rfl, by omega⟩⟩⟩
theorem text_some (s n : Int) (w : World) (hT : Tabs w) : Calls Tryd.prog 15 #[.agg #[.int .i64 s, .int .i64 n]] w fun e w' => (∃ (t : ByteArray) (f : Int), e = .returned (.tuple #[.string t, .int .i64 f])) ∧ Below w.heap.size w w' := by
  cases hm : may s n with
  | false => exact (text_bad s n w hm).mono fun e w' h => ⟨⟨_, _, h.1⟩, h.2⟩
  | true =>
    have h := (may_iff _ _).1 hm
    obtain ⟨S, rfl⟩ := Int.eq_ofNat_of_zero_le h.1
    obtain ⟨N, rfl⟩ := Int.eq_ofNat_of_zero_le h.2.2.1
    exact (text_ok S N w hT.1 hT.2.1 hm).mono fun e w' h => ⟨⟨_, _, h.1.choose_spec.1⟩, h.2⟩
/-- Two DateTimes in blocks that may be written. -/
def Two (N : Nat) (w W : World) (a c b f : Int) : Prop := FBox W N a c ∧ FBox W (N + 1) b f ∧ Below N w W
theorem Two.up {N : Nat} {w W W' : World} {a c b f : Int} (h : Two N w W a c b f) (hb : Below W.heap.size W W') : Two N w W' a c b f :=
  ⟨h.1.up hb, h.2.1.up hb, h.2.2.trans (hb.mono (Nat.le_of_lt h.1.1.2.2))⟩
theorem Two.new (w : World) (a c b f : Int) : Two w.heap.size w ((w.alloc (.cells #[.int .i64 a, .int .i64 c] 23)).alloc (.cells #[.int .i64 b, .int .i64 f] 23)) a c b f := by
  have z : (w.alloc (.cells #[.int .i64 a, .int .i64 c] 23)).heap.size = w.heap.size + 1 := by simp
  refine ⟨(FBox.new w a c).up ((Below.refl _ _).alloc (Nat.le_refl _) _), ?_, ((Below.refl _ w).alloc (Nat.le_refl _) _).alloc (by simp) _⟩
  rw [← z]
  exact FBox.new _ b f
theorem Two.zero {N : Nat} {w W : World} {a c b f : Int} (h : Two N w W a c b f) : Two N w ((W.setCell ⟨N, 1, none⟩ (.int .i64 0)).setCell ⟨N + 1, 1, none⟩ (.int .i64 0)) a 0 b 0 :=
  ⟨(h.1.set1 0).other _ (by simp) _, (h.2.1.other _ (by simp) _).set1 0, (h.2.2.setCell (Nat.le_refl _) _).setCell (by simp) _⟩
set_option maxRecDepth 20000 in
set_option maxHeartbeats 8000000 in
theorem order_law (a c b f : Int) (w : World) (hT : Tabs w) (_ : -9223372036854775808 ≤ a) (_ : a ≤ 9223372036854775807) (_ : -9223372036854775808 ≤ c) (_ : c ≤ 9223372036854775807) (_ : -9223372036854775808 ≤ b) (_ : b ≤ 9223372036854775807) (_ : -9223372036854775808 ≤ f) (_ : f ≤ 9223372036854775807) :
    Calls Tryd.prog 8 #[.agg #[.int .i64 a, .int .i64 c], .agg #[.int .i64 b, .int .i64 f]] w fun e w' => e = .returned (.bool true) ∧ Below w.heap.size w w' := by
  have HTb := Lib.hid (fun W (hb : Below w.heap.size w W) => hT.on hb)
  have C1 := Lib.hid (fun W => compare_any a c b f W)
  have C2 := Lib.hid (fun W => compare_any b f a c W)
  have C3 := Lib.hid (fun W => compare_any a 0 b 0 W)
  rw [cmpD_neg a c b f] at C2
  rw [cmpD_same] at C3
  have hx := cmpD_range a c b f
  have hz := cmpD_zero a c b f
  obtain ⟨x, hxe⟩ : ∃ x, x = cmpD a c b f := ⟨_, rfl⟩
  rw [← hxe] at C1 C2 hx hz
  have HZ := Lib.hid hz
  obtain ⟨hx1, hx2⟩ := hx
  clear hT hz hxe
  go_enter Tryd.func8, Tryd.ntmps8
  go_wp2_with fail
  obtain ⟨w0, hw0⟩ : ∃ w0, w0 = (w.alloc (.cells #[.int .i64 a, .int .i64 c] 23)).alloc (.cells #[.int .i64 b, .int .i64 f] 23) := ⟨_, rfl⟩
  have D0 : Hid (Two w.heap.size w w0 a c b f) := Lib.hid (by rw [hw0]; exact Two.new w a c b f)
  rw [← hw0]
  clear hw0
  refine (alive_any w0 (HTb.out _ D0.out.2.2)).mono ?_
  rintro e w1 ⟨rfl, q⟩
  have D1 := Lib.hid (D0.out.up q)
  obtain ⟨⟨⟨d0, d1, -⟩, -, -⟩, ⟨⟨d2, d3, -⟩, -, -⟩, -⟩ := D1.out
  clear q
  go_wp2_with fail
  clear d0 d1 d2 d3
  refine (C1.out _).mono ?_
  rintro e w2 ⟨rfl, q⟩
  have D2 := Lib.hid (D1.out.up q)
  obtain ⟨⟨⟨d0, d1, -⟩, -, -⟩, ⟨⟨d2, d3, -⟩, -, -⟩, -⟩ := D2.out
  clear q
  go_upto_region 3 with fail
  go_cut [28] (fun s28 wx => s28 = .bool false ∧ Two w.heap.size w wx a c b f)
  case first =>
    go_wp2_with fail
    clear d0 d1 d2 d3
    refine (C2.out _).mono ?_
    rintro e w3 ⟨rfl, q⟩
    have D3 := Lib.hid (D2.out.up q)
    obtain ⟨⟨⟨d0, d1, -⟩, -, -⟩, ⟨⟨d2, d3, -⟩, -, -⟩, -⟩ := D3.out
    clear q
    by_cases hx0 : x = 0
    · obtain ⟨hab, hcf⟩ := HZ.out.1 hx0
      subst hx0 hab hcf
      go_wp2_with fail
      go_meet
      exact ⟨rfl, D3.out⟩
    · have gx : (x == 0) = false := beq_eq_false_iff_ne.2 hx0
      by_cases hab : a = b
      · have hcf : ¬ c = f := fun h => hx0 (HZ.out.2 ⟨hab, h⟩)
        have gc : (c == f) = false := beq_eq_false_iff_ne.2 hcf
        subst hab
        clear hx0
        go_wp2_with fail
        go_meet
        exact ⟨rfl, D3.out⟩
      · have ga : (a == b) = false := beq_eq_false_iff_ne.2 hab
        clear hx0 hab
        go_wp2_with fail
        go_meet
        exact ⟨rfl, D3.out⟩
  case rest =>
    obtain ⟨rfl, hD3⟩ := hcut
    have D3 := Lib.hid hD3
    obtain ⟨⟨⟨e0, e1, -⟩, g0, g1⟩, ⟨⟨e2, e3, -⟩, g2, g3⟩, -⟩ := hD3
    clear d0 d1 d2 d3 D2 D1 D0
    have D4 := Lib.hid D3.out.zero
    go_wp2_with fail
    obtain ⟨w4, hw4⟩ : ∃ w4, w4 = (wc.setCell ⟨w.heap.size, 1, none⟩ (.int .i64 0)).setCell ⟨w.heap.size + 1, 1, none⟩ (.int .i64 0) := ⟨_, rfl⟩
    rw [← hw4] at D4
    rw [← hw4]
    clear hw4 e0 e1 e2 e3 g0 g1 g2 g3 D3
    cases hm : may a 0 with
    | false =>
      have T1 := Lib.hid (fun W => text_bad a 0 W hm)
      clear hm
      refine (T1.out _).mono ?_
      rintro e w5 ⟨rfl, q⟩
      have D5 := Lib.hid (D4.out.up q)
      obtain ⟨⟨⟨e0, e1, -⟩, -, -⟩, ⟨⟨e2, e3, -⟩, -, -⟩, -⟩ := D5.out
      clear q
      go_wp2_with fail
      clear e0 e1 e2 e3
      refine (text_some b 0 w5 (HTb.out _ D5.out.2.2)).mono ?_
      rintro e w6 ⟨⟨t, k, rfl⟩, q⟩
      have D6 := Lib.hid (D5.out.up q)
      obtain ⟨⟨⟨e0, e1, -⟩, -, -⟩, ⟨⟨e2, e3, -⟩, -, -⟩, -⟩ := D6.out
      clear q
      go_wp2_with fail
      clear e0 e1 e2 e3
      refine (C3.out _).mono ?_
      rintro e w7 ⟨rfl, q⟩
      have D7 := Lib.hid (D6.out.up q)
      obtain ⟨y, hy⟩ : ∃ y, y = cmpI a b := ⟨_, rfl⟩
      rw [← hy]
      clear q hy
      go_wp2_with fail
      go_ret
      exact ⟨rfl, D7.out.2.2⟩
    | true =>
      obtain ⟨hm1, hm2, -, -⟩ := (may_iff _ _).1 hm
      obtain ⟨S, hS⟩ := Int.eq_ofNat_of_zero_le hm1
      have T1 := Lib.hid (fun W (hb : Below w.heap.size w W) => text_ok S 0 W (HTb.out W hb).1 (HTb.out W hb).2.1 (by rw [hS] at hm; exact hm))
      rw [show ((0 : Nat) : Int) = 0 from rfl, ← hS] at T1
      have HSA := Lib.hid hS
      have HS2 := Lib.hid hm2
      clear hm hS hm1 hm2
      refine (T1.out _ D4.out.2.2).mono ?_
      rintro e w5 ⟨⟨s, rfl, hs⟩, q⟩
      have HSX := Lib.hid hs
      have D5 := Lib.hid (D4.out.up q)
      obtain ⟨⟨⟨e0, e1, -⟩, -, -⟩, ⟨⟨e2, e3, -⟩, -, -⟩, -⟩ := D5.out
      clear q hs
      go_wp2_with fail
      clear e0 e1 e2 e3
      cases hm : may b 0 with
      | false =>
        have T2 := Lib.hid (fun W => text_bad b 0 W hm)
        clear hm
        refine (T2.out _).mono ?_
        rintro e w6 ⟨rfl, q⟩
        have D6 := Lib.hid (D5.out.up q)
        obtain ⟨⟨⟨e0, e1, -⟩, -, -⟩, ⟨⟨e2, e3, -⟩, -, -⟩, -⟩ := D6.out
        clear q
        go_wp2_with fail
        clear e0 e1 e2 e3
        refine (C3.out _).mono ?_
        rintro e w7 ⟨rfl, q⟩
        have D7 := Lib.hid (D6.out.up q)
        obtain ⟨y, hy⟩ : ∃ y, y = cmpI a b := ⟨_, rfl⟩
        rw [← hy]
        clear q hy
        go_wp2_with fail
        go_ret
        exact ⟨rfl, D7.out.2.2⟩
      | true =>
        obtain ⟨hm1, hm2, -, -⟩ := (may_iff _ _).1 hm
        obtain ⟨T, hT'⟩ := Int.eq_ofNat_of_zero_le hm1
        have T2 := Lib.hid (fun W (hb : Below w.heap.size w W) => text_ok T 0 W (HTb.out W hb).1 (HTb.out W hb).2.1 (by rw [hT'] at hm; exact hm))
        rw [show ((0 : Nat) : Int) = 0 from rfl, ← hT'] at T2
        have HTA := Lib.hid hT'
        have HT2 := Lib.hid hm2
        clear hm hT' hm1 hm2
        refine (T2.out _ D5.out.2.2).mono ?_
        rintro e w6 ⟨⟨t, rfl, ht⟩, q⟩
        have HTX := Lib.hid ht
        have D6 := Lib.hid (D5.out.up q)
        obtain ⟨⟨⟨e0, e1, -⟩, -, -⟩, ⟨⟨e2, e3, -⟩, -, -⟩, -⟩ := D6.out
        clear q ht
        go_wp2_with fail
        clear e0 e1 e2 e3
        refine (C3.out _).mono ?_
        rintro e w7 ⟨rfl, q⟩
        have D7 := Lib.hid (D6.out.up q)
        clear q
        by_cases h1 : S < T
        · have HY : Hid (cmpI a b = -1) := Lib.hid (by unfold cmpI; rw [if_pos (by have := HSA.out; have := HTA.out; omega)])
          have hl := HSX.out.less HTX.out h1 (by have := HT2.out; have := HTA.out; omega)
          have he : (s.toList == t.toList) = false := beq_eq_false_iff_ne.2 (less_ne hl)
          rw [HY.out]
          clear h1
          go_wp2_with fail
          go_ret
          exact ⟨rfl, D7.out.2.2⟩
        · by_cases h2 : T < S
          · have HY : Hid (cmpI a b = 1) := Lib.hid (by unfold cmpI; rw [if_neg (by have := HSA.out; have := HTA.out; omega), if_pos (by have := HSA.out; have := HTA.out; omega)])
            have hl0 := HTX.out.less HSX.out h2 (by have := HS2.out; have := HSA.out; omega)
            have hl : Op.bytesLess s.toList t.toList = false := less_asym hl0
            have he : (s.toList == t.toList) = false := beq_eq_false_iff_ne.2 (fun h => less_ne hl0 h.symm)
            rw [HY.out]
            clear h1 h2 hl0
            go_wp2_with fail
            go_ret
            exact ⟨rfl, D7.out.2.2⟩
          · obtain rfl : S = T := by omega
            have HY : Hid (cmpI a b = 0) := Lib.hid (by rw [cmpI_zero]; rw [HSA.out, HTA.out])
            obtain rfl : s = t := Go.WideShapes.bytes_inj (HSX.out.uniq HTX.out)
            have hl : Op.bytesLess s.toList s.toList = false := less_self _
            rw [HY.out]
            clear h1 h2
            go_wp2_with fail
            go_ret
            exact ⟨rfl, D7.out.2.2⟩
end Go.Proofs.YtfphejndbnmfeaaDoor

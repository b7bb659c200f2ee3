import Derived.Test.YtfphejndbnmfeaaDoorD21
namespace Go.Proofs.YtfphejndbnmfeaaDoor
open Go.RowKit

theorem frac_len (n : Nat) : (frac n).length ≤ 10 := by
  unfold frac
  split
  · simp
  · have := trim_le (dgs 9 n)
    rw [dgs_length] at this
    simp; omega
theorem TextOf.size {S N : Nat} {s : ByteArray} (h : TextOf S N s.data.toList) : s.size = 20 + (frac N).length := by
  obtain ⟨y, r, m, d, -, -, h3⟩ := h
  have : s.size = s.data.toList.length := rfl
  rw [this, h3, dtext_length]
theorem TextOf.parse {S N : Nat} {s : ByteArray} (h : TextOf S N s.data.toList) (hm : may S N = true) : pS s = S ∧ pN s = N ∧ pE s = 0 := by
  obtain ⟨y, r, m, d, h1, h2, h3⟩ := h
  exact p_back h1 h2 hm h3
theorem p_nat (s : ByteArray) : ∃ S N : Nat, pS s = S ∧ pN s = N ∧ may S N = true ∧ (pE s = 0 ∨ pE s = 120) ∧ (pE s = 0 → 20 + (frac N).length ≤ s.size) := by
  cases hp : pOk s with
  | false => exact ⟨0, 0, by unfold pS; rw [hp]; rfl, by unfold pN; rw [hp]; rfl, by decide, .inr (by unfold pE; rw [hp]; rfl), fun h => by unfold pE at h; rw [hp] at h; simp at h⟩
  | true =>
    have he : pE s = 0 := by unfold pE; rw [hp]; rfl
    obtain ⟨-, hm, hl⟩ := p_may he
    have h := (may_iff _ _).1 hm
    obtain ⟨S, hS⟩ := Int.eq_ofNat_of_zero_le h.1
    obtain ⟨N, hN⟩ := Int.eq_ofNat_of_zero_le h.2.2.1
    rw [hN] at hl
    exact ⟨S, N, hS, hN, by rw [← hS, ← hN]; exact hm, .inl he, fun _ => hl⟩
theorem box_new (w : World) (a c : Int) : (w.alloc (.cells #[.int .i64 a, .int .i64 c] 23)).cell? ⟨w.heap.size, 0, none⟩ = some (.int .i64 a) ∧ (w.alloc (.cells #[.int .i64 a, .int .i64 c] 23)).cell? ⟨w.heap.size, 1, none⟩ = some (.int .i64 c) :=
  ⟨World.cell?_alloc_mark w _ 23 _ 0, World.cell?_alloc_mark w _ 23 _ 1⟩
/-- A DateTime lies in a block. -/
def DBox (w : World) (B : Nat) (a c : Int) : Prop := w.cell? ⟨B, 0, none⟩ = some (.int .i64 a) ∧ w.cell? ⟨B, 1, none⟩ = some (.int .i64 c) ∧ B < w.heap.size
theorem DBox.up {w w' : World} {B : Nat} {a c : Int} (h : DBox w B a c) (hb : Below w.heap.size w w') : DBox w' B a c :=
  ⟨(hb.cell (p := ⟨B, 0, none⟩) h.2.2).trans h.1, (hb.cell (p := ⟨B, 1, none⟩) h.2.2).trans h.2.1, Nat.lt_of_lt_of_le h.2.2 hb.size⟩
theorem DBox.new (w : World) (a c : Int) : DBox (w.alloc (.cells #[.int .i64 a, .int .i64 c] 23)) w.heap.size a c := ⟨(box_new w a c).1, (box_new w a c).2, by simp⟩
set_option maxRecDepth 20000 in
set_option maxHeartbeats 8000000 in
theorem back_bad (a c : Int) (s : ByteArray) (w : World) (hT : Tabs w) (hs : s.size ≤ maxLen) (hm : may a c = false) :
    Calls Tryd.prog 6 #[.agg #[.int .i64 a, .int .i64 c], .string s] w fun e w' => e = .returned (.bool true) ∧ Below w.heap.size w w' := by
  have HS := Lib.hid hs
  have HTb := Lib.hid (fun W (hb : Below w.heap.size w W) => hT.on hb)
  obtain ⟨S2, N2, q1, q2, q3, q4, q5⟩ := p_nat s
  have Q3 := Lib.hid q3
  have HPs := Lib.hid (fun W (hb : Below w.heap.size w W) => parse_t s W (hT.on hb) hs)
  rw [q1, q2] at HPs
  obtain ⟨G, hG⟩ : ∃ G, G = pE s := ⟨_, rfl⟩
  rw [← hG] at HPs q4 q5
  have HLEN := Lib.hid q5
  have HG := Lib.hid q4
  have HTX2 := Lib.hid (fun W (hb : Below w.heap.size w W) => text_ok S2 N2 W (hT.on hb).1 (hT.on hb).2.1 q3)
  have HCH2 := Lib.hid (fun W => check_any S2 N2 W)
  have hch : chD S2 N2 = 0 := by unfold chD; rw [if_pos q3]
  rw [hch] at HCH2
  have HFL := Lib.hid (frac_len N2)
  obtain ⟨i, hi⟩ : ∃ i : Int, i = S2 := ⟨_, rfl⟩
  obtain ⟨j, hj⟩ : ∃ j : Int, j = N2 := ⟨_, rfl⟩
  have HI := Lib.hid hi
  have HJ := Lib.hid hj
  rw [← hi, ← hj] at HTX2
  rw [← hi, ← hj] at HPs
  rw [← hi, ← hj] at HCH2
  have HTX := Lib.hid (fun W => text_bad a c W hm)
  clear hT hs hm q1 q2 q3 q4 q5 hG hi hj hch
  go_enter Tryd.func6, Tryd.ntmps6
  go_wp2_with fail
  obtain ⟨w0, hw0⟩ : ∃ w0, w0 = w.alloc (.cells #[.int .i64 a, .int .i64 c] 23) := ⟨_, rfl⟩
  have D0 : Hid (DBox w0 w.heap.size a c) := Lib.hid (by rw [hw0]; exact DBox.new w a c)
  have B0 : Hid (Below w.heap.size w w0) := Lib.hid (by rw [hw0]; exact (Below.refl _ w).alloc (Nat.le_refl _) _)
  rw [← hw0]
  clear hw0
  refine (alive_any w0 (HTb.out _ B0.out)).mono ?_
  rintro e w1 ⟨rfl, b⟩
  have D1 := Lib.hid (D0.out.up b)
  have B1 := Lib.hid (B0.out.trans (b.mono B0.out.size))
  obtain ⟨d0, d1, -⟩ := D1.out
  clear b
  go_wp2_with fail
  clear d0 d1
  refine (HTX.out _).mono ?_
  rintro e w2 ⟨rfl, b⟩
  have B2 := Lib.hid (B1.out.trans (b.mono B1.out.size))
  have D2 := Lib.hid (D1.out.up b)
  have HP := Lib.hid (parse_t ⟨#[]⟩ w2 (HTb.out _ B2.out) (by unfold maxLen; decide))
  rw [show pS ⟨#[]⟩ = 0 by decide +kernel, show pN ⟨#[]⟩ = 0 by decide +kernel, show pE ⟨#[]⟩ = 120 by decide +kernel] at HP
  clear b
  go_wp2_with fail
  refine HP.out.mono ?_
  rintro e w3 ⟨rfl, b⟩
  have B3 := Lib.hid ((B2.out.trans (b.mono B2.out.size)).alloc (B2.out.trans (b.mono B2.out.size)).size (.cells #[.int .i64 0, .int .i64 0] 23))
  clear b HP
  go_wp2_with fail
  obtain ⟨w4, hw4⟩ : ∃ w4, w4 = w3.alloc (.cells #[.int .i64 0, .int .i64 0] 23) := ⟨_, rfl⟩
  rw [← hw4] at B3
  rw [← hw4]
  clear hw4
  refine (HPs.out _ B3.out).mono ?_
  rintro e w5 ⟨rfl, b⟩
  have B5 := Lib.hid ((B3.out.trans (b.mono B3.out.size)).alloc (B3.out.trans (b.mono B3.out.size)).size (.cells #[.int .i64 i, .int .i64 j] 23))
  have D5 := Lib.hid (DBox.new w5 i j)
  obtain ⟨f0, f1, -⟩ := D5.out
  clear b
  go_wp2_with fail
  clear f0 f1
  refine (HTX2.out _ B5.out).mono ?_
  rintro e w6 ⟨⟨u, rfl, hu⟩, b⟩
  have B6 := Lib.hid (B5.out.trans (b.mono B5.out.size))
  have D6 := Lib.hid (D5.out.up b)
  have HP2 := Lib.hid (parse_t u w6 (HTb.out _ B6.out) (by unfold maxLen; have := hu.size; have := frac_len N2; omega))
  obtain ⟨e1, e2, e3⟩ := hu.parse Q3.out
  rw [e1, e2, e3, ← HI.out, ← HJ.out] at HP2
  have HUZ := Lib.hid hu.size
  clear b hu e1 e2 e3
  go_wp2_with fail
  refine HP2.out.mono ?_
  rintro e w7 ⟨rfl, b⟩
  have B7 := Lib.hid ((B6.out.trans (b.mono B6.out.size)).alloc (B6.out.trans (b.mono B6.out.size)).size (.cells #[.int .i64 i, .int .i64 j] 23))
  have D7 := Lib.hid ((D6.out.up b).up ((Below.refl _ w7).alloc (Nat.le_refl _) (.cells #[.int .i64 i, .int .i64 j] 23)))
  have E7 := Lib.hid (DBox.new w7 i j)
  obtain ⟨f0, f1, -⟩ := D7.out
  obtain ⟨g0, g1, -⟩ := E7.out
  clear b HP2
  rcases HG.out with hg | hg
  · have hle : u.size ≤ s.size := by have := HLEN.out hg; have := HUZ.out; omega
    have hle2 : decide (u.size ≤ s.size) = true := by simpa using hle
    subst hg
    have hs2 := HS.out
    unfold maxLen at hs2
    go_wp2_with fail
    refine (HCH2.out _).mono ?_
    rintro e w8 ⟨rfl, b⟩
    have B8 := Lib.hid (B7.out.trans (b.mono B7.out.size))
    clear b
    go_wp2_with fail
    go_ret
    exact ⟨rfl, B8.out⟩
  · subst hg
    go_wp2_with fail
    go_ret
    exact ⟨rfl, B7.out⟩
set_option maxRecDepth 20000 in
set_option maxHeartbeats 8000000 in
theorem back_ok (S N : Nat) (s : ByteArray) (w : World) (hT : Tabs w) (hs : s.size ≤ maxLen) (hm : may S N = true) :
    Calls Tryd.prog 6 #[.agg #[.int .i64 S, .int .i64 N], .string s] w fun e w' => e = .returned (.bool true) ∧ Below w.heap.size w w' := by
  have HS := Lib.hid hs
  have HTb := Lib.hid (fun W (hb : Below w.heap.size w W) => hT.on hb)
  obtain ⟨S2, N2, q1, q2, q3, q4, q5⟩ := p_nat s
  have Q3 := Lib.hid q3
  have HPs := Lib.hid (fun W (hb : Below w.heap.size w W) => parse_t s W (hT.on hb) hs)
  rw [q1, q2] at HPs
  obtain ⟨G, hG⟩ : ∃ G, G = pE s := ⟨_, rfl⟩
  rw [← hG] at HPs q4 q5
  have HLEN := Lib.hid q5
  have HG := Lib.hid q4
  have HTX2 := Lib.hid (fun W (hb : Below w.heap.size w W) => text_ok S2 N2 W (hT.on hb).1 (hT.on hb).2.1 q3)
  have HCH2 := Lib.hid (fun W => check_any S2 N2 W)
  have hch : chD S2 N2 = 0 := by unfold chD; rw [if_pos q3]
  rw [hch] at HCH2
  have HFL := Lib.hid (frac_len N2)
  obtain ⟨i, hi⟩ : ∃ i : Int, i = S2 := ⟨_, rfl⟩
  obtain ⟨j, hj⟩ : ∃ j : Int, j = N2 := ⟨_, rfl⟩
  have HI := Lib.hid hi
  have HJ := Lib.hid hj
  rw [← hi, ← hj] at HTX2
  rw [← hi, ← hj] at HPs
  rw [← hi, ← hj] at HCH2
  have HM := Lib.hid hm
  have HTX := Lib.hid (fun W (hb : Below w.heap.size w W) => text_ok S N W (hT.on hb).1 (hT.on hb).2.1 hm)
  obtain ⟨a, ha⟩ : ∃ a : Int, a = S := ⟨_, rfl⟩
  obtain ⟨c, hc⟩ : ∃ c : Int, c = N := ⟨_, rfl⟩
  have HA := Lib.hid ha
  have HC := Lib.hid hc
  rw [← ha, ← hc] at HTX
  rw [← ha, ← hc]
  clear hT hs hm q1 q2 q3 q4 q5 hG hi hj ha hc hch
  go_enter Tryd.func6, Tryd.ntmps6
  go_wp2_with fail
  obtain ⟨w0, hw0⟩ : ∃ w0, w0 = w.alloc (.cells #[.int .i64 a, .int .i64 c] 23) := ⟨_, rfl⟩
  have D0 : Hid (DBox w0 w.heap.size a c) := Lib.hid (by rw [hw0]; exact DBox.new w a c)
  have B0 : Hid (Below w.heap.size w w0) := Lib.hid (by rw [hw0]; exact (Below.refl _ w).alloc (Nat.le_refl _) _)
  rw [← hw0]
  clear hw0
  refine (alive_any w0 (HTb.out _ B0.out)).mono ?_
  rintro e w1 ⟨rfl, b⟩
  have D1 := Lib.hid (D0.out.up b)
  have B1 := Lib.hid (B0.out.trans (b.mono B0.out.size))
  obtain ⟨d0, d1, -⟩ := D1.out
  clear b
  go_wp2_with fail
  clear d0 d1
  refine (HTX.out _ B1.out).mono ?_
  rintro e w2 ⟨⟨t, rfl, ht⟩, b⟩
  have D2 := Lib.hid (D1.out.up b)
  have B2 := Lib.hid (B1.out.trans (b.mono B1.out.size))
  have HP := Lib.hid (parse_t t w2 (HTb.out _ B2.out) (by unfold maxLen; have := ht.size; have := frac_len N; omega))
  obtain ⟨e1, e2, e3⟩ := ht.parse HM.out
  rw [e1, e2, e3, ← HA.out, ← HC.out] at HP
  have hz : t.size ≤ 30 := by have := ht.size; have := frac_len N; omega
  clear b ht e1 e2 e3
  go_wp2_with fail
  refine HP.out.mono ?_
  rintro e w3 ⟨rfl, b⟩
  have D3 := Lib.hid ((D2.out.up b).up ((Below.refl _ w3).alloc (Nat.le_refl _) (.cells #[.int .i64 a, .int .i64 c] 23)))
  have B3 := Lib.hid ((B2.out.trans (b.mono B2.out.size)).alloc (B2.out.trans (b.mono B2.out.size)).size (.cells #[.int .i64 a, .int .i64 c] 23))
  have E3 := Lib.hid (DBox.new w3 a c)
  obtain ⟨d0, d1, -⟩ := D3.out
  obtain ⟨f0, f1, -⟩ := E3.out
  clear b HP
  go_wp2_with fail
  clear d0 d1 f0 f1
  obtain ⟨w4, hw4⟩ : ∃ w4, w4 = w3.alloc (.cells #[.int .i64 a, .int .i64 c] 23) := ⟨_, rfl⟩
  rw [← hw4] at B3
  rw [← hw4]
  clear hw4 D3 E3
  refine (HPs.out _ B3.out).mono ?_
  rintro e w5 ⟨rfl, b⟩
  have B5 := Lib.hid ((B3.out.trans (b.mono B3.out.size)).alloc (B3.out.trans (b.mono B3.out.size)).size (.cells #[.int .i64 i, .int .i64 j] 23))
  have D5 := Lib.hid (DBox.new w5 i j)
  obtain ⟨f0, f1, -⟩ := D5.out
  clear b
  go_wp2_with fail
  clear f0 f1
  refine (HTX2.out _ B5.out).mono ?_
  rintro e w6 ⟨⟨u, rfl, hu⟩, b⟩
  have B6 := Lib.hid (B5.out.trans (b.mono B5.out.size))
  have D6 := Lib.hid (D5.out.up b)
  have HP2 := Lib.hid (parse_t u w6 (HTb.out _ B6.out) (by unfold maxLen; have := hu.size; have := frac_len N2; omega))
  obtain ⟨e1, e2, e3⟩ := hu.parse Q3.out
  rw [e1, e2, e3, ← HI.out, ← HJ.out] at HP2
  have HUZ := Lib.hid hu.size
  clear b hu e1 e2 e3
  go_wp2_with fail
  refine HP2.out.mono ?_
  rintro e w7 ⟨rfl, b⟩
  have B7 := Lib.hid ((B6.out.trans (b.mono B6.out.size)).alloc (B6.out.trans (b.mono B6.out.size)).size (.cells #[.int .i64 i, .int .i64 j] 23))
  have D7 := Lib.hid ((D6.out.up b).up ((Below.refl _ w7).alloc (Nat.le_refl _) (.cells #[.int .i64 i, .int .i64 j] 23)))
  have E7 := Lib.hid (DBox.new w7 i j)
  obtain ⟨f0, f1, -⟩ := D7.out
  obtain ⟨g0, g1, -⟩ := E7.out
  clear b HP2
  rcases HG.out with hg | hg
  · have hle : u.size ≤ s.size := by have := HLEN.out hg; have := HUZ.out; omega
    have hle2 : decide (u.size ≤ s.size) = true := by simpa using hle
    subst hg
    have hs2 := HS.out
    unfold maxLen at hs2
    go_wp2_with fail
    refine (HCH2.out _).mono ?_
    rintro e w8 ⟨rfl, b⟩
    have B8 := Lib.hid (B7.out.trans (b.mono B7.out.size))
    clear b
    go_wp2_with fail
    go_ret
    exact ⟨rfl, B8.out⟩
  · subst hg
    go_wp2_with fail
    go_ret
    exact ⟨rfl, B7.out⟩
theorem back_law (a c : Int) (s : ByteArray) (w : World) (hT : Tabs w) (_ : -9223372036854775808 ≤ a) (_ : a ≤ 9223372036854775807) (_ : -9223372036854775808 ≤ c) (_ : c ≤ 9223372036854775807) (hs : s.size ≤ maxLen) :
    Calls Tryd.prog 6 #[.agg #[.int .i64 a, .int .i64 c], .string s] w fun e w' => e = .returned (.bool true) ∧ Below w.heap.size w w' := by
  cases hm : may a c with
  | false => exact back_bad a c s w hT hs hm
  | true =>
    have h := (may_iff _ _).1 hm
    obtain ⟨S, rfl⟩ := Int.eq_ofNat_of_zero_le h.1
    obtain ⟨N, rfl⟩ := Int.eq_ofNat_of_zero_le h.2.2.1
    exact back_ok S N s w hT hs hm
end Go.Proofs.YtfphejndbnmfeaaDoor

import Derived.Test.YtiikohbnfbpjeaaDoorM16
namespace Go.Proofs.YtiikohbnfbpjeaaDoor
open Go.RowKit
theorem may_zero : may 0 0 = true := by decide
theorem in64_zero : in64 0 = true := by decide
theorem tText_size (m : Int) (p : Nat) (h : may m p = true) (h64 : in64 m = true) : (⟨(tText m p).toArray⟩ : ByteArray).size ≤ 100 := by
  rw [mk_size, tText_mid, List.length_append]
  obtain ⟨-, h18, -⟩ := may_parts h
  have e1 := tA_len m p
  have e2 := tB_len m p
  have h64' := (in64_iff m).1 h64
  have hb : m.natAbs ≤ 9223372036854775808 := by omega
  have hd : (Lib.decDigits m.natAbs).length ≤ 20 := dec_len 19 m.natAbs (Nat.lt_of_le_of_lt hb (by decide))
  have hz : (tZ m p).length ≤ 39 := by unfold tZ; rw [List.length_append, List.length_replicate]; omega
  have hs : (sgL (decide (m < 0))).length ≤ 1 := by cases decide (m < 0) <;> simp [sgL]
  have hm : (tMid m p).length ≤ 40 := by
    unfold tMid
    split
    · omega
    · simp only [List.length_append, List.length_cons]; omega
  omega
/-- What a text tells is a Decimal that may be, or nought. -/
theorem p_always (l : List UInt8) : ∃ k : Nat, pS l = k ∧ may (pM l) k = true ∧ in64 (pM l) = true ∧ (pE l = 0 ∨ pE l = 140) ∧ (pE l = 0 → (tText (pM l) k).length ≤ l.length) := by
  rcases p_two l with ⟨h, e, -, h0⟩ | ⟨h, e, e1, e2⟩
  · obtain ⟨k, hk⟩ := Int.eq_ofNat_of_zero_le h0
    obtain ⟨a, b, c⟩ := text_short l h k hk
    exact ⟨k, hk, a, b, .inl e, fun _ => c⟩
  · exact ⟨0, e2, by rw [e1]; exact may_zero, by rw [e1]; exact in64_zero, .inr e, fun h => by rw [e] at h; omega⟩
theorem text_t (m : Int) (p : Nat) (w : World) (hT : PW w) (h : may m p = true) (h64 : in64 m = true) :
    Calls Tryd.prog 10 #[.agg #[.int .i64 m, .int .i64 p]] w fun e w' => e = .returned (.tuple #[.string ⟨(tText m p).toArray⟩, .int .i64 0]) ∧ Below w.heap.size w w' := by
  have h' := (in64_iff m).1 h64
  exact text_ok m p w hT h h'.1 (by omega)
/-- The text told again. -/
theorem again_t (m : Int) (p : Nat) (w : World) (hT : TL w) (h : may m p = true) (h64 : in64 m = true) :
    Calls Tryd.prog 17 #[.string ⟨(tText m p).toArray⟩] w fun e w' => e = .returned (.tuple #[.agg #[.int .i64 m, .int .i64 p], .int .i64 0]) ∧ Below w.heap.size w w' := by
  have := parse_t ⟨(tText m p).toArray⟩ w hT (by have := tText_size m p h h64; omega)
  rw [show (⟨(tText m p).toArray⟩ : ByteArray).data.toList = tText m p by simp] at this
  obtain ⟨e1, e2, e3⟩ := text_back m p h h64
  rw [e1, e2, e3] at this
  exact this
theorem nothing_t (w : World) (hT : TL w) : Calls Tryd.prog 17 #[.string ⟨#[]⟩] w fun e w' => e = .returned (.tuple #[.agg #[.int .i64 0, .int .i64 0], .int .i64 140]) ∧ Below w.heap.size w w' := by
  have := parse_t ⟨#[]⟩ w hT (by decide)
  have e := p_bad (l := []) (by decide)
  rw [show (⟨#[]⟩ : ByteArray).data.toList = [] from rfl, e.1, e.2.1, e.2.2] at this
  exact this
theorem tText_ne (m : Int) (p : Nat) : tText m p ≠ [] := by
  intro h
  have := congrArg List.length h
  rw [tText_mid, List.length_append] at this
  have e2 := tZ_len m p
  have e3 : 1 ≤ (tMid m p).length := by
    unfold tMid
    split
    · omega
    · simp only [List.length_append, List.length_cons]; omega
  simp only [List.length_nil] at this
  omega
/-- A Decimal's text, and what it tells, in short. -/
theorem text_two (a c : Int) (h64 : in64 a = true) : ∃ (t : ByteArray) (f b1 b2 b3 : Int), (∀ W, PW W → Calls Tryd.prog 10 #[.agg #[.int .i64 a, .int .i64 c]] W fun e w' => e = .returned (.tuple #[.string t, .int .i64 f]) ∧ Below W.heap.size W w') ∧
    (∀ W, TL W → Calls Tryd.prog 17 #[.string t] W fun e w' => e = .returned (.tuple #[.agg #[.int .i64 b1, .int .i64 b2], .int .i64 b3]) ∧ Below W.heap.size W w') ∧ ((f = 0 ∧ b1 = a ∧ b2 = c ∧ b3 = 0) ∨ (f = 140 ∧ t = ⟨#[]⟩)) := by
  cases hm : may a c with
  | false => exact ⟨⟨#[]⟩, 140, 0, 0, 140, fun W _ => text_bad a c W hm, fun W h => nothing_t W h, .inr ⟨rfl, rfl⟩⟩
  | true =>
    obtain ⟨k, rfl⟩ : ∃ k : Nat, c = k := Int.eq_ofNat_of_zero_le (may_parts hm).1
    exact ⟨⟨(tText a k).toArray⟩, 0, a, k, 0, fun W h => text_t a k W h hm h64, fun W h => again_t a k W h hm h64, .inl ⟨rfl, rfl, rfl, rfl⟩⟩
set_option maxRecDepth 20000 in
set_option maxHeartbeats 2000000 in
theorem back_law (a c : Int) (s : ByteArray) (w : World) (hT : TL w ∧ PW w) (a1 : -9223372036854775808 ≤ a) (a2 : a ≤ 9223372036854775807) (_ : -9223372036854775808 ≤ c) (_ : c ≤ 9223372036854775807) (hs : s.size ≤ maxLen) :
    Calls Tryd.prog 6 #[.agg #[.int .i64 a, .int .i64 c], .string s] w fun e w' => e = .returned (.bool true) ∧ Below w.heap.size w w' := by
  have HL := Lib.hid (fun W (hb : Below w.heap.size w W) => hT.1.on hb)
  have HP := Lib.hid (fun W (hb : Below w.heap.size w W) => hT.2.on hb)
  have P0 := Lib.hid (TX.new w a c)
  have A64 : Hid (in64 a = true) := Lib.hid ((in64_iff a).2 ⟨a1, by omega⟩)
  unfold maxLen at hs
  clear hT a1 a2
  by_cases hz : 2000 < s.size
  · go_enter Tryd.func6, Tryd.ntmps6
    go_wp2_with fail
    refine (alive_any _ (HL.out _ P0.out.2)).mono ?_
    rintro e w1 ⟨rfl, q⟩
    have P1 := Lib.hid (P0.out.up q)
    clear q
    go_wp2_with fail
    go_ret
    exact ⟨rfl, P1.out.2⟩
  have q1 : decide (2000 < (s.size : Int)) = false := decide_eq_false (by omega)
  obtain ⟨t, f, b1, b2, b3, tb, ab, tw⟩ := text_two a c A64.out
  have TB := Lib.hid tb
  have AB := Lib.hid ab
  have HTW := Lib.hid tw
  clear tb ab tw
  obtain ⟨k, k1, k2, k3, k4, k5⟩ := p_always s.data.toList
  have PS := Lib.hid (fun W h => parse_t s W h (by omega))
  rw [k1] at PS
  have TX1 := Lib.hid (fun W h => text_t _ k W h k2 k3)
  have AG1 := Lib.hid (fun W h => again_t _ k W h k2 k3)
  have hlen : pE s.data.toList = 0 → (⟨(tText (pM s.data.toList) k).toArray⟩ : ByteArray).size ≤ s.size := fun h => by rw [mk_size]; exact k5 h
  obtain ⟨u, hu⟩ : ∃ u : ByteArray, u = ⟨(tText (pM s.data.toList) k).toArray⟩ := ⟨_, rfl⟩
  obtain ⟨i, hi⟩ : ∃ i : Int, i = pM s.data.toList := ⟨_, rfl⟩
  obtain ⟨j, hj⟩ : ∃ i : Int, i = (k : Int) := ⟨_, rfl⟩
  obtain ⟨G, hG⟩ : ∃ i : Int, i = pE s.data.toList := ⟨_, rfl⟩
  rw [← hG] at hlen k4 PS
  rw [← hu] at hlen TX1 AG1
  rw [← hi, ← hj] at PS TX1 AG1
  have HLEN := Lib.hid hlen
  have HG := Lib.hid k4
  clear k1 k2 k3 k4 k5 hu hi hj hG hlen
  go_enter Tryd.func6, Tryd.ntmps6
  go_wp2_with fail
  refine (alive_any _ (HL.out _ P0.out.2)).mono ?_
  rintro e w1 ⟨rfl, q⟩
  have P1 := Lib.hid (P0.out.up q)
  clear q
  obtain ⟨⟨c0, c1, -⟩, -⟩ := P1.out
  go_wp2_with fail
  clear c0 c1
  refine (TB.out _ (HP.out _ P1.out.2)).mono ?_
  rintro e w2 ⟨rfl, q⟩
  have P2 := Lib.hid (P1.out.up q)
  clear q
  go_wp2_with fail
  refine (AB.out _ (HL.out _ P2.out.2)).mono ?_
  rintro e w3 ⟨rfl, q⟩
  have P3 := Lib.hid (P2.out.up q)
  have P4 := Lib.hid (P3.out.up ((Below.refl _ w3).alloc (Nat.le_refl _) (.cells #[.int .i64 b1, .int .i64 b2] 26)))
  have D4 := Lib.hid (FBox.new w3 b1 b2)
  clear q
  go_upto_region 6 with fail
  obtain ⟨w4, hw4⟩ : ∃ w4, w4 = w3.alloc (.cells #[.int .i64 b1, .int .i64 b2] 26) := ⟨_, rfl⟩
  rw [← hw4] at P4 D4 ⊢
  clear hw4
  obtain ⟨⟨c0, c1, -⟩, -⟩ := P4.out
  obtain ⟨⟨c2, c3, -⟩, -, -⟩ := D4.out
  go_cut [53] (fun v wx => v = .bool false ∧ TX w wx a c)
  case first =>
    rcases HTW.out with ⟨rfl, rfl, rfl, rfl⟩ | ⟨rfl, rfl⟩
    · go_wp2_with fail
      go_meet
      exact ⟨rfl, P4.out⟩
    · go_wp2_with fail
      go_meet
      exact ⟨rfl, P4.out⟩
  case rest =>
    obtain ⟨rfl, hp⟩ := hcut
    have P4 := Lib.hid hp
    clear hp c0 c1 c2 c3
    go_wp2_with fail
    refine (PS.out _ (HL.out _ P4.out.2)).mono ?_
    rintro e w5 ⟨rfl, q⟩
    have P5 := Lib.hid ((P4.out.up q).up ((Below.refl _ w5).alloc (Nat.le_refl _) (.cells #[.int .i64 i, .int .i64 j] 26)))
    have D5 := Lib.hid (FBox.new w5 i j)
    clear q
    go_wp2_with fail
    obtain ⟨w6, hw6⟩ : ∃ w6, w6 = w5.alloc (.cells #[.int .i64 i, .int .i64 j] 26) := ⟨_, rfl⟩
    rw [← hw6] at P5 D5 ⊢
    clear hw6
    refine (TX1.out _ (HP.out _ P5.out.2)).mono ?_
    rintro e w7 ⟨rfl, q⟩
    have P7 := Lib.hid (P5.out.up q)
    have D7 := Lib.hid (D5.out.up q)
    clear q
    go_wp2_with fail
    refine (AG1.out _ (HL.out _ P7.out.2)).mono ?_
    rintro e w8 ⟨rfl, q⟩
    have P8 := Lib.hid ((P7.out.up q).up ((Below.refl _ w8).alloc (Nat.le_refl _) (.cells #[.int .i64 i, .int .i64 j] 26)))
    have D8 := Lib.hid ((D7.out.up q).up ((Below.refl _ w8).alloc (Nat.le_refl _) (.cells #[.int .i64 i, .int .i64 j] 26)))
    have E8 := Lib.hid (FBox.new w8 i j)
    clear q
    go_upto_region 11 with fail
    obtain ⟨w9, hw9⟩ : ∃ w9, w9 = w8.alloc (.cells #[.int .i64 i, .int .i64 j] 26) := ⟨_, rfl⟩
    rw [← hw9] at P8 D8 E8 ⊢
    clear hw9
    obtain ⟨⟨c0, c1, -⟩, -, -⟩ := D8.out
    obtain ⟨⟨c2, c3, -⟩, -, -⟩ := E8.out
    rcases HG.out with h | h
    · have hle := HLEN.out h
      have hle' : (u.size : Int) ≤ s.size := by omega
      subst h
      go_wp2_with fail
      go_ret
      exact ⟨rfl, P8.out.2⟩
    · subst h
      go_wp2_with fail
      go_ret
      exact ⟨rfl, P8.out.2⟩
end Go.Proofs.YtiikohbnfbpjeaaDoor

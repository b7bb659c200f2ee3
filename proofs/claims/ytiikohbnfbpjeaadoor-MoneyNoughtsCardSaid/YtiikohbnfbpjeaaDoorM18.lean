import Derived.Test.YtiikohbnfbpjeaaDoorM17
namespace Go.Proofs.YtiikohbnfbpjeaaDoor
open Go.RowKit
theorem fits_step (a : Int) (k : Nat) (y : Int) (h : in64 (a * 10 ^ k) = true → y = a * 10 ^ k) :
    in64 (a * 10 ^ (k + 1)) = (in64 (a * 10 ^ k) && decide (y ≤ 922337203685477580) && decide (-922337203685477580 ≤ y)) := by
  have e : a * 10 ^ (k + 1) = a * 10 ^ k * 10 := by rw [Int.pow_succ, ← Int.mul_assoc]
  rw [e]
  obtain ⟨v, hv⟩ : ∃ v, v = a * 10 ^ k := ⟨_, rfl⟩
  rw [← hv] at h ⊢
  cases hf : in64 v
  · simp only [Bool.false_and]
    have : ¬ (in64 v = true) := by rw [hf]; decide
    rw [in64_iff] at this
    apply Bool.eq_false_iff.2
    intro q
    rw [in64_iff] at q
    omega
  · have := h hf
    subst this
    rw [Bool.true_and, Bool.eq_iff_iff, in64_iff, Bool.and_eq_true, decide_eq_true_eq, decide_eq_true_eq]
    omega
theorem rep_snoc (T : List UInt8) (k : Nat) : T ++ List.replicate (k + 1) 48 = (T ++ List.replicate k 48) ++ [48] := by
  rw [List.replicate_succ', List.append_assoc]
theorem cat_nought (l : List UInt8) : (⟨l.toArray⟩ : ByteArray) ++ ⟨#[48]⟩ = ⟨(l ++ [48]).toArray⟩ := Go.WideShapes.bytes_inj (by simp)
theorem cat_point (l : List UInt8) : (⟨l.toArray⟩ : ByteArray) ++ ⟨#[46]⟩ = ⟨(l ++ [46]).toArray⟩ := Go.WideShapes.bytes_inj (by simp)
/-- Where the loop over noughts stands. -/
def NR (T : List UInt8) (a : Int) (n : Nat) (s6 s8 s9 s10 : Value) : Prop := ∃ (k : Nat) (y : Int), k ≤ n ∧ s6 = .string ⟨(T ++ List.replicate k 48).toArray⟩ ∧ s8 = .bool (in64 (a * 10 ^ k)) ∧ s9 = .int .i64 y ∧ (in64 (a * 10 ^ k) = true → y = a * 10 ^ k) ∧ (-9223372036854775808 ≤ y ∧ y ≤ 9223372036854775807) ∧ s10 = .int .i64 k
set_option maxRecDepth 20000 in
set_option maxHeartbeats 2000000 in
theorem noughts_law (a c n : Int) (w : World) (hT : TL w ∧ PW w) (a1 : -9223372036854775808 ≤ a) (a2 : a ≤ 9223372036854775807) (_ : -9223372036854775808 ≤ c) (_ : c ≤ 9223372036854775807) (n1 : 0 ≤ n) (n2 : n ≤ 255) :
    Calls Tryd.prog 7 #[.agg #[.int .i64 a, .int .i64 c], .int .u8 n] w fun e w' => e = .returned (.bool true) ∧ Below w.heap.size w w' := by
  have HL := Lib.hid (fun W (hb : Below w.heap.size w W) => hT.1.on hb)
  have HP := Lib.hid (fun W (hb : Below w.heap.size w W) => hT.2.on hb)
  have P0 := Lib.hid (TX.new w a c)
  have A64 : Hid (in64 a = true) := Lib.hid ((in64_iff a).2 ⟨a1, by omega⟩)
  have HA := Lib.hid (And.intro a1 a2)
  clear hT a1 a2
  cases hm : may a c with
  | false =>
    have TB := Lib.hid (fun W => text_bad a c W hm)
    clear hm
    go_enter Tryd.func7, Tryd.ntmps7
    go_wp2_with fail
    refine (alive_any _ (HL.out _ P0.out.2)).mono ?_
    rintro e w1 ⟨rfl, q⟩
    have P1 := Lib.hid (P0.out.up q)
    obtain ⟨⟨c0, c1, -⟩, -⟩ := P1.out
    clear q
    go_wp2_with fail
    refine (TB.out _).mono ?_
    rintro e w2 ⟨rfl, q⟩
    have P2 := Lib.hid (P1.out.up q)
    clear q c0 c1
    go_wp2_with fail
    go_ret
    exact ⟨rfl, P2.out.2⟩
  | true =>
    obtain ⟨p, hp⟩ : ∃ k : Nat, c = k := Int.eq_ofNat_of_zero_le (may_parts hm).1
    have h18 := (may_parts hm).2.1
    have hc0 := (may_parts hm).1
    rw [hp] at hm
    have TB := Lib.hid (fun W h => text_t a p W h hm A64.out)
    have HM := Lib.hid hm
    have hsz := tText_size a p hm A64.out
    obtain ⟨t, ht⟩ : ∃ u : ByteArray, u = ⟨(tText a p).toArray⟩ := ⟨_, rfl⟩
    rw [← ht] at TB hsz
    rw [← hp] at TB
    have HPP := Lib.hid hp
    have HTT := Lib.hid ht
    clear hm hp ht
    by_cases hn0 : n = 0
    · subst hn0
      go_enter Tryd.func7, Tryd.ntmps7
      go_wp2_with fail
      refine (alive_any _ (HL.out _ P0.out.2)).mono ?_
      rintro e w1 ⟨rfl, q⟩
      have P1 := Lib.hid (P0.out.up q)
      obtain ⟨⟨c0, c1, -⟩, -⟩ := P1.out
      clear q
      go_wp2_with fail
      refine (TB.out _ (HP.out _ P1.out.2)).mono ?_
      rintro e w2 ⟨rfl, q⟩
      have P2 := Lib.hid (P1.out.up q)
      clear q c0 c1
      go_wp2_with fail
      go_ret
      exact ⟨rfl, P2.out.2⟩
    have gn : (n == 0) = false := beq_eq_false_iff_ne.2 hn0
    by_cases hbig : 18 < c + n
    · clear hn0
      go_enter Tryd.func7, Tryd.ntmps7
      go_wp2_with fail
      refine (alive_any _ (HL.out _ P0.out.2)).mono ?_
      rintro e w1 ⟨rfl, q⟩
      have P1 := Lib.hid (P0.out.up q)
      obtain ⟨⟨c0, c1, -⟩, -⟩ := P1.out
      clear q
      go_wp2_with fail
      clear c0 c1
      refine (TB.out _ (HP.out _ P1.out.2)).mono ?_
      rintro e w2 ⟨rfl, q⟩
      have P2 := Lib.hid (P1.out.up q)
      obtain ⟨⟨c0, c1, -⟩, -⟩ := P2.out
      clear q
      go_wp2_with fail
      go_ret
      exact ⟨rfl, P2.out.2⟩
    have gb : decide (18 < c + n) = false := decide_eq_false hbig
    obtain ⟨N, hN⟩ : ∃ N : Nat, n = N := Int.eq_ofNat_of_zero_le n1
    obtain ⟨T, hTl⟩ : ∃ T, T = tText a p ++ (if p = 0 then [46] else []) := ⟨_, rfl⟩
    have HTL := Lib.hid hTl
    have hts : (⟨T.toArray⟩ : ByteArray).size ≤ 101 := by
      rw [hTl, mk_size, List.length_append]
      have : (tText a p).length = t.size := by rw [HTT.out, mk_size]
      split <;> simp <;> omega
    obtain ⟨r1, r2⟩ := noughts a p N HM.out (by omega) (by have := HPP.out; omega)
    have eN : tNought a p N = T ++ List.replicate N 48 := by rw [hTl]; rfl
    rw [eN] at r1 r2
    have R1 := Lib.hid r1
    have R2 := Lib.hid r2
    have HN := Lib.hid hN
    have hN18 : N ≤ 18 := by omega
    clear r1 r2 eN hTl hN hn0 hbig
    go_enter Tryd.func7, Tryd.ntmps7
    go_wp2_with fail
    refine (alive_any _ (HL.out _ P0.out.2)).mono ?_
    rintro e w1 ⟨rfl, q⟩
    have P1 := Lib.hid (P0.out.up q)
    obtain ⟨⟨c0, c1, -⟩, -⟩ := P1.out
    clear q
    go_wp2_with fail
    clear c0 c1
    refine (TB.out _ (HP.out _ P1.out.2)).mono ?_
    rintro e w2 ⟨rfl, q⟩
    have P2 := Lib.hid (P1.out.up q)
    obtain ⟨⟨c0, c1, -⟩, -⟩ := P2.out
    clear q
    have q0 : ¬ (9223372036854775807 < t.size + (⟨#[46]⟩ : ByteArray).size) := by rw [show (⟨#[46]⟩ : ByteArray).size = 1 from rfl]; omega
    have q1 : ¬ (9223372036854775807 < t.size + 1) := by omega
    go_upto_if 36 with fail
    go_cut [6] (fun v wx => v = .string ⟨T.toArray⟩ ∧ TX w wx a c)
    case first =>
      by_cases hp0 : p = 0
      · have HF : Hid (t ++ ⟨#[46]⟩ = ⟨T.toArray⟩) := Lib.hid (by rw [HTL.out, HTT.out, if_pos hp0, cat_point])
        obtain rfl : c = 0 := by have := HPP.out; omega
        clear hp0
        go_wp2_with fail
        go_meet
        exact ⟨by rw [HF.out], P2.out⟩
      · have HF : Hid (t = ⟨T.toArray⟩) := Lib.hid (by rw [HTL.out, HTT.out, if_neg hp0, List.append_nil])
        have gc : (c == 0) = false := beq_eq_false_iff_ne.2 (by have := HPP.out; omega)
        clear hp0
        go_wp2_with fail
        go_meet
        exact ⟨by rw [HF.out], P2.out⟩
    case rest =>
      obtain ⟨rfl, hx⟩ := hcut
      have P3 := Lib.hid hx
      clear hx c0 c1 q0 q1
      obtain ⟨⟨c0, c1, -⟩, -⟩ := P3.out
      go_wp2_with fail
      go_loop [6, 8, 9, 10] (fun s6 s8 s9 s10 => NR T a N s6 s8 s9 s10) (fun _ _ _ s10 => N - (intOf s10).toNat)
      case atStart => exact ⟨0, a, Nat.zero_le _, by simp, by rw [Int.pow_zero, Int.mul_one, A64.out], rfl, fun _ => by rw [Int.pow_zero, Int.mul_one], HA.out, rfl⟩
      case round =>
        obtain ⟨k, y, hk, rfl, rfl, rfl, hy, ⟨y1, y2⟩, rfl⟩ := hrel
        have HY := Lib.hid hy
        have HST := Lib.hid (fits_step a k y hy)
        have hks : (⟨(T ++ List.replicate k 48).toArray⟩ : ByteArray).size ≤ 200 := by
          rw [mk_size] at hts ⊢
          rw [List.length_append, List.length_replicate]; omega
        obtain ⟨u, hu⟩ : ∃ u : ByteArray, u = ⟨(T ++ List.replicate k 48).toArray⟩ := ⟨_, rfl⟩
        obtain ⟨b, hb⟩ : ∃ b, b = in64 (a * 10 ^ k) := ⟨_, rfl⟩
        rw [← hu] at hks ⊢
        rw [← hb] at HST HY ⊢
        have HU := Lib.hid hu
        have HB := Lib.hid hb
        clear hu hb hy
        by_cases hlt : k < N
        · have q0 : ¬ (9223372036854775807 < u.size + (⟨#[48]⟩ : ByteArray).size) := by rw [show (⟨#[48]⟩ : ByteArray).size = 1 from rfl]; omega
          have q1 : ¬ (9223372036854775807 < u.size + 1) := by omega
          have hlt' : (k : Int) < n := by have := HN.out; omega
          obtain ⟨z, hz⟩ : ∃ z, IntKind.i64.wrap (y * 10) = z := ⟨_, rfl⟩
          have hz' : wrap64 (y * 10) = z := by rw [← hz, IntKind.wrap_i64]; unfold wrap64; omega
          have hzb : -9223372036854775808 ≤ z ∧ z ≤ 9223372036854775807 := by rw [← hz]; rw [IntKind.wrap_i64]; omega
          obtain ⟨z1, z2⟩ := hzb
          have HUS : Hid (u ++ ⟨#[48]⟩ = ⟨(T ++ List.replicate (k + 1) 48).toArray⟩) := Lib.hid (by rw [HU.out, cat_nought, rep_snoc])
          cases b with
          | false =>
            have HS2 : Hid (in64 (a * 10 ^ (k + 1)) = false) := Lib.hid (by rw [HST.out]; rfl)
            go_wp2_with fail
            go_round
            case rel => exact ⟨k + 1, z, by omega, by rw [HUS.out], by rw [HS2.out], rfl, fun h => by rw [HS2.out] at h; simp at h, ⟨z1, z2⟩, by go_num⟩
            case measure => simp [intOf]; omega
          | true =>
            by_cases l1 : y ≤ 922337203685477580
            · by_cases l2 : -922337203685477580 ≤ y
              · have HS2 : Hid (in64 (a * 10 ^ (k + 1)) = true) := Lib.hid (by rw [HST.out, decide_eq_true l1, decide_eq_true l2]; rfl)
                clear hz hz' z1 z2
                go_wp2_with fail
                go_round
                case rel => exact ⟨k + 1, y * 10, by omega, by rw [HUS.out], by rw [HS2.out], rfl, fun _ => by rw [HY.out rfl, Int.pow_succ, ← Int.mul_assoc], ⟨by omega, by omega⟩, by go_num⟩
                case measure => simp [intOf]; omega
              · have HS2 : Hid (in64 (a * 10 ^ (k + 1)) = false) := Lib.hid (by rw [HST.out, decide_eq_false l2]; simp)
                have g2 : decide (-922337203685477580 ≤ y) = false := decide_eq_false l2
                go_wp2_with fail
                go_round
                case rel => exact ⟨k + 1, z, by omega, by rw [HUS.out], by rw [HS2.out], rfl, fun h => by rw [HS2.out] at h; simp at h, ⟨z1, z2⟩, by go_num⟩
                case measure => simp [intOf]; omega
            · have HS2 : Hid (in64 (a * 10 ^ (k + 1)) = false) := Lib.hid (by rw [HST.out, decide_eq_false l1]; simp)
              have g1 : decide (y ≤ 922337203685477580) = false := decide_eq_false l1
              go_wp2_with fail
              go_round
              case rel => exact ⟨k + 1, z, by omega, by rw [HUS.out], by rw [HS2.out], rfl, fun h => by rw [HS2.out] at h; simp at h, ⟨z1, z2⟩, by go_num⟩
              case measure => simp [intOf]; omega
        · have hkN : k = N := by omega
          have PN := Lib.hid (parse_t u wc (HL.out _ P3.out.2) (by omega))
          have hul : u.data.toList = T ++ List.replicate N 48 := by rw [HU.out, ← hkN]
          rw [hul] at PN
          have HB2 : Hid (b = in64 (a * 10 ^ N)) := Lib.hid (by rw [HB.out, hkN])
          obtain ⟨e1, he1⟩ : ∃ e, e = pM (T ++ List.replicate N 48) := ⟨_, rfl⟩
          obtain ⟨e2, he2⟩ : ∃ e, e = pS (T ++ List.replicate N 48) := ⟨_, rfl⟩
          obtain ⟨e3, he3⟩ : ∃ e, e = pE (T ++ List.replicate N 48) := ⟨_, rfl⟩
          rw [← he1, ← he2, ← he3] at PN
          have HE : Hid (b = true → e1 = a ∧ e2 = c ∧ e3 = 0) := Lib.hid (fun h => by
            rw [he1, he2, he3, HPP.out]; exact R1.out (by rw [← HB2.out]; exact h))
          have HF : Hid (b = false → e1 = 0 ∧ e2 = 0 ∧ e3 = 140) := Lib.hid (fun h => by
            rw [he1, he2, he3]; exact R2.out (by rw [← HB2.out]; exact h))
          have hlt' : ¬ ((k : Int) < n) := by have := HN.out; omega
          clear he1 he2 he3 hul hkN hlt
          go_wp2_with fail
          refine PN.out.mono ?_
          rintro e w5 ⟨rfl, q⟩
          have P5 := Lib.hid ((P3.out.up q).up ((Below.refl _ w5).alloc (Nat.le_refl _) (.cells #[.int .i64 e1, .int .i64 e2] 26)))
          have D5 := Lib.hid (FBox.new w5 e1 e2)
          clear q c0 c1
          go_upto_region 16 with fail
          obtain ⟨w6, hw6⟩ : ∃ w6, w6 = w5.alloc (.cells #[.int .i64 e1, .int .i64 e2] 26) := ⟨_, rfl⟩
          rw [← hw6] at P5 D5 ⊢
          clear hw6
          obtain ⟨⟨c0, c1, -⟩, -⟩ := P5.out
          obtain ⟨⟨c2, c3, -⟩, -, -⟩ := D5.out
          cases b with
          | true =>
            obtain ⟨rfl, rfl, rfl⟩ := HE.out rfl
            go_wp2_with fail
            go_ret
            exact ⟨rfl, P5.out.2⟩
          | false =>
            obtain ⟨rfl, rfl, rfl⟩ := HF.out rfl
            go_wp2_with fail
            go_ret
            exact ⟨rfl, P5.out.2⟩
end Go.Proofs.YtiikohbnfbpjeaaDoor

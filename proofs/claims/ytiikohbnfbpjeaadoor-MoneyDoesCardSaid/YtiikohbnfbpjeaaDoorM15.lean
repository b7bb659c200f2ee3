import Derived.Test.YtiikohbnfbpjeaaDoorM14
namespace Go.Proofs.YtiikohbnfbpjeaaDoor
open Go.RowKit
/-- What 'Parse' wants of the world: the limits, and that bytealg.MaxLen holds some number. -/
def TL (W : World) : Prop := Lim W ∧ ∃ m, W.cell? ⟨2, 0, none⟩ = some (.int .i64 m)
theorem TL.on {w W : World} (h : TL w) (hb : Below w.heap.size w W) : TL W := by
  obtain ⟨h1, m, h2⟩ := h
  exact ⟨lim_later hb h1, m, (hb.cell (p := ⟨2, 0, none⟩) (World.block_lt_of_cell? w ⟨2, 0, none⟩ h2)).trans h2⟩
/-- What 'Text' wants: the powers of ten. -/
def PW (W : World) : Prop := Lib.TabIs Tryd.prog W "internal/strconv.uint64pow10" .u64 Lib.pow10Tab
theorem PW.on {w W : World} (h : PW w) (hb : Below w.heap.size w W) : PW W := var?_below hb gPow (World.block_lt_of_cell? w ⟨4, 0, none⟩ (h.cell gPow 0 (by decide +kernel))) h
theorem write_p (n : Int) (w : World) (t : PW w) (h0 : -9223372036854775808 ≤ n) (h1 : n ≤ 9223372036854775807) :
    Calls Tryd.prog 26 #[.int .i64 n] w fun e w' => e = .returned (.string ⟨(Lib.itoa n).toArray⟩) ∧ Below w.heap.size w w' := by
  go_enter Tryd.func26, Tryd.ntmps26
  go_wp2_with fail
  refine (Tryd.strconv_FormatInt_10 n h0 h1 _ t).mono ?_
  rintro e w1 ⟨rfl, k, os, hw⟩
  have b1 : Below w.heap.size w w1 := by rw [hw]; exact below_new _ _ _
  clear hw
  go_wp2_with fail
  go_ret
  exact ⟨rfl, b1⟩
theorem parse_t (s : ByteArray) (w : World) (h : TL w) (hs : s.size < 4294967281) :
    Calls Tryd.prog 17 #[.string s] w fun e w' => e = .returned (.tuple #[.agg #[.int .i64 (pM s.data.toList), .int .i64 (pS s.data.toList)], .int .i64 (pE s.data.toList)]) ∧ Below w.heap.size w w' := parse_any s w h.1 h.2 hs
set_option maxRecDepth 20000 in
theorem reads_yes (s : ByteArray) (n p : Int) (w : World) (h : TL w) (hs : s.size < 4294967281) (h1 : pM s.data.toList = n) (h2 : pS s.data.toList = p) (h3 : pE s.data.toList = 0) :
    Calls Tryd.prog 14 #[.string s, .int .i64 n, .int .i64 p] w fun e w' => e = .returned (.bool true) ∧ Below w.heap.size w w' := by
  have K := Lib.hid (parse_t s w h hs)
  rw [h1, h2, h3] at K
  clear h hs h1 h2 h3
  go_enter Tryd.func14, Tryd.ntmps14
  go_wp2_with fail
  refine K.out.mono ?_
  rintro e w1 ⟨rfl, b⟩
  have B1 := Lib.hid (b.alloc b.size (.cells #[.int .i64 n, .int .i64 p] 26))
  clear b
  go_wp2_with fail
  go_ret
  exact ⟨rfl, B1.out⟩
set_option maxRecDepth 20000 in
theorem none_yes (s : ByteArray) (w : World) (h : TL w) (hs : s.size < 4294967281) (h0 : pGood s.data.toList = false) :
    Calls Tryd.prog 15 #[.string s] w fun e w' => e = .returned (.bool true) ∧ Below w.heap.size w w' := by
  have K := Lib.hid (parse_t s w h hs)
  rw [(p_bad h0).1, (p_bad h0).2.1, (p_bad h0).2.2] at K
  clear h hs h0
  go_enter Tryd.func15, Tryd.ntmps15
  go_wp2_with fail
  refine K.out.mono ?_
  rintro e w1 ⟨rfl, b⟩
  have B1 := Lib.hid (b.alloc b.size (.cells #[.int .i64 0, .int .i64 0] 26))
  clear b
  go_wp2_with fail
  go_ret
  exact ⟨rfl, B1.out⟩
theorem reads_c (l : List UInt8) (n p : Int) (hl : l.length < 100) (h1 : pM l = n) (h2 : pS l = p) (h3 : pE l = 0) (w : World) (h : TL w) :
    Calls Tryd.prog 14 #[.string ⟨l.toArray⟩, .int .i64 n, .int .i64 p] w fun e w' => e = .returned (.bool true) ∧ Below w.heap.size w w' := reads_yes ⟨l.toArray⟩ n p w h (by rw [mk_size]; omega) h1 h2 h3
theorem none_c (l : List UInt8) (hl : l.length < 100) (h1 : pGood l = false) (w : World) (h : TL w) :
    Calls Tryd.prog 15 #[.string ⟨l.toArray⟩] w fun e w' => e = .returned (.bool true) ∧ Below w.heap.size w w' := none_yes ⟨l.toArray⟩ w h (by rw [mk_size]; omega) h1
set_option maxRecDepth 20000 in
theorem alive_any (w : World) (h : TL w) : Calls Tryd.prog 16 #[] w fun e w' => e = .returned (.bool true) ∧ Below w.heap.size w w' := by
  have HT := Lib.hid (fun W (hb : Below w.heap.size w W) => h.on hb)
  have R1 := Lib.hid (reads_c [49, 50, 46, 53, 48] 125 1 (by decide) (by decide +kernel) (by decide +kernel) (by decide +kernel))
  have R2 := Lib.hid (reads_c [45, 48, 46, 48, 48, 48] 0 0 (by decide) (by decide +kernel) (by decide +kernel) (by decide +kernel))
  have N1 := Lib.hid (none_c [48, 48, 55] (by decide) (by decide +kernel))
  have N2 := Lib.hid (none_c [49, 46] (by decide) (by decide +kernel))
  have B0 := Lib.hid (Below.refl w.heap.size w)
  clear h
  go_enter Tryd.func16, Tryd.ntmps16
  go_wp2_with fail
  refine (R1.out _ (HT.out _ B0.out)).mono ?_
  rintro e w1 ⟨rfl, b⟩
  have B1 := Lib.hid (B0.out.trans b)
  clear b
  go_wp2_with fail
  refine (R2.out _ (HT.out _ B1.out)).mono ?_
  rintro e w2 ⟨rfl, b⟩
  have B2 := Lib.hid (B1.out.trans (b.mono B1.out.size))
  clear b
  go_wp2_with fail
  refine (N1.out _ (HT.out _ B2.out)).mono ?_
  rintro e w3 ⟨rfl, b⟩
  have B3 := Lib.hid (B2.out.trans (b.mono B2.out.size))
  clear b
  go_wp2_with fail
  refine (N2.out _ (HT.out _ B3.out)).mono ?_
  rintro e w4 ⟨rfl, b⟩
  have B4 := Lib.hid (B3.out.trans (b.mono B3.out.size))
  clear b
  go_wp2_with fail
  go_ret
  exact ⟨rfl, B4.out⟩
theorem itoa_cut (m : Int) : Lib.trimPrefix (Lib.itoa m) [45] = Lib.decDigits m.natAbs ∧ Lib.hasPrefix (Lib.itoa m) [45] = decide (m < 0) := by
  by_cases h : m < 0
  · have e : Lib.itoa m = 45 :: Lib.decDigits m.natAbs := by unfold Lib.itoa; rw [if_pos h]
    rw [e]
    have hp : Lib.hasPrefix (45 :: Lib.decDigits m.natAbs) [45] = true := by simp [Lib.hasPrefix, List.isPrefixOf]
    refine ⟨?_, by rw [hp, decide_eq_true h]⟩
    unfold Lib.trimPrefix
    rw [hp]; simp
  · have e : Lib.itoa m = Lib.decDigits m.natAbs := by unfold Lib.itoa; rw [if_neg h]; congr 1; omega
    rw [e]
    obtain ⟨d1, -, d3⟩ := dec_digs m.natAbs
    have hp := no_minus d1 d3 []
    rw [List.append_nil] at hp
    refine ⟨?_, by rw [hp, decide_eq_false h]⟩
    unfold Lib.trimPrefix
    rw [hp]; rfl
theorem rep_zero (c : Nat) : Lib.repeatL [48] c = List.replicate c 48 := by
  have := Lib.repeatL_replicate 48 1 c
  rw [Nat.mul_one] at this
  exact this
set_option maxRecDepth 20000 in
theorem text_bad (m p : Int) (w : World) (h : may m p = false) : Calls Tryd.prog 10 #[.agg #[.int .i64 m, .int .i64 p]] w fun e w' => e = .returned (.tuple #[.string ⟨#[]⟩, .int .i64 140]) ∧ Below w.heap.size w w' := by
  have C1 := Lib.hid (fun W => check_any m p W)
  rw [chM_no h] at C1
  have B0 := Lib.hid ((Below.refl _ w).alloc (Nat.le_refl _) (.cells #[.int .i64 m, .int .i64 p] 26))
  clear h
  go_enter Tryd.func10, Tryd.ntmps10
  go_wp2_with fail
  refine (C1.out _).mono ?_
  rintro e w1 ⟨rfl, b⟩
  have B1 := Lib.hid (B0.out.trans (b.mono B0.out.size))
  clear b
  go_wp2_with fail
  go_ret2
  exact ⟨rfl, B1.out⟩
/-- The text's parts. -/
def tMid (m : Int) (p : Nat) : List UInt8 := if p = 0 then tZ m p else tA m p ++ 46 :: tB m p
theorem tText_mid (m : Int) (p : Nat) : tText m p = sgL (decide (m < 0)) ++ tMid m p := rfl
/-- The Decimal lies in its block. -/
def TX (w W : World) (m p : Int) : Prop := MBox W w.heap.size m p ∧ Below w.heap.size w W
theorem TX.up {w W W' : World} {m p : Int} (h : TX w W m p) (hb : Below W.heap.size W W') : TX w W' m p := ⟨h.1.up hb, h.2.trans (hb.mono h.2.size)⟩
theorem TX.new (w : World) (m p : Int) : TX w (w.alloc (.cells #[.int .i64 m, .int .i64 p] 26)) m p := ⟨MBox.new w m p, (Below.refl _ w).alloc (Nat.le_refl _) _⟩
set_option maxRecDepth 20000 in
set_option maxHeartbeats 4000000 in
theorem text_ok (m : Int) (p : Nat) (w : World) (hT : PW w) (h : may m p = true) (h0 : -9223372036854775808 ≤ m) (h1 : m ≤ 9223372036854775807) :
    Calls Tryd.prog 10 #[.agg #[.int .i64 m, .int .i64 p]] w fun e w' => e = .returned (.tuple #[.string ⟨(tText m p).toArray⟩, .int .i64 0]) ∧ Below w.heap.size w w' := by
  have C1 := Lib.hid (fun W => check_any m p W)
  rw [chM_yes h] at C1
  have HT := Lib.hid (fun W (hb : Below w.heap.size w W) => hT.on hb)
  have HW := Lib.hid (fun W t => write_p m W t h0 h1)
  have h18 : p ≤ 18 := by have := (may_parts h).2.1; omega
  obtain ⟨i1, i2⟩ := itoa_cut m
  have hlen : (Lib.itoa m).length ≤ 21 := Lib.itoa_length_le m h0 h1
  have hdl : (Lib.decDigits m.natAbs).length ≤ 21 := by
    rw [← i1]
    refine Nat.le_trans ?_ hlen
    unfold Lib.trimPrefix
    split
    · simp
    · exact Nat.le_refl _
  obtain ⟨x, hx⟩ : ∃ x : ByteArray, x = ⟨(Lib.itoa m).toArray⟩ := ⟨_, rfl⟩
  obtain ⟨d, hd⟩ : ∃ x : ByteArray, x = ⟨(Lib.decDigits m.natAbs).toArray⟩ := ⟨_, rfl⟩
  obtain ⟨b, hb⟩ : ∃ b, b = decide (m < 0) := ⟨_, rfl⟩
  have hdz : d.size ≤ 21 := by rw [hd, mk_size]; exact hdl
  have hcp : ∀ W, Calls Tryd.prog 25 #[.string x, .string ⟨#[45]⟩] W fun e w' => e = .returned (.tuple #[.string d, .bool b]) ∧ w' = W := fun W => by
    have := Tryd.strings_CutPrefix x ⟨#[45]⟩ W
    rw [show x.data.toList = Lib.itoa m by rw [hx], show (⟨#[45]⟩ : ByteArray).data.toList = [45] from rfl, i1, i2] at this
    rw [hd, hb]; exact this
  have CP := Lib.hid hcp
  rw [← hx] at HW
  obtain ⟨z, hz⟩ : ∃ x : ByteArray, x = ⟨(tZ m p).toArray⟩ := ⟨_, rfl⟩
  have hzz : z.size = p + 1 - d.size + d.size := by rw [hz, hd, mk_size, mk_size]; unfold tZ; rw [List.length_append, List.length_replicate]
  have HZD : Hid (z.data.toList = List.replicate (p + 1 - d.size) 48 ++ d.data.toList) := Lib.hid (by rw [hz, hd, mk_size]; rfl)
  have HR := Lib.hid (fun c W (hc : c ≤ 100) => Tryd.strings_Repeat ⟨#[48]⟩ c W (by omega) (by show 1 * c ≤ _; omega))
  obtain ⟨mid, hmid⟩ : ∃ x : ByteArray, x = ⟨(tMid m p).toArray⟩ := ⟨_, rfl⟩
  have HM0 : Hid (p = 0 → z = mid) := Lib.hid (fun hp => by rw [hz, hmid]; unfold tMid; rw [if_pos hp])
  have HM1 : Hid (p ≠ 0 → (z.extract 0 (z.size - p) ++ ⟨#[46]⟩ ++ z.extract (z.size - p) z.size) = mid) := Lib.hid (fun hp => by
    refine Go.WideShapes.bytes_inj ?_
    rw [hmid]
    unfold tMid
    rw [if_neg hp]
    have hzl : z.size = (tZ m p).length := by rw [hz, mk_size]
    have hzd : z.data.toList = tZ m p := by rw [hz]
    simp only [ByteArray.data_append, Array.toList_append, Lib.extract_data, hzd, hzl]
    unfold tA tB
    simp only [List.drop_zero, Nat.sub_zero]
    rw [List.take_of_length_le (l := List.drop ((tZ m p).length - p) (tZ m p)) (by rw [List.length_drop]; exact Nat.le_refl _)]
    simp)
  have hmz : mid.size ≤ 100 := by
    rw [hmid, mk_size]; unfold tMid
    have e1 := tA_len m p
    have e2 := tB_len m p
    have e3 : z.size = (tZ m p).length := by rw [hz, mk_size]
    split
    · omega
    · simp only [List.length_append, List.length_cons]; omega
  have HE : Hid (⟨(tText m p).toArray⟩ = (if b then ⟨#[45]⟩ ++ mid else mid : ByteArray)) := Lib.hid (by
    rw [tText_mid, hmid, hb]
    cases decide (m < 0)
    · rfl
    · refine Go.WideShapes.bytes_inj ?_
      simp [sgL])
  obtain ⟨res, hres⟩ : ∃ x : ByteArray, x = ⟨(tText m p).toArray⟩ := ⟨_, rfl⟩
  rw [← hres] at HE ⊢
  obtain ⟨p', hp'⟩ : ∃ a : Int, a = p := ⟨_, rfl⟩
  rw [← hp'] at C1 ⊢
  have hp0 : 0 ≤ p' := by omega
  have hp18 : p' ≤ 18 := by omega
  have P0 := Lib.hid (TX.new w m p')
  have HPP := Lib.hid hp'
  have HZZ := Lib.hid hzz
  clear hT h h0 h1 i1 i2 hlen hdl hx hd hb hcp hz hmid hres hp' h18 hzz
  go_enter Tryd.func10, Tryd.ntmps10
  go_wp2_with fail
  refine (C1.out _).mono ?_
  rintro e w1 ⟨rfl, q⟩
  have P1 := Lib.hid (P0.out.up q)
  obtain ⟨⟨c0, c1, -⟩, -⟩ := P1.out
  clear q
  go_wp2_with fail
  refine (HW.out _ (HT.out _ P1.out.2)).mono ?_
  rintro e w2 ⟨rfl, q⟩
  have P2 := Lib.hid (P1.out.up q)
  clear q c0 c1
  go_wp2_with fail
  refine (CP.out _).mono ?_
  rintro e w3 ⟨rfl, rfl⟩
  obtain ⟨⟨c0, c1, -⟩, -⟩ := P2.out
  obtain ⟨g, hg⟩ : ∃ g : Int, p' + 1 - (d.size : Int) = g := ⟨_, rfl⟩
  have HG := Lib.hid hg
  go_upto_if 29 with fail
  go_cut [5] (fun v wx => v = .string z ∧ TX w wx m p')
  case first =>
    by_cases hs : d.size < p + 1
    · obtain ⟨c, hc⟩ : ∃ c : Nat, g = c := ⟨p + 1 - d.size, by have := HPP.out; omega⟩
      obtain ⟨y, hy⟩ : ∃ y : ByteArray, y = ⟨(Lib.repeatL [48] c).toArray⟩ := ⟨_, rfl⟩
      have hcc : c = p + 1 - d.size := by have := HPP.out; omega
      have hyz : y.size = c := by rw [hy, mk_size, Lib.repeatL_length]; simp
      have HYD : Hid (y ++ d = z) := Lib.hid (by
        refine Go.WideShapes.bytes_inj ?_
        rw [HZD.out, ByteArray.data_append, Array.toList_append, hy, rep_zero, hcc])
      have q0 : ¬ (9223372036854775807 < y.size + d.size) := by have := HPP.out; omega
      have q1 : 0 < g := by have := HPP.out; omega
      have HRC := Lib.hid (fun W => HR.out c W (by have := HPP.out; omega))
      rw [← hy, ← hc] at HRC
      clear hg hc hy hs hcc hyz c0 c1
      go_wp2_with fail
      refine (HRC.out _).mono ?_
      rintro e w4 ⟨rfl, q⟩
      have P4 := Lib.hid (P2.out.up q)
      clear q
      go_wp2_with fail
      go_meet
      exact ⟨by rw [HYD.out], P4.out⟩
    · have HDZ : Hid (d = z) := Lib.hid (by
        refine Go.WideShapes.bytes_inj ?_
        rw [HZD.out, show p + 1 - d.size = 0 by omega]; rfl)
      have q1 : ¬ (0 < g) := by have := HPP.out; omega
      have q2 : decide (0 < g) = false := decide_eq_false q1
      clear hs hg
      go_wp2_with fail
      go_meet
      exact ⟨by rw [HDZ.out], P2.out⟩
  case rest =>
    obtain ⟨rfl, hx⟩ := hcut
    have P4 := Lib.hid hx
    clear hx c0 c1 hg
    obtain ⟨⟨c0, c1, -⟩, -⟩ := P4.out
    go_upto_if 37 with fail
    go_cut [8] (fun v wx => v = .string mid ∧ TX w wx m p')
    case first =>
      by_cases hp : p = 0
      · have HZM := Lib.hid (HM0.out hp)
        obtain rfl : p' = 0 := by have := HPP.out; omega
        clear hp
        go_wp2_with fail
        go_meet
        exact ⟨by rw [HZM.out], P4.out⟩
      · have HZM := Lib.hid (HM1.out hp)
        have hpp : 0 < p' := by have := HPP.out; omega
        obtain ⟨k, hk⟩ : ∃ k : Nat, (z.size : Int) - p' = k := ⟨z.size - p, by have := HPP.out; have := HZZ.out; omega⟩
        have hkk : z.size - p = k := by have := HPP.out; omega
        rw [hkk] at HZM
        have hkz : k ≤ z.size := by omega
        have hkz' : (k : Int) ≤ z.size := by omega
        have hz100 : z.size ≤ 100 := by have := HZZ.out; omega
        clear hp
        have P5 : Hid (TX w wc.drew m p') := Lib.hid ⟨P4.out.1, P4.out.2.drew⟩
        go_wp2_with fail
        go_quiet (fail)
        go_wp2_with fail
        go_meet
        exact ⟨by rw [HZM.out], P4.out.1, below_dr P4.out.2 _⟩
    case rest =>
      obtain ⟨rfl, hx⟩ := hcut
      have P6 := Lib.hid hx
      clear hx c0 c1
      have q1 : ¬ (9223372036854775807 < (⟨#[45]⟩ : ByteArray).size + mid.size) := by rw [show (⟨#[45]⟩ : ByteArray).size = 1 from rfl]; omega
      have q2 : ¬ (9223372036854775807 < 1 + mid.size) := by omega
      cases b with
      | false =>
        have HF : Hid (res = mid) := Lib.hid (by rw [HE.out]; rfl)
        go_wp2_with fail
        go_ret2
        exact ⟨by rw [HF.out]; rfl, P6.out.2⟩
      | true =>
        have HF : Hid (res = ⟨#[45]⟩ ++ mid) := Lib.hid (by rw [HE.out]; rfl)
        go_wp2_with fail
        go_ret2
        exact ⟨by rw [HF.out]; rfl, P6.out.2⟩
end Go.Proofs.YtiikohbnfbpjeaaDoor

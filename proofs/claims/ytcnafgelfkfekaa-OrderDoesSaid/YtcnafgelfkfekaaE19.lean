import Derived.Test.YtcnafgelfkfekaaE18
namespace Go.Proofs.Ytcnafgelfkfekaa
open Go.RowKit

theorem less_cmp (a b : ByteArray) : Op.bytesLess a.data.toList b.data.toList = decide (cmpB a b < 0) := by
  unfold cmpB
  rw [compare_less]
  cases h : Op.bytesLess a.data.toList b.data.toList
  · cases h2 : Op.bytesLess b.data.toList a.data.toList <;> simp
  · simp
theorem less_q (a b : ByteArray) (w : World) (ha : a.size ≤ maxLen) (hb : b.size ≤ maxLen) :
    Calls Try.prog 36 #[.string a, .string b] w fun e w' => e = .returned (.bool (decide (cmpB a b < 0))) ∧ ∃ m, w' = w.drewN m := by
  unfold maxLen at ha hb
  have HLC := Lib.hid (less_cmp a b)
  go_enter Try.func36, Try.ntmps36
  go_wp2_with fail
  go_loopw [4, 5] (fun _ i wr => ∃ k n : Nat, k ≤ a.size ∧ k ≤ b.size ∧ i = .int .i64 k ∧ Op.bytesLess (a.data.toList.drop k) (b.data.toList.drop k) = Op.bytesLess a.data.toList b.data.toList ∧ w.drewN n = wr) (fun _ i _ => a.size - (intOf i).toNat)
  case atStart => exact ⟨0, 0, by omega, by omega, rfl, rfl, rfl⟩
  case round =>
    obtain ⟨k, n, hka, hkb, rfl, hl, rfl⟩ := hrel
    by_cases h1 : k < a.size
    · by_cases h2 : k < b.size
      · rw [drop_at a k h1, drop_at b k h2] at hl
        by_cases heq : a[k].toNat = b[k].toNat
        · have hne : (((a[k].toNat : Nat) : Int) != ((b[k].toNat : Nat) : Int)) = false := by simp [heq]
          have hu : a[k] = b[k] := UInt8.toNat_inj.1 heq
          have hl2 : Op.bytesLess (a.data.toList.drop (k + 1)) (b.data.toList.drop (k + 1)) = Op.bytesLess a.data.toList b.data.toList := by
            rw [← hl]; simp [Op.bytesLess, hu]
          have HL := Lib.hid hl2
          clear hl hl2 heq hu
          go_wp2_with fail
          go_quiet (fail)
          go_wp2_with fail
          go_roundw
          case rel => exact ⟨k + 1, _, by omega, by omega, by go_num, HL.out, rfl⟩
          case measure => simp [intOf]; omega
        · have hne : (((a[k].toNat : Nat) : Int) != ((b[k].toNat : Nat) : Int)) = true := by simp; omega
          have hl2 : decide (a[k].toNat < b[k].toNat) = Op.bytesLess a.data.toList b.data.toList := by
            rw [← hl]
            have hu : ¬ a[k] = b[k] := fun h => heq (by rw [h])
            simp [Op.bytesLess, hu, UInt8.lt_iff_toNat_lt]
          have HL := Lib.hid hl2
          clear hl hl2 heq
          go_wp2_with fail
          go_quiet (fail)
          go_wp2_with fail
          go_quiet (fail)
          go_wp2_with fail
          go_ret
          exact ⟨ret_bool (by rw [← HLC.out]; exact HL.out), _, by rw [World.drewN_drewN, World.drewN_drewN]⟩
      · rw [drop_end b k (by omega), less_nil_right] at hl
        have HL := Lib.hid hl
        clear hl
        have h3 : ¬ a.size < b.size := by omega
        go_wp2_with fail
        go_ret
        exact ⟨ret_bool (by rw [← HLC.out, ← HL.out]), _, rfl⟩
    · have HL : Hid (Op.bytesLess a.data.toList b.data.toList = decide (a.size < b.size)) := Lib.hid (by
        rw [← hl, drop_end a k (by omega)]
        by_cases h2 : k < b.size
        · rw [drop_at b k h2]; simp [Op.bytesLess]; omega
        · rw [drop_end b k (by omega), less_nil_right]; symm; simp; omega)
      clear hl
      go_wp2_with fail
      go_ret
      exact ⟨ret_bool (by rw [← HLC.out, HL.out]), _, rfl⟩
theorem quiet_all {P : Program} {f : FuncId} {args : Array Value} {v : Value} (h : ∀ W, Calls P f args W fun e w' => e = .returned v ∧ ∃ m, w' = W.drewN m) (w : World) (n : Nat) :
    Calls P f args (w.drewN n) fun e w'' => e = .returned v ∧ ∃ m, w'' = w.drewN m :=
  (h _).mono fun _ _ ⟨he, m, hm⟩ => ⟨he, n + m, by rw [hm, World.drewN_drewN]⟩
theorem short_max {L : List ByteArray} (h : Short L) (j : Nat) : (nth L j).size ≤ maxLen := by
  have := h j; unfold maxLen; omega
theorem chE_two (L : List ByteArray) : chE L = 0 ∨ chE L = 8 := by unfold chE; (repeat' split) <;> simp
set_option maxRecDepth 10000 in
set_option maxHeartbeats 1000000 in
theorem may_any (a : Option Addr) (len cap : Nat) (L : List ByteArray) (w : World) (hv : SView w a len L) (hs : Short L) (hm : len ≤ maxLen) :
    Calls Try.prog 30 #[.slice a len cap] w fun e w' => e = .returned (.bool (chE L == 0)) ∧ Below w.heap.size w w' := by
  unfold maxLen at hm
  obtain ⟨hL, hc⟩ := hv
  by_cases h1 : 4096 < len
  · have hE := Lib.hid (show (chE L == 0) = false by rw [show chE L = 8 by unfold chE; rw [if_pos (by omega)]]; rfl)
    have g1 : (1 : Int) < (len : Int) := by omega
    have g2 : ¬ (len : Int) ≤ 4096 := by omega
    clear hc hL
    go_enter Try.func30, Try.ntmps30
    go_wp2_with fail
    refine wp_loop_rounds 1 ?_
    rw [rounds_succ]
    go_wp2_with fail
    go_ret
    exact ⟨ret_bool (by rw [hE.out]; exact decide_eq_false (by omega)), Below.refl _ _⟩
  by_cases hz : len ≤ 1
  · have hE := Lib.hid (show (chE L == 0) = true by rw [show chE L = 0 by unfold chE; rw [if_neg (by omega), show L.length - 1 = 0 by omega]; rfl]; rfl)
    clear hc hL
    go_enter Try.func30, Try.ntmps30
    go_wp2_with fail
    refine wp_loop_rounds 1 ?_
    rw [rounds_succ]
    go_wp2_with fail
    go_ret
    exact ⟨ret_bool (by rw [hE.out]; exact decide_eq_true (by omega)), Below.refl _ _⟩
  · obtain ⟨b, off, rfl, hxb, _⟩ := hc 0 (by omega)
    have HC : Hid (∀ k, k < len → w.cell? ⟨b, off + k, none⟩ = some (.string (nth L k))) := Lib.hid (fun k hk => by
      obtain ⟨b', off', he, _, hx⟩ := hc k hk
      simp only [Option.some.injEq, Addr.mk.injEq, and_true] at he
      obtain ⟨rfl, rfl⟩ := he
      exact hx)
    have HS := Lib.hid hs
    have HG : Hid (rises L (len - 1) = true → (chE L == 0) = true) := Lib.hid (fun h => by rw [show chE L = 0 by unfold chE; rw [if_neg (by omega), hL, h]; rfl]; rfl)
    have HN : Hid (rises L (len - 1) = false → (chE L == 0) = false) := Lib.hid (fun h => by rw [show chE L = 8 by unfold chE; rw [if_neg (by omega), hL, h]; rfl]; rfl)
    clear hc hL hs
    go_enter Try.func30, Try.ntmps30
    go_wp2_with fail
    go_loopw [3] (fun i wr => ∃ k : Nat, k + 1 ≤ len ∧ i = .int .i64 ((k : Int) + 1) ∧ rises L k = true ∧ Below w.heap.size w wr) (fun i _ => len - (intOf i).toNat)
    case atStart => exact ⟨0, by omega, rfl, rfl, Below.refl _ _⟩
    case round =>
      obtain ⟨k, hk, rfl, hr, hb⟩ := hrel
      by_cases hlt : k + 1 < len
      · have c0 := (hb.cell (p := ⟨b, off + k, none⟩) hxb).trans (HC.out k (by omega))
        have c1 := (hb.cell (p := ⟨b, off + (k + 1), none⟩) hxb).trans (HC.out (k + 1) hlt)
        have HX := Lib.hid (short_max HS.out k)
        have HY := Lib.hid (short_max HS.out (k + 1))
        obtain ⟨x, hx⟩ : ∃ x, x = nth L k := ⟨_, rfl⟩
        obtain ⟨y, hy⟩ : ∃ y, y = nth L (k + 1) := ⟨_, rfl⟩
        rw [← hx] at c0 HX
        rw [← hy] at c1 HY
        have HQ := Lib.hid (fun W => less_q x y W HX.out HY.out)
        have hw : IntKind.i64.wrap ((k : Int) + 1 - 1) = k := by rw [IntKind.wrap_i64]; omega
        have hk0 : k < len := by omega
        have hk2 : len ≤ 4096 := by omega
        have HB := Lib.hid hb
        by_cases hlt2 : cmpB x y < 0
        · have HR : Hid (rises L (k + 1) = true) := Lib.hid (by simp only [rises, hr, ← hx, ← hy, Bool.true_and, decide_eq_true_eq]; exact hlt2)
          have HD : Hid (decide (cmpB x y < 0) = true) := Lib.hid (decide_eq_true hlt2)
          obtain ⟨d, hd⟩ : ∃ d, d = decide (cmpB x y < 0) := ⟨_, rfl⟩
          rw [← hd] at HQ HD
          obtain rfl : d = true := HD.out
          clear hx hy hb hr hlt2 hd
          go_wp2_with fail
          go_quiet ((go_at_call 36; (with_reducible exact quiet_all HQ.out _ _)))
          go_wp2_with fail
          go_roundw
          case rel => exact ⟨k + 1, by omega, by go_num, HR.out, below_drewN HB.out _⟩
          case measure => simp [intOf]; omega
        · have HR : Hid (rises L (len - 1) = false) := Lib.hid (by
            cases hh : rises L (len - 1)
            · rfl
            · have := rises_le (j := k + 1) (by omega) hh
              simp only [rises, Bool.and_eq_true, decide_eq_true_eq, ← hx, ← hy] at this
              exact absurd this.2 hlt2)
          have HD : Hid (decide (cmpB x y < 0) = false) := Lib.hid (decide_eq_false hlt2)
          obtain ⟨d, hd⟩ : ∃ d, d = decide (cmpB x y < 0) := ⟨_, rfl⟩
          rw [← hd] at HQ HD
          obtain rfl : d = false := HD.out
          clear hx hy hb hr hlt2 hd
          go_wp2_with fail
          go_quiet ((go_at_call 36; (with_reducible exact quiet_all HQ.out _ _)))
          go_wp2_with fail
          go_ret
          exact ⟨ret_bool (HN.out HR.out).symm, below_drewN HB.out _⟩
      · obtain rfl : len = k + 1 := by omega
        have HB := Lib.hid hb
        have HR := Lib.hid (HG.out hr)
        clear hb hr
        go_wp2_with fail
        go_ret
        exact ⟨ret_bool (by rw [HR.out]; exact decide_eq_true (by omega)), HB.out⟩
theorem before_any (a : Option Addr) (len cap k : Nat) (is : Bool) (L : List ByteArray) (s : ByteArray) (w : World) (hv : SView w a len L) (hs : Short L) (hss : s.size ≤ maxLen) (hm : len ≤ maxLen) (hat : At L s k is) :
    Calls Try.prog 31 #[.slice a len cap, .string s] w fun e w' => e = .returned (.int .i64 (k : Int)) ∧ Below w.heap.size w w' := by
  unfold maxLen at hm
  have hL := hv.1
  have HV := Lib.hid hv
  have HS := Lib.hid hs
  have HSS := Lib.hid hss
  have hk : k ≤ len := by rw [← hL]; exact hat.1
  have HLO : Hid (∀ j, j < k → cmpB (nth L j) s < 0) := Lib.hid hat.2.1
  have HHI : Hid (k < len → ¬ cmpB (nth L k) s < 0) := Lib.hid (fun h => by
    cases is
    · have := hat.2.2.2 rfl k (Nat.le_refl _) (by omega); omega
    · have := (cmp_zero _ _).2 (hat.2.2.1 rfl).2; omega)
  clear hv hs hss hat hL
  go_enter Try.func31, Try.ntmps31
  go_wp2_with fail
  go_loopg [5] k (fun f i wr => ∃ j : Nat, f + j = k ∧ i = .int .i64 j ∧ Below w.heap.size w wr)
  case atStart => exact ⟨0, rfl, rfl, Below.refl _ _⟩
  case round =>
    obtain ⟨j, hf, rfl, hb⟩ := hrel
    have HF := Lib.hid hf
    have HB := Lib.hid hb
    clear hb
    cases gk with
    | zero =>
      obtain rfl : j = k := by omega
      by_cases hj : j < len
      · have hj' : (j : Int) < (len : Int) := by omega
        obtain ⟨b, off, rfl, hbb, hc⟩ := (HV.out.below HB.out).2 j hj
        have HD : Hid (decide (cmpB (nth L j) s < 0) = false) := Lib.hid (decide_eq_false (by have := HHI.out hj; omega))
        have HX := Lib.hid (short_max HS.out j)
        obtain ⟨x, hx⟩ : ∃ x, x = nth L j := ⟨_, rfl⟩
        rw [← hx] at hc HD HX
        clear hx hbb hf
        go_wp2_with fail
        refine (less_q x s _ HX.out HSS.out).mono ?_
        rintro e w1 ⟨rfl, m, rfl⟩
        rw [HD.out]
        go_wp2_with fail
        go_ret
        exact ⟨rfl, below_drewN HB.out _⟩
      · have hj' : ¬ (j : Int) < (len : Int) := by omega
        clear hf
        go_wp2_with fail
        go_ret
        exact ⟨rfl, HB.out⟩
    | succ f =>
      have hj : j < len := by omega
      have hj' : (j : Int) < (len : Int) := by omega
      obtain ⟨b, off, rfl, hbb, hc⟩ := (HV.out.below HB.out).2 j hj
      have HD : Hid (decide (cmpB (nth L j) s < 0) = true) := Lib.hid (decide_eq_true (HLO.out j (by omega)))
      have HX := Lib.hid (short_max HS.out j)
      obtain ⟨x, hx⟩ : ∃ x, x = nth L j := ⟨_, rfl⟩
      rw [← hx] at hc HD HX
      clear hx hbb hf
      go_wp2_with fail
      refine (less_q x s _ HX.out HSS.out).mono ?_
      rintro e w1 ⟨rfl, m, rfl⟩
      rw [HD.out]
      go_wp2_with fail
      go_roundg f
      case rel => exact ⟨j + 1, by have := HF.out; omega, by go_num, below_drewN HB.out _⟩
      case measure => omega
theorem has_any (a : Option Addr) (len cap k : Nat) (is : Bool) (L : List ByteArray) (s : ByteArray) (w : World) (hv : SView w a len L) (hs : Short L) (hss : s.size ≤ maxLen) (hm : len ≤ maxLen) (hat : At L s k is) :
    Calls Try.prog 32 #[.slice a len cap, .string s] w fun e w' => e = .returned (.bool is) ∧ Below w.heap.size w w' := by
  have hB := before_any a len cap k is L s w hv hs hss hm hat
  have hL := hv.1
  have hk : k ≤ len := by rw [← hL]; exact hat.1
  unfold maxLen at hm
  have HV := Lib.hid hv
  have HBF := Lib.hid hB
  have HAT := Lib.hid hat
  have HL := Lib.hid hL
  clear hv hs hss hat hB hL
  go_enter Try.func32, Try.ntmps32
  go_wp2_with fail
  refine HBF.out.mono ?_
  rintro e w1 ⟨rfl, b1⟩
  have HB := Lib.hid b1
  clear b1
  by_cases hj : k < len
  · have hj' : (k : Int) < (len : Int) := by omega
    obtain ⟨b, off, rfl, hbb, hc⟩ := (HV.out.below HB.out).2 k hj
    have HE : Hid (((nth L k).toList == s.toList) = is) := Lib.hid (by
      rw [str_eq]
      cases is
      · have := HAT.out.2.2.2 rfl k (Nat.le_refl _) (by rw [HL.out]; exact hj)
        apply decide_eq_false
        intro e
        have := (cmp_zero (nth L k) s).2 e
        omega
      · exact decide_eq_true (HAT.out.2.2.1 rfl).2)
    obtain ⟨x, hx⟩ : ∃ x, x = nth L k := ⟨_, rfl⟩
    rw [← hx] at hc HE
    clear hx hbb
    have he := HE.out
    go_wp2_with fail
    go_ret
    exact ⟨rfl, HB.out⟩
  · have hj' : ¬ (k : Int) < (len : Int) := by omega
    have HE : Hid (is = false) := Lib.hid (by
      cases is
      · rfl
      · have := (HAT.out.2.2.1 rfl).1
        rw [HL.out] at this
        exact absurd this hj)
    go_wp2_with fail
    go_ret
    exact ⟨ret_bool HE.out.symm, HB.out⟩
theorem rfind_ok (a : Option Addr) (len cap k : Nat) (is : Bool) (L : List ByteArray) (s : ByteArray) (w : World) (hv : SView w a len L) (hs : Short L) (hss : s.size ≤ maxLen) (hm : len ≤ maxLen) (hc : chE L = 0) (hat : At L s k is) :
    Calls Try.prog 18 #[.slice a len cap, .string s] w fun e w' => e = .returned (.tuple #[.int .i64 (k : Int), .bool is]) ∧ Below w.heap.size w w' := by
  have HV := Lib.hid hv
  have HS := Lib.hid hs
  have HSS := Lib.hid hss
  have HM := Lib.hid hm
  have HAT := Lib.hid hat
  have HC : Hid ((chE L == 0) = true) := Lib.hid (by rw [hc]; rfl)
  clear hv hs hss hm hat hc
  go_enter Try.func18, Try.ntmps18
  go_wp2_with fail
  refine (may_any a len cap L _ HV.out HS.out HM.out).mono ?_
  rintro e w1 ⟨rfl, b1⟩
  rw [HC.out]
  have B1 := Lib.hid b1
  clear b1
  go_wp2_with fail
  refine (before_any a len cap k is L s _ (HV.out.below B1.out) HS.out HSS.out HM.out HAT.out).mono ?_
  rintro e w2 ⟨rfl, b2⟩
  have B2 : Hid (Below w.heap.size w w2) := Lib.hid (B1.out.trans (b2.mono B1.out.size))
  clear b2
  go_wp2_with fail
  refine (has_any a len cap k is L s _ (HV.out.below B2.out) HS.out HSS.out HM.out HAT.out).mono ?_
  rintro e w3 ⟨rfl, b3⟩
  have B3 : Hid (Below w.heap.size w w3) := Lib.hid (B2.out.trans (b3.mono B2.out.size))
  clear b3
  go_wp2_with fail
  go_ret2
  exact ⟨rfl, B3.out⟩
theorem rfind_bad (a : Option Addr) (len cap : Nat) (L : List ByteArray) (s : ByteArray) (w : World) (hv : SView w a len L) (hs : Short L) (hm : len ≤ maxLen) (hc : chE L ≠ 0) :
    Calls Try.prog 18 #[.slice a len cap, .string s] w fun e w' => e = .returned (.tuple #[.int .i64 0, .bool false]) ∧ Below w.heap.size w w' := by
  have HV := Lib.hid hv
  have HS := Lib.hid hs
  have HM := Lib.hid hm
  have HC : Hid ((chE L == 0) = false) := Lib.hid (by simpa using hc)
  clear hv hs hm hc
  go_enter Try.func18, Try.ntmps18
  go_wp2_with fail
  refine (may_any a len cap L _ HV.out HS.out HM.out).mono ?_
  rintro e w1 ⟨rfl, b1⟩
  rw [HC.out]
  have B1 := Lib.hid b1
  clear b1
  go_wp2_with fail
  go_ret2
  exact ⟨rfl, B1.out⟩
theorem rcheck_any (a : Option Addr) (len cap : Nat) (L : List ByteArray) (w : World) (hv : SView w a len L) (hs : Short L) (hm : len ≤ maxLen) :
    Calls Try.prog 23 #[.slice a len cap] w fun e w' => e = .returned (.int .i64 (chE L)) ∧ Below w.heap.size w w' := by
  have hM := may_any a len cap L w hv hs hm
  have HMA := Lib.hid hM
  have h2 := chE_two L
  clear hv hs hm hM
  obtain ⟨E, hE⟩ : ∃ E, E = chE L := ⟨_, rfl⟩
  rw [← hE] at HMA h2 ⊢
  clear hE
  rcases h2 with rfl | rfl
  · go_enter Try.func23, Try.ntmps23
    go_wp2_with fail
    refine HMA.out.mono ?_
    rintro e w1 ⟨rfl, b1⟩
    have B1 := Lib.hid b1
    clear b1
    go_wp2_with fail
    go_ret
    exact ⟨rfl, B1.out⟩
  · go_enter Try.func23, Try.ntmps23
    go_wp2_with fail
    refine HMA.out.mono ?_
    rintro e w1 ⟨rfl, b1⟩
    have B1 := Lib.hid b1
    clear b1
    go_wp2_with fail
    go_ret
    exact ⟨rfl, B1.out⟩
end Go.Proofs.Ytcnafgelfkfekaa

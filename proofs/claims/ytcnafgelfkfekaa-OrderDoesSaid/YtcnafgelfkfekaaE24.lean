import Derived.Test.YtcnafgelfkfekaaE23
namespace Go.Proofs.Ytcnafgelfkfekaa
open Go.RowKit

set_option maxRecDepth 100000 in
theorem great_far (a : Option Addr) (len cap : Nat) (L : List ByteArray) (w : World) (hv : SView w a len L) (hm : len ≤ maxLen) (hs : Short L) (h1 : 100 < len) (h2 : len ≤ 4096 ∨ 4200 < len) :
    Calls Try.prog 15 #[.slice a len cap] w fun e w' => e = .returned (.bool true) ∧ Below w.heap.size w w' := by
  unfold maxLen at hm
  obtain ⟨hL, hc⟩ := hv
  have g1 : (100 : Int) < (len : Int) := by omega
  obtain ⟨b, off, rfl, hxb, _⟩ := hc 0 (by omega)
  have HC : Hid (∀ k, k < len → w.cell? ⟨b, off + k, none⟩ = some (.string (nth L k))) := Lib.hid (fun k hk => by
    obtain ⟨b', off', he, _, hx⟩ := hc k hk
    simp only [Option.some.injEq, Addr.mk.injEq, and_true] at he
    obtain ⟨rfl, rfl⟩ := he
    exact hx)
  have HS := Lib.hid hs
  have H2 := Lib.hid h2
  clear hc hL hs h2
  go_enter Try.func15, Try.ntmps15
  go_wp2_with fail
  go_loopw [3, 4] (fun z i wr => ∃ (k : Nat) (zv : Int), k ≤ len ∧ i = .int .i64 k ∧ z = .int .i64 zv ∧ 0 ≤ zv ∧ zv ≤ 10000 * k ∧ k ≤ 5000 ∧ w = wr) (fun _ i _ => len - (intOf i).toNat)
  case atStart => exact ⟨0, 0, by omega, rfl, rfl, by omega, by omega, by omega, rfl⟩
  case round =>
    obtain ⟨k, zv, hk, rfl, rfl, h0, hz1, h5, rfl⟩ := hrel
    by_cases hlt : k < len
    · by_cases hlt5 : k < 5000
      · have hcx := HC.out k hlt
        have hsx := HS.out k
        have hk5 : (k : Int) < 5000 := by omega
        have hzz : zv ≤ 50000000 := by omega
        have HZ := Lib.hid hz1
        have H5 := Lib.hid hlt5
        clear h5 hz1 hlt5
        obtain ⟨x, hx⟩ : ∃ x, x = nth L k := ⟨_, rfl⟩
        rw [← hx] at hcx hsx
        clear hx
        by_cases hx1 : (x.size : Int) ≤ 10000
        · go_wp2_with fail
          go_roundw
          case rel => exact ⟨k + 1, zv + x.size, by omega, by go_num, by go_num, by omega, (by have := HZ.out; omega), (by have := H5.out; omega), trivial⟩
          case measure => simp [intOf]; omega
        · go_wp2_with fail
          go_roundw
          case rel => exact ⟨k + 1, zv + 10000, by omega, by go_num, by go_num, by omega, (by have := HZ.out; omega), (by have := H5.out; omega), trivial⟩
          case measure => simp [intOf]; omega
      · have hk5 : ¬ (k : Int) < 5000 := by omega
        clear h5 hz1 hlt5
        rcases H2.out with h2 | h2
        · have g2 : (len : Int) ≤ 4096 := by omega
          clear h2
          go_wp2_with fail
          go_ret
          exact ⟨rfl, Below.refl _ _⟩
        · have g2 : ¬ (len : Int) ≤ 4096 := by omega
          have g3 : (4200 : Int) < len := by omega
          clear h2
          go_wp2_with fail
          go_ret
          exact ⟨rfl, Below.refl _ _⟩
    · have hlt' : ¬ (k : Int) < (len : Int) := by omega
      clear h5 hz1
      rcases H2.out with h2 | h2
      · have g2 : (len : Int) ≤ 4096 := by omega
        clear h2
        go_wp2_with fail
        go_ret
        exact ⟨rfl, Below.refl _ _⟩
      · have g2 : ¬ (len : Int) ≤ 4096 := by omega
        have g3 : (4200 : Int) < len := by omega
        clear h2
        go_wp2_with fail
        go_ret
        exact ⟨rfl, Below.refl _ _⟩
theorem put_allO (a : Option Addr) (len cap k : Nat) (is : Bool) (L : List ByteArray) (s : ByteArray) (w : World) (hv : SView w a len L) (hlc : len ≤ cap) (hcm : cap ≤ maxLen) (hnil : a = none → cap = 0) (hlen : len < 4096) (hc : chE L = 0) (hat : At L s k is) :
    Calls Try.prog 19 #[.slice a len cap, .string s] w fun e w' => ∃ v, e = .returned (.tuple #[v, .int .i64 0]) ∧ Own w.heap.size w' v (withL L s k is) ∧ Below w.heap.size w w' := by
  by_cases h0 : len = 0
  · subst h0
    obtain rfl : L = [] := List.length_eq_zero_iff.1 hv.1
    have hk : k = 0 := by have := hat.1; simpa using this
    have hi : is = false := by
      cases is
      · rfl
      · have := (hat.2.2.1 rfl).1; simp at this
    subst hk; subst hi
    exact put_emptyO a cap s w hnil
  · obtain ⟨b, off, rfl, _, _⟩ := hv.2 0 (by omega)
    cases is
    · rw [withL_ins]
      exact put_newO b off len cap k L s w hv hlc hcm hlen (by omega) hc (fun w h => findD _ len cap k false L s w h hc hat) (by have := hat.1; rw [hv.1] at this; exact this)
    · rw [withL_had hat]
      exact put_hadO b off len cap k L s w hv (by omega) hc hat
/-- A slice with its strings that may be handed on. -/
def Good (W : World) (a : Option Addr) (len cap : Nat) (L : List ByteArray) : Prop := SView W a len L ∧ len ≤ cap ∧ cap ≤ maxLen ∧ (a = none → len = 0 ∧ cap = 0)
theorem Good.below {w w' : World} {a : Option Addr} {len cap : Nat} {L : List ByteArray} (h : Good w a len cap L) (hb : Below w.heap.size w w') : Good w' a len cap L := ⟨h.1.below hb, h.2⟩
/-- What a pair of calls answers: the same list and error. -/
def Gives (f : FuncId) (args : Array Value) (E : Int) (M : List ByteArray) (W : World) : Prop :=
  Calls Try.prog f args W fun e w' => ∃ v, e = .returned (.tuple #[v, .int .i64 E]) ∧ Own W.heap.size w' v M ∧ Below W.heap.size W w'
def Finds (f : FuncId) (args : Array Value) (k : Int) (is : Bool) (W : World) : Prop :=
  Calls Try.prog f args W fun e w' => e = .returned (.tuple #[.int .i64 k, .bool is]) ∧ Below W.heap.size W w'
def Checks (f : FuncId) (args : Array Value) (E : Int) (W : World) : Prop :=
  Calls Try.prog f args W fun e w' => e = .returned (.int .i64 E) ∧ Below W.heap.size W w'
set_option maxRecDepth 10000 in
set_option maxHeartbeats 4000000 in
theorem does_core (a : Option Addr) (len cap : Nat) (L : List ByteArray) (s : ByteArray) (w : World) (hv : Good w a len cap L) (hm : len ≤ 4200) (hss : s.size ≤ maxLen)
    (hg : Calls Try.prog 15 #[.slice a len cap] w fun e w' => IsBool e ∧ Below w.heap.size w w')
    (k : Int) (is : Bool) (E1 E2 E3 E4 : Int) (M1 M2 M3 : List ByteArray)
    (h17 : ∀ W a c, Good W a len c L → Finds 17 #[.slice a len c, .string s] k is W)
    (h18 : ∀ W, Good W a len cap L → Finds 18 #[.slice a len cap, .string s] k is W)
    (h19 : ∀ W a c, Good W a len c L → Gives 19 #[.slice a len c, .string s] E1 M1 W)
    (h20 : ∀ W, Good W a len cap L → Gives 20 #[.slice a len cap, .string s] E1 M1 W)
    (h10 : ∀ W a c, Good W a len c L → Gives 10 #[.slice a len c, .string s] E2 M2 W)
    (h21 : ∀ W, Good W a len cap L → Gives 21 #[.slice a len cap, .string s] E2 M2 W)
    (h9 : ∀ W a c, Good W a len c L → Gives 9 #[.slice a len c] E3 M3 W)
    (h22 : ∀ W, Good W a len cap L → Gives 22 #[.slice a len cap] E3 M3 W)
    (h14 : ∀ W a c, Good W a len c L → Checks 14 #[.slice a len c] E4 W)
    (h23 : ∀ W, Good W a len cap L → Checks 23 #[.slice a len cap] E4 W) :
    Calls Try.prog 4 #[.slice a len cap, .string s] w fun e w' => e = .returned (.bool true) ∧ Below w.heap.size w w' := by
  have HV := Lib.hid hv
  have HG := Lib.hid hg
  have H17 := Lib.hid h17
  have H18 := Lib.hid h18
  have H19 := Lib.hid h19
  have H20 := Lib.hid h20
  have H10 := Lib.hid h10
  have H21 := Lib.hid h21
  have H9 := Lib.hid h9
  have H22 := Lib.hid h22
  have H14 := Lib.hid h14
  have H23 := Lib.hid h23
  have HL : Hid (L.length = len) := Lib.hid hv.1.1
  have HTW := Lib.hid (fun (W : World) (h : Good W a len cap L) => twin_any a len cap L W h.1 h.2.2.2 (by omega))
  clear hv hg h17 h18 h19 h20 h10 h21 h9 h22 h14 h23
  unfold maxLen at hss
  go_enter Try.func4, Try.ntmps4
  go_wp2_with fail
  refine HG.out.mono ?_
  rintro e w1 ⟨⟨g, rfl⟩, b1⟩
  have B1 := Lib.hid b1
  clear b1
  cases g with
  | true =>
    go_wp2_with fail
    go_ret
    exact ⟨rfl, B1.out⟩
  | false =>
    by_cases hs1 : (1000 : Int) < (s.size : Int)
    · go_wp2_with fail
      go_ret
      exact ⟨rfl, B1.out⟩
    have HV1 := Lib.hid (HV.out.below B1.out)
    go_wp2_with fail
    refine (HTW.out _ HV1.out).mono ?_
    rintro e w2 ⟨v, rfl, ho, b2⟩
    have B2 : Hid (Below w.heap.size w w2) := Lib.hid (B1.out.trans (b2.mono B1.out.size))
    have HV2 := Lib.hid (HV.out.below B2.out)
    obtain ⟨ao, co, rfl, h1, h2, h3, h4⟩ := holds_of_own ho
    rw [HL.out] at h1 h2 h4 ⊢
    have HO2 : Hid (Good w2 ao len co L) := Lib.hid ⟨h1, h2, h3, h4⟩
    clear ho b2 h1 h2 h3 h4
    go_wp2_with fail
    refine (H17.out _ ao co HO2.out).mono ?_
    rintro e w3 ⟨rfl, b3⟩
    have B3 := Lib.hid b3
    clear b3
    go_wp2_with fail
    refine (H18.out _ (HV2.out.below B3.out)).mono ?_
    rintro e w4 ⟨rfl, b4⟩
    have B4 : Hid (Below w2.heap.size w2 w4) := Lib.hid (B3.out.trans (b4.mono B3.out.size))
    clear b4
    go_wp2_with fail
    refine (H19.out _ ao co (HO2.out.below B4.out)).mono ?_
    rintro e w5 ⟨va, rfl, hoa, b5⟩
    have B5 : Hid (Below w2.heap.size w2 w5) := Lib.hid (B4.out.trans (b5.mono B4.out.size))
    have OA5 : Hid (Own w4.heap.size w5 va M1) := Lib.hid hoa
    clear hoa b5
    go_wp2_with fail
    refine (H20.out _ (HV2.out.below B5.out)).mono ?_
    rintro e w6 ⟨vb, rfl, hob, b6⟩
    have B6 : Hid (Below w2.heap.size w2 w6) := Lib.hid (B5.out.trans (b6.mono B5.out.size))
    have OA6 := Lib.hid (OA5.out.below b6)
    have OB6 : Hid (Own w5.heap.size w6 vb M1) := Lib.hid hob
    have SA6 : Hid (∀ j, va.ownBlock = some j → j < w6.heap.size) := Lib.hid (fun j hj => Nat.lt_of_lt_of_le (World.ownsRow.lt OA5.out j hj).2 b6.size)
    clear hob b6
    go_wp2_with fail
    refine (H10.out _ ao co (HO2.out.below B6.out)).mono ?_
    rintro e w7 ⟨vc, rfl, hoc, b7⟩
    have B7 : Hid (Below w2.heap.size w2 w7) := Lib.hid (B6.out.trans (b7.mono B6.out.size))
    have OA7 := Lib.hid (OA6.out.below b7)
    have OB7 := Lib.hid (OB6.out.below b7)
    have OC7 : Hid (Own w6.heap.size w7 vc M2) := Lib.hid hoc
    have SA7 : Hid (∀ j, va.ownBlock = some j → j < w7.heap.size) := Lib.hid (fun j hj => Nat.lt_of_lt_of_le (SA6.out j hj) b7.size)
    clear hoc b7
    go_wp2_with fail
    refine (H21.out _ (HV2.out.below B7.out)).mono ?_
    rintro e w8 ⟨vd, rfl, hod, b8⟩
    have B8 : Hid (Below w2.heap.size w2 w8) := Lib.hid (B7.out.trans (b8.mono B7.out.size))
    have OA8 := Lib.hid (OA7.out.below b8)
    have OB8 := Lib.hid (OB7.out.below b8)
    have OC8 := Lib.hid (OC7.out.below b8)
    have OD8 : Hid (Own w7.heap.size w8 vd M2) := Lib.hid hod
    have SA8 : Hid (∀ j, va.ownBlock = some j → j < w8.heap.size) := Lib.hid (fun j hj => Nat.lt_of_lt_of_le (SA7.out j hj) b8.size)
    have SC8 : Hid (∀ j, vc.ownBlock = some j → j < w8.heap.size) := Lib.hid (fun j hj => Nat.lt_of_lt_of_le (World.ownsRow.lt OC7.out j hj).2 b8.size)
    clear hod b8
    go_wp2_with fail
    refine (H9.out _ ao co (HO2.out.below B8.out)).mono ?_
    rintro e w9 ⟨vp, rfl, hop, b9⟩
    have B9 : Hid (Below w2.heap.size w2 w9) := Lib.hid (B8.out.trans (b9.mono B8.out.size))
    have OA9 := Lib.hid (OA8.out.below b9)
    have OB9 := Lib.hid (OB8.out.below b9)
    have OC9 := Lib.hid (OC8.out.below b9)
    have OD9 := Lib.hid (OD8.out.below b9)
    have OP9 : Hid (Own w8.heap.size w9 vp M3) := Lib.hid hop
    clear hop b9
    go_wp2_with fail
    refine (H22.out _ (HV2.out.below B9.out)).mono ?_
    rintro e w10 ⟨vq, rfl, hoq, b10⟩
    have B10 : Hid (Below w2.heap.size w2 w10) := Lib.hid (B9.out.trans (b10.mono B9.out.size))
    have OA := Lib.hid (OA9.out.below b10)
    have OB := Lib.hid (OB9.out.below b10)
    have OC := Lib.hid (OC9.out.below b10)
    have OD := Lib.hid (OD9.out.below b10)
    have OP := Lib.hid (OP9.out.below b10)
    have OQ : Hid (Own w9.heap.size w10 vq M3) := Lib.hid hoq
    have S6 : Hid (w2.heap.size ≤ w6.heap.size) := Lib.hid B6.out.size
    have S4 : Hid (w2.heap.size ≤ w4.heap.size) := Lib.hid B4.out.size
    have S8 : Hid (w2.heap.size ≤ w8.heap.size) := Lib.hid B8.out.size
    clear hoq b10 OA5 OA6 OA7 OA8 OA9 OB6 OB7 OB8 OB9 OC7 OC8 OC9 OD8 OD9 OP9 SA7 B3 B4 B5 B6 B7 B8 B9 H17 H18 H19 H20 H10 H21 H9 H22 HV HV1 HG HTW
    obtain ⟨aA, cA, eA, hA, lA, mA, _⟩ := OA.out.holds
    obtain ⟨aB, cB, eB, hB, _, _, _⟩ := OB.out.holds
    obtain ⟨aC, cC, eC, hC, lC, mC, _⟩ := OC.out.holds
    obtain ⟨aD, cD, eD, hD, _, _, _⟩ := OD.out.holds
    obtain ⟨aP, cP, eP, hP, lP, mP, _⟩ := OP.out.holds
    obtain ⟨aQ, cQ, eQ, hQ, _, _, _⟩ := OQ.out.holds
    subst eA; subst eB; subst eC; subst eD; subst eP; subst eQ
    obtain ⟨n1, e1⟩ : ∃ n, n = M1.length := ⟨_, rfl⟩
    obtain ⟨n2, e2⟩ : ∃ n, n = M2.length := ⟨_, rfl⟩
    obtain ⟨n3, e3⟩ : ∃ n, n = M3.length := ⟨_, rfl⟩
    rw [← e1] at hA hB OA SA6 SA8 lA ⊢
    rw [← e2] at hC hD OC SC8 lC ⊢
    rw [← e3] at hP hQ OP lP ⊢
    have N1 : Hid (n1 ≤ maxLen) := Lib.hid (by omega)
    have N2 : Hid (n2 ≤ maxLen) := Lib.hid (by omega)
    have N3 : Hid (n3 ≤ maxLen) := Lib.hid (by omega)
    have VA := Lib.hid hA
    have VB := Lib.hid hB
    have VC := Lib.hid hC
    have VD := Lib.hid hD
    have VP := Lib.hid hP
    have VQ := Lib.hid hQ
    clear hA hB hC hD hP hQ lA lC lP mA mC mP e1 e2 e3 OB OD OQ
    go_wp2_with fail
    refine (same_any aA aB n1 n1 cA cB M1 M1 _ VA.out VB.out N1.out).mono ?_
    rintro e w11 ⟨rfl, b11⟩
    rw [show decide (M1 = M1) = true from decide_eq_true rfl]
    have B11 := Lib.hid b11
    clear b11
    go_wp2_with fail
    refine (same_any aC aD n2 n2 cC cD M2 M2 _ (VC.out.below B11.out) (VD.out.below B11.out) N2.out).mono ?_
    rintro e w12 ⟨rfl, b12⟩
    rw [show decide (M2 = M2) = true from decide_eq_true rfl]
    have B12 : Hid (Below w10.heap.size w10 w12) := Lib.hid (B11.out.trans (b12.mono B11.out.size))
    clear b12
    go_wp2_with fail
    refine (same_any aP aQ n3 n3 cP cQ M3 M3 _ (VP.out.below B12.out) (VQ.out.below B12.out) N3.out).mono ?_
    rintro e w13 ⟨rfl, b13⟩
    rw [show decide (M3 = M3) = true from decide_eq_true rfl]
    have B13 : Hid (Below w10.heap.size w10 w13) := Lib.hid (B12.out.trans (b13.mono B12.out.size))
    have BB13 : Hid (Below w2.heap.size w2 w13) := Lib.hid (B10.out.trans (B13.out.mono B10.out.size))
    clear b13
    go_wp2_with fail
    refine (H14.out _ ao co (HO2.out.below BB13.out)).mono ?_
    rintro e w14 ⟨rfl, b14⟩
    have B14 : Hid (Below w10.heap.size w10 w14) := Lib.hid (B13.out.trans (b14.mono B13.out.size))
    have BB14 : Hid (Below w2.heap.size w2 w14) := Lib.hid (BB13.out.trans (b14.mono BB13.out.size))
    clear b14
    go_wp2_with fail
    refine (H23.out _ (HV2.out.below BB14.out)).mono ?_
    rintro e w15 ⟨rfl, b15⟩
    have B15 : Hid (Below w10.heap.size w10 w15) := Lib.hid (B14.out.trans (b15.mono B14.out.size))
    have BB15 : Hid (Below w2.heap.size w2 w15) := Lib.hid (BB14.out.trans (b15.mono BB14.out.size))
    have OA15 := Lib.hid (OA.out.below B15.out)
    have OC15 := Lib.hid (OC.out.below B15.out)
    have OP15 := Lib.hid (OP.out.below B15.out)
    clear b15
    go_wp2_with fail
    refine (spoil_any _ w4.heap.size M1 _ OA15.out).mono ?_
    rintro e w16 ⟨rfl, sp16⟩
    have BB16 : Hid (Below w2.heap.size w2 w16) := Lib.hid (BB15.out.trans (sp16.1.mono S4.out))
    have OC16 : Hid (Own w6.heap.size w16 (.slice aC n2 cC) M2) := Lib.hid (sp16.own OC15.out SA6.out)
    have OP16 : Hid (Own w8.heap.size w16 (.slice aP n3 cP) M3) := Lib.hid (sp16.own OP15.out SA8.out)
    clear sp16
    go_wp2_with fail
    refine (spoil_any _ w6.heap.size M2 _ OC16.out).mono ?_
    rintro e w17 ⟨rfl, sp17⟩
    have BB17 : Hid (Below w2.heap.size w2 w17) := Lib.hid (BB16.out.trans (sp17.1.mono S6.out))
    have OP17 : Hid (Own w8.heap.size w17 (.slice aP n3 cP) M3) := Lib.hid (sp17.own OP16.out SC8.out)
    clear sp17
    go_wp2_with fail
    refine (spoil_any _ w8.heap.size M3 _ OP17.out).mono ?_
    rintro e w18 ⟨rfl, sp18⟩
    have BB18 : Hid (Below w2.heap.size w2 w18) := Lib.hid (BB17.out.trans (sp18.1.mono S8.out))
    clear sp18
    go_wp2_with fail
    refine (same_any ao a len len co cap L L _ (HO2.out.below BB18.out).1 (HV2.out.below BB18.out).1 (by unfold maxLen; omega)).mono ?_
    rintro e w19 ⟨rfl, b19⟩
    rw [show decide (L = L) = true from decide_eq_true rfl]
    have BB19 : Hid (Below w2.heap.size w2 w19) := Lib.hid (BB18.out.trans (b19.mono BB18.out.size))
    clear b19
    go_wp2_with fail
    go_ret
    exact ⟨ret_bool (by simp), B2.out.trans (BB19.out.mono B2.out.size)⟩
end Go.Proofs.Ytcnafgelfkfekaa

import Derived.Test.YtolegmlfmlfbhaaDoorK3
import Derived.Test.YtolegmlfmlfbhaaDoorK2
import Derived.Lib.ItoaLen
/- Layer 31, ServeWrites: the document's Quoted. -/
namespace Go.Proofs.YtolegmlfmlfbhaaDoor
open Go.RowKit
theorem bo_lit (w : World) (x : Int) : BO w (w.alloc (.cells #[.int .u8 x] 5)) (.slice (some ⟨w.heap.size, 0, none⟩) 1 1) [x] :=
  ⟨⟨rfl, .inr ⟨w.heap.size, 1, #[.int .u8 x], rfl, Nat.le_refl _, heap_alloc_new w _, Nat.le_refl _, by unfold maxLen; omega, rfl, rfl⟩⟩, (Below.refl _ _).alloc (Nat.le_refl _) _⟩
theorem short_no {x : Int} (h1 : x ≠ 34) (h2 : x ≠ 92) (h3 : x ≠ 8) (h4 : x ≠ 9) (h5 : x ≠ 10) (h6 : x ≠ 12) (h7 : x ≠ 13) : shortI x = 0 := by unfold shortI; rw [if_neg h1, if_neg h2, if_neg h3, if_neg h4, if_neg h5, if_neg h6, if_neg h7]
set_option maxRecDepth 20000 in
set_option maxHeartbeats 4000000 in
theorem rQuoted_any (s : ByteArray) (w : World) (hs : s.size ≤ 100000000) : Calls Tryd.prog 34 #[.string s] w fun e w' => e = .returned (.string (quT s)) ∧ Below w.heap.size w w' := by
  have hs1 : (s.size : Int) ≤ 100000000 := by omega
  have B0 := Lib.hid (bo_lit w 34)
  go_enter Tryd.func34, Tryd.ntmps34
  go_wp2_with fail
  go_loopw [3, 5, 6] (fun v3 v5 _ wr => ∃ (i : Nat) (v : Value), i ≤ s.size ∧ v5 = .int .i64 i ∧ v = v3 ∧ Hid (BO w wr v (quL s i))) (fun _ v5 _ _ => s.size - (intOf v5).toNat)
  case atStart => exact ⟨0, _, Nat.zero_le _, rfl, rfl, B0⟩
  case round =>
    obtain ⟨i, v, hi, rfl, rfl, HB⟩ := hrel
    have HL := Lib.hid (quL_len s i)
    by_cases hlt : i < s.size
    · have hlt' : (i : Int) < s.size := by omega
      have hge : (0 : Int) ≤ i := by omega
      have HQ : Hid (quL s (i + 1) = quL s i ++ escI (byt s i)) := Lib.hid rfl
      rw [byt_nat hlt] at HQ
      have hx1 := UInt8.toNat_lt s[i]
      obtain ⟨x, hx⟩ : ∃ x : Int, x = (s[i].toNat : Int) := ⟨_, rfl⟩
      have hxs := hx.symm
      rw [← hx] at HQ
      have hx0 : 0 ≤ x := by omega
      have hx2 : x < 256 := by omega
      clear hx hx1
      by_cases c34 : x = 34
      · subst c34
        replace HQ : Hid (quL s (i + 1) = quL s i ++ [92, 34]) := Lib.hid HQ.out
        go_wp2_with (at_builtin; refine app_bytes rfl (.tmp 28) (.tmp 30) rfl v (quL s i) [92, 34] wr.heap.size (by simp [Act.eval, Act.put]) (by simp [Act.eval, Act.put]) (HB.out.alloc _) (heap_alloc_new _ _) (by have := HL.out; simp; omega) ?_; intro v2 w2 b2; rw [← HQ.out] at b2; have B2 := Lib.hid b2; clear b2)
        go_roundw
        case rel => exact ⟨i + 1, _, by omega, by go_num, rfl, B2⟩
        case measure => simp [intOf]; omega
      by_cases c92 : x = 92
      · subst c92
        replace HQ : Hid (quL s (i + 1) = quL s i ++ [92, 92]) := Lib.hid HQ.out
        go_wp2_with (at_builtin; refine app_bytes rfl (.tmp 28) (.tmp 30) rfl v (quL s i) [92, 92] wr.heap.size (by simp [Act.eval, Act.put]) (by simp [Act.eval, Act.put]) (HB.out.alloc _) (heap_alloc_new _ _) (by have := HL.out; simp; omega) ?_; intro v2 w2 b2; rw [← HQ.out] at b2; have B2 := Lib.hid b2; clear b2)
        go_roundw
        case rel => exact ⟨i + 1, _, by omega, by go_num, rfl, B2⟩
        case measure => simp [intOf]; omega
      by_cases c8 : x = 8
      · subst c8
        replace HQ : Hid (quL s (i + 1) = quL s i ++ [92, 98]) := Lib.hid HQ.out
        go_wp2_with (at_builtin; refine app_bytes rfl (.tmp 43) (.tmp 48) rfl v (quL s i) [92, 98] wr.heap.size (by simp [Act.eval, Act.put]) (by simp [Act.eval, Act.put]) (HB.out.alloc _) (heap_alloc_new _ _) (by have := HL.out; simp; omega) ?_; intro v2 w2 b2; rw [← HQ.out] at b2; have B2 := Lib.hid b2; clear b2)
        go_roundw
        case rel => exact ⟨i + 1, _, by omega, by go_num, rfl, B2⟩
        case measure => simp [intOf]; omega
      by_cases c9 : x = 9
      · subst c9
        replace HQ : Hid (quL s (i + 1) = quL s i ++ [92, 116]) := Lib.hid HQ.out
        go_wp2_with (at_builtin; refine app_bytes rfl (.tmp 43) (.tmp 48) rfl v (quL s i) [92, 116] wr.heap.size (by simp [Act.eval, Act.put]) (by simp [Act.eval, Act.put]) (HB.out.alloc _) (heap_alloc_new _ _) (by have := HL.out; simp; omega) ?_; intro v2 w2 b2; rw [← HQ.out] at b2; have B2 := Lib.hid b2; clear b2)
        go_roundw
        case rel => exact ⟨i + 1, _, by omega, by go_num, rfl, B2⟩
        case measure => simp [intOf]; omega
      by_cases c10 : x = 10
      · subst c10
        replace HQ : Hid (quL s (i + 1) = quL s i ++ [92, 110]) := Lib.hid HQ.out
        go_wp2_with (at_builtin; refine app_bytes rfl (.tmp 43) (.tmp 48) rfl v (quL s i) [92, 110] wr.heap.size (by simp [Act.eval, Act.put]) (by simp [Act.eval, Act.put]) (HB.out.alloc _) (heap_alloc_new _ _) (by have := HL.out; simp; omega) ?_; intro v2 w2 b2; rw [← HQ.out] at b2; have B2 := Lib.hid b2; clear b2)
        go_roundw
        case rel => exact ⟨i + 1, _, by omega, by go_num, rfl, B2⟩
        case measure => simp [intOf]; omega
      by_cases c12 : x = 12
      · subst c12
        replace HQ : Hid (quL s (i + 1) = quL s i ++ [92, 102]) := Lib.hid HQ.out
        go_wp2_with (at_builtin; refine app_bytes rfl (.tmp 43) (.tmp 48) rfl v (quL s i) [92, 102] wr.heap.size (by simp [Act.eval, Act.put]) (by simp [Act.eval, Act.put]) (HB.out.alloc _) (heap_alloc_new _ _) (by have := HL.out; simp; omega) ?_; intro v2 w2 b2; rw [← HQ.out] at b2; have B2 := Lib.hid b2; clear b2)
        go_roundw
        case rel => exact ⟨i + 1, _, by omega, by go_num, rfl, B2⟩
        case measure => simp [intOf]; omega
      by_cases c13 : x = 13
      · subst c13
        replace HQ : Hid (quL s (i + 1) = quL s i ++ [92, 114]) := Lib.hid HQ.out
        go_wp2_with (at_builtin; refine app_bytes rfl (.tmp 43) (.tmp 48) rfl v (quL s i) [92, 114] wr.heap.size (by simp [Act.eval, Act.put]) (by simp [Act.eval, Act.put]) (HB.out.alloc _) (heap_alloc_new _ _) (by have := HL.out; simp; omega) ?_; intro v2 w2 b2; rw [← HQ.out] at b2; have B2 := Lib.hid b2; clear b2)
        go_roundw
        case rel => exact ⟨i + 1, _, by omega, by go_num, rfl, B2⟩
        case measure => simp [intOf]; omega
      have HS := Lib.hid (short_no c34 c92 c8 c9 c10 c12 c13)
      have g1 : (x == 34) = false := by rw [beq_eq_false_iff_ne]; exact c34
      have g2 : (x == 92) = false := by rw [beq_eq_false_iff_ne]; exact c92
      by_cases hlo : x < 32
      · rw [esc_low HS.out hlo] at HQ
        have HBD := Lib.hid HB.out.drew
        have i1 := fun W => hexL_at (x / 16) (by omega) (by omega) W .u8
        have i2 := fun W => hexL_at (x % 16) (by omega) (by omega) W .u8
        have t1 : x.tdiv 16 = x / 16 := Int.tdiv_eq_ediv_of_nonneg hx0
        have t2 : x.tmod 16 = x % 16 := Int.tmod_eq_emod_of_nonneg hx0
        have t3 : IntKind.u8.wrap (x / 16) = x / 16 := by rw [IntKind.wrap_u8]; omega
        have t4 : IntKind.u8.wrap (x % 16) = x % 16 := by rw [IntKind.wrap_u8]; omega
        by_cases c11 : x = 11
        · have g3 : (x != 11) = false := by rw [c11]; rfl
          have g4 : 8 ≤ x := by omega
          have g5 : x ≤ 13 := by omega
          clear c11 c34 c92 c8 c9 c10 c12 c13
          go_wp2_with fail
          go_region_law (first
            | (refine step_bytes rfl (.tmp 53) (.tmp 60) rfl v (quL s i) [92, 117, 48, 48, hexI (x / 16), hexI (x % 16)] wr.heap.size (by simp [Act.eval, Act.put]) (by simp [Act.eval, Act.put]) (HBD.out.alloc _) (heap_alloc_new _ _) (by have := HL.out; simp; omega) ?_; intro v2 w2 b2; rw [← HQ.out] at b2; have B2 := Lib.hid b2; clear b2))
          all_goals
            go_wp2_with fail
            go_roundw
            case rel => exact ⟨i + 1, _, by omega, by go_num, rfl, B2⟩
            case measure => simp [intOf]; omega
        · by_cases c7 : x < 8
          · have g4 : ¬ 8 ≤ x := by omega
            clear c7 c11 c34 c92 c8 c9 c10 c12 c13
            go_wp2_with fail
            go_region_law (first
              | (refine step_bytes rfl (.tmp 53) (.tmp 60) rfl v (quL s i) [92, 117, 48, 48, hexI (x / 16), hexI (x % 16)] wr.heap.size (by simp [Act.eval, Act.put]) (by simp [Act.eval, Act.put]) (HBD.out.alloc _) (heap_alloc_new _ _) (by have := HL.out; simp; omega) ?_; intro v2 w2 b2; rw [← HQ.out] at b2; have B2 := Lib.hid b2; clear b2))
            all_goals
              go_wp2_with fail
              go_roundw
              case rel => exact ⟨i + 1, _, by omega, by go_num, rfl, B2⟩
              case measure => simp [intOf]; omega
          · have g4 : 8 ≤ x := by omega
            have g5 : ¬ x ≤ 13 := by omega
            clear c7 c11 c34 c92 c8 c9 c10 c12 c13
            go_wp2_with fail
            go_region_law (first
              | (refine step_bytes rfl (.tmp 53) (.tmp 60) rfl v (quL s i) [92, 117, 48, 48, hexI (x / 16), hexI (x % 16)] wr.heap.size (by simp [Act.eval, Act.put]) (by simp [Act.eval, Act.put]) (HBD.out.alloc _) (heap_alloc_new _ _) (by have := HL.out; simp; omega) ?_; intro v2 w2 b2; rw [← HQ.out] at b2; have B2 := Lib.hid b2; clear b2))
            all_goals
              go_wp2_with fail
              go_roundw
              case rel => exact ⟨i + 1, _, by omega, by go_num, rfl, B2⟩
              case measure => simp [intOf]; omega
      · rw [esc_own HS.out hlo] at HQ
        have g4 : 8 ≤ x := by omega
        have g5 : ¬ x ≤ 13 := by omega
        clear c34 c92 c8 c9 c10 c12 c13
        go_wp2_with (at_builtin; refine app_bytes rfl (.tmp 17) (.tmp 19) rfl v (quL s i) [x] wr.heap.size (by simp [Act.eval, Act.put]) (by simp [Act.eval, Act.put]) (HB.out.alloc _) (heap_alloc_new _ _) (by have := HL.out; simp; omega) ?_; intro v2 w2 b2; rw [← HQ.out] at b2; have B2 := Lib.hid b2; clear b2)
        go_roundw
        case rel => exact ⟨i + 1, _, by omega, by go_num, rfl, B2⟩
        case measure => simp [intOf]; omega
    · have him : i = s.size := by omega
      subst him
      have hz : ¬ ((s.size : Int) < (s.size : Int)) := by omega
      go_wp2_with (at_builtin; refine app_bytes rfl (.tmp 62) (.tmp 63) rfl v (quL s s.size) [34] wr.heap.size (by simp [Act.eval, Act.put]) (by simp [Act.eval, Act.put]) (HB.out.alloc _) (heap_alloc_new _ _) (by have := HL.out; simp; omega) ?_; intro v2 w2 b2; have hcv := conv_own b2.1 (qu_end s); have B2 := Lib.hid b2; clear b2)
      go_ret
      exact ⟨rfl, B2.out.2⟩
end Go.Proofs.YtolegmlfmlfbhaaDoor
/- Layer 31, ServeWrites: a text quoted, what is no text as the empty one. -/
namespace Go.Proofs.YtolegmlfmlfbhaaDoor
open Go.RowKit
def sqT (s : ByteArray) : ByteArray := if isTx s then quT s else ⟨#[34, 34]⟩
theorem ck_small {s : ByteArray} (h : s.size ≤ 16384) : ckE s = if isTx s = true then 0 else 10 := by unfold ckE; rw [if_neg (by omega)]
theorem quT_nil : quT ⟨#[]⟩ = ⟨#[34, 34]⟩ := by rfl
set_option maxRecDepth 20000 in
theorem jQuote_any (s : ByteArray) (w : World) (hs : s.size ≤ 16384) : Calls Tryd.prog 29 #[.string s] w fun e w' => e = .returned (.tuple #[.string (if isTx s then quT s else ⟨#[]⟩), .int .i64 (ckE s)]) ∧ Below w.heap.size w w' := by
  have HC := Lib.hid (check_any s w (by unfold maxLen; omega))
  have HJ := Lib.hid (fun W => jquote_any s W (by omega))
  obtain ⟨b, hb⟩ : ∃ b, b = isTx s := ⟨_, rfl⟩
  have HE : Hid (ckE s = if b = true then 0 else 10) := Lib.hid (by rw [hb]; exact ck_small hs)
  rw [HE.out] at HC ⊢
  rw [← hb]
  clear hb HE
  cases b with
  | false =>
    go_enter Tryd.func29, Tryd.ntmps29
    go_wp2_with fail
    refine HC.out.mono ?_
    rintro e w1 ⟨rfl, b1⟩
    have B1 := Lib.hid b1
    clear b1
    go_wp2_with fail
    go_ret2
    exact ⟨rfl, B1.out⟩
  | true =>
    go_enter Tryd.func29, Tryd.ntmps29
    go_wp2_with fail
    refine HC.out.mono ?_
    rintro e w1 ⟨rfl, b1⟩
    have B1 := Lib.hid b1
    clear b1
    go_wp2_with fail
    refine (HJ.out w1).mono ?_
    rintro e w2 ⟨v, rfl, bo⟩
    have hcv := conv_own bo.1 (qu_end s)
    have B2 := Lib.hid (B1.out.trans (bo.2.mono B1.out.size))
    clear bo HJ HC
    go_wp2_with fail
    go_ret2
    exact ⟨rfl, B2.out⟩
set_option maxRecDepth 20000 in
theorem rquoted_any (s : ByteArray) (w : World) (hs : s.size ≤ 1000000) : Calls Tryd.prog 25 #[.string s] w fun e w' => e = .returned (.string (sqT s)) ∧ Below w.heap.size w w' := by
  have HP := Lib.hid (rpoints_any s w (by omega))
  have HQ := Lib.hid (fun W => rQuoted_any s W (by omega))
  have HQ0 := Lib.hid (fun W => rQuoted_any ⟨#[]⟩ W (by decide))
  rw [quT_nil] at HQ0
  obtain ⟨b, hb⟩ : ∃ b, b = isTx s := ⟨_, rfl⟩
  unfold sqT
  rw [← hb] at HP ⊢
  clear hb
  cases b with
  | false =>
    go_enter Tryd.func25, Tryd.ntmps25
    go_wp2_with fail
    refine HP.out.mono ?_
    rintro e w1 ⟨v, rfl, b1⟩
    have B1 := Lib.hid b1
    clear b1
    go_wp2_with fail
    refine (HQ0.out _).mono ?_
    rintro e w2 ⟨rfl, b2⟩
    have B2 := Lib.hid (B1.out.trans (b2.mono B1.out.size))
    clear b2
    go_wp2_with fail
    go_ret
    exact ⟨rfl, B2.out⟩
  | true =>
    go_enter Tryd.func25, Tryd.ntmps25
    go_wp2_with fail
    refine HP.out.mono ?_
    rintro e w1 ⟨v, rfl, b1⟩
    have B1 := Lib.hid b1
    clear b1
    go_wp2_with fail
    refine (HQ.out _).mono ?_
    rintro e w2 ⟨rfl, b2⟩
    have B2 := Lib.hid (B1.out.trans (b2.mono B1.out.size))
    clear b2
    go_wp2_with fail
    go_ret
    exact ⟨rfl, B2.out⟩
end Go.Proofs.YtolegmlfmlfbhaaDoor
/- Layer 31, ServeWrites: a number's digits, by the document. -/
namespace Go.Proofs.YtolegmlfmlfbhaaDoor
open Go.RowKit
theorem digit_slice : ∀ d : Nat, d < 10 → (⟨#[48, 49, 50, 51, 52, 53, 54, 55, 56, 57]⟩ : ByteArray).extract d (d + 1) = ⟨(Lib.itoa (d : Int)).toArray⟩ := by
  intro d hd
  have e : Lib.itoa (d : Int) = [UInt8.ofNat (48 + d)] := by
    rw [Lib.itoa_nonneg, Lib.decDigits_one hd]
  rw [e]
  match d, hd with
  | 0, _ => rfl
  | 1, _ => rfl
  | 2, _ => rfl
  | 3, _ => rfl
  | 4, _ => rfl
  | 5, _ => rfl
  | 6, _ => rfl
  | 7, _ => rfl
  | 8, _ => rfl
  | 9, _ => rfl
theorem cat_mk (a b : List UInt8) : (⟨a.toArray⟩ : ByteArray) ++ ⟨b.toArray⟩ = ⟨(a ++ b).toArray⟩ := by
  apply ByteArray.ext
  simp [ByteArray.data_append]
theorem itoa_pos (n : Int) (h : 10 ≤ n) : Lib.itoa n = Lib.itoa (n / 10) ++ Lib.itoa (n % 10) := by
  obtain ⟨u, rfl⟩ := Int.eq_ofNat_of_zero_le (by omega : 0 ≤ n)
  rw [show ((u : Int) / 10) = ((u / 10 : Nat) : Int) from by omega, show ((u : Int) % 10) = ((u % 10 : Nat) : Int) from by omega, Lib.itoa_nonneg, Lib.itoa_nonneg, Lib.itoa_nonneg, Lib.decDigits_one (by omega : u % 10 < 10)]
  rw [Lib.decDigits, dif_neg (by omega)]
theorem itoa_neg10 (n : Int) (h : n ≤ -10) : Lib.itoa n = Lib.itoa (n.tdiv 10) ++ Lib.itoa (-(n.tmod 10)) := by
  obtain ⟨u, rfl⟩ : ∃ u : Nat, n = -(u : Int) := ⟨n.natAbs, by omega⟩
  rw [Int.neg_tdiv, Int.neg_tmod, Int.neg_neg, Int.tdiv_eq_ediv_of_nonneg (by omega), Int.tmod_eq_emod_of_nonneg (by omega)]
  rw [show ((u : Int) / 10) = ((u / 10 : Nat) : Int) from by omega, show ((u : Int) % 10) = ((u % 10 : Nat) : Int) from by omega]
  rw [Lib.itoa_neg u (by omega), Lib.itoa_neg (u / 10) (by omega), Lib.itoa_nonneg, Lib.decDigits_one (by omega : u % 10 < 10)]
  rw [Lib.decDigits, dif_neg (by omega)]; rfl
theorem itoa_neg1 (n : Int) (h : n < 0) : Lib.itoa n = [45] ++ Lib.itoa (-n) := by
  obtain ⟨u, rfl⟩ : ∃ u : Nat, n = -(u : Int) := ⟨n.natAbs, by omega⟩
  rw [Int.neg_neg, Lib.itoa_neg u (by omega), Lib.itoa_nonneg]; rfl

theorem ret_str {a b : ByteArray} (h : a = b) : Ending.returned (.string a) = .returned (.string b) := by rw [h]
theorem rwrite_digit (n : Int) (w : World) (h0 : 0 ≤ n) (h1 : n < 10) :
    Calls Tryd.prog 27 #[.int .i64 n] w fun e w' => e = .returned (.string ⟨(Lib.itoa n).toArray⟩) ∧ Below w.heap.size w w' := by
  obtain ⟨d, rfl⟩ := Int.eq_ofNat_of_zero_le h0
  have hd := Lib.hid (digit_slice d (by omega))
  go_enter Tryd.func27, Tryd.ntmps27
  go_wp2_with fail
  go_ret
  exact ⟨ret_str hd.out, Below.refl _ _⟩

theorem tmod_neg (n : Int) (h : n < 0) : -10 < n.tmod 10 ∧ n.tmod 10 ≤ 0 := by
  have e : (-n).tmod 10 = -(n.tmod 10) := Int.neg_tmod n 10
  have h1 := Int.tmod_lt_of_pos (-n) (by omega : (0 : Int) < 10)
  have h2 := Int.tmod_nonneg 10 (by omega : 0 ≤ -n)
  omega
theorem rwrite_any (k : Nat) : ∀ (n : Int) (w : World), n.natAbs ≤ k → -9223372036854775808 ≤ n → n ≤ 9223372036854775807 →
    Calls Tryd.prog 27 #[.int .i64 n] w fun e w' => e = .returned (.string ⟨(Lib.itoa n).toArray⟩) ∧ Below w.heap.size w w' := by
  induction k with
  | zero =>
    intro n w hk _ _
    exact rwrite_digit n w (by omega) (by omega)
  | succ k ih =>
    intro n w hk hlo hhi
    by_cases hd : 0 ≤ n ∧ n < 10
    · exact rwrite_digit n w hd.1 hd.2
    by_cases hp : 10 ≤ n
    · have he := Lib.hid (itoa_pos n hp)
      have IH := Lib.hid ih
      have l1 := Lib.itoa_length_le (n / 10) (by omega) (by omega)
      have l2 := Lib.itoa_length_le (n % 10) (by omega) (by omega)
      clear ih hd
      go_enter Tryd.func27, Tryd.ntmps27
      go_wp2_with fail
      refine (IH.out (n / 10) _ (by omega) (by omega) (by omega)).mono ?_
      rintro e w1 ⟨rfl, b1⟩
      go_wp2_with fail
      refine (rwrite_digit (n % 10) _ (by omega) (by omega)).mono ?_
      rintro e w2 ⟨rfl, b2⟩
      go_wp2_with fail
      go_ret
      exact ⟨ret_str (by rw [cat_mk, he.out]), b1.trans (b2.mono b1.size)⟩
    by_cases hs : -10 < n
    · have hn : n < 0 := by omega
      have he := Lib.hid (itoa_neg1 n hn)
      have l1 := Lib.itoa_length_le (-n) (by omega) (by omega)
      clear ih hd hp
      go_enter Tryd.func27, Tryd.ntmps27
      go_wp2_with fail
      refine (rwrite_digit (-n) _ (by omega) (by omega)).mono ?_
      rintro e w1 ⟨rfl, b1⟩
      go_wp2_with fail
      go_ret
      exact ⟨ret_str (by rw [cat_mk [45], he.out]), b1⟩
    · have hn : n ≤ -10 := by omega
      have hm := tmod_neg n (by omega)
      have m0 := hm.1
      have m1 := hm.2
      have hsum := Int.mul_tdiv_add_tmod n 10
      have hq : (n.tdiv 10).natAbs ≤ k ∧ -9223372036854775808 ≤ n.tdiv 10 ∧ n.tdiv 10 ≤ 9223372036854775807 := by omega
      have q0 := hq.1
      have q1 := hq.2.1
      have q2 := hq.2.2
      have he := Lib.hid (itoa_neg10 n hn)
      have IH := Lib.hid ih
      have l1 := Lib.itoa_length_le (n.tdiv 10) q1 q2
      clear ih hd hp hs hm hq hsum
      by_cases hz : n.tmod 10 < 0
      · have l2 := Lib.itoa_length_le (-(n.tmod 10)) (by omega) (by omega)
        go_enter Tryd.func27, Tryd.ntmps27
        go_wp2_with fail
        refine (IH.out (n.tdiv 10) _ q0 q1 q2).mono ?_
        rintro e w1 ⟨rfl, b1⟩
        go_wp2_with fail
        refine (rwrite_digit (-(n.tmod 10)) _ (by omega) (by omega)).mono ?_
        rintro e w2 ⟨rfl, b2⟩
        go_wp2_with fail
        go_ret
        exact ⟨ret_str (by rw [cat_mk, he.out]), b1.trans (b2.mono b1.size)⟩
      · have hz0 : n.tmod 10 = 0 := by omega
        have HZ := Lib.hid hz0
        have l2 := Lib.itoa_length_le (n.tmod 10) (by omega) (by omega)
        clear hz0
        go_enter Tryd.func27, Tryd.ntmps27
        go_wp2_with fail
        refine (IH.out (n.tdiv 10) _ q0 q1 q2).mono ?_
        rintro e w1 ⟨rfl, b1⟩
        go_wp2_with fail
        refine (rwrite_digit (n.tmod 10) _ (by omega) (by omega)).mono ?_
        rintro e w2 ⟨rfl, b2⟩
        go_wp2_with fail
        go_ret
        exact ⟨ret_str (by rw [cat_mk, he.out, HZ.out]; rfl), b1.trans (b2.mono b1.size)⟩
theorem rwrite_int (n : Int) (w : World) (h0 : -9223372036854775808 ≤ n) (h1 : n ≤ 9223372036854775807) :
    Calls Tryd.prog 27 #[.int .i64 n] w fun e w' => e = .returned (.string ⟨(Lib.itoa n).toArray⟩) ∧ Below w.heap.size w w' :=
  rwrite_any n.natAbs n w (Nat.le_refl _) h0 h1

end Go.Proofs.YtolegmlfmlfbhaaDoor
/- Layer 31, ServeWrites: a value's JSON (plain). -/
namespace Go.Proofs.YtolegmlfmlfbhaaDoor
open Go.RowKit
def itT (n : Int) : ByteArray := ⟨(Lib.itoa n).toArray⟩
def kidW (V : Nat → ByteArray × Nat) (g : Nat → CR) (n : Nat) (obj : Bool) (m : Int) : Nat → Nat → Nat → ByteArray → ByteArray × Nat
  | 0, _, p, s => (s, p)
  | f + 1, i, p, s => if (i : Int) < m ∧ p < n then kidW V g n obj m f (i + 1) (V p).2 ((if obj then (if 0 < i then s ++ ⟨#[44]⟩ else s) ++ (sqT (g p).nm ++ ⟨#[58]⟩) else (if 0 < i then s ++ ⟨#[44]⟩ else s)) ++ (V p).1) else (s, p)
def valW (g : Nat → CR) (n : Nat) : Nat → Nat → ByteArray × Nat
  | 0, p => (⟨#[]⟩, p)
  | f + 1, p =>
    if (g p).k = 1 then ((if (g p).n ≠ 0 then ⟨#[116, 114, 117, 101]⟩ else ⟨#[102, 97, 108, 115, 101]⟩), p + 1)
    else if (g p).k = 2 then (itT (g p).n, p + 1)
    else if (g p).k = 3 ∨ (g p).k = 4 then (sqT (g p).tx, p + 1)
    else if (g p).k = 6 then (⟨#[91]⟩ ++ (kidW (valW g n f) g n false (g p).m f 0 (p + 1) ⟨#[]⟩).1 ++ ⟨#[93]⟩, (kidW (valW g n f) g n false (g p).m f 0 (p + 1) ⟨#[]⟩).2)
    else if (g p).k = 7 then (⟨#[123]⟩ ++ (kidW (valW g n f) g n true (g p).m f 0 (p + 1) ⟨#[]⟩).1 ++ ⟨#[125]⟩, (kidW (valW g n f) g n true (g p).m f 0 (p + 1) ⟨#[]⟩).2)
    else (⟨#[110, 117, 108, 108]⟩, p + 1)
theorem kidW_stop {V : Nat → ByteArray × Nat} {g : Nat → CR} {n : Nat} {obj : Bool} {m : Int} {f i p : Nat} {s : ByteArray} (h : ¬ ((i : Int) < m ∧ p < n)) : kidW V g n obj m f i p s = (s, p) := by
  cases f with
  | zero => rfl
  | succ f => unfold kidW; rw [if_neg h]
theorem quT_size (s : ByteArray) : (quT s).size ≤ 6 * s.size + 2 := by
  unfold quT
  rw [mkB_size, List.length_append, List.length_singleton]
  have := quL_len s s.size
  omega
theorem sqT_size (s : ByteArray) : (sqT s).size ≤ 6 * s.size + 2 := by
  unfold sqT
  split
  · exact quT_size s
  · show 2 ≤ _; omega
theorem app_size (a b : ByteArray) : (a ++ b).size = a.size + b.size := ByteArray.size_append
/-- Cells small enough. -/
def SmW (g : Nat → CR) (n : Nat) : Prop := ∀ i, i < n → (g i).nm.size ≤ 3000 ∧ (g i).tx.size ≤ 3000 ∧ (-9223372036854775808 ≤ (g i).n ∧ (g i).n ≤ 9223372036854775807)
theorem kidW_ok {V : Nat → ByteArray × Nat} {g : Nat → CR} {n : Nat} {obj : Bool} {m : Int} (hg : SmW g n) (b : Nat) : ∀ (f i p : Nat) (s : ByteArray), (∀ q, p ≤ q → q < n → q < (V q).2 ∧ (V q).2 ≤ n ∧ (V q).1.size + 40000 * (n - (V q).2) ≤ 40000 * (n - q) - 20000) → p ≤ n → s.size + 40000 * (n - p) ≤ b →
    p ≤ (kidW V g n obj m f i p s).2 ∧ (kidW V g n obj m f i p s).2 ≤ n ∧ (kidW V g n obj m f i p s).1.size + 40000 * (n - (kidW V g n obj m f i p s).2) ≤ b
  | 0, i, p, s, _, hp, hs => ⟨Nat.le_refl _, hp, hs⟩
  | f + 1, i, p, s, hV, hp, hs => by
    unfold kidW
    split
    · rename_i hc
      obtain ⟨h1, h2, h3⟩ := hV p (Nat.le_refl _) hc.2
      have hq := sqT_size (g p).nm
      have hn := (hg p hc.2).1
      have e1 : ∀ t : ByteArray, (if 0 < i then t ++ (⟨#[44]⟩ : ByteArray) else t).size ≤ t.size + 1 := fun t => by
        split
        · rw [app_size]; exact Nat.le_refl _
        · omega
      have e2 := e1 s
      have e3 : (if obj then (if 0 < i then s ++ (⟨#[44]⟩ : ByteArray) else s) ++ (sqT (g p).nm ++ ⟨#[58]⟩) else (if 0 < i then s ++ (⟨#[44]⟩ : ByteArray) else s)).size ≤ s.size + 18004 := by
        split
        · rw [app_size, app_size]
          have : (⟨#[58]⟩ : ByteArray).size = 1 := rfl
          omega
        · omega
      have ih := kidW_ok (obj := obj) (m := m) hg b f (i + 1) (V p).2 ((if obj then (if 0 < i then s ++ ⟨#[44]⟩ else s) ++ (sqT (g p).nm ++ ⟨#[58]⟩) else (if 0 < i then s ++ ⟨#[44]⟩ else s)) ++ (V p).1) (fun q hq => hV q (by omega)) h2 (by rw [app_size]; omega)
      exact ⟨by omega, ih.2⟩
    · exact ⟨Nat.le_refl _, hp, hs⟩
theorem valW_ok {g : Nat → CR} {n : Nat} (hg : SmW g n) : ∀ (f p : Nat), 0 < f → p < n → p < (valW g n f p).2 ∧ (valW g n f p).2 ≤ n ∧ (valW g n f p).1.size + 40000 * (n - (valW g n f p).2) ≤ 40000 * (n - p) - 20000
  | f + 1, p, _, hp => by
    have hx := sqT_size (g p).tx
    obtain ⟨h1, h2, h3, h4⟩ := hg p hp
    have hi := Lib.itoa_length_le (g p).n h3 h4
    have hit : (itT (g p).n).size = (Lib.itoa (g p).n).length := rfl
    unfold valW
    split
    · refine ⟨by show p < p + 1; omega, by show p + 1 ≤ n; omega, ?_⟩
      show (if (g p).n ≠ 0 then (⟨#[116, 114, 117, 101]⟩ : ByteArray) else ⟨#[102, 97, 108, 115, 101]⟩).size + 40000 * (n - (p + 1)) ≤ _
      have : (if (g p).n ≠ 0 then (⟨#[116, 114, 117, 101]⟩ : ByteArray) else ⟨#[102, 97, 108, 115, 101]⟩).size ≤ 5 := by split <;> decide
      omega
    · split
      · exact ⟨by show p < p + 1; omega, by show p + 1 ≤ n; omega, by show (itT (g p).n).size + 40000 * (n - (p + 1)) ≤ _; omega⟩
      · split
        · exact ⟨by show p < p + 1; omega, by show p + 1 ≤ n; omega, by show (sqT (g p).tx).size + 40000 * (n - (p + 1)) ≤ _; omega⟩
        · have hk : ∀ obj, p + 1 ≤ (kidW (valW g n f) g n obj (g p).m f 0 (p + 1) ⟨#[]⟩).2 ∧ (kidW (valW g n f) g n obj (g p).m f 0 (p + 1) ⟨#[]⟩).2 ≤ n ∧ (kidW (valW g n f) g n obj (g p).m f 0 (p + 1) ⟨#[]⟩).1.size + 40000 * (n - (kidW (valW g n f) g n obj (g p).m f 0 (p + 1) ⟨#[]⟩).2) ≤ 40000 * (n - (p + 1)) := fun obj => by
            cases f with
            | zero => exact ⟨Nat.le_refl _, (by show p + 1 ≤ n; omega), (by show 0 + 40000 * (n - (p + 1)) ≤ 40000 * (n - (p + 1)); omega)⟩
            | succ f => exact kidW_ok hg _ (f + 1) 0 (p + 1) ⟨#[]⟩ (fun q _ hq => valW_ok hg (f + 1) q (by omega) hq) (by omega) (by show 0 + _ ≤ _; omega)
          split
          · obtain ⟨k1, k2, k3⟩ := hk false
            refine ⟨by show p < _; omega, k2, ?_⟩
            show (_ ++ _ ++ _ : ByteArray).size + _ ≤ _
            rw [app_size, app_size]
            have e1 : (⟨#[91]⟩ : ByteArray).size = 1 := rfl
            have e2 : (⟨#[93]⟩ : ByteArray).size = 1 := rfl
            omega
          · split
            · obtain ⟨k1, k2, k3⟩ := hk true
              refine ⟨by show p < _; omega, k2, ?_⟩
              show (_ ++ _ ++ _ : ByteArray).size + _ ≤ _
              rw [app_size, app_size]
              have e1 : (⟨#[123]⟩ : ByteArray).size = 1 := rfl
              have e2 : (⟨#[125]⟩ : ByteArray).size = 1 := rfl
              omega
            · exact ⟨by show p < p + 1; omega, by show p + 1 ≤ n; omega, by show 4 + 40000 * (n - (p + 1)) ≤ _; omega⟩
end Go.Proofs.YtolegmlfmlfbhaaDoor
/- Layer 31, ServeWrites: the document's value. -/
namespace Go.Proofs.YtolegmlfmlfbhaaDoor
open Go.RowKit Go.Maps
def VlP (w : World) (R : ByteArray × Nat) (e : Ending) (w' : World) : Prop := e = .returned (.tuple #[.string R.1, .int .i64 (R.2 : Nat)]) ∧ Below w.heap.size w w'
set_option maxRecDepth 20000 in
set_option maxHeartbeats 4000000 in
theorem rvalue_any (a : Option Addr) (n cap : Nat) (g : Nat → CR) (hg : SmW g n) (hn : n ≤ 1000) : ∀ (f p : Nat) (w : World), n - p ≤ f → p < n → CV w a n g → Calls Tryd.prog 13 #[.slice a n cap, .int .i64 (p : Nat)] w (VlP w (valW g n f p)) := by
  intro f
  induction f with
  | zero => intro p w h1 h2 _; omega
  | succ f ih =>
    intro p w hf hp hv
    obtain ⟨b, off, rfl⟩ := hv.addr (by omega)
    have HV := Lib.hid hv
    have HIH := Lib.hid ih
    obtain ⟨_, c0, c1, c2, c3, c4⟩ := hv.at_ hp
    have hp1 : (p : Int) < n := by omega
    have hp0 : (0 : Int) ≤ p := by omega
    have hn1 : (n : Int) ≤ 1000 := by omega
    obtain ⟨R, hR⟩ : ∃ R, R = valW g n (f + 1) p := ⟨_, rfl⟩
    rw [← hR]
    unfold valW at hR
    have HR := Lib.hid hR
    have HSM := Lib.hid (hg p hp)
    clear ih hR
    obtain ⟨kk, hkk⟩ : ∃ kk, kk = (g p).k := ⟨_, rfl⟩
    obtain ⟨nn, hnn⟩ : ∃ x, x = (g p).n := ⟨_, rfl⟩
    obtain ⟨mm, hmm⟩ : ∃ x, x = (g p).m := ⟨_, rfl⟩
    obtain ⟨tt, htt⟩ : ∃ x, x = (g p).tx := ⟨_, rfl⟩
    obtain ⟨ss, hss⟩ : ∃ x, x = (g p).nm := ⟨_, rfl⟩
    rw [← hkk] at c0
    rw [← hss] at c1
    rw [← htt] at c2
    rw [← hnn] at c3
    rw [← hmm] at c4
    rw [← hkk, ← hnn, ← hmm, ← htt] at HR
    rw [← hss, ← htt, ← hnn] at HSM
    clear hkk hnn hmm htt hss
    have HB : Hid (Below w.heap.size w (w.alloc (.cells #[.int .u8 kk, .string ss, .string tt, .int .i64 nn, .int .i64 mm] 34))) := Lib.hid ((Below.refl _ _).alloc (Nat.le_refl _) _)
    have hw1 : IntKind.i64.wrap ((p : Int) + 1) = ((p + 1 : Nat) : Int) := by rw [IntKind.wrap_i64] <;> omega
    by_cases k1 : kk = 1
    · subst k1
      by_cases hz : nn = 0
      · subst hz
        have HE : Hid (R = (⟨#[102, 97, 108, 115, 101]⟩, p + 1)) := HR
        go_enter Tryd.func13, Tryd.ntmps13
        go_wp2_with fail
        go_ret2
        exact ⟨by rw [HE.out] <;> rfl, HB.out⟩
      · have HE : Hid (R = (⟨#[116, 114, 117, 101]⟩, p + 1)) := Lib.hid (by rw [HR.out, if_pos rfl, if_pos hz])
        have g0 : (nn != 0) = true := by simpa using hz
        clear hz
        go_enter Tryd.func13, Tryd.ntmps13
        go_wp2_with fail
        go_ret2
        exact ⟨by rw [HE.out] <;> rfl, HB.out⟩
    have q1 : ((kk : Int) == 1) = false := by rw [beq_eq_false_iff_ne]; omega
    rw [if_neg k1] at HR
    by_cases k2 : kk = 2
    · subst k2
      have HE : Hid (R = (itT nn, p + 1)) := HR
      have HC := Lib.hid (fun W => rwrite_int nn W HSM.out.2.2.1 HSM.out.2.2.2)
      clear k1
      go_enter Tryd.func13, Tryd.ntmps13
      go_wp2_with fail
      refine (HC.out _).mono ?_
      rintro e w1 ⟨rfl, b1⟩
      have B1 := Lib.hid (HB.out.trans (b1.mono HB.out.size))
      clear b1
      go_wp2_with fail
      go_ret2
      exact ⟨by rw [HE.out] <;> rfl, B1.out⟩
    have q2 : ((kk : Int) == 2) = false := by rw [beq_eq_false_iff_ne]; omega
    rw [if_neg k2] at HR
    by_cases k3 : kk = 3 ∨ kk = 4
    · have HE : Hid (R = (sqT tt, p + 1)) := Lib.hid (by rw [HR.out, if_pos k3])
      have HC := Lib.hid (fun W => rquoted_any tt W (by have := HSM.out.2.1; omega))
      clear k1 k2 HR
      rcases k3 with rfl | rfl
      all_goals
        go_enter Tryd.func13, Tryd.ntmps13
        go_wp2_with fail
        refine (HC.out _).mono ?_
        rintro e w1 ⟨rfl, b1⟩
        have B1 := Lib.hid (HB.out.trans (b1.mono HB.out.size))
        clear b1
        go_wp2_with fail
        go_ret2
        exact ⟨by rw [HE.out] <;> rfl, B1.out⟩
    have q3 : ((kk : Int) == 3) = false := by rw [beq_eq_false_iff_ne]; omega
    have q4 : ((kk : Int) == 4) = false := by rw [beq_eq_false_iff_ne]; omega
    rw [if_neg k3] at HR
    by_cases k6 : kk = 6
    · subst k6
      obtain ⟨K, hK⟩ : ∃ K, K = kidW (valW g n f) g n false mm f 0 (p + 1) ⟨#[]⟩ := ⟨_, rfl⟩
      have HE : Hid (R = (⟨#[91]⟩ ++ K.1 ++ ⟨#[93]⟩, K.2)) := Lib.hid (by rw [HR.out, hK] <;> rfl)
      have HVO := Lib.hid (fun q (hq : q < n) (hf0 : 0 < f) => valW_ok hg f q hf0 hq)
      have HGQ := Lib.hid (fun q (hq : q < n) => (hg q hq).1)
      have HQT := Lib.hid (fun q (hq : q < n) W => rquoted_any (g q).nm W (by have := (hg q hq).1; omega))
      have HKF : Hid (n - (p + 1) ≤ f) := Lib.hid (by omega)
      have HP := Lib.hid hp
      obtain ⟨W, hW⟩ : ∃ W, W = w.alloc (.cells #[.int .u8 6, .string ss, .string tt, .int .i64 nn, .int .i64 mm] 34) := ⟨_, rfl⟩
      have HBX : Hid (∀ V, Below W.heap.size W V → V.cell? ⟨w.heap.size, 0, none⟩ = some (.int .u8 6) ∧ V.cell? ⟨w.heap.size, 4, none⟩ = some (.int .i64 mm)) := Lib.hid (fun V k => by
        have h : W.heap[w.heap.size]? = some (.cells #[.int .u8 6, .string ss, .string tt, .int .i64 nn, .int .i64 mm] 34) := by rw [hW]; exact heap_alloc_new w _
        have h2 : V.heap[w.heap.size]? = some (.cells #[.int .u8 6, .string ss, .string tt, .int .i64 nn, .int .i64 mm] 34) := by rw [k.block _ (Array.getElem?_eq_some_iff.1 h).1]; exact h
        exact ⟨by simp [World.cell?, h2], by simp [World.cell?, h2]⟩)
      have HB' : Hid (Below w.heap.size w W) := Lib.hid (by rw [hW]; exact HB.out)
      have HVW := Lib.hid (fun V (k : Below W.heap.size W V) => (HV.out.below HB'.out).below k)
      have HK := Lib.hid hK.symm
      clear hK HR HB k1 k2 k3
      go_enter Tryd.func13, Tryd.ntmps13
      go_wp2_with fail
      rw [← hW]
      clear hW
      go_loopw [1, 7, 8, 9, 10] (fun v1 v7 v8 _ _ wr => ∃ (i q fu : Nat) (s : ByteArray), v8 = .int .i64 i ∧ v1 = .int .i64 q ∧ v7 = .string s ∧ Hid (kidW (valW g n f) g n false mm fu i q s = K) ∧ Hid (p + 1 ≤ q ∧ q ≤ n ∧ n - q ≤ fu ∧ i ≤ q) ∧ Hid (s.size + 40000 * (n - q) ≤ 40000000) ∧ Hid (Below W.heap.size W wr)) (fun v1 _ _ _ _ _ => n - (intOf v1).toNat)
      case atStart => exact ⟨0, p + 1, f, ⟨#[]⟩, rfl, rfl, rfl, HK, Lib.hid ⟨Nat.le_refl _, HP.out, HKF.out, Nat.zero_le _⟩, Lib.hid (by show 0 + 40000 * (n - (p + 1)) ≤ 40000000; omega), Lib.hid (Below.refl _ _)⟩
      case round =>
        obtain ⟨i, q, fu, s, rfl, rfl, rfl, HKK, HRG, HSZ, HBL⟩ := hrel
        obtain ⟨z0, z4⟩ := HBX.out _ HBL.out
        have hq0 : (0 : Int) ≤ q := by omega
        have hqn : (q : Int) ≤ n := by have := HRG.out.2.1; omega
        have hsz : s.size ≤ 40000000 := by have := HSZ.out; omega
        have hiq : i ≤ 1000 := by have := HRG.out; omega
        by_cases hm : (i : Int) < mm
        · by_cases hqq : q < n
          · have hqi : (q : Int) < n := by omega
            have HQN := Lib.hid hqq
            obtain ⟨fu', hfu⟩ : ∃ x, fu = x + 1 := ⟨fu - 1, by have := HRG.out.2.2; omega⟩
            subst hfu
            have hkk := HKK.out
            unfold kidW at hkk
            rw [if_pos ⟨hm, hqq⟩] at hkk
            have HVq := Lib.hid (HVO.out q hqq (by have := HRG.out.1; have := HKF.out; omega))
            have HIq := Lib.hid (fun V (k : Below W.heap.size W V) => HIH.out q V (by have := HRG.out.1; have := HKF.out; omega) hqq (HVW.out V k))
            obtain ⟨X, hX⟩ : ∃ X, X = valW g n f q := ⟨_, rfl⟩
            rw [← hX] at hkk HVq HIq
            have HKN := Lib.hid hkk
            clear hkk HKK hX
            have hxs : X.1.size ≤ 40000000 := by have := HVq.out.2.2; omega
            rcases Nat.eq_zero_or_pos i with hi0 | hi0
            · subst hi0
              have hi1 : ¬ (0 : Int) < ((0 : Nat) : Int) := by decide
              have HK2 := Lib.hid (by have h := HKN.out; simp only [Nat.lt_irrefl, if_true, if_false, Bool.false_eq_true, ↓reduceIte] at h; exact h)
              clear HKN
              have hsc := app_size s (⟨#[44]⟩ : ByteArray)
              have hcc : (⟨#[44]⟩ : ByteArray).size = 1 := rfl
              have hl4 : ¬ 9223372036854775807 < s.size + X.1.size := by omega
              have HS2 : Hid ((s ++ X.1).size + 40000 * (n - X.2) ≤ 40000000) := Lib.hid (by have h1 := HVq.out; have h2 := HSZ.out; have h3 := HQN.out; have h4 := app_size s X.1; omega)
              clear hsc hcc
              go_wp2_with fail
              refine (HIq.out _ HBL.out).mono ?_
              rintro e w1 ⟨rfl, b1⟩
              have HB1 := Lib.hid (HBL.out.trans (b1.mono HBL.out.size))
              clear b1
              go_wp2_with fail
              go_roundw
              case rel => exact ⟨0 + 1, X.2, fu', _, by go_num, rfl, rfl, HK2, Lib.hid (by have h1 := HVq.out; have h2 := HRG.out; omega), HS2, HB1⟩
              case measure => (have h1 := HVq.out; simp [intOf]; omega)
            · have hi1 : (0 : Int) < (i : Int) := by omega
              have hl1 : ¬ 9223372036854775807 < s.size + 1 := by omega
              have HK2 := Lib.hid (by have h := HKN.out; simp only [hi0, if_true, if_false, Bool.false_eq_true, ↓reduceIte] at h; exact h)
              clear HKN
              have hsc := app_size s (⟨#[44]⟩ : ByteArray)
              have hcc : (⟨#[44]⟩ : ByteArray).size = 1 := rfl
              have hl4 : ¬ 9223372036854775807 < (s ++ (⟨#[44]⟩ : ByteArray)).size + X.1.size := by omega
              have HS2 : Hid (((s ++ (⟨#[44]⟩ : ByteArray)) ++ X.1).size + 40000 * (n - X.2) ≤ 40000000) := Lib.hid (by have h1 := HVq.out; have h2 := HSZ.out; have h3 := HQN.out; have h4 := app_size (s ++ (⟨#[44]⟩ : ByteArray)) X.1; omega)
              clear hsc hcc
              go_wp2_with fail
              refine (HIq.out _ HBL.out).mono ?_
              rintro e w1 ⟨rfl, b1⟩
              have HB1 := Lib.hid (HBL.out.trans (b1.mono HBL.out.size))
              clear b1
              go_wp2_with fail
              go_roundw
              case rel => exact ⟨i + 1, X.2, fu', _, by go_num, rfl, rfl, HK2, Lib.hid (by have h1 := HVq.out; have h2 := HRG.out; omega), HS2, HB1⟩
              case measure => (have h1 := HVq.out; simp [intOf]; omega)
          · have hqe : q = n := by have := HRG.out.2.1; omega
            subst hqe
            have hz : ¬ ((q : Int) < (q : Int)) := by omega
            have hke : K = (s, q) := by rw [← HKK.out]; exact kidW_stop (by omega)
            have HKE := Lib.hid hke
            clear HKK hke
            have hl2 : ¬ 9223372036854775807 < 1 + s.size := by omega
            have hl3 : ¬ 9223372036854775807 < (⟨#[91]⟩ ++ s : ByteArray).size + 1 := by rw [app_size]; show ¬ 9223372036854775807 < 1 + s.size + 1; omega
            go_wp2_with fail
            go_ret2
            exact ⟨by rw [HE.out, HKE.out] <;> rfl, HB'.out.trans (HBL.out.mono HB'.out.size)⟩
        · have hke : K = (s, q) := by rw [← HKK.out]; exact kidW_stop (by omega)
          have HKE := Lib.hid hke
          clear HKK hke
          have hl2 : ¬ 9223372036854775807 < 1 + s.size := by omega
          have hl3 : ¬ 9223372036854775807 < (⟨#[91]⟩ ++ s : ByteArray).size + 1 := by rw [app_size]; show ¬ 9223372036854775807 < 1 + s.size + 1; omega
          go_wp2_with fail
          go_ret2
          exact ⟨by rw [HE.out, HKE.out] <;> rfl, HB'.out.trans (HBL.out.mono HB'.out.size)⟩
    have q6 : ((kk : Int) == 6) = false := by rw [beq_eq_false_iff_ne]; omega
    rw [if_neg k6] at HR
    by_cases k7 : kk = 7
    · subst k7
      obtain ⟨K, hK⟩ : ∃ K, K = kidW (valW g n f) g n true mm f 0 (p + 1) ⟨#[]⟩ := ⟨_, rfl⟩
      have HE : Hid (R = (⟨#[123]⟩ ++ K.1 ++ ⟨#[125]⟩, K.2)) := Lib.hid (by rw [HR.out, hK] <;> rfl)
      have HVO := Lib.hid (fun q (hq : q < n) (hf0 : 0 < f) => valW_ok hg f q hf0 hq)
      have HGQ := Lib.hid (fun q (hq : q < n) => (hg q hq).1)
      have HQT := Lib.hid (fun q (hq : q < n) W => rquoted_any (g q).nm W (by have := (hg q hq).1; omega))
      have HKF : Hid (n - (p + 1) ≤ f) := Lib.hid (by omega)
      have HP := Lib.hid hp
      obtain ⟨W, hW⟩ : ∃ W, W = w.alloc (.cells #[.int .u8 7, .string ss, .string tt, .int .i64 nn, .int .i64 mm] 34) := ⟨_, rfl⟩
      have HBX : Hid (∀ V, Below W.heap.size W V → V.cell? ⟨w.heap.size, 0, none⟩ = some (.int .u8 7) ∧ V.cell? ⟨w.heap.size, 4, none⟩ = some (.int .i64 mm)) := Lib.hid (fun V k => by
        have h : W.heap[w.heap.size]? = some (.cells #[.int .u8 7, .string ss, .string tt, .int .i64 nn, .int .i64 mm] 34) := by rw [hW]; exact heap_alloc_new w _
        have h2 : V.heap[w.heap.size]? = some (.cells #[.int .u8 7, .string ss, .string tt, .int .i64 nn, .int .i64 mm] 34) := by rw [k.block _ (Array.getElem?_eq_some_iff.1 h).1]; exact h
        exact ⟨by simp [World.cell?, h2], by simp [World.cell?, h2]⟩)
      have HB' : Hid (Below w.heap.size w W) := Lib.hid (by rw [hW]; exact HB.out)
      have HVW := Lib.hid (fun V (k : Below W.heap.size W V) => (HV.out.below HB'.out).below k)
      have HK := Lib.hid hK.symm
      clear hK HR HB k1 k2 k3 k6
      go_enter Tryd.func13, Tryd.ntmps13
      go_wp2_with fail
      rw [← hW]
      clear hW
      go_loopw [1, 7, 8, 9, 10] (fun v1 v7 v8 _ _ wr => ∃ (i q fu : Nat) (s : ByteArray), v8 = .int .i64 i ∧ v1 = .int .i64 q ∧ v7 = .string s ∧ Hid (kidW (valW g n f) g n true mm fu i q s = K) ∧ Hid (p + 1 ≤ q ∧ q ≤ n ∧ n - q ≤ fu ∧ i ≤ q) ∧ Hid (s.size + 40000 * (n - q) ≤ 40000000) ∧ Hid (Below W.heap.size W wr)) (fun v1 _ _ _ _ _ => n - (intOf v1).toNat)
      case atStart => exact ⟨0, p + 1, f, ⟨#[]⟩, rfl, rfl, rfl, HK, Lib.hid ⟨Nat.le_refl _, HP.out, HKF.out, Nat.zero_le _⟩, Lib.hid (by show 0 + 40000 * (n - (p + 1)) ≤ 40000000; omega), Lib.hid (Below.refl _ _)⟩
      case round =>
        obtain ⟨i, q, fu, s, rfl, rfl, rfl, HKK, HRG, HSZ, HBL⟩ := hrel
        obtain ⟨z0, z4⟩ := HBX.out _ HBL.out
        have hq0 : (0 : Int) ≤ q := by omega
        have hqn : (q : Int) ≤ n := by have := HRG.out.2.1; omega
        have hsz : s.size ≤ 40000000 := by have := HSZ.out; omega
        have hiq : i ≤ 1000 := by have := HRG.out; omega
        by_cases hm : (i : Int) < mm
        · by_cases hqq : q < n
          · have hqi : (q : Int) < n := by omega
            have HQN := Lib.hid hqq
            obtain ⟨fu', hfu⟩ : ∃ x, fu = x + 1 := ⟨fu - 1, by have := HRG.out.2.2; omega⟩
            subst hfu
            have hkk := HKK.out
            unfold kidW at hkk
            rw [if_pos ⟨hm, hqq⟩] at hkk
            have HVq := Lib.hid (HVO.out q hqq (by have := HRG.out.1; have := HKF.out; omega))
            have HIq := Lib.hid (fun V (k : Below W.heap.size W V) => HIH.out q V (by have := HRG.out.1; have := HKF.out; omega) hqq (HVW.out V k))
            obtain ⟨X, hX⟩ : ∃ X, X = valW g n f q := ⟨_, rfl⟩
            rw [← hX] at hkk HVq HIq
            have HKN := Lib.hid hkk
            clear hkk HKK hX
            have hxs : X.1.size ≤ 40000000 := by have := HVq.out.2.2; omega
            obtain ⟨_, d0, d1, d2, d3, d4⟩ := (HVW.out _ HBL.out).at_ hqq
            clear d0 d2 d3 d4
            obtain ⟨nq, hnq⟩ : ∃ x, x = (g q).nm := ⟨_, rfl⟩
            have HQ0 := HQT.out q hqq
            have hqsz := sqT_size (g q).nm
            have hqsm := HGQ.out q hqq
            rw [← hnq] at d1 HQ0 HKN hqsz hqsm
            obtain ⟨Q, hQ⟩ : ∃ Q : ByteArray × Unit, Q.1 = sqT nq := ⟨(_, ()), rfl⟩
            rw [← hQ] at HQ0 HKN hqsz
            have HQ1 := Lib.hid HQ0
            have HQ2 : Hid (Q.1.size ≤ 18002) := Lib.hid (by omega)
            clear hQ hnq HQ0 hqsz hqsm
            rcases Nat.eq_zero_or_pos i with hi0 | hi0
            · subst hi0
              have hi1 : ¬ (0 : Int) < ((0 : Nat) : Int) := by decide
              have HK2 := Lib.hid (by have h := HKN.out; simp only [Nat.lt_irrefl, if_true, if_false, Bool.false_eq_true, ↓reduceIte] at h; exact h)
              clear HKN
              have hsc := app_size s (⟨#[44]⟩ : ByteArray)
              have hcc : (⟨#[44]⟩ : ByteArray).size = 1 := rfl
              have hdd : (⟨#[58]⟩ : ByteArray).size = 1 := rfl
              have hqe := app_size Q.1 (⟨#[58]⟩ : ByteArray)
              have hl3 : ¬ 9223372036854775807 < Q.1.size + 1 := by have := HQ2.out; omega
              have hse := app_size s (Q.1 ++ (⟨#[58]⟩ : ByteArray))
              have hl5 : ¬ 9223372036854775807 < s.size + (Q.1 ++ (⟨#[58]⟩ : ByteArray)).size := by have := HQ2.out; omega
              have hl4 : ¬ 9223372036854775807 < (s ++ (Q.1 ++ (⟨#[58]⟩ : ByteArray))).size + X.1.size := by have := HQ2.out; omega
              have HS2 : Hid (((s ++ (Q.1 ++ (⟨#[58]⟩ : ByteArray))) ++ X.1).size + 40000 * (n - X.2) ≤ 40000000) := Lib.hid (by have h1 := HVq.out; have h2 := HSZ.out; have h3 := HQN.out; have h5 := HQ2.out; have h4 := app_size (s ++ (Q.1 ++ (⟨#[58]⟩ : ByteArray))) X.1; omega)
              clear hsc hcc hdd hqe hse
              go_wp2_with fail
              refine (HQ1.out _).mono ?_
              rintro e w0 ⟨rfl, b0⟩
              have HB0 := Lib.hid (HBL.out.trans (b0.mono HBL.out.size))
              clear b0
              go_wp2_with fail
              refine (HIq.out _ HB0.out).mono ?_
              rintro e w1 ⟨rfl, b1⟩
              have HB1 := Lib.hid (HB0.out.trans (b1.mono HB0.out.size))
              clear b1
              go_wp2_with fail
              go_roundw
              case rel => exact ⟨0 + 1, X.2, fu', _, by go_num, rfl, rfl, HK2, Lib.hid (by have h1 := HVq.out; have h2 := HRG.out; omega), HS2, HB1⟩
              case measure => (have h1 := HVq.out; simp [intOf]; omega)
            · have hi1 : (0 : Int) < (i : Int) := by omega
              have hl1 : ¬ 9223372036854775807 < s.size + 1 := by omega
              have HK2 := Lib.hid (by have h := HKN.out; simp only [hi0, if_true, if_false, Bool.false_eq_true, ↓reduceIte] at h; exact h)
              clear HKN
              have hsc := app_size s (⟨#[44]⟩ : ByteArray)
              have hcc : (⟨#[44]⟩ : ByteArray).size = 1 := rfl
              have hdd : (⟨#[58]⟩ : ByteArray).size = 1 := rfl
              have hqe := app_size Q.1 (⟨#[58]⟩ : ByteArray)
              have hl3 : ¬ 9223372036854775807 < Q.1.size + 1 := by have := HQ2.out; omega
              have hse := app_size (s ++ (⟨#[44]⟩ : ByteArray)) (Q.1 ++ (⟨#[58]⟩ : ByteArray))
              have hl5 : ¬ 9223372036854775807 < (s ++ (⟨#[44]⟩ : ByteArray)).size + (Q.1 ++ (⟨#[58]⟩ : ByteArray)).size := by have := HQ2.out; omega
              have hl4 : ¬ 9223372036854775807 < ((s ++ (⟨#[44]⟩ : ByteArray)) ++ (Q.1 ++ (⟨#[58]⟩ : ByteArray))).size + X.1.size := by have := HQ2.out; omega
              have HS2 : Hid ((((s ++ (⟨#[44]⟩ : ByteArray)) ++ (Q.1 ++ (⟨#[58]⟩ : ByteArray))) ++ X.1).size + 40000 * (n - X.2) ≤ 40000000) := Lib.hid (by have h1 := HVq.out; have h2 := HSZ.out; have h3 := HQN.out; have h5 := HQ2.out; have h4 := app_size ((s ++ (⟨#[44]⟩ : ByteArray)) ++ (Q.1 ++ (⟨#[58]⟩ : ByteArray))) X.1; omega)
              clear hsc hcc hdd hqe hse
              go_wp2_with fail
              refine (HQ1.out _).mono ?_
              rintro e w0 ⟨rfl, b0⟩
              have HB0 := Lib.hid (HBL.out.trans (b0.mono HBL.out.size))
              clear b0
              go_wp2_with fail
              refine (HIq.out _ HB0.out).mono ?_
              rintro e w1 ⟨rfl, b1⟩
              have HB1 := Lib.hid (HB0.out.trans (b1.mono HB0.out.size))
              clear b1
              go_wp2_with fail
              go_roundw
              case rel => exact ⟨i + 1, X.2, fu', _, by go_num, rfl, rfl, HK2, Lib.hid (by have h1 := HVq.out; have h2 := HRG.out; omega), HS2, HB1⟩
              case measure => (have h1 := HVq.out; simp [intOf]; omega)
          · have hqe : q = n := by have := HRG.out.2.1; omega
            subst hqe
            have hz : ¬ ((q : Int) < (q : Int)) := by omega
            have hke : K = (s, q) := by rw [← HKK.out]; exact kidW_stop (by omega)
            have HKE := Lib.hid hke
            clear HKK hke
            have hl2 : ¬ 9223372036854775807 < 1 + s.size := by omega
            have hl3 : ¬ 9223372036854775807 < (⟨#[123]⟩ ++ s : ByteArray).size + 1 := by rw [app_size]; show ¬ 9223372036854775807 < 1 + s.size + 1; omega
            go_wp2_with fail
            go_ret2
            exact ⟨by rw [HE.out, HKE.out] <;> rfl, HB'.out.trans (HBL.out.mono HB'.out.size)⟩
        · have hke : K = (s, q) := by rw [← HKK.out]; exact kidW_stop (by omega)
          have HKE := Lib.hid hke
          clear HKK hke
          have hl2 : ¬ 9223372036854775807 < 1 + s.size := by omega
          have hl3 : ¬ 9223372036854775807 < (⟨#[123]⟩ ++ s : ByteArray).size + 1 := by rw [app_size]; show ¬ 9223372036854775807 < 1 + s.size + 1; omega
          go_wp2_with fail
          go_ret2
          exact ⟨by rw [HE.out, HKE.out] <;> rfl, HB'.out.trans (HBL.out.mono HB'.out.size)⟩
    have q7 : ((kk : Int) == 7) = false := by rw [beq_eq_false_iff_ne]; omega
    rw [if_neg k7] at HR
    clear k1 k2 k3 k6 k7
    go_enter Tryd.func13, Tryd.ntmps13
    go_wp2_with fail
    go_ret2
    exact ⟨by rw [HR.out] <;> rfl, HB.out⟩
end Go.Proofs.YtolegmlfmlfbhaaDoor
/- Layer 31, ServeWrites: an error's path, as the document writes it. -/
namespace Go.Proofs.YtolegmlfmlfbhaaDoor
open Go.RowKit Go.Maps
/-- A step: its name, its number. -/
structure StR where
  nm : ByteArray
  ix : Int
def pthW (st : Nat → StR) : Nat → ByteArray
  | 0 => ⟨#[]⟩
  | k + 1 => (if 0 < k then pthW st k ++ ⟨#[44]⟩ else pthW st k) ++ (if (st k).nm.toList = [] then itT (st k).ix else sqT (st k).nm)
/-- Steps in memory. -/
def StV (w : World) (a : Option Addr) (n : Nat) (st : Nat → StR) : Prop :=
  ∀ i, i < n → ∃ b off, a = some ⟨b, off, none⟩ ∧ b < w.heap.size ∧ w.cell? ⟨b, off + i * 2, none⟩ = some (.string (st i).nm) ∧ w.cell? ⟨b, off + i * 2 + 1, none⟩ = some (.int .i64 (st i).ix)
theorem StV.below {w w' : World} {a : Option Addr} {n : Nat} {st : Nat → StR} (h : StV w a n st) (hb : Below w.heap.size w w') : StV w' a n st := fun i hi => by
  obtain ⟨b, off, e, h0, h1, h2⟩ := h i hi
  have c : ∀ o, w'.cell? ⟨b, o, none⟩ = w.cell? ⟨b, o, none⟩ := fun o => World.cell?_of_block (hb.block b h0)
  exact ⟨b, off, e, Nat.lt_of_lt_of_le h0 hb.size, by rw [c]; exact h1, by rw [c]; exact h2⟩
theorem StV.at_ {w : World} {b off n : Nat} {st : Nat → StR} (h : StV w (some ⟨b, off, none⟩) n st) {i : Nat} (hi : i < n) : b < w.heap.size ∧ w.cell? ⟨b, off + i * 2, none⟩ = some (.string (st i).nm) ∧ w.cell? ⟨b, off + i * 2 + 1, none⟩ = some (.int .i64 (st i).ix) := by
  obtain ⟨b', off', e, k⟩ := h i hi
  cases e
  exact k
theorem StV.addr {w : World} {a : Option Addr} {n : Nat} {st : Nat → StR} (h : StV w a n st) (h0 : 0 < n) : ∃ b off, a = some ⟨b, off, none⟩ := by
  obtain ⟨b, off, e, _⟩ := h 0 h0
  exact ⟨b, off, e⟩
def SmS (st : Nat → StR) (n : Nat) : Prop := ∀ i, i < n → (st i).nm.size ≤ 3000 ∧ (-9223372036854775808 ≤ (st i).ix ∧ (st i).ix ≤ 9223372036854775807)
theorem stone_size {x : StR} (h : x.nm.size ≤ 3000 ∧ (-9223372036854775808 ≤ x.ix ∧ x.ix ≤ 9223372036854775807)) : (if x.nm.toList = [] then itT x.ix else sqT x.nm).size ≤ 18002 := by
  have hx := sqT_size x.nm
  have hi := Lib.itoa_length_le x.ix h.2.1 h.2.2
  have hit : (itT x.ix).size = (Lib.itoa x.ix).length := rfl
  split <;> omega
theorem pthW_size {st : Nat → StR} : ∀ (n : Nat), SmS st n → (pthW st n).size ≤ 18003 * n
  | 0, _ => Nat.zero_le _
  | n + 1, h => by
    have ih := pthW_size (st := st) n (fun i hi => h i (by omega))
    have h1 := stone_size (h n (by omega))
    unfold pthW
    rw [app_size]
    have e1 : (if 0 < n then pthW st n ++ (⟨#[44]⟩ : ByteArray) else pthW st n).size ≤ (pthW st n).size + 1 := by
      split
      · rw [app_size]; exact Nat.le_refl _
      · omega
    omega
set_option maxRecDepth 20000 in
set_option maxHeartbeats 2000000 in
theorem rpath_any (a : Option Addr) (n cap : Nat) (st : Nat → StR) (w : World) (hs : SmS st n) (hn : n ≤ 1000) (h0 : 0 < n) (hv : StV w a n st) : Calls Tryd.prog 26 #[.slice a n cap] w fun e w' => e = .returned (.string (⟨#[91]⟩ ++ pthW st n ++ ⟨#[93]⟩)) ∧ Below w.heap.size w w' := by
  obtain ⟨b, off, rfl⟩ := hv.addr h0
  have HV := Lib.hid (fun V (k : Below w.heap.size w V) => hv.below k)
  have HS := Lib.hid hs
  have HSZ := Lib.hid (fun k (hk : k ≤ n) => pthW_size (st := st) k (fun i hi => hs i (by omega)))
  clear hv hs
  go_enter Tryd.func26, Tryd.ntmps26
  go_wp2_with fail
  go_loopw [3, 4] (fun v3 v4 wr => ∃ i : Nat, i ≤ n ∧ v4 = .int .i64 i ∧ v3 = .string (pthW st i) ∧ Hid (Below w.heap.size w wr)) (fun _ v4 _ => n - (intOf v4).toNat)
  case atStart => exact ⟨0, Nat.zero_le _, rfl, rfl, Lib.hid (Below.refl _ _)⟩
  case round =>
    obtain ⟨i, hi, rfl, rfl, HB⟩ := hrel
    obtain ⟨P, hP⟩ : ∃ P, P = pthW st i := ⟨_, rfl⟩
    have hsz := HSZ.out i hi
    rw [← hP] at hsz
    rw [← hP]
    have HP := Lib.hid hP
    clear hP
    by_cases hin : i < n
    · have hii : (i : Int) < n := by omega
      obtain ⟨_, d0, d1⟩ := (HV.out _ HB.out).at_ hin
      have hsm := HS.out i hin
      obtain ⟨X, hX⟩ : ∃ X, X = st i := ⟨_, rfl⟩
      have HN : Hid (pthW st (i + 1) = (if 0 < i then P ++ ⟨#[44]⟩ else P) ++ (if X.nm.toList = [] then itT X.ix else sqT X.nm)) := Lib.hid (by rw [hX, HP.out]; rfl)
      rw [← hX] at d0 d1 hsm
      have hos := stone_size hsm
      clear hX HP
      have hcs := app_size P (⟨#[44]⟩ : ByteArray)
      have hcc : (⟨#[44]⟩ : ByteArray).size = 1 := rfl
      have hl1 : ¬ 9223372036854775807 < P.size + 1 := by omega
      have HR := Lib.hid (fun W => rquoted_any X.nm W (by omega))
      have HI : Hid (∀ W : World, Calls Tryd.prog 27 #[.int .i64 X.ix] W fun e w' => e = .returned (.string (itT X.ix)) ∧ Below W.heap.size W w') := Lib.hid (fun W => rwrite_int X.ix W hsm.2.1 hsm.2.2)
      by_cases he : X.nm.toList = []
      · rw [if_pos he] at hos HN
        obtain ⟨Q, hQ⟩ : ∃ Q, Q = itT X.ix := ⟨_, rfl⟩
        rw [← hQ] at HI HN hos
        have hl2 : ¬ 9223372036854775807 < P.size + Q.size := by omega
        have hl3 : ¬ 9223372036854775807 < (P ++ (⟨#[44]⟩ : ByteArray)).size + Q.size := by omega
        clear hQ hcs hcc hsm
        rcases Nat.eq_zero_or_pos i with hi0 | hi0
        · subst hi0
          have hi1 : ¬ (0 : Int) < ((0 : Nat) : Int) := by decide
          simp only [Nat.zero_mul, Nat.add_zero] at d0 d1
          go_wp2_with fail
          refine (HI.out _).mono ?_
          rintro e w1 ⟨rfl, b1⟩
          have HB1 := Lib.hid (HB.out.trans (b1.mono HB.out.size))
          clear b1
          go_wp2_with fail
          go_roundw
          case rel => exact ⟨0 + 1, by omega, by go_num, by rw [HN.out]; rfl, HB1⟩
          case measure => (simp [intOf]; omega)
        · have hi1 : (0 : Int) < (i : Int) := by omega
          go_wp2_with fail
          refine (HI.out _).mono ?_
          rintro e w1 ⟨rfl, b1⟩
          have HB1 := Lib.hid (HB.out.trans (b1.mono HB.out.size))
          clear b1
          go_wp2_with fail
          go_roundw
          case rel => exact ⟨i + 1, by omega, by go_num, by rw [HN.out, if_pos hi0], HB1⟩
          case measure => (simp [intOf]; omega)
      · rw [if_neg he] at hos HN
        have he2 := List.isEmpty_eq_false_iff.2 he
        obtain ⟨Q, hQ⟩ : ∃ Q, Q = sqT X.nm := ⟨_, rfl⟩
        rw [← hQ] at HR HN hos
        have hl2 : ¬ 9223372036854775807 < P.size + Q.size := by omega
        have hl3 : ¬ 9223372036854775807 < (P ++ (⟨#[44]⟩ : ByteArray)).size + Q.size := by omega
        clear hQ hcs hcc hsm
        rcases Nat.eq_zero_or_pos i with hi0 | hi0
        · subst hi0
          have hi1 : ¬ (0 : Int) < ((0 : Nat) : Int) := by decide
          simp only [Nat.zero_mul, Nat.add_zero] at d0 d1
          go_wp2_with fail
          refine (HR.out _).mono ?_
          rintro e w1 ⟨rfl, b1⟩
          have HB1 := Lib.hid (HB.out.trans (b1.mono HB.out.size))
          clear b1
          go_wp2_with fail
          go_roundw
          case rel => exact ⟨0 + 1, by omega, by go_num, by rw [HN.out]; rfl, HB1⟩
          case measure => (simp [intOf]; omega)
        · have hi1 : (0 : Int) < (i : Int) := by omega
          go_wp2_with fail
          refine (HR.out _).mono ?_
          rintro e w1 ⟨rfl, b1⟩
          have HB1 := Lib.hid (HB.out.trans (b1.mono HB.out.size))
          clear b1
          go_wp2_with fail
          go_roundw
          case rel => exact ⟨i + 1, by omega, by go_num, by rw [HN.out, if_pos hi0], HB1⟩
          case measure => (simp [intOf]; omega)
    · have hie : i = n := by omega
      subst hie
      have hz : ¬ ((i : Int) < (i : Int)) := by omega
      have hl2 : ¬ 9223372036854775807 < 1 + P.size := by omega
      have hl3 : ¬ 9223372036854775807 < (⟨#[91]⟩ ++ P : ByteArray).size + 1 := by rw [app_size]; show ¬ 9223372036854775807 < 1 + P.size + 1; omega
      go_wp2_with fail
      go_ret
      exact ⟨by rw [HP.out] <;> rfl, HB.out⟩
end Go.Proofs.YtolegmlfmlfbhaaDoor

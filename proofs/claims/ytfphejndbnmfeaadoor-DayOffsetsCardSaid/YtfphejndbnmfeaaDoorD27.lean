import Derived.Test.YtfphejndbnmfeaaDoorD22
import Derived.Laws.IdiomStrings
namespace Go.Proofs.YtfphejndbnmfeaaDoor
open Go.RowKit

theorem off_bad (a c h m : Int) (k : Bool) (w : World) (hT : Tabs w) (hm : may a c = false) :
    Calls Tryd.prog 7 #[.agg #[.int .i64 a, .int .i64 c], .int .u8 h, .int .u8 m, .bool k] w fun e w' => e = .returned (.bool true) ∧ Below w.heap.size w w' := by
  have HTb := Lib.hid (fun W (hb : Below w.heap.size w W) => hT.on hb)
  have HX := Lib.hid (fun W => text_bad a c W hm)
  clear hT hm
  go_enter Tryd.func7, Tryd.ntmps7
  go_wp2_with fail
  obtain ⟨w0, hw0⟩ : ∃ w0, w0 = w.alloc (.cells #[.int .i64 a, .int .i64 c] 23) := ⟨_, rfl⟩
  have D0 : Hid (DBox w0 w.heap.size a c) := Lib.hid (by rw [hw0]; exact DBox.new w a c)
  have B0 : Hid (Below w.heap.size w w0) := Lib.hid (by rw [hw0]; exact (Below.refl _ w).alloc (Nat.le_refl _) _)
  rw [← hw0]
  clear hw0
  refine (alive_any w0 (HTb.out _ B0.out)).mono ?_
  rintro e w1 ⟨rfl, b⟩
  have D1 := Lib.hid (D0.out.up b)
  have B1 := Lib.hid (B0.out.trans (b.mono B0.out.size))
  obtain ⟨d0, d1, -⟩ := D1.out
  clear b
  go_wp2_with fail
  clear d0 d1
  refine (HX.out _).mono ?_
  rintro e w2 ⟨rfl, b⟩
  have B2 := Lib.hid (B1.out.trans (b.mono B1.out.size))
  clear b
  go_wp2_with fail
  go_ret
  exact ⟨rfl, B2.out⟩
def five (h m : Nat) : List UInt8 := [UInt8.ofNat (48 + h / 10), UInt8.ofNat (48 + h % 10), 58, UInt8.ofNat (48 + m / 10), UInt8.ofNat (48 + m % 10)]
theorem five_off (back : Bool) {h m : Nat} (hh : h < 100) (hm : m < 100) : offT back h m = [if back then 45 else 43] ++ five h m := by
  unfold offT five dgs dgs dgs
  rw [Nat.mod_eq_of_lt (show h / 10 < 10 by omega), Nat.mod_eq_of_lt (show m / 10 < 10 by omega)]
  rfl
theorem byte_of {n : Nat} (h : n < 256) : ((UInt8.ofNat n).toNat : Int) = n := by
  rw [UInt8.toNat_ofNat', Nat.mod_eq_of_lt h]
theorem conv_five (W : World) (h m : Nat) (hh : h < 100) (hm : m < 100) :
    (convert 45 9 (.slice (some ⟨W.heap.size, 0, none⟩) 5 5)).run Tryd.prog (W.alloc (.cells #[.int .u8 (48 + (h : Int) / 10), .int .u8 (48 + (h : Int) % 10), .int .u8 58, .int .u8 (48 + (m : Int) / 10), .int .u8 (48 + (m : Int) % 10)] 5)) = .ok (.string ⟨(five h m).toArray⟩) (W.alloc (.cells #[.int .u8 (48 + (h : Int) / 10), .int .u8 (48 + (h : Int) % 10), .int .u8 58, .int .u8 (48 + (m : Int) / 10), .int .u8 (48 + (m : Int) % 10)] 5)) := by
  refine run_convert_bytes_back (P := Tryd.prog) _ 45 9 5 ⟨W.heap.size, 0, none⟩ 5 (five h m) Tryd.underlying45 Tryd.underlying5 Tryd.underlying9 (fun j hj => ?_)
  have hj : j < 5 := hj
  have ea : (⟨W.heap.size, 0, none⟩ : Addr).add j = ⟨W.heap.size, j, none⟩ := by
    simp [Addr.add]
    exact fun h => h.symm
  rw [ea, World.cell?_alloc_mark]
  have q1 := byte_of (show 48 + h / 10 < 256 by omega)
  have q2 := byte_of (show 48 + h % 10 < 256 by omega)
  have q3 := byte_of (show 48 + m / 10 < 256 by omega)
  have q4 := byte_of (show 48 + m % 10 < 256 by omega)
  rcases (show j = 0 ∨ j = 1 ∨ j = 2 ∨ j = 3 ∨ j = 4 by omega) with rfl | rfl | rfl | rfl | rfl
  · show some _ = some (Value.int .u8 ((UInt8.ofNat (48 + h / 10)).toNat : Int))
    rw [q1]; rfl
  · show some _ = some (Value.int .u8 ((UInt8.ofNat (48 + h % 10)).toNat : Int))
    rw [q2]; rfl
  · rfl
  · show some _ = some (Value.int .u8 ((UInt8.ofNat (48 + m / 10)).toNat : Int))
    rw [q3]; rfl
  · show some _ = some (Value.int .u8 ((UInt8.ofNat (48 + m % 10)).toNat : Int))
    rw [q4]; rfl
/-- The text but for its end. -/
theorem TextOf.cut {S N : Nat} {s : ByteArray} (h : TextOf S N s.data.toList) : ∃ (q : Nat) (y r m d : Nat), s.size = q + 1 ∧ q ≤ 30 ∧ OnYear (S / 86400) y r ∧ OnMonth y r m d ∧ (s.extract 0 q).data.toList = head19 y (m + 1) (d + 1) (S % 86400) ++ frac N := by
  have hz := h.size
  have hf := frac_len N
  obtain ⟨y, r, m, d, h1, h2, h3⟩ := h
  refine ⟨19 + (frac N).length, y, r, m, d, by omega, by omega, h1, h2, ?_⟩
  have hq : 19 + (frac N).length < s.size := by omega
  have e := last_split s (19 + (frac N).length) (by omega) hq
  rw [h3, dtext_eq, ← List.append_assoc] at e
  exact (List.append_inj' e rfl).1.symm
set_option maxRecDepth 20000 in
set_option maxHeartbeats 8000000 in
theorem off_ok (S N h m : Nat) (k : Bool) (w : World) (hT : Tabs w) (hm : may S N = true) (hh2 : h < 256) (hm2 : m < 256) :
    Calls Tryd.prog 7 #[.agg #[.int .i64 S, .int .i64 N], .int .u8 h, .int .u8 m, .bool k] w fun e w' => e = .returned (.bool true) ∧ Below w.heap.size w w' := by
  have HM := Lib.hid hm
  have HTb := Lib.hid (fun W (hb : Below w.heap.size w W) => hT.on hb)
  have HTX := Lib.hid (fun W (hb : Below w.heap.size w W) => text_ok S N W (hT.on hb).1 (hT.on hb).2.1 hm)
  have hb := (may_iff _ _).1 hm
  obtain ⟨a, ha⟩ : ∃ a : Int, a = S := ⟨_, rfl⟩
  obtain ⟨c, hc⟩ : ∃ c : Int, c = N := ⟨_, rfl⟩
  have HA := Lib.hid ha
  have HC := Lib.hid hc
  rw [← ha, ← hc] at hb
  obtain ⟨hb1, hb2, hb3, hb4⟩ := hb
  rw [← ha, ← hc] at HTX
  rw [← ha, ← hc]
  clear hT hm ha hc
  go_enter Tryd.func7, Tryd.ntmps7
  go_wp2_with fail
  obtain ⟨w0, hw0⟩ : ∃ w0, w0 = w.alloc (.cells #[.int .i64 a, .int .i64 c] 23) := ⟨_, rfl⟩
  have D0 : Hid (DBox w0 w.heap.size a c) := Lib.hid (by rw [hw0]; exact DBox.new w a c)
  have B0 : Hid (Below w.heap.size w w0) := Lib.hid (by rw [hw0]; exact (Below.refl _ w).alloc (Nat.le_refl _) _)
  rw [← hw0]
  clear hw0
  refine (alive_any w0 (HTb.out _ B0.out)).mono ?_
  rintro e w1 ⟨rfl, b⟩
  have D1 := Lib.hid (D0.out.up b)
  have B1 := Lib.hid (B0.out.trans (b.mono B0.out.size))
  obtain ⟨d0, d1, -⟩ := D1.out
  clear b
  go_wp2_with fail
  clear d0 d1
  refine (HTX.out _ B1.out).mono ?_
  rintro e w2 ⟨⟨s, rfl, hs⟩, b⟩
  have D2 := Lib.hid (D1.out.up b)
  have B2 := Lib.hid (B1.out.trans (b.mono B1.out.size))
  clear b
  by_cases h23 : 23 < h
  · have k1 : decide (23 < (h : Int)) = true := decide_eq_true (by omega)
    clear h23 hs
    go_wp2_with fail
    go_ret
    exact ⟨rfl, B2.out⟩
  by_cases h59 : 59 < m
  · have k1 : decide (23 < (h : Int)) = false := decide_eq_false (by omega)
    have k2 : decide (59 < (m : Int)) = true := decide_eq_true (by omega)
    clear h23 h59 hs
    go_wp2_with fail
    go_ret
    exact ⟨rfl, B2.out⟩
  have k1 : decide (23 < (h : Int)) = false := decide_eq_false (by omega)
  have k2 : decide (59 < (m : Int)) = false := decide_eq_false (by omega)
  have hh : h ≤ 23 := by omega
  have hmm : m ≤ 59 := by omega
  obtain ⟨q, y, r, mo, d, hq, hq30, hY, hMo, hg⟩ := hs.cut
  obtain ⟨g, hge⟩ : ∃ g, g = s.extract 0 q := ⟨_, rfl⟩
  rw [← hge] at hg
  have hge' : s.extract 0 q = g := hge.symm
  have hgz : g.size ≤ 30 := by rw [hge, ByteArray.size_extract]; omega
  obtain ⟨v5, hv5⟩ : ∃ v5 : ByteArray, v5 = ⟨(five h m).toArray⟩ := ⟨_, rfl⟩
  have hv5z : v5.size ≤ 5 := by rw [hv5, Lib.size_mk]; exact Nat.le_refl _
  have hcv := conv_five w2 h m (by omega) (by omega)
  rw [← hv5] at hcv
  have HV5 : Hid (v5.data.toList = five h m) := Lib.hid (by rw [hv5])
  have HG := Lib.hid hg
  have HY := Lib.hid hY
  have HMo := Lib.hid hMo
  clear h23 h59 hs hge hv5 hg hY hMo hh2 hm2
  obtain ⟨d0, d1, -⟩ := D2.out
  cases k with
  | false =>
    have HOFF : Hid (∀ X : ByteArray, X.data.toList = g.data.toList ++ ([43] ++ v5.data.toList) → pOk X = may ((a - (3600 * (h : Int) + 60 * m))) c ∧ secS X = (a - (3600 * (h : Int) + 60 * m)) ∧ (fracV X 19 : Int) = c) := Lib.hid (fun X hX => by
      have := p_off (s := X) (S := S) (n := N) (back := false) (hh := h) (mm := m) HY.out HMo.out HM.out hh hmm (by rw [hX, HG.out, HV5.out, five_off false (by omega) (by omega), List.append_assoc]; rfl)
      rw [← HA.out, ← HC.out] at this
      refine ⟨?_, ?_, ?_⟩
      · simpa using this.1
      · simpa using this.2.1
      · rw [this.2.2, HC.out])
    have B3 : Hid (Below w.heap.size w (w2.alloc (.cells #[.int .u8 (48 + (h : Int) / 10), .int .u8 (48 + (h : Int) % 10), .int .u8 58, .int .u8 (48 + (m : Int) / 10), .int .u8 (48 + (m : Int) % 10)] 5))) := Lib.hid (B2.out.alloc B2.out.size _)
    have D3 : Hid (DBox (w2.alloc (.cells #[.int .u8 (48 + (h : Int) / 10), .int .u8 (48 + (h : Int) % 10), .int .u8 58, .int .u8 (48 + (m : Int) / 10), .int .u8 (48 + (m : Int) % 10)] 5)) w.heap.size a c) := Lib.hid (D2.out.up ((Below.refl _ _).alloc (Nat.le_refl _) _))
    go_wp2_with fail
    clear hcv d0 d1
    obtain ⟨w3, hw3⟩ : ∃ w3, w3 = (w2.alloc (.cells #[.int .u8 (48 + (h : Int) / 10), .int .u8 (48 + (h : Int) % 10), .int .u8 58, .int .u8 (48 + (m : Int) / 10), .int .u8 (48 + (m : Int) % 10)] 5)) := ⟨_, rfl⟩
    rw [← hw3] at B3 D3
    rw [← hw3]
    clear hw3
    obtain ⟨X, hX⟩ : ∃ X : ByteArray, X = g ++ (⟨#[43]⟩ ++ v5) := ⟨_, rfl⟩
    have HX := HOFF.out X (by rw [hX, app_list, app_list])
    have hXz : X.size ≤ 40 := by rw [hX, ByteArray.size_append, ByteArray.size_append]; show g.size + (1 + v5.size) ≤ 40; omega
    rw [← hX]
    have HP := Lib.hid (parse_t X w3 (HTb.out _ B3.out) (by unfold maxLen; omega))
    clear hX
    cases hin : may ((a - (3600 * (h : Int) + 60 * m))) c with
    | true =>
      rw [hin] at HX
      obtain ⟨t1, t2, -, -⟩ := (may_iff _ _).1 hin
      have e1 : pS X = (a - (3600 * (h : Int) + 60 * m)) := by unfold pS; rw [HX.1, if_pos rfl, HX.2.1]
      have e2 : pN X = c := by unfold pN; rw [HX.1, if_pos rfl, HX.2.2]
      have e3 : pE X = 0 := by unfold pE; rw [HX.1, if_pos rfl]
      rw [e1, e2, e3] at HP
      clear HX hin e1 e2 e3
      refine HP.out.mono ?_
      rintro e w4 ⟨rfl, b⟩
      have B4 : Hid (Below w.heap.size w (w4.alloc (.cells #[.int .i64 ((a - (3600 * (h : Int) + 60 * m))), .int .i64 c] 23))) := Lib.hid ((B3.out.trans (b.mono B3.out.size)).alloc (B3.out.trans (b.mono B3.out.size)).size _)
      have D4 := Lib.hid ((D3.out.up b).up ((Below.refl _ w4).alloc (Nat.le_refl _) (.cells #[.int .i64 ((a - (3600 * (h : Int) + 60 * m))), .int .i64 c] 23)))
      have E4 := Lib.hid (DBox.new w4 ((a - (3600 * (h : Int) + 60 * m))) c)
      obtain ⟨d0, d1, -⟩ := D4.out
      obtain ⟨g0, g1, -⟩ := E4.out
      clear b
      have t3 : 3600 * (h : Int) + 60 * m ≤ a := by omega
      have t4 : a ≤ 315569519999 + (3600 * (h : Int) + 60 * m) := by omega
      go_wp2_with fail
      go_ret
      exact ⟨rfl, B4.out⟩
    | false =>
      rw [hin] at HX
      have hno : (a - (3600 * (h : Int) + 60 * m)) < 0 ∨ 315569519999 < (a - (3600 * (h : Int) + 60 * m)) := by
        by_cases h1 : (a - (3600 * (h : Int) + 60 * m)) < 0
        · exact .inl h1
        · by_cases h2 : 315569519999 < (a - (3600 * (h : Int) + 60 * m))
          · exact .inr h2
          · have := (may_iff ((a - (3600 * (h : Int) + 60 * m))) c).2 ⟨by omega, by omega, hb3, hb4⟩
            rw [this] at hin; cases hin
      have e1 : pS X = 0 := by unfold pS; rw [HX.1]; rfl
      have e2 : pN X = 0 := by unfold pN; rw [HX.1]; rfl
      have e3 : pE X = 120 := by unfold pE; rw [HX.1]; rfl
      rw [e1, e2, e3] at HP
      clear HX hin e1 e2 e3
      refine HP.out.mono ?_
      rintro e w4 ⟨rfl, b⟩
      have B4 : Hid (Below w.heap.size w (w4.alloc (.cells #[.int .i64 0, .int .i64 0] 23))) := Lib.hid ((B3.out.trans (b.mono B3.out.size)).alloc (B3.out.trans (b.mono B3.out.size)).size _)
      have D4 := Lib.hid ((D3.out.up b).up ((Below.refl _ w4).alloc (Nat.le_refl _) (.cells #[.int .i64 0, .int .i64 0] 23)))
      obtain ⟨d0, d1, -⟩ := D4.out
      clear b
      rcases hno with hno | hno
      · have t3 : ¬ (0 ≤ (a - (3600 * (h : Int) + 60 * m))) := by omega
        have t4 : ¬ (3600 * (h : Int) + 60 * m ≤ a) := by omega
        have t5 : decide (0 ≤ (a - (3600 * (h : Int) + 60 * m))) = false := decide_eq_false t3
        have t6 : decide (3600 * (h : Int) + 60 * m ≤ a) = false := decide_eq_false t4
        clear hno
        go_wp2_with fail
        go_ret
        exact ⟨rfl, B4.out⟩
      · have t3 : 0 ≤ (a - (3600 * (h : Int) + 60 * m)) := by omega
        have t4 : 3600 * (h : Int) + 60 * m ≤ a := by omega
        have t5 : decide ((a - (3600 * (h : Int) + 60 * m)) ≤ 315569519999) = false := decide_eq_false (by omega)
        have t6 : decide (a ≤ 315569519999 + (3600 * (h : Int) + 60 * m)) = false := decide_eq_false (by omega)
        clear hno
        go_wp2_with fail
        go_ret
        exact ⟨rfl, B4.out⟩

  | true =>
    have HOFF : Hid (∀ X : ByteArray, X.data.toList = g.data.toList ++ ([45] ++ v5.data.toList) → pOk X = may ((a + (3600 * (h : Int) + 60 * m))) c ∧ secS X = (a + (3600 * (h : Int) + 60 * m)) ∧ (fracV X 19 : Int) = c) := Lib.hid (fun X hX => by
      have := p_off (s := X) (S := S) (n := N) (back := true) (hh := h) (mm := m) HY.out HMo.out HM.out hh hmm (by rw [hX, HG.out, HV5.out, five_off true (by omega) (by omega), List.append_assoc]; rfl)
      rw [← HA.out, ← HC.out] at this
      refine ⟨?_, ?_, ?_⟩
      · simpa using this.1
      · simpa using this.2.1
      · rw [this.2.2, HC.out])
    have B3 : Hid (Below w.heap.size w (w2.alloc (.cells #[.int .u8 (48 + (h : Int) / 10), .int .u8 (48 + (h : Int) % 10), .int .u8 58, .int .u8 (48 + (m : Int) / 10), .int .u8 (48 + (m : Int) % 10)] 5))) := Lib.hid (B2.out.alloc B2.out.size _)
    have D3 : Hid (DBox (w2.alloc (.cells #[.int .u8 (48 + (h : Int) / 10), .int .u8 (48 + (h : Int) % 10), .int .u8 58, .int .u8 (48 + (m : Int) / 10), .int .u8 (48 + (m : Int) % 10)] 5)) w.heap.size a c) := Lib.hid (D2.out.up ((Below.refl _ _).alloc (Nat.le_refl _) _))
    go_wp2_with fail
    clear hcv d0 d1
    obtain ⟨w3, hw3⟩ : ∃ w3, w3 = (w2.alloc (.cells #[.int .u8 (48 + (h : Int) / 10), .int .u8 (48 + (h : Int) % 10), .int .u8 58, .int .u8 (48 + (m : Int) / 10), .int .u8 (48 + (m : Int) % 10)] 5)) := ⟨_, rfl⟩
    rw [← hw3] at B3 D3
    rw [← hw3]
    clear hw3
    obtain ⟨X, hX⟩ : ∃ X : ByteArray, X = g ++ (⟨#[45]⟩ ++ v5) := ⟨_, rfl⟩
    have HX := HOFF.out X (by rw [hX, app_list, app_list])
    have hXz : X.size ≤ 40 := by rw [hX, ByteArray.size_append, ByteArray.size_append]; show g.size + (1 + v5.size) ≤ 40; omega
    rw [← hX]
    have HP := Lib.hid (parse_t X w3 (HTb.out _ B3.out) (by unfold maxLen; omega))
    clear hX
    cases hin : may ((a + (3600 * (h : Int) + 60 * m))) c with
    | true =>
      rw [hin] at HX
      obtain ⟨t1, t2, -, -⟩ := (may_iff _ _).1 hin
      have e1 : pS X = (a + (3600 * (h : Int) + 60 * m)) := by unfold pS; rw [HX.1, if_pos rfl, HX.2.1]
      have e2 : pN X = c := by unfold pN; rw [HX.1, if_pos rfl, HX.2.2]
      have e3 : pE X = 0 := by unfold pE; rw [HX.1, if_pos rfl]
      rw [e1, e2, e3] at HP
      clear HX hin e1 e2 e3
      refine HP.out.mono ?_
      rintro e w4 ⟨rfl, b⟩
      have B4 : Hid (Below w.heap.size w (w4.alloc (.cells #[.int .i64 ((a + (3600 * (h : Int) + 60 * m))), .int .i64 c] 23))) := Lib.hid ((B3.out.trans (b.mono B3.out.size)).alloc (B3.out.trans (b.mono B3.out.size)).size _)
      have D4 := Lib.hid ((D3.out.up b).up ((Below.refl _ w4).alloc (Nat.le_refl _) (.cells #[.int .i64 ((a + (3600 * (h : Int) + 60 * m))), .int .i64 c] 23)))
      have E4 := Lib.hid (DBox.new w4 ((a + (3600 * (h : Int) + 60 * m))) c)
      obtain ⟨d0, d1, -⟩ := D4.out
      obtain ⟨g0, g1, -⟩ := E4.out
      clear b
      have t3 : 0 ≤ a + (3600 * (h : Int) + 60 * m) := by omega
      have t4 : a + (3600 * (h : Int) + 60 * m) ≤ 315569519999 := by omega
      go_wp2_with fail
      go_ret
      exact ⟨rfl, B4.out⟩
    | false =>
      rw [hin] at HX
      have hno : (a + (3600 * (h : Int) + 60 * m)) < 0 ∨ 315569519999 < (a + (3600 * (h : Int) + 60 * m)) := by
        by_cases h1 : (a + (3600 * (h : Int) + 60 * m)) < 0
        · exact .inl h1
        · by_cases h2 : 315569519999 < (a + (3600 * (h : Int) + 60 * m))
          · exact .inr h2
          · have := (may_iff ((a + (3600 * (h : Int) + 60 * m))) c).2 ⟨by omega, by omega, hb3, hb4⟩
            rw [this] at hin; cases hin
      have e1 : pS X = 0 := by unfold pS; rw [HX.1]; rfl
      have e2 : pN X = 0 := by unfold pN; rw [HX.1]; rfl
      have e3 : pE X = 120 := by unfold pE; rw [HX.1]; rfl
      rw [e1, e2, e3] at HP
      clear HX hin e1 e2 e3
      refine HP.out.mono ?_
      rintro e w4 ⟨rfl, b⟩
      have B4 : Hid (Below w.heap.size w (w4.alloc (.cells #[.int .i64 0, .int .i64 0] 23))) := Lib.hid ((B3.out.trans (b.mono B3.out.size)).alloc (B3.out.trans (b.mono B3.out.size)).size _)
      have D4 := Lib.hid ((D3.out.up b).up ((Below.refl _ w4).alloc (Nat.le_refl _) (.cells #[.int .i64 0, .int .i64 0] 23)))
      obtain ⟨d0, d1, -⟩ := D4.out
      clear b
      rcases hno with hno | hno
      · exact absurd hno (by omega)
      · have t3 : 0 ≤ (a + (3600 * (h : Int) + 60 * m)) := by omega
        have t4 : 0 ≤ a + (3600 * (h : Int) + 60 * m) := by omega
        have t5 : decide ((a + (3600 * (h : Int) + 60 * m)) ≤ 315569519999) = false := decide_eq_false (by omega)
        have t6 : decide (a + (3600 * (h : Int) + 60 * m) ≤ 315569519999) = false := decide_eq_false (by omega)
        clear hno
        go_wp2_with fail
        go_ret
        exact ⟨rfl, B4.out⟩

theorem off_law (a c h m : Int) (k : Bool) (w : World) (hT : Tabs w) (_ : -9223372036854775808 ≤ a) (_ : a ≤ 9223372036854775807) (_ : -9223372036854775808 ≤ c) (_ : c ≤ 9223372036854775807) (h1 : 0 ≤ h) (h2 : h ≤ 255) (m1 : 0 ≤ m) (m2 : m ≤ 255) :
    Calls Tryd.prog 7 #[.agg #[.int .i64 a, .int .i64 c], .int .u8 h, .int .u8 m, .bool k] w fun e w' => e = .returned (.bool true) ∧ Below w.heap.size w w' := by
  cases hm : may a c with
  | false => exact off_bad a c h m k w hT hm
  | true =>
    have hh := (may_iff _ _).1 hm
    obtain ⟨S, rfl⟩ := Int.eq_ofNat_of_zero_le hh.1
    obtain ⟨N, rfl⟩ := Int.eq_ofNat_of_zero_le hh.2.2.1
    obtain ⟨H, rfl⟩ := Int.eq_ofNat_of_zero_le h1
    obtain ⟨M, rfl⟩ := Int.eq_ofNat_of_zero_le m1
    exact off_ok S N H M k w hT hm (by omega) (by omega)
end Go.Proofs.YtfphejndbnmfeaaDoor

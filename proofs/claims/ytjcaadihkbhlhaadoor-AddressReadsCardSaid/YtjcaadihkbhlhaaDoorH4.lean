import Derived.Test.YtjcaadihkbhlhaaDoorHH
import Derived.Laws.Runes
namespace Go.Proofs.YtjcaadihkbhlhaaDoor
open Go.RowKit
/-- The state of settle: the free set's block, the builder, what has been written. -/
def SS (C : Array Value) (w : World) (N : Nat) (acc : List UInt8) (W : World) : Prop :=
  VB W N C 60 ∧ Lib.IsBuilderF 66 5 (N + 1) (N + 1) (Lib.byteCells acc) W ∧ Below w.heap.size w W ∧ w.heap.size ≤ N
theorem SS.up {C : Array Value} {w W W' : World} {N : Nat} {acc : List UInt8} (h : SS C w N acc W) (hb : Below W.heap.size W W') : SS C w N acc W' :=
  ⟨h.1.up hb, ib_up h.2.1 hb, h.2.2.1.trans (hb.mono h.2.2.1.size), h.2.2.2⟩
theorem SS.wrote {C : Array Value} {w W W' : World} {N : Nat} {acc : List UInt8} {t : List UInt8} (h : SS C w N acc W) (hb : Lib.BuilderAtF 66 5 (N + 1) (N + 1) (.pointer (some ⟨N + 1, 0, none⟩)) (Lib.byteCells acc ++ Lib.strCells ⟨t.toArray⟩) W') (h2 : Below (N + 1) W W') : SS C w N (acc ++ t) W' :=
  ⟨h.1.below h2 (Nat.lt_succ_self N), by rw [Lib.byteCells_append]; exact .inr hb, h.2.2.1.trans (h2.mono (Nat.le_succ_of_le h.2.2.2)), h.2.2.2⟩
theorem SS.new (C : Array Value) {w w1 : World} (hb : Below w.heap.size w w1) : SS C w w1.heap.size [] ((w1.alloc (.cells C 60)).alloc (.cells #[.pointer none, .slice none 0 0] 66)) := by
  obtain ⟨w2, h2⟩ : ∃ w2, w2 = w1.alloc (.cells C 60) := ⟨_, rfl⟩
  have z2 : w2.heap.size = w1.heap.size + 1 := by rw [h2]; simp
  have x := VB.new w1 C 60
  rw [← h2] at x ⊢
  have f := Lib.IsBuilderF.of (Lib.fresh_isBuilder 66 5 w2)
  have b2 : Below w1.heap.size w1 w2 := by rw [h2]; exact (Below.refl _ _).alloc (Nat.le_refl _) _
  have b3 : Below w2.heap.size w2 (w2.alloc (.cells #[.pointer none, .slice none 0 0] 66)) := (Below.refl _ _).alloc (Nat.le_refl _) _
  refine ⟨x.up b3, by rw [← z2]; exact f, (hb.trans (b2.mono hb.size)).trans (b3.mono (by have := hb.size; omega)), hb.size⟩
theorem one_ex (s : ByteArray) (i : Nat) (h : i < s.size) : s.extract i (i + 1) = ⟨#[s[i]]⟩ := by
  apply ByteArray.ext
  rw [ByteArray.data_extract]
  apply Array.ext
  · simp; have : s.data.size = s.size := rfl; omega
  · intro k h1 h2
    simp at h2
    subst h2
    simp
    rfl
theorem and15 {V : Nat} (h : V < 256) : bits BinOp.and IntKind.u8 (V : Int) 15 = ((V % 16 : Nat) : Int) := by
  have : ∀ a : Fin 256, bits BinOp.and IntKind.u8 ((a : Nat) : Int) 15 = (((a : Nat) % 16 : Nat) : Int) := by decide +kernel
  exact this ⟨V, h⟩
theorem wrap_small {z : Int} (h0 : 0 ≤ z) (h1 : z ≤ 255) : IntKind.u8.wrap z = z := by
  unfold IntKind.wrap
  simp [IntKind.signed, IntKind.bits]
  omega
theorem dig_cut (x : Nat) (h : x < 16) : (⟨#[48, 49, 50, 51, 52, 53, 54, 55, 56, 57, 65, 66, 67, 68, 69, 70]⟩ : ByteArray).extract x (x + 1) = ⟨#[digU x]⟩ := by
  rw [one_ex _ x (by show x < 16; exact h)]
  have : ∀ a : Fin 16, (⟨#[48, 49, 50, 51, 52, 53, 54, 55, 56, 57, 65, 66, 67, 68, 69, 70]⟩ : ByteArray)[(a : Nat)]'(by show (a : Nat) < 16; exact a.2) = digU a := by decide +kernel
  rw [this ⟨x, h⟩]
theorem enc_one (n : Nat) (h : n < 128) : Utf8.encode (n : Int) = ⟨#[UInt8.ofNat n]⟩ := by
  have hv : Utf8.valid (n : Int) = true := by unfold Utf8.valid; simp; omega
  unfold Utf8.encode
  simp only [hv, if_true, Int.toNat_natCast, h]
set_option maxRecDepth 20000 in
set_option maxHeartbeats 4000000 in
theorem settle_lower (s : ByteArray) (hs : s.size ≤ 1000000) (ha : ∀ i, (h : i < s.size) → s[i].toNat < 128) (w : World) :
    Calls Tryd.prog 24 #[.string s, .func (.func 23) #[] #[]] w fun e w' => e = .returned (.string ⟨(stl Lib.lowerB s.data.toList).toArray⟩) ∧ Below w.heap.size w w' := by
  have HU := Lib.hid (unr_nil w)
  have HT : Hid (∀ (c : UInt8) (W : World), c.toNat < 128 → Calls Tryd.prog 23 #[.string ⟨#[c]⟩] W fun e w' => e = .returned (.string ⟨#[Lib.lowerB c]⟩) ∧ Below W.heap.size W w') := Lib.hid (turns_lower)
  obtain ⟨f, hf⟩ : ∃ f : UInt8 → UInt8, f = Lib.lowerB := ⟨_, rfl⟩
  rw [← hf] at HT ⊢
  clear hf
  have HA := Lib.hid ha
  clear ha
  have HB := Lib.hid (fun b W => (has_any (flat base4) b W).mono fun e w' z => (show e = .returned (.bool (freeB b)) ∧ Below W.heap.size W w' from ⟨by rw [z.1, free4], z.2⟩))
  unfold setV setC at HU HB
  obtain ⟨a0, ha0⟩ : ∃ a : Int, a = ((wd (flat base4) 0 : Nat) : Int) := ⟨_, rfl⟩
  obtain ⟨a1, ha1⟩ : ∃ a : Int, a = ((wd (flat base4) 1 : Nat) : Int) := ⟨_, rfl⟩
  obtain ⟨a2, ha2⟩ : ∃ a : Int, a = ((wd (flat base4) 2 : Nat) : Int) := ⟨_, rfl⟩
  obtain ⟨a3, ha3⟩ : ∃ a : Int, a = ((wd (flat base4) 3 : Nat) : Int) := ⟨_, rfl⟩
  rw [← ha0, ← ha1, ← ha2, ← ha3] at HU HB
  clear ha0 ha1 ha2 ha3
  have HS := Lib.hid hs
  go_enter Tryd.func24, Tryd.ntmps24
  go_wp2_with fail
  refine HU.out.mono ?_
  rintro e w1 ⟨rfl, b1⟩
  have P0 := Lib.hid (SS.new #[.int .u64 a0, .int .u64 a1, .int .u64 a2, .int .u64 a3] b1)
  clear b1
  go_wp2_with fail
  obtain ⟨w2, hw2⟩ : ∃ w2, w2 = (w1.alloc (.cells #[.int .u64 a0, .int .u64 a1, .int .u64 a2, .int .u64 a3] 60)).alloc (.cells #[.pointer none, .slice none 0 0] 66) := ⟨_, rfl⟩
  rw [← hw2] at P0 ⊢
  clear hw2
  obtain ⟨N, hN⟩ : ∃ N, N = w1.heap.size := ⟨_, rfl⟩
  rw [← hN] at P0 ⊢
  clear hN
  go_loopw [7] (fun s7 wr => ∃ (i : Nat) (acc : List UInt8), i ≤ s.size ∧ s7 = .int .i64 i ∧ SS #[.int .u64 a0, .int .u64 a1, .int .u64 a2, .int .u64 a3] w N acc wr ∧ acc.length ≤ i ∧ acc ++ stl f (s.data.toList.drop i) = stl f s.data.toList) (fun s7 _ => s.size - (intOf s7).toNat)
  case atStart => exact ⟨0, [], Nat.zero_le _, rfl, P0.out, Nat.le_refl _, by rw [List.drop_zero]; rfl⟩
  case round =>
    obtain ⟨i, acc, hi, rfl, hst, hal, hac⟩ := hrel
    have PS1 := Lib.hid hst
    have HAC := Lib.hid hac
    clear hst hac
    by_cases hlt : i < s.size
    · have hlt' : (i : Int) < s.size := by omega
      have HAT := Lib.hid (stl_at f s i hlt)
      have hbn : N + 1 ≤ wr.heap.size := Nat.le_of_lt (ib_lt PS1.out.2.1)
      cases he : esc (s.data.toList.drop i) with
      | false =>
        have HE := Lib.hid (escaped_any s i hlt HS.out wr)
        rw [he] at HE HAT
        clear he
        have ho := one_ex s i hlt
        have hc := HA.out i hlt
        obtain ⟨c, hce⟩ : ∃ c, c = s[i] := ⟨_, rfl⟩
        rw [← hce] at ho hc HAT
        replace ho := Lib.hid ho
        clear hce
        go_wp2_with fail
        refine HE.out.mono ?_
        rintro e w3 ⟨⟨x, hx0, hx1, rfl⟩, b3⟩
        have PS2 := Lib.hid (PS1.out.up b3)
        clear b3
        go_wp2_with fail
        rw [ho.out]
        with_reducible refine (HT.out c _ hc).mono ?_
        rintro e w4 ⟨rfl, b4⟩
        have PS3 := Lib.hid (PS2.out.up b4)
        have hw4 : N + 1 ≤ w4.heap.size := Nat.le_of_lt (ib_lt PS3.out.2.1)
        clear b4 PS2 PS1
        go_wp2_with fail
        have CW := wstr (N + 1) (N + 1) (Lib.byteCells acc) ⟨#[f c]⟩ w4 PS3.out.2.1 (by rw [Lib.byteCells_length]; show acc.length + 1 ≤ _; have := HS.out; omega) hw4
        with_reducible refine CW.mono ?_
        rintro e w5 ⟨rfl, h5, b5⟩
        have PS4 := Lib.hid (PS3.out.wrote (t := [f c]) h5 b5)
        clear h5 b5 hw4 PS3 CW
        go_wp2_with fail
        go_roundw
        case rel => exact ⟨i + 1, acc ++ [f c], by omega, by go_num, PS4.out, by simp; omega, by rw [← HAC.out, HAT.out]; simp⟩
        case measure => simp [intOf]; omega
      | true =>
        have hlen := (esc_first hlt he).2
        have HE := Lib.hid (escaped_yes s i he HS.out wr)
        have hVlt := escV_lt (s.data.toList.drop i)
        rw [he] at HAT
        clear he
        obtain ⟨V, hV⟩ : ∃ V, V = escV (s.data.toList.drop i) := ⟨_, rfl⟩
        rw [← hV] at HE HAT hVlt
        clear hV
        have hb : (UInt8.ofNat V).toNat = V := by simp; omega
        have HBV := Lib.hid (fun W => HB.out (UInt8.ofNat V) W)
        rw [hb] at HBV
        have hlen' : (i : Int) + 2 < s.size := by omega
        have hV0 : (0 : Int) ≤ (V : Int) := by omega
        have hV1 : (V : Int) ≤ 255 := by omega
        obtain ⟨b, hbb⟩ : ∃ b, b = UInt8.ofNat V := ⟨_, rfl⟩
        rw [← hbb] at HBV HAT hb
        replace hbb := Lib.hid hbb
        replace hb := Lib.hid hb
        go_wp2_with fail
        refine HE.out.mono ?_
        rintro e w3 ⟨rfl, b3⟩
        have PS2 := Lib.hid (PS1.out.up b3)
        clear b3
        have c0 : w3.cell? ⟨N, 0, none⟩ = _ := PS2.out.1.cell 0
        have c1 : w3.cell? ⟨N, 1, none⟩ = _ := PS2.out.1.cell 1
        have c2 : w3.cell? ⟨N, 2, none⟩ = _ := PS2.out.1.cell 2
        have c3 : w3.cell? ⟨N, 3, none⟩ = _ := PS2.out.1.cell 3
        go_wp2_with fail
        with_reducible refine (HBV.out _).mono ?_
        rintro e w4 ⟨rfl, b4⟩
        have PS3 := Lib.hid (PS2.out.up b4)
        clear b4 c0 c1 c2 c3 PS2 PS1
        cases hfr : freeB b with
        | true =>
          have h128 := free_ascii b hfr
          have he1 := Lib.hid (show Utf8.encode (V : Int) = ⟨#[b]⟩ from by rw [hbb.out]; exact enc_one V (by rw [← hb.out]; exact h128))
          rw [hfr] at HAT
          clear hfr
          go_wp2_with fail
          rw [he1.out]
          with_reducible refine (HT.out b _ h128).mono ?_
          rintro e w5 ⟨rfl, b5⟩
          have PS4 := Lib.hid (PS3.out.up b5)
          have hw5 : N + 1 ≤ w5.heap.size := Nat.le_of_lt (ib_lt PS4.out.2.1)
          clear b5 PS3
          go_wp2_with fail
          have CW := wstr (N + 1) (N + 1) (Lib.byteCells acc) ⟨#[f b]⟩ w5 PS4.out.2.1 (by rw [Lib.byteCells_length]; show acc.length + 1 ≤ _; have := HS.out; omega) hw5
          with_reducible refine CW.mono ?_
          rintro e w6 ⟨rfl, h6, b6⟩
          have PS5 := Lib.hid (PS4.out.wrote (t := [f b]) h6 b6)
          clear h6 b6 hw5 PS4 CW
          go_wp2_with fail
          go_roundw
          case rel => exact ⟨i + 3, acc ++ [f b], by omega, by go_num, PS5.out, by simp; omega, by rw [← HAC.out, HAT.out]; simp⟩
          case measure => simp [intOf]; omega
        | false =>
          rw [hfr] at HAT
          clear hfr
          have q1 : (V : Int) / 16 < 16 := by omega
          have q2 : (0 : Int) ≤ (V : Int) / 16 := by omega
          have q3 : (V : Int) % 16 < 16 := by omega
          have q4 : (0 : Int) ≤ (V : Int) % 16 := by omega
          go_wp2_with fail
          obtain ⟨x, hx⟩ : ∃ x, x = V / 16 := ⟨_, rfl⟩
          obtain ⟨y, hy⟩ : ∃ y, y = V % 16 := ⟨_, rfl⟩
          rw [← hx, ← hy] at HAT
          have hx16 : x < 16 := by omega
          have hy16 : y < 16 := by omega
          have HX := Lib.hid (show (V : Int) / 16 = (x : Int) from by omega)
          have HY := Lib.hid (show bits BinOp.and IntKind.u8 (V : Int) 15 = (y : Int) from by rw [hy]; exact and15 hVlt)
          have WX := Lib.hid (show IntKind.u8.wrap ((x : Int) + 1) = (x : Int) + 1 from wrap_small (by omega) (by omega))
          have WY := Lib.hid (show IntKind.u8.wrap ((y : Int) + 1) = (y : Int) + 1 from wrap_small (by omega) (by omega))
          have EX := Lib.hid (dig_cut x hx16)
          have EY := Lib.hid (dig_cut y hy16)
          have x1 : (x : Int) + 1 ≤ 16 := by omega
          have y1 : (y : Int) + 1 ≤ 16 := by omega
          have x0 : (0 : Int) ≤ (x : Int) := by omega
          have y0 : (0 : Int) ≤ (y : Int) := by omega
          have x2 : (x : Int) ≤ (x : Int) + 1 := by omega
          have y2 : (y : Int) ≤ (y : Int) + 1 := by omega
          have x3 : (0 : Int) ≤ (x : Int) + 1 := by omega
          have y3 : (0 : Int) ≤ (y : Int) + 1 := by omega
          clear hx hy q1 q2 q3 q4
          have PD := PS3.out.up ((Below.refl w4.heap.size w4).drew)
          refine wp_region_held_drew (S := fun _ => True) (by kernel_rfl) trivial (fun hHeld => ?_)
          refine wpAnyH_take (i := 0) (oi := { dst := some 23, op := Op.move (Operand.tmp 8), type := 5, pos := "address.go:209", after := #[], guard := none }) (v := .int .u8 (V : Int)) rfl (by kernel_rfl) (by kernel_rfl) (by kernel_rfl) (fun _ _ _ h => h) (Or.inl ⟨by rfl, fun w hSw => by (go_simp <;> first | rfl | exact HX.out | exact WX.out | exact HY.out | exact WY.out | (rw [EX.out]; done) | (rw [EY.out]; done) | (rw [EX.out]; rfl) | (rw [EY.out]; rfl) | (trace_state; fail))⟩) hHeld ?_
          try simp only [Act.put, List.setIfInBounds_toArray, List.set_cons_zero, List.set_cons_succ]
          refine wpAnyH_take (i := 1) (oi := { dst := some 24, op := Op.binOp BinOp.shr 5 (Operand.tmp 23) (Operand.const (Value.int IntKind.u64 4)) 73, type := 5, pos := "address.go:209", after := #[{ on := 0, ground := Ground.data }], guard := none }) (v := .int .u8 (x : Int)) rfl (by kernel_rfl) (by kernel_rfl) (by kernel_rfl) (fun _ _ _ h => h) (Or.inl ⟨by rfl, fun w hSw => by (go_simp <;> first | rfl | exact HX.out | exact WX.out | exact HY.out | exact WY.out | (rw [EX.out]; done) | (rw [EY.out]; done) | (rw [EX.out]; rfl) | (rw [EY.out]; rfl) | (trace_state; fail))⟩) hHeld ?_
          try simp only [Act.put, List.setIfInBounds_toArray, List.set_cons_zero, List.set_cons_succ]
          refine wpAnyH_take (i := 2) (oi := { dst := some 25, op := Op.move (Operand.tmp 8), type := 5, pos := "address.go:209", after := #[], guard := none }) (v := .int .u8 (V : Int)) rfl (by kernel_rfl) (by kernel_rfl) (by kernel_rfl) (fun _ _ _ h => h) (Or.inl ⟨by rfl, fun w hSw => by (go_simp <;> first | rfl | exact HX.out | exact WX.out | exact HY.out | exact WY.out | (rw [EX.out]; done) | (rw [EY.out]; done) | (rw [EX.out]; rfl) | (rw [EY.out]; rfl) | (trace_state; fail))⟩) hHeld ?_
          try simp only [Act.put, List.setIfInBounds_toArray, List.set_cons_zero, List.set_cons_succ]
          refine wpAnyH_take (i := 3) (oi := { dst := some 26, op := Op.binOp BinOp.shr 5 (Operand.tmp 25) (Operand.const (Value.int IntKind.u64 4)) 73, type := 5, pos := "address.go:209", after := #[{ on := 2, ground := Ground.data }], guard := none }) (v := .int .u8 (x : Int)) rfl (by kernel_rfl) (by kernel_rfl) (by kernel_rfl) (fun _ _ _ h => h) (Or.inl ⟨by rfl, fun w hSw => by (go_simp <;> first | rfl | exact HX.out | exact WX.out | exact HY.out | exact WY.out | (rw [EX.out]; done) | (rw [EY.out]; done) | (rw [EX.out]; rfl) | (rw [EY.out]; rfl) | (trace_state; fail))⟩) hHeld ?_
          try simp only [Act.put, List.setIfInBounds_toArray, List.set_cons_zero, List.set_cons_succ]
          refine wpAnyH_take (i := 4) (oi := { dst := some 27, op := Op.binOp BinOp.add 5 (Operand.tmp 26) (Operand.const (Value.int IntKind.u8 1)) 5, type := 5, pos := "address.go:209", after := #[{ on := 3, ground := Ground.data }], guard := none }) (v := .int .u8 ((x : Int) + 1)) rfl (by kernel_rfl) (by kernel_rfl) (by kernel_rfl) (fun _ _ _ h => h) (Or.inl ⟨by rfl, fun w hSw => by (go_simp <;> first | rfl | exact HX.out | exact WX.out | exact HY.out | exact WY.out | (rw [EX.out]; done) | (rw [EY.out]; done) | (rw [EX.out]; rfl) | (rw [EY.out]; rfl) | (trace_state; fail))⟩) hHeld ?_
          try simp only [Act.put, List.setIfInBounds_toArray, List.set_cons_zero, List.set_cons_succ]
          refine wpAnyH_take (i := 5) (oi := { dst := some 28, op := Op.slice 9 (Operand.const (Value.string { data := #[48, 49, 50, 51, 52, 53, 54, 55, 56, 57, 65, 66, 67, 68, 69, 70] })) (some (Operand.tmp 24)) (some (Operand.tmp 27)) none, type := 9, pos := "address.go:209", after := #[{ on := 1, ground := Ground.data }, { on := 4, ground := Ground.data }], guard := none }) (v := .string ⟨#[digU x]⟩) rfl (by kernel_rfl) (by kernel_rfl) (by kernel_rfl) (fun _ _ _ h => h) (Or.inl ⟨by rfl, fun w hSw => by (go_simp <;> first | rfl | exact HX.out | exact WX.out | exact HY.out | exact WY.out | (rw [EX.out]; done) | (rw [EY.out]; done) | (rw [EX.out]; rfl) | (rw [EY.out]; rfl) | (trace_state; fail))⟩) hHeld ?_
          try simp only [Act.put, List.setIfInBounds_toArray, List.set_cons_zero, List.set_cons_succ]
          refine wpAnyH_take (i := 6) (oi := { dst := some 29, op := Op.binOp BinOp.add 9 (Operand.const (Value.string { data := #[37] })) (Operand.tmp 28) 9, type := 9, pos := "address.go:209", after := #[{ on := 5, ground := Ground.data }], guard := none }) (v := .string ⟨#[37, digU x]⟩) rfl (by kernel_rfl) (by kernel_rfl) (by kernel_rfl) (fun _ _ _ h => h) (Or.inl ⟨by rfl, fun w hSw => by (go_simp <;> first | rfl | exact HX.out | exact WX.out | exact HY.out | exact WY.out | (rw [EX.out]; done) | (rw [EY.out]; done) | (rw [EX.out]; rfl) | (rw [EY.out]; rfl) | (trace_state; fail))⟩) hHeld ?_
          try simp only [Act.put, List.setIfInBounds_toArray, List.set_cons_zero, List.set_cons_succ]
          refine wpAnyH_take (i := 7) (oi := { dst := some 30, op := Op.move (Operand.tmp 8), type := 5, pos := "address.go:209", after := #[], guard := none }) (v := .int .u8 (V : Int)) rfl (by kernel_rfl) (by kernel_rfl) (by kernel_rfl) (fun _ _ _ h => h) (Or.inl ⟨by rfl, fun w hSw => by (go_simp <;> first | rfl | exact HX.out | exact WX.out | exact HY.out | exact WY.out | (rw [EX.out]; done) | (rw [EY.out]; done) | (rw [EX.out]; rfl) | (rw [EY.out]; rfl) | (trace_state; fail))⟩) hHeld ?_
          try simp only [Act.put, List.setIfInBounds_toArray, List.set_cons_zero, List.set_cons_succ]
          refine wpAnyH_take (i := 8) (oi := { dst := some 31, op := Op.binOp BinOp.and 5 (Operand.tmp 30) (Operand.const (Value.int IntKind.u8 15)) 5, type := 5, pos := "address.go:209", after := #[{ on := 7, ground := Ground.data }], guard := none }) (v := .int .u8 (y : Int)) rfl (by kernel_rfl) (by kernel_rfl) (by kernel_rfl) (fun _ _ _ h => h) (Or.inl ⟨by rfl, fun w hSw => by (go_simp <;> first | rfl | exact HX.out | exact WX.out | exact HY.out | exact WY.out | (rw [EX.out]; done) | (rw [EY.out]; done) | (rw [EX.out]; rfl) | (rw [EY.out]; rfl) | (trace_state; fail))⟩) hHeld ?_
          try simp only [Act.put, List.setIfInBounds_toArray, List.set_cons_zero, List.set_cons_succ]
          refine wpAnyH_take (i := 9) (oi := { dst := some 32, op := Op.move (Operand.tmp 8), type := 5, pos := "address.go:209", after := #[], guard := none }) (v := .int .u8 (V : Int)) rfl (by kernel_rfl) (by kernel_rfl) (by kernel_rfl) (fun _ _ _ h => h) (Or.inl ⟨by rfl, fun w hSw => by (go_simp <;> first | rfl | exact HX.out | exact WX.out | exact HY.out | exact WY.out | (rw [EX.out]; done) | (rw [EY.out]; done) | (rw [EX.out]; rfl) | (rw [EY.out]; rfl) | (trace_state; fail))⟩) hHeld ?_
          try simp only [Act.put, List.setIfInBounds_toArray, List.set_cons_zero, List.set_cons_succ]
          refine wpAnyH_take (i := 10) (oi := { dst := some 33, op := Op.binOp BinOp.and 5 (Operand.tmp 32) (Operand.const (Value.int IntKind.u8 15)) 5, type := 5, pos := "address.go:209", after := #[{ on := 9, ground := Ground.data }], guard := none }) (v := .int .u8 (y : Int)) rfl (by kernel_rfl) (by kernel_rfl) (by kernel_rfl) (fun _ _ _ h => h) (Or.inl ⟨by rfl, fun w hSw => by (go_simp <;> first | rfl | exact HX.out | exact WX.out | exact HY.out | exact WY.out | (rw [EX.out]; done) | (rw [EY.out]; done) | (rw [EX.out]; rfl) | (rw [EY.out]; rfl) | (trace_state; fail))⟩) hHeld ?_
          try simp only [Act.put, List.setIfInBounds_toArray, List.set_cons_zero, List.set_cons_succ]
          refine wpAnyH_take (i := 11) (oi := { dst := some 34, op := Op.binOp BinOp.add 5 (Operand.tmp 33) (Operand.const (Value.int IntKind.u8 1)) 5, type := 5, pos := "address.go:209", after := #[{ on := 10, ground := Ground.data }], guard := none }) (v := .int .u8 ((y : Int) + 1)) rfl (by kernel_rfl) (by kernel_rfl) (by kernel_rfl) (fun _ _ _ h => h) (Or.inl ⟨by rfl, fun w hSw => by (go_simp <;> first | rfl | exact HX.out | exact WX.out | exact HY.out | exact WY.out | (rw [EX.out]; done) | (rw [EY.out]; done) | (rw [EX.out]; rfl) | (rw [EY.out]; rfl) | (trace_state; fail))⟩) hHeld ?_
          try simp only [Act.put, List.setIfInBounds_toArray, List.set_cons_zero, List.set_cons_succ]
          refine wpAnyH_take (i := 12) (oi := { dst := some 35, op := Op.slice 9 (Operand.const (Value.string { data := #[48, 49, 50, 51, 52, 53, 54, 55, 56, 57, 65, 66, 67, 68, 69, 70] })) (some (Operand.tmp 31)) (some (Operand.tmp 34)) none, type := 9, pos := "address.go:209", after := #[{ on := 8, ground := Ground.data }, { on := 11, ground := Ground.data }], guard := none }) (v := .string ⟨#[digU y]⟩) rfl (by kernel_rfl) (by kernel_rfl) (by kernel_rfl) (fun _ _ _ h => h) (Or.inl ⟨by rfl, fun w hSw => by (go_simp <;> first | rfl | exact HX.out | exact WX.out | exact HY.out | exact WY.out | (rw [EX.out]; done) | (rw [EY.out]; done) | (rw [EX.out]; rfl) | (rw [EY.out]; rfl) | (trace_state; fail))⟩) hHeld ?_
          try simp only [Act.put, List.setIfInBounds_toArray, List.set_cons_zero, List.set_cons_succ]
          refine wpAnyH_take (i := 13) (oi := { dst := some 36, op := Op.binOp BinOp.add 9 (Operand.tmp 29) (Operand.tmp 35) 9, type := 9, pos := "address.go:209", after := #[{ on := 6, ground := Ground.data }, { on := 12, ground := Ground.data }], guard := none }) (v := .string ⟨#[37, digU x, digU y]⟩) rfl (by kernel_rfl) (by kernel_rfl) (by kernel_rfl) (fun _ _ _ h => h) (Or.inl ⟨by rfl, fun w hSw => by (go_simp <;> first | rfl | exact HX.out | exact WX.out | exact HY.out | exact WY.out | (rw [EX.out]; done) | (rw [EY.out]; done) | (rw [EX.out]; rfl) | (rw [EY.out]; rfl) | (trace_state; fail))⟩) hHeld ?_
          try simp only [Act.put, List.setIfInBounds_toArray, List.set_cons_zero, List.set_cons_succ]
          refine wpAnyH_ready (rs := [14]) (by kernel_rfl) (by simp) (AllReadyH.cons (o := { dst := some 37, op := Op.call { callee := Callee.value (Operand.func 48), args := #[Operand.tmp 6, Operand.tmp 36], argTypes := #[66, 9] }, type := 71, pos := "address.go:209", after := #[{ on := 13, ground := Ground.data }], guard := none }) rfl (fun K14 hK14 => ?_) AllReadyH.nil)
          go_simp
          have CW := wstr (N + 1) (N + 1) (Lib.byteCells acc) ⟨#[37, digU x, digU y]⟩ w4.drew PD.2.1 (by rw [Lib.byteCells_length]; show acc.length + 3 ≤ _; have := HS.out; omega) (Nat.le_of_lt (ib_lt PD.2.1))
          refine CW.mono ?_
          rintro e w6 ⟨rfl, h6, b6⟩
          have HL := Lib.hid (SS.wrote PD (t := [37, digU x, digU y]) h6 b6)
          refine hK14.out _ _ trivial (fun hH14_14 => ?_)
          clear h6 b6 CW PD
          clear hK14 K14
          try simp only [Act.put, List.setIfInBounds_toArray, List.set_cons_zero, List.set_cons_succ]
          refine wpAnyH_done (by kernel_rfl) ?_ _
          go_wp2_with fail
          go_roundw
          case rel => exact ⟨i + 3, acc ++ [37, digU x, digU y], by omega, by go_num, HL.out, by simp; omega, by rw [← HAC.out, HAT.out]; simp⟩
          case measure => simp [intOf]; omega
    · obtain rfl : i = s.size := by omega
      have HR := Lib.hid (Tryd.Builder_String_any_f (N + 1) (N + 1) acc wr PS1.out.2.1 (Nat.le_of_lt (ib_lt PS1.out.2.1)))
      have HBW := Lib.hid PS1.out.2.2.1
      have HNW := Lib.hid (Nat.le_succ_of_le PS1.out.2.2.2)
      go_wp2_with fail
      refine HR.out.mono ?_
      rintro e w3 ⟨rfl, h3, b3⟩
      have HB3 := Lib.hid (HBW.out.trans (b3.mono HNW.out))
      clear h3 b3
      go_wp2_with fail
      go_ret
      exact ⟨by rw [← HAC.out, drop_end, stl_nil, List.append_nil]; rfl, HB3.out⟩
end Go.Proofs.YtjcaadihkbhlhaaDoor

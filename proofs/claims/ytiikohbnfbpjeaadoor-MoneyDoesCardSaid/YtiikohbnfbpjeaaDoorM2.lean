import Derived.Test.YtiikohbnfbpjeaaDoorM1
namespace Go.Proofs.YtiikohbnfbpjeaaDoor
open Go.RowKit

theorem m64_pos : 0 < M64 := by decide
/-- A size of two words. -/
def hiW (n : Nat) : Nat := n / M64
def loW (n : Nat) : Nat := n % M64
theorem loW_lt (n : Nat) : loW n < M64 := Nat.mod_lt _ m64_pos
theorem size_add (n m : Nat) (h : n + m < M64 * M64) : (hiW n + hiW m + (loW n + loW m) / M64) % M64 = hiW (n + m) ∧ (loW n + loW m) % M64 = loW (n + m) := by
  unfold hiW loW M64 at *; omega
theorem size_less (n m : Nat) (h : m ≤ n) (hn : n < M64 * M64) : (hiW n + M64 - hiW m - (if loW n < loW m then 1 else 0)) % M64 = hiW (n - m) ∧ (loW n + M64 - loW m) % M64 = loW (n - m) := by
  unfold hiW loW M64 at *
  split <;> omega
theorem size_ten (n : Nat) (h : n * 10 < M64 * M64) : hiW n * 10 + loW n * 10 / M64 = hiW (n * 10) ∧ loW n * 10 % M64 = loW (n * 10) ∧ hiW (n * 10) < M64 := by
  unfold hiW loW M64 at *; omega
theorem size_cmp (n m : Nat) : cmpW (hiW n) (loW n) (hiW m) (loW m) = if n = m then 0 else if n < m then -1 else 1 := by
  unfold cmpW hiW loW M64
  (repeat' split) <;> omega
/-- A size's value. -/
def sz (n : Nat) : Value := .agg #[.int .u64 (hiW n : Nat), .int .u64 (loW n : Nat)]
theorem addS (n m : Nat) (w : World) (h : n + m < M64 * M64) : Calls Tryd.prog 57 #[sz n, sz m] w fun e w' => e = .returned (sz (n + m)) ∧ Below w.heap.size w w' := by
  have := addW_any (hiW n) (loW n) (hiW m) (loW m) w (loW_lt n) (loW_lt m)
  rw [(size_add n m h).1, (size_add n m h).2] at this
  exact this
theorem lessS (n m : Nat) (w : World) (h : m ≤ n) (hn : n < M64 * M64) : Calls Tryd.prog 77 #[sz n, sz m] w fun e w' => e = .returned (sz (n - m)) ∧ Below w.heap.size w w' := by
  have := lessW_any (hiW n) (loW n) (hiW m) (loW m) w (loW_lt n) (loW_lt m)
  rw [(size_less n m h hn).1, (size_less n m h hn).2] at this
  exact this
theorem compareS (n m : Nat) (w : World) : Calls Tryd.prog 76 #[sz n, sz m] w fun e w' => e = .returned (.int .i64 (if n = m then 0 else if n < m then -1 else 1)) ∧ Below w.heap.size w w' := by
  have := compareW_any (hiW n) (loW n) (hiW m) (loW m) w
  rw [size_cmp] at this
  exact this
set_option maxRecDepth 20000 in
theorem tenW_any (a b : Nat) (w : World) (hb : b < M64) (ha : a * 10 + b * 10 / M64 < M64) :
    Calls Tryd.prog 75 #[.agg #[.int .u64 a, .int .u64 b]] w fun e w' => e = .returned (.agg #[.int .u64 ((a * 10 + b * 10 / M64 : Nat) : Int), .int .u64 ((b * 10 % M64 : Nat) : Int)]) ∧ Below w.heap.size w w' := by
  have k1 : ∀ W, Calls Tryd.prog 66 #[.int .u64 (b : Int), .int .u64 ((10 : Nat) : Int)] W fun e w' => e = .returned (.tuple #[.int .u64 ((b * 10 / M64 : Nat) : Int), .int .u64 ((b * 10 % M64 : Nat) : Int)]) ∧ w' = W := fun W => Tryd.bits_Mul64 b 10 hb (by decide) W
  obtain ⟨mo, hmo⟩ : ∃ x, x = b * 10 / M64 := ⟨_, rfl⟩
  obtain ⟨lo, hlo⟩ : ∃ x, x = b * 10 % M64 := ⟨_, rfl⟩
  rw [← hmo, ← hlo] at k1
  rw [← hmo] at ha
  rw [← hmo, ← hlo]
  have K1 := Lib.hid k1
  have hs1 : IntKind.u64.wrap ((a : Int) * 10) = (a : Int) * 10 := by rw [IntKind.wrap_u64]; unfold M64 at ha; omega
  have hs2 : IntKind.u64.wrap ((a : Int) * 10 + mo) = (a : Int) * 10 + mo := by rw [IntKind.wrap_u64]; unfold M64 at ha; omega
  have HB : Hid (Below w.heap.size w ((w.alloc (.cells #[.int .u64 (a : Int), .int .u64 (b : Int)] 60)).alloc (.cells #[.int .u64 ((a * 10 + mo : Nat) : Int), .int .u64 (lo : Int)] 60))) := Lib.hid (((Below.refl _ w).alloc (Nat.le_refl _) _).alloc (by simp) _)
  clear hmo hlo k1 ha hb
  go_enter Tryd.func75, Tryd.ntmps75
  go_wp2_with fail
  refine (K1.out _).mono ?_
  rintro e w1 ⟨rfl, rfl⟩
  go_wp2_with fail
  refine ret_w (N := w.heap.size + 1) (a := (a : Int) * 10 + mo) (b := lo) Tryd.results75 (by rfl) (cell_at2 _ (default) _ 60 0 _ (by simp)) (cell_at2 _ (default) _ 60 1 _ (by simp)) ⟨?_, ?_⟩
  · rw [Int.natCast_add, Int.natCast_mul]; rfl
  · have := HB.out
    rw [Int.natCast_add, Int.natCast_mul] at this
    exact this
theorem tenS (n : Nat) (w : World) (h : n * 10 < M64 * M64) : Calls Tryd.prog 75 #[sz n] w fun e w' => e = .returned (sz (n * 10)) ∧ Below w.heap.size w w' := by
  obtain ⟨e1, e2, e3⟩ := size_ten n h
  have := tenW_any (hiW n) (loW n) w (loW_lt n) (by rw [e1]; exact e3)
  rw [e1, e2] at this
  exact this
/-- A size lies in a block that may be written. -/
def WBox (w : World) (B n : Nat) : Prop := w.cell? ⟨B, 0, none⟩ = some (.int .u64 (hiW n : Nat)) ∧ w.cell? ⟨B, 1, none⟩ = some (.int .u64 (loW n : Nat)) ∧ w.frozen? ⟨B, 0, none⟩ = false ∧ w.frozen? ⟨B, 1, none⟩ = false ∧ B < w.heap.size
theorem WBox.up {w w' : World} {B n : Nat} (h : WBox w B n) (hb : Below w.heap.size w w') : WBox w' B n :=
  ⟨(hb.cell (p := ⟨B, 0, none⟩) h.2.2.2.2).trans h.1, (hb.cell (p := ⟨B, 1, none⟩) h.2.2.2.2).trans h.2.1, (hb.frozen (p := ⟨B, 0, none⟩) h.2.2.2.2).trans h.2.2.1, (hb.frozen (p := ⟨B, 1, none⟩) h.2.2.2.2).trans h.2.2.2.1, Nat.lt_of_lt_of_le h.2.2.2.2 hb.size⟩
theorem WBox.set {w : World} {B n : Nat} (h : WBox w B n) (m : Nat) : WBox ((w.setCell ⟨B, 0, none⟩ (.int .u64 (hiW m : Nat))).setCell ⟨B, 1, none⟩ (.int .u64 (loW m : Nat))) B m := by
  obtain ⟨h0, h1, f0, f1, hz⟩ := h
  refine ⟨(World.cell?_setCell_other _ _ _ _ (by simp)).trans (World.cell?_setCell_same _ _ _ h0), World.cell?_setCell_same _ _ _ ((World.cell?_setCell_other _ _ _ _ (by simp)).trans h1), ?_, ?_, ?_⟩
  · rw [World.frozen?_setCell, World.frozen?_setCell]; exact f0
  · rw [World.frozen?_setCell, World.frozen?_setCell]; exact f1
  · simpa [World.setCell] using hz
/-- A Decimal lies in a block. -/
def MBox (w : World) (B : Nat) (m p : Int) : Prop := w.cell? ⟨B, 0, none⟩ = some (.int .i64 m) ∧ w.cell? ⟨B, 1, none⟩ = some (.int .i64 p) ∧ B < w.heap.size
theorem MBox.up {w w' : World} {B : Nat} {m p : Int} (h : MBox w B m p) (hb : Below w.heap.size w w') : MBox w' B m p :=
  ⟨(hb.cell (p := ⟨B, 0, none⟩) h.2.2).trans h.1, (hb.cell (p := ⟨B, 1, none⟩) h.2.2).trans h.2.1, Nat.lt_of_lt_of_le h.2.2 hb.size⟩
theorem MBox.new (w : World) (m p : Int) : MBox (w.alloc (.cells #[.int .i64 m, .int .i64 p] 26)) w.heap.size m p := ⟨World.cell?_alloc_mark w _ 26 _ 0, World.cell?_alloc_mark w _ 26 _ 1, by simp⟩
theorem MBox.other {w : World} {B : Nat} {m p : Int} (h : MBox w B m p) (a : Addr) (ha : a.block ≠ B) (v : Value) : MBox (w.setCell a v) B m p :=
  ⟨(World.cell?_setCell_other _ _ _ _ (by intro e; subst e; exact ha rfl)).trans h.1, (World.cell?_setCell_other _ _ _ _ (by intro e; subst e; exact ha rfl)).trans h.2.1, by simpa [World.setCell] using h.2.2⟩
theorem frozen_new (W : World) (C : Array Value) (T : TypeId) (j : Nat) : (W.alloc (.cells C T)).frozen? ⟨W.heap.size, j, none⟩ = false := by
  simp only [World.frozen?]
  rw [heap_alloc_new]
  simp
theorem WBox.new (w : World) (a b : Int) (n : Nat) (ha : a = (hiW n : Nat)) (hb : b = (loW n : Nat)) : WBox (w.alloc (.cells #[.int .u64 a, .int .u64 b] 60)) w.heap.size n := by
  subst ha hb
  exact ⟨World.cell?_alloc_mark w _ 60 _ 0, World.cell?_alloc_mark w _ 60 _ 1, frozen_new _ _ _ _, frozen_new _ _ _ _, by simp⟩
/-- What lies in memory while a mantissa is scaled. -/
def SC (w W : World) (m p : Int) (n : Nat) : Prop := MBox W w.heap.size m p ∧ WBox W (w.heap.size + 1) n ∧ Below w.heap.size w W
theorem SC.up {w W W' : World} {m p : Int} {n : Nat} (h : SC w W m p n) (hb : Below W.heap.size W W') : SC w W' m p n := ⟨h.1.up hb, h.2.1.up hb, h.2.2.trans (hb.mono h.2.2.size)⟩
theorem SC.set {w W : World} {m p : Int} {n : Nat} (h : SC w W m p n) (q : Nat) : SC w ((W.setCell ⟨w.heap.size + 1, 0, none⟩ (.int .u64 (hiW q : Nat))).setCell ⟨w.heap.size + 1, 1, none⟩ (.int .u64 (loW q : Nat))) m p q :=
  ⟨(h.1.other _ (by simp) _).other _ (by simp) _, h.2.1.set q, (h.2.2.setCell (by simp) _).setCell (by simp) _⟩
theorem SC.new (w : World) (m p : Int) (a b : Int) (n : Nat) (ha : a = (hiW n : Nat)) (hb : b = (loW n : Nat)) : SC w ((w.alloc (.cells #[.int .i64 m, .int .i64 p] 26)).alloc (.cells #[.int .u64 a, .int .u64 b] 60)) m p n := by
  have z : (w.alloc (.cells #[.int .i64 m, .int .i64 p] 26)).heap.size = w.heap.size + 1 := by simp
  refine ⟨(MBox.new w m p).up ((Below.refl _ _).alloc (Nat.le_refl _) _), ?_, ((Below.refl _ w).alloc (Nat.le_refl _) _).alloc (by simp) _⟩
  rw [← z]; exact WBox.new _ a b n ha hb
set_option maxRecDepth 20000 in
theorem scaled_pos (m p k : Nat) (w : World) (hm : m < 9223372036854775808) (hs : p + k ≤ 18) :
    Calls Tryd.prog 56 #[.agg #[.int .i64 (m : Int), .int .i64 p], .int .i64 ((p : Int) + k)] w fun e w' => e = .returned (.iface 67 (sz (m * 10 ^ k))) ∧ Below w.heap.size w w' := by
  have hbig : ∀ i, i < k → m * 10 ^ i * 10 < M64 * M64 := fun i hi => by
    have h1 : m * 10 ^ i ≤ m * 10 ^ 18 := Nat.mul_le_mul_left _ (Nat.pow_le_pow_right (by decide) (by omega))
    unfold M64; omega
  have HBIG := Lib.hid hbig
  have hsub : (p : Int) + k - p = k := by omega
  have k0 : ¬ ((m : Int) < 0) := by omega
  have k1 : decide ((m : Int) < 0) = false := decide_eq_false k0
  have hw1 : IntKind.u64.wrap (m : Int) = (m : Int) := by rw [IntKind.wrap_u64]; omega
  have P0 := Lib.hid (SC.new w m p 0 m m (by unfold hiW M64; omega) (by unfold loW M64; omega))
  clear hbig
  go_enter Tryd.func56, Tryd.ntmps56
  go_wp2_with fail
  obtain ⟨w1, hw1'⟩ : ∃ w1, w1 = (w.alloc (.cells #[.int .i64 (m : Int), .int .i64 (p : Int)] 26)).alloc (.cells #[.int .u64 0, .int .u64 (m : Int)] 60) := ⟨_, rfl⟩
  rw [← hw1'] at P0
  rw [← hw1']
  clear hw1'
  clear hsub
  go_loopg [21] k (fun f iv wr => ∃ i : Nat, f + i = k ∧ iv = .int .i64 i ∧ SC w wr (m : Int) p (m * 10 ^ i))
  case atStart => exact ⟨0, by omega, rfl, by simpa using P0.out⟩
  case round =>
    obtain ⟨i, hf, rfl, hsc⟩ := hrel
    have HF := Lib.hid hf
    have HSC := Lib.hid hsc
    obtain ⟨⟨d0, d1, -⟩, ⟨c0, c1, f0, f1, -⟩, -⟩ := hsc
    cases gk with
    | zero =>
      obtain rfl : i = k := by have := HF.out; omega
      clear hf
      go_wp2_with fail
      go_ret
      exact ⟨rfl, HSC.out.2.2⟩
    | succ g =>
      have hik : i < k := by omega
      have hik' : (i : Int) < k := by omega
      have HT := Lib.hid (fun W => tenS (m * 10 ^ i) W (HBIG.out i hik))
      unfold sz at HT
      have e1 : m * 10 ^ i * 10 = m * 10 ^ (i + 1) := by rw [Nat.pow_succ, Nat.mul_assoc]
      rw [e1] at HT
      clear hf e1
      go_wp2_with fail
      refine (HT.out _).mono ?_
      rintro e w2 ⟨rfl, b⟩
      have P2 := Lib.hid (HSC.out.up b)
      clear d0 d1 c0 c1 f0 f1 b
      obtain ⟨⟨d0, d1, -⟩, ⟨c0, c1, f0, f1, -⟩, -⟩ := P2.out
      go_wp2_with fail
      go_roundg g
      case rel => exact ⟨i + 1, by have := HF.out; omega, by go_num, P2.out.set _⟩
      case measure => omega
set_option maxRecDepth 20000 in
theorem scaled_neg (m p k : Nat) (w : World) (hm : m ≤ 9223372036854775808) (h0 : 0 < m) (hs : p + k ≤ 18) :
    Calls Tryd.prog 56 #[.agg #[.int .i64 (-(m : Int)), .int .i64 p], .int .i64 ((p : Int) + k)] w fun e w' => e = .returned (.iface 65 (sz (m * 10 ^ k))) ∧ Below w.heap.size w w' := by
  have hbig : ∀ i, i < k → m * 10 ^ i * 10 < M64 * M64 := fun i hi => by
    have h1 : m * 10 ^ i ≤ m * 10 ^ 18 := Nat.mul_le_mul_left _ (Nat.pow_le_pow_right (by decide) (by omega))
    unfold M64; omega
  have HBIG := Lib.hid hbig
  have hsub : (p : Int) + k - p = k := by omega
  have k0 : -(m : Int) < 0 := by omega
  have k1 : decide (-(m : Int) < 0) = true := decide_eq_true k0
  obtain ⟨z, hz⟩ : ∃ z : Int, z = 18446744073709551616 - (m : Int) := ⟨_, rfl⟩
  have hw1 : IntKind.u64.wrap (-(m : Int)) = z := by rw [IntKind.wrap_u64]; omega
  have hw2 : IntKind.u64.wrap (-z) = (m : Int) := by rw [IntKind.wrap_u64]; omega
  have P0 := Lib.hid (SC.new w (-(m : Int)) p 0 m m (by unfold hiW M64; omega) (by unfold loW M64; omega))
  clear hz
  clear hbig
  go_enter Tryd.func56, Tryd.ntmps56
  go_wp2_with fail
  obtain ⟨w1, hw1'⟩ : ∃ w1, w1 = (w.alloc (.cells #[.int .i64 (-(m : Int)), .int .i64 (p : Int)] 26)).alloc (.cells #[.int .u64 0, .int .u64 (m : Int)] 60) := ⟨_, rfl⟩
  rw [← hw1'] at P0
  rw [← hw1']
  clear hw1'
  clear hsub
  go_loopg [21] k (fun f iv wr => ∃ i : Nat, f + i = k ∧ iv = .int .i64 i ∧ SC w wr (-(m : Int)) p (m * 10 ^ i))
  case atStart => exact ⟨0, by omega, rfl, by simpa using P0.out⟩
  case round =>
    obtain ⟨i, hf, rfl, hsc⟩ := hrel
    have HF := Lib.hid hf
    have HSC := Lib.hid hsc
    obtain ⟨⟨d0, d1, -⟩, ⟨c0, c1, f0, f1, -⟩, -⟩ := hsc
    cases gk with
    | zero =>
      obtain rfl : i = k := by have := HF.out; omega
      clear hf
      go_wp2_with fail
      go_ret
      exact ⟨rfl, HSC.out.2.2⟩
    | succ g =>
      have hik : i < k := by omega
      have hik' : (i : Int) < k := by omega
      have HT := Lib.hid (fun W => tenS (m * 10 ^ i) W (HBIG.out i hik))
      unfold sz at HT
      have e1 : m * 10 ^ i * 10 = m * 10 ^ (i + 1) := by rw [Nat.pow_succ, Nat.mul_assoc]
      rw [e1] at HT
      clear hf e1
      go_wp2_with fail
      refine (HT.out _).mono ?_
      rintro e w2 ⟨rfl, b⟩
      have P2 := Lib.hid (HSC.out.up b)
      clear d0 d1 c0 c1 f0 f1 b
      obtain ⟨⟨d0, d1, -⟩, ⟨c0, c1, f0, f1, -⟩, -⟩ := P2.out
      go_wp2_with fail
      go_roundg g
      case rel => exact ⟨i + 1, by have := HF.out; omega, by go_num, P2.out.set _⟩
      case measure => omega
end Go.Proofs.YtiikohbnfbpjeaaDoor

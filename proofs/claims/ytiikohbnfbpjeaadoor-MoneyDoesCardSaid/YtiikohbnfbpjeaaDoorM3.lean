import Derived.Test.YtiikohbnfbpjeaaDoorM2
namespace Go.Proofs.YtiikohbnfbpjeaaDoor
open Go.RowKit

theorem as67_67 (v : Value) (w : World) : (Instr.typeAssert (.iface 67 v) 54 67 true).run Tryd.prog w = .ok (.tuple #[v, .bool true]) w := by
  simp [Instr.typeAssert, run_underlying Tryd.underlying67]
theorem as65_65 (v : Value) (w : World) : (Instr.typeAssert (.iface 65 v) 54 65 true).run Tryd.prog w = .ok (.tuple #[v, .bool true]) w := by
  simp [Instr.typeAssert, run_underlying Tryd.underlying65]
theorem as67_65 (v : Value) (w : World) : (Instr.typeAssert (.iface 67 v) 54 65 true).run Tryd.prog w = .ok (.tuple #[.agg #[.int .u64 0, .int .u64 0], .bool false]) w := by
  simp [Instr.typeAssert, run_underlying Tryd.underlying65, Tryd.zeroValue65]
theorem as65_67 (v : Value) (w : World) : (Instr.typeAssert (.iface 65 v) 54 67 true).run Tryd.prog w = .ok (.tuple #[.agg #[.int .u64 0, .int .u64 0], .bool false]) w := by
  simp [Instr.typeAssert, run_underlying Tryd.underlying67, Tryd.zeroValue67]
theorem meth67 (x y : Value) (w : World) : (method 273 67 (.agg #[x, y]) "provost/money.size").run Tryd.prog w = .ok (124, .agg #[x, y]) w := by kernel_rfl
theorem meth65 (x y : Value) (w : World) : (method 273 65 (.agg #[x, y]) "provost/money.size").run Tryd.prog w = .ok (124, .agg #[x, y]) w := by kernel_rfl
set_option maxRecDepth 20000 in
theorem size_any (a b : Int) (w : World) : Calls Tryd.prog 124 #[.agg #[.int .u64 a, .int .u64 b]] w fun e w' => e = .returned (.agg #[.int .u64 a, .int .u64 b]) ∧ Below w.heap.size w w' := by
  go_enter Tryd.func124, Tryd.ntmps124
  go_wp2_with fail
  exact ret_w (N := w.heap.size + 1) (a := a) (b := b) Tryd.results124 (by rfl) (cell_at2 _ (default) _ 60 0 _ (by simp)) (cell_at2 _ (default) _ 60 1 _ (by simp)) ⟨rfl, ((Below.refl _ w).alloc (Nat.le_refl _) _).alloc (by simp) _⟩
set_option maxRecDepth 20000 in
theorem opp_plus (n : Nat) (w : World) : Calls Tryd.prog 32 #[.iface 67 (sz n)] w fun e w' => e = .returned (.iface 65 (sz n)) ∧ Below w.heap.size w w' := by
  unfold sz
  obtain ⟨a, ha⟩ : ∃ a : Int, a = (hiW n : Nat) := ⟨_, rfl⟩
  obtain ⟨b, hb⟩ : ∃ a : Int, a = (loW n : Nat) := ⟨_, rfl⟩
  rw [← ha, ← hb]
  clear ha hb
  have t1 := as67_67
  have t3 := meth67
  have SZ := Lib.hid size_any
  have HB0 := Lib.hid ((Below.refl _ w).alloc (Nat.le_refl _) (.cells #[.int .u64 a, .int .u64 b] 67))
  go_enter Tryd.func32, Tryd.ntmps32
  go_wp2_with fail
  refine (SZ.out a b _).mono ?_
  rintro e w1 ⟨rfl, q⟩
  have HB := Lib.hid (HB0.out.trans (q.mono (by simp)))
  clear q
  go_wp2_with fail
  go_ret
  exact ⟨rfl, HB.out⟩
set_option maxRecDepth 20000 in
theorem opp_minus (n : Nat) (w : World) : Calls Tryd.prog 32 #[.iface 65 (sz n)] w fun e w' => e = .returned (.iface 67 (sz n)) ∧ Below w.heap.size w w' := by
  unfold sz
  obtain ⟨a, ha⟩ : ∃ a : Int, a = (hiW n : Nat) := ⟨_, rfl⟩
  obtain ⟨b, hb⟩ : ∃ a : Int, a = (loW n : Nat) := ⟨_, rfl⟩
  rw [← ha, ← hb]
  clear ha hb
  have t1 := as65_67
  have t3 := meth65
  have SZ := Lib.hid size_any
  have HB0 := Lib.hid ((Below.refl _ w).alloc (Nat.le_refl _) (.cells #[.int .u64 0, .int .u64 0] 67))
  go_enter Tryd.func32, Tryd.ntmps32
  go_wp2_with fail
  refine (SZ.out a b _).mono ?_
  rintro e w1 ⟨rfl, q⟩
  have HB := Lib.hid (HB0.out.trans (q.mono (by simp)))
  clear q
  go_wp2_with fail
  go_ret
  exact ⟨rfl, HB.out⟩
/-- Two sizes lie in new blocks. -/
def TwoW (w W : World) (a b c d : Int) : Prop := (W.cell? ⟨w.heap.size, 0, none⟩ = some (.int .u64 a) ∧ W.cell? ⟨w.heap.size, 1, none⟩ = some (.int .u64 b) ∧ w.heap.size < W.heap.size) ∧ (W.cell? ⟨w.heap.size + 1, 0, none⟩ = some (.int .u64 c) ∧ W.cell? ⟨w.heap.size + 1, 1, none⟩ = some (.int .u64 d) ∧ w.heap.size + 1 < W.heap.size) ∧ Below w.heap.size w W
theorem TwoW.up {w W W' : World} {a b c d : Int} (h : TwoW w W a b c d) (hb : Below W.heap.size W W') : TwoW w W' a b c d := by
  obtain ⟨⟨c0, c1, z1⟩, ⟨d0, d1, z2⟩, h3⟩ := h
  refine ⟨⟨?_, ?_, Nat.lt_of_lt_of_le z1 hb.size⟩, ⟨?_, ?_, Nat.lt_of_lt_of_le z2 hb.size⟩, h3.trans (hb.mono h3.size)⟩
  · exact (hb.cell (p := ⟨w.heap.size, 0, none⟩) z1).trans c0
  · exact (hb.cell (p := ⟨w.heap.size, 1, none⟩) z1).trans c1
  · exact (hb.cell (p := ⟨w.heap.size + 1, 0, none⟩) z2).trans d0
  · exact (hb.cell (p := ⟨w.heap.size + 1, 1, none⟩) z2).trans d1
theorem TwoW.new (w : World) (a b c d : Int) : TwoW w ((w.alloc (.cells #[.int .u64 a, .int .u64 b] 60)).alloc (.cells #[.int .u64 c, .int .u64 d] 60)) a b c d := by
  have z : (w.alloc (.cells #[.int .u64 a, .int .u64 b] 60)).heap.size = w.heap.size + 1 := by simp
  have hb : Below (w.alloc (.cells #[.int .u64 a, .int .u64 b] 60)).heap.size (w.alloc (.cells #[.int .u64 a, .int .u64 b] 60)) ((w.alloc (.cells #[.int .u64 a, .int .u64 b] 60)).alloc (.cells #[.int .u64 c, .int .u64 d] 60)) := (Below.refl _ _).alloc (Nat.le_refl _) _
  refine ⟨⟨?_, ?_, by simp; omega⟩, ⟨?_, ?_, by simp⟩, ((Below.refl _ w).alloc (Nat.le_refl _) _).alloc (by simp) _⟩
  · exact (hb.cell (p := ⟨w.heap.size, 0, none⟩) (by simp)).trans (World.cell?_alloc_mark w _ 60 _ 0)
  · exact (hb.cell (p := ⟨w.heap.size, 1, none⟩) (by simp)).trans (World.cell?_alloc_mark w _ 60 _ 1)
  · rw [← z]; exact World.cell?_alloc_mark _ _ 60 _ 0
  · rw [← z]; exact World.cell?_alloc_mark _ _ 60 _ 1
set_option maxRecDepth 20000 in
theorem apart_less (n m : Nat) (w : World) (h : n < m) (hm : m < M64 * M64) : Calls Tryd.prog 58 #[sz n, sz m] w fun e w' => e = .returned (.iface 65 (sz (m - n))) ∧ Below w.heap.size w w' := by
  have HC := Lib.hid (fun W => compareS n m W)
  rw [if_neg (by omega), if_pos h] at HC
  have HL := Lib.hid (fun W => lessS m n W (by omega) hm)
  unfold sz at HC HL ⊢
  obtain ⟨a, ha⟩ : ∃ a : Int, a = (hiW n : Nat) := ⟨_, rfl⟩
  obtain ⟨b, hb⟩ : ∃ a : Int, a = (loW n : Nat) := ⟨_, rfl⟩
  obtain ⟨c, hc⟩ : ∃ a : Int, a = (hiW m : Nat) := ⟨_, rfl⟩
  obtain ⟨d, hd⟩ : ∃ a : Int, a = (loW m : Nat) := ⟨_, rfl⟩
  rw [← ha, ← hb, ← hc, ← hd] at HC HL
  rw [← ha, ← hb, ← hc, ← hd]
  clear ha hb hc hd
  have HX := Lib.hid (TwoW.new w a b c d)
  go_enter Tryd.func58, Tryd.ntmps58
  go_wp2_with fail
  refine (HC.out _).mono ?_
  rintro e w1 ⟨rfl, q⟩
  obtain ⟨⟨c0, c1, -⟩, ⟨d0, d1, -⟩, hb⟩ := HX.out.up q
  have HB := Lib.hid hb
  clear q hb
  go_wp2_with fail
  refine (HL.out _).mono ?_
  rintro e w2 ⟨rfl, q⟩
  have HB2 := Lib.hid (HB.out.trans (q.mono HB.out.size))
  clear q
  go_wp2_with fail
  go_ret
  exact ⟨rfl, HB2.out⟩
set_option maxRecDepth 20000 in
theorem apart_more (n m : Nat) (w : World) (h : m ≤ n) (hn : n < M64 * M64) : Calls Tryd.prog 58 #[sz n, sz m] w fun e w' => e = .returned (.iface 67 (sz (n - m))) ∧ Below w.heap.size w w' := by
  have HC := Lib.hid (fun W => compareS n m W)
  obtain ⟨o, ho, ho0⟩ : ∃ o : Int, o = (if n = m then 0 else if n < m then -1 else 1) ∧ ¬ (o < 0) := ⟨_, rfl, by split; omega; rw [if_neg (by omega)]; omega⟩
  rw [← ho] at HC
  have ho1 : decide (o < 0) = false := decide_eq_false ho0
  clear ho
  have HL := Lib.hid (fun W => lessS n m W h hn)
  unfold sz at HC HL ⊢
  obtain ⟨a, ha⟩ : ∃ a : Int, a = (hiW n : Nat) := ⟨_, rfl⟩
  obtain ⟨b, hb⟩ : ∃ a : Int, a = (loW n : Nat) := ⟨_, rfl⟩
  obtain ⟨c, hc⟩ : ∃ a : Int, a = (hiW m : Nat) := ⟨_, rfl⟩
  obtain ⟨d, hd⟩ : ∃ a : Int, a = (loW m : Nat) := ⟨_, rfl⟩
  rw [← ha, ← hb, ← hc, ← hd] at HC HL
  rw [← ha, ← hb, ← hc, ← hd]
  clear ha hb hc hd
  have HX := Lib.hid (TwoW.new w a b c d)
  go_enter Tryd.func58, Tryd.ntmps58
  go_wp2_with fail
  refine (HC.out _).mono ?_
  rintro e w1 ⟨rfl, q⟩
  obtain ⟨⟨c0, c1, -⟩, ⟨d0, d1, -⟩, hb⟩ := HX.out.up q
  have HB := Lib.hid hb
  clear q hb
  go_wp2_with fail
  refine (HL.out _).mono ?_
  rintro e w2 ⟨rfl, q⟩
  have HB2 := Lib.hid (HB.out.trans (q.mono HB.out.size))
  clear q
  go_wp2_with fail
  go_ret
  exact ⟨rfl, HB2.out⟩
end Go.Proofs.YtiikohbnfbpjeaaDoor

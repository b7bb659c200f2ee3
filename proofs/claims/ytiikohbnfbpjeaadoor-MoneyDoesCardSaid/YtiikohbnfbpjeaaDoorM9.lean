import Derived.Test.YtiikohbnfbpjeaaDoorM8
import Derived.Deep.RegionHeld3
namespace Go.Proofs.YtiikohbnfbpjeaaDoor
open Go.RowKit
theorem div10_any (hi lo : Nat) (w : World) (h : hi < 10) (hl : lo < M64) : Calls Tryd.prog 59 #[.int .u64 hi, .int .u64 lo, .int .u64 10] w fun e w' => e = .returned (.tuple #[.int .u64 (((hi * M64 + lo) / 10 : Nat) : Int), .int .u64 (((hi * M64 + lo) % 10 : Nat) : Int)]) ∧ Below w.heap.size w w' := by
  by_cases h0 : hi = 0
  · subst h0
    rw [Nat.zero_mul, Nat.zero_add]
    exact div10_low lo w hl
  · exact div10_high hi lo w (by omega) h hl
theorem ten_hi (n : Nat) : hiW n / 10 = hiW (n / 10) ∧ (hiW n % 10 * M64 + loW n) / 10 = loW (n / 10) ∧ (hiW n % 10 * M64 + loW n) % 10 = n % 10 := by
  unfold hiW loW M64; omega
theorem ret_wt {fn : Func} {p u : Tmp} {Q : Ending → World → Prop} {tmps : Array Value} {w : World} {N : Nat} {a b : Int} {v : Value} (hf : fn.results = #[.cell p 60, .tmp u]) (h2 : tmps.getD p undef = .pointer (some ⟨N, 0, none⟩)) (h3 : tmps.getD u undef = v) (c0 : w.cell? ⟨N, 0, none⟩ = some (.int .u64 a)) (c1 : w.cell? ⟨N, 1, none⟩ = some (.int .u64 b))
    (hQ : Q (.returned (.tuple #[.agg #[.int .u64 a, .int .u64 b], v])) w) : bodyPost Tryd.prog fn Q .ret ⟨tmps, []⟩ w := by
  refine bodyPost_ret (v := .tuple #[.agg #[.int .u64 a, .int .u64 b], v]) ?_ rfl hQ
  rw [results_cell_tmp (p := p) (u := u) (ty := 60) hf, h2, h3]
  simp [asAddr, Result.andThen, load_w c0 c1]
/-- A size, and room for another one. -/
def RW (w W : World) (a b : Int) : Prop := (W.cell? ⟨w.heap.size, 0, none⟩ = some (.int .u64 a) ∧ W.cell? ⟨w.heap.size, 1, none⟩ = some (.int .u64 b) ∧ w.heap.size < W.heap.size) ∧ WBox W (w.heap.size + 1) 0 ∧ Below w.heap.size w W
theorem RW.up {w W W' : World} {a b : Int} (h : RW w W a b) (hb : Below W.heap.size W W') : RW w W' a b := by
  obtain ⟨⟨c0, c1, z1⟩, h2, h3⟩ := h
  exact ⟨⟨(hb.cell (p := ⟨w.heap.size, 0, none⟩) z1).trans c0, (hb.cell (p := ⟨w.heap.size, 1, none⟩) z1).trans c1, Nat.lt_of_lt_of_le z1 hb.size⟩, h2.up hb, h3.trans (hb.mono h3.size)⟩
theorem RW.new (w : World) (a b : Int) : RW w ((w.alloc (.cells #[.int .u64 a, .int .u64 b] 60)).alloc (.cells #[.int .u64 0, .int .u64 0] 60)) a b := by
  obtain ⟨h1, -, h3⟩ := TwoW.new w a b 0 0
  refine ⟨h1, ?_, h3⟩
  have z : (w.alloc (.cells #[.int .u64 a, .int .u64 b] 60)).heap.size = w.heap.size + 1 := by simp
  rw [← z]; exact WBox.new _ 0 0 0 rfl rfl
set_option maxRecDepth 20000 in
theorem tenth_any (n : Nat) (w : World) (hn : n < M64 * M64) : Calls Tryd.prog 30 #[sz n] w fun e w' => e = .returned (.tuple #[sz (n / 10), .int .u64 ((n % 10 : Nat) : Int)]) ∧ Below w.heap.size w w' := by
  obtain ⟨e1, e2, e3⟩ := ten_hi n
  have hh : hiW n < M64 := by unfold hiW M64 at *; omega
  have D1 := Lib.hid (fun W => div10_any 0 (hiW n) W (by decide) hh)
  have D2 := Lib.hid (fun W => div10_any (hiW n % 10) (loW n) W (Nat.mod_lt _ (by decide)) (loW_lt n))
  rw [Nat.zero_mul, Nat.zero_add, e1] at D1
  rw [e2, e3] at D2
  unfold sz
  obtain ⟨a, ha⟩ : ∃ a : Int, a = (hiW n : Nat) := ⟨_, rfl⟩
  obtain ⟨b, hb⟩ : ∃ a : Int, a = (loW n : Nat) := ⟨_, rfl⟩
  obtain ⟨c, hc⟩ : ∃ a : Int, a = (hiW (n / 10) : Nat) := ⟨_, rfl⟩
  obtain ⟨d, hd⟩ : ∃ a : Int, a = (loW (n / 10) : Nat) := ⟨_, rfl⟩
  obtain ⟨r, hr⟩ : ∃ a : Int, a = (hiW n % 10 : Nat) := ⟨_, rfl⟩
  obtain ⟨t, ht⟩ : ∃ a : Int, a = (n % 10 : Nat) := ⟨_, rfl⟩
  rw [← ha, ← hc, ← hr] at D1
  rw [← hr, ← hb, ← hd, ← ht] at D2
  rw [← ha, ← hb, ← hc, ← hd, ← ht]
  clear ha hb hc hd hr ht e1 e2 e3 hh hn
  have HX := Lib.hid (RW.new w a b)
  go_enter Tryd.func30, Tryd.ntmps30
  go_wp2_with fail
  refine (D1.out _).mono ?_
  rintro e w1 ⟨rfl, q⟩
  have H1 := Lib.hid (HX.out.up q)
  obtain ⟨⟨c0, c1, -⟩, -, -⟩ := H1.out
  clear q
  go_wp2_with fail
  refine (D2.out _).mono ?_
  rintro e w2 ⟨rfl, q⟩
  have H2 := Lib.hid (H1.out.up q)
  clear q c0 c1
  obtain ⟨-, ⟨d0, d1, f0, f1, -⟩, -⟩ := H2.out
  go_wp2_with fail
  refine ret_wt (N := w.heap.size + 1) (a := c) (b := d) (v := .int .u64 t) Tryd.results30 (by rfl) (by rfl) ((World.cell?_setCell_other _ _ _ _ (by simp)).trans (World.cell?_setCell_same _ _ _ d0)) (World.cell?_setCell_same _ _ _ ((World.cell?_setCell_other _ _ _ _ (by simp)).trans d1)) ⟨rfl, (H2.out.2.2.setCell (by simp) _).setCell (by simp) _⟩
end Go.Proofs.YtiikohbnfbpjeaaDoor

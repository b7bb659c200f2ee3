import Derived.Test.YtiikohbnfbpjeaaDoorM11
import Derived.Test.YtiikohbnfbpjeaaDoorMT
import Derived.Deep.DeepCutAuto
namespace Go.Proofs.YtiikohbnfbpjeaaDoor
open Go.RowKit
theorem ret_mt {fn : Func} {p u : Tmp} {Q : Ending → World → Prop} {tmps : Array Value} {w : World} {N : Nat} {a b : Int} {v : Value} (hf : fn.results = #[.cell p 26, .tmp u]) (h2 : tmps.getD p undef = .pointer (some ⟨N, 0, none⟩)) (h3 : tmps.getD u undef = v) (c0 : w.cell? ⟨N, 0, none⟩ = some (.int .i64 a)) (c1 : w.cell? ⟨N, 1, none⟩ = some (.int .i64 b))
    (hQ : Q (.returned (.tuple #[.agg #[.int .i64 a, .int .i64 b], v])) w) : bodyPost Tryd.prog fn Q .ret ⟨tmps, []⟩ w := by
  refine bodyPost_ret (v := .tuple #[.agg #[.int .i64 a, .int .i64 b], v]) ?_ rfl hQ
  rw [results_cell_tmp (p := p) (u := u) (ty := 26) hf, h2, h3]
  simp [asAddr, Result.andThen, load_m c0 c1]
/-- A Decimal lies in a block that may be written. -/
def FBox (w : World) (B : Nat) (m p : Int) : Prop := MBox w B m p ∧ w.frozen? ⟨B, 0, none⟩ = false ∧ w.frozen? ⟨B, 1, none⟩ = false
theorem FBox.up {w w' : World} {B : Nat} {m p : Int} (h : FBox w B m p) (hb : Below w.heap.size w w') : FBox w' B m p :=
  ⟨h.1.up hb, (hb.frozen (p := ⟨B, 0, none⟩) h.1.2.2).trans h.2.1, (hb.frozen (p := ⟨B, 1, none⟩) h.1.2.2).trans h.2.2⟩
theorem FBox.new (w : World) (m p : Int) : FBox (w.alloc (.cells #[.int .i64 m, .int .i64 p] 26)) w.heap.size m p := ⟨MBox.new w m p, frozen_new _ _ _ _, frozen_new _ _ _ _⟩
theorem FBox.set0 {w : World} {B : Nat} {m p : Int} (h : FBox w B m p) (n : Int) : FBox (w.setCell ⟨B, 0, none⟩ (.int .i64 n)) B n p :=
  ⟨⟨World.cell?_setCell_same _ _ _ h.1.1, (World.cell?_setCell_other _ _ _ _ (by simp)).trans h.1.2.1, by simpa [World.setCell] using h.1.2.2⟩, (World.frozen?_setCell _ _ _ _).trans h.2.1, (World.frozen?_setCell _ _ _ _).trans h.2.2⟩
theorem FBox.set1 {w : World} {B : Nat} {m p : Int} (h : FBox w B m p) (n : Int) : FBox (w.setCell ⟨B, 1, none⟩ (.int .i64 n)) B m n :=
  ⟨⟨(World.cell?_setCell_other _ _ _ _ (by simp)).trans h.1.1, World.cell?_setCell_same _ _ _ h.1.2.1, by simpa [World.setCell] using h.1.2.2⟩, (World.frozen?_setCell _ _ _ _).trans h.2.1, (World.frozen?_setCell _ _ _ _).trans h.2.2⟩
theorem FBox.other {w : World} {B : Nat} {m p : Int} (h : FBox w B m p) (a : Addr) (ha : a.block ≠ B) (v : Value) : FBox (w.setCell a v) B m p :=
  ⟨h.1.other a ha v, (World.frozen?_setCell _ _ _ _).trans h.2.1, (World.frozen?_setCell _ _ _ _).trans h.2.2⟩
/-- Where the sum is answered. -/
def SA (w W : World) (a b : Int) : Prop := FBox W (w.heap.size + 1 + 1) a b ∧ Below w.heap.size w W
theorem SA.up {w W W' : World} {a b : Int} (h : SA w W a b) (hb : Below W.heap.size W W') : SA w W' a b := ⟨h.1.up hb, h.2.trans (hb.mono h.2.size)⟩
theorem SA.set {w W : World} {a b : Int} (h : SA w W a b) (m p : Int) : SA w ((W.setCell ⟨w.heap.size + 1 + 1, 0, none⟩ (.int .i64 m)).setCell ⟨w.heap.size + 1 + 1, 1, none⟩ (.int .i64 p)) m p :=
  ⟨(h.1.set0 m).set1 p, (h.2.setCell (by simp; omega) _).setCell (by simp; omega) _⟩
/-- What lies in memory ahead of the sum. -/
def TA (w W : World) (m p n q : Int) : Prop := TwoM w.heap.size w W m p n q ∧ SA w W 0 0
theorem TA.up {w W W' : World} {m p n q : Int} (h : TA w W m p n q) (hb : Below W.heap.size W W') : TA w W' m p n q := ⟨h.1.up hb, h.2.up hb⟩
theorem TA.new (w : World) (m p n q : Int) : TA w (((w.alloc (.cells #[.int .i64 m, .int .i64 p] 26)).alloc (.cells #[.int .i64 n, .int .i64 q] 26)).alloc (.cells #[.int .i64 0, .int .i64 0] 26)) m p n q := by
  have z : ((w.alloc (.cells #[.int .i64 m, .int .i64 p] 26)).alloc (.cells #[.int .i64 n, .int .i64 q] 26)).heap.size = w.heap.size + 1 + 1 := by simp
  have t := (TwoM.new w m p n q).up ((Below.refl _ _).alloc (Nat.le_refl _) (.cells #[.int .i64 0, .int .i64 0] 26))
  refine ⟨t, ?_, t.2.2⟩
  rw [← z]
  exact FBox.new _ 0 0
theorem ad_no {m p n q : Int} (h : (may m p && may n q) = false) : adM m p n q = 0 ∧ adS m p n q = 0 ∧ adE m p n q = 140 := by unfold adM adS adE; rw [h]; exact ⟨rfl, rfl, rfl⟩
theorem ad_over {m p n q : Int} (h : may m p = true) (g : may n q = true) (f : in64 (norm (vM m p + vM n q) 18).1 = false) : adM m p n q = 0 ∧ adS m p n q = 0 ∧ adE m p n q = 20 := by unfold adM adS adE; rw [h, g, f]; exact ⟨rfl, rfl, rfl⟩
theorem ad_yes {m p n q : Int} (h : may m p = true) (g : may n q = true) (f : in64 (norm (vM m p + vM n q) 18).1 = true) : adM m p n q = (norm (vM m p + vM n q) 18).1 ∧ adS m p n q = ((norm (vM m p + vM n q) 18).2 : Nat) ∧ adE m p n q = 0 := by unfold adM adS adE; rw [h, g, f]; exact ⟨rfl, rfl, rfl⟩
set_option maxRecDepth 20000 in
theorem add_bad1 (m p n q : Int) (w : World) (h : may m p = false) :
    Calls Tryd.prog 12 #[.agg #[.int .i64 m, .int .i64 p], .agg #[.int .i64 n, .int .i64 q]] w fun e w' => e = .returned (.tuple #[.agg #[.int .i64 0, .int .i64 0], .int .i64 140]) ∧ Below w.heap.size w w' := by
  have C1 := Lib.hid (fun W => check_any m p W)
  rw [chM_no h] at C1
  have P0 := Lib.hid (TA.new w m p n q)
  clear h
  go_enter Tryd.func12, Tryd.ntmps12
  go_wp2_with fail
  refine (C1.out _).mono ?_
  rintro e w1 ⟨rfl, b⟩
  have P1 := Lib.hid (P0.out.up b)
  have P2 := Lib.hid (P1.out.2.set 0 0)
  obtain ⟨-, ⟨⟨c0, c1, -⟩, f0, f1⟩, -⟩ := P1.out
  clear b
  go_wp2_with fail
  exact ret_mt (N := w.heap.size + 1 + 1) (a := 0) (b := 0) Tryd.results12 (by rfl) (by rfl) P2.out.1.1.1 P2.out.1.1.2.1 ⟨rfl, P2.out.2⟩
set_option maxRecDepth 20000 in
theorem add_bad2 (m p n q : Int) (w : World) (h : may m p = true) (g : may n q = false) :
    Calls Tryd.prog 12 #[.agg #[.int .i64 m, .int .i64 p], .agg #[.int .i64 n, .int .i64 q]] w fun e w' => e = .returned (.tuple #[.agg #[.int .i64 0, .int .i64 0], .int .i64 140]) ∧ Below w.heap.size w w' := by
  have C1 := Lib.hid (fun W => check_any m p W)
  rw [chM_yes h] at C1
  have C2 := Lib.hid (fun W => check_any n q W)
  rw [chM_no g] at C2
  have P0 := Lib.hid (TA.new w m p n q)
  clear h g
  go_enter Tryd.func12, Tryd.ntmps12
  go_wp2_with fail
  refine (C1.out _).mono ?_
  rintro e w1 ⟨rfl, b⟩
  have P1 := Lib.hid (P0.out.up b)
  obtain ⟨⟨⟨d0, d1, -⟩, ⟨d2, d3, -⟩, -⟩, -⟩ := P1.out
  clear b
  go_wp2_with fail
  clear d0 d1 d2 d3
  refine (C2.out _).mono ?_
  rintro e w2 ⟨rfl, b⟩
  have P2 := Lib.hid (P1.out.up b)
  have P3 := Lib.hid (P2.out.2.set 0 0)
  obtain ⟨-, ⟨⟨c0, c1, -⟩, f0, f1⟩, -⟩ := P2.out
  clear b
  go_wp2_with fail
  exact ret_mt (N := w.heap.size + 1 + 1) (a := 0) (b := 0) Tryd.results12 (by rfl) (by rfl) P3.out.1.1.1 P3.out.1.1.2.1 ⟨rfl, P3.out.2⟩
theorem ad_fit {m p n q u : Int} {j : Nat} (h : may m p = true ∧ may n q = true) (hs : norm (vM m p + vM n q) 18 = (u, j)) : (in64 u = true → adM m p n q = u ∧ adS m p n q = j ∧ adE m p n q = 0) ∧ (in64 u = false → adM m p n q = 0 ∧ adS m p n q = 0 ∧ adE m p n q = 20) := by
  constructor
  · intro k
    obtain ⟨e1, e2, e3⟩ := ad_yes h.1 h.2 (by rw [hs]; exact k)
    rw [hs] at e1 e2
    exact ⟨e1, e2, e3⟩
  · intro k
    exact ad_over h.1 h.2 (by rw [hs]; exact k)
/-- Where the loop stands: what is left to norm. -/
def LA (w : World) (u : Int) (j : Nat) (f : Nat) (s8 s9 : Value) (W : World) : Prop := ∃ U : Int, norm U f = (u, j) ∧ s8 = .int .i64 f ∧ s9 = nv U ∧ (U.natAbs < M64 * M64 ∧ f ≤ 18) ∧ SA w W 0 0
set_option maxRecDepth 20000 in
theorem add_ok (m p n q : Int) (w : World) (h : may m p = true) (g : may n q = true) (a1 : -9223372036854775808 ≤ m) (a2 : m < 9223372036854775808) (b1 : -9223372036854775808 ≤ n) (b2 : n < 9223372036854775808) :
    Calls Tryd.prog 12 #[.agg #[.int .i64 m, .int .i64 p], .agg #[.int .i64 n, .int .i64 q]] w fun e w' => e = .returned (.tuple #[.agg #[.int .i64 (adM m p n q), .int .i64 (adS m p n q)], .int .i64 (adE m p n q)]) ∧ Below w.heap.size w w' := by
  have C1 := Lib.hid (fun W => check_any m p W)
  rw [chM_yes h] at C1
  have C2 := Lib.hid (fun W => check_any n q W)
  rw [chM_yes g] at C2
  obtain ⟨k, hk, h18, i1, i2, v1, v2⟩ := scale_both h g a1 a2 b1 b2
  have BO := Lib.hid (fun W => both_any m n p q k k rfl W i1 i2 hk h18)
  have u1 := up_bound k m p i1 h18
  have u2 := up_bound k n q i2 h18
  unfold up10 at BO
  obtain ⟨x, hx⟩ : ∃ x, x = m * 10 ^ (k - p.toNat) := ⟨_, rfl⟩
  obtain ⟨y, hy⟩ : ∃ y, y = n * 10 ^ (k - q.toNat) := ⟨_, rfl⟩
  rw [← hx] at BO u1 v1
  rw [← hy] at BO u2 v2
  have SM := Lib.hid (fun W => sum_any x y (nv y) (isSg_nv y) W u1 u2)
  obtain ⟨v, hv⟩ : ∃ v, v = x + y := ⟨_, rfl⟩
  rw [← hv] at SM
  have hvb : v.natAbs < M64 * M64 := by
    have e2 : M64 * M64 / 2 + M64 * M64 / 2 = M64 * M64 := by decide
    omega
  have HVB := Lib.hid hvb
  have hsum : norm (vM m p + vM n q) 18 = norm v k := by
    rw [v1, v2, ← Int.add_mul, ← hv]
    have := norm_pow v k (18 - k)
    rwa [show k + (18 - k) = 18 by omega] at this
  have H18 := Lib.hid h18
  obtain ⟨u, hu⟩ : ∃ u, u = (norm v k).1 := ⟨_, rfl⟩
  obtain ⟨j, hj⟩ : ∃ j, j = (norm v k).2 := ⟨_, rfl⟩
  have HN : Hid (norm v k = (u, j)) := Lib.hid (by rw [hu, hj])
  have HAD := Lib.hid (ad_fit ⟨h, g⟩ (hsum.trans HN.out))
  have HFIT := Lib.hid (fun W => fit_any u W)
  obtain ⟨X, hX⟩ : ∃ X, X = nv x := ⟨_, rfl⟩
  obtain ⟨Y, hY⟩ : ∃ Y, Y = nv y := ⟨_, rfl⟩
  obtain ⟨Z, hZ⟩ : ∃ Z, Z = nv v := ⟨_, rfl⟩
  have HZ := Lib.hid hZ
  rw [← hX, ← hY] at BO SM
  rw [← hZ] at SM
  obtain ⟨U, hU⟩ : ∃ U, U = nv u := ⟨_, rfl⟩
  have HU := Lib.hid hU
  rw [← hU] at HFIT
  obtain ⟨k', hk'⟩ : ∃ k' : Int, k' = k := ⟨_, rfl⟩
  have HK := Lib.hid hk'
  rw [← hk'] at BO
  have SZ := Lib.hid size_any
  have P0 := Lib.hid (TA.new w m p n q)
  obtain ⟨r1, hr1⟩ : ∃ r, r = adM m p n q := ⟨_, rfl⟩
  obtain ⟨r2, hr2⟩ : ∃ r, r = adS m p n q := ⟨_, rfl⟩
  obtain ⟨r3, hr3⟩ : ∃ r, r = adE m p n q := ⟨_, rfl⟩
  rw [← hr1, ← hr2, ← hr3] at HAD ⊢
  clear h g a1 a2 b1 b2 hk h18 i1 i2 v1 v2 u1 u2 hx hy hX hY hZ hv hk' hu hj hvb hsum hU hr1 hr2 hr3
  go_enter Tryd.func12, Tryd.ntmps12
  go_wp2_with fail
  refine (C1.out _).mono ?_
  rintro e w1 ⟨rfl, b⟩
  have P1 := Lib.hid (P0.out.up b)
  obtain ⟨⟨⟨d0, d1, -⟩, ⟨d2, d3, -⟩, -⟩, -⟩ := P1.out
  clear b
  go_wp2_with fail
  clear d0 d1 d2 d3
  refine (C2.out _).mono ?_
  rintro e w2 ⟨rfl, b⟩
  have P2 := Lib.hid (P1.out.up b)
  obtain ⟨⟨⟨d0, d1, -⟩, ⟨d2, d3, -⟩, -⟩, -⟩ := P2.out
  clear b
  go_wp2_with fail
  clear d0 d1 d2 d3
  refine (BO.out _).mono ?_
  rintro e w3 ⟨rfl, b⟩
  have P3 := Lib.hid (P2.out.up b)
  clear b
  go_wp2_with fail
  refine (SM.out _).mono ?_
  rintro e w4 ⟨rfl, b⟩
  have P4 := Lib.hid (P3.out.up b)
  clear b
  go_upto_block 0 with fail
  go_cut [8, 9] (fun s8 s9 wx => s8 = .int .i64 (j : Int) ∧ s9 = U ∧ SA w wx 0 0)
  case first =>
    go_wp2_with fail
    go_loopg [8, 9] k (fun f s8 s9 wr => LA w u j f s8 s9 wr)
    case atStart => exact ⟨v, HN.out, by rw [HK.out], HZ.out, ⟨HVB.out, H18.out⟩, P4.out.2⟩
    case round =>
      obtain ⟨V, hn, rfl, rfl, ⟨hb, hf18⟩, hsa⟩ := hrel
      have HN2 := Lib.hid hn
      have HB := Lib.hid hb
      have HSA := Lib.hid hsa
      clear hn hb hsa
      cases gk with
      | zero =>
        obtain ⟨Y2, hY2⟩ : ∃ Y, Y = nv V := ⟨_, rfl⟩
        have HY2 := Lib.hid hY2
        rw [← hY2]
        clear hY2
        go_wp2_with fail
        go_meet
        have h7 := Prod.mk.inj HN2.out
        exact ⟨by rw [← h7.2], by rw [HU.out, HY2.out]; rw [show V = u from h7.1], HSA.out⟩
      | succ g =>
      have hg : (g : Int) ≤ 18 := by omega
      clear hf18
      by_cases hneg : V < 0
      · skip
        obtain ⟨N, hN, hN0⟩ : ∃ N : Nat, V = -(N : Int) ∧ 0 < N := ⟨V.natAbs, by omega, by omega⟩
        subst hN
        have hNb : N < M64 * M64 := by have := HB.out; omega
        have TN := Lib.hid (fun W => tenth_any N W hNb)
        have hHN := HN2.out
        rw [nv_neg N rfl hN0]
        have t3 := meth65
        have t4 := as65_65
        unfold sz at TN ⊢
        obtain ⟨a, ha⟩ : ∃ a : Int, a = (hiW N : Nat) := ⟨_, rfl⟩
        obtain ⟨c, hc⟩ : ∃ a : Int, a = (loW N : Nat) := ⟨_, rfl⟩
        obtain ⟨a', ha'⟩ : ∃ a : Int, a = (hiW (N / 10) : Nat) := ⟨_, rfl⟩
        obtain ⟨c', hc'⟩ : ∃ a : Int, a = (loW (N / 10) : Nat) := ⟨_, rfl⟩
        obtain ⟨r, hr⟩ : ∃ a : Int, a = (N % 10 : Nat) := ⟨_, rfl⟩
        rw [← ha, ← hc, ← ha', ← hc', ← hr] at TN
        rw [← ha, ← hc]
        have HA := Lib.hid ha'
        have HC := Lib.hid hc'
        have HRR := Lib.hid hr
        have HNN := Lib.hid hNb
        have HAA := Lib.hid ha
        have HCC := Lib.hid hc
        have HN0 := Lib.hid hN0
        clear ha hc ha' hc' hr hHN hNb hN0
        go_wp2_with fail
        refine (SZ.out a c _).mono ?_
        rintro e w5 ⟨rfl, b⟩
        have S5 := Lib.hid (HSA.out.up b)
        clear b
        go_wp2_with fail
        refine (TN.out _).mono ?_
        rintro e w6 ⟨rfl, b⟩
        have S6 := Lib.hid (S5.out.up b)
        clear b
        by_cases hr0 : r = 0
        · subst hr0
          go_wp2_with fail
          go_roundg g
          case rel =>
            have h10 : N % 10 = 0 := by have := HRR.out; omega
            refine ⟨-((N / 10 : Nat) : Int), ?_, by go_num, ?_, ?_, (S6.out.up ((Below.refl _ _).alloc (Nat.le_refl _) _)).up ((Below.refl _ _).alloc (Nat.le_refl _) _)⟩
            · have := HN2.out
              rw [norm_more _ _ (by omega)] at this
              rwa [show -((N / 10 : Nat) : Int) = -(N : Int) / 10 by omega]
            · rw [nv_neg (N / 10) rfl (by have := HN0.out; omega)]; unfold sz; rw [HA.out, HC.out]
            · have := HNN.out; exact ⟨by omega, by omega⟩
          case measure => omega
        · have e5 : (r == 0) = false := beq_eq_false_iff_ne.2 hr0
          have e6 : decide (r = 0) = false := decide_eq_false hr0
          have HS := Lib.hid (norm_stop (-(N : Int)) g (by have := HRR.out; omega))
          clear hr0
          go_wp2_with fail
          go_meet
          have h7 := HN2.out
          rw [HS.out] at h7
          have h8 := Prod.mk.inj h7
          refine ⟨by rw [← h8.2]; go_num, ?_, S6.out.up ((Below.refl _ _).alloc (Nat.le_refl _) _)⟩
          rw [HU.out, ← h8.1, nv_neg N rfl HN0.out]; unfold sz; rw [HAA.out, HCC.out]
      · skip
        obtain ⟨N, hN⟩ : ∃ N : Nat, V = (N : Int) := ⟨V.natAbs, by omega⟩
        subst hN
        have hNb : N < M64 * M64 := by have := HB.out; omega
        have TN := Lib.hid (fun W => tenth_any N W hNb)
        have hHN := HN2.out
        rw [nv_pos N rfl]
        have t3 := meth67
        have t4 := as67_65
        unfold sz at TN ⊢
        obtain ⟨a, ha⟩ : ∃ a : Int, a = (hiW N : Nat) := ⟨_, rfl⟩
        obtain ⟨c, hc⟩ : ∃ a : Int, a = (loW N : Nat) := ⟨_, rfl⟩
        obtain ⟨a', ha'⟩ : ∃ a : Int, a = (hiW (N / 10) : Nat) := ⟨_, rfl⟩
        obtain ⟨c', hc'⟩ : ∃ a : Int, a = (loW (N / 10) : Nat) := ⟨_, rfl⟩
        obtain ⟨r, hr⟩ : ∃ a : Int, a = (N % 10 : Nat) := ⟨_, rfl⟩
        rw [← ha, ← hc, ← ha', ← hc', ← hr] at TN
        rw [← ha, ← hc]
        have HA := Lib.hid ha'
        have HC := Lib.hid hc'
        have HRR := Lib.hid hr
        have HNN := Lib.hid hNb
        have HAA := Lib.hid ha
        have HCC := Lib.hid hc
        clear ha hc ha' hc' hr hHN hNb
        go_wp2_with fail
        refine (SZ.out a c _).mono ?_
        rintro e w5 ⟨rfl, b⟩
        have S5 := Lib.hid (HSA.out.up b)
        clear b
        go_wp2_with fail
        refine (TN.out _).mono ?_
        rintro e w6 ⟨rfl, b⟩
        have S6 := Lib.hid (S5.out.up b)
        clear b
        by_cases hr0 : r = 0
        · subst hr0
          go_wp2_with fail
          go_roundg g
          case rel =>
            have h10 : N % 10 = 0 := by have := HRR.out; omega
            refine ⟨((N / 10 : Nat) : Int), ?_, by go_num, ?_, ?_, (S6.out.up ((Below.refl _ _).alloc (Nat.le_refl _) _)).up ((Below.refl _ _).alloc (Nat.le_refl _) _)⟩
            · have := HN2.out
              rw [norm_more _ _ (by omega)] at this
              rwa [show ((N / 10 : Nat) : Int) = (N : Int) / 10 by omega]
            · rw [nv_pos (N / 10) rfl]; unfold sz; rw [HA.out, HC.out]
            · have := HNN.out; exact ⟨by omega, by omega⟩
          case measure => omega
        · have e5 : (r == 0) = false := beq_eq_false_iff_ne.2 hr0
          have e6 : decide (r = 0) = false := decide_eq_false hr0
          have HS := Lib.hid (norm_stop ((N : Int)) g (by have := HRR.out; omega))
          clear hr0
          go_wp2_with fail
          go_meet
          have h7 := HN2.out
          rw [HS.out] at h7
          have h8 := Prod.mk.inj h7
          refine ⟨by rw [← h8.2]; go_num, ?_, S6.out.up ((Below.refl _ _).alloc (Nat.le_refl _) _)⟩
          rw [HU.out, ← h8.1, nv_pos N rfl]; unfold sz; rw [HAA.out, HCC.out]
  case rest =>
    obtain ⟨rfl, rfl, hsa⟩ := hcut
    have S5 := Lib.hid hsa
    clear hsa
    go_wp2_with fail
    refine (HFIT.out _).mono ?_
    rintro e w6 ⟨hf, b⟩
    have S6 := Lib.hid (S5.out.up b)
    clear b
    obtain ⟨⟨⟨c0, c1, -⟩, f0, f1⟩, -⟩ := S6.out
    rcases hf with ⟨l1, l2, rfl⟩ | ⟨l, z, rfl⟩
    · have HH := Lib.hid (HAD.out.1 ((in64_iff _).2 ⟨l1, l2⟩))
      have S7 := Lib.hid (S6.out.set u j)
      clear l1 l2
      go_wp2_with fail
      refine ret_mt (N := w.heap.size + 1 + 1) (a := u) (b := j) (v := .int .i64 0) Tryd.results12 (by rfl) (by rfl) S7.out.1.1.1 S7.out.1.1.2.1 ⟨?_, S7.out.2⟩
      rw [HH.out.1, HH.out.2.1, HH.out.2.2]
    · have HH := Lib.hid (HAD.out.2 (by cases hh : in64 u; rfl; exact absurd ((in64_iff _).1 hh) l))
      have S7 := Lib.hid (S6.out.set 0 0)
      clear l
      go_wp2_with fail
      refine ret_mt (N := w.heap.size + 1 + 1) (a := 0) (b := 0) (v := .int .i64 20) Tryd.results12 (by rfl) (by rfl) S7.out.1.1.1 S7.out.1.1.2.1 ⟨?_, S7.out.2⟩
      rw [HH.out.1, HH.out.2.1, HH.out.2.2]
theorem add_any (m p n q : Int) (w : World) (a1 : -9223372036854775808 ≤ m) (a2 : m < 9223372036854775808) (b1 : -9223372036854775808 ≤ n) (b2 : n < 9223372036854775808) :
    Calls Tryd.prog 12 #[.agg #[.int .i64 m, .int .i64 p], .agg #[.int .i64 n, .int .i64 q]] w fun e w' => e = .returned (.tuple #[.agg #[.int .i64 (adM m p n q), .int .i64 (adS m p n q)], .int .i64 (adE m p n q)]) ∧ Below w.heap.size w w' := by
  cases h : may m p with
  | false => obtain ⟨e1, e2, e3⟩ := ad_no (m := m) (p := p) (n := n) (q := q) (by rw [h]; rfl); rw [e1, e2, e3]; exact add_bad1 m p n q w h
  | true =>
    cases g : may n q with
    | false => obtain ⟨e1, e2, e3⟩ := ad_no (m := m) (p := p) (n := n) (q := q) (by rw [h, g]; rfl); rw [e1, e2, e3]; exact add_bad2 m p n q w h g
    | true => exact add_ok m p n q w h g a1 a2 b1 b2
end Go.Proofs.YtiikohbnfbpjeaaDoor

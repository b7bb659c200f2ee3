/- Layer 3: Plain of both, the code's Same, spoil. -/
import Derived.Test.YtfmgkndljppffaaR9
namespace Go.Proofs.Ytfmgkndljppffaa
open Go.RowKit Go.Maps
def enB (c : CR) : Bool := decide (c.k = 4) || decide (c.k = 5)
def plnB (g : Nat → CR) (n : Nat) : Bool := !((List.range n).any fun i => enB (g i)) && ckC g n
theorem pln_no {g : Nat → CR} {n i : Nat} (hi : i < n) (h : enB (g i) = true) : plnB g n = false := by
  unfold plnB
  rw [show ((List.range n).any fun i => enB (g i)) = true from List.any_eq_true.2 ⟨i, List.mem_range.2 hi, h⟩]
  rfl
theorem pln_yes {g : Nat → CR} {n : Nat} (h : ∀ j, j < n → enB (g j) = false) : plnB g n = ckC g n := by
  unfold plnB
  rw [show ((List.range n).any fun i => enB (g i)) = false from by
    rw [List.any_eq_false]
    intro j hj
    rw [h j (List.mem_range.1 hj)]; simp]
  rfl
theorem en_cases (c : CR) : (enB c = true ∧ c.k = 4) ∨ (enB c = true ∧ c.k = 5) ∨ (enB c = false ∧ c.k ≠ 4 ∧ c.k ≠ 5) := by
  unfold enB
  by_cases h4 : c.k = 4
  · exact .inl ⟨by simp [h4], h4⟩
  · by_cases h5 : c.k = 5
    · exact .inr (.inl ⟨by simp [h5], h5⟩)
    · exact .inr (.inr ⟨by simp [h4, h5], h4, h5⟩)
set_option maxRecDepth 20000 in
set_option maxHeartbeats 1000000 in
theorem rplain_any (a : Option Addr) (n cap : Nat) (g : Nat → CR) (w : World) (hv : CV w a n g) (hs : Sm n g) : Calls Try.prog 24 #[.slice a n cap] w fun e w' => e = .returned (.bool (plnB g n)) ∧ Below w.heap.size w w' := by
  have HM := Lib.hid (rmay_any a n cap g w hv hs.cw hs.nz hs.le)
  have hnm := hs.le
  unfold maxLen at hnm
  obtain ⟨x, hx⟩ : ∃ x, x = plnB g n := ⟨_, rfl⟩
  rw [← hx]
  replace hx := Lib.hid hx
  have HV := Lib.hid hv
  clear hv hs
  go_enter Try.func24, Try.ntmps24
  go_wp2_with fail
  go_loop [3] (fun v3 => ∃ i : Nat, i ≤ n ∧ v3 = .int .i64 i ∧ Hid (∀ j, j < i → enB (g j) = false)) (fun v3 => n - (intOf v3).toNat)
  case atStart => exact ⟨0, Nat.zero_le _, rfl, Lib.hid (fun j hj => by omega)⟩
  case round =>
    obtain ⟨i, hi, rfl, HN⟩ := hrel
    by_cases h1 : i < n
    · obtain ⟨b, off, rfl, _, c0, _, _, _, _⟩ := HV.out i h1
      have hg1 : (i : Int) < n := by omega
      have hg0 : (0 : Int) ≤ i := by omega
      have hec := en_cases (g i)
      have HBAD : Hid (enB (g i) = true → x = false) := Lib.hid (fun h => hx.out.trans (pln_no h1 h))
      have HOK : Hid (enB (g i) = false → ∀ j, j < i + 1 → enB (g j) = false) := Lib.hid (fun h j hj => by
        by_cases e : j = i
        · subst e; exact h
        · exact HN.out j (by omega))
      obtain ⟨kk, hkk⟩ : ∃ kk : Nat, kk = (g i).k := ⟨_, rfl⟩
      rw [← hkk] at c0 hec
      rcases hec with ⟨he, h4⟩ | ⟨he, h5⟩ | ⟨he, h4, h5⟩
      · have HX := Lib.hid (HBAD.out he)
        have g4 : ((kk : Int) == 4) = true := by rw [beq_iff_eq]; omega
        clear he h4 HBAD HOK HN hkk
        go_wp2_with fail
        go_ret
        exact ⟨ret_bool HX.out.symm, Below.refl _ _⟩
      · have HX := Lib.hid (HBAD.out he)
        have g4 : ((kk : Int) == 4) = false := by rw [beq_eq_false_iff_ne]; omega
        have g5 : ((kk : Int) == 5) = true := by rw [beq_iff_eq]; omega
        clear he h5 HBAD HOK HN hkk
        go_wp2_with fail
        go_ret
        exact ⟨ret_bool HX.out.symm, Below.refl _ _⟩
      · have HX := Lib.hid (HOK.out he)
        have g4 : ((kk : Int) == 4) = false := by rw [beq_eq_false_iff_ne]; omega
        have g5 : ((kk : Int) == 5) = false := by rw [beq_eq_false_iff_ne]; omega
        clear he h4 h5 HBAD HOK HN hkk
        go_wp2_with fail
        go_round
        case rel => exact ⟨i + 1, by omega, by go_num, HX⟩
        case measure => simp [intOf]; omega
    · have e1 : i = n := by omega
      subst e1
      have hge : ¬ ((i : Int) < i) := by omega
      have HX : Hid (x = ckC g i) := Lib.hid (by rw [hx.out]; exact pln_yes HN.out)
      clear HN
      go_wp2_with fail
      with_reducible refine HM.out.mono ?_
      rintro e w1 ⟨rfl, b1⟩
      have B1 := Lib.hid b1
      clear b1 HM
      go_wp2_with fail
      go_ret
      exact ⟨ret_bool HX.out.symm, B1.out⟩
set_option maxRecDepth 20000 in
set_option maxHeartbeats 1000000 in
theorem plain_any (a : Option Addr) (n cap : Nat) (g : Nat → CR) (w : World) (hv : CV w a n g) (hs : Sm n g) : Calls Try.prog 23 #[.slice a n cap] w fun e w' => e = .returned (.bool (plnB g n)) ∧ Below w.heap.size w w' := by
  have HM := Lib.hid (fun W (hV : CV W a n g) => cCheck_any a n cap g W hV hs.cw)
  have hnm := hs.le
  unfold maxLen at hnm
  obtain ⟨x, hx⟩ : ∃ x, x = plnB g n := ⟨_, rfl⟩
  rw [← hx]
  replace hx := Lib.hid hx
  have HV := Lib.hid hv
  clear hv hs
  go_enter Try.func23, Try.ntmps23
  go_wp2_with fail
  go_loopw [7] (fun v7 wr => ∃ i : Nat, i ≤ n ∧ v7 = .int .i64 i ∧ Hid (∀ j, j < i → enB (g j) = false) ∧ Hid (Below w.heap.size w wr)) (fun v7 _ => n - (intOf v7).toNat)
  case atStart => exact ⟨0, Nat.zero_le _, rfl, Lib.hid (fun j hj => by omega), Lib.hid (Below.refl _ _)⟩
  case round =>
    obtain ⟨i, hi, rfl, HN, HB⟩ := hrel
    by_cases h1 : i < n
    · obtain ⟨b, off, rfl, _, c0, c1, c2, c3, c4⟩ := (HV.out.below HB.out) i h1
      have hg1 : (i : Int) < n := by omega
      have hg0 : (0 : Int) ≤ i := by omega
      have hec := en_cases (g i)
      have HBAD : Hid (enB (g i) = true → x = false) := Lib.hid (fun h => hx.out.trans (pln_no h1 h))
      have HOK : Hid (enB (g i) = false → ∀ j, j < i + 1 → enB (g j) = false) := Lib.hid (fun h j hj => by
        by_cases e : j = i
        · subst e; exact h
        · exact HN.out j (by omega))
      obtain ⟨c, hc⟩ : ∃ c, c = g i := ⟨_, rfl⟩
      rw [← hc] at c0 c1 c2 c3 c4 hec HBAD HOK
      have HB2 : Hid (∀ o, Below w.heap.size w (wr.alloc o)) := Lib.hid (fun o => HB.out.alloc HB.out.size o)
      rcases hec with ⟨he, h4⟩ | ⟨he, h5⟩ | ⟨he, h4, h5⟩
      · have HX := Lib.hid (HBAD.out he)
        have g4 : ((c.k : Int) == 4) = true := by rw [beq_iff_eq]; omega
        clear he h4 HBAD HOK HN hc
        go_wp2_with fail
        go_ret
        exact ⟨ret_bool HX.out.symm, HB2.out _⟩
      · have HX := Lib.hid (HBAD.out he)
        have g4 : ((c.k : Int) == 4) = false := by rw [beq_eq_false_iff_ne]; omega
        have g5 : ((c.k : Int) == 5) = true := by rw [beq_iff_eq]; omega
        clear he h5 HBAD HOK HN hc
        go_wp2_with fail
        go_ret
        exact ⟨ret_bool HX.out.symm, HB2.out _⟩
      · have HX := Lib.hid (HOK.out he)
        have g4 : ((c.k : Int) == 4) = false := by rw [beq_eq_false_iff_ne]; omega
        have g5 : ((c.k : Int) == 5) = false := by rw [beq_eq_false_iff_ne]; omega
        clear he h4 h5 HBAD HOK HN hc
        go_wp2_with fail
        go_roundw
        case rel => exact ⟨i + 1, by omega, by go_num, HX, Lib.hid (HB2.out _)⟩
        case measure => simp [intOf]; omega
    · have e1 : i = n := by omega
      subst e1
      have hge : ¬ ((i : Int) < i) := by omega
      have HX : Hid (x = ckC g i) := Lib.hid (by rw [hx.out]; exact pln_yes HN.out)
      clear HN
      cases hck : ckC g i with
      | true =>
        rw [hck] at HM HX
        unfold eC at HM
        rw [if_pos rfl] at HM
        clear hck
        go_wp2_with fail
        with_reducible refine (HM.out wr (HV.out.below HB.out)).mono ?_
        rintro e w1 ⟨rfl, b1⟩
        have B1 := Lib.hid (HB.out.trans (b1.mono HB.out.size))
        clear b1 HM
        go_wp2_with fail
        go_ret
        exact ⟨ret_bool HX.out.symm, B1.out⟩
      | false =>
        rw [hck] at HM HX
        unfold eC at HM
        rw [if_neg (by decide)] at HM
        clear hck
        go_wp2_with fail
        with_reducible refine (HM.out wr (HV.out.below HB.out)).mono ?_
        rintro e w1 ⟨rfl, b1⟩
        have B1 := Lib.hid (HB.out.trans (b1.mono HB.out.size))
        clear b1 HM
        go_wp2_with fail
        go_ret
        exact ⟨ret_bool HX.out.symm, B1.out⟩
set_option maxRecDepth 20000 in
set_option maxHeartbeats 2000000 in
theorem csame_any (a1 a2 : Option Addr) (n1 n2 cp1 cp2 : Nat) (g1 g2 : Nat → CR) (w : World) (hv1 : CV w a1 n1 g1) (hv2 : CV w a2 n2 g2) (hn : n1 ≤ maxLen) : Calls Try.prog 25 #[.slice a1 n1 cp1, .slice a2 n2 cp2] w fun r w' => r = .returned (.bool (smB g1 n1 g2 n2)) ∧ Below w.heap.size w w' := by
  unfold maxLen at hn
  obtain ⟨x, hx⟩ : ∃ x, x = smB g1 n1 g2 n2 := ⟨_, rfl⟩
  rw [← hx]
  replace hx := Lib.hid hx
  by_cases he : n1 = n2
  · subst he
    have HV1 := Lib.hid hv1
    have HV2 := Lib.hid hv2
    clear hv1 hv2
    have hn' : (n1 : Int) ≤ 9223372036854775807 := by omega
    have hne : ((n1 : Int) != n1) = false := by simp
    go_enter Try.func25, Try.ntmps25
    go_wp2_with fail
    go_loopw [14] (fun v14 wr => ∃ i : Nat, i ≤ n1 ∧ v14 = .int .i64 i ∧ Hid (∀ j, j < i → g1 j = g2 j) ∧ Hid (Below w.heap.size w wr)) (fun v14 _ => n1 - (intOf v14).toNat)
    case atStart => exact ⟨0, Nat.zero_le _, rfl, Lib.hid (fun j hj => by omega), Lib.hid (Below.refl _ _)⟩
    case round =>
      obtain ⟨i, hi, rfl, HN, HB⟩ := hrel
      by_cases h1 : i < n1
      · obtain ⟨b, off, rfl⟩ := HV1.out.addr (by omega)
        obtain ⟨b', off', rfl⟩ := HV2.out.addr (by omega)
        obtain ⟨_, d0, d1, d2, d3, d4⟩ := (HV1.out.below HB.out).at_ h1
        have hg1 : (i : Int) < n1 := by omega
        have hg0 : (0 : Int) ≤ i := by omega
        obtain ⟨c, hc⟩ : ∃ c, c = g1 i := ⟨_, rfl⟩
        obtain ⟨d, hd⟩ : ∃ d, d = g2 i := ⟨_, rfl⟩
        rw [← hc] at d0 d1 d2 d3 d4
        have hq := neq_cell c d
        unfold cv at hq
        have hgd : ∀ (op : BinOp) (x y : Operand) (xs ys : Array Value) (W : World), (eqGuard op 32 x y (.agg xs) (.agg ys)).run Try.prog W = .ok () W := fun op x y xs ys W => run_eqGuard_agg W op _ x y xs ys (by kernel_rfl)
        by_cases hcd : c = d
        · have HN2 : Hid (∀ j, j < i + 1 → g1 j = g2 j) := Lib.hid (fun j hj => by
            by_cases e : j = i
            · subst e; rw [← hc, ← hd]; exact hcd
            · exact HN.out j (by omega))
          rw [decide_eq_true hcd] at hq
          have Hq := Lib.hid hq
          clear HN hc hcd hq
          go_wp2_with fail
          obtain ⟨w1, hw1⟩ : ∃ y, y = wr.alloc (.cells #[.int .u8 c.k, .string c.nm, .string c.tx, .int .i64 c.n, .int .i64 c.m] 32) := ⟨_, rfl⟩
          have x0 : w1.cell? ⟨wr.heap.size, 0, none⟩ = some (.int .u8 c.k) := by rw [hw1]; simp
          have x1 : w1.cell? ⟨wr.heap.size, 1, none⟩ = some (.string c.nm) := by rw [hw1]; simp
          have x2 : w1.cell? ⟨wr.heap.size, 2, none⟩ = some (.string c.tx) := by rw [hw1]; simp
          have x3 : w1.cell? ⟨wr.heap.size, 3, none⟩ = some (.int .i64 c.n) := by rw [hw1]; simp
          have x4 : w1.cell? ⟨wr.heap.size, 4, none⟩ = some (.int .i64 c.m) := by rw [hw1]; simp
          have HB1 : Hid (Below w.heap.size w w1) := Lib.hid (by rw [hw1]; exact HB.out.alloc HB.out.size _)
          rw [← hw1]
          clear hw1 d0 d1 d2 d3 d4 HB
          obtain ⟨_, e0, e1, e2, e3, e4⟩ := (HV2.out.below HB1.out).at_ h1
          rw [← hd] at e0 e1 e2 e3 e4
          have hq := Hq.out
          clear hd
          go_quiet (fail)
          go_wp2_with fail
          go_roundw
          case rel => exact ⟨i + 1, by omega, by go_num, HN2, Lib.hid (below_drewN0 HB1.out _)⟩
          case measure => simp [intOf]; omega
        · have HX : Hid (x = false) := Lib.hid (by rw [hx.out]; exact sm_no h1 (by rw [← hc, ← hd]; exact hcd))
          rw [decide_eq_false hcd] at hq
          have Hq := Lib.hid hq
          clear HN hc hcd hq
          go_wp2_with fail
          obtain ⟨w1, hw1⟩ : ∃ y, y = wr.alloc (.cells #[.int .u8 c.k, .string c.nm, .string c.tx, .int .i64 c.n, .int .i64 c.m] 32) := ⟨_, rfl⟩
          have x0 : w1.cell? ⟨wr.heap.size, 0, none⟩ = some (.int .u8 c.k) := by rw [hw1]; simp
          have x1 : w1.cell? ⟨wr.heap.size, 1, none⟩ = some (.string c.nm) := by rw [hw1]; simp
          have x2 : w1.cell? ⟨wr.heap.size, 2, none⟩ = some (.string c.tx) := by rw [hw1]; simp
          have x3 : w1.cell? ⟨wr.heap.size, 3, none⟩ = some (.int .i64 c.n) := by rw [hw1]; simp
          have x4 : w1.cell? ⟨wr.heap.size, 4, none⟩ = some (.int .i64 c.m) := by rw [hw1]; simp
          have HB1 : Hid (Below w.heap.size w w1) := Lib.hid (by rw [hw1]; exact HB.out.alloc HB.out.size _)
          rw [← hw1]
          clear hw1 d0 d1 d2 d3 d4 HB
          obtain ⟨_, e0, e1, e2, e3, e4⟩ := (HV2.out.below HB1.out).at_ h1
          rw [← hd] at e0 e1 e2 e3 e4
          have hq := Hq.out
          clear hd
          go_quiet (fail)
          go_wp2_with fail
          go_ret
          exact ⟨ret_bool HX.out.symm, below_drewN0 HB1.out _⟩
      · have e1 : i = n1 := by omega
        subst e1
        have HX : Hid (x = true) := Lib.hid (by rw [hx.out]; exact sm_yes HN.out)
        have hg1 : ¬ (i : Int) < i := by omega
        clear HN
        go_wp2_with fail
        go_ret
        exact ⟨ret_bool HX.out.symm, HB.out⟩
  · have HX : Hid (x = false) := Lib.hid (by rw [hx.out]; unfold smB; rw [decide_eq_false he]; rfl)
    have hne : ((n1 : Int) != n2) = true := by simp; omega
    clear he
    go_enter Try.func25, Try.ntmps25
    go_wp2_with fail
    go_ret
    exact ⟨ret_bool HX.out.symm, Below.refl _ _⟩
theorem grown_set' (W : World) (q o : Nat) (v : Value) : W.grownBy (W.setCell ⟨q, o, none⟩ v) (some q) :=
  ⟨rfl, rfl, rfl, by simp [World.setCell], fun i _ hne => RowKit.Below.heap_setCell _ _ _ _ (fun e => hne (by rw [show i = q from e]))⟩
theorem own_set4 {w : World} {B q n cap i : Nat} {xs : List Value} (h : w.ownsRow B 32 5 (.slice (some ⟨q, 0, none⟩) n cap) n xs) (hi : i < n) (v : Value) :
    (w.setCell ⟨q, i * 5 + 4, none⟩ v).ownsRow B 32 5 (.slice (some ⟨q, 0, none⟩) n cap) n (xs.set (i * 5 + 4) v) := by
  refine ⟨by rw [List.length_set]; exact h.1, ?_⟩
  rcases h.2 with ⟨h', _⟩ | ⟨g', cap', cur, h', hb, hg, h1, h2, h3, h4⟩
  · simp at h'
  · simp only [Value.slice.injEq, Option.some.injEq, Addr.mk.injEq, and_true, true_and] at h'
    obtain ⟨rfl, rfl⟩ := h'
    refine .inr ⟨q, cap, cur.setIfInBounds (i * 5 + 4) v, rfl, hb, ?_, h1, h2, by simpa using h3, ?_⟩
    · simp [World.setCell, Array.getElem?_modify, hg]
    · rw [Array.toList_setIfInBounds, List.take_set, h4]
theorem own_cell4 {w : World} {B q n cap i : Nat} {xs : List Value} (h : w.ownsRow B 32 5 (.slice (some ⟨q, 0, none⟩) n cap) n xs) (hi : i < n) : (∃ x, w.cell? ⟨q, i * 5 + 4, none⟩ = some x) ∧ w.frozen? ⟨q, i * 5 + 4, none⟩ = false := by
  refine ⟨?_, ?_⟩
  · rw [h.cellAt _ (by have := h.1; omega)]
    exact ⟨_, List.getElem?_eq_getElem (by have := h.1; omega)⟩
  · rcases h.2 with ⟨h', _⟩ | ⟨g', cap', cur, h', hb, hg, h1, h2, h3, h4⟩
    · simp at h'
    · simp only [Value.slice.injEq, Option.some.injEq, Addr.mk.injEq, and_true, true_and] at h'
      obtain ⟨rfl, rfl⟩ := h'
      simp [World.frozen?, hg]
set_option maxRecDepth 20000 in
set_option maxHeartbeats 1000000 in
theorem spoil_any (v : Value) (n B : Nat) (xs : List Value) (w : World) (ho : w.ownsRow B 32 5 v n xs) (hn : n ≤ 10000000) : Calls Try.prog 27 #[v] w fun e w' => e = .returned (.tuple #[]) ∧ w.grownBy w' v.ownBlock := by
  by_cases h0 : n = 0
  · subst h0
    obtain ⟨a, c, rfl⟩ : ∃ a c, v = .slice a 0 c := by
      rcases ho.2 with ⟨rfl, _⟩ | ⟨q, cap, cur, rfl, _⟩
      · exact ⟨none, 0, rfl⟩
      · exact ⟨_, _, rfl⟩
    clear ho
    go_enter Try.func27, Try.ntmps27
    go_wp2_with fail
    refine wp_loop_rounds 1 ?_
    rw [rounds_succ]
    go_wp2_with fail
    go_end0
    exact ⟨rfl, grown_refl _ _⟩
  · obtain ⟨q, c, rfl, hq, hq2⟩ := own_addr ho (by omega)
    have hnn : (n : Int) ≤ 10000000 := by omega
    have HO := Lib.hid ho
    clear ho h0
    go_enter Try.func27, Try.ntmps27
    go_wp2_with fail
    go_loopw [2] (fun v2 wr => ∃ (i : Nat) (ys : List Value), i ≤ n ∧ v2 = .int .i64 i ∧ Hid (wr.ownsRow B 32 5 (.slice (some ⟨q, 0, none⟩) n c) n ys) ∧ Hid (w.grownBy wr (some q))) (fun v2 _ => n - (intOf v2).toNat)
    case atStart => exact ⟨0, xs, Nat.zero_le _, rfl, HO, Lib.hid (grown_refl _ _)⟩
    case round =>
      obtain ⟨i, ys, hi, rfl, HY, HG⟩ := hrel
      by_cases hlt : i < n
      · obtain ⟨⟨x, hx⟩, hf⟩ := own_cell4 HY.out hlt
        have hg1 : (i : Int) < n := by omega
        have hg0 : (0 : Int) ≤ i := by omega
        have HY2 := Lib.hid (own_set4 HY.out hlt (.int .i64 (-7)))
        have HG2 := Lib.hid (HG.out.trans (grown_set' wr q (i * 5 + 4) (.int .i64 (-7))))
        clear HY HG
        go_wp2_with fail
        go_roundw
        case rel => exact ⟨i + 1, _, by omega, by go_num, HY2, HG2⟩
        case measure => simp [intOf]; omega
      · have e1 : i = n := by omega
        subst e1
        have hge : ¬ ((i : Int) < i) := by omega
        go_wp2_with fail
        go_end0
        exact ⟨rfl, HG.out⟩
end Go.Proofs.Ytfmgkndljppffaa

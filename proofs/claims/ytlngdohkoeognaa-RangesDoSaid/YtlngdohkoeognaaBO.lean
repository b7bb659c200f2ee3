/- Layer 6: ranges by their numbers (the statements' set); the same ranges (Same, slices.Equal). -/
import Derived.Test.YtlngdohkoeognaaBN
namespace Go.Proofs.Ytlngdohkoeognaa
open Go.RowKit Go.Maps
/-- The first k pairs of a row of numbers. -/
def prs (M : List Int) (k : Nat) : List Rg := (List.range k).map fun j => (gI M (2 * j), gI M (2 * j + 1))
theorem prs_succ (M : List Int) (k : Nat) : prs M (k + 1) = prs M k ++ [(gI M (2 * k), gI M (2 * k + 1))] := by
  unfold prs
  rw [List.range_succ, List.map_append]; rfl
theorem prs_len (M : List Int) (k : Nat) : (prs M k).length = k := by simp [prs]
theorem step_append {P : Program} {ops : Array Oper} {o : Oper} {a : Act} {w : World} {K : Act → World → Prop} {Q : Exit → Act → World → Prop} {E : Prop}
    (hg : o.guard = none) (s x : Operand) (t : TypeId) (hop : o.op = Op.call { callee := Callee.builtin Builtin.append, args := #[s, x], argTypes := #[t, t] })
    (e : TypeId) (i : TypeInfo) (z : Value) (size bytes : Nat) (h1 : P.underlying t = some (.slice e)) (h2 : P.info? e = some i) (h3 : i.zero = some z) (h4 : i.size = size) (h5 : i.bytes = bytes) (h6 : z.cells.size = size) (h7 : 0 < size)
    (B : Nat) (v : Value) (n : Nat) (olds : List Value) (hs : a.eval s = v) (hown : w.ownsRow B e size v n olds)
    (ad : Addr) (m c : Nat) (news : List Value) (hx : a.eval x = .slice (some ad) m c) (hn : news.length = m * size) (hc : ∀ j u, news[j]? = some u → w.cell? (ad.add j) = some u) (h1c : ∀ u ∈ news, u.oneCell' = true)
    (b1 : n + m ≤ maxLen) (b2 : (n + m) * bytes ≤ 140737488355328) (hB : B ≤ w.heap.size)
    (hK : ∀ v' w', w'.ownsRow B e size v' (n + m) (olds ++ news) → w.grownBy w' v.ownBlock → K (a.put o.dst v') w') :
    if Region.wanted o (yielded ops a.tmps) = true then Oper.wp P o a w K Q else E := by
  have hw : Region.wanted o (yielded ops a.tmps) = true := by simp [Region.wanted, hg]
  rw [if_pos hw]
  obtain ⟨v', w', hrun, r1, r2, _⟩ := run_append_own (P := P) w B t o.type e i z size bytes h1 h2 h3 h4 h5 h6 h7 v n olds hown ad m c news hn hc h1c b1 b2 hB
  unfold Oper.wp
  simp [execOp, hop, resolve, invoke, builtin, hs, hx, hrun, Result.andThen]
  exact hK v' w' r1 r2
set_option maxRecDepth 20000 in
theorem set_any (b off c : Nat) (M : List Int) (m : Nat) (w : World) (hv : IV w (some ⟨b, off, none⟩) M) (hm : M.length = 2 * m) (hs : m ≤ 1000) :
    Calls Try.prog 10 #[.slice (some ⟨b, off, none⟩) M.length c] w (ConcatPost w (prs M m)) := by
  obtain ⟨i0, hi, hz0, hz1, hz2⟩ := infoR
  obtain ⟨n, hn⟩ : ∃ n, n = M.length := ⟨_, rfl⟩
  rw [← hn] at hm ⊢
  have HN := Lib.hid hn
  have HV := Lib.hid hv
  have HM := Lib.hid hm
  have hn3 : (n : Int) ≤ 2000 := by omega
  have hn4 : n ≤ 2000 := by omega
  clear hv hm hn
  go_enter Try.func10, Try.ntmps10
  go_wp2_with fail
  go_loopw [3, 4] (fun u i wr => ∃ (k j : Nat) (v : Value), k ≤ m ∧ j = 2 * k ∧ i = .int .i64 (j : Nat) ∧ v = u ∧ Own wr w.heap.size v (prs M k) ∧ Below w.heap.size w wr) (fun _ i _ => n - (intOf i).toNat)
  case atStart => exact ⟨0, 0, _, by omega, rfl, rfl, rfl, Own.nil _ _, Below.refl _ _⟩
  case round =>
    obtain ⟨k, j, v, hk, hj, rfl, rfl, ho, hb⟩ := hrel
    have HO := Lib.hid ho
    have HB := Lib.hid hb
    have HJ := Lib.hid hj
    have hjn : (j : Int) ≤ 2000 := by have := HM.out; omega
    have hwr1 : IntKind.i64.wrap ((j : Int) + 1) = (j : Int) + 1 := by rw [IntKind.wrap_i64]; omega
    have hwr2 : IntKind.i64.wrap ((j : Int) + 2) = (j : Int) + 2 := by rw [IntKind.wrap_i64]; omega
    have htn : ((j : Int) + 1).toNat = j + 1 := by omega
    by_cases hlt : j + 1 < n
    · obtain ⟨hbb, c0⟩ := (HV.out.below hb).at_ (i := j) (by rw [← HN.out]; omega)
      obtain ⟨_, c1⟩ := (HV.out.below hb).at_ (i := j + 1) (by rw [← HN.out]; omega)
      obtain ⟨x, hx⟩ : ∃ x, x = gI M j := ⟨_, rfl⟩
      obtain ⟨y, hy⟩ : ∃ x, x = gI M (j + 1) := ⟨_, rfl⟩
      rw [← hx] at c0
      rw [← hy] at c1
      have c1' : wr.cell? ⟨b, off + j + 1, none⟩ = some (.int .i64 y) := c1
      have HP : Hid (prs M (k + 1) = prs M k ++ [(x, y)]) := Lib.hid (by rw [prs_succ, hx, hy, hj])
      have hlt1 : (j : Int) + 1 < (n : Int) := by omega
      have hlt0 : (j : Int) < (n : Int) := by omega
      have hj0 : (0 : Int) ≤ (j : Int) := by omega
      have hj1 : (0 : Int) ≤ (j : Int) + 1 := by omega
      have HK2 : Hid (k + 1 ≤ m ∧ k ≤ 1000) := Lib.hid (by have := HM.out; omega)
      obtain ⟨xs, hxs⟩ : ∃ xs, xs = rw2 (prs M k) := ⟨_, rfl⟩
      have HOW : Hid ((wr.drew.alloc (.cells #[.int .i64 x, .int .i64 y] 48)).ownsRow w.heap.size 48 2 v k xs) := Lib.hid (by
        have h := HO.out
        unfold Own at h
        rw [prs_len, ← hxs] at h
        exact h.drew.alloc _)
      have HXS := Lib.hid hxs
      have HNW : Hid (∀ j u, ([.int .i64 x, .int .i64 y] : List Value)[j]? = some u → (wr.drew.alloc (.cells #[.int .i64 x, .int .i64 y] 48)).cell? ((⟨wr.heap.size, 0, none⟩ : Addr).add j) = some u) := Lib.hid (news_at wr.drew #[.int .i64 x, .int .i64 y] 48 [.int .i64 x, .int .i64 y] rfl)
      have HBW : Hid (Below w.heap.size w (wr.drew.alloc (.cells #[.int .i64 x, .int .i64 y] 48))) := Lib.hid (HB.out.drew.alloc HB.out.size _)
      have H1 := Lib.hid (one2 x y)
      have hle : w.heap.size ≤ wr.heap.size := hb.size
      have HJ2 : Hid (j + 2 = 2 * (k + 1)) := Lib.hid (by omega)
      clear ho hb hx hy hj hxs hbb
      go_wp2_with fail
      go_region_law (refine step_append rfl (.tmp 12) (.tmp 23) 22 rfl 48 i0 (.agg #[.int .i64 0, .int .i64 0]) 2 16 Try.underlying22 hi hz0 hz1 hz2 rfl (by decide) w.heap.size v k xs (by simp [Act.eval]) HOW.out ⟨wr.heap.size, 0, none⟩ 1 1 [.int .i64 x, .int .i64 y] (by simp [Act.eval]) rfl HNW.out H1.out (by have := HK2.out; unfold maxLen; omega) (by have := HK2.out; omega) (by show w.heap.size ≤ (wr.heap.push _).size; simp; omega) ?_; intro v' w' ho hg)
      all_goals (go_wp2_with fail)
      all_goals exact ⟨⟨k + 1, j + 2, v', HK2.out.1, HJ2.out, by go_num, rfl, by rw [HP.out]; unfold Own; rw [List.length_append, prs_len, rw2_app, ← HXS.out]; exact ho, HBW.out.grown hg (by show w.heap.size ≤ (wr.heap.push _).size; simp; omega) (fun q hq => (HOW.out.lt q hq).1)⟩, by simp [intOf]; omega⟩
    · have e9 : k = m := by have := HM.out; omega
      subst e9
      have hlt1 : ¬ (j : Int) + 1 < (n : Int) := by omega
      clear ho hb hj
      go_wp2_with fail
      go_ret
      exact ⟨_, rfl, HO.out, HB.out⟩
set_option maxRecDepth 20000 in
theorem equal_any (a1 a2 : Option Addr) (c1 c2 : Nat) (L M : List Rg) (w : World) (hv1 : RV w a1 L) (hv2 : RV w a2 M) (hn : L.length ≤ maxLen) : Calls Try.prog 47 #[.slice a1 L.length c1, .slice a2 M.length c2] w fun r w' => r = .returned (.bool (decide (L = M))) ∧ Below w.heap.size w w' := by
  unfold maxLen at hn
  obtain ⟨x, hx⟩ : ∃ x, x = decide (L = M) := ⟨_, rfl⟩
  rw [← hx]
  replace hx := Lib.hid hx
  have HV1 := Lib.hid hv1
  have HV2 := Lib.hid hv2
  obtain ⟨n1, hn1⟩ : ∃ n, n = L.length := ⟨_, rfl⟩
  obtain ⟨n2, hn2⟩ : ∃ n, n = M.length := ⟨_, rfl⟩
  rw [← hn1, ← hn2]
  rw [← hn1] at hn
  have HN1 := Lib.hid hn1
  have HN2 := Lib.hid hn2
  clear hv1 hv2 hn1 hn2
  by_cases he : n1 = n2
  · subst he
    have hn' : (n1 : Int) ≤ 9223372036854775807 := by omega
    have hne : ((n1 : Int) != n1) = false := by simp
    go_enter Try.func47, Try.ntmps47
    go_wp2_with fail
    go_loopw [13] (fun v5 wr => ∃ i : Nat, i ≤ n1 ∧ v5 = .int .i64 i ∧ Hid (∀ j, j < i → gR L j = gR M j) ∧ Hid (Below w.heap.size w wr)) (fun v5 _ => n1 - (intOf v5).toNat)
    case atStart => exact ⟨0, Nat.zero_le _, rfl, Lib.hid (fun j hj => by omega), Lib.hid (Below.refl _ _)⟩
    case round =>
      obtain ⟨i, hi, rfl, HN, HB⟩ := hrel
      by_cases h1 : i < n1
      · obtain ⟨b, off, rfl⟩ := HV1.out.addr (by rw [← HN1.out]; omega)
        obtain ⟨b', off', rfl⟩ := HV2.out.addr (by rw [← HN2.out]; omega)
        obtain ⟨_, d0, d1⟩ := (HV1.out.below HB.out).at_ (i := i) (by rw [← HN1.out]; exact h1)
        obtain ⟨_, e0, e1⟩ := (HV2.out.below HB.out).at_ (i := i) (by rw [← HN2.out]; exact h1)
        have hg1 : (i : Int) < n1 := by omega
        have hg0 : (0 : Int) ≤ i := by omega
        obtain ⟨p, hp⟩ : ∃ c, c = (gR L i).1 := ⟨_, rfl⟩
        obtain ⟨q, hq'⟩ : ∃ c, c = (gR L i).2 := ⟨_, rfl⟩
        obtain ⟨r, hr⟩ : ∃ c, c = (gR M i).1 := ⟨_, rfl⟩
        obtain ⟨s, hs'⟩ : ∃ c, c = (gR M i).2 := ⟨_, rfl⟩
        rw [← hp] at d0
        rw [← hq'] at d1
        rw [← hr] at e0
        rw [← hs'] at e1
        have HP : Hid (gR L i = (p, q)) := Lib.hid (by rw [hp, hq'])
        have HQ : Hid (gR M i = (r, s)) := Lib.hid (by rw [hr, hs'])
        have hq := neq_rng p q r s
        have hgd : ∀ (op : BinOp) (x y : Operand) (xs ys : Array Value) (W : World), (eqGuard op 48 x y (.agg xs) (.agg ys)).run Try.prog W = .ok () W := fun op x y xs ys W => run_eqGuard_agg W op _ x y xs ys (by kernel_rfl)
        by_cases hcd : ((p, q) : Rg) = (r, s)
        · have HN2' : Hid (∀ j, j < i + 1 → gR L j = gR M j) := Lib.hid (upto_next HN.out (by rw [HP.out, HQ.out]; exact hcd))
          rw [decide_eq_true hcd] at hq
          clear HN hp hq' hr hs' hcd
          go_wp2_with fail
          go_quiet (fail)
          go_wp2_with fail
          go_roundw
          case rel => exact ⟨i + 1, by omega, by go_num, HN2', Lib.hid ⟨HB.out.os, HB.out.tape, HB.out.output, HB.out.size, HB.out.block⟩⟩
          case measure => simp [intOf]; omega
        · have HX : Hid (x = false) := Lib.hid (by
            rw [hx.out]
            refine decide_eq_false (fun e => hcd ?_)
            rw [← HP.out, ← HQ.out, e])
          rw [decide_eq_false hcd] at hq
          clear HN hp hq' hr hs' hcd
          go_wp2_with fail
          go_quiet (fail)
          go_wp2_with fail
          go_ret
          exact ⟨ret_bool HX.out.symm, ⟨HB.out.os, HB.out.tape, HB.out.output, HB.out.size, HB.out.block⟩⟩
      · have e1 : i = n1 := by omega
        subst e1
        have HX : Hid (x = true) := Lib.hid (by rw [hx.out]; exact decide_eq_true (gR_ext (by rw [← HN1.out, ← HN2.out]) (fun j hj => HN.out j (by rw [HN1.out]; exact hj))))
        have hg1 : ¬ (i : Int) < i := by omega
        clear HN
        go_wp2_with fail
        go_ret
        exact ⟨ret_bool HX.out.symm, HB.out⟩
  · have HX : Hid (x = false) := Lib.hid (by rw [hx.out]; exact decide_eq_false (fun e => he (by rw [HN1.out, HN2.out, e])))
    have hne : ((n1 : Int) != n2) = true := by simp; omega
    go_enter Try.func47, Try.ntmps47
    go_wp2_with fail
    go_ret
    exact ⟨ret_bool HX.out.symm, Below.refl _ _⟩
theorem same_any (v1 v2 : Value) (L M : List Rg) (w : World) (h1 : SlR w v1 L) (h2 : SlR w v2 M) : Calls Try.prog 27 #[v1, v2] w fun r w' => r = .returned (.bool (decide (L = M))) ∧ Below w.heap.size w w' := by
  obtain ⟨a1, c1, rfl, r1, l1, m1, _⟩ := h1
  obtain ⟨a2, c2, rfl, r2, l2, m2, _⟩ := h2
  have HC := Lib.hid (equal_any a1 a2 c1 c2 L M w r1 r2 (Nat.le_trans l1 m1))
  generalize decide (L = M) = x at HC ⊢
  clear r1 r2 l1 m1 l2 m2
  go_enter Try.func27, Try.ntmps27
  go_wp2_with fail
  refine HC.out.mono ?_
  rintro e w1 ⟨rfl, b1⟩
  go_wp2_with fail
  go_ret
  exact ⟨rfl, b1⟩
theorem rsame_slr (v1 v2 : Value) (L M : List Rg) (w : World) (h1 : SlR w v1 L) (h2 : SlR w v2 M) : Calls Try.prog 23 #[v1, v2] w fun r w' => r = .returned (.bool (decide (L = M))) ∧ Below w.heap.size w w' := by
  obtain ⟨a1, c1, rfl, r1, l1, m1, _⟩ := h1
  obtain ⟨a2, c2, rfl, r2, l2, m2, _⟩ := h2
  exact rsame_any a1 a2 c1 c2 L M w r1 r2 (Nat.le_trans l1 m1)
theorem has_slr (v : Value) (L : List Rg) (n : Int) (w : World) (h : SlR w v L) : Calls Try.prog 25 #[v, .int .i64 n] w fun e w' => e = .returned (.bool (hs L n)) ∧ Below w.heap.size w w' := by
  obtain ⟨a1, c1, rfl, r1, l1, m1, _⟩ := h
  exact has_any a1 c1 L n w r1 (Nat.le_trans l1 m1)
theorem check_slr (v : Value) (L : List Rg) (w : World) (h : SlR w v L) : Calls Try.prog 15 #[v] w fun e w' => e = .returned (.int .i64 (eR (ckL L))) ∧ Below w.heap.size w w' := by
  obtain ⟨a1, c1, rfl, r1, _⟩ := h
  exact check_any a1 c1 L w r1
theorem iv_new (w : World) (M : List Int) : IV (w.alloc (.cells (rI M).toArray 3)) (some ⟨w.heap.size, 0, none⟩) M := by
  intro i hi
  have hc := news_at w (rI M).toArray 3 (rI M) rfl i _ (rI_at M i hi)
  rw [Addr.add_lit] at hc
  exact ⟨w.heap.size, 0, rfl, by simp, hc⟩
/-- The ranges of a literal's numbers. -/
theorem set_lit (M : List Int) (m : Nat) (w : World) (hm : M.length = 2 * m) (hs : m ≤ 1000) :
    Calls Try.prog 10 #[.slice (some ⟨w.heap.size, 0, none⟩) M.length M.length] (w.alloc (.cells (rI M).toArray 3)) fun e w' => ∃ v, e = .returned v ∧ SlR w' v (prs M m) ∧ Below w.heap.size w w' := by
  refine (set_any w.heap.size 0 M.length M m _ (iv_new w M) hm hs).mono ?_
  rintro e w' ⟨v, rfl, o, b⟩
  exact ⟨v, rfl, o.slr, ((Below.refl _ w).alloc (Nat.le_refl _) _).trans (b.mono (by simp))⟩
end Go.Proofs.Ytlngdohkoeognaa

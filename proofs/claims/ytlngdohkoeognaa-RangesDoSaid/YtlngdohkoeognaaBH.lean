/- Layer 6: a range put behind others (touch), and all of a list (fold). -/
import Derived.Test.YtlngdohkoeognaaBG
import Derived.StillTailTactics
namespace Go.Proofs.Ytlngdohkoeognaa
open Go.RowKit Go.Maps
def TouchPost (w0 : World) (acc : List Rg) (e : Ending) (w' : World) : Prop := ∃ v', e = .returned v' ∧ Own w' w0.heap.size v' acc.reverse ∧ Below w0.heap.size w0 w'
theorem tch_nil (r : Rg) : tch [] r = [r] := rfl
theorem tch_new {m r : Rg} {t : List Rg} (h : m.2 + 1 < r.1) : tch (m :: t) r = r :: m :: t := if_pos h
theorem tch_old {m r : Rg} {t : List Rg} (h : ¬ m.2 + 1 < r.1) : tch (m :: t) r = (m.1, max m.2 r.2) :: t := if_neg h
theorem rev_cons_len (m : Rg) (t : List Rg) : (m :: t).reverse.length = t.length + 1 := by simp
theorem rw2_last (m : Rg) (t : List Rg) : rw2 (m :: t).reverse = rw2 t.reverse ++ [.int .i64 m.1, .int .i64 m.2] := by
  rw [List.reverse_cons, rw2_app]; rfl
theorem rw2_set (m : Rg) (t : List Rg) (x : Int) : (rw2 (m :: t).reverse).set (t.length * 2 + 1) (.int .i64 x) = rw2 ((m.1, x) :: t).reverse := by
  rw [rw2_last, rw2_last, List.set_append_right _ _ (by rw [rw2_len]; simp), rw2_len, List.length_reverse]
  rw [show t.length * 2 + 1 - t.length * 2 = 1 by omega]
  rfl
theorem rw2_lastAt (m : Rg) (t : List Rg) : (rw2 (m :: t).reverse)[t.length * 2 + 1]? = some (.int .i64 m.2) := by
  rw [rw2_last, List.getElem?_append_right (by rw [rw2_len]; simp), rw2_len, List.length_reverse, show t.length * 2 + 1 - t.length * 2 = 1 by omega]
  rfl
theorem own_cons {w : World} {B : Nat} {v : Value} {m : Rg} {t : List Rg} (h : Own w B v (m :: t).reverse) : ∃ q cap, v = .slice (some ⟨q, 0, none⟩) (t.length + 1) cap ∧ B ≤ q ∧ q < w.heap.size ∧ cap ≤ maxLen ∧ t.length + 1 ≤ cap ∧ w.cell? ⟨q, t.length * 2 + 1, none⟩ = some (.int .i64 m.2) ∧ w.frozen? ⟨q, t.length * 2 + 1, none⟩ = false := by
  have hh := h
  unfold Own at hh
  rw [rev_cons_len] at hh
  rcases hh.2 with ⟨_, hn⟩ | ⟨q, cap, cur, rfl, hg, hgg, h1, h2, h3, h4⟩
  · omega
  · exact ⟨q, cap, rfl, hg, (Array.getElem?_eq_some_iff.1 hgg).1, h2, h1, by rw [hh.cellAt _ (by omega)]; exact rw2_lastAt m t, hh.frozenAt _⟩
theorem own_put {w w0 : World} {q cap : Nat} {m : Rg} {t : List Rg} (h : Own w w0.heap.size (.slice (some ⟨q, 0, none⟩) (t.length + 1) cap) (m :: t).reverse) (hb : Below w0.heap.size w0 w) (x : Int) :
    Own (w.setCell ⟨q, t.length * 2 + 1, none⟩ (.int .i64 x)) w0.heap.size (.slice (some ⟨q, 0, none⟩) (t.length + 1) cap) ((m.1, x) :: t).reverse ∧ Below w0.heap.size w0 (w.setCell ⟨q, t.length * 2 + 1, none⟩ (.int .i64 x)) := by
  have hh := h
  unfold Own at hh
  rw [rev_cons_len] at hh
  obtain ⟨k1, k2⟩ := hh.stored (t.length * 2 + 1) (.int .i64 x)
  refine ⟨?_, hb.grown k2 hb.size (fun k e => by cases e; exact (h.lt q rfl).1)⟩
  unfold Own
  rw [rev_cons_len, ← rw2_set]
  exact k1
theorem news2 (w : World) (o : Obj) (x y : Int) : ∀ j u, ([.int .i64 x, .int .i64 y] : List Value)[j]? = some u → ((w.alloc o).alloc (.cells #[.int .i64 x, .int .i64 y] 48)).cell? ((⟨w.heap.size + 1, 0, none⟩ : Addr).add j) = some u := by
  have h := news_at (w.alloc o) #[.int .i64 x, .int .i64 y] 48 [.int .i64 x, .int .i64 y] rfl
  simpa using h
theorem one2 (x y : Int) : ∀ u ∈ ([.int .i64 x, .int .i64 y] : List Value), u.oneCell' = true := by
  intro u hu
  simp at hu
  rcases hu with rfl | rfl <;> rfl
theorem grown_below {w0 w w1 : World} {v : Value} {n s : Nat} {e : TypeId} {xs : List Value} (hb : Below w0.heap.size w0 w) (ho : w.ownsRow w0.heap.size e s v n xs) (hg : w.grownBy w1 v.ownBlock) : Below w0.heap.size w0 w1 :=
  hb.grown hg hb.size (fun q hq => (ho.lt q hq).1)
set_option maxRecDepth 20000 in
theorem touch_nil {w0 : World} (v : Value) (x y : Int) (w : World) (hb : Below w0.heap.size w0 w) (ho : Own w w0.heap.size v []) :
    Calls Try.prog 57 #[v, .agg #[.int .i64 x, .int .i64 y]] w (TouchPost w0 [(x, y)]) := by
  obtain ⟨i0, hi, hz0, hz1, hz2⟩ := infoR
  obtain ⟨ad, cap, rfl, hcap, _, hnn⟩ := ho.view
  obtain ⟨W1, hW1⟩ : ∃ W, W = w.alloc (.cells #[.int .i64 x, .int .i64 y] 48) := ⟨_, rfl⟩
  have HBW1 : Hid (Below w0.heap.size w0 W1) := Lib.hid (by rw [hW1]; exact hb.alloc hb.size _)
  have HO1 : Hid (Own W1 w0.heap.size (.slice ad 0 cap) []) := Lib.hid (by rw [hW1]; exact ho.alloc _)
  have HOw : Hid (∀ n, ((W1.drewN n).alloc (.cells #[.int .i64 x, .int .i64 y] 48)).ownsRow w0.heap.size 48 2 (.slice ad 0 cap) 0 []) := Lib.hid (fun n => World.ownsRow.alloc (w := W1.drewN n) HO1.out _)
  have HNW : Hid (∀ n, ∀ j u, ([.int .i64 x, .int .i64 y] : List Value)[j]? = some u → ((W1.drewN n).alloc (.cells #[.int .i64 x, .int .i64 y] 48)).cell? ((⟨W1.heap.size, 0, none⟩ : Addr).add j) = some u) := Lib.hid (fun n => news_at (W1.drewN n) #[.int .i64 x, .int .i64 y] 48 [.int .i64 x, .int .i64 y] rfl)
  have HBW : Hid (∀ n, Below w0.heap.size w0 ((W1.drewN n).alloc (.cells #[.int .i64 x, .int .i64 y] 48))) := Lib.hid (fun n => (below_drewN0 HBW1.out n).alloc HBW1.out.size _)
  have H1 := Lib.hid (one2 x y)
  have hle1 : w0.heap.size ≤ W1.heap.size := HBW1.out.size
  have e0 : W1.cell? ⟨w.heap.size, 0, none⟩ = some (.int .i64 x) := by rw [hW1]; exact World.cell?_alloc_mark w _ _ _ 0
  have e1 : W1.cell? ⟨w.heap.size, 1, none⟩ = some (.int .i64 y) := by rw [hW1]; exact World.cell?_alloc_mark w _ _ _ 1
  rw [show ([] : List Rg).length = 0 from rfl]
  clear hb ho hcap hnn
  go_enter Try.func57, Try.ntmps57
  go_upto_region 2 with fail
  rw [← hW1]
  clear hW1
  go_quiet (fail)
  go_wp2_with (at_builtin; refine wpList_append_own _ rfl _ _ 22 rfl w0.heap.size 48 i0 (.agg #[.int .i64 0, .int .i64 0]) 2 16 Try.underlying22 hi hz0 hz1 hz2 rfl (by decide) (.slice ad 0 cap) 0 [] rfl (HOw.out _) ⟨W1.heap.size, 0, none⟩ 1 1 [.int .i64 x, .int .i64 y] rfl rfl (HNW.out _) H1.out (by unfold maxLen; omega) (by omega) (by simp; omega) ?_; intro v1 w1 ho1 hg1 _; have HO2 := Lib.hid ho1; have HB1 := Lib.hid (grown_below (HBW.out _) (HOw.out _) hg1); clear ho1 hg1)
  go_ret
  exact ⟨_, rfl, HO2.out, HB1.out⟩
set_option maxRecDepth 20000 in
theorem touch_cons {w0 : World} (v : Value) (m : Rg) (t : List Rg) (x y : Int) (w : World) (hb : Below w0.heap.size w0 w) (ho : Own w w0.heap.size v (m :: t).reverse) (hm : t.length ≤ 100000) (h1 : 0 ≤ m.2) (h2 : m.2 ≤ 1114111) :
    Calls Try.prog 57 #[v, .agg #[.int .i64 x, .int .i64 y]] w (TouchPost w0 (tch (m :: t) (x, y))) := by
  obtain ⟨i0, hi, hz0, hz1, hz2⟩ := infoR
  obtain ⟨q, cap, rfl, hB, hq, hcm, hcp, hcell, hfr⟩ := own_cons ho
  obtain ⟨W1, hW1⟩ : ∃ W, W = w.alloc (.cells #[.int .i64 x, .int .i64 y] 48) := ⟨_, rfl⟩
  have HBW1 : Hid (Below w0.heap.size w0 W1) := Lib.hid (by rw [hW1]; exact hb.alloc hb.size _)
  have HO1 : Hid (Own W1 w0.heap.size (.slice (some ⟨q, 0, none⟩) (t.length + 1) cap) (m :: t).reverse) := Lib.hid (by rw [hW1]; exact ho.alloc _)
  have hc1 : W1.cell? ⟨q, t.length * 2 + 1, none⟩ = some (.int .i64 m.2) := by rw [hW1]; exact (((Below.refl w.heap.size w).alloc (Nat.le_refl _) _).cell (p := ⟨q, _, none⟩) hq).trans hcell
  obtain ⟨z, hz⟩ : ∃ z, z = m.2 := ⟨_, rfl⟩
  rw [← hz] at hc1 h1 h2
  have HZ := Lib.hid hz
  obtain ⟨k, hk⟩ : ∃ k, k = t.length := ⟨_, rfl⟩
  rw [← hk] at hc1 hcp hm ⊢
  have HK := Lib.hid hk
  have e0 : W1.cell? ⟨w.heap.size, 0, none⟩ = some (.int .i64 x) := by rw [hW1]; exact World.cell?_alloc_mark w _ _ _ 0
  have e1 : W1.cell? ⟨w.heap.size, 1, none⟩ = some (.int .i64 y) := by rw [hW1]; exact World.cell?_alloc_mark w _ _ _ 1
  have hs1 : W1.heap.size = w.heap.size + 1 := by rw [hW1]; simp
  have hle : w0.heap.size ≤ w.heap.size := hb.size
  have hwr : IntKind.i64.wrap (z + 1) = z + 1 := by rw [IntKind.wrap_i64]; omega
  have hW1' := Lib.hid hW1
  have hk1 : ((k : Nat) : Int) + 1 - 1 = (k : Nat) := by omega
  have hk0 : decide (((k : Nat) : Int) < 0) = false := decide_eq_false (by omega)
  have hk2 : ((k : Nat) : Int) < ((k : Nat) : Int) + 1 := by omega
  have hk3 : (0 : Int) ≤ ((k : Nat) : Int) := by omega
  clear hb ho hcell hz hfr hk
  have HV : Hid (Own W1 w0.heap.size (.slice (some ⟨q, 0, none⟩) (k + 1) cap) (m :: t).reverse) := Lib.hid (by rw [HK.out]; exact HO1.out)
  by_cases hlt : z + 1 < x
  · have HT : Hid (tch (m :: t) (x, y) = (x, y) :: m :: t) := Lib.hid (tch_new (by rw [← HZ.out]; exact hlt))
    obtain ⟨xs, hxs⟩ : ∃ xs, xs = rw2 (m :: t).reverse := ⟨_, rfl⟩
    have HXS := Lib.hid hxs
    have HOw : Hid (∀ n, ((W1.drewN n).alloc (.cells #[.int .i64 x, .int .i64 y] 48)).ownsRow w0.heap.size 48 2 (.slice (some ⟨q, 0, none⟩) (k + 1) cap) (k + 1) xs) := Lib.hid (by
      intro n
      have h := HV.out
      unfold Own at h
      rw [rev_cons_len, ← HK.out, ← hxs] at h
      exact World.ownsRow.alloc (w := W1.drewN n) h _)
    have HNW : Hid (∀ n, ∀ j u, ([.int .i64 x, .int .i64 y] : List Value)[j]? = some u → ((W1.drewN n).alloc (.cells #[.int .i64 x, .int .i64 y] 48)).cell? ((⟨W1.heap.size, 0, none⟩ : Addr).add j) = some u) := Lib.hid (fun n => news_at (W1.drewN n) #[.int .i64 x, .int .i64 y] 48 [.int .i64 x, .int .i64 y] rfl)
    have HBW : Hid (∀ n, Below w0.heap.size w0 ((W1.drewN n).alloc (.cells #[.int .i64 x, .int .i64 y] 48))) := Lib.hid (fun n => (below_drewN0 HBW1.out n).alloc HBW1.out.size _)
    have H1 := Lib.hid (one2 x y)
    have hle1 : w0.heap.size ≤ W1.heap.size := HBW1.out.size
    clear hxs hs1
    go_enter Try.func57, Try.ntmps57
    go_upto_region 2 with fail
    rw [← hW1]
    clear hW1
    go_quiet (fail)
    go_wp2_with (at_builtin; refine wpList_append_own _ rfl _ _ 22 rfl w0.heap.size 48 i0 (.agg #[.int .i64 0, .int .i64 0]) 2 16 Try.underlying22 hi hz0 hz1 hz2 rfl (by decide) (.slice (some ⟨q, 0, none⟩) (k + 1) cap) (k + 1) xs rfl (HOw.out _) ⟨W1.heap.size, 0, none⟩ 1 1 [.int .i64 x, .int .i64 y] rfl rfl (HNW.out _) H1.out (by unfold maxLen; omega) (by omega) (by simp; omega) ?_; intro v1 w1 ho1 hg1 _; have HO2 := Lib.hid ho1; have HB1 := Lib.hid (grown_below (HBW.out _) (HOw.out _) hg1); clear ho1 hg1)
    go_ret
    refine ⟨_, rfl, ?_, HB1.out⟩
    rw [HT.out]
    unfold Own
    rw [rev_cons_len, rw2_last, List.length_cons, ← HK.out, ← HXS.out]
    exact HO2.out
  · have HT : Hid (tch (m :: t) (x, y) = (m.1, max z y) :: t) := Lib.hid (by rw [HZ.out]; exact tch_old (by rw [← HZ.out]; exact hlt))
    have hfr1 : W1.frozen? ⟨q, k * 2 + 1, none⟩ = false := by have h := HV.out; unfold Own at h; rw [rev_cons_len, ← HK.out] at h; exact h.frozenAt _
    go_enter Try.func57, Try.ntmps57
    go_upto_region 2 with fail
    rw [← hW1]
    clear hW1
    go_quiet (fail)
    go_upto_region 4 with fail
    generalize hW2 : W1.drewN nq = W2
    have hc2 : W2.cell? ⟨q, k * 2 + 1, none⟩ = some (.int .i64 z) := by rw [← hW2]; exact hc1
    have e2 : W2.cell? ⟨w.heap.size, 1, none⟩ = some (.int .i64 y) := by rw [← hW2]; exact e1
    have hfr2 : W2.frozen? ⟨q, k * 2 + 1, none⟩ = false := by rw [← hW2]; exact hfr1
    have HB2 : Hid (Below w0.heap.size w0 W2) := Lib.hid (by rw [← hW2]; exact below_drewN0 HBW1.out _)
    have HV2 : Hid (Own W2 w0.heap.size (.slice (some ⟨q, 0, none⟩) (k + 1) cap) (m :: t).reverse) := Lib.hid (by rw [← hW2]; exact HV.out)
    clear hW2
    by_cases hzy : z < y
    · have HP : Hid (Own (W2.setCell ⟨q, k * 2 + 1, none⟩ (.int .i64 y)).drew w0.heap.size (.slice (some ⟨q, 0, none⟩) (k + 1) cap) (tch (m :: t) (x, y)).reverse ∧ Below w0.heap.size w0 (W2.setCell ⟨q, k * 2 + 1, none⟩ (.int .i64 y)).drew) := Lib.hid (by
        have hmx : max z y = y := by omega
        rw [HT.out, hmx]
        have h := HV2.out
        rw [HK.out] at h ⊢
        obtain ⟨p1, p2⟩ := own_put h HB2.out y
        exact ⟨World.ownsRow.drew p1, p2.drew⟩)
      go_region
      go_wp2_with fail
      go_ret
      exact ⟨_, rfl, HP.out.1, HP.out.2⟩
    · have HP : Hid (Own (W2.setCell ⟨q, k * 2 + 1, none⟩ (.int .i64 z)).drew w0.heap.size (.slice (some ⟨q, 0, none⟩) (k + 1) cap) (tch (m :: t) (x, y)).reverse ∧ Below w0.heap.size w0 (W2.setCell ⟨q, k * 2 + 1, none⟩ (.int .i64 z)).drew) := Lib.hid (by
        have hmx : max z y = z := by omega
        rw [HT.out, hmx]
        have h := HV2.out
        rw [HK.out] at h ⊢
        obtain ⟨p1, p2⟩ := own_put h HB2.out z
        exact ⟨World.ownsRow.drew p1, p2.drew⟩)
      go_region
      go_wp2_with fail
      go_ret
      exact ⟨_, rfl, HP.out.1, HP.out.2⟩
theorem touch_any {w0 : World} (v : Value) (acc : List Rg) (x y : Int) (w : World) (hb : Below w0.heap.size w0 w) (ho : Own w w0.heap.size v acc.reverse) (hm : acc.length ≤ 100000) (hok : CnR acc) :
    Calls Try.prog 57 #[v, .agg #[.int .i64 x, .int .i64 y]] w (TouchPost w0 (tch acc (x, y))) := by
  cases acc with
  | nil => exact touch_nil v x y w hb ho
  | cons m t => exact touch_cons v m t x y w hb ho (by simp at hm; omega) (by have := hok.1; have := hok.2.1; omega) hok.2.2.1
theorem foldl_succ {L : List Rg} {i : Nat} {x y : Int} (h : i < L.length) (e : gR L i = (x, y)) : (L.take (i + 1)).foldl tch [] = tch ((L.take i).foldl tch []) (x, y) := by
  rw [take_succ' h, List.foldl_append, e]; rfl
theorem fold_part {S : List Rg} (hok : ∀ r ∈ S, okR r = true) (hp : S.Pairwise (fun a b => a.1 ≤ b.1)) (i : Nat) : CnR ((S.take i).foldl tch []) ∧ ((S.take i).foldl tch []).length ≤ i := by
  obtain ⟨k1, _⟩ := fold_ok (S.take i) [] trivial (fun r h => hok r (List.mem_of_mem_take h)) (fun m r h => by cases h) (hp.sublist (List.take_sublist i S))
  refine ⟨k1, ?_⟩
  have h1 := fold_len (S.take i) []
  have h2 : (S.take i).length ≤ i := by simp; omega
  simp at h1
  simp at h2
  omega
set_option maxRecDepth 20000 in
theorem fold56_any {w0 : World} (a : Option Addr) (c : Nat) (L : List Rg) (w : World) (hv : RV w a L) (hw0 : w0.heap.size ≤ w.heap.size) (hb : Below w0.heap.size w0 w) (hok : ∀ r ∈ L, okR r = true) (hp : L.Pairwise (fun a b => a.1 ≤ b.1)) (hm : L.length ≤ 100000) :
    Calls Try.prog 56 #[.slice a L.length c, .slice none 0 0, .func (.func 57) #[] #[]] w (ConcatPost w (uniL L)) := by
  obtain ⟨m, hml⟩ : ∃ m, m = L.length := ⟨_, rfl⟩
  rw [← hml] at hm ⊢
  have HV := Lib.hid hv
  have HF0 := Lib.hid (fold_part hok hp)
  have HM := Lib.hid hml
  clear hv hok hb hml hp hw0
  go_enter Try.func56, Try.ntmps56
  go_wp2_with fail
  go_loopg [1, 11] m (fun f u v wr => ∃ i : Nat, v = .int .i64 (i : Nat) ∧ i ≤ m ∧ m - i ≤ f ∧ Own wr w.heap.size u ((L.take i).foldl tch []).reverse ∧ Below w.heap.size w wr)
  case atStart => exact ⟨0, rfl, by omega, by omega, by simpa using Own.nil _ _, Below.refl _ _⟩
  case round =>
    obtain ⟨i, rfl, him, hf, ho, hb⟩ := hrel
    have HO := Lib.hid ho
    have HB := Lib.hid hb
    have HF := Lib.hid hf
    by_cases hlt : i < m
    · obtain ⟨b, off, rfl, hbb, c0, c1⟩ := (HV.out.below hb) i (by rw [← HM.out]; exact hlt)
      obtain ⟨x, hx⟩ : ∃ x, x = (gR L i).1 := ⟨_, rfl⟩
      obtain ⟨y, hy⟩ : ∃ x, x = (gR L i).2 := ⟨_, rfl⟩
      rw [← hx] at c0
      rw [← hy] at c1
      have HXY : Hid (gR L i = (x, y)) := Lib.hid (by rw [hx, hy])
      have hlt' : (i : Int) < (m : Int) := by omega
      have hbig : (i : Int) + 1 ≤ 9223372036854775807 := by omega
      have HLT := Lib.hid hlt
      have HLEN := Lib.hid (Nat.le_trans (HF0.out i).2 (show i ≤ 100000 by omega))
      clear him ho hb hf hbb hx hy hlt
      go_wp2_with fail
      refine (touch_any _ _ x y _ (HB.out.alloc HB.out.size _) (HO.out.alloc _) HLEN.out (HF0.out i).1).mono ?_
      rintro e w1 ⟨v1, rfl, o1, b1⟩
      have O1 : Hid (Own w1 w.heap.size v1 ((L.take (i + 1)).foldl tch []).reverse) := Lib.hid (by rw [foldl_succ (by rw [← HM.out]; exact HLT.out) HXY.out]; exact o1)
      have B1 := Lib.hid b1
      clear o1 b1
      go_wp2_with fail
      go_roundg (gk - 1)
      case measure => have := HF.out; have := HLT.out; omega
      case rel => exact ⟨i + 1, by rw [show ((i + 1 : Nat) : Int) = (i : Int) + 1 by omega], by have := HLT.out; omega, by have := HF.out; omega, O1.out, B1.out⟩
    · have e9 : i = m := by omega
      subst e9
      have hT : L.take i = L := by rw [HM.out]; exact List.take_length
      have HT := Lib.hid hT
      clear him ho hb hf hlt hT
      go_wp2_with fail
      go_ret
      exact ⟨_, rfl, by rw [HT.out] at HO; exact HO.out, HB.out⟩
end Go.Proofs.Ytlngdohkoeognaa

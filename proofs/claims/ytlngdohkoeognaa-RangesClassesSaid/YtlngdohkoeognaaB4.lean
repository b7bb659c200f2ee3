/- Layer 6: numbers in memory; SameInts; edges. -/
import Derived.Test.YtlngdohkoeognaaB3
namespace Go.Proofs.Ytlngdohkoeognaa
open Go.RowKit Go.Maps
def gI (L : List Int) (i : Nat) : Int := L.getD i 0
theorem gI_get {L : List Int} {i : Nat} (h : i < L.length) : L[i]? = some (gI L i) := by
  unfold gI
  rw [List.getD_eq_getElem?_getD, List.getElem?_eq_getElem h]; rfl
theorem gI_mem {L : List Int} {i : Nat} (h : i < L.length) : gI L i ∈ L := by
  unfold gI
  rw [List.getD_eq_getElem?_getD, List.getElem?_eq_getElem h]
  exact List.getElem_mem h
theorem gI_ext {L M : List Int} (h : L.length = M.length) (k : ∀ i, i < L.length → gI L i = gI M i) : L = M := by
  apply List.ext_getElem h
  intro i h1 h2
  have := k i h1
  have a := gI_get h1
  have b := gI_get h2
  rw [List.getElem?_eq_getElem h1] at a
  rw [List.getElem?_eq_getElem h2] at b
  simp only [Option.some.injEq] at a b
  rw [a, b, this]
/-- Numbers that stand somewhere. -/
def IV (w : World) (a : Option Addr) (L : List Int) : Prop :=
  ∀ i, i < L.length → ∃ b off, a = some ⟨b, off, none⟩ ∧ b < w.heap.size ∧ w.cell? ⟨b, off + i, none⟩ = some (.int .i64 (gI L i))
theorem IV.below {w w' : World} {a : Option Addr} {L : List Int} (h : IV w a L) (k : Below w.heap.size w w') : IV w' a L := fun i hi => by
  obtain ⟨b, off, e, hb, c0⟩ := h i hi
  exact ⟨b, off, e, Nat.lt_of_lt_of_le hb k.size, (k.cell (p := ⟨b, _, none⟩) hb).trans c0⟩
theorem IV.at_ {w : World} {b off : Nat} {L : List Int} (h : IV w (some ⟨b, off, none⟩) L) {i : Nat} (hi : i < L.length) : b < w.heap.size ∧ w.cell? ⟨b, off + i, none⟩ = some (.int .i64 (gI L i)) := by
  obtain ⟨b', off', e, k⟩ := h i hi
  cases e
  exact k
theorem IV.addr {w : World} {a : Option Addr} {L : List Int} (h : IV w a L) (h0 : 0 < L.length) : ∃ b off, a = some ⟨b, off, none⟩ := by
  obtain ⟨b, off, e, _⟩ := h 0 h0
  exact ⟨b, off, e⟩
def rI (L : List Int) : List Value := L.map (Value.int .i64)
theorem rI_app (L M : List Int) : rI (L ++ M) = rI L ++ rI M := by unfold rI; rw [List.map_append]
theorem rI_len (L : List Int) : (rI L).length = L.length := by unfold rI; simp
theorem rI_at (L : List Int) (i : Nat) (h : i < L.length) : (rI L)[i]? = some (.int .i64 (gI L i)) := by
  unfold rI
  rw [List.getElem?_map, gI_get h]; rfl
theorem rI_one (L : List Int) : ∀ u ∈ rI L, u.oneCell' = true := by
  intro u hu
  unfold rI at hu
  obtain ⟨c, _, rfl⟩ := List.mem_map.1 hu
  rfl
/-- A row of numbers of the call's own. -/
def OwnI (w : World) (B : Nat) (v : Value) (L : List Int) : Prop := w.ownsRow B 3 1 v L.length (rI L)
theorem OwnI.view {w : World} {B : Nat} {v : Value} {L : List Int} (h : OwnI w B v L) : ∃ ad cap, v = .slice ad L.length cap ∧ L.length ≤ cap ∧ IV w ad L ∧ (ad = none → L.length = 0 ∧ cap = 0) := by
  rcases h.2 with ⟨rfl, hn⟩ | ⟨q, cap, cur, rfl, hg, hgg, h1, h2, h3, h4⟩
  · have : L = [] := by cases L with | nil => rfl | cons _ _ => simp at hn
    subst this
    exact ⟨none, 0, rfl, Nat.le_refl _, fun i hi => by simp at hi, fun _ => ⟨rfl, rfl⟩⟩
  · exact ⟨some ⟨q, 0, none⟩, cap, rfl, h1, fun i hi => ⟨q, 0, rfl, (Array.getElem?_eq_some_iff.1 hgg).1, by rw [Nat.zero_add, h.cellAt i (by omega)]; exact rI_at L i hi⟩, fun e => by cases e⟩
theorem OwnI.below {w w' : World} {B : Nat} {v : Value} {L : List Int} (h : OwnI w B v L) (b : Below w.heap.size w w') : OwnI w' B v L := own_below h b
theorem OwnI.nil (w : World) (B : Nat) : OwnI w B (.slice none 0 0) [] := World.ownsRow_nil _ _ _ _
/-- What grows a row of one's own leaves what was there before. -/
theorem below_own {w0 w w' : World} {s n : Nat} {e : TypeId} {v : Value} {x : List Value} (hb : Below w0.heap.size w0 w) (ho : w.ownsRow w0.heap.size e s v n x) (hg : w.grownBy w' v.ownBlock) : Below w0.heap.size w0 w' :=
  hb.grown hg hb.size (fun q hq => (ho.lt q hq).1)
/-- A row of numbers, behind a number that is put at its end. -/
def AddPost (w0 : World) (M : List Int) (v' : Value) (w' : World) : Prop := OwnI w' w0.heap.size v' M ∧ Below w0.heap.size w0 w'
set_option maxRecDepth 20000 in
theorem edges_any {w0 : World} (v : Value) (M : List Int) (x y : Int) (w : World) (hb : Below w0.heap.size w0 w) (ho : OwnI w w0.heap.size v M) (hm : M.length ≤ 1000000) (hy0 : 0 ≤ y) :
    Calls Try.prog 35 #[v, .agg #[.int .i64 x, .int .i64 y]] w fun e w' => ∃ v', e = .returned v' ∧ AddPost w0 (M ++ edgR (x, y)) v' w' := by
  obtain ⟨i0, hi, hz0, hz1, hz2⟩ := infoI
  have HB := Lib.hid hb
  have hsz := hb.size
  have HO := Lib.hid ho
  obtain ⟨xs, hxs⟩ : ∃ xs, xs = rI M := ⟨_, rfl⟩
  obtain ⟨n, hn⟩ : ∃ n, n = M.length := ⟨_, rfl⟩
  have HOw : Hid (((w.alloc (.cells #[.int .i64 x, .int .i64 y] 48)).alloc (.cells #[.int .i64 x] 3)).ownsRow w0.heap.size 3 1 v n xs) := Lib.hid (by rw [hxs, hn]; exact (ho.alloc _).alloc _)
  have HNW : Hid (∀ j u, ([.int .i64 x] : List Value)[j]? = some u → ((w.alloc (.cells #[.int .i64 x, .int .i64 y] 48)).alloc (.cells #[.int .i64 x] 3)).cell? ((⟨w.heap.size + 1, 0, none⟩ : Addr).add j) = some u) := Lib.hid (by
    have h := news_at (w.alloc (.cells #[.int .i64 x, .int .i64 y] 48)) #[.int .i64 x] 3 [.int .i64 x] rfl
    simpa using h)
  have hn1 : n ≤ 1000000 := by rw [hn]; exact hm
  have HXS := Lib.hid hxs
  have HN := Lib.hid hn
  have T1 : True := trivial
  clear hb ho hxs hn hm
  have hfar : ∀ w1, ((w.alloc (.cells #[.int .i64 x, .int .i64 y] 48)).alloc (.cells #[.int .i64 x] 3)).grownBy w1 v.ownBlock → w1.cell? ⟨w.heap.size, 1, none⟩ = some (.int .i64 y) := fun w1 hg => by
    refine hg.cell ?_ ?_
    · have h1 := World.cell?_alloc_mark w #[.int .i64 x, .int .i64 y] 48 (0, 0) 1
      have h2 := ((Below.refl _ (w.alloc (.cells #[.int .i64 x, .int .i64 y] 48))).alloc (Nat.le_refl _) (.cells #[.int .i64 x] 3)).cell (p := ⟨w.heap.size, 1, none⟩) (by simp)
      exact h2.trans h1
    · intro e
      have := (HO.out.lt _ e.symm).2
      exact absurd this (Nat.lt_irrefl _)
  have HFAR := Lib.hid hfar
  have HBW : Hid (Below w0.heap.size w0 ((w.alloc (.cells #[.int .i64 x, .int .i64 y] 48)).alloc (.cells #[.int .i64 x] 3))) := Lib.hid ((HB.out.alloc HB.out.size _).alloc (by simp; omega) _)
  clear hfar
  by_cases hy : y < 1114111
  · have HE : Hid (rI (M ++ edgR (x, y)) = (xs ++ [.int .i64 x]) ++ [.int .i64 (y + 1)] ∧ (M ++ edgR (x, y)).length = n + 1 + 1) := Lib.hid (by
      have e : edgR (x, y) = [x, y + 1] := if_pos hy
      rw [e, rI_app, ← HXS.out]
      exact ⟨by simp [rI], by simp [HN.out]⟩)
    go_enter Try.func35, Try.ntmps35
    go_wp2_with (first
      | (have _t := T1; at_builtin; refine wpList_append_own _ rfl _ _ 27 rfl w0.heap.size 3 i0 (.int .i64 0) 1 8 Try.underlying27 hi hz0 hz1 hz2 rfl (by decide) v n xs rfl HOw.out ⟨w.heap.size + 1, 0, none⟩ 1 1 [.int .i64 x] rfl rfl HNW.out (ints_oneCell .i64 [x]) (by unfold maxLen; omega) (by omega) (by simp; omega) ?_; clear _t; clear T1; intro v1 w1 ho1 hg1 _; have HO1 := Lib.hid ho1; have d1 := HFAR.out w1 hg1; have HB1 := Lib.hid (below_own HBW.out HOw.out hg1); have hs1 : w0.heap.size ≤ w1.heap.size := HB1.out.size; clear ho1 hg1)
      | (at_builtin; refine wpList_append_own _ rfl _ _ 27 rfl w0.heap.size 3 i0 (.int .i64 0) 1 8 Try.underlying27 hi hz0 hz1 hz2 rfl (by decide) v1 (n + 1) (xs ++ [.int .i64 x]) rfl (HO1.out.alloc _) ⟨w1.heap.size, 0, none⟩ 1 1 [.int .i64 (y + 1)] rfl rfl (cell_one_new _ _ _) (ints_oneCell .i64 [y + 1]) (by unfold maxLen; omega) (by omega) (by simp; omega) ?_; intro v2 w2 ho2 hg2 _; have HO2 := Lib.hid ho2; have HB2 := Lib.hid (below_own (HB1.out.alloc HB1.out.size _) (HO1.out.alloc _) hg2); clear ho2 hg2))
    go_ret
    exact ⟨_, rfl, by unfold OwnI; rw [HE.out.1, HE.out.2]; exact HO2.out, HB2.out⟩
  · have HE : Hid (rI (M ++ edgR (x, y)) = xs ++ [.int .i64 x] ∧ (M ++ edgR (x, y)).length = n + 1) := Lib.hid (by
      have e : edgR (x, y) = [x] := if_neg hy
      rw [e, rI_app, ← HXS.out]
      exact ⟨by simp [rI], by simp [HN.out]⟩)
    go_enter Try.func35, Try.ntmps35
    go_wp2_with (first
      | (have _t := T1; at_builtin; refine wpList_append_own _ rfl _ _ 27 rfl w0.heap.size 3 i0 (.int .i64 0) 1 8 Try.underlying27 hi hz0 hz1 hz2 rfl (by decide) v n xs rfl HOw.out ⟨w.heap.size + 1, 0, none⟩ 1 1 [.int .i64 x] rfl rfl HNW.out (ints_oneCell .i64 [x]) (by unfold maxLen; omega) (by omega) (by simp; omega) ?_; clear _t; clear T1; intro v1 w1 ho1 hg1 _; have HO1 := Lib.hid ho1; have d1 := HFAR.out w1 hg1; have HB1 := Lib.hid (below_own HBW.out HOw.out hg1); clear ho1 hg1))
    go_ret
    exact ⟨_, rfl, by unfold OwnI; rw [HE.out.1, HE.out.2]; exact HO1.out, HB1.out⟩
end Go.Proofs.Ytlngdohkoeognaa

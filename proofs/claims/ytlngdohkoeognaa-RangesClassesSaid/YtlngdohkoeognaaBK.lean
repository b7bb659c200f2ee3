/- Layer 6: the gaps of a set, as an iterator yields them. -/
import Derived.Test.YtlngdohkoeognaaBH
import Derived.RangeFuncNested
import Derived.RangeFuncBound
import Derived.RangeFuncCalls
import Derived.RangeFuncLeaves
import Derived.RangeFuncBox
import Derived.Shelf.Abstract
import Derived.Shelf.RegionOpen
import Derived.OwnWalkIn
import Derived.TacticsInMore
import Derived.LoopNIn
import Derived.LoopIn
namespace Go.Proofs.Ytlngdohkoeognaa
open Go.RowKit Go.Maps Go.Shelf
attribute [local go_sem] Oper.semAt_some
/-- The block that the slice in a box has of its own. -/
def rowOf (Bo : Nat) (W : World) : Option Nat := match W.cell? ⟨Bo, 0, none⟩ with
  | some v => v.ownBlock
  | none => none
theorem rowOf_same {Bo : Nat} {A B : World} (h : B.heap[Bo]? = A.heap[Bo]?) : rowOf Bo B = rowOf Bo A := by
  unfold rowOf
  rw [World.cell?_of_block (a := ⟨Bo, 0, none⟩) h]
/-- What a round that collects keeps: all but the box and its row. -/
structure KpR (n₀ Bo : Nat) (A B : World) : Prop where
  below : Below n₀ A B
  row : ∀ k, rowOf Bo B = some k → rowOf Bo A = some k ∨ (A.heap.size ≤ k ∧ k < B.heap.size)
  kept : ∀ k o, k ≠ Bo → rowOf Bo A ≠ some k → A.heap[k]? = some o → o.isCells = true → B.heap[k]? = some o
theorem kpR_t {n₀ Bo : Nat} {A B C : World} (h : KpR n₀ Bo A B) (k : KpR n₀ Bo B C) : KpR n₀ Bo A C where
  below := h.below.trans k.below
  row := fun j hj => by
    have s1 := h.below.size
    have s2 := k.below.size
    rcases k.row j hj with h1 | h1
    · rcases h.row j h1 with h2 | h2
      · exact .inl h2
      · exact .inr ⟨h2.1, by omega⟩
    · exact .inr ⟨by omega, h1.2⟩
  kept := fun j o h1 h2 h3 h4 => by
    refine k.kept j o h1 (fun e => ?_) (h.kept j o h1 h2 h3 h4) h4
    rcases h.row j e with h5 | h5
    · exact h2 h5
    · have := (Array.getElem?_eq_some_iff.1 h3).1
      omega
theorem kpR_b {n₀ Bo : Nat} {w : World} (hn : n₀ ≤ w.heap.size) (hB : Bo < w.heap.size) (W : World) (l : Nat) (o o' : Obj) (hl : w.heap.size ≤ l) (h : W.heap[l]? = some o) (hc : o.isCells = false) (hw : o.isWalk = false) : KpR n₀ Bo W (W.putObj l o') where
  below := belowK_b hn W l o o' hl h hc hw
  row := fun j hj => by
    rw [rowOf_same (A := W) (World.putObj_heap_other (by omega))] at hj
    exact .inl hj
  kept := fun j p h1 h2 h3 h4 => by
    have hne : j ≠ l := fun e => by
      subst e
      rw [h] at h3
      cases h3
      rw [hc] at h4
      cases h4
    exact (World.putObj_heap_other hne).trans h3
theorem rowOf_alloc {Bo : Nat} {W : World} (o : Obj) (h : Bo < W.heap.size) : rowOf Bo (W.alloc o) = rowOf Bo W := rowOf_same (Below.heap_alloc W o Bo h)
theorem drop_cons {L : List Rg} {k : Nat} (h : k < L.length) : L.drop k = gR L k :: L.drop (k + 1) := by
  rw [List.drop_eq_getElem_cons h]
  have g := gR_get h
  rw [List.getElem?_eq_getElem h] at g
  simp only [Option.some.injEq] at g
  rw [g]
theorem gapL_yes {f x y : Int} {L : List Rg} (h : f < x) : gapL f ((x, y) :: L) = (f, x - 1) :: gapL (y + 1) L := by
  show (if f < x then _ else _) = _
  rw [if_pos h]
theorem gapL_no {f x y : Int} {L : List Rg} (h : ¬ f < x) : gapL f ((x, y) :: L) = gapL (y + 1) L := by
  show (if f < x then _ else _) = _
  rw [if_neg h]
theorem gapL_end {f : Int} (h : f ≤ 1114111) : gapL f [] = [(f, 1114111)] := if_pos h
theorem gapL_end0 {f : Int} (h : ¬ f ≤ 1114111) : gapL f [] = [] := if_neg h
theorem gap_len {L : List Rg} (h : Cn 0 L) : (gapL 0 L).length ≤ L.length + 1 := (gap_ok L 0 0 h (Int.le_refl _) (by omega)).2.2
abbrev encR (x : Rg) : Array Value := #[.agg #[.int .i64 x.1, .int .i64 x.2]]
set_option maxRecDepth 100000 in
set_option maxHeartbeats 1000000 in
theorem gaps1_in (F : Fence) (n : Nat) (h61 : F.fn 61) (hro : F.round = none) (hn : 1 ≤ n) (l Bn Bo : Nat) (a : Option Addr) (c : Nat) (L : List Rg) (hL : Cn 0 L) (hm : L.length ≤ 100000) (w0 : World) (hv : RV w0 a L)
    (J Jx : List Rg → World → Prop) (hJ : ∀ pre W o, J pre W → J pre (W.alloc o))
    (hY : ∀ pre x W, J pre W → pre.length < L.length + 1 → YieldAt F (n - 1) Try.prog l (encR x) W fun e W' =>
      (e = .returned (.bool true) ∧ J (pre ++ [x]) W' ∧ KpR w0.heap.size Bo W W') ∨ (e = .returned (.bool false) ∧ Jx (pre ++ [x]) W'))
    (W : World) (hBn : W.cell? ⟨Bn, 0, none⟩ = some (.slice a L.length c)) (hb : Below w0.heap.size w0 W) (hr0 : ∀ k, rowOf Bo W = some k → k < W.heap.size) (hBo : Bo < W.heap.size) (h0 : J [] W) :
    CallsIn F n Try.prog 61 #[.func (.yield l) #[] #[], .pointer (some ⟨Bn, 0, none⟩)] W fun e W' => (∃ v, e = .returned v) ∧
      ((∃ ys, ys = gapL 0 L ∧ J ys W') ∨ (∃ pre, True ∧ Jx pre W')) := by
  have HG := Lib.hid (gap_len hL)
  have HOK : Hid (∀ k, k < L.length → okR (gR L k) = true) := Lib.hid (fun k hk => cn_ok (Int.le_refl _) hL _ (gR_mem hk))
  have HV := Lib.hid hv
  obtain ⟨m, hml⟩ : ∃ m, m = L.length := ⟨_, rfl⟩
  rw [← hml] at hm hY hBn HG HOK
  have HM := Lib.hid hml
  have HYY := Lib.hid hY
  have HR0 := Lib.hid hr0
  have HB := Lib.hid hb
  have HJ := Lib.hid hJ
  clear hv hL hml hY hr0 hb hJ
  refine callsIn_of_wp Try.func61 rfl h61 ?_ hro
  simp only [Try.ntmps61, List.size_toArray, List.length_cons, List.length_nil, Nat.reduceAdd, Nat.reduceSub, Array.replicate_succ, Array.replicate_zero, List.push_toArray, List.append_toArray, List.nil_append, List.cons_append]
  gi_wp2
  gi_loopw [3, 8] (fun fr i wr => ∃ (k : Nat) (pre : List Rg) (f : Int), fr = .int .i64 f ∧ i = .int .i64 (k : Nat) ∧ k ≤ m ∧ gapL 0 L = pre ++ gapL f (L.drop k) ∧ 0 ≤ f ∧ f ≤ 1114112 ∧ J pre wr ∧ Below w0.heap.size w0 wr ∧ (∀ k, rowOf Bo wr = some k → k < wr.heap.size) ∧ Bo < wr.heap.size)
    (fun _ i _ => m - (intOf i).toNat)
  case atStart =>
    exact ⟨0, [], 0, rfl, rfl, Nat.zero_le _, rfl, by omega, by omega, h0, HB.out, HR0.out, hBo⟩
  case round =>
    obtain ⟨k, pre, f, rfl, rfl, hk, hx, hf0, hf1, hJs, hbr, hrr, hbo⟩ := hrel
    by_cases hlt : k < m
    · obtain ⟨b, off, rfl, hbb, c0, c1⟩ := (HV.out.below hbr) k (by rw [← HM.out]; exact hlt)
      have hok := okR_iff.1 (HOK.out k hlt)
      rw [drop_cons (by rw [← HM.out]; exact hlt)] at hx
      obtain ⟨x, hxx⟩ : ∃ x, x = (gR L k).1 := ⟨_, rfl⟩
      obtain ⟨y, hyy⟩ : ∃ x, x = (gR L k).2 := ⟨_, rfl⟩
      rw [← hxx, ← hyy] at hok
      rw [← hxx] at c0
      rw [← hyy] at c1
      rw [show gR L k = (x, y) by rw [hxx, hyy]] at hx
      have hk1 : (k : Int) < (m : Int) := by omega
      have hk2 : (0 : Int) ≤ (k : Int) := by omega
      obtain ⟨hx0, hxy, hy1⟩ := hok
      have HX := Lib.hid hx
      have HJS := Lib.hid hJs
      have HBR := Lib.hid hbr
      have HRR := Lib.hid hrr
      clear hx hJs hbr hrr hxx hyy
      by_cases hfx : f < x
      · have HX2 : Hid (gapL 0 L = (pre ++ [(f, x - 1)]) ++ gapL (y + 1) (L.drop (k + 1))) := Lib.hid (by rw [HX.out, gapL_yes hfx]; simp)
        have hlen : pre.length < m + 1 := by
          have h1 := HG.out
          rw [HX2.out] at h1
          simp only [List.length_append, List.length_cons, List.length_nil] at h1
          omega
        obtain ⟨fn, tmps, assign, body, hy, hR⟩ := HYY.out pre (f, x - 1) (wr.alloc (.cells #[.int .i64 x, .int .i64 y] 48)) (HJ.out _ _ _ HJS.out) hlen
        dsimp only [encR] at hy
        clear HX HG
        gi_wp2
        refine hR.mono ?_
        rintro e W3 (⟨rfl, hJ3, hk3⟩ | ⟨rfl, hJx3⟩)
        · have hs3 : wr.heap.size + 1 ≤ W3.heap.size := by have := hk3.below.size; simp at this; omega
          have hX : W3.heap[wr.heap.size]? = some (.cells #[.int .i64 x, .int .i64 y] 48 (0, 0)) := by
            refine hk3.kept _ _ (by omega) (fun e => ?_) (World.alloc_heap_new wr _) rfl
            rw [rowOf_alloc _ hbo] at e
            have := HRR.out _ e
            omega
          have e1 : W3.cell? ⟨wr.heap.size, 1, none⟩ = some (.int .i64 y) := by simp [World.cell?, hX]
          have HK3 := Lib.hid hk3
          have HJ3 := Lib.hid hJ3
          have hwr : IntKind.i64.wrap (y + 1) = y + 1 := by rw [IntKind.wrap_i64]; omega
          clear hk3 hJ3 hX hR hy hlen
          gi_wp2
          go_roundw
          case rel =>
            refine ⟨k + 1, pre ++ [(f, x - 1)], y + 1, rfl, by go_num, by omega, HX2.out, by omega, by omega, HJ3.out, HBR.out.trans (((Below.refl _ wr).alloc HBR.out.size _).trans HK3.out.below), ?_, by omega⟩
            intro j hj
            rcases HK3.out.row j hj with h | h
            · rw [rowOf_alloc _ hbo] at h
              have := HRR.out _ h
              omega
            · exact h.2
          case measure => simp [intOf]; omega
        · gi_wp2
          (try simp only [Exit.inBlock, Exit.then])
          refine bodyPost_ret (results_none rfl _ _ _) rfl ?_
          exact ⟨⟨_, rfl⟩, .inr ⟨_, trivial, hJx3⟩⟩
      · have HX2 : Hid (gapL 0 L = pre ++ gapL (y + 1) (L.drop (k + 1))) := Lib.hid (by rw [HX.out, gapL_no hfx])
        have e1 : (wr.alloc (.cells #[.int .i64 x, .int .i64 y] 48)).cell? ⟨wr.heap.size, 1, none⟩ = some (.int .i64 y) := World.cell?_alloc_mark wr _ _ _ 1
        have hwr : IntKind.i64.wrap (y + 1) = y + 1 := by rw [IntKind.wrap_i64]; omega
        clear HX HG
        gi_wp2
        refine ⟨fun _ h => (by cases h), ?_⟩
        gi_wp2
        go_roundw
        case rel =>
          refine ⟨k + 1, pre, y + 1, rfl, by go_num, by omega, HX2.out, by omega, by omega, HJ.out _ _ _ HJS.out, HBR.out.alloc HBR.out.size _, ?_, by simp; omega⟩
          intro j hj
          rw [rowOf_alloc _ hbo] at hj
          have := HRR.out _ hj
          simp; omega
        case measure => simp [intOf]; omega
    · have hkm : k = m := by omega
      subst hkm
      have hd : L.drop k = [] := by rw [HM.out]; exact List.drop_length
      rw [hd] at hx
      have HX := Lib.hid hx
      have HJS := Lib.hid hJs
      clear hx hJs hd hbr hrr
      by_cases hfe : f ≤ 1114111
      · have HX2 : Hid (gapL 0 L = pre ++ [(f, 1114111)]) := Lib.hid (by rw [HX.out, gapL_end hfe])
        have hlen : pre.length < k + 1 := by
          have h1 := HG.out
          rw [HX2.out] at h1
          simp only [List.length_append, List.length_cons, List.length_nil] at h1
          omega
        obtain ⟨fn, tmps, assign, body, hy, hR⟩ := HYY.out pre (f, 1114111) wr HJS.out hlen
        dsimp only [encR] at hy
        clear HX HG
        gi_wp2
        refine hR.mono ?_
        rintro e W3 (⟨rfl, hJ3, hk3⟩ | ⟨rfl, hJx3⟩)
        · gi_wp2
          go_end0
          exact ⟨⟨_, rfl⟩, .inl ⟨_, HX2.out.symm, hJ3⟩⟩
        · gi_wp2
          go_end0
          exact ⟨⟨_, rfl⟩, .inr ⟨_, trivial, hJx3⟩⟩
      · have HX2 : Hid (gapL 0 L = pre) := Lib.hid (by rw [HX.out, gapL_end0 hfe, List.append_nil])
        clear HX HG
        gi_wp2
        go_end0
        exact ⟨⟨_, rfl⟩, .inl (by rw [HX2.out]; exact HJS.out)⟩
end Go.Proofs.Ytlngdohkoeognaa

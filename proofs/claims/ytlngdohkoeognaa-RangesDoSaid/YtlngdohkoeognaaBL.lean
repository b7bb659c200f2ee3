/- Layer 6: the other numbers of a set (turn): a loop over the gaps, that collects. -/
import Derived.Test.YtlngdohkoeognaaBK
import Derived.Maps.AppendAt
import Derived.Maps.OwnIn
namespace Go.Proofs.Ytlngdohkoeognaa
open Go.RowKit Go.Maps Go.Shelf
attribute [local go_sem] Oper.semAt_some
set_option maxHeartbeats 1000000 in
theorem gaps_in (F : Fence) (n : Nat) (h49 : F.fn 49) (hro : F.round = none) (a : Option Addr) (m c : Nat) (w : World) :
    CallsIn F n Try.prog 49 #[.slice a m c] w fun e w' => e = .returned (.func (.func 61) #[] #[.pointer (some ⟨w.heap.size, 0, none⟩)]) ∧ w' = w.alloc (.cells #[.slice a m c] 22) := by
  refine callsIn_of_wp Try.func49 rfl h49 ?_ hro
  simp only [Try.ntmps49, List.size_toArray, List.length_cons, List.length_nil, Nat.reduceAdd, Nat.reduceSub, Array.replicate_succ, Array.replicate_zero, List.push_toArray, List.append_toArray, List.nil_append, List.cons_append]
  gi_wp2
  go_ret
  exact ⟨rfl, rfl⟩
theorem box_row {Bo : Nat} {W : World} {t : TypeId} {v : Value} (h : Boxed W Bo t v) : rowOf Bo W = v.ownBlock := by
  unfold rowOf
  rw [h.cell]
theorem gaps_stops (F : Fence) (n : Nat) (h61 : F.fn 61) (hro : F.round = none) (hn : 1 ≤ n) (Bn Bo : Nat) (a : Option Addr) (c : Nat) (L : List Rg) (hL : Cn 0 L) (hm : L.length ≤ 100000) (w0 w : World) (hb : Below w0.heap.size w0 w) (hv : RV w0 a L) (hBn : Bn < w.heap.size) (hBo : Bo < w.heap.size)
    (hc : w.cell? ⟨Bn, 0, none⟩ = some (.slice a L.length c)) (hr : rowOf Bo w = none) :
    SeqStopsK F n Try.prog 61 #[.pointer (some ⟨Bn, 0, none⟩)] encR (KpR w0.heap.size Bo) (fun ys => ys = gapL 0 L) (fun _ => True) (L.length + 1) w := fun l J Jx W hW hJ _ hY h0 =>
  gaps1_in F n h61 hro hn l Bn Bo a c L hL hm w0 hv J Jx (fun pre W o hj => hJ pre W _ none hj (World.grownBy_alloc W o none) (fun r e => by cases e)) hY W ((hW.cell (p := ⟨Bn, 0, none⟩) hBn).trans hc)
    (hb.trans (hW.mono hb.size)) (fun k hk => by rw [rowOf_same (hW.block Bo hBo), hr] at hk; cases hk) (Nat.lt_of_lt_of_le hBo hW.size) h0
/-- A loop's range in its box. -/
def BoxR (W : World) (Bx : Nat) (x : Rg) : Prop := W.heap[Bx]? = some (.cells #[.int .i64 x.1, .int .i64 x.2] 48 (0, 0))
theorem boxR_own {β : Type} (Bx : Nat) (x : Rg) : _root_.Go.Own (fun (_ : β) W => BoxR W Bx x) := fun s X Y row hs hg hrow => by
  have hlt : Bx < X.heap.size := (Array.getElem?_eq_some_iff.1 hs).1
  refine (hg.block Bx hlt (fun e' => ?_)).trans hs
  obtain ⟨o, ho, hc⟩ := hrow Bx e'.symm
  rw [show X.heap[Bx]? = _ from hs] at ho
  cases ho
  cases hc
def IR (w : World) (pre : List Rg) (W : World) : Prop := (∃ v, Boxed W w.heap.size 22 v ∧ W.ownsRow w.heap.size 48 2 v pre.length (rw2 pre) ∧ True) ∧ Below w.heap.size w W
theorem ir_own (w : World) (B : Nat) (hB : w.heap.size ≤ B) : OwnFrom B (IR w) :=
  OwnFrom.and (_root_.Go.Own.from (holdsRow_own w.heap.size w.heap.size 22 48 2 (fun pre : List Rg => pre.length) (fun pre => rw2 pre) (fun _ _ => True)) B) (ownFrom_below (Nat.le_refl _) hB)
theorem kpR_alloc {n₀ Bo : Nat} {W : World} (o : Obj) (h : Bo < W.heap.size) (hn : n₀ ≤ W.heap.size) : KpR n₀ Bo W (W.alloc o) where
  below := (Below.refl _ W).alloc hn o
  row := fun k hk => by rw [rowOf_alloc o h] at hk; exact .inl hk
  kept := fun k p _ _ h3 _ => (Below.heap_alloc W o k (Array.getElem?_eq_some_iff.1 h3).1).trans h3
/-- What turn answers. -/
def TurnPost (w : World) (L : List Rg) (e : Ending) (w' : World) : Prop := ∃ v, e = .returned v ∧ Own w' w.heap.size v (gapL 0 L) ∧ Below w.heap.size w w'
set_option maxRecDepth 100000 in
set_option maxHeartbeats 2000000 in
theorem turn_any (a : Option Addr) (c : Nat) (L : List Rg) (w : World) (hv : RV w a L) (hL : Cn 0 L) (hm : L.length ≤ 100000) :
    Calls Try.prog 31 #[.slice a L.length c] w (TurnPost w L) := by
  obtain ⟨i0, hi, hz0, hz1, hz2⟩ := infoR
  refine (callsIn_wide (n := 3)).1 ?_
  refine callsIn_of_wp_marks Try.func31 rfl trivial ?_ rfl
  simp only [Try.ntmps31, List.size_toArray, List.length_cons, List.length_nil, Nat.reduceAdd, Nat.reduceSub, Array.replicate_succ, Array.replicate_zero, List.push_toArray, List.append_toArray, List.nil_append, List.cons_append]
  gi_wp2_with (refine ⟨trivial, ?_⟩; gi_at_call 49; refine (gaps_in Fence.wide _ trivial rfl _ _ _ _).mono ?_; rintro e w' ⟨rfl, rfl⟩)
  obtain ⟨W0, hW0⟩ : ∃ W0, (w.alloc (.cells #[.slice none 0 0] 22)).alloc (.cells #[.slice a L.length c] 22) = W0 := ⟨_, rfl⟩
  rw [hW0]
  have hsz : W0.heap.size = w.heap.size + 2 := by rw [← hW0]; simp
  have hb0 : Below w.heap.size w W0 := by rw [← hW0]; exact ((Below.refl _ w).alloc (Nat.le_refl _) _).alloc (by simp) _
  have hbox : Boxed W0 w.heap.size 22 (.slice none 0 0) := by rw [← hW0]; exact (Boxed.new w _ _).alloc _
  have hcap : W0.cell? ⟨w.heap.size + 1, 0, none⟩ = some (.slice a L.length c) := by
    rw [← hW0]
    have := (Boxed.new (w.alloc (.cells #[.slice none 0 0] 22)) 22 (.slice a L.length c)).cell
    rwa [World.size_alloc] at this
  refine wpIn_rangeFunc_ownH (α := Rg) rfl (by omega) (gf := 61) (lb := #[.pointer (some ⟨w.heap.size + 1, 0, none⟩)]) rfl trivial (enters_of Try.func61 (by kernel_rfl) rfl)
    (gaps_stops Fence.wide _ trivial rfl (by omega) (w.heap.size + 1) w.heap.size a c L hL hm w W0 hb0 hv (by omega) (by omega) hcap (by rw [box_row hbox]; rfl))
    kpR_t (kpR_b (by omega) (by omega)) (Below.refl _ _) (fun _ => rfl) (IR w) (fun _ _ _ => False) (ir_own w _ (by omega)) (fun _ _ _ _ _ h _ _ => h) ⟨⟨_, hbox, World.ownsRow_nil _ _ _ _, trivial⟩, hb0⟩
    (fun x a' W => ∃ Bx, w.heap.size < Bx ∧ BoxR W Bx x ∧ a' = { tmps := #[.slice a L.length c, undef, .slice none 0 0, .pointer (some ⟨w.heap.size, 0, none⟩), .pointer (some ⟨Bx, 0, none⟩), .slice a L.length c, .func (.func 61) #[] #[.pointer (some ⟨w.heap.size + 1, 0, none⟩)], .agg #[.int .i64 x.1, .int .i64 x.2], undef, undef, undef, undef, undef], defers := [] })
    ?hax ?assign ?body ?done ?stop
  case hax =>
    rintro x a' _ X Y row ⟨Bx, h1, h2, h3⟩ hg hrow
    exact ⟨Bx, h1, (boxR_own (β := Unit) Bx x).from _ () X Y row h2 hg hrow, h3⟩
  case assign =>
    rintro l pre x W K ⟨⟨v, hbx, hrow, _⟩, hB⟩ hK
    gi_wp2
    refine hK _ _ ((KeepsOthers.alloc _ _).from _) (kpR_alloc _ hbx.lt hB.size) ⟨⟨v, hbx.alloc _, hrow.alloc _, trivial⟩, hB.alloc hB.size _⟩ ⟨W.heap.size, hbx.lt, World.alloc_heap_new W _, rfl⟩
  case body =>
    rintro l pre x a' W hl _ ⟨⟨v, hbx, hrow, _⟩, hB⟩ ⟨Bx, hBx, bX, rfl⟩ hlt
    have hv1 := hbx.cell
    have hx0 : W.cell? ⟨Bx, 0, none⟩ = some (.int .i64 x.1) := by simp [World.cell?, show W.heap[Bx]? = _ from bX]
    have hx1 : W.cell? ⟨Bx, 1, none⟩ = some (.int .i64 x.2) := by simp [World.cell?, show W.heap[Bx]? = _ from bX]
    have hd : 1 ≤ 3 - 1 - 1 := by omega
    have hle : w.heap.size ≤ W.heap.size := hB.size
    obtain ⟨k, hk⟩ : ∃ k, k = pre.length := ⟨_, rfl⟩
    have HK := Lib.hid hk
    have HROW : Hid ((W.alloc (.cells #[.int .i64 x.1, .int .i64 x.2] 48)).ownsRow w.heap.size 48 2 v k (rw2 pre)) := Lib.hid (by rw [hk]; exact hrow.alloc _)
    have hbd : k ≤ 100001 := by rw [hk]; omega
    have HNW : Hid (∀ j u, ([.int .i64 x.1, .int .i64 x.2] : List Value)[j]? = some u → (W.alloc (.cells #[.int .i64 x.1, .int .i64 x.2] 48)).cell? ((⟨W.heap.size, 0, none⟩ : Addr).add j) = some u) := Lib.hid (news_at W #[.int .i64 x.1, .int .i64 x.2] 48 [.int .i64 x.1, .int .i64 x.2] rfl)
    have H1 := Lib.hid (one2 x.1 x.2)
    clear hk
    gi_wp2_with (gi_at_builtin; refine wpListIn_append_own_at _ rfl _ _ 22 rfl w.heap.size 48 i0 (.agg #[.int .i64 0, .int .i64 0]) 2 16 Try.underlying22 hi hz0 hz1 hz2 rfl (by decide) v k (rw2 pre) rfl HROW.out ⟨W.heap.size, 0, none⟩ 1 1 [.int .i64 x.1, .int .i64 x.2] rfl rfl HNW.out H1.out (by unfold maxLen; omega) (by omega) (by simp; omega) ?_; intro v' w1 hown' hgrow _ hat; obtain ⟨g', cap', rfl⟩ := ownsRow_succ hown'; obtain ⟨hv1', hv2, hr2, hk2, hb2⟩ := hbx.appended (by decide) hrow hle (Nat.le_refl _) hown' hgrow; have hc1 := hv1'.cell; have hf1 := hv1'.frozen)
    have hrow2 : rowOf w.heap.size (w1.setCell ⟨w.heap.size, 0, none⟩ (.slice (some ⟨g', 0, none⟩) (k + 1) cap')) = some g' := by rw [box_row hv2]; rfl
    have hg1 : g' < w1.heap.size := (hown'.lt g' rfl).2
    have hw1 : W.heap.size + 1 ≤ w1.heap.size := by have := hgrow.size; simp at this; exact this
    refine ⟨hk2.from _, ⟨hb2, ?_, ?_⟩, ⟨⟨_, hv2, ?_, trivial⟩, hB.trans hb2⟩⟩
    · intro j hj
      rw [hrow2] at hj
      cases hj
      rw [box_row hbx]
      rcases hat with h | h
      · exact .inl h.symm
      · right
        simp [Value.ownBlock] at h
        subst h
        refine ⟨by omega, ?_⟩
        simp; omega
    · intro j p h1 h2 h3 h4
      rw [box_row hbx] at h2
      have hjl := (Array.getElem?_eq_some_iff.1 h3).1
      rw [Below.heap_setCell _ _ _ j h1, hgrow.block j (by simp; omega) (fun e => h2 e.symm)]
      exact (Below.heap_alloc W _ j hjl).trans h3
    · rw [List.length_append, rw2_app, ← HK.out]
      exact hr2
  case done =>
    rintro D ys W hD rfl ⟨⟨v, hbx, hrow, _⟩, hB⟩ hK
    have hv1 := hbx.cell
    gi_wp2
    refine ⟨by simp, .inl ⟨_, _, rfl, run_takeDeferred hK, ?_⟩⟩
    refine ⟨_, results_tmp rfl _ _ _, _, rfl, ?_, hB.trans (belowK_b (w := w) (Nat.le_refl _) W D _ _ (by omega) hK rfl rfl)⟩
    exact ownsRow_putObj hrow _ hK rfl
  case stop =>
    rintro D c pre W _ _ h _
    exact h.elim
end Go.Proofs.Ytlngdohkoeognaa

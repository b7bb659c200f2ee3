/- Layer 6: ranges sorted by their beginnings; the union of ranges. -/
import Derived.Test.YtlngdohkoeognaaBH
import Derived.Test.YtlngdohkoeognaaShelfB
namespace Go.Proofs.Ytlngdohkoeognaa
open Go.RowKit Go.Maps
open Go.Sort (grow HoldsK)
abbrev enc2 (r : Rg) : List Value := [.int .i64 r.1, .int .i64 r.2]
set_option maxHeartbeats 1000000 in
theorem cmp54 (x y : Rg) (W : World) : Calls Try.prog 54 #[.agg #[.int .i64 x.1, .int .i64 x.2], .agg #[.int .i64 y.1, .int .i64 y.2]] W fun e w' => e = .returned (.int .i64 (Lib.compareInt x.1 y.1)) ∧ ∃ q os', w' = grow (W.drewN q) os' := by
  have hcon := fun W' => AnyG.cmp_Compare_int Try.cmpI x.1 y.1 W'
  change ∀ W', Calls Try.prog 55 _ _ _ at hcon
  generalize Lib.compareInt x.1 y.1 = r at hcon ⊢
  go_enter Try.func54, Try.ntmps54
  go_wp2_with (go_at_call 55; refine (hcon _).mono ?_; rintro e w' ⟨rfl, rfl⟩)
  go_ret
  exact ⟨rfl, 0, _, by rw [Sort.alloc_eq_grow, Sort.alloc_eq_grow, Sort.grow_grow]; rfl⟩
theorem ltF (x y : Rg) : Go.Proofs.ltOf (fun x y : Rg => Lib.compareInt x.1 y.1) x y = decide (x.1 < y.1) := by
  unfold Go.Proofs.ltOf Lib.compareInt
  by_cases h1 : x.1 < y.1
  · simp [h1]
  · by_cases h2 : y.1 < x.1 <;> simp [h1, h2]
theorem swoF : Sort.SWO (Go.Proofs.ltOf fun x y : Rg => Lib.compareInt x.1 y.1) where
  irrefl x := by rw [ltF]; simp
  trans x y z h1 h2 := by rw [ltF] at *; simp at *; omega
  ntrans x y z h1 h2 := by rw [ltF] at *; simp at *; omega
theorem bangR (L : List Rg) (i : Nat) (h : i < L.length) : L.toArray[i]! = gR L i := by
  simp [gR, h]
theorem own_holdsK {w : World} {B q cap : Nat} {L : List Rg} (h : Own w B (.slice (some ⟨q, 0, none⟩) L.length cap) L) : HoldsK enc2 2 w q 0 L.toArray := by
  unfold Own at h
  intro j hj
  have hj' : j < L.length * 2 := by simpa using hj
  rw [Sort.get_flatK _ _ _ _ (by simpa using hj'), Nat.zero_add]
  refine ⟨?_, h.frozenAt j⟩
  rw [h.cellAt j hj', bangR L (j / 2) (by omega)]
  obtain ⟨a0, a1⟩ := rw2_at L (j / 2) (by omega)
  rcases (by omega : j = j / 2 * 2 ∨ j = j / 2 * 2 + 1) with e | e
  · have e2 : j % 2 = 0 := by omega
    rw [e2]
    rw [← e] at a0
    rw [a0]
    rfl
  · have e2 : j % 2 = 1 := by omega
    rw [e2]
    rw [← e] at a1
    rw [a1]
    rfl
theorem holdsK_view {w : World} {q : Nat} {d : Array Rg} (h : HoldsK enc2 2 w q 0 d) (hq : q < w.heap.size) : RV w (some ⟨q, 0, none⟩) d.toList := by
  intro i hi
  have hi' : i < d.size := by simpa using hi
  have e : gR d.toList i = d[i]! := by
    rw [← bangR d.toList i hi]
  refine ⟨q, 0, rfl, hq, ?_, ?_⟩
  · have := (h.cell (i := i) (c := 0) hi' (by decide)).1
    rw [e]
    simpa using this
  · have := (h.cell (i := i) (c := 1) hi' (by decide)).1
    rw [e]
    simpa using this
theorem sortK_below {B q n : Nat} {w0 w : World} (hb : Below B w0 w) (hB : B ≤ q) (hq : B ≤ w.heap.size) (d : Array Rg) (os : Array Obj) : Below B w0 (sortWorldK enc2 2 w q 0 n d os) := by
  have hp : (Sort.putRowK enc2 2 (Sort.ahead w n) q 0 d).heap.size = w.heap.size := by
    simp [Sort.putRowK, Sort.putRow, Sort.mapBlock, Sort.ahead]
  refine ⟨hb.os, hb.tape, hb.output, ?_, fun i hi => ?_⟩
  · refine Nat.le_trans hb.size ?_
    unfold sortWorldK Sort.grow
    simp only [Array.size_append]
    rw [hp]; omega
  · rw [← hb.block i hi]
    unfold sortWorldK
    rw [Sort.heap_grow_old _ _ (by rw [hp]; omega)]
    unfold Sort.putRowK Sort.putRow Sort.mapBlock Sort.ahead
    simp only
    rw [Array.getElem?_modify, if_neg (by omega)]
def SortPost (w0 : World) (q : Nat) (L : List Rg) (e : Ending) (w' : World) : Prop := e = .returned (.tuple #[]) ∧ ∃ S : List Rg, S.Perm L ∧ S.Pairwise (fun a b => a.1 ≤ b.1) ∧ RV w' (some ⟨q, 0, none⟩) S ∧ Below w0.heap.size w0 w'
theorem sortr_any {w0 : World} (q cap : Nat) (L : List Rg) (w : World) (hb : Below w0.heap.size w0 w) (ho : Own w w0.heap.size (.slice (some ⟨q, 0, none⟩) L.length cap) L) (hm : L.length ≤ 1000000) :
    Calls Try.prog 53 #[.slice (some ⟨q, 0, none⟩) L.length cap, .func (.func 54) #[] #[]] w (SortPost w0 q L) := by
  have hH := own_holdsK ho
  obtain ⟨hB, hq⟩ := ho.lt q rfl
  have eg : ∀ args w, (callFunc 54 args).run Try.prog w = .ok (.enter 54 args) w := enters_of Try.func54 (by kernel_rfl) rfl
  have hcmp : CmpLays Try.prog 54 #[] enc2 2 (fun x y => Lib.compareInt x.1 y.1) q 0 L.toArray.size w := fun _ _ _ _ x y => cmp54 x y _
  have hS := AnyQ.slices_SortFunc Try.sortR 2 Try.isAgg48 Try.sizeOf48 enc2 (fun _ => rfl) (fun x v hv => by simp at hv; rcases hv with rfl | rfl <;> rfl) (fun x y => Lib.compareInt x.1 y.1) swoF 54 #[] q 0 cap L.toArray w eg hcmp hH hq (by simp; omega)
  change Calls Try.prog 53 _ _ _ at hS
  have hsz : L.toArray.size = L.length := by simp
  rw [hsz] at hS
  refine hS.mono ?_
  rintro e w' ⟨rfl, d', n, os, ⟨p1, _, p3⟩, hs, rfl⟩
  have hsd : d'.size = L.length := by simpa using p1
  refine ⟨rfl, d'.toList, ?_, ?_, holdsK_view (holdsK_sortWorldK enc2 2 w q 0 n L.toArray d' os hq hH p1) (lt_sortWorldK enc2 2 w q 0 n d' os hq), sortK_below hb hB hb.size d' os⟩
  · have h1 : (d'.extract 0 L.length) = d' := by rw [← hsd]; simp
    have h2 : (L.toArray.extract 0 L.length) = L.toArray := by simp
    rw [h1, h2] at p3
    simpa using p3
  · rw [List.pairwise_iff_getElem]
    intro i j hi hj hij
    have hj' : j < d'.size := by simpa using hj
    have hi' : i < d'.size := by simpa using hi
    have h := hs i j (Nat.zero_le _) hij (by omega)
    rw [ltF] at h
    simp only [decide_eq_false_iff_not] at h
    rw [getElem!_pos d' j hj', getElem!_pos d' i hi'] at h
    simp only [Array.getElem_toList]
    omega
end Go.Proofs.Ytlngdohkoeognaa

import Derived.Test.YtcnafgelfkfekaaE13
import Derived.Test.YtcnafgelfkfekaaSort
import Derived.Sort.Grow
namespace Go.Proofs.Ytcnafgelfkfekaa
open Go.RowKit

theorem cmp27 (x y : ByteArray) (W : World) : Calls Try.prog 27 #[.string x, .string y] W fun e w' => e = .returned (.int .i64 (cmpB x y)) ∧ ∃ q, w' = W.drewN q := by
  have h : Calls Try.prog 27 #[.string x, .string y] W fun e w' => e = .returned (.int .i64 (Lib.compareBytes x.data.toList y.data.toList)) ∧ W = w' := by
    go_enter Try.func27, Try.ntmps27
    go_wp2_with (go_at_call 39; refine (Try.strings_Compare x y _).mono ?_; rintro e w' ⟨rfl, rfl⟩)
    go_ret
    exact ⟨rfl, rfl⟩
  exact h.mono fun _ _ ⟨h1, h2⟩ => ⟨h1, 0, h2.symm⟩
theorem swoC : Sort.SWO (Go.Proofs.ltOf cmpB) where
  irrefl x := by
    have := (cmp_zero x x).2 rfl
    unfold Go.Proofs.ltOf; rw [this]; rfl
  trans x y z h1 h2 := by
    unfold Go.Proofs.ltOf at *
    simp only [decide_eq_true_eq] at *
    exact cmp_lt_le h1 (by omega)
  ntrans x y z h1 h2 := by
    unfold Go.Proofs.ltOf at *
    simp only [decide_eq_false_iff_not] at *
    have a := cmp_swap x y
    have b := cmp_swap y z
    have c := cmp_swap x z
    have := cmp_trans z y x (by omega) (by omega)
    omega
theorem totC (x y : ByteArray) (h1 : Go.Proofs.ltOf cmpB x y = false) (h2 : Go.Proofs.ltOf cmpB y x = false) : x = y := by
  unfold Go.Proofs.ltOf at *
  simp only [decide_eq_false_iff_not] at *
  have a := cmp_swap x y
  exact (cmp_zero x y).1 (by omega)
theorem geC : (fun x y : ByteArray => !Go.Proofs.ltOf cmpB y x) = leB := by
  funext x y
  unfold Go.Proofs.ltOf leB
  have a := cmp_swap x y
  by_cases h : cmpB x y ≤ 0
  · rw [decide_eq_true h, decide_eq_false (by omega)]; rfl
  · rw [decide_eq_false h, decide_eq_true (by omega)]; rfl
theorem bang_nth (L : List ByteArray) (j : Nat) (h : j < L.length) : L.toArray[j]! = nth L j := by
  unfold nth
  rw [List.getD, List.getElem?_eq_getElem h]
  simp [h]
theorem sort_world (b n : Nat) (L : List ByteArray) (w : World) (hl : L.length = n) (hb : b < w.heap.size) (hH : Go.Sort.Holds Value.string w b 0 L.toArray) (S : List ByteArray) (hS : S.length = n) (q : Nat) (os : Array Obj) :
    SView (sortWorld Value.string w b 0 q S.toArray os) (some ⟨b, 0, none⟩) n S ∧ Below b w (sortWorld Value.string w b 0 q S.toArray os) := by
  have hp : (Sort.putRow Value.string (Sort.ahead w q) b 0 S.toArray).heap.size = w.heap.size := by
    simp [Sort.putRow, Sort.mapBlock, Sort.ahead]
  have hH' : Go.Sort.Holds Value.string (Sort.ahead w q) b 0 L.toArray := Sort.holds_ahead _ _ _ _ _ _ hH
  refine ⟨⟨hS, fun k hk => ⟨b, 0, rfl, ?_, ?_⟩⟩, ⟨rfl, rfl, rfl, ?_, fun k hk => ?_⟩⟩
  · unfold sortWorld Sort.grow
    simp only [Array.size_append]
    rw [hp]; omega
  · unfold sortWorld
    rw [Sort.cell?_grow _ _ _ (by rw [hp]; exact hb)]
    have := Sort.cell?_putRow Value.string (Sort.ahead w q) b 0 L.toArray S.toArray hH' (by simp [hl, hS]) k (by simp; omega)
    rw [this, bang_nth S k (by omega)]
  · unfold sortWorld Sort.grow
    simp only [Array.size_append]
    rw [hp]; omega
  · unfold sortWorld
    rw [Sort.heap_grow_old _ _ (by rw [hp]; omega)]
    unfold Sort.putRow Sort.mapBlock Sort.ahead
    simp only
    rw [Array.getElem?_modify, if_neg (by omega)]
theorem own_holds {w : World} {B b n cap : Nat} {L : List ByteArray} (h : w.ownsRow B 45 1 (.slice (some ⟨b, 0, none⟩) n cap) n (L.map Value.string)) : Go.Sort.Holds Value.string w b 0 L.toArray := by
  have hl : L.length = n := by have := h.1; simpa using this
  intro j hj
  have hj' : j < L.length := by simpa using hj
  rw [Nat.zero_add]
  refine ⟨?_, h.frozenAt j⟩
  rw [h.cellAt j (by omega), bang_nth L j hj']
  unfold nth
  simp [List.getD, hj']
theorem sort26 (b cap n : Nat) (L : List ByteArray) (B : Nat) (w : World) (ho : w.ownsRow B 45 1 (.slice (some ⟨b, 0, none⟩) n cap) n (L.map Value.string)) (hn : n ≤ 5000) (hb : b < w.heap.size) :
    Calls Try.prog 26 #[.slice (some ⟨b, 0, none⟩) n cap, .func (.func 27) #[] #[]] w fun e w' => e = .returned (.tuple #[]) ∧ SView w' (some ⟨b, 0, none⟩) n (srt L) ∧ Below b w w' := by
  have hl : L.length = n := by have := ho.1; simpa using this
  have hH := own_holds ho
  have eg : ∀ args w, (callFunc 27 args).run Try.prog w = .ok (.enter 27 args) w := enters_of Try.func27 (by kernel_rfl) rfl
  have hcmp : CmpReads Try.prog 27 #[] Value.string cmpB b 0 L.toArray.size w := fun _ _ _ _ x y => cmp27 x y _
  have hS := Any.slices_SortFunc_total Try.sortL Value.string (fun _ => rfl) cmpB swoC 27 #[] b 0 cap L.toArray w eg hcmp.lays hH hb (by simp; omega) totC
  change Calls Try.prog 26 _ _ _ at hS
  rw [geC] at hS
  have hsz : L.toArray.size = n := by simp [hl]
  rw [hsz] at hS
  refine hS.mono ?_
  rintro e w' ⟨rfl, q, os, rfl⟩
  have := sort_world b n L w hl hb hH (srt L) (by rw [srt_len, hl]) q os
  exact ⟨rfl, this.1, this.2⟩
end Go.Proofs.Ytcnafgelfkfekaa

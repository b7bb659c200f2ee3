import Derived.Test.YtfphejndbnmfeaaK0
import Derived.Laws.Rows
namespace Go.Proofs.Ytfphejndbnmfeaa
open Go.RowKit

/-- Does a type fit another one, by their wrappers, the names being the same or not? -/
def bad (L : List Int) : Bool := decide (0 < L.length) && (L.getD 0 0 != 1) && (L.getD 0 0 != 2)
def lst (L : List Int) : Bool := decide (0 < L.length) && (L.getD 0 0 == 2)
def fitsF (same : Bool) : Nat → List Int → List Int → Bool
  | 0, _, _ => false
  | f + 1, A, B =>
    if bad B || bad A then false
    else if non B then (if non A then fitsF same f A.tail B.tail else false)
    else if lst B && lst A then fitsF same f A.tail B.tail
    else if decide (B.length = 0) && decide (A.length = 0) then same
    else if non A then fitsF same f A.tail B else false
def fits (n1 : ByteArray) (A : List Int) (n2 : ByteArray) (B : List Int) : Bool := fitsF (n1.toList == n2.toList) (A.length + B.length + 1) A B

theorem info25 : (Try.prog.info? 36).map (·.size) = some 2 := by
  have h := Try.typeInfo36 default
  unfold typeInfo at h
  cases hq : Try.prog.info? 36 with
  | none => simp [hq] at h
  | some i =>
    simp [hq] at h
    rw [h]; rfl
theorem ret_row {R : Ending → World → Prop} {fn : Func} {tmps : Array Value} {w : World} {g : Nat} {cs : Array Value} (hr : fn.results = #[.cell 2 36]) (h2 : tmps.getD 2 undef = .pointer (some ⟨g, 0, none⟩)) (hg : w.heap[g]? = some (.cells cs 36)) (hs : cs.size = 2)
    (hR : R (.returned (.agg cs)) w) : bodyPost Try.prog fn R .ret ⟨tmps, []⟩ w := by
  refine bodyPost_ret (v := .agg cs) ?_ rfl hR
  exact results_cell_row hr tmps w g 36 cs (0, 0) _ h2 hg Try.underlying36 rfl (by rw [info25, hs])
theorem within_list (nm : ByteArray) (a : Option Addr) (len cap : Nat) (w : World) :
    Calls Try.prog 31 #[refV nm a len cap] w fun e w' => e = .returned (refV nm a len cap) ∧ Below w.heap.size w w' := by
  have hA : ((w.alloc (.cells #[.string nm, .slice a len cap] 61)).alloc (.cells #[.string nm, .slice a len cap] 36)).heap[w.heap.size + 1]? = some (.cells #[.string nm, .slice a len cap] 36) := by
    have := heap_alloc_new (w.alloc (.cells #[.string nm, .slice a len cap] 61)) (.cells #[.string nm, .slice a len cap] 36)
    simpa using this
  have HA := Lib.hid hA
  clear hA
  unfold refV
  go_enter Try.func31, Try.ntmps31
  go_wp2_with fail
  exact ret_row Try.results31 rfl HA.out rfl ⟨rfl, ((Below.refl _ w).alloc (Nat.le_refl _) _).alloc (by simp) _⟩
theorem within_non (nm : ByteArray) (a : Option Addr) (len cap : Nat) (w : World) :
    Calls Try.prog 30 #[refV nm a len cap] w fun e w' => e = .returned (refV nm a len cap) ∧ Below w.heap.size w w' := by
  have hA : ((w.alloc (.cells #[.string nm, .slice a len cap] 58)).alloc (.cells #[.string nm, .slice a len cap] 36)).heap[w.heap.size + 1]? = some (.cells #[.string nm, .slice a len cap] 36) := by
    have := heap_alloc_new (w.alloc (.cells #[.string nm, .slice a len cap] 58)) (.cells #[.string nm, .slice a len cap] 36)
    simpa using this
  have HA := Lib.hid hA
  clear hA
  unfold refV
  go_enter Try.func30, Try.ntmps30
  go_wp2_with fail
  exact ret_row Try.results30 rfl HA.out rfl ⟨rfl, ((Below.refl _ w).alloc (Nat.le_refl _) _).alloc (by simp) _⟩
theorem within_name (nm : ByteArray) (a : Option Addr) (len cap : Nat) (w : World) :
    Calls Try.prog 32 #[refV nm a len cap] w fun e w' => e = .returned (refV nm a len cap) ∧ Below w.heap.size w w' := by
  have hA : ((w.alloc (.cells #[.string nm, .slice a len cap] 64)).alloc (.cells #[.string nm, .slice a len cap] 36)).heap[w.heap.size + 1]? = some (.cells #[.string nm, .slice a len cap] 36) := by
    have := heap_alloc_new (w.alloc (.cells #[.string nm, .slice a len cap] 64)) (.cells #[.string nm, .slice a len cap] 36)
    simpa using this
  have HA := Lib.hid hA
  clear hA
  unfold refV
  go_enter Try.func32, Try.ntmps32
  go_wp2_with fail
  exact ret_row Try.results32 rfl HA.out rfl ⟨rfl, ((Below.refl _ w).alloc (Nat.le_refl _) _).alloc (by simp) _⟩
/-- A variable of a type lies in a block of its own. -/
def Box (w : World) (b : Nat) (nm : ByteArray) (a : Option Addr) (len cap : Nat) : Prop := w.heap[b]? = some (.cells #[.string nm, .slice a len cap] 36)
theorem Box.below {w w' : World} {b B : Nat} {nm : ByteArray} {a : Option Addr} {len cap : Nat} (h : Box w b nm a len cap) (hb : Below B w w') (hB : b < B) : Box w' b nm a len cap := by
  unfold Box at h ⊢; rw [hb.block b hB]; exact h
theorem Box.lt {w : World} {b : Nat} {nm : ByteArray} {a : Option Addr} {len cap : Nat} (h : Box w b nm a len cap) : b < w.heap.size := (Array.getElem?_eq_some_iff.1 h).1
theorem Box.up {w w' : World} {b : Nat} {nm : ByteArray} {a : Option Addr} {len cap : Nat} (h : Box w b nm a len cap) (hb : Below w.heap.size w w') : Box w' b nm a len cap := h.below hb h.lt
theorem Box.c0 {w : World} {b : Nat} {nm : ByteArray} {a : Option Addr} {len cap : Nat} (h : Box w b nm a len cap) : w.cell? ⟨b, 0, none⟩ = some (.string nm) := by
  unfold Box at h; simp [World.cell?, h]
theorem Box.c1 {w : World} {b : Nat} {nm : ByteArray} {a : Option Addr} {len cap : Nat} (h : Box w b nm a len cap) : w.cell? ⟨b, 1, none⟩ = some (.slice a len cap) := by
  unfold Box at h; simp [World.cell?, h]
theorem Box.fz {w : World} {b : Nat} {nm : ByteArray} {a : Option Addr} {len cap : Nat} (h : Box w b nm a len cap) (i : Nat) : w.frozen? ⟨b, i, none⟩ = false := by
  unfold Box at h; simp [World.frozen?, h]
theorem heap_setCell (w : World) (b i : Nat) (v : Value) (j : Nat) : (w.setCell ⟨b, i, none⟩ v).heap[j]? = if b = j then (w.heap[j]?).map (fun | .cells c e f => .cells (c.setIfInBounds i v) e f | o => o) else w.heap[j]? := by
  show (w.heap.modify b _)[j]? = _
  rw [Array.getElem?_modify]
  split
  · cases w.heap[j]? with
    | none => rfl
    | some o => cases o <;> rfl
  · rfl
/-- A whole type is stored. -/
theorem Box.set {w : World} {b : Nat} {nm : ByteArray} {a : Option Addr} {len cap : Nat} (h : Box w b nm a len cap) (nm' : ByteArray) (a' : Option Addr) (len' cap' : Nat) :
    Box ((w.setCell ⟨b, 0, none⟩ (.string nm')).setCell ⟨b, 1, none⟩ (.slice a' len' cap')) b nm' a' len' cap' := by
  unfold Box at h ⊢
  rw [heap_setCell, if_pos rfl, heap_setCell, if_pos rfl, h]
  rfl
theorem Box.other {w : World} {b c : Nat} {nm : ByteArray} {a : Option Addr} {len cap : Nat} (h : Box w c nm a len cap) (hne : b ≠ c) (u v : Value) :
    Box ((w.setCell ⟨b, 0, none⟩ u).setCell ⟨b, 1, none⟩ v) c nm a len cap := by
  unfold Box at h ⊢
  rw [heap_setCell, if_neg hne, heap_setCell, if_neg hne]; exact h
theorem below_set {B : Nat} {w0 w : World} (h : Below B w0 w) {b : Nat} (hb : B ≤ b) (u v : Value) : Below B w0 ((w.setCell ⟨b, 0, none⟩ u).setCell ⟨b, 1, none⟩ v) :=
  (h.setCell hb u).setCell hb v
end Go.Proofs.Ytfphejndbnmfeaa

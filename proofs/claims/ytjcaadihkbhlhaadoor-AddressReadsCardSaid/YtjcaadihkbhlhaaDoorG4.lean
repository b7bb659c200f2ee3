import Derived.Test.YtjcaadihkbhlhaaDoorG3
import Derived.Test.YtjcaadihkbhlhaaDoorE3
import Derived.Deep.DeepCutAuto
namespace Go.Proofs.YtjcaadihkbhlhaaDoor
open Go.RowKit
/-- A variable's block, known whole. -/
def VB (W : World) (b : Nat) (cs : Array Value) (T : TypeId) : Prop := W.heap[b]? = some (.cells cs T)
theorem VB.lt {W : World} {b : Nat} {cs : Array Value} {T : TypeId} (h : VB W b cs T) : b < W.heap.size := (Array.getElem?_eq_some_iff.1 h).1
theorem VB.below {W W' : World} {b B : Nat} {cs : Array Value} {T : TypeId} (h : VB W b cs T) (hb : Below B W W') (hB : b < B) : VB W' b cs T := (hb.block b hB).trans h
theorem VB.up {W W' : World} {b : Nat} {cs : Array Value} {T : TypeId} (h : VB W b cs T) (hb : Below W.heap.size W W') : VB W' b cs T := h.below hb h.lt
theorem VB.cell {W : World} {b : Nat} {cs : Array Value} {T : TypeId} (h : VB W b cs T) (i : Nat) : W.cell? ⟨b, i, none⟩ = cs[i]? := by
  unfold VB at h; simp [World.cell?, h]
theorem VB.fz {W : World} {b : Nat} {cs : Array Value} {T : TypeId} (h : VB W b cs T) (i : Nat) : W.frozen? ⟨b, i, none⟩ = false := by
  unfold VB at h; simp [World.frozen?, h]
theorem VB.dr {W : World} {b : Nat} {cs : Array Value} {T : TypeId} (h : VB W b cs T) (n : Nat) : VB (W.drewN n) b cs T := h
theorem VB.drew {W : World} {b : Nat} {cs : Array Value} {T : TypeId} (h : VB W b cs T) : VB W.drew b cs T := h
theorem VB.new (W : World) (cs : Array Value) (T : TypeId) : VB (W.alloc (.cells cs T)) W.heap.size cs T := heap_alloc_new W _
theorem heap_setCell (w : World) (b i : Nat) (v : Value) (j : Nat) : (w.setCell ⟨b, i, none⟩ v).heap[j]? = if b = j then (w.heap[j]?).map (fun | .cells c e f => .cells (c.setIfInBounds i v) e f | o => o) else w.heap[j]? := by
  show (w.heap.modify b _)[j]? = _
  rw [Array.getElem?_modify]
  split
  · cases w.heap[j]? with
    | none => rfl
    | some o => cases o <;> rfl
  · rfl
theorem VB.set {W : World} {b : Nat} {cs : Array Value} {T : TypeId} (h : VB W b cs T) (i : Nat) (v : Value) : VB (W.setCell ⟨b, i, none⟩ v) b (cs.setIfInBounds i v) T := by
  unfold VB at h ⊢
  rw [heap_setCell, if_pos rfl, h]
  rfl
theorem VB.other {W : World} {b c : Nat} {cs : Array Value} {T : TypeId} (h : VB W b cs T) (hne : c ≠ b) (i : Nat) (v : Value) : VB (W.setCell ⟨c, i, none⟩ v) b cs T := by
  unfold VB at h ⊢
  rw [heap_setCell, if_neg hne]; exact h
/-- Where a scheme's mark stands. -/
def ixS (R : ByteArray) : Int := Lib.index R.data.toList [58, 47, 47]
def atU (R : ByteArray) : Int := Lib.indexByte R.data.toList 64
def enU (R : ByteArray) : Int := Lib.indexAny R.data.toList [47, 63]
set_option maxRecDepth 20000 in
set_option maxHeartbeats 1000000 in
theorem cutA_no (k : Nat) (R : ByteArray) (m : Int) (W : World) (hR : VB W k #[.string R] 9) (hm : W.cell? ⟨0, 0, none⟩ = some (.int .i64 m)) (hs : R.size < 4294967281) (hi : ixS R < 0) :
    Calls Tryd.prog 16 #[.string ⟨#[58, 47, 47]⟩, .string ⟨#[]⟩, .pointer (some ⟨k, 0, none⟩)] W fun e w' => e = .returned (.tuple #[.string ⟨#[]⟩, .bool false]) ∧ w' = W := by
  have CI := Lib.hid (Tryd.strings_Index R ⟨#[58, 47, 47]⟩ m W hs hm)
  have e0 : ixS R = Lib.index R.data.toList (⟨#[58, 47, 47]⟩ : ByteArray).data.toList := rfl
  rw [← e0] at CI
  have CA := Lib.hid (Tryd.strings_IndexAny_none R ⟨#[]⟩ W rfl)
  obtain ⟨i, hie⟩ : ∃ i, i = ixS R := ⟨_, rfl⟩
  rw [← hie] at CI hi
  obtain ⟨j, hj⟩ : ∃ j, j = Lib.indexAny R.data.toList (⟨#[]⟩ : ByteArray).data.toList := ⟨_, rfl⟩
  rw [← hj] at CA
  have c0 : W.cell? ⟨k, 0, none⟩ = some (.string R) := hR.cell 0
  clear hm hs e0 hie hj hR
  go_enter Tryd.func16, Tryd.ntmps16
  go_wp2_with (first | (go_at_call 17; refine CI.out.mono ?_; rintro e w' ⟨rfl, rfl⟩) | (go_at_call 18; refine CA.out.mono ?_; rintro e w' ⟨rfl, rfl⟩))
  go_ret2
  exact ⟨rfl, rfl⟩
set_option maxRecDepth 20000 in
set_option maxHeartbeats 1000000 in
theorem cutA_yes (k : Nat) (R : ByteArray) (m : Int) (W : World) (hR : VB W k #[.string R] 9) (hm : W.cell? ⟨0, 0, none⟩ = some (.int .i64 m)) (hs : R.size < 4294967281) (i : Nat) (hi : ixS R = i) (hr : i + 3 ≤ R.size) :
    Calls Tryd.prog 16 #[.string ⟨#[58, 47, 47]⟩, .string ⟨#[]⟩, .pointer (some ⟨k, 0, none⟩)] W fun e w' => e = .returned (.tuple #[.string (R.extract 0 i), .bool true]) ∧ w' = W.setCell ⟨k, 0, none⟩ (.string (R.extract (i + 3) R.size)) := by
  have CI := Lib.hid (Tryd.strings_Index R ⟨#[58, 47, 47]⟩ m W hs hm)
  have e0 : ixS R = Lib.index R.data.toList (⟨#[58, 47, 47]⟩ : ByteArray).data.toList := rfl
  rw [← e0, hi] at CI
  have CA := Lib.hid (Tryd.strings_IndexAny_none R ⟨#[]⟩ W rfl)
  rw [show Lib.indexAny R.data.toList (⟨#[]⟩ : ByteArray).data.toList = -1 from Lib.indexAny_nil _] at CA
  have c0 : W.cell? ⟨k, 0, none⟩ = some (.string R) := hR.cell 0
  have f0 : W.frozen? ⟨k, 0, none⟩ = false := hR.fz 0
  have h1 : (i : Int) ≤ R.size := by omega
  have h2 : (i : Int) + 3 ≤ R.size := by omega
  have h3 : (0 : Int) ≤ (i : Int) := by omega
  have h4 : (R.size : Int) ≤ 9223372036854775807 := by omega
  clear hm hs e0 hR hi hr
  go_enter Tryd.func16, Tryd.ntmps16
  go_wp2_with (first | (go_at_call 17; refine CI.out.mono ?_; rintro e w' ⟨rfl, rfl⟩) | (go_at_call 18; refine CA.out.mono ?_; rintro e w' ⟨rfl, rfl⟩))
  go_ret2
  exact ⟨rfl, rfl⟩
end Go.Proofs.YtjcaadihkbhlhaaDoor

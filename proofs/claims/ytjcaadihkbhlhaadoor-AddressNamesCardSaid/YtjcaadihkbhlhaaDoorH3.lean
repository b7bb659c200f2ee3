import Derived.Test.YtjcaadihkbhlhaaDoorShelf
import Derived.Test.YtjcaadihkbhlhaaDoorH1
import Derived.Test.YtjcaadihkbhlhaaDoorH2
import Derived.Test.YtjcaadihkbhlhaaDoorG4
namespace Go.Proofs.YtjcaadihkbhlhaaDoor
open Go.RowKit
theorem wstr (B b : Nat) (bs : List Value) (s : ByteArray) (w : World) (h : Lib.IsBuilderF 66 5 B b bs w) (hlen : bs.length + s.size ≤ 140737488355328) (hBw : B ≤ w.heap.size) :
    Calls Tryd.prog 48 #[.pointer (some ⟨b, 0, none⟩), .string s] w fun e w' => e = .returned (.tuple #[.int .i64 s.size, .nilIface]) ∧ (Lib.BuilderAtF 66 5 B b (.pointer (some ⟨b, 0, none⟩)) (bs ++ Lib.strCells s) w' ∧ Below B w w') :=
  Any.Builder_WriteString_f { Tryd.lays159 with } Tryd.Builder_Extra_159 B b bs s w h hlen hBw
theorem at_up {T e : TypeId} {B b : Nat} {p : Value} {bs : List Value} {w w' : World} (h : Lib.BuilderAtF T e B b p bs w) (hb : Below w.heap.size w w') : Lib.BuilderAtF T e B b p bs w' := by
  obtain ⟨hB, v, h1, hown, hne⟩ := h
  refine ⟨hB, v, (hb.block b (Array.getElem?_eq_some_iff.1 h1).1).trans h1, ⟨hown.1, ?_⟩, hne⟩
  rcases hown.2 with hn | ⟨g, cap, cur, fz, hv, hbg, hg, rest⟩
  · exact .inl hn
  · exact .inr ⟨g, cap, cur, fz, hv, hbg, (hb.block g (Array.getElem?_eq_some_iff.1 hg).1).trans hg, rest⟩
theorem ib_up {T e : TypeId} {B b : Nat} {bs : List Value} {w w' : World} (h : Lib.IsBuilderF T e B b bs w) (hb : Below w.heap.size w w') : Lib.IsBuilderF T e B b bs w' :=
  h.elim (fun x => .inl (at_up x hb)) (fun x => .inr (at_up x hb))
theorem ib_lt {T e : TypeId} {B b : Nat} {bs : List Value} {w : World} (h : Lib.IsBuilderF T e B b bs w) : b < w.heap.size := h.elim (fun x => x.lt) (fun x => x.lt)
set_option maxRecDepth 20000 in
theorem lower_any (s : ByteArray) (w : World) (hs : s.size ≤ 140737488355328) (ha : ∀ (j : Nat) (b : UInt8), s.data.toList[j]? = some b → b.toNat < 128) :
    Calls Tryd.prog 23 #[.string s] w fun e w' => e = .returned (.string ⟨(Lib.toLowerA s.data.toList).toArray⟩) ∧ Below w.heap.size w w' := by
  have CL := Lib.hid (Tryd.strings_ToLower_ascii s w hs ha)
  obtain ⟨L, hL⟩ : ∃ L : ByteArray, L = ⟨(Lib.toLowerA s.data.toList).toArray⟩ := ⟨_, rfl⟩
  rw [← hL] at CL ⊢
  clear hL hs ha
  go_enter Tryd.func23, Tryd.ntmps23
  go_wp2_with fail
  refine CL.out.mono ?_
  rintro e w1 ⟨rfl, b1⟩
  have B1 := Lib.hid b1
  clear b1
  go_wp2_with fail
  go_ret
  exact ⟨rfl, B1.out⟩
/-- What a turn makes of one byte. -/
def Turns (fid : FuncId) (f : UInt8 → UInt8) : Prop := ∀ (c : UInt8) (W : World), c.toNat < 128 → Calls Tryd.prog fid #[.string ⟨#[c]⟩] W fun e w' => e = .returned (.string ⟨#[f c]⟩) ∧ Below W.heap.size W w'
theorem turns_lower : Turns 23 Lib.lowerB := fun c W h =>
  (lower_any ⟨#[c]⟩ W (by show 1 ≤ _; decide) (fun j b hj => by
    have e : (⟨#[c]⟩ : ByteArray).data.toList = [c] := rfl
    rw [e] at hj
    have := List.mem_of_getElem? hj
    simp at this
    rw [this]; exact h)).mono fun e w' z => ⟨z.1, z.2⟩
set_option maxRecDepth 20000 in
theorem turns_asis : Turns 25 id := by
  intro c W _
  go_enter Tryd.func25, Tryd.ntmps25
  go_wp2_with fail
  go_ret
  exact ⟨rfl, Below.refl _ _⟩
/-- A digit to the base of 16, great. -/
def digU (n : Nat) : UInt8 := if n < 10 then UInt8.ofNat (48 + n) else UInt8.ofNat (55 + n)
/-- A part whose escapes are in one way. -/
def stl (f : UInt8 → UInt8) : List UInt8 → List UInt8
  | [] => []
  | b :: r => if esc (b :: r) then (if freeB (UInt8.ofNat (escV (b :: r))) then [f (UInt8.ofNat (escV (b :: r)))] else [37, digU (escV (b :: r) / 16), digU (escV (b :: r) % 16)]) ++ stl f (r.drop 2) else f b :: stl f r
termination_by l => l.length
decreasing_by all_goals simp; try omega
theorem stl_nil (f : UInt8 → UInt8) : stl f [] = [] := by rw [stl]
theorem stl_at (f : UInt8 → UInt8) (s : ByteArray) (i : Nat) (h : i < s.size) : stl f (s.data.toList.drop i) =
    if esc (s.data.toList.drop i) then (if freeB (UInt8.ofNat (escV (s.data.toList.drop i))) then [f (UInt8.ofNat (escV (s.data.toList.drop i)))] else [37, digU (escV (s.data.toList.drop i) / 16), digU (escV (s.data.toList.drop i) % 16)]) ++ stl f (s.data.toList.drop (i + 3)) else f s[i] :: stl f (s.data.toList.drop (i + 1)) := by
  rw [drop_at s i h, stl, List.drop_drop]
theorem free4 (b : UInt8) : (flat base4).contains b = freeB b := free_set b
theorem free_ascii (b : UInt8) (h : freeB b = true) : b.toNat < 128 := by
  have := by256 (P := fun b => !freeB b || decide (b.toNat < 128)) (by decide +kernel) b
  rw [h] at this
  simpa using this
end Go.Proofs.YtjcaadihkbhlhaaDoor

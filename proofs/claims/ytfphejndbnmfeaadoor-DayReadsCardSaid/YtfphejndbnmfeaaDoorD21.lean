import Derived.Test.YtfphejndbnmfeaaDoorD20
import Derived.Test.YtfphejndbnmfeaaDoorD12
import Derived.Test.YtfphejndbnmfeaaDoorDFrame
import Derived.WideShapes
namespace Go.Proofs.YtfphejndbnmfeaaDoor
open Go.RowKit

theorem Tabs.up {w w' : World} (h : Tabs w) (hb : Below w.heap.size w w') (h2 : 2 < w.heap.size) : Tabs w' :=
  ⟨h.1.below hb h.1.1, h.2.1.stay hb (Nat.le_refl _), ML.below h.2.2 hb h2⟩
theorem Tabs.size {w : World} (h : Tabs w) : 2 < w.heap.size := by
  obtain ⟨m, hm⟩ := h.2.2
  apply Classical.byContradiction
  intro hn
  have : w.heap[2]? = none := Array.getElem?_eq_none (by omega)
  unfold World.cell? at hm
  rw [this] at hm
  cases hm
theorem Tabs.on {w w' : World} (h : Tabs w) (hb : Below w.heap.size w w') : Tabs w' := h.up hb h.size
theorem parse_t (s : ByteArray) (w : World) (h : Tabs w) (hs : s.size ≤ maxLen) :
    Calls Tryd.prog 14 #[.string s] w fun e w' => e = .returned (.tuple #[.agg #[.int .i64 (pS s), .int .i64 (pN s)], .int .i64 (pE s)]) ∧ Below w.heap.size w w' :=
  parse_any s w h.1 h.2.2 h.size hs
/-- What a text tells, and the text of what it tells. -/
def Reads (t : ByteArray) (S N : Nat) (x : ByteArray) : Prop := pS t = S ∧ pN t = N ∧ pE t = 0 ∧ may S N = true ∧ ∀ s : ByteArray, TextOf S N s.data.toList → s = x
set_option maxRecDepth 10000 in
theorem reads_yes (t x : ByteArray) (S N : Nat) (w : World) (hT : Tabs w) (ht : t.size ≤ maxLen) (h : Reads t S N x) :
    Calls Tryd.prog 18 #[.string t, .int .i64 S, .int .i64 N, .string x] w fun e w' => e = .returned (.bool true) ∧ Below w.heap.size w w' := by
  obtain ⟨h1, h2, h3, hm, hx⟩ := h
  have HP := Lib.hid (parse_t t w hT ht)
  rw [h1, h2, h3] at HP
  have HTT := Lib.hid (fun W (hb : Below w.heap.size w W) => text_ok S N W (hT.on hb).1 (hT.on hb).2.1 hm)
  have HX := Lib.hid hx
  obtain ⟨a, ha⟩ : ∃ a : Int, a = S := ⟨_, rfl⟩
  obtain ⟨c, hc⟩ : ∃ c : Int, c = N := ⟨_, rfl⟩
  rw [← ha, ← hc] at HP
  rw [← ha, ← hc] at HTT
  rw [← ha, ← hc]
  clear hT ht h1 h2 h3 hm hx ha hc
  go_enter Tryd.func18, Tryd.ntmps18
  go_wp2_with fail
  refine HP.out.mono ?_
  rintro e w1 ⟨rfl, b1⟩
  have B1 := Lib.hid b1
  have B2 : Hid (Below w.heap.size w (w1.alloc (.cells #[.int .i64 a, .int .i64 c] 23))) := Lib.hid (b1.alloc b1.size _)
  clear b1
  go_wp2_with fail
  refine (HTT.out _ B2.out).mono ?_
  rintro e w2 ⟨⟨s, rfl, hs⟩, b2⟩
  obtain rfl := HX.out s hs
  have B3 : Hid (Below w.heap.size w w2) := Lib.hid (B2.out.trans (b2.mono B2.out.size))
  have c0 : w2.cell? ⟨w1.heap.size, 0, none⟩ = some (.int .i64 a) := by
    rw [b2.cell (p := ⟨w1.heap.size, 0, none⟩) (by simp)]; simp only [World.cell?, heap_alloc_new]; rfl
  have c1 : w2.cell? ⟨w1.heap.size, 1, none⟩ = some (.int .i64 c) := by
    rw [b2.cell (p := ⟨w1.heap.size, 1, none⟩) (by simp)]; simp only [World.cell?, heap_alloc_new]; rfl
  clear b2 hs HX HTT HP B2 B1
  go_wp2_with fail
  go_ret
  exact ⟨rfl, B3.out⟩
theorem text_is {S N : Nat} {L : List UInt8} (h : TextOf S N L) : ∀ s : ByteArray, TextOf S N s.data.toList → s = ⟨L.toArray⟩ := fun s hs =>
  Go.WideShapes.bytes_inj (by rw [hs.uniq h])
theorem reads_zero : Reads ⟨#[48, 48, 48, 48, 45, 48, 49, 45, 48, 49, 84, 48, 48, 58, 48, 48, 58, 48, 48, 90]⟩ 0 0 ⟨#[48, 48, 48, 48, 45, 48, 49, 45, 48, 49, 84, 48, 48, 58, 48, 48, 58, 48, 48, 90]⟩ :=
  ⟨by decide +kernel, by decide +kernel, by decide +kernel, by decide +kernel, text_is (L := [48, 48, 48, 48, 45, 48, 49, 45, 48, 49, 84, 48, 48, 58, 48, 48, 58, 48, 48, 90]) ⟨0, 0, 0, 0, ⟨rfl, by decide⟩, ⟨rfl, by decide⟩, by decide +kernel⟩⟩
theorem reads_1970 : Reads ⟨#[49, 57, 55, 48, 45, 48, 49, 45, 48, 49, 116, 48, 48, 58, 48, 48, 58, 48, 48, 46, 53, 48, 122]⟩ 62167219200 500000000 ⟨#[49, 57, 55, 48, 45, 48, 49, 45, 48, 49, 84, 48, 48, 58, 48, 48, 58, 48, 48, 46, 53, 90]⟩ :=
  ⟨by decide +kernel, by decide +kernel, by decide +kernel, by decide +kernel, text_is (L := [49, 57, 55, 48, 45, 48, 49, 45, 48, 49, 84, 48, 48, 58, 48, 48, 58, 48, 48, 46, 53, 90]) ⟨1970, 0, 0, 0, ⟨by decide +kernel, by decide⟩, ⟨rfl, by decide⟩, by decide +kernel⟩⟩
theorem alive_any (w : World) (hT : Tabs w) : Calls Tryd.prog 17 #[] w fun e w' => e = .returned (.bool true) ∧ Below w.heap.size w w' := by
  have H1 := Lib.hid (reads_yes _ _ 0 0 w hT (by unfold maxLen; decide) reads_zero)
  have H2 := Lib.hid (fun W (hb : Below w.heap.size w W) => reads_yes _ _ 62167219200 500000000 W (hT.on hb) (by unfold maxLen; decide) reads_1970)
  clear hT
  go_enter Tryd.func17, Tryd.ntmps17
  go_wp2_with fail
  refine H1.out.mono ?_
  rintro e w1 ⟨rfl, b1⟩
  have B1 := Lib.hid b1
  clear b1
  go_wp2_with fail
  refine (H2.out _ B1.out).mono ?_
  rintro e w2 ⟨rfl, b2⟩
  have B2 := Lib.hid (B1.out.trans (b2.mono B1.out.size))
  clear b2
  go_wp2_with fail
  go_ret
  exact ⟨rfl, B2.out⟩
end Go.Proofs.YtfphejndbnmfeaaDoor

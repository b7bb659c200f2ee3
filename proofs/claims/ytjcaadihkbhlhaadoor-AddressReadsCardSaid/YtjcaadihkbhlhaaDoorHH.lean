import Derived.Test.YtjcaadihkbhlhaaDoorAA
import Derived.Test.YtjcaadihkbhlhaaDoorShelf
import Derived.Test.YtjcaadihkbhlhaaDoorG4
namespace Go.Proofs.YtjcaadihkbhlhaaDoor
open Go.RowKit
def hexN (n : Nat) : Nat := (hexV n).toNat
/-- What an escape tells. -/
def escV : List UInt8 → Nat
  | _ :: h :: l :: _ => 16 * hexN h.toNat + hexN l.toNat
  | _ => 0
theorem hexN_lt (n : Nat) : hexN n < 16 := by
  unfold hexN
  rcases hexV_range n with h | h <;> omega
theorem escV_lt (l : List UInt8) : escV l < 256 := by
  unfold escV
  split
  · rename_i h l _
    have := hexN_lt h.toNat
    have := hexN_lt l.toNat
    omega
  · omega
theorem or_hex {x y : Nat} (hx : x < 16) (hy : y < 16) : bits BinOp.or IntKind.i64 (wrap64 ((x : Int) * 16)) (y : Int) % 256 = ((16 * x + y : Nat) : Int) := by
  have h : ∀ a b : Fin 16, bits BinOp.or IntKind.i64 (wrap64 (((a : Nat) : Int) * 16)) ((b : Nat) : Int) % 256 = ((16 * (a : Nat) + (b : Nat) : Nat) : Int) := by decide +kernel
  exact h ⟨x, hx⟩ ⟨y, hy⟩
set_option maxRecDepth 20000 in
set_option maxHeartbeats 1000000 in
theorem escaped_yes (s : ByteArray) (i : Nat) (he : esc (s.data.toList.drop i) = true) (hs : s.size ≤ 1000000) (w : World) : Calls Tryd.prog 47 #[.string s, .int .i64 i] w fun e w' => e = .returned (.tuple #[.int .u8 (escV (s.data.toList.drop i) : Nat), .bool true]) ∧ Below w.heap.size w w' := by
  have h2 : i + 2 < s.size := by
    rw [esc_at] at he
    split at he
    · assumption
    · cases he
  have HE := he
  rw [esc_at, dif_pos h2] at HE
  have HV : Hid (escV (s.data.toList.drop i) = 16 * hexN s[i + 1].toNat + hexN s[i + 2].toNat) := Lib.hid (by
    rw [drop_at s i (by omega), drop_at s (i + 1) (by omega), drop_at s (i + 2) (by omega)]
    rfl)
  obtain ⟨V, hV⟩ : ∃ V, V = escV (s.data.toList.drop i) := ⟨_, rfl⟩
  rw [← hV] at HV ⊢
  clear he hV
  simp only [Bool.and_eq_true, beq_iff_eq] at HE
  obtain ⟨e0, e1, e2⟩ := HE
  obtain ⟨a, ha⟩ : ∃ a, a = s[i] := ⟨_, rfl⟩
  obtain ⟨b, hb⟩ : ∃ a, a = s[i + 1] := ⟨_, rfl⟩
  obtain ⟨c, hc⟩ : ∃ a, a = s[i + 2] := ⟨_, rfl⟩
  rw [← ha] at e0
  rw [← hb] at e1 HV
  rw [← hc] at e2 HV
  subst e0
  have k0 : ∀ q : i < s.size, (s[i].toNat : Int) = 37 := fun q => by rw [← ha]; rfl
  have k1 : ∀ q : i + 1 < s.size, (s[i + 1].toNat : Int) = (b.toNat : Nat) := fun q => by rw [hb]
  have k2 : ∀ q : i + 2 < s.size, (s[i + 2].toNat : Int) = (c.toNat : Nat) := fun q => by rw [hc]
  have g1 : ¬ ((s.size : Int) ≤ i + 2) := by omega
  have g2 : (i : Int) < s.size := by omega
  have g3 : (i : Int) + 1 < s.size := by omega
  have g4 : (i : Int) + 2 < s.size := by omega
  have t1 : ((i : Int) + 1).toNat = i + 1 := by omega
  have t2 : ((i : Int) + 2).toNat = i + 2 := by omega
  have HX := Lib.hid (fun (b : UInt8) w => hex_any b.toNat (UInt8.toNat_lt b) w)
  unfold hexB at e1 e2
  have n1 : 0 ≤ hexV b.toNat := by simpa using e1
  have n2 : 0 ≤ hexV c.toNat := by simpa using e2
  have m1 := hexN_lt b.toNat
  have m2 := hexN_lt c.toNat
  have q1 : hexV b.toNat = (hexN b.toNat : Nat) := by unfold hexN; omega
  have q2 : hexV c.toNat = (hexN c.toNat : Nat) := by unfold hexN; omega
  have HF : Hid (bits BinOp.or IntKind.i64 (wrap64 (hexV b.toNat * 16)) (hexV c.toNat) % 256 = (V : Int)) := Lib.hid (by
    rw [q1, q2, HV.out]; exact or_hex m1 m2)
  have l1 : ¬ (hexV b.toNat < 0) := by omega
  have l2 : ¬ (hexV c.toNat < 0) := by omega
  clear ha hb hc q1 q2 n1 n2 e1 e2 m1 m2
  go_enter Tryd.func47, Tryd.ntmps47
  go_wp2_with (go_quiet (first | (go_at_call 66; exact Calls.quiet_of_same (HX.out _ _))))
  go_ret2
  refine ⟨?_, below_dr (Below.refl _ _) _⟩
  show Ending.returned (.tuple #[.int .u8 (bits BinOp.or IntKind.i64 (wrap64 (hexV b.toNat * 16)) (hexV c.toNat) % 256), .bool true]) = _
  rw [HF.out]
set_option maxRecDepth 20000 in
set_option maxHeartbeats 1000000 in
theorem unr_nil (w : World) :
    Calls Tryd.prog 46 #[.slice none 0 0] w fun e w' => e = .returned (setV (flat base4)) ∧ Below w.heap.size w w' := by
  obtain ⟨L, hL⟩ : ∃ L, L = flat base4 := ⟨_, rfl⟩
  rw [← hL]
  have HLL := Lib.hid hL
  clear hL
  have zz : (w.alloc (.cells #[.int .u64 0, .int .u64 0, .int .u64 0, .int .u64 0] 60)).heap.size = w.heap.size + 1 := by simp
  have hbc := base_cells (w.alloc (.cells #[.int .u64 0, .int .u64 0, .int .u64 0, .int .u64 0] 60))
  rw [zz] at hbc
  have HB := Lib.hid hbc
  have hsb := SBox.new w []
  rw [set_nil] at hsb
  have B1 : Hid (Below w.heap.size w (w.alloc (.cells #[.int .u64 0, .int .u64 0, .int .u64 0, .int .u64 0] 60))) := Lib.hid ((Below.refl _ w).alloc (Nat.le_refl _) _)
  have B2 : Hid (Below w.heap.size w ((w.alloc (.cells #[.int .u64 0, .int .u64 0, .int .u64 0, .int .u64 0] 60)).alloc (.cells #[.string ⟨#[97, 98, 99, 100, 101, 102, 103, 104, 105, 106, 107, 108, 109, 110, 111, 112, 113, 114, 115, 116, 117, 118, 119, 120, 121, 122]⟩, .string ⟨#[65, 66, 67, 68, 69, 70, 71, 72, 73, 74, 75, 76, 77, 78, 79, 80, 81, 82, 83, 84, 85, 86, 87, 88, 89, 90]⟩, .string ⟨#[48, 49, 50, 51, 52, 53, 54, 55, 56, 57]⟩, .string ⟨#[45, 46, 95, 126]⟩] 9))) := Lib.hid (B1.out.alloc (by simp) _)
  have SB : Hid (SBox ((w.alloc (.cells #[.int .u64 0, .int .u64 0, .int .u64 0, .int .u64 0] 60)).alloc (.cells #[.string ⟨#[97, 98, 99, 100, 101, 102, 103, 104, 105, 106, 107, 108, 109, 110, 111, 112, 113, 114, 115, 116, 117, 118, 119, 120, 121, 122]⟩, .string ⟨#[65, 66, 67, 68, 69, 70, 71, 72, 73, 74, 75, 76, 77, 78, 79, 80, 81, 82, 83, 84, 85, 86, 87, 88, 89, 90]⟩, .string ⟨#[48, 49, 50, 51, 52, 53, 54, 55, 56, 57]⟩, .string ⟨#[45, 46, 95, 126]⟩] 9)) w.heap.size []) := Lib.hid (hsb.up ((Below.refl _ _).alloc (Nat.le_refl _) _))
  clear zz hbc hsb
  go_enter Tryd.func46, Tryd.ntmps46
  go_wp2_with fail
  have M := Lib.hid (marks_view base4 (w.heap.size + 1) 0 4 _ (by decide) (by decide) (by simp) HB.out (by decide) (by decide))
  rw [← HLL.out] at M
  unfold setV setC at M
  refine M.out.mono ?_
  rintro e w4 ⟨rfl, b4⟩
  have B4 := Lib.hid (B2.out.trans (b4.mono B2.out.size))
  have SB4 := Lib.hid (SB.out.up b4)
  have c0 := SB4.out.1 0 (by decide)
  have c1 := SB4.out.1 1 (by decide)
  have c2 := SB4.out.1 2 (by decide)
  have c3 := SB4.out.1 3 (by decide)
  clear b4
  obtain ⟨c0, f0⟩ := c0
  obtain ⟨c1, f1⟩ := c1
  obtain ⟨c2, f2⟩ := c2
  obtain ⟨c3, f3⟩ := c3
  go_wp2_with fail
  have hfin := set_cells SB4.out L
  exact ret_set (N := w.heap.size) (L := L) Tryd.results46 (by rfl) hfin ⟨rfl, below_cells w.heap.size (Nat.le_refl _) (setL L) 0 _ B4.out⟩
theorem wstr (B b : Nat) (bs : List Value) (s : ByteArray) (w : World) (h : Lib.IsBuilderF 66 5 B b bs w) (hlen : bs.length + s.size ≤ 140737488355328) (hBw : B ≤ w.heap.size) :
    Calls Tryd.prog 48 #[.pointer (some ⟨b, 0, none⟩), .string s] w fun e w' => e = .returned (.tuple #[.int .i64 s.size, .nilIface]) ∧ (Lib.BuilderAtF 66 5 B b (.pointer (some ⟨b, 0, none⟩)) (bs ++ Lib.strCells s) w' ∧ Below B w w') :=
  Any.Builder_WriteString_f { Tryd.lays159 with } Tryd.Builder_Extra_159 B b bs s w h hlen hBw
theorem at_up {T e : TypeId} {B b : Nat} {p : Value} {bs : List Value} {w w' : World} (h : Lib.BuilderAtF T e B b p bs w) (hb : Below w.heap.size w w') : Lib.BuilderAtF T e B b p bs w' := by
  obtain ⟨hB, v, h1, hown, hne⟩ := h
  refine ⟨hB, v, (hb.block b (Array.getElem?_eq_some_iff.1 h1).1).trans h1, ⟨hown.1, ?_⟩, hne⟩
  rcases hown.2 with hn | ⟨g, cap, cur, fz, hv, hbg, hg, rest⟩
  · exact .inl hn
  · exact .inr ⟨g, cap, cur, fz, hv, hbg, (hb.block g (Array.getElem?_eq_some_iff.1 hg).1).trans hg, rest⟩
theorem ib_up {T e : TypeId} {B b : Nat} {bs : List Value} {w w' : World} (h : Lib.IsBuilderF T e B b bs w) (hb : Below w.heap.size w w') : Lib.IsBuilderF T e B b bs w' :=
  h.elim (fun x => .inl (at_up x hb)) (fun x => .inr (at_up x hb))
theorem ib_lt {T e : TypeId} {B b : Nat} {bs : List Value} {w : World} (h : Lib.IsBuilderF T e B b bs w) : b < w.heap.size := h.elim (fun x => x.lt) (fun x => x.lt)
set_option maxRecDepth 20000 in
theorem lower_any (s : ByteArray) (w : World) (hs : s.size ≤ 140737488355328) (ha : ∀ (j : Nat) (b : UInt8), s.data.toList[j]? = some b → b.toNat < 128) :
    Calls Tryd.prog 23 #[.string s] w fun e w' => e = .returned (.string ⟨(Lib.toLowerA s.data.toList).toArray⟩) ∧ Below w.heap.size w w' := by
  have CL := Lib.hid (Tryd.strings_ToLower_ascii s w hs ha)
  obtain ⟨L, hL⟩ : ∃ L : ByteArray, L = ⟨(Lib.toLowerA s.data.toList).toArray⟩ := ⟨_, rfl⟩
  rw [← hL] at CL ⊢
  clear hL hs ha
  go_enter Tryd.func23, Tryd.ntmps23
  go_wp2_with fail
  refine CL.out.mono ?_
  rintro e w1 ⟨rfl, b1⟩
  have B1 := Lib.hid b1
  clear b1
  go_wp2_with fail
  go_ret
  exact ⟨rfl, B1.out⟩
/-- What a turn makes of one byte. -/
def Turns (fid : FuncId) (f : UInt8 → UInt8) : Prop := ∀ (c : UInt8) (W : World), c.toNat < 128 → Calls Tryd.prog fid #[.string ⟨#[c]⟩] W fun e w' => e = .returned (.string ⟨#[f c]⟩) ∧ Below W.heap.size W w'
theorem turns_lower : Turns 23 Lib.lowerB := fun c W h =>
  (lower_any ⟨#[c]⟩ W (by show 1 ≤ _; decide) (fun j b hj => by
    have e : (⟨#[c]⟩ : ByteArray).data.toList = [c] := rfl
    rw [e] at hj
    have := List.mem_of_getElem? hj
    simp at this
    rw [this]; exact h)).mono fun e w' z => ⟨z.1, z.2⟩
set_option maxRecDepth 20000 in
theorem turns_asis : Turns 25 id := by
  intro c W _
  go_enter Tryd.func25, Tryd.ntmps25
  go_wp2_with fail
  go_ret
  exact ⟨rfl, Below.refl _ _⟩
/-- A digit to the base of 16, great. -/
def digU (n : Nat) : UInt8 := if n < 10 then UInt8.ofNat (48 + n) else UInt8.ofNat (55 + n)
/-- A part whose escapes are in one way. -/
def stl (f : UInt8 → UInt8) : List UInt8 → List UInt8
  | [] => []
  | b :: r => if esc (b :: r) then (if freeB (UInt8.ofNat (escV (b :: r))) then [f (UInt8.ofNat (escV (b :: r)))] else [37, digU (escV (b :: r) / 16), digU (escV (b :: r) % 16)]) ++ stl f (r.drop 2) else f b :: stl f r
termination_by l => l.length
decreasing_by all_goals simp; try omega
theorem stl_nil (f : UInt8 → UInt8) : stl f [] = [] := by rw [stl]
theorem stl_at (f : UInt8 → UInt8) (s : ByteArray) (i : Nat) (h : i < s.size) : stl f (s.data.toList.drop i) =
    if esc (s.data.toList.drop i) then (if freeB (UInt8.ofNat (escV (s.data.toList.drop i))) then [f (UInt8.ofNat (escV (s.data.toList.drop i)))] else [37, digU (escV (s.data.toList.drop i) / 16), digU (escV (s.data.toList.drop i) % 16)]) ++ stl f (s.data.toList.drop (i + 3)) else f s[i] :: stl f (s.data.toList.drop (i + 1)) := by
  rw [drop_at s i h, stl, List.drop_drop]
theorem free4 (b : UInt8) : (flat base4).contains b = freeB b := free_set b
theorem free_ascii (b : UInt8) (h : freeB b = true) : b.toNat < 128 := by
  have := by256 (P := fun b => !freeB b || decide (b.toNat < 128)) (by decide +kernel) b
  rw [h] at this
  simpa using this
end Go.Proofs.YtjcaadihkbhlhaaDoor

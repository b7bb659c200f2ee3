import Derived.WalkKit
import Derived.Lib.Strings
import Derived.Laws.Bits64b
import Derived.Test.YtjcaadihkbhlhaaDoorProg
import Derived.WalkSpells
import Derived.WalkLawsBesides
import Derived.BigQuiet
import Derived.Lib.Hide
import Derived.Below
import Derived.Deep.LoopGhost
import Derived.Laws.ResultCell
import Derived.Laws.IdiomStrings
import Derived.Deep.RegionHeld3
import Derived.Deep.DeepCutAuto
import Derived.Deep.QuietTactic
import Derived.IntWalk
import Derived.WideShapes
import Derived.StillTailTactics
import Derived.Deep.MidRow
import Derived.Laws.AppendOwn
import Derived.Laws.OwnMore
import Derived.OwnWalk
import Derived.ArgAppend
namespace Go.Proofs.YtjcaadihkbhlhaaDoor
open Go.RowKit
/- Plain facts for layer 15: sets of bytes as four words of bits. No program in sight. -/
/-- A set's word. -/
def wd (L : List UInt8) (k : Nat) : Nat := L.foldl (fun a c => if c.toNat / 64 = k then a ||| 2 ^ (c.toNat % 64) else a) 0
theorem wd_nil (k : Nat) : wd [] k = 0 := rfl
theorem wd_snoc (L : List UInt8) (c : UInt8) (k : Nat) : wd (L ++ [c]) k = if c.toNat / 64 = k then wd L k ||| 2 ^ (c.toNat % 64) else wd L k := by unfold wd; rw [List.foldl_append]; rfl
theorem snoc_ind {P : List UInt8 → Prop} (h0 : P []) (h1 : ∀ l c, P l → P (l ++ [c])) : ∀ l, P l := by
  intro l
  have : ∀ n (l : List UInt8), l.length = n → P l := by
    intro n
    induction n with
    | zero => intro l hl; rw [List.length_eq_zero_iff.1 hl]; exact h0
    | succ n ih =>
      intro l hl
      rw [(List.dropLast_concat_getLast (by intro h; rw [h] at hl; simp at hl) : l.dropLast ++ [l.getLast _] = l).symm]
      exact h1 _ _ (ih _ (by simp [hl]))
  exact this _ l rfl
theorem wd_lt (L : List UInt8) (k : Nat) : wd L k < 2 ^ 64 := by
  induction L using snoc_ind with
  | h0 => rw [wd_nil]; decide
  | h1 l c ih =>
    rw [wd_snoc]
    split
    · exact Nat.or_lt_two_pow ih (Nat.pow_lt_pow_right (by decide) (Nat.mod_lt _ (by decide)))
    · exact ih
theorem wd_bit (L : List UInt8) (b : UInt8) : (wd L (b.toNat / 64)).testBit (b.toNat % 64) = L.contains b := by
  induction L using snoc_ind with
  | h0 => rw [wd_nil]; simp
  | h1 l c ih =>
    rw [wd_snoc]
    have hc : (l ++ [c]).contains b = (l.contains b || b == c) := by
      simp only [List.contains_eq_mem, List.mem_append, List.mem_singleton, Bool.decide_or]
      congr 1
    rw [hc]
    by_cases h : c.toNat / 64 = b.toNat / 64
    · rw [if_pos h, Nat.testBit_or, ih, Nat.testBit_two_pow]
      congr 1
      rw [Bool.eq_iff_iff, decide_eq_true_eq, beq_iff_eq]
      constructor
      · intro e; exact UInt8.toNat_inj.1 (by omega)
      · intro e; rw [e]
    · rw [if_neg h, ih]
      have : (b == c) = false := beq_eq_false_iff_ne.2 (fun e => h (by rw [e]))
      rw [this, Bool.or_false]
/-- The bit as the code asks for it. -/
theorem wd_ask (L : List UInt8) (b : UInt8) : wd L (b.toNat / 64) / 2 ^ (b.toNat % 64) % 2 = if L.contains b then 1 else 0 := by
  have h := wd_bit L b
  rw [Nat.testBit_eq_decide_div_mod_eq] at h
  cases hc : L.contains b
  · rw [hc] at h
    have := of_decide_eq_false h
    simp; omega
  · rw [hc] at h
    have := of_decide_eq_true h
    simp; omega
theorem rbool {a b : Bool} (h : a = b) : Ending.returned (.bool a) = .returned (.bool b) := by rw [h]
theorem rint {k : IntKind} {a b : Int} (h : a = b) : Ending.returned (.int k a) = .returned (.int k b) := by rw [h]
/-- A set of bytes. -/
def setC (L : List UInt8) : Array Value := #[.int .u64 (wd L 0 : Nat), .int .u64 (wd L 1 : Nat), .int .u64 (wd L 2 : Nat), .int .u64 (wd L 3 : Nat)]
def setV (L : List UInt8) : Value := .agg (setC L)
theorem set_cell (L : List UInt8) (k : Nat) (h : k < 4) : (setC L)[k]? = some (.int .u64 (wd L k : Nat)) := by
  match k, h with
  | 0, _ => rfl
  | 1, _ => rfl
  | 2, _ => rfl
  | 3, _ => rfl
theorem and_one (n : Nat) (h : n < 2 ^ 64) : bits BinOp.and IntKind.u64 (n : Int) 1 = ((n % 2 : Nat) : Int) := by
  have := bits_and_u64_nat n 1 (by simpa using h) (by decide)
  rw [Nat.and_one_is_mod] at this
  exact this
set_option maxRecDepth 20000 in
theorem has_any (L : List UInt8) (b : UInt8) (w : World) : Calls Tryd.prog 49 #[setV L, .int .u8 (b.toNat : Nat)] w fun e w' => e = .returned (.bool (L.contains b)) ∧ Below w.heap.size w w' := by
  have hb := UInt8.toNat_lt b
  obtain ⟨n, hn⟩ : ∃ n, n = b.toNat := ⟨_, rfl⟩
  obtain ⟨k, hk⟩ : ∃ k, k = n / 64 := ⟨_, rfl⟩
  obtain ⟨j, hj⟩ : ∃ j, j = n % 64 := ⟨_, rfl⟩
  have hk4 : k < 4 := by omega
  have hj64 : j < 64 := by omega
  have hc : Hid ((w.alloc (.cells (setC L) 60)).cell? ⟨w.heap.size, k, none⟩ = some (.int .u64 (wd L k : Nat))) := Lib.hid ((World.cell?_alloc_mark w _ _ _ k).trans (set_cell L k hk4))
  have hask := wd_ask L b
  rw [← hn, ← hk, ← hj] at hask
  have hlt := wd_lt L k
  have B0 := Lib.hid ((Below.refl _ w).alloc (Nat.le_refl _) (.cells (setC L) 60))
  unfold setV
  rw [← hn]
  obtain ⟨C, hC⟩ : ∃ C, C = setC L := ⟨_, rfl⟩
  rw [← hC] at hc B0 ⊢
  clear hC
  have e1 : (n : Int).tdiv 64 = k := by rw [Int.tdiv_eq_ediv_of_nonneg (by omega)]; omega
  have e2 : (n : Int).tmod 64 = j := by rw [Int.tmod_eq_emod_of_nonneg (by omega)]; omega
  have e3 : (n : Int) / 64 = k := by omega
  have e4 : (n : Int) % 64 = j := by omega
  have hk4' : (k : Int) < 4 := by omega
  have hc1 := hc.out
  have hn8 : (n : Int) ≤ 255 := by omega
  clear hn hk hj hb hk4
  go_enter Tryd.func49, Tryd.ntmps49
  go_wp2_with fail
  go_ret
  refine ⟨rbool ?_, B0.out⟩
  have ed : ((wd L k : Nat) : Int) / 2 ^ j = ((wd L k / 2 ^ j : Nat) : Int) := by rw [Int.natCast_ediv, Int.natCast_pow]; rfl
  rw [ed, and_one _ (Nat.lt_of_le_of_lt (Nat.div_le_self _ _) hlt), hask]
  cases L.contains b <;> rfl
theorem below_dr {B : Nat} {w w1 : World} (h : Below B w w1) (n : Nat) : Below B w (w1.drewN n) := by
  induction n with
  | zero => exact h
  | succ n ih => exact ih.drew
theorem frozen_new (W : World) (C : Array Value) (T : TypeId) (j : Nat) : (W.alloc (.cells C T)).frozen? ⟨W.heap.size, j, none⟩ = false := by
  simp only [World.frozen?]
  rw [heap_alloc_new]
  simp
/-- A set lies in a block that may be written. -/
def SBox (w : World) (B : Nat) (L : List UInt8) : Prop := (∀ k, k < 4 → w.cell? ⟨B, k, none⟩ = some (.int .u64 (wd L k : Nat)) ∧ w.frozen? ⟨B, k, none⟩ = false) ∧ B < w.heap.size
theorem SBox.up {w w' : World} {B : Nat} {L : List UInt8} (h : SBox w B L) (hb : Below w.heap.size w w') : SBox w' B L :=
  ⟨fun i hi => ⟨(hb.cell (p := ⟨B, i, none⟩) h.2).trans (h.1 i hi).1, (hb.frozen (p := ⟨B, i, none⟩) h.2).trans (h.1 i hi).2⟩, Nat.lt_of_lt_of_le h.2 hb.size⟩
theorem SBox.new (w : World) (L : List UInt8) : SBox (w.alloc (.cells (setC L) 60)) w.heap.size L :=
  ⟨fun i hi => ⟨(World.cell?_alloc_mark w _ _ _ i).trans (set_cell L i hi), frozen_new _ _ _ _⟩, by simp⟩
theorem SBox.other {w : World} {B : Nat} {L : List UInt8} (h : SBox w B L) (a : Addr) (ha : a.block ≠ B) (v : Value) : SBox (w.setCell a v) B L :=
  ⟨fun i hi => ⟨(World.cell?_setCell_other _ _ _ _ (by intro e; subst e; exact ha rfl)).trans (h.1 i hi).1, (World.frozen?_setCell _ _ _ _).trans (h.1 i hi).2⟩, by simpa [World.setCell] using h.2⟩
theorem SBox.put {w : World} {B : Nat} {L : List UInt8} (h : SBox w B L) (c : UInt8) : SBox (w.setCell ⟨B, c.toNat / 64, none⟩ (.int .u64 ((wd L (c.toNat / 64) ||| 2 ^ (c.toNat % 64) : Nat) : Int))) B (L ++ [c]) := by
  have hc := UInt8.toNat_lt c
  refine ⟨fun i hi => ⟨?_, (World.frozen?_setCell _ _ _ _).trans (h.1 i hi).2⟩, by simpa [World.setCell] using h.2⟩
  rw [wd_snoc]
  by_cases e : c.toNat / 64 = i
  · rw [if_pos e, ← e]
    exact World.cell?_setCell_same _ _ _ (h.1 _ (by omega)).1
  · rw [if_neg e]
    exact (World.cell?_setCell_other _ _ _ _ (by simp [e])).trans (h.1 i hi).1
theorem or_bit (n j : Nat) (h : n < 2 ^ 64) (hj : j < 64) : bits BinOp.or IntKind.u64 (n : Int) ((2 ^ j : Nat) : Int) = ((n ||| 2 ^ j : Nat) : Int) := by
  rw [bits_or_u64_nat _ _ (by simpa using h) (by have := Nat.pow_lt_pow_right (a := 2) (by decide) hj; simpa using this)]
/-- Texts that lie in a slice. -/
def TV (w : World) (v : Value) (xs : List ByteArray) : Prop := (xs = [] ∧ (v = .slice none 0 0)) ∨ ∃ b o cap, v = .slice (some ⟨b, o, none⟩) xs.length cap ∧ xs.length ≤ cap ∧ b < w.heap.size ∧ ∀ j x, xs[j]? = some x → w.cell? ⟨b, o + j, none⟩ = some (.string x)
theorem TV.up {w w' : World} {v : Value} {xs : List ByteArray} (h : TV w v xs) (hb : Below w.heap.size w w') : TV w' v xs := by
  rcases h with h | ⟨b, o, cap, h1, h2, h3, h4⟩
  · exact .inl h
  · exact .inr ⟨b, o, cap, h1, h2, Nat.lt_of_lt_of_le h3 hb.size, fun j x hx => (hb.cell (p := ⟨b, o + j, none⟩) h3).trans (h4 j x hx)⟩
/-- The bytes of some texts. -/
def flat (xs : List ByteArray) : List UInt8 := xs.flatMap fun s => s.data.toList
theorem flat_snoc (xs : List ByteArray) (s : ByteArray) : flat (xs ++ [s]) = flat xs ++ s.data.toList := by unfold flat; simp
theorem flat_take (xs : List ByteArray) (i : Nat) (h : i < xs.length) : flat (xs.take (i + 1)) = flat (xs.take i) ++ xs[i].data.toList := by
  rw [List.take_succ_eq_append_getElem h, flat_snoc]
/- Plain facts for layer 15: what a part of an address may be. No program in sight. -/
def smallB (n : Nat) : Bool := decide (97 ≤ n) && decide (n ≤ 122)
def greatB (n : Nat) : Bool := decide (65 ≤ n) && decide (n ≤ 90)
def letterB (b : UInt8) : Bool := smallB b.toNat || greatB b.toNat
def digitB (b : UInt8) : Bool := decide (48 ≤ b.toNat) && decide (b.toNat ≤ 57)
def hexV (n : Nat) : Int := if 48 ≤ n ∧ n ≤ 57 then (n : Int) - 48 else if 97 ≤ n ∧ n ≤ 102 then (n : Int) - 87 else if 65 ≤ n ∧ n ≤ 70 then (n : Int) - 55 else -1
def hexB (b : UInt8) : Bool := decide (0 ≤ hexV b.toNat)
/-- Does an escape begin a text? -/
def esc : List UInt8 → Bool
  | b :: h :: l :: _ => b == 37 && (hexB h && hexB l)
  | _ => false
theorem esc_long {l : List UInt8} (h : esc l = true) : 3 ≤ l.length := by
  match l, h with
  | _ :: _ :: _ :: _, _ => simp
/-- Bytes that 'may' takes, and escapes. -/
def ofP (may : UInt8 → Bool) : List UInt8 → Bool
  | [] => true
  | b :: r => if may b then ofP may r else esc (b :: r) && ofP may (r.drop 2)
termination_by l => l.length
decreasing_by all_goals simp; try omega
theorem ofP_nil (may : UInt8 → Bool) : ofP may [] = true := by rw [ofP]
theorem drop_at (s : ByteArray) (i : Nat) (h : i < s.size) : s.data.toList.drop i = s[i] :: s.data.toList.drop (i + 1) := by
  rw [List.drop_eq_getElem_cons (by simpa using h)]; rfl
theorem drop_end (s : ByteArray) : s.data.toList.drop s.size = [] := List.drop_of_length_le (by simp)
theorem ofP_at (may : UInt8 → Bool) (s : ByteArray) (i : Nat) (h : i < s.size) : ofP may (s.data.toList.drop i) = if may s[i] then ofP may (s.data.toList.drop (i + 1)) else esc (s.data.toList.drop i) && ofP may (s.data.toList.drop (i + 3)) := by
  rw [drop_at s i h, ofP, List.drop_drop]
theorem esc_at (s : ByteArray) (i : Nat) : esc (s.data.toList.drop i) = if h : i + 2 < s.size then s[i] == 37 && (hexB s[i + 1] && hexB s[i + 2]) else false := by
  split
  · rename_i h
    rw [drop_at s i (by omega), drop_at s (i + 1) (by omega), drop_at s (i + 2) (by omega)]
    rfl
  · rename_i h
    cases e : esc (s.data.toList.drop i) with
    | false => rfl
    | true =>
      have := esc_long e
      rw [List.length_drop, Array.length_toList] at this
      have hs : s.data.size = s.size := rfl
      omega
theorem esc_first {s : ByteArray} {i : Nat} (h : i < s.size) (e : esc (s.data.toList.drop i) = true) : s[i] = 37 ∧ i + 2 < s.size := by
  rw [esc_at] at e
  split at e
  · simp only [Bool.and_eq_true, beq_iff_eq] at e; exact ⟨e.1, by assumption⟩
  · cases e
theorem all_at (may : UInt8 → Bool) (s : ByteArray) (i : Nat) (h : i < s.size) : (s.data.toList.drop i).all may = (may s[i] && (s.data.toList.drop (i + 1)).all may) := by
  rw [drop_at s i h]; rfl
/-- May it be a scheme? -/
def schemeB (b : UInt8) : Bool := letterB b || digitB b || [43, 45, 46].contains b
def schemeP : List UInt8 → Bool
  | [] => false
  | b :: r => letterB b && r.all schemeB
def freeB (b : UInt8) : Bool := letterB b || digitB b || [45, 46, 95, 126].contains b
def delimB (b : UInt8) : Bool := freeB b || [33, 36, 38, 39, 40, 41, 42, 43, 44, 59, 61].contains b
/-- What a made part may have: the free bytes, the delimiters, and more. -/
def mayB (more : List UInt8) (b : UInt8) : Bool := delimB b || more.contains b
def pathP (l : List UInt8) : Bool := match l with
  | [] => true
  | b :: _ => b == 47 && ofP (mayB [58, 64, 47]) l
def smallL : List UInt8 := [97, 98, 99, 100, 101, 102, 103, 104, 105, 106, 107, 108, 109, 110, 111, 112, 113, 114, 115, 116, 117, 118, 119, 120, 121, 122]
def greatL : List UInt8 := [65, 66, 67, 68, 69, 70, 71, 72, 73, 74, 75, 76, 77, 78, 79, 80, 81, 82, 83, 84, 85, 86, 87, 88, 89, 90]
def numL : List UInt8 := [48, 49, 50, 51, 52, 53, 54, 55, 56, 57]
theorem by256 {P : UInt8 → Bool} (h : (List.range 256).all (fun n => P (UInt8.ofNat n)) = true) (b : UInt8) : P b = true := by
  have := (List.all_eq_true.1 h) b.toNat (List.mem_range.2 (UInt8.toNat_lt b))
  simpa using this
theorem letter_set (b : UInt8) : (smallL ++ greatL).contains b = letterB b :=
  beq_iff_eq.1 (by256 (P := fun b => (smallL ++ greatL).contains b == letterB b) (by decide +kernel) b)
theorem num_set (b : UInt8) : numL.contains b = digitB b :=
  beq_iff_eq.1 (by256 (P := fun b => numL.contains b == digitB b) (by decide +kernel) b)
theorem contains_app (L M : List UInt8) (b : UInt8) : (L ++ M).contains b = (L.contains b || M.contains b) := by
  rw [Bool.eq_iff_iff]; simp
theorem scheme_set (b : UInt8) : (smallL ++ greatL ++ numL ++ [43, 45, 46]).contains b = schemeB b := by
  rw [contains_app, contains_app, letter_set, num_set]; rfl
theorem free_set (b : UInt8) : (smallL ++ greatL ++ numL ++ [45, 46, 95, 126]).contains b = freeB b := by
  rw [contains_app, contains_app, letter_set, num_set]; rfl
theorem may_set (more : List UInt8) (b : UInt8) : (smallL ++ greatL ++ numL ++ [45, 46, 95, 126] ++ [33, 36, 38, 39, 40, 41, 42, 43, 44, 59, 61] ++ more).contains b = mayB more b := by
  rw [contains_app, contains_app, free_set]; rfl
/-- An escape is asked for first: the same, for '%' is none of them. -/
theorem ofP_first (may : UInt8 → Bool) (h37 : may 37 = false) (s : ByteArray) (i : Nat) (h : i < s.size) :
    ofP may (s.data.toList.drop i) = if esc (s.data.toList.drop i) then ofP may (s.data.toList.drop (i + 3)) else may s[i] && ofP may (s.data.toList.drop (i + 1)) := by
  rw [ofP_at may s i h]
  cases e : esc (s.data.toList.drop i) with
  | true => rw [(esc_first h e).1, h37]; simp
  | false => cases may s[i] <;> simp
/-- What lies in memory while a set is made. -/
def MK (w W : World) (L : List UInt8) : Prop := SBox W w.heap.size [] ∧ SBox W (w.heap.size + 1) L ∧ Below w.heap.size w W
theorem MK.up {w W W' : World} {L : List UInt8} (h : MK w W L) (hb : Below W.heap.size W W') : MK w W' L := ⟨h.1.up hb, h.2.1.up hb, h.2.2.trans (hb.mono h.2.2.size)⟩
theorem MK.put {w W : World} {L : List UInt8} (h : MK w W L) (c : UInt8) : MK w (W.setCell ⟨w.heap.size + 1, c.toNat / 64, none⟩ (.int .u64 ((wd L (c.toNat / 64) ||| 2 ^ (c.toNat % 64) : Nat) : Int))) (L ++ [c]) :=
  ⟨h.1.other _ (by simp) _, h.2.1.put c, h.2.2.setCell (by simp) _⟩
theorem MK.new (w : World) : MK w ((w.alloc (.cells (setC []) 60)).alloc (.cells (setC []) 60)) [] := by
  have z : (w.alloc (.cells (setC []) 60)).heap.size = w.heap.size + 1 := by simp
  have h2 := SBox.new (w.alloc (.cells (setC []) 60)) []
  rw [z] at h2
  exact ⟨(SBox.new w []).up ((Below.refl _ _).alloc (Nat.le_refl _) _), h2, ((Below.refl _ w).alloc (Nat.le_refl _) _).alloc (by simp) _⟩
theorem set_nil : setC [] = #[.int .u64 0, .int .u64 0, .int .u64 0, .int .u64 0] := rfl
/-- Where the loop over texts stands. -/
def MX (w : World) (xs : List ByteArray) (s9 : Value) (W : World) : Prop := ∃ i : Nat, i ≤ xs.length ∧ s9 = .int .i64 i ∧ MK w W (flat (xs.take i))
/-- Where the loop over a text's bytes stands. -/
def MB (w : World) (L : List UInt8) (s : ByteArray) (s6 : Value) (W : World) : Prop := ∃ j : Nat, j ≤ s.size ∧ s6 = .int .i64 j ∧ MK w W (L ++ s.data.toList.take j)
theorem take_byte (s : ByteArray) (k : Nat) (h : k < s.size) : s.data.toList.take (k + 1) = s.data.toList.take k ++ [s[k]] := by
  rw [List.take_succ_eq_append_getElem (by simpa using h)]; rfl
def setL (L : List UInt8) : List Value := (setC L).toList
theorem setL_length (L : List UInt8) : (setL L).length = 4 := rfl
theorem setL_get {L : List UInt8} {j : Nat} {v : Value} (h : (setL L)[j]? = some v) : j < 4 ∧ v = .int .u64 (wd L j : Nat) := by
  have hj : j < 4 := (List.getElem?_eq_some_iff.1 h).1
  refine ⟨hj, ?_⟩
  have e : (setC L)[j]? = some v := by simpa [setL] using h
  rw [set_cell L j hj] at e
  exact (Option.some.inj e).symm
theorem setL_one (L : List UInt8) : ∀ v ∈ setL L, v.oneCell' = true := fun v hv => by
  obtain ⟨j, hj⟩ := List.getElem?_of_mem hv
  rw [(setL_get hj).2]; rfl
theorem SBox.range {w : World} {B : Nat} {L : List UInt8} (h : SBox w B L) : w.rangeAt B 0 (setL L) := fun j v hv => by
  obtain ⟨hj, rfl⟩ := setL_get hv
  rw [Nat.zero_add]; exact (h.1 j hj).1
theorem SBox.there {w : World} {B : Nat} {L : List UInt8} (h : SBox w B L) : w.there B 0 4 := fun j hj => by
  rw [Nat.zero_add]; exact ⟨by rw [(h.1 j hj).1]; rfl, (h.1 j hj).2⟩
theorem below_cells {B : Nat} {w : World} (b : Nat) (hb : B ≤ b) : ∀ (vs : List Value) (o : Nat) (W : World), Below B w W → Below B w (W.setCells b o vs)
  | [], _, _, h => h
  | v :: r, o, W, h => below_cells b hb r (o + 1) _ (h.setCell hb v)
theorem size_cells (b : Nat) : ∀ (vs : List Value) (o : Nat) (W : World), (W.setCells b o vs).heap.size = W.heap.size
  | [], _, _ => rfl
  | v :: r, o, W => (size_cells b r (o + 1) _).trans (by simp [World.setCell])
theorem frozen_cells (b : Nat) (a : Addr) : ∀ (vs : List Value) (o : Nat) (W : World), (W.setCells b o vs).frozen? a = W.frozen? a
  | [], _, _ => rfl
  | v :: r, o, W => (frozen_cells b a r (o + 1) _).trans (World.frozen?_setCell _ _ _ _)
theorem set_cells {W : World} {b : Nat} {L : List UInt8} (h : SBox W b L) (M : List UInt8) : SBox (W.setCells b 0 (setL M)) b M := by
  refine ⟨fun i hi => ⟨?_, (frozen_cells _ _ _ _ _).trans (h.1 i hi).2⟩, by rw [size_cells]; exact h.2⟩
  have e : (setL M)[i]? = some (.int .u64 (wd M i : Nat)) := by have := set_cell M i hi; simpa [setL] using this
  have := World.rangeAt_setCells_same W b 0 (setL M) (by rw [setL_length]; exact h.there) i _ e
  rwa [Nat.zero_add] at this
theorem u_set : Tryd.prog.underlying 60 = some (.array 4 58) := Tryd.underlying60
theorem s_set : (Tryd.prog.info? 60).map (·.size) = some 4 := by kernel_rfl
theorem load_set {w : World} {b : Nat} {L : List UInt8} (h : SBox w b L) : (loadVar 60 ⟨b, 0, none⟩).run Tryd.prog w = .ok (setV L) w :=
  run_loadVar_mid w b 0 60 (setL L) _ h.range u_set rfl (by rw [setL_length]; exact s_set)
theorem results_cell_one {fn : Func} {p : Tmp} {ty : TypeId} (h : fn.results = #[.cell p ty]) (tmps : Array Value) (P : Program) (w : World) :
    (results fn tmps).run P w = ((asAddr (tmps.getD p undef)).run P w).andThen fun a w₁ => (loadVar ty a).run P w₁ := by
  simp only [results, h]
  simp [Sem.run_bind, Result.andThen]
theorem ret_set {fn : Func} {p : Tmp} {Q : Ending → World → Prop} {tmps : Array Value} {w : World} {N : Nat} {L : List UInt8} (hf : fn.results = #[.cell p 60]) (h2 : tmps.getD p undef = .pointer (some ⟨N, 0, none⟩)) (h : SBox w N L)
    (hQ : Q (.returned (setV L)) w) : bodyPost Tryd.prog fn Q .ret ⟨tmps, []⟩ w := by
  refine bodyPost_ret (v := setV L) ?_ rfl hQ
  rw [results_cell_one hf, h2]
  simp [asAddr, Result.andThen, load_set h]
set_option maxRecDepth 20000 in
set_option maxHeartbeats 4000000 in
theorem marks_view (xs : List ByteArray) (b o cap : Nat) (w : World) (h0 : 0 < xs.length) (hcap : xs.length ≤ cap) (hb : b < w.heap.size) (hx : ∀ j x, xs[j]? = some x → w.cell? ⟨b, o + j, none⟩ = some (.string x)) (hl : xs.length ≤ 1000) (hs : ∀ x ∈ xs, x.size ≤ 1000000) :
    Calls Tryd.prog 39 #[.slice (some ⟨b, o, none⟩) xs.length cap] w fun e w' => e = .returned (setV (flat xs)) ∧ Below w.heap.size w w' := by
  have P0 := Lib.hid (MK.new w)
  rw [set_nil] at P0
  have HX := Lib.hid (fun W (hW : Below w.heap.size w W) j x (h : xs[j]? = some x) => (hW.cell (p := ⟨b, o + j, none⟩) hb).trans (hx j x h))
  have HS := Lib.hid hs
  clear hx hs
  go_enter Tryd.func39, Tryd.ntmps39
  go_wp2_with fail
  obtain ⟨w0, hw0⟩ : ∃ w0, w0 = (w.alloc (.cells #[.int .u64 0, .int .u64 0, .int .u64 0, .int .u64 0] 60)).alloc (.cells #[.int .u64 0, .int .u64 0, .int .u64 0, .int .u64 0] 60) := ⟨_, rfl⟩
  rw [← hw0] at P0 ⊢
  clear hw0
  go_loopw [9] (fun s9 wr => MX w xs s9 wr) (fun s9 _ => xs.length - (intOf s9).toNat)
  case atStart => exact ⟨0, Nat.zero_le _, rfl, P0.out⟩
  case round =>
    obtain ⟨i, hi, rfl, hm⟩ := hrel
    have HM := Lib.hid hm
    clear hm
    by_cases hlt : i < xs.length
    · have hlt' : (i : Int) < xs.length := by omega
      have hc := HX.out wr HM.out.2.2 i xs[i] (List.getElem?_eq_getElem hlt)
      have HSZ := Lib.hid (HS.out xs[i] (List.getElem_mem hlt))
      have HFT := Lib.hid (flat_take xs i hlt)
      obtain ⟨s, hse⟩ : ∃ s, s = xs[i] := ⟨_, rfl⟩
      rw [← hse] at hc HSZ HFT
      obtain ⟨L, hL⟩ : ∃ L, L = flat (xs.take i) := ⟨_, rfl⟩
      rw [← hL] at HFT HM
      have hsz := HSZ.out
      clear hse hL
      go_wp2_with fail
      go_loopw [6] (fun s6 ws => MB w L s s6 ws) (fun s6 _ => s.size - (intOf s6).toNat)
      case atStart => exact ⟨0, Nat.zero_le _, rfl, by simpa using HM.out⟩
      case round =>
        obtain ⟨j, hj, rfl, hm⟩ := hrel
        have HM2 := Lib.hid hm
        clear hm
        by_cases hjl : j < s.size
        · have hjl' : (j : Int) < s.size := by omega
          have HTB := Lib.hid (take_byte s j hjl)
          obtain ⟨c, hc0⟩ : ∃ c, c = s[j] := ⟨_, rfl⟩
          rw [← hc0] at HTB
          have HPUT := Lib.hid ((HM2.out.put c).up ((Below.refl _ _).drew))
          have hcb := UInt8.toNat_lt c
          obtain ⟨M, hM⟩ : ∃ M, M = L ++ s.data.toList.take j := ⟨_, rfl⟩
          have HMM := Lib.hid hM
          rw [← hM] at HM2 HPUT
          obtain ⟨n, hn⟩ : ∃ n, n = c.toNat := ⟨_, rfl⟩
          rw [← hn] at HPUT hcb
          obtain ⟨k, hk⟩ : ∃ k, k = n / 64 := ⟨_, rfl⟩
          obtain ⟨m, hm⟩ : ∃ j, j = n % 64 := ⟨_, rfl⟩
          rw [← hk, ← hm] at HPUT
          have hk4 : k < 4 := by omega
          have hm64 : m < 64 := by omega
          have hin : ∀ q : j < s.size, (s[j].toNat : Int) = n := fun q => by rw [hn, hc0]
          have e1 : (n : Int).tdiv 64 = k := by rw [Int.tdiv_eq_ediv_of_nonneg (by omega)]; omega
          have e2 : (n : Int).tmod 64 = m := by rw [Int.tmod_eq_emod_of_nonneg (by omega)]; omega
          have e3 : (n : Int) / 64 = k := by omega
          have e4 : (n : Int) % 64 = m := by omega
          have hk4' : (k : Int) < 4 := by omega
          have q1 : IntKind.u8.wrap (k : Int) = k := by rw [IntKind.wrap_u8]; omega
          have q2 : IntKind.u8.wrap (m : Int) = m := by rw [IntKind.wrap_u8]; omega
          have hn8 : (n : Int) ≤ 255 := by omega
          have d1 := (HM2.out.2.1.1 k hk4).1
          have d2 := (HM2.out.2.1.1 k hk4).2
          have hwl := wd_lt M k
          obtain ⟨x, hx⟩ : ∃ x, x = wd M k := ⟨_, rfl⟩
          rw [← hx] at d1 hwl HPUT
          have hor := or_bit x m hwl hm64
          have q3 : IntKind.u64.wrap ((2 : Int) ^ m) = ((2 ^ m : Nat) : Int) := by
            have hl2 : 2 ^ m < 2 ^ 64 := Nat.pow_lt_pow_right (by decide) hm64
            have e : ((2 : Int) ^ m) = ((2 ^ m : Nat) : Int) := by rw [Int.natCast_pow]; rfl
            have hl3 : 2 ^ m < 18446744073709551616 := hl2
            rw [e]
            generalize (2 ^ m : Nat) = z at hl3 ⊢
            rw [IntKind.wrap_u64]
            omega
          rw [← q3] at hor
          rw [← hor] at HPUT
          clear hn hk hm hcb hk4 hx hM hc0 hm64 hwl hor q3
          go_wp2_with fail
          go_still_tail 13, (by kernel_rfl)
          go_wp2_with fail
          go_roundw
          case rel => exact ⟨j + 1, by omega, by go_num, by rw [HTB.out, ← List.append_assoc, ← HMM.out]; exact HPUT.out⟩
          case measure => simp [intOf]; omega
        · obtain rfl : j = s.size := by omega
          have HT : Hid (L ++ s.data.toList = flat (xs.take (i + 1))) := Lib.hid HFT.out.symm
          have hall : s.data.toList.take s.size = s.data.toList := List.take_of_length_le (by simp)
          rw [hall, HT.out] at HM2
          clear hall hjl
          go_wp2_with fail
          go_roundw
          case rel => exact ⟨i + 1, by omega, by go_num, HM2.out⟩
          case measure => simp [intOf]; omega
    · obtain rfl : i = xs.length := by omega
      rw [show xs.take xs.length = xs from List.take_length] at HM
      go_upto_region 10 with fail
      refine wp_region_lit ?_
      refine wpList_load_mid rfl 60 (.tmp 3) rfl (w.heap.size + 1) 0 rfl (setL (flat xs)) _ HM.out.2.1.range u_set rfl (by rw [setL_length]; exact s_set) ?_
      refine wpList_store_mid rfl 60 (.tmp 2) (.tmp 33) rfl w.heap.size 0 (setL (flat xs)).toArray rfl rfl (HM.out.1.there) s_set (all_oneCell_toArray (setL_one _)) ?_
      go_wp2_with fail
      refine ret_set (N := w.heap.size) (L := flat xs) Tryd.results39 (by rfl) (set_cells HM.out.1 _) ⟨rfl, below_cells _ (Nat.le_refl _) _ _ _ HM.out.2.2⟩
set_option maxRecDepth 20000 in
set_option maxHeartbeats 2000000 in
theorem hex_any (n : Nat) (h : n < 256) (w : World) : Calls Tryd.prog 66 #[.int .u8 (n : Nat)] w fun e w' => e = .returned (.int .i64 (hexV n)) ∧ w' = w := by
  rcases (by omega : (0 ≤ n ∧ n ≤ 47) ∨ (48 ≤ n ∧ n ≤ 57) ∨ (58 ≤ n ∧ n ≤ 64) ∨ (65 ≤ n ∧ n ≤ 70) ∨ (71 ≤ n ∧ n ≤ 96) ∨ (97 ≤ n ∧ n ≤ 102) ∨ (103 ≤ n ∧ n ≤ 255)) with ⟨r1, r2⟩ | ⟨r1, r2⟩ | ⟨r1, r2⟩ | ⟨r1, r2⟩ | ⟨r1, r2⟩ | ⟨r1, r2⟩ | ⟨r1, r2⟩
  · have hv : Hid (hexV n = -1) := Lib.hid (by
      unfold hexV
      repeat' split
      all_goals omega)
    have g48 : ¬ ((48 : Int) ≤ n) := by omega
    have g57 : ((n : Int) ≤ 57) := by omega
    have g97 : ¬ ((97 : Int) ≤ n) := by omega
    have g102 : ((n : Int) ≤ 102) := by omega
    have g65 : ¬ ((65 : Int) ≤ n) := by omega
    have g70 : ((n : Int) ≤ 70) := by omega
    clear r1 r2
    go_enter Tryd.func66, Tryd.ntmps66
    go_wp2_with fail
    go_ret
    exact ⟨rint (by have := hv.out; omega), rfl⟩
  · have hv : Hid (hexV n = (n : Int) - 48) := Lib.hid (by
      unfold hexV
      repeat' split
      all_goals omega)
    have g48 : ((48 : Int) ≤ n) := by omega
    have g57 : ((n : Int) ≤ 57) := by omega
    have g97 : ¬ ((97 : Int) ≤ n) := by omega
    have g102 : ((n : Int) ≤ 102) := by omega
    have g65 : ¬ ((65 : Int) ≤ n) := by omega
    have g70 : ((n : Int) ≤ 70) := by omega
    have q : IntKind.u8.wrap ((n : Int) - 48) = n - 48 := by rw [IntKind.wrap_u8]; omega
    clear r1 r2
    go_enter Tryd.func66, Tryd.ntmps66
    go_wp2_with fail
    go_ret
    exact ⟨rint (by have := hv.out; omega), rfl⟩
  · have hv : Hid (hexV n = -1) := Lib.hid (by
      unfold hexV
      repeat' split
      all_goals omega)
    have g48 : ((48 : Int) ≤ n) := by omega
    have g57 : ¬ ((n : Int) ≤ 57) := by omega
    have g97 : ¬ ((97 : Int) ≤ n) := by omega
    have g102 : ((n : Int) ≤ 102) := by omega
    have g65 : ¬ ((65 : Int) ≤ n) := by omega
    have g70 : ((n : Int) ≤ 70) := by omega
    clear r1 r2
    go_enter Tryd.func66, Tryd.ntmps66
    go_wp2_with fail
    go_ret
    exact ⟨rint (by have := hv.out; omega), rfl⟩
  · have hv : Hid (hexV n = (n : Int) - 55) := Lib.hid (by
      unfold hexV
      repeat' split
      all_goals omega)
    have g48 : ((48 : Int) ≤ n) := by omega
    have g57 : ¬ ((n : Int) ≤ 57) := by omega
    have g97 : ¬ ((97 : Int) ≤ n) := by omega
    have g102 : ((n : Int) ≤ 102) := by omega
    have g65 : ((65 : Int) ≤ n) := by omega
    have g70 : ((n : Int) ≤ 70) := by omega
    have q : IntKind.u8.wrap ((n : Int) - 65) = n - 65 := by rw [IntKind.wrap_u8]; omega
    clear r1 r2
    go_enter Tryd.func66, Tryd.ntmps66
    go_wp2_with fail
    go_ret
    exact ⟨rint (by have := hv.out; omega), rfl⟩
  · have hv : Hid (hexV n = -1) := Lib.hid (by
      unfold hexV
      repeat' split
      all_goals omega)
    have g48 : ((48 : Int) ≤ n) := by omega
    have g57 : ¬ ((n : Int) ≤ 57) := by omega
    have g97 : ¬ ((97 : Int) ≤ n) := by omega
    have g102 : ((n : Int) ≤ 102) := by omega
    have g65 : ((65 : Int) ≤ n) := by omega
    have g70 : ¬ ((n : Int) ≤ 70) := by omega
    clear r1 r2
    go_enter Tryd.func66, Tryd.ntmps66
    go_wp2_with fail
    go_ret
    exact ⟨rint (by have := hv.out; omega), rfl⟩
  · have hv : Hid (hexV n = (n : Int) - 87) := Lib.hid (by
      unfold hexV
      repeat' split
      all_goals omega)
    have g48 : ((48 : Int) ≤ n) := by omega
    have g57 : ¬ ((n : Int) ≤ 57) := by omega
    have g97 : ((97 : Int) ≤ n) := by omega
    have g102 : ((n : Int) ≤ 102) := by omega
    have g65 : ((65 : Int) ≤ n) := by omega
    have g70 : ¬ ((n : Int) ≤ 70) := by omega
    have q : IntKind.u8.wrap ((n : Int) - 97) = n - 97 := by rw [IntKind.wrap_u8]; omega
    clear r1 r2
    go_enter Tryd.func66, Tryd.ntmps66
    go_wp2_with fail
    go_ret
    exact ⟨rint (by have := hv.out; omega), rfl⟩
  · have hv : Hid (hexV n = -1) := Lib.hid (by
      unfold hexV
      repeat' split
      all_goals omega)
    have g48 : ((48 : Int) ≤ n) := by omega
    have g57 : ¬ ((n : Int) ≤ 57) := by omega
    have g97 : ((97 : Int) ≤ n) := by omega
    have g102 : ¬ ((n : Int) ≤ 102) := by omega
    have g65 : ((65 : Int) ≤ n) := by omega
    have g70 : ¬ ((n : Int) ≤ 70) := by omega
    clear r1 r2
    go_enter Tryd.func66, Tryd.ntmps66
    go_wp2_with fail
    go_ret
    exact ⟨rint (by have := hv.out; omega), rfl⟩
/-- A byte, whatever, and whether an escape stands there. -/
def EscPost (g : Bool) (e : Ending) : Prop := ∃ x : Int, 0 ≤ x ∧ x ≤ 255 ∧ e = .returned (.tuple #[.int .u8 x, .bool g])
theorem hexV_range (n : Nat) : hexV n = -1 ∨ (0 ≤ hexV n ∧ hexV n < 16) := by
  unfold hexV
  repeat' split
  all_goals omega
set_option maxRecDepth 20000 in
set_option maxHeartbeats 1000000 in
theorem escaped_any (s : ByteArray) (i : Nat) (hi : i < s.size) (hs : s.size ≤ 1000000) (w : World) : Calls Tryd.prog 47 #[.string s, .int .i64 i] w fun e w' => EscPost (esc (s.data.toList.drop i)) e ∧ Below w.heap.size w w' := by
  have HE := Lib.hid (esc_at s i)
  by_cases h2 : i + 2 < s.size
  · rw [dif_pos h2] at HE
    obtain ⟨a, ha⟩ : ∃ a, a = s[i] := ⟨_, rfl⟩
    obtain ⟨b, hb⟩ : ∃ a, a = s[i + 1] := ⟨_, rfl⟩
    obtain ⟨c, hc⟩ : ∃ a, a = s[i + 2] := ⟨_, rfl⟩
    rw [← ha, ← hb, ← hc] at HE
    have ha1 := UInt8.toNat_lt a
    have hb1 := UInt8.toNat_lt b
    have hc1 := UInt8.toNat_lt c
    have k0 : ∀ q : i < s.size, (s[i].toNat : Int) = (a.toNat : Nat) := fun q => by rw [ha]
    have k1 : ∀ q : i + 1 < s.size, (s[i + 1].toNat : Int) = (b.toNat : Nat) := fun q => by rw [hb]
    have k2 : ∀ q : i + 2 < s.size, (s[i + 2].toNat : Int) = (c.toNat : Nat) := fun q => by rw [hc]
    have g1 : ¬ ((s.size : Int) ≤ i + 2) := by omega
    have g2 : (i : Int) < s.size := by omega
    have g3 : (i : Int) + 1 < s.size := by omega
    have g4 : (i : Int) + 2 < s.size := by omega
    have t1 : ((i : Int) + 1).toNat = i + 1 := by omega
    have t2 : ((i : Int) + 2).toNat = i + 2 := by omega
    by_cases h37 : a.toNat = 37
    · have h37' : (a.toNat : Int) = 37 := by omega
      have HX := Lib.hid (fun (b : UInt8) w => hex_any b.toNat (UInt8.toNat_lt b) w)
      have a37 : (a == 37) = true := by
        rw [beq_iff_eq]; exact UInt8.toNat_inj.1 h37
      rw [a37, Bool.true_and] at HE
      unfold hexB at HE
      have R1 := Lib.hid (hexV_range b.toNat)
      have R2 := Lib.hid (hexV_range c.toNat)
      by_cases s1 : hexV b.toNat < 0
      · have d1 : decide (0 ≤ hexV b.toNat) = false := by rw [decide_eq_false_iff_not]; omega
        rw [d1, Bool.false_and] at HE
        clear ha hb hc ha1 hb1 hc1
        go_enter Tryd.func47, Tryd.ntmps47
        go_wp2_with (go_quiet (first | (go_at_call 66; exact Calls.quiet_of_same (HX.out _ _))))
        go_ret2
        exact ⟨⟨_, (Int.le_refl 0), (by decide), by rw [HE.out]; rfl⟩, below_dr (Below.refl _ _) _⟩
      · have d1 : decide (0 ≤ hexV b.toNat) = true := by rw [decide_eq_true_eq]; omega
        rw [d1, Bool.true_and] at HE
        by_cases s2 : hexV c.toNat < 0
        · have d2 : decide (0 ≤ hexV c.toNat) = false := by rw [decide_eq_false_iff_not]; omega
          rw [d2] at HE
          clear ha hb hc ha1 hb1 hc1
          go_enter Tryd.func47, Tryd.ntmps47
          go_wp2_with (go_quiet (first | (go_at_call 66; exact Calls.quiet_of_same (HX.out _ _))))
          go_ret2
          exact ⟨⟨_, (Int.le_refl 0), (by decide), by rw [HE.out]; rfl⟩, below_dr (Below.refl _ _) _⟩
        · have d2 : decide (0 ≤ hexV c.toNat) = true := by rw [decide_eq_true_eq]; omega
          rw [d2] at HE
          clear ha hb hc ha1 hb1 hc1
          go_enter Tryd.func47, Tryd.ntmps47
          go_wp2_with (go_quiet (first | (go_at_call 66; exact Calls.quiet_of_same (HX.out _ _))))
          go_ret2
          exact ⟨⟨_, Int.emod_nonneg _ (by decide), Int.le_of_lt_add_one (Int.emod_lt_of_pos _ (by decide)), by rw [HE.out]; rfl⟩, below_dr (Below.refl _ _) _⟩
    · have h37' : ¬ (a.toNat : Int) = 37 := by omega
      have a37 : (a == 37) = false := by
        rw [beq_eq_false_iff_ne]; intro e; exact h37 (by rw [e]; rfl)
      rw [a37, Bool.false_and] at HE
      clear ha hb hc ha1 hb1 hc1
      go_enter Tryd.func47, Tryd.ntmps47
      go_wp2_with fail
      go_ret2
      exact ⟨⟨0, by omega, by omega, by rw [HE.out]; rfl⟩, Below.refl _ _⟩
  · rw [dif_neg h2] at HE
    have g1 : (s.size : Int) ≤ i + 2 := by omega
    go_enter Tryd.func47, Tryd.ntmps47
    go_wp2_with fail
    go_ret2
    exact ⟨⟨0, by omega, by omega, by rw [HE.out]; rfl⟩, Below.refl _ _⟩
/-- A set in its box. -/
def IP (w : World) (a0 a1 a2 a3 : Int) (w' : World) : Prop := w'.cell? ⟨w.heap.size, 0, none⟩ = some (.int .u64 a0) ∧ w'.cell? ⟨w.heap.size, 1, none⟩ = some (.int .u64 a1) ∧ w'.cell? ⟨w.heap.size, 2, none⟩ = some (.int .u64 a2) ∧ w'.cell? ⟨w.heap.size, 3, none⟩ = some (.int .u64 a3) ∧ w.heap.size < w'.heap.size ∧ Below w.heap.size w w'
theorem IP.up {w w1 w2 : World} {a0 a1 a2 a3 : Int} (h : IP w a0 a1 a2 a3 w1) (hb : Below w1.heap.size w1 w2) : IP w a0 a1 a2 a3 w2 := by
  obtain ⟨c0, c1, c2, c3, hs, h0⟩ := h
  exact ⟨(hb.cell (p := ⟨w.heap.size, 0, none⟩) hs).trans c0, (hb.cell (p := ⟨w.heap.size, 1, none⟩) hs).trans c1, (hb.cell (p := ⟨w.heap.size, 2, none⟩) hs).trans c2, (hb.cell (p := ⟨w.heap.size, 3, none⟩) hs).trans c3, Nat.lt_of_lt_of_le hs hb.size, h0.trans (hb.mono h0.size)⟩
theorem IP.new (w : World) (a0 a1 a2 a3 : Int) : IP w a0 a1 a2 a3 (w.alloc (.cells #[.int .u64 a0, .int .u64 a1, .int .u64 a2, .int .u64 a3] 60)) := by
  refine ⟨?_, ?_, ?_, ?_, by simp, (Below.refl _ w).alloc (Nat.le_refl _) _⟩
  · exact World.cell?_alloc_mark w _ _ _ 0
  · exact World.cell?_alloc_mark w _ _ _ 1
  · exact World.cell?_alloc_mark w _ _ _ 2
  · exact World.cell?_alloc_mark w _ _ _ 3
def PlainAt (w : World) (a0 a1 a2 a3 : Int) (s : ByteArray) (may : UInt8 → Bool) (v : Value) (W : World) : Prop := ∃ i : Nat, i ≤ s.size ∧ v = .int .i64 i ∧ IP w a0 a1 a2 a3 W ∧ (s.data.toList.drop i).all may = s.data.toList.all may
set_option maxRecDepth 20000 in
set_option maxHeartbeats 1000000 in
theorem isPlain_any (s : ByteArray) (L : List UInt8) (may : UInt8 → Bool) (hmay : ∀ b, L.contains b = may b) (hs : s.size ≤ 1000000) (w : World) :
    Calls Tryd.prog 38 #[.string s, setV L] w fun e w' => e = .returned (.bool (s.data.toList.all may)) ∧ Below w.heap.size w w' := by
  have HC := Lib.hid (fun b w => has_any L b w)
  unfold setV setC at HC ⊢
  obtain ⟨a0, h0⟩ : ∃ a : Int, a = ((wd L 0 : Nat) : Int) := ⟨_, rfl⟩
  obtain ⟨a1, h1⟩ : ∃ a : Int, a = ((wd L 1 : Nat) : Int) := ⟨_, rfl⟩
  obtain ⟨a2, h2⟩ : ∃ a : Int, a = ((wd L 2 : Nat) : Int) := ⟨_, rfl⟩
  obtain ⟨a3, h3⟩ : ∃ a : Int, a = ((wd L 3 : Nat) : Int) := ⟨_, rfl⟩
  rw [← h0, ← h1, ← h2, ← h3] at HC ⊢
  clear h0 h1 h2 h3
  have P0 := Lib.hid (IP.new w a0 a1 a2 a3)
  have HMAY := Lib.hid hmay
  clear hmay
  go_enter Tryd.func38, Tryd.ntmps38
  go_wp2_with fail
  obtain ⟨w0, hw0⟩ : ∃ w0, w0 = w.alloc (.cells #[.int .u64 a0, .int .u64 a1, .int .u64 a2, .int .u64 a3] 60) := ⟨_, rfl⟩
  rw [← hw0] at P0 ⊢
  clear hw0
  go_loopw [5] (fun s5 wr => PlainAt w a0 a1 a2 a3 s may s5 wr) (fun s5 _ => s.size - (intOf s5).toNat)
  case atStart => exact ⟨0, Nat.zero_le _, rfl, P0.out, by rw [List.drop_zero]⟩
  case round =>
    obtain ⟨i, hi, rfl, hip, hall⟩ := hrel
    have HP := Lib.hid hip
    have HA := Lib.hid hall
    clear hip hall
    by_cases hlt : i < s.size
    · have hlt' : (i : Int) < s.size := by omega
      have HAT := Lib.hid (all_at may s i hlt)
      obtain ⟨b, hb⟩ : ∃ b, b = s[i] := ⟨_, rfl⟩
      rw [← hb] at HAT
      have k0 : ∀ q : i < s.size, (s[i].toNat : Int) = (b.toNat : Nat) := fun q => by rw [hb]
      have CB : Hid (∀ W, IP w a0 a1 a2 a3 W → Calls Tryd.prog 49 #[.agg #[.int .u64 a0, .int .u64 a1, .int .u64 a2, .int .u64 a3], .int .u8 (b.toNat : Nat)] W fun e w' => e = .returned (.bool (may b)) ∧ IP w a0 a1 a2 a3 w') :=
        Lib.hid (fun W h => (HC.out b W).mono fun e w' z => ⟨by rw [z.1, HMAY.out b], h.up z.2⟩)
      clear hb
      have hSS : IP w a0 a1 a2 a3 wr.drew := HP.out.up ((Below.refl _ _).drew)
      obtain ⟨g, hg⟩ : ∃ g, g = may b := ⟨_, rfl⟩
      rw [← hg] at CB HAT
      clear hg
      unfold IP at hSS
      go_wp2_with fail
      go_region_held3 (fun w' => w'.cell? ⟨w.heap.size, 0, none⟩ = some (.int .u64 a0) ∧ w'.cell? ⟨w.heap.size, 1, none⟩ = some (.int .u64 a1) ∧ w'.cell? ⟨w.heap.size, 2, none⟩ = some (.int .u64 a2) ∧ w'.cell? ⟨w.heap.size, 3, none⟩ = some (.int .u64 a3) ∧ w.heap.size < w'.heap.size ∧ Below w.heap.size w w')
        ((first | exact hSS | assumption))
        (first | (go_at_call 49; refine (CB.out _ (by assumption)).mono ?_; rintro e w' ⟨rfl, hS2⟩; unfold IP at hS2))
      cases g with
      | true =>
        go_wp2_with fail
        go_roundw
        case rel => exact ⟨i + 1, by omega, by go_num, by assumption, by rw [← HA.out, HAT.out, Bool.true_and]⟩
        case measure => simp [intOf]; omega
      | false =>
        go_wp2_with fail
        go_ret
        exact ⟨rbool (by rw [← HA.out, HAT.out, Bool.false_and]), hS2.2.2.2.2.2⟩
    · obtain rfl : i = s.size := by omega
      go_wp2_with fail
      go_ret
      exact ⟨rbool (by rw [← HA.out, drop_end]; rfl), HP.out.2.2.2.2.2⟩
def OfAt (w : World) (a0 a1 a2 a3 : Int) (s : ByteArray) (may : UInt8 → Bool) (v : Value) (W : World) : Prop := ∃ i : Nat, i ≤ s.size ∧ v = .int .i64 i ∧ IP w a0 a1 a2 a3 W ∧ ofP may (s.data.toList.drop i) = ofP may s.data.toList
set_option maxRecDepth 20000 in
set_option maxHeartbeats 1000000 in
theorem isOf_any (s : ByteArray) (L : List UInt8) (may : UInt8 → Bool) (hmay : ∀ b, L.contains b = may b) (hs : s.size ≤ 1000000) (w : World) :
    Calls Tryd.prog 36 #[.string s, setV L] w fun e w' => e = .returned (.bool (ofP may s.data.toList)) ∧ Below w.heap.size w w' := by
  have HC := Lib.hid (fun b w => has_any L b w)
  unfold setV setC at HC ⊢
  obtain ⟨a0, h0⟩ : ∃ a : Int, a = ((wd L 0 : Nat) : Int) := ⟨_, rfl⟩
  obtain ⟨a1, h1⟩ : ∃ a : Int, a = ((wd L 1 : Nat) : Int) := ⟨_, rfl⟩
  obtain ⟨a2, h2⟩ : ∃ a : Int, a = ((wd L 2 : Nat) : Int) := ⟨_, rfl⟩
  obtain ⟨a3, h3⟩ : ∃ a : Int, a = ((wd L 3 : Nat) : Int) := ⟨_, rfl⟩
  rw [← h0, ← h1, ← h2, ← h3] at HC ⊢
  clear h0 h1 h2 h3
  have P0 := Lib.hid (IP.new w a0 a1 a2 a3)
  have HMAY := Lib.hid hmay
  clear hmay
  go_enter Tryd.func36, Tryd.ntmps36
  go_wp2_with fail
  obtain ⟨w0, hw0⟩ : ∃ w0, w0 = w.alloc (.cells #[.int .u64 a0, .int .u64 a1, .int .u64 a2, .int .u64 a3] 60) := ⟨_, rfl⟩
  rw [← hw0] at P0 ⊢
  clear hw0
  go_loopw [5] (fun s5 wr => OfAt w a0 a1 a2 a3 s may s5 wr) (fun s5 _ => s.size - (intOf s5).toNat)
  case atStart => exact ⟨0, Nat.zero_le _, rfl, P0.out, by rw [List.drop_zero]⟩
  case round =>
    obtain ⟨i, hi, rfl, hip, hall⟩ := hrel
    have HP := Lib.hid hip
    have HA := Lib.hid hall
    clear hip hall
    by_cases hlt : i < s.size
    · have hlt' : (i : Int) < s.size := by omega
      have HAT := Lib.hid (ofP_at may s i hlt)
      obtain ⟨b, hb⟩ : ∃ b, b = s[i] := ⟨_, rfl⟩
      rw [← hb] at HAT
      have k0 : ∀ q : i < s.size, (s[i].toNat : Int) = (b.toNat : Nat) := fun q => by rw [hb]
      have CB : Hid (∀ W, IP w a0 a1 a2 a3 W → Calls Tryd.prog 49 #[.agg #[.int .u64 a0, .int .u64 a1, .int .u64 a2, .int .u64 a3], .int .u8 (b.toNat : Nat)] W fun e w' => e = .returned (.bool (may b)) ∧ IP w a0 a1 a2 a3 w') :=
        Lib.hid (fun W h => (HC.out b W).mono fun e w' z => ⟨by rw [z.1, HMAY.out b], h.up z.2⟩)
      have CE := Lib.hid (fun W => escaped_any s i hlt hs W)
      clear hb
      have hSS : IP w a0 a1 a2 a3 wr.drew := HP.out.up ((Below.refl _ _).drew)
      obtain ⟨g, hg⟩ : ∃ g, g = may b := ⟨_, rfl⟩
      rw [← hg] at CB HAT
      obtain ⟨z, hz⟩ : ∃ z, z = esc (s.data.toList.drop i) := ⟨_, rfl⟩
      have HZ := Lib.hid hz
      rw [← hz] at CE HAT
      clear hz
      clear hg
      unfold IP at hSS
      go_wp2_with fail
      go_region_held3 (fun w' => w'.cell? ⟨w.heap.size, 0, none⟩ = some (.int .u64 a0) ∧ w'.cell? ⟨w.heap.size, 1, none⟩ = some (.int .u64 a1) ∧ w'.cell? ⟨w.heap.size, 2, none⟩ = some (.int .u64 a2) ∧ w'.cell? ⟨w.heap.size, 3, none⟩ = some (.int .u64 a3) ∧ w.heap.size < w'.heap.size ∧ Below w.heap.size w w')
        ((first | exact hSS | assumption))
        (first | (go_at_call 49; refine (CB.out _ (by assumption)).mono ?_; rintro e w' ⟨rfl, hS2⟩; unfold IP at hS2))
      cases g with
      | true =>
        go_wp2_with fail
        go_roundw
        case rel => exact ⟨i + 1, by omega, by go_num, by assumption, by rw [← HA.out, HAT.out, if_pos rfl]⟩
        case measure => simp [intOf]; omega
      | false =>
        have HP2 : Hid (IP w a0 a1 a2 a3 w') := Lib.hid hS2
        clear hS2 hSS
        go_wp2_with fail
        refine (CE.out _).mono ?_
        rintro e w1 ⟨⟨x, hx0, hx1, rfl⟩, b1⟩
        have HP3 := Lib.hid (HP2.out.up b1)
        clear b1
        cases z with
        | true =>
          have HI := Lib.hid (esc_first hlt HZ.out.symm).2
          have hi3 := HI.out
          go_wp2_with fail
          go_roundw
          case rel => exact ⟨i + 3, by omega, by go_num, HP3.out, by rw [← HA.out, HAT.out]; rfl⟩
          case measure => simp [intOf]; omega
        | false =>
          go_wp2_with fail
          go_ret
          exact ⟨rbool (by rw [← HA.out, HAT.out]; rfl), HP3.out.2.2.2.2.2⟩
    · obtain rfl : i = s.size := by omega
      go_wp2_with fail
      go_ret
      exact ⟨rbool (by rw [← HA.out, drop_end, ofP_nil]), HP.out.2.2.2.2.2⟩
theorem info_text : ∃ i, Tryd.prog.info? 9 = some i ∧ i.zero = some (.string ⟨#[]⟩) ∧ i.size = 1 ∧ i.bytes = 16 := info_parts (by kernel_rfl)
theorem own_texts {w : World} {B : Nat} {v : Value} {xs : List ByteArray} (h : w.ownsRow B 9 1 v xs.length (xs.map Value.string)) (h0 : 0 < xs.length) :
    ∃ b cap, v = .slice (some ⟨b, 0, none⟩) xs.length cap ∧ xs.length ≤ cap ∧ B ≤ b ∧ b < w.heap.size ∧ ∀ j x, xs[j]? = some x → w.cell? ⟨b, 0 + j, none⟩ = some (.string x) := by
  rcases h.2 with ⟨rfl, hn⟩ | ⟨g, cap, cur, rfl, hg, hgg, h1, h2, h3, h4⟩
  · omega
  · refine ⟨g, cap, rfl, h1, hg, (Array.getElem?_eq_some_iff.1 hgg).1, fun k x hk => ?_⟩
    have hkl : k < xs.length := (List.getElem?_eq_some_iff.1 hk).1
    rw [Nat.zero_add]
    simp only [World.cell?, hgg]
    have e : cur.toList[k]? = (cur.toList.take (xs.length * 1))[k]? := by rw [List.getElem?_take_of_lt (by omega)]
    have e2 : cur[k]? = cur.toList[k]? := by simp
    have e3 : cur[k]? = some (.string x) := by
      rw [e2, e, h4, List.getElem?_map, hk]; rfl
    simpa using e3
theorem text_one {xs : List ByteArray} : ∀ u ∈ xs.map Value.string, u.oneCell' = true := by
  intro u hu
  obtain ⟨x, _, rfl⟩ := List.mem_map.1 hu
  rfl
theorem text_news {w : World} {b o : Nat} {xs : List ByteArray} (h : ∀ j x, xs[j]? = some x → w.cell? ⟨b, o + j, none⟩ = some (.string x)) : ∀ j u, (xs.map Value.string)[j]? = some u → w.cell? ((⟨b, o, none⟩ : Addr).add j) = some u := by
  intro j u hj
  rw [List.getElem?_map] at hj
  cases hx : xs[j]? with
  | none => rw [hx] at hj; cases hj
  | some x =>
    rw [hx] at hj
    obtain rfl := Option.some.inj hj
    rw [Addr.add_lit]; exact h j x hx
def base4 : List ByteArray := [⟨#[97, 98, 99, 100, 101, 102, 103, 104, 105, 106, 107, 108, 109, 110, 111, 112, 113, 114, 115, 116, 117, 118, 119, 120, 121, 122]⟩, ⟨#[65, 66, 67, 68, 69, 70, 71, 72, 73, 74, 75, 76, 77, 78, 79, 80, 81, 82, 83, 84, 85, 86, 87, 88, 89, 90]⟩, ⟨#[48, 49, 50, 51, 52, 53, 54, 55, 56, 57]⟩, ⟨#[45, 46, 95, 126]⟩]
theorem flat_app (xs ys : List ByteArray) : flat (xs ++ ys) = flat xs ++ flat ys := by unfold flat; simp
theorem flat_base4 : flat base4 = smallL ++ greatL ++ numL ++ [45, 46, 95, 126] := by rfl
theorem base_cells (w : World) : ∀ j x, base4[j]? = some x → (w.alloc (.cells #[.string ⟨#[97, 98, 99, 100, 101, 102, 103, 104, 105, 106, 107, 108, 109, 110, 111, 112, 113, 114, 115, 116, 117, 118, 119, 120, 121, 122]⟩, .string ⟨#[65, 66, 67, 68, 69, 70, 71, 72, 73, 74, 75, 76, 77, 78, 79, 80, 81, 82, 83, 84, 85, 86, 87, 88, 89, 90]⟩, .string ⟨#[48, 49, 50, 51, 52, 53, 54, 55, 56, 57]⟩, .string ⟨#[45, 46, 95, 126]⟩] 9)).cell? ⟨w.heap.size, 0 + j, none⟩ = some (.string x) := by
  intro j x hj
  rw [World.cell?_alloc_mark, Nat.zero_add]
  match j, hj with
  | 0, h => obtain rfl := Option.some.inj h; rfl
  | 1, h => obtain rfl := Option.some.inj h; rfl
  | 2, h => obtain rfl := Option.some.inj h; rfl
  | 3, h => obtain rfl := Option.some.inj h; rfl
set_option maxRecDepth 20000 in
set_option maxHeartbeats 1000000 in
theorem unr_view (xs : List ByteArray) (b o cap : Nat) (w : World) (h0 : 0 < xs.length) (hcap : xs.length ≤ cap) (hb : b < w.heap.size) (hx : ∀ j x, xs[j]? = some x → w.cell? ⟨b, o + j, none⟩ = some (.string x)) (hl : xs.length ≤ 100) (hs : ∀ x ∈ xs, x.size ≤ 1000000) :
    Calls Tryd.prog 46 #[.slice (some ⟨b, o, none⟩) xs.length cap] w fun e w' => e = .returned (setV (flat (base4 ++ xs))) ∧ Below w.heap.size w w' := by
  obtain ⟨L, hL⟩ : ∃ L, L = flat (base4 ++ xs) := ⟨_, rfl⟩
  rw [← hL]
  have HLL := Lib.hid hL
  clear hL
  obtain ⟨i0, hi, hz0, hz1, hz2⟩ := info_text
  have HI := Lib.hid hi
  have HZ0 := Lib.hid hz0
  have HZ1 := Lib.hid hz1
  have HZ2 := Lib.hid hz2
  have HX := Lib.hid (fun W (hW : Below w.heap.size w W) j x (h : xs[j]? = some x) => (hW.cell (p := ⟨b, o + j, none⟩) hb).trans (hx j x h))
  have HS := Lib.hid hs
  clear hx hs hi hz0 hz1 hz2
  have zz : (w.alloc (.cells #[.int .u64 0, .int .u64 0, .int .u64 0, .int .u64 0] 60)).heap.size = w.heap.size + 1 := by simp
  have hbc := base_cells (w.alloc (.cells #[.int .u64 0, .int .u64 0, .int .u64 0, .int .u64 0] 60))
  rw [zz] at hbc
  have HB := Lib.hid hbc
  have hsb := SBox.new w []
  rw [set_nil] at hsb
  have B1 : Hid (Below w.heap.size w (w.alloc (.cells #[.int .u64 0, .int .u64 0, .int .u64 0, .int .u64 0] 60))) := Lib.hid ((Below.refl _ w).alloc (Nat.le_refl _) _)
  have B2 : Hid (Below w.heap.size w ((w.alloc (.cells #[.int .u64 0, .int .u64 0, .int .u64 0, .int .u64 0] 60)).alloc (.cells #[.string ⟨#[97, 98, 99, 100, 101, 102, 103, 104, 105, 106, 107, 108, 109, 110, 111, 112, 113, 114, 115, 116, 117, 118, 119, 120, 121, 122]⟩, .string ⟨#[65, 66, 67, 68, 69, 70, 71, 72, 73, 74, 75, 76, 77, 78, 79, 80, 81, 82, 83, 84, 85, 86, 87, 88, 89, 90]⟩, .string ⟨#[48, 49, 50, 51, 52, 53, 54, 55, 56, 57]⟩, .string ⟨#[45, 46, 95, 126]⟩] 9))) := Lib.hid (B1.out.alloc (by simp) _)
  have SB : Hid (SBox ((w.alloc (.cells #[.int .u64 0, .int .u64 0, .int .u64 0, .int .u64 0] 60)).alloc (.cells #[.string ⟨#[97, 98, 99, 100, 101, 102, 103, 104, 105, 106, 107, 108, 109, 110, 111, 112, 113, 114, 115, 116, 117, 118, 119, 120, 121, 122]⟩, .string ⟨#[65, 66, 67, 68, 69, 70, 71, 72, 73, 74, 75, 76, 77, 78, 79, 80, 81, 82, 83, 84, 85, 86, 87, 88, 89, 90]⟩, .string ⟨#[48, 49, 50, 51, 52, 53, 54, 55, 56, 57]⟩, .string ⟨#[45, 46, 95, 126]⟩] 9)) w.heap.size []) := Lib.hid (hsb.up ((Below.refl _ _).alloc (Nat.le_refl _) _))
  clear zz hbc hsb
  go_enter Tryd.func46, Tryd.ntmps46
  go_wp2_with (first | (at_builtin; refine wpList_append_grows _ rfl _ _ 80 rfl 9 i0 _ 1 16 Tryd.underlying80 HI.out HZ0.out HZ1.out HZ2.out rfl (by decide) _ 4 4 (base4.map Value.string) rfl (by intro h; cases h) (by rfl) (fun bb hbb => by obtain rfl := Option.some.inj hbb; exact text_news HB.out) ⟨b, o, none⟩ xs.length cap (xs.map Value.string) rfl (by simp) (text_news (fun j x h => HX.out _ B2.out j x h)) text_one (by omega) (by unfold maxLen; omega) (by omega) ?_))
  rw [← List.map_append]
  intro v' w3 hown hgrow
  have hsize : (4 + xs.length) = (base4 ++ xs).length := by simp [base4]; omega
  rw [hsize] at hown
  obtain ⟨b', cap', rfl, hcap', hb1, hb2, hcells⟩ := own_texts hown (by simp [base4])
  have B3 : Hid (Below w.heap.size w w3) := Lib.hid (B2.out.grown hgrow (by simp; omega) (by intro k hk; cases hk))
  have SB3 : Hid (SBox w3 w.heap.size []) := Lib.hid (SB.out.up ((Below.refl _ _).grown hgrow (Nat.le_refl _) (by intro k hk; cases hk)))
  have M := Lib.hid (marks_view (base4 ++ xs) b' 0 cap' w3 (by simp [base4]) hcap' hb2 hcells (by simp [base4]; omega) (by
    intro x hx
    rcases List.mem_append.1 hx with h | h
    · have : ∀ y ∈ base4, y.size ≤ 1000000 := by decide
      exact this x h
    · exact HS.out x h))
  clear hgrow hown hcells hb1 hb2 hcap' hsize
  rw [List.length_append] at M
  rw [← HLL.out] at M
  unfold setV setC at M
  go_wp2_with fail
  refine M.out.mono ?_
  rintro e w4 ⟨rfl, b4⟩
  have B4 := Lib.hid (B3.out.trans (b4.mono B3.out.size))
  have SB4 := Lib.hid (SB3.out.up b4)
  have c0 := SB4.out.1 0 (by decide)
  have c1 := SB4.out.1 1 (by decide)
  have c2 := SB4.out.1 2 (by decide)
  have c3 := SB4.out.1 3 (by decide)
  clear b4
  obtain ⟨c0, f0⟩ := c0
  obtain ⟨c1, f1⟩ := c1
  obtain ⟨c2, f2⟩ := c2
  obtain ⟨c3, f3⟩ := c3
  go_wp2_with fail
  have hfin := set_cells SB4.out L
  exact ret_set (N := w.heap.size) (L := L) Tryd.results46 (by rfl) hfin ⟨rfl, below_cells w.heap.size (Nat.le_refl _) (setL L) 0 _ B4.out⟩
def base1 : List ByteArray := [⟨#[33, 36, 38, 39, 40, 41, 42, 43, 44, 59, 61]⟩]
theorem flat_base1 : flat base1 = [33, 36, 38, 39, 40, 41, 42, 43, 44, 59, 61] := by rfl
theorem del_cells (w : World) : ∀ j x, base1[j]? = some x → (w.alloc (.cells #[.string ⟨#[33, 36, 38, 39, 40, 41, 42, 43, 44, 59, 61]⟩] 9)).cell? ⟨w.heap.size, 0 + j, none⟩ = some (.string x) := by
  intro j x hj
  rw [World.cell?_alloc_mark, Nat.zero_add]
  match j, hj with
  | 0, h => obtain rfl := Option.some.inj h; rfl
set_option maxRecDepth 20000 in
set_option maxHeartbeats 1000000 in
theorem del_view (xs : List ByteArray) (b o cap : Nat) (w : World) (h0 : 0 < xs.length) (hcap : xs.length ≤ cap) (hb : b < w.heap.size) (hx : ∀ j x, xs[j]? = some x → w.cell? ⟨b, o + j, none⟩ = some (.string x)) (hl : xs.length ≤ 90) (hs : ∀ x ∈ xs, x.size ≤ 1000000) :
    Calls Tryd.prog 37 #[.slice (some ⟨b, o, none⟩) xs.length cap] w fun e w' => e = .returned (setV (flat (base4 ++ (base1 ++ xs)))) ∧ Below w.heap.size w w' := by
  obtain ⟨L, hL⟩ : ∃ L, L = flat (base4 ++ (base1 ++ xs)) := ⟨_, rfl⟩
  rw [← hL]
  have HLL := Lib.hid hL
  clear hL
  obtain ⟨i0, hi, hz0, hz1, hz2⟩ := info_text
  have HI := Lib.hid hi
  have HZ0 := Lib.hid hz0
  have HZ1 := Lib.hid hz1
  have HZ2 := Lib.hid hz2
  have HX := Lib.hid (fun W (hW : Below w.heap.size w W) j x (h : xs[j]? = some x) => (hW.cell (p := ⟨b, o + j, none⟩) hb).trans (hx j x h))
  have HS := Lib.hid hs
  clear hx hs hi hz0 hz1 hz2
  have zz : (w.alloc (.cells #[.int .u64 0, .int .u64 0, .int .u64 0, .int .u64 0] 60)).heap.size = w.heap.size + 1 := by simp
  have hbc := del_cells (w.alloc (.cells #[.int .u64 0, .int .u64 0, .int .u64 0, .int .u64 0] 60))
  rw [zz] at hbc
  have HB := Lib.hid hbc
  have hsb := SBox.new w []
  rw [set_nil] at hsb
  have B1 : Hid (Below w.heap.size w (w.alloc (.cells #[.int .u64 0, .int .u64 0, .int .u64 0, .int .u64 0] 60))) := Lib.hid ((Below.refl _ w).alloc (Nat.le_refl _) _)
  have B2 : Hid (Below w.heap.size w ((w.alloc (.cells #[.int .u64 0, .int .u64 0, .int .u64 0, .int .u64 0] 60)).alloc (.cells #[.string ⟨#[33, 36, 38, 39, 40, 41, 42, 43, 44, 59, 61]⟩] 9))) := Lib.hid (B1.out.alloc (by simp) _)
  have SB : Hid (SBox ((w.alloc (.cells #[.int .u64 0, .int .u64 0, .int .u64 0, .int .u64 0] 60)).alloc (.cells #[.string ⟨#[33, 36, 38, 39, 40, 41, 42, 43, 44, 59, 61]⟩] 9)) w.heap.size []) := Lib.hid (hsb.up ((Below.refl _ _).alloc (Nat.le_refl _) _))
  clear zz hbc hsb
  go_enter Tryd.func37, Tryd.ntmps37
  go_wp2_with (first | (at_builtin; refine wpList_append_grows _ rfl _ _ 80 rfl 9 i0 _ 1 16 Tryd.underlying80 HI.out HZ0.out HZ1.out HZ2.out rfl (by decide) _ 1 1 (base1.map Value.string) rfl (by intro h; cases h) (by rfl) (fun bb hbb => by obtain rfl := Option.some.inj hbb; exact text_news HB.out) ⟨b, o, none⟩ xs.length cap (xs.map Value.string) rfl (by simp) (text_news (fun j x h => HX.out _ B2.out j x h)) text_one (by omega) (by unfold maxLen; omega) (by omega) ?_))
  rw [← List.map_append]
  intro v' w3 hown hgrow
  have hsize : (1 + xs.length) = (base1 ++ xs).length := by simp [base1]; omega
  rw [hsize] at hown
  obtain ⟨b', cap', rfl, hcap', hb1, hb2, hcells⟩ := own_texts hown (by simp [base1])
  have B3 : Hid (Below w.heap.size w w3) := Lib.hid (B2.out.grown hgrow (by simp; omega) (by intro k hk; cases hk))
  have SB3 : Hid (SBox w3 w.heap.size []) := Lib.hid (SB.out.up ((Below.refl _ _).grown hgrow (Nat.le_refl _) (by intro k hk; cases hk)))
  have M := Lib.hid (unr_view (base1 ++ xs) b' 0 cap' w3 (by simp [base1]) hcap' hb2 hcells (by simp [base1]; omega) (by
    intro x hx
    rcases List.mem_append.1 hx with h | h
    · have : ∀ y ∈ base1, y.size ≤ 1000000 := by decide
      exact this x h
    · exact HS.out x h))
  clear hgrow hown hcells hb1 hb2 hcap' hsize
  rw [List.length_append] at M
  rw [← HLL.out] at M
  unfold setV setC at M
  go_wp2_with fail
  refine M.out.mono ?_
  rintro e w4 ⟨rfl, b4⟩
  have B4 := Lib.hid (B3.out.trans (b4.mono B3.out.size))
  have SB4 := Lib.hid (SB3.out.up b4)
  have c0 := SB4.out.1 0 (by decide)
  have c1 := SB4.out.1 1 (by decide)
  have c2 := SB4.out.1 2 (by decide)
  have c3 := SB4.out.1 3 (by decide)
  clear b4
  obtain ⟨c0, f0⟩ := c0
  obtain ⟨c1, f1⟩ := c1
  obtain ⟨c2, f2⟩ := c2
  obtain ⟨c3, f3⟩ := c3
  go_wp2_with fail
  have hfin := set_cells SB4.out L
  exact ret_set (N := w.heap.size) (L := L) Tryd.results37 (by rfl) hfin ⟨rfl, below_cells w.heap.size (Nat.le_refl _) (setL L) 0 _ B4.out⟩
set_option maxRecDepth 20000 in
set_option maxHeartbeats 1000000 in
theorem del_nil (w : World) :
    Calls Tryd.prog 37 #[.slice none 0 0] w fun e w' => e = .returned (setV (flat (base4 ++ base1))) ∧ Below w.heap.size w w' := by
  obtain ⟨L, hL⟩ : ∃ L, L = flat (base4 ++ base1) := ⟨_, rfl⟩
  rw [← hL]
  have HLL := Lib.hid hL
  clear hL
  have zz : (w.alloc (.cells #[.int .u64 0, .int .u64 0, .int .u64 0, .int .u64 0] 60)).heap.size = w.heap.size + 1 := by simp
  have hbc := del_cells (w.alloc (.cells #[.int .u64 0, .int .u64 0, .int .u64 0, .int .u64 0] 60))
  rw [zz] at hbc
  have HB := Lib.hid hbc
  have hsb := SBox.new w []
  rw [set_nil] at hsb
  have B1 : Hid (Below w.heap.size w (w.alloc (.cells #[.int .u64 0, .int .u64 0, .int .u64 0, .int .u64 0] 60))) := Lib.hid ((Below.refl _ w).alloc (Nat.le_refl _) _)
  have B2 : Hid (Below w.heap.size w ((w.alloc (.cells #[.int .u64 0, .int .u64 0, .int .u64 0, .int .u64 0] 60)).alloc (.cells #[.string ⟨#[33, 36, 38, 39, 40, 41, 42, 43, 44, 59, 61]⟩] 9))) := Lib.hid (B1.out.alloc (by simp) _)
  have SB : Hid (SBox ((w.alloc (.cells #[.int .u64 0, .int .u64 0, .int .u64 0, .int .u64 0] 60)).alloc (.cells #[.string ⟨#[33, 36, 38, 39, 40, 41, 42, 43, 44, 59, 61]⟩] 9)) w.heap.size []) := Lib.hid (hsb.up ((Below.refl _ _).alloc (Nat.le_refl _) _))
  clear zz hbc hsb
  go_enter Tryd.func37, Tryd.ntmps37
  go_wp2_with fail
  trace_state
  have M := Lib.hid (unr_view base1 (w.heap.size + 1) 0 1 _ (by decide) (by decide) (by simp) HB.out (by decide) (by decide))
  rw [← HLL.out] at M
  unfold setV setC at M
  refine M.out.mono ?_
  rintro e w4 ⟨rfl, b4⟩
  have B4 := Lib.hid (B2.out.trans (b4.mono B2.out.size))
  have SB4 := Lib.hid (SB.out.up b4)
  have c0 := SB4.out.1 0 (by decide)
  have c1 := SB4.out.1 1 (by decide)
  have c2 := SB4.out.1 2 (by decide)
  have c3 := SB4.out.1 3 (by decide)
  clear b4
  obtain ⟨c0, f0⟩ := c0
  obtain ⟨c1, f1⟩ := c1
  obtain ⟨c2, f2⟩ := c2
  obtain ⟨c3, f3⟩ := c3
  go_wp2_with fail
  have hfin := set_cells SB4.out L
  exact ret_set (N := w.heap.size) (L := L) Tryd.results37 (by rfl) hfin ⟨rfl, below_cells w.heap.size (Nat.le_refl _) (setL L) 0 _ B4.out⟩
end Go.Proofs.YtjcaadihkbhlhaaDoor

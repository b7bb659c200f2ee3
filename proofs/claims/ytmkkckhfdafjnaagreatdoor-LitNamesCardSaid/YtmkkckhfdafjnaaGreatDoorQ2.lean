import Derived.Test.YtmkkckhfdafjnaaGreatDoorQ1
import Derived.Lib.Strings
import Derived.Laws.IdiomStrings
import Derived.Lib.BufferRead
import Derived.OwnWalk
import Derived.Below
import Derived.WalkKit
import Derived.Outline
import Derived.WalkSpells
import Derived.WalkLawsBesides
import Derived.Deep.LoopGhost
import Derived.Deep.QuietTactic
import Derived.BigQuiet
import Derived.Lib.Hide
import Derived.Laws.BitsLemmas
import Derived.Lib.AppendStr
/- Plain facts for layer 2: digits and what they tell. No program in sight. -/
namespace Go.Proofs.YtmkkckhfdafjnaaGreatDoor.Nm
open Go.RowKit
/-- The byte at a place; 0 behind the end. -/
def byt (s : ByteArray) (i : Nat) : Int := if h : i < s.size then (s[i].toNat : Int) else 0
theorem byt_range (s : ByteArray) (i : Nat) : 0 ≤ byt s i ∧ byt s i < 256 := by
  unfold byt; split
  · have := UInt8.toNat_lt s[i]; omega
  · omega
theorem byt_eq (s : ByteArray) (i : Nat) (h : i < s.size) : (s[i].toNat : Int) = byt s i := by simp [byt, h]
/-- Are the first k bytes digits? -/
def allD (s : ByteArray) : Nat → Bool
  | 0 => true
  | k + 1 => allD s k && decide (48 ≤ byt s k ∧ byt s k ≤ 57)
/-- Are they 0, or digits the first of which is not 0? -/
def areD (s : ByteArray) : Bool := decide (0 < s.size) && !(decide (byt s 0 = 48) && decide (s.size ≠ 1)) && allD s s.size
/-- What the first k digits tell. -/
def valD (s : ByteArray) : Nat → Int
  | 0 => 0
  | k + 1 => valD s k * 10 + (byt s k - 48)
theorem allD_mono (s : ByteArray) : ∀ k j, j ≤ k → allD s k = true → allD s j = true := by
  intro k
  induction k with
  | zero => intro j hj h; rw [Nat.le_zero.1 hj]; exact h
  | succ k ih =>
    intro j hj h
    by_cases e : j = k + 1
    · rw [e]; exact h
    · simp only [allD, Bool.and_eq_true] at h
      exact ih j (by omega) h.1
theorem allD_byte (s : ByteArray) (k j : Nat) (hj : j < k) (h : allD s k = true) : 48 ≤ byt s j ∧ byt s j ≤ 57 := by
  have := allD_mono s k (j + 1) hj h
  simp only [allD, Bool.and_eq_true, decide_eq_true_eq] at this
  exact this.2
theorem valD_nonneg (s : ByteArray) : ∀ k, allD s k = true → 0 ≤ valD s k := by
  intro k
  induction k with
  | zero => intro _; exact Int.le_refl _
  | succ k ih =>
    intro h
    simp only [allD, Bool.and_eq_true, decide_eq_true_eq] at h
    have := ih h.1
    simp only [valD]; omega
theorem valD_mono (s : ByteArray) : ∀ k j, j ≤ k → allD s k = true → valD s j ≤ valD s k := by
  intro k
  induction k with
  | zero => intro j hj _; rw [Nat.le_zero.1 hj]; exact Int.le_refl _
  | succ k ih =>
    intro j hj h
    by_cases e : j = k + 1
    · rw [e]; exact Int.le_refl _
    · have h' := h
      simp only [allD, Bool.and_eq_true, decide_eq_true_eq] at h'
      have h1 := ih j (by omega) h'.1
      have h2 := valD_nonneg s k h'.1
      simp only [valD]; omega
theorem areD_parts {s : ByteArray} (h : areD s = true) : 0 < s.size ∧ (byt s 0 = 48 → s.size = 1) ∧ allD s s.size = true := by
  simp only [areD, Bool.and_eq_true, decide_eq_true_eq, Bool.not_eq_true', Bool.and_eq_false_iff, decide_eq_false_iff_not] at h
  refine ⟨h.1.1, fun hb => ?_, h.2⟩
  rcases h.1.2 with g | g
  · exact absurd hb g
  · exact Classical.not_not.1 g
theorem list_one (s : ByteArray) (h0 : 0 < s.size) (hb : byt s 0 = 48) : (s.toList == [48]) = decide (s.size = 1) := by
  rw [Lib.toList_data, Bool.eq_iff_iff, beq_iff_eq, decide_eq_true_eq, Lib.size_eq]
  constructor
  · intro h; rw [h]; rfl
  · intro h
    have h1 : 0 < s.data.toList.length := by omega
    obtain ⟨x, hx⟩ := List.length_eq_one_iff.1 h
    have e0 : s[0]'h0 = x := by
      have : s.data.toList[0]'h1 = x := by simp [hx]
      rw [← this]; rfl
    rw [hx]
    have := byt_eq s 0 h0
    rw [hb, e0] at this
    have hx : x = 48 := UInt8.toNat_inj.1 (by have h48 : (48 : UInt8).toNat = 48 := rfl; omega)
    rw [hx]
theorem list_empty (s : ByteArray) : s.toList.isEmpty = decide (s.size = 0) := by
  rw [Lib.toList_data, Bool.eq_iff_iff, decide_eq_true_eq, Lib.size_eq, List.isEmpty_iff, List.length_eq_zero_iff]
/-- The text without a leading '-', and whether it has one. -/
def isNeg (s : ByteArray) : Bool := decide (0 < s.size) && decide (byt s 0 = 45)
def bare (s : ByteArray) : ByteArray := if isNeg s then s.extract 1 s.size else s
def sgn (s : ByteArray) : Int := if isNeg s then 0 else 1
/-- What Read tells: a number, and an error. -/
def rdZ (s : ByteArray) : Int := sv (sgn s) (valD (bare s) (bare s).size)
def rdV (s : ByteArray) : Int := if areD (bare s) then val (rdZ s) else 0
def rdE (s : ByteArray) : Int := if areD (bare s) then err (rdZ s) else 21
end Go.Proofs.YtmkkckhfdafjnaaGreatDoor.Nm
/- Layer 4, Read: what bytes tell (plain). -/
namespace Go.Proofs.YtmkkckhfdafjnaaGreatDoor
open Go.RowKit
/-- What is read, or an error's number. -/
inductive Rs (α : Type) where
  | ok (x : α) : Rs α
  | bad (e : Int) : Rs α
def Rs.bind {α β : Type} (x : Rs α) (f : α → Rs β) : Rs β := match x with
  | .ok a => f a
  | .bad e => .bad e
@[simp] theorem Rs.bind_ok {α β : Type} (a : α) (f : α → Rs β) : (Rs.ok a).bind f = f a := rfl
@[simp] theorem Rs.bind_bad {α β : Type} (e : Int) (f : α → Rs β) : (Rs.bad e : Rs α).bind f = .bad e := rfl
def isBl (b : Int) : Bool := decide (b = 32) || decide (b = 9) || decide (b = 10) || decide (b = 13)
def blF (s : ByteArray) : Nat → Nat → Nat
  | 0, i => i
  | f + 1, i => if isBl (byt s i) then blF s f (i + 1) else i
/-- Behind blanks. -/
def bl (s : ByteArray) (i : Nat) : Nat := blF s (s.size - i) i
def isDg (b : Int) : Bool := decide (48 ≤ b) && decide (b ≤ 57)
def dgF (s : ByteArray) : Nat → Nat → Nat
  | 0, i => i
  | f + 1, i => if isDg (byt s i) then dgF s f (i + 1) else i
/-- Behind digits. -/
def dg (s : ByteArray) (i : Nat) : Nat := dgF s (s.size - i) i
/-- Those bytes stand next. -/
def wordM (s : ByteArray) : List Int → Nat → Rs Nat
  | [], i => .ok i
  | c :: r, i => if byt s i = c then wordM s r (i + 1) else .bad 40
def hexV (b : Int) : Int := if 48 ≤ b ∧ b ≤ 57 then b - 48 else if 97 ≤ b ∧ b ≤ 102 then b - 97 + 10 else if 65 ≤ b ∧ b ≤ 70 then b - 65 + 10 else -1
def fourF (s : ByteArray) : Nat → Nat → Int → Rs (Int × Nat)
  | 0, i, n => .ok (n, i)
  | k + 1, i, n => if hexV (byt s i) < 0 then .bad 40 else fourF s k (i + 1) (n * 16 + hexV (byt s i))
def pointM (s : ByteArray) (i : Nat) : Rs (Int × Nat) :=
  (fourF s 4 i 0).bind fun x =>
    if 55296 ≤ x.1 ∧ x.1 ≤ 56319 then
      (wordM s [92, 117] x.2).bind fun j => (fourF s 4 j 0).bind fun y =>
        if y.1 < 56320 ∨ 57343 < y.1 then .bad 40 else .ok (65536 + (x.1 % 1024 * 1024 + y.1 % 1024), y.2)
    else if isPt x.1 then .ok x else .bad 40
def escM (s : ByteArray) (i : Nat) : Rs (List Int × Nat) :=
  let b := byt s i
  if b = 34 ∨ b = 92 ∨ b = 47 then .ok ([b], i + 1)
  else if b = 98 then .ok ([8], i + 1)
  else if b = 102 then .ok ([12], i + 1)
  else if b = 110 then .ok ([10], i + 1)
  else if b = 114 then .ok ([13], i + 1)
  else if b = 116 then .ok ([9], i + 1)
  else if b = 117 then (pointM s (i + 1)).bind fun x => .ok (enc x.1, x.2)
  else .bad 40
def strF (s : ByteArray) : Nat → Nat → List Int → Rs (List Int × Nat)
  | 0, _, _ => .bad 40
  | f + 1, j, l =>
    if byt s j = 34 then .ok (l, j + 1)
    else if byt s j = 92 then (escM s (j + 1)).bind fun x => strF s f x.2 (l ++ x.1)
    else if byt s j < 32 then .bad 40
    else strF s f (j + 1) (l ++ [byt s j])
/-- A string. -/
def strM (s : ByteArray) (i : Nat) : Rs (List Int × Nat) := (wordM s [34] i).bind fun j => strF s (s.size - j + 1) j []
/-- Behind a number's first part. -/
def intM (s : ByteArray) (i : Nat) : Rs Nat :=
  let a := if byt s i = 45 then i + 1 else i
  if byt s a = 48 then .ok (a + 1) else if dg s a = a then .bad 40 else .ok (dg s a)
/-- Behind a fraction, an exponent, if there is one. -/
def fracM (s : ByteArray) (b : Nat) : Nat := if byt s b = 46 then (if dg s (b + 1) = b + 1 then b else dg s (b + 1)) else b
def expoM (s : ByteArray) (b : Nat) : Nat :=
  if byt s b = 101 ∨ byt s b = 69 then
    let c := if byt s (b + 1) = 43 ∨ byt s (b + 1) = 45 then b + 2 else b + 1
    if dg s c = c then b else dg s c
  else b
/-- A number, and the place behind it. -/
def numM (s : ByteArray) (i : Nat) : Rs (Int × Nat) :=
  (intM s i).bind fun b =>
    let d := expoM s (fracM s b)
    if Nm.rdE (s.extract i d) = 0 then .ok (Nm.rdV (s.extract i d), d) else .bad 41
/-- A cell turned, at a place. -/
def setC (L : List CR) (h : Nat) (f : CR → CR) : List CR := L.set h (f (L.getD h default))
def incC (L : List CR) (h : Nat) : List CR := setC L h (fun c => { c with m := c.m + 1 })
abbrev Out := Nat × List CR
/-- Items behind one that is read already, to the bracket's end. -/
def lstF (s : ByteArray) (V : Nat → List CR → Rs Out) (h : Nat) : Nat → Nat → List CR → Rs Out
  | 0, _, _ => .bad 40
  | f + 1, i, L =>
    if byt s i = 44 then (V (bl s (i + 1)) L).bind fun x => lstF s V h f (bl s x.1) (incC x.2 h)
    else (wordM s [93] i).bind fun j => .ok (j, L)
/-- A list's items, behind its bracket. -/
def lstM (s : ByteArray) (V : Nat → List CR → Rs Out) (h i : Nat) (L : List CR) : Rs Out :=
  if byt s i = 93 then .ok (i + 1, L) else (V i L).bind fun x => lstF s V h (s.size - x.1 + 1) (bl s x.1) (incC x.2 h)
/-- A member: its name, and its value. -/
def memM (s : ByteArray) (V : ByteArray → Nat → List CR → Rs Out) (h i : Nat) (names : List ByteArray) (L : List CR) : Rs (Out × List ByteArray) :=
  (strM s i).bind fun x =>
    if x.1 = [] then .bad 8 else if names.any (fun y => decide (y = mkB x.1)) = true then .bad 42 else
    (wordM s [58] (bl s x.2)).bind fun k => (V (mkB x.1) (bl s k) L).bind fun y => .ok ((y.1, incC y.2 h), mkB x.1 :: names)
def objF (s : ByteArray) (V : ByteArray → Nat → List CR → Rs Out) (h : Nat) : Nat → Nat → List ByteArray → List CR → Rs Out
  | 0, _, _, _ => .bad 40
  | f + 1, i, names, L =>
    if byt s i = 44 then (memM s V h (bl s (i + 1)) names L).bind fun x => objF s V h f (bl s x.1.1) x.2 x.1.2
    else (wordM s [125] i).bind fun j => .ok (j, L)
def objM (s : ByteArray) (V : ByteArray → Nat → List CR → Rs Out) (h i : Nat) (L : List CR) : Rs Out :=
  if byt s i = 125 then .ok (i + 1, L) else (memM s V h i [] L).bind fun x => objF s V h (s.size - x.1.1 + 1) (bl s x.1.1) x.2 x.1.2
/-- May a value begin with a byte? -/
def isSt (b : Int) : Bool := decide (b = 123) || decide (b = 91) || decide (b = 34) || decide (b = 116) || decide (b = 102) || decide (b = 110) || decide (b = 45) || isDg b
/-- A value, of a name, so many brackets being open (f: how many more may be, and one). -/
def valM (s : ByteArray) : Nat → ByteArray → Nat → Nat → List CR → Rs Out
  | 0, _, _, _, _ => .bad 30
  | f + 1, nm, op, i, L =>
    if isSt (byt s i) = false then .bad 40
    else if (byt s i = 123 ∨ byt s i = 91) ∧ op = 16 then .bad 30
    else if L.length = 2048 then .bad 4
    else if byt s i = 123 then objM s (fun nm' j M => valM s f nm' (op + 1) j M) L.length (bl s (i + 1)) (L ++ [⟨7, nm, ⟨#[]⟩, 0, 0⟩])
    else if byt s i = 91 then lstM s (fun j M => valM s f ⟨#[]⟩ (op + 1) j M) L.length (bl s (i + 1)) (L ++ [⟨6, nm, ⟨#[]⟩, 0, 0⟩])
    else if byt s i = 34 then (strM s i).bind fun x => .ok (x.2, L ++ [⟨3, nm, mkB x.1, 0, 0⟩])
    else if byt s i = 116 then (wordM s [116, 114, 117, 101] i).bind fun j => .ok (j, L ++ [⟨1, nm, ⟨#[]⟩, 1, 0⟩])
    else if byt s i = 102 then (wordM s [102, 97, 108, 115, 101] i).bind fun j => .ok (j, L ++ [⟨1, nm, ⟨#[]⟩, 0, 0⟩])
    else if byt s i = 110 then (wordM s [110, 117, 108, 108] i).bind fun j => .ok (j, L ++ [⟨0, nm, ⟨#[]⟩, 0, 0⟩])
    else (numM s i).bind fun x => .ok (x.2, L ++ [⟨2, nm, ⟨#[]⟩, x.1, 0⟩])
/-- What a text tells. -/
def readM (s : ByteArray) : Rs (List CR) :=
  if ckE s ≠ 0 then .bad (ckE s) else
  (valM s 17 ⟨#[]⟩ 0 (bl s 0) []).bind fun x => if bl s x.1 < s.size then .bad 40 else .ok x.2
end Go.Proofs.YtmkkckhfdafjnaaGreatDoor
/- Plain facts for layer 1: the bytes of code points are read as those code points; how many a text has. No program in sight. -/
namespace Go.Proofs.YtmkkckhfdafjnaaGreatDoor
open Go.RowKit
/-- The bytes of the first k code points. -/
def encs (L : List Int) : Nat → List Int
  | 0 => []
  | k + 1 => encs L k ++ enc (L.getD k 0)
/-- Are the first k numbers code points? -/
def allPt (L : List Int) : Nat → Bool
  | 0 => true
  | k + 1 => allPt L k && isPt (L.getD k 0)
def putE (L : List Int) : Int := if 16384 < L.length then 4 else if allPt L L.length then 0 else 10
def putS (L : List Int) : ByteArray := if putE L = 0 then mkB (encs L L.length) else ⟨#[]⟩

theorem encs_len (L : List Int) : ∀ k, (encs L k).length ≤ 4 * k := by
  intro k
  induction k with
  | zero => simp [encs]
  | succ k ih => simp only [encs, List.length_append]; have := enc_len (L.getD k 0); omega
theorem encs_range (L : List Int) : ∀ k, allPt L k = true → ∀ x ∈ encs L k, 0 ≤ x ∧ x < 256 := by
  intro k
  induction k with
  | zero => intro _ x hx; simp [encs] at hx
  | succ k ih =>
    intro h x hx
    simp only [allPt, Bool.and_eq_true] at h
    simp only [encs, List.mem_append] at hx
    rcases hx with hx | hx
    · exact ih h.1 x hx
    · have := isPt_range h.2
      exact enc_range this.1 this.2 x hx
theorem allPt_le {L : List Int} {j k : Nat} (hjk : j ≤ k) (h : allPt L k = true) : allPt L j = true := by
  induction k with
  | zero => obtain rfl : j = 0 := by omega
            exact h
  | succ k ih =>
    by_cases e : j = k + 1
    · subst e; exact h
    · simp only [allPt, Bool.and_eq_true] at h
      exact ih (by omega) h.1

theorem put_many {L : List Int} (h : 16384 < L.length) : putE L = 4 ∧ putS L = ⟨#[]⟩ := by
  have : putE L = 4 := by unfold putE; rw [if_pos h]
  exact ⟨this, by unfold putS; rw [this]; rfl⟩
theorem put_bad {L : List Int} (h : ¬ 16384 < L.length) (hb : allPt L L.length = false) : putE L = 10 ∧ putS L = ⟨#[]⟩ := by
  have : putE L = 10 := by unfold putE; rw [if_neg h, hb]; rfl
  exact ⟨this, by unfold putS; rw [this]; rfl⟩
theorem put_good {L : List Int} (h : ¬ 16384 < L.length) (hb : allPt L L.length = true) : putE L = 0 ∧ putS L = mkB (encs L L.length) := by
  have : putE L = 0 := by unfold putE; rw [if_neg h, hb]; rfl
  exact ⟨this, by unfold putS; rw [if_pos this]⟩

end Go.Proofs.YtmkkckhfdafjnaaGreatDoor
/- Layer 4, Read: text.encode, text.Put (as in layer 1). -/
namespace Go.Proofs.YtmkkckhfdafjnaaGreatDoor
open Go.RowKit
theorem info5 : (Tryz.prog.info? 5).map (fun i => (i.zero, i.size, i.bytes)) = some (some (.int .u8 0), 1, 1) := by kernel_rfl
theorem or_192 (y : Int) (h0 : 0 ≤ y) (h1 : y < 64) : bits .or .i64 192 y = 192 + y := bits_join .i64 63 (by decide) wraps_i64 6 192 y (by omega) (by omega) (by omega) h0 h1 (by omega)
theorem or_128 (y : Int) (h0 : 0 ≤ y) (h1 : y < 64) : bits .or .i64 128 y = 128 + y := bits_join .i64 63 (by decide) wraps_i64 6 128 y (by omega) (by omega) (by omega) h0 h1 (by omega)
theorem or_224 (y : Int) (h0 : 0 ≤ y) (h1 : y < 32) : bits .or .i64 224 y = 224 + y := bits_join .i64 63 (by decide) wraps_i64 5 224 y (by omega) (by omega) (by omega) h0 h1 (by omega)
theorem or_240 (y : Int) (h0 : 0 ≤ y) (h1 : y < 16) : bits .or .i64 240 y = 240 + y := bits_join .i64 63 (by decide) wraps_i64 4 240 y (by omega) (by omega) (by omega) h0 h1 (by omega)
theorem cell_news (w : World) (cs : Array Value) (t : TypeId) (L : List Value) (h : cs.toList = L) : ∀ j u, L[j]? = some u → (w.alloc (.cells cs t)).cell? ((⟨w.heap.size, 0, none⟩ : Addr).add j) = some u := by
  subst h
  intro j u hj
  simp only [Addr.add_lit, Nat.zero_add, World.cell?, heap_alloc_new]
  simpa using hj

theorem enc_end {w w1 : World} {v v' : Value} {B n m : Nat} {xs : List Value} {o : Obj} {L : List Int} (hown : w.ownsRow B 5 1 v n xs) (hB : B ≤ w.heap.size) (hm : m = L.length) (ho : w1.ownsRow B 5 1 v' (n + m) (xs ++ L.map (Value.int .u8))) (hg : (w.alloc o).grownBy w1 v.ownBlock) :
    w1.ownsRow B 5 1 v' (n + L.length) (xs ++ L.map (Value.int .u8)) ∧ Below B w w1 := by
  subst hm
  exact ⟨ho, ((Below.refl B w).alloc hB o).grown hg (by simp; omega) (fun k hk => (hown.lt k hk).1)⟩

theorem encode_any (p : Int) (B n : Nat) (v : Value) (xs : List Value) (w : World) (h0 : 0 ≤ p) (h1 : p < 1114112) (hown : w.ownsRow B 5 1 v n xs) (hB : B ≤ w.heap.size) (hn : n ≤ 1000000) :
    Calls Tryz.prog 188 #[v, .int .i64 p] w fun e w' => ∃ v', e = .returned v' ∧ w'.ownsRow B 5 1 v' (n + (enc p).length) (xs ++ (enc p).map (Value.int .u8)) ∧ Below B w w' := by
  obtain ⟨i0, hi, hz0, hz1, hz2⟩ := info_parts info5
  have hsz : B ≤ w.heap.size + 1 := by omega
  by_cases c1 : p < 128
  · have hs : Hid (szOf p = 1) := Lib.hid (by unfold szOf; rw [if_pos c1])
    have he : Hid (enc p = [p]) := Lib.hid (by unfold enc; rw [if_pos c1])
    go_enter Tryz.func188, Tryz.ntmps188
    go_wp2_with fail
    refine (sizeOf_any p _).mono ?_
    rintro e w1 ⟨rfl, rfl⟩
    rw [hs.out]
    go_wp2_with (at_builtin; refine wpList_append_own _ rfl _ _ 26 rfl B 5 i0 (.int .u8 0) 1 1 Tryz.underlying26 hi hz0 hz1 hz2 rfl (by decide) _ n xs rfl (hown.alloc _) ⟨w.heap.size, 0, none⟩ 1 1 [.int .u8 p] rfl rfl (cell_news _ _ _ _ rfl) (by intro u hu; simp at hu; subst hu; rfl) (by unfold maxLen; omega) (by omega) (by simpa using hsz) ?_; intro v' w1 ho hg _)
    go_ret
    refine ⟨v', rfl, ?_⟩
    rw [he.out]
    exact enc_end hown hB rfl ho hg
  by_cases c2 : p < 2048
  · have hs : Hid (szOf p = 2) := Lib.hid (by unfold szOf; rw [if_neg c1, if_pos c2])
    have he : Hid (enc p = [192 + p / 64, 128 + p % 64]) := Lib.hid (by unfold enc; rw [if_neg c1, if_pos c2])
    go_enter Tryz.func188, Tryz.ntmps188
    go_wp2_with fail
    refine (sizeOf_any p _).mono ?_
    rintro e w1 ⟨rfl, rfl⟩
    rw [hs.out]
    go_wp2_with (at_builtin; refine wpList_append_own _ rfl _ _ 26 rfl B 5 i0 (.int .u8 0) 1 1 Tryz.underlying26 hi hz0 hz1 hz2 rfl (by decide) _ n xs rfl (hown.alloc _) ⟨w.heap.size, 0, none⟩ 2 2 [.int .u8 (192 + p / 64), .int .u8 (128 + p % 64)] rfl rfl (cell_news _ _ _ _ ?cc2) (by intro u hu; simp at hu; rcases hu with rfl | rfl <;> rfl) (by unfold maxLen; omega) (by omega) (by simpa using hsz) ?_; rotate_right; intro v' w1 ho hg _)
    case cc2 =>
      rw [or_192 _ (by omega) (by omega), and63 p (by omega) (by omega), or_128 _ (by omega) (by omega)]; omega
    go_ret
    refine ⟨v', rfl, ?_⟩
    rw [he.out]
    exact enc_end hown hB rfl ho hg
  by_cases c3 : p < 65536
  · have hs : Hid (szOf p = 3) := Lib.hid (by unfold szOf; rw [if_neg c1, if_neg c2, if_pos c3])
    have he : Hid (enc p = [224 + p / 4096, 128 + p / 64 % 64, 128 + p % 64]) := Lib.hid (by unfold enc; rw [if_neg c1, if_neg c2, if_pos c3])
    go_enter Tryz.func188, Tryz.ntmps188
    go_wp2_with fail
    refine (sizeOf_any p _).mono ?_
    rintro e w1 ⟨rfl, rfl⟩
    rw [hs.out]
    go_wp2_with (at_builtin; refine wpList_append_own _ rfl _ _ 26 rfl B 5 i0 (.int .u8 0) 1 1 Tryz.underlying26 hi hz0 hz1 hz2 rfl (by decide) _ n xs rfl (hown.alloc _) ⟨w.heap.size, 0, none⟩ 3 3 [.int .u8 (224 + p / 4096), .int .u8 (128 + p / 64 % 64), .int .u8 (128 + p % 64)] rfl rfl (cell_news _ _ _ _ ?cc3) (by intro u hu; simp at hu; rcases hu with rfl | rfl | rfl <;> rfl) (by unfold maxLen; omega) (by omega) (by simpa using hsz) ?_; rotate_right; intro v' w1 ho hg _)
    case cc3 =>
      rw [or_224 _ (by omega) (by omega), and63 (p / 64) (by omega) (by omega), and63 p (by omega) (by omega), or_128 (p / 64 % 64) (by omega) (by omega), or_128 (p % 64) (by omega) (by omega)]; omega
    go_ret
    refine ⟨v', rfl, ?_⟩
    rw [he.out]
    exact enc_end hown hB rfl ho hg
  · have hs : Hid (szOf p = 4) := Lib.hid (by unfold szOf; rw [if_neg c1, if_neg c2, if_neg c3])
    have he : Hid (enc p = [240 + p / 262144, 128 + p / 4096 % 64, 128 + p / 64 % 64, 128 + p % 64]) := Lib.hid (by unfold enc; rw [if_neg c1, if_neg c2, if_neg c3])
    go_enter Tryz.func188, Tryz.ntmps188
    go_wp2_with fail
    refine (sizeOf_any p _).mono ?_
    rintro e w1 ⟨rfl, rfl⟩
    rw [hs.out]
    go_wp2_with (at_builtin; refine wpList_append_own _ rfl _ _ 26 rfl B 5 i0 (.int .u8 0) 1 1 Tryz.underlying26 hi hz0 hz1 hz2 rfl (by decide) _ n xs rfl (hown.alloc _) ⟨w.heap.size, 0, none⟩ 4 4 [.int .u8 (240 + p / 262144), .int .u8 (128 + p / 4096 % 64), .int .u8 (128 + p / 64 % 64), .int .u8 (128 + p % 64)] rfl rfl (cell_news _ _ _ _ ?cc4) (by intro u hu; simp at hu; rcases hu with rfl | rfl | rfl | rfl <;> rfl) (by unfold maxLen; omega) (by omega) (by simpa using hsz) ?_; rotate_right; intro v' w1 ho hg _)
    case cc4 =>
      rw [or_240 _ (by omega) (by omega), and63 (p / 4096) (by omega) (by omega), and63 (p / 64) (by omega) (by omega), and63 p (by omega) (by omega), or_128 (p / 4096 % 64) (by omega) (by omega), or_128 (p / 64 % 64) (by omega) (by omega), or_128 (p % 64) (by omega) (by omega)]; omega
    go_ret
    refine ⟨v', rfl, ?_⟩
    rw [he.out]
    exact enc_end hown hB rfl ho hg
theorem ret_si {a b : ByteArray} {c d : Int} (h : a = b) (g : c = d) : Ending.returned (.tuple #[.string a, .int .i64 c]) = .returned (.tuple #[.string b, .int .i64 d]) := by rw [h, g]
/-- A slice of Ints that can be read. -/
def PView (w : World) (a : Option Addr) (len : Nat) (L : List Int) : Prop :=
  L.length = len ∧ ∀ k, k < len → ∃ b off, a = some ⟨b, off, none⟩ ∧ b < w.heap.size ∧ w.cell? ⟨b, off + k, none⟩ = some (.int .i64 (L.getD k 0))
theorem put_any (a : Option Addr) (len cap : Nat) (L : List Int) (w : World) (hv : PView w a len L) (hm : len ≤ maxLen) :
    Calls Tryz.prog 186 #[.slice a len cap] w fun e w' => e = .returned (.tuple #[.string (putS L), .int .i64 (putE L)]) ∧ Below w.heap.size w w' := by
  unfold maxLen at hm
  obtain ⟨hL, hc⟩ := hv
  by_cases h1 : 16384 < len
  · have hp := Lib.hid (put_many (L := L) (by omega))
    go_enter Tryz.func186, Tryz.ntmps186
    go_wp2_with fail
    go_ret2
    exact ⟨ret_si hp.out.2.symm hp.out.1.symm, Below.refl _ _⟩
  by_cases hz : len = 0
  · subst hz
    have hE : encs L L.length = [] := by rw [hL]; rfl
    have HG := Lib.hid (put_good (L := L) (by omega) (by rw [hL]; rfl))
    have hcv := conv_own (L := []) (World.ownsRow_nil w w.heap.size 5 1) (fun x hx => by simp at hx)
    clear hc hL
    go_enter Tryz.func186, Tryz.ntmps186
    go_wp2_with fail
    refine wp_loop_rounds 1 ?_
    rw [rounds_succ]
    go_wp2_with fail
    go_ret2
    exact ⟨ret_si (by rw [HG.out.2, hE]) HG.out.1.symm, Below.refl _ _⟩
  · obtain ⟨b, off, rfl, hxb, _⟩ := hc 0 (by omega)
    have HC : Hid (∀ k, k < len → w.cell? ⟨b, off + k, none⟩ = some (.int .i64 (L.getD k 0))) := Lib.hid (fun k hk => by
      obtain ⟨b', off', he, _, hx⟩ := hc k hk
      simp only [Option.some.injEq, Addr.mk.injEq, and_true] at he
      obtain ⟨rfl, rfl⟩ := he
      exact hx)
    have HP := Lib.hid (put_bad (L := L) (by omega))
    have HG := Lib.hid (put_good (L := L) (by omega))
    have HL := Lib.hid hL
    clear hc hL
    go_enter Tryz.func186, Tryz.ntmps186
    go_wp2_with fail
    go_loopw [4, 12] (fun v i wr => ∃ k : Nat, k ≤ len ∧ i = .int .i64 k ∧ allPt L k = true ∧ wr.ownsRow w.heap.size 5 1 v (encs L k).length ((encs L k).map (Value.int .u8)) ∧ Below w.heap.size w wr) (fun _ i _ => len - (intOf i).toNat)
    case atStart => exact ⟨0, by omega, rfl, rfl, World.ownsRow_nil _ _ _ _, Below.refl _ _⟩
    case round =>
      obtain ⟨k, hk, rfl, ha, hown, hb⟩ := hrel
      by_cases hlt : k < len
      · have hcx := (hb.cell (p := ⟨b, off + k, none⟩) hxb).trans (HC.out k hlt)
        obtain ⟨p, hp⟩ : ∃ p, p = L.getD k 0 := ⟨_, rfl⟩
        rw [← hp] at hcx
        have HK : Hid (p = L.getD k 0) := hp
        clear hp
        by_cases hpt : isPt p = true
        · have HA : Hid (allPt L (k + 1) = true) := Lib.hid (by simp only [allPt, ha, Bool.true_and, ← HK.out]; exact hpt)
          have hr := isPt_range hpt
          have HPT := Lib.hid hpt
          have hle := encs_len L k
          have HO := Lib.hid hown
          have HB := Lib.hid hb
          have hsz := hb.size
          clear hb hown ha hpt
          go_wp2_with fail
          refine (isPoint_any p _).mono ?_
          rintro e w1 ⟨rfl, rfl⟩
          rw [HPT.out]
          go_wp2_with fail
          refine (encode_any p w.heap.size _ _ _ _ hr.1 hr.2 HO.out hsz (by omega)).mono ?_
          rintro e w1 ⟨v', rfl, ho, b1⟩
          go_wp2_with fail
          go_roundw
          case rel => exact ⟨k + 1, by omega, by go_num, HA.out, by simp only [encs, ← HK.out, List.length_append, List.map_append]; exact ho, HB.out.trans b1⟩
          case measure => simp [intOf]; omega
        · have HA : Hid (allPt L L.length = false) := Lib.hid (by
            cases hh : allPt L L.length
            · rfl
            · have := allPt_le (j := k + 1) (by rw [HL.out]; omega) hh
              simp only [allPt, Bool.and_eq_true] at this
              rw [HK.out] at hpt
              exact absurd this.2 hpt)
          have hpf : isPt p = false := by simpa using hpt
          have HPT := Lib.hid hpf
          have HB := Lib.hid hb
          clear hb hown ha hpt hpf
          go_wp2_with fail
          refine (isPoint_any p _).mono ?_
          rintro e w1 ⟨rfl, rfl⟩
          rw [HPT.out]
          go_wp2_with fail
          go_ret2
          have := HP.out HA.out
          exact ⟨ret_si this.2.symm this.1.symm, HB.out⟩
      · obtain rfl : k = len := by omega
        have hcv := conv_own hown (encs_range L k ha)
        have HA := Lib.hid ha
        have HB := Lib.hid hb
        clear ha hb hown
        go_wp2_with fail
        go_ret2
        have := HG.out (by rw [HL.out]; exact HA.out)
        exact ⟨ret_si (by rw [this.2, HL.out]) this.1.symm, HB.out⟩
end Go.Proofs.YtmkkckhfdafjnaaGreatDoor
/- Layer 4, Read: the reader in memory. -/
namespace Go.Proofs.YtmkkckhfdafjnaaGreatDoor
open Go.RowKit
/-- What a reader's step leaves as it was: all but its box (p) and its row. -/
structure Fr (p : Nat) (v v' : Value) (w w' : World) : Prop where
  os : w'.os = w.os
  tape : w'.tape = w.tape
  output : w'.output = w.output
  size : w.heap.size ≤ w'.heap.size
  kept : ∀ k, k < w.heap.size → k ≠ p → v.ownBlock ≠ some k → w'.heap[k]? = w.heap[k]?
  own : ∀ k, v'.ownBlock = some k → v.ownBlock = some k ∨ w.heap.size ≤ k
theorem Fr.refl (p : Nat) (v : Value) (w : World) : Fr p v v w w := ⟨rfl, rfl, rfl, Nat.le_refl _, fun _ _ _ _ => rfl, fun _ h => .inl h⟩
theorem Fr.trans {p : Nat} {v v' v'' : Value} {w w' w'' : World} (h : Fr p v v' w w') (k : Fr p v' v'' w' w'') : Fr p v v'' w w'' where
  os := k.os.trans h.os
  tape := k.tape.trans h.tape
  output := k.output.trans h.output
  size := Nat.le_trans h.size k.size
  kept := fun j hj hp hv => by
    rw [k.kept j (Nat.lt_of_lt_of_le hj h.size) hp (fun e => by
      rcases h.own j e with e | e
      · exact hv e
      · omega)]
    exact h.kept j hj hp hv
  own := fun j e => by
    rcases k.own j e with e | e
    · exact h.own j e
    · exact .inr (Nat.le_trans h.size e)
/-- A reader: its box, and its row. -/
structure RdB (w : World) (p : Nat) (s : ByteArray) (i op : Nat) (v : Value) (L : List CR) : Prop where
  box : w.heap[p]? = some (.cells #[.string s, .int .i64 i, .int .i64 op, v] 204)
  row : w.ownsRow (p + 1) 46 5 v L.length (rw5 L)
theorem RdB.lt {w : World} {p : Nat} {s : ByteArray} {i op : Nat} {v : Value} {L : List CR} (h : RdB w p s i op v L) : p < w.heap.size := (Array.getElem?_eq_some_iff.1 h.box).1
theorem RdB.c0 {w : World} {p : Nat} {s : ByteArray} {i op : Nat} {v : Value} {L : List CR} (h : RdB w p s i op v L) : w.cell? ⟨p, 0, none⟩ = some (.string s) := by simp [World.cell?, h.box]
theorem RdB.c1 {w : World} {p : Nat} {s : ByteArray} {i op : Nat} {v : Value} {L : List CR} (h : RdB w p s i op v L) : w.cell? ⟨p, 1, none⟩ = some (.int .i64 i) := by simp [World.cell?, h.box]
theorem RdB.c2 {w : World} {p : Nat} {s : ByteArray} {i op : Nat} {v : Value} {L : List CR} (h : RdB w p s i op v L) : w.cell? ⟨p, 2, none⟩ = some (.int .i64 op) := by simp [World.cell?, h.box]
theorem RdB.c3 {w : World} {p : Nat} {s : ByteArray} {i op : Nat} {v : Value} {L : List CR} (h : RdB w p s i op v L) : w.cell? ⟨p, 3, none⟩ = some v := by simp [World.cell?, h.box]
theorem RdB.z {w : World} {p : Nat} {s : ByteArray} {i op : Nat} {v : Value} {L : List CR} (h : RdB w p s i op v L) (o : Nat) : w.frozen? ⟨p, o, none⟩ = false := by simp [World.frozen?, h.box]
theorem RdB.far {w : World} {p : Nat} {s : ByteArray} {i op : Nat} {v : Value} {L : List CR} (h : RdB w p s i op v L) : ∀ k, v.ownBlock = some k → p + 1 ≤ k := fun k hk => (h.row.lt k hk).1
theorem own_move {w w' : World} {B n : Nat} {v : Value} {x : List Value} (h : w.ownsRow B 46 5 v n x) (k : ∀ j, v.ownBlock = some j → w'.heap[j]? = w.heap[j]?) : w'.ownsRow B 46 5 v n x := by
  refine ⟨h.1, ?_⟩
  rcases h.2 with h1 | ⟨g, cap, cur, rfl, hg, hc, rest⟩
  · exact .inl h1
  · exact .inr ⟨g, cap, cur, rfl, hg, by rw [k g rfl]; exact hc, rest⟩
/-- The reader goes to a place. -/
theorem RdB.at_ {w : World} {p : Nat} {s : ByteArray} {i op : Nat} {v : Value} {L : List CR} (h : RdB w p s i op v L) (j : Nat) (x : Int) (hx : x = (j : Nat)) : RdB (w.setCell ⟨p, 1, none⟩ (.int .i64 x)) p s j op v L ∧ Fr p v v w (w.setCell ⟨p, 1, none⟩ (.int .i64 x)) := by
  subst hx
  have hk : ∀ k, k ≠ p → (w.setCell ⟨p, 1, none⟩ (.int .i64 j)).heap[k]? = w.heap[k]? := fun k hk => Below.heap_setCell w ⟨p, 1, none⟩ _ k hk
  refine ⟨⟨?_, own_move h.row (fun j hj => hk j (by have := h.far j hj; omega))⟩, ⟨rfl, rfl, rfl, by simp, fun k _ h1 _ => hk k h1, fun _ e => .inl e⟩⟩
  simp [World.setCell, Array.getElem?_modify, h.box]
theorem RdB.open_ {w : World} {p : Nat} {s : ByteArray} {i op : Nat} {v : Value} {L : List CR} (h : RdB w p s i op v L) (j : Nat) (x : Int) (hx : x = (j : Nat)) : RdB (w.setCell ⟨p, 2, none⟩ (.int .i64 x)) p s i j v L ∧ Fr p v v w (w.setCell ⟨p, 2, none⟩ (.int .i64 x)) := by
  subst hx
  have hk : ∀ k, k ≠ p → (w.setCell ⟨p, 2, none⟩ (.int .i64 j)).heap[k]? = w.heap[k]? := fun k hk => Below.heap_setCell w ⟨p, 2, none⟩ _ k hk
  refine ⟨⟨?_, own_move h.row (fun j hj => hk j (by have := h.far j hj; omega))⟩, ⟨rfl, rfl, rfl, by simp, fun k _ h1 _ => hk k h1, fun _ e => .inl e⟩⟩
  simp [World.setCell, Array.getElem?_modify, h.box]
/-- What lies above, and is made, leaves a reader as it was. -/
theorem RdB.below {w w' : World} {p : Nat} {s : ByteArray} {i op : Nat} {v : Value} {L : List CR} (h : RdB w p s i op v L) (b : Below w.heap.size w w') : RdB w' p s i op v L ∧ Fr p v v w w' := by
  have hk : ∀ k, k < w.heap.size → w'.heap[k]? = w.heap[k]? := fun k hk => b.block k hk
  exact ⟨⟨by rw [hk p h.lt]; exact h.box, own_move h.row (fun j hj => hk j (h.row.lt j hj).2)⟩, ⟨b.os, b.tape, b.output, b.size, fun k h1 _ _ => hk k h1, fun _ e => .inl e⟩⟩
/-- Nothing but draws. -/
structure Dr (w w' : World) : Prop where
  os : w'.os = w.os
  tape : w'.tape = w.tape
  output : w'.output = w.output
  heap : w'.heap = w.heap
theorem Dr.refl (w : World) : Dr w w := ⟨rfl, rfl, rfl, rfl⟩
theorem Dr.trans {w w' w'' : World} (h : Dr w w') (k : Dr w' w'') : Dr w w'' := ⟨k.os.trans h.os, k.tape.trans h.tape, k.output.trans h.output, k.heap.trans h.heap⟩
theorem Dr.below {w w' : World} (h : Dr w w') (B : Nat) : Below B w w' := ⟨h.os, h.tape, h.output, by rw [h.heap]; exact Nat.le_refl _, fun k _ => by rw [h.heap]⟩
theorem RdB.dr {w w' : World} {p : Nat} {s : ByteArray} {i op : Nat} {v : Value} {L : List CR} (h : RdB w p s i op v L) (d : Dr w w') : RdB w' p s i op v L ∧ Fr p v v w w' := h.below (d.below _)
/-- An error that is thrown. -/
def thr (e : Int) : Ending := .panicked [{ v := .iface 201 (.int .i64 e), recovered := false }]
/-- What lies below the box is as it was. -/
theorem Fr.below {w w' : World} {p : Nat} {v v' : Value} (h : Fr p v v' w w') (hv : ∀ k, v.ownBlock = some k → p + 1 ≤ k) (hp : p ≤ w.heap.size) : Below p w w' := ⟨h.os, h.tape, h.output, h.size, fun k hk => h.kept k (by omega) (by omega) (fun e => by have := hv k e; omega)⟩
end Go.Proofs.YtmkkckhfdafjnaaGreatDoor
/- Layer 4, Read: peek, blanks, take. -/
namespace Go.Proofs.YtmkkckhfdafjnaaGreatDoor
open Go.RowKit Go.Maps
set_option maxRecDepth 20000 in
theorem peek_any {p i op : Nat} {s : ByteArray} {v : Value} {L : List CR} (w : World) (h : RdB w p s i op v L) (hs : s.size ≤ 1000000000) (hi : i ≤ 2000000000) : Calls Tryz.prog 160 #[.pointer (some ⟨p, 0, none⟩)] w fun e w' => e = .returned (.int .u8 (byt s i)) ∧ Dr w w' := by
  have c0 := h.c0
  have c1 := h.c1
  clear h
  by_cases hlt : i < s.size
  · have hb := byt_eq s i hlt
    have hii : (i : Int) < s.size := by omega
    have hi0 : (0 : Int) ≤ i := by omega
    rw [← hb]
    clear hb
    go_enter Tryz.func160, Tryz.ntmps160
    go_wp2_with fail
    go_quiet (fail)
    go_wp2_with fail
    go_quiet (fail)
    go_wp2_with fail
    go_ret
    exact ⟨rfl, ⟨rfl, rfl, rfl, rfl⟩⟩
  · have hb : byt s i = 0 := by unfold byt; rw [dif_neg hlt]
    have hii : ¬ (i : Int) < s.size := by omega
    rw [hb]
    go_enter Tryz.func160, Tryz.ntmps160
    go_wp2_with fail
    go_quiet (fail)
    go_wp2_with fail
    go_ret
    exact ⟨rfl, ⟨rfl, rfl, rfl, rfl⟩⟩
set_option maxRecDepth 20000 in
theorem take_bad {p i op : Nat} {s : ByteArray} {v : Value} {L : List CR} (c : Int) (w : World) (h : RdB w p s i op v L) (hs : s.size ≤ 1000000000) (hi : i ≤ 2000000000) (hc : byt s i ≠ c) : Calls Tryz.prog 175 #[.pointer (some ⟨p, 0, none⟩), .int .u8 c] w fun e w' => e = thr 40 ∧ Dr w w' := by
  have HP := Lib.hid (peek_any w h hs hi)
  obtain ⟨b, hb⟩ : ∃ b, b = byt s i := ⟨_, rfl⟩
  rw [← hb] at HP hc
  clear hb h
  go_enter Tryz.func175, Tryz.ntmps175
  go_wp2_with fail
  refine HP.out.mono ?_
  rintro e w1 ⟨rfl, d⟩
  have D := Lib.hid d
  clear d
  go_wp2_with fail
  simp only [bodyPost]
  exact ⟨trivial, rfl, D.out⟩
set_option maxRecDepth 20000 in
theorem take_ok {p i op : Nat} {s : ByteArray} {v : Value} {L : List CR} (c : Int) (w : World) (h : RdB w p s i op v L) (hs : s.size ≤ 1000000000) (hi : i ≤ 2000000000) (hc : byt s i = c) : Calls Tryz.prog 175 #[.pointer (some ⟨p, 0, none⟩), .int .u8 c] w fun e w' => e = .returned (.tuple #[]) ∧ RdB w' p s (i + 1) op v L ∧ Fr p v v w w' := by
  have HP := Lib.hid (peek_any w h hs hi)
  rw [hc] at HP
  clear hc
  have H := Lib.hid h
  clear h
  have hi2 : (i : Int) ≤ 2000000000 := by omega
  go_enter Tryz.func175, Tryz.ntmps175
  go_wp2_with fail
  refine HP.out.mono ?_
  rintro e w1 ⟨rfl, d⟩
  have R1 := Lib.hid (H.out.dr d)
  have c1 := R1.out.1.c1
  have z1 := R1.out.1.z 1
  have RN := Lib.hid (R1.out.1.at_ (i + 1) ((i : Int) + 1) (by omega))
  clear d
  go_wp2_with fail
  go_end0
  exact ⟨rfl, RN.out.1, R1.out.2.trans RN.out.2⟩
/-- A place is told, or an error thrown. -/
def AtP (p : Nat) (s : ByteArray) (op : Nat) (v : Value) (L : List CR) (w : World) (x : Rs Nat) (e : Ending) (w' : World) : Prop := match x with
  | .ok j => e = .returned (.tuple #[]) ∧ RdB w' p s j op v L ∧ Fr p v v w w'
  | .bad n => e = thr n ∧ Below p w w'
theorem byt_in {s : ByteArray} {i : Nat} (h : byt s i ≠ 0) : i < s.size := by
  by_cases k : i < s.size
  · exact k
  · exact absurd (by unfold byt; rw [dif_neg k]) h
theorem bl_step {s : ByteArray} {i : Nat} (h : isBl (byt s i) = true) : bl s i = bl s (i + 1) := by
  have hi : i < s.size := byt_in (by intro e; rw [e] at h; cases h)
  unfold bl
  rw [show s.size - i = (s.size - (i + 1)) + 1 by omega]
  show (if isBl (byt s i) then blF s (s.size - (i + 1)) (i + 1) else i) = _
  rw [if_pos h]
theorem bl_stop {s : ByteArray} {i : Nat} (h : isBl (byt s i) = false) : bl s i = i := by
  unfold bl
  cases s.size - i with
  | zero => rfl
  | succ f =>
    show (if isBl (byt s i) then blF s f (i + 1) else i) = _
    rw [if_neg (by rw [h]; decide)]
set_option maxRecDepth 20000 in
set_option maxHeartbeats 1000000 in
theorem blanks_any {p i op : Nat} {s : ByteArray} {v : Value} {L : List CR} (w : World) (h : RdB w p s i op v L) (hs : s.size ≤ 1000000000) (hi : i ≤ 1000000001) : Calls Tryz.prog 153 #[.pointer (some ⟨p, 0, none⟩)] w fun e w' => e = .returned (.tuple #[]) ∧ RdB w' p s (bl s i) op v L ∧ Fr p v v w w' := by
  have H := Lib.hid h
  clear h
  go_enter Tryz.func153, Tryz.ntmps153
  go_wp2_with fail
  go_loopg [2, 3] (s.size + 1) (fun f _ _ wr => ∃ j : Nat, s.size + 1 - j ≤ f ∧ j ≤ 1000000001 ∧ Hid (bl s i = bl s j) ∧ Hid (RdB wr p s j op v L ∧ Fr p v v w wr))
  case atStart => exact ⟨i, by omega, hi, Lib.hid rfl, Lib.hid ⟨H.out, Fr.refl _ _ _⟩⟩
  case round =>
    obtain ⟨j, hf, hj, HE, HR⟩ := hrel
    have HP := Lib.hid (peek_any wr HR.out.1 hs (by omega))
    have HST := Lib.hid (fun (e : isBl (byt s j) = true) => (⟨by rw [HE.out]; exact bl_step e, byt_in (by intro e'; rw [e'] at e; cases e)⟩ : bl s i = bl s (j + 1) ∧ j < s.size))
    have HSP := Lib.hid (fun (e : isBl (byt s j) = false) => (HE.out.trans (bl_stop e)))
    obtain ⟨b, hb⟩ : ∃ b, b = byt s j := ⟨_, rfl⟩
    rw [← hb] at HP HST HSP
    clear hb HE
    have hji : (j : Int) ≤ 1000000001 := by omega
    cases hbl : isBl b with
    | true =>
      have HN := Lib.hid (HST.out hbl)
      have hjs := (HST.out hbl).2
      clear HST HSP
      simp only [isBl, Bool.or_eq_true, decide_eq_true_eq] at hbl
      rcases hbl with ((rfl | rfl) | rfl) | rfl
      all_goals
        go_wp2_with fail
        refine HP.out.mono ?_
        rintro e w1 ⟨rfl, d⟩
        have R1 := Lib.hid (HR.out.1.dr d)
        have c1 := R1.out.1.c1
        have z1 := R1.out.1.z 1
        have RN := Lib.hid (R1.out.1.at_ (j + 1) ((j : Int) + 1) (by omega))
        clear d
        go_wp2_with fail
        go_roundg (gk - 1)
        case rel => exact ⟨j + 1, by omega, by omega, Lib.hid HN.out.1, Lib.hid ⟨RN.out.1, HR.out.2.trans (R1.out.2.trans RN.out.2)⟩⟩
        case measure => omega
    | false =>
      have HN := Lib.hid (HSP.out hbl)
      clear HST HSP
      simp only [isBl, Bool.or_eq_false_iff, decide_eq_false_iff_not] at hbl
      obtain ⟨⟨⟨h1, h2⟩, h3⟩, h4⟩ := hbl
      go_wp2_with fail
      refine HP.out.mono ?_
      rintro e w1 ⟨rfl, d⟩
      have R1 := Lib.hid (HR.out.1.dr d)
      clear d
      go_wp2_with fail
      (try simp only [Exit.inBlock, Exit.then])
      refine bodyPost_ret (results_none rfl _ _ _) rfl ?_
      exact ⟨rfl, by rw [HN.out]; exact R1.out.1, HR.out.2.trans R1.out.2⟩
end Go.Proofs.YtmkkckhfdafjnaaGreatDoor
/- Layer 4, Read: word, digits, hex, four. -/
namespace Go.Proofs.YtmkkckhfdafjnaaGreatDoor
open Go.RowKit Go.Maps
theorem take_at {p i op : Nat} {s : ByteArray} {v : Value} {L : List CR} (c : Int) (w : World) (h : RdB w p s i op v L) (hs : s.size ≤ 1000000000) (hi : i ≤ 2000000000) : Calls Tryz.prog 175 #[.pointer (some ⟨p, 0, none⟩), .int .u8 c] w (AtP p s op v L w (if byt s i = c then .ok (i + 1) else .bad 40)) := by
  by_cases hc : byt s i = c
  · rw [if_pos hc]
    exact take_ok c w h hs hi hc
  · rw [if_neg hc]
    refine (take_bad c w h hs hi hc).mono ?_
    rintro e w' ⟨rfl, d⟩
    exact ⟨rfl, d.below _⟩
/-- A text's bytes. -/
def bytL (t : ByteArray) : List Int := (List.range t.size).map (byt t)
theorem bytL_len (t : ByteArray) : (bytL t).length = t.size := by simp [bytL]
theorem bytL_drop (t : ByteArray) (k : Nat) (h : k < t.size) : (bytL t).drop k = byt t k :: (bytL t).drop (k + 1) := by
  rw [List.drop_eq_getElem_cons (by rw [bytL_len]; exact h)]
  congr 1
  simp [bytL]
set_option maxRecDepth 20000 in
set_option maxHeartbeats 1000000 in
theorem word_any {p i op : Nat} {s : ByteArray} {v : Value} {L : List CR} (t : ByteArray) (w : World) (h : RdB w p s i op v L) (hs : s.size ≤ 1000000000) (hi : i ≤ 1000000000) (ht : t.size ≤ 1000) : Calls Tryz.prog 177 #[.pointer (some ⟨p, 0, none⟩), .string t] w (AtP p s op v L w (wordM s (bytL t) i)) := by
  have H := Lib.hid h
  have HF := Lib.hid h.far
  have HLT := Lib.hid h.lt
  clear h
  obtain ⟨X, hX⟩ : ∃ X, X = wordM s (bytL t) i := ⟨_, rfl⟩
  rw [← hX]
  have HX : Hid (wordM s ((bytL t).drop 0) (i + 0) = X) := Lib.hid (by rw [hX]; rfl)
  clear hX
  go_enter Tryz.func177, Tryz.ntmps177
  go_wp2_with fail
  go_loopw [4, 4] (fun v4 _ wr => ∃ k : Nat, k ≤ t.size ∧ v4 = .int .i64 k ∧ Hid (wordM s ((bytL t).drop k) (i + k) = X) ∧ Hid (RdB wr p s (i + k) op v L ∧ Fr p v v w wr)) (fun v4 _ _ => t.size - (intOf v4).toNat)
  case atStart => exact ⟨0, Nat.zero_le _, rfl, HX, Lib.hid ⟨H.out, Fr.refl _ _ _⟩⟩
  case round =>
    obtain ⟨k, hk, rfl, HE, HR⟩ := hrel
    by_cases hkt : k < t.size
    · have hki : (k : Int) < t.size := by omega
      have hk0 : (0 : Int) ≤ k := by omega
      have hb := byt_eq t k hkt
      have HT := Lib.hid (take_at (byt t k) wr HR.out.1 hs (by omega))
      have HS : Hid (X = (if byt s (i + k) = byt t k then wordM s ((bytL t).drop (k + 1)) (i + (k + 1)) else .bad 40)) := Lib.hid (by rw [← HE.out, bytL_drop t k hkt]; rfl)
      rw [← hb] at HT HS
      clear hb HE
      by_cases hc : byt s (i + k) = (t[k].toNat : Int)
      · rw [if_pos hc] at HT HS
        clear hc
        go_wp2_with fail
        refine HT.out.mono ?_
        rintro e w1 ⟨rfl, r1, f1⟩
        have R1 := Lib.hid (And.intro r1 (HR.out.2.trans f1))
        clear r1 f1
        go_wp2_with fail
        go_roundw
        case rel => exact ⟨k + 1, by omega, by go_num, Lib.hid HS.out.symm, R1⟩
        case measure => (simp [intOf]; omega)
      · rw [if_neg hc] at HT HS
        clear hc
        go_wp2_with fail
        refine HT.out.mono ?_
        rintro e w1 ⟨he, b1⟩
        unfold thr at he
        subst he
        have B1 : Hid (Below p w w1) := Lib.hid ((HR.out.2.below HF.out (Nat.le_of_lt HLT.out)).trans b1)
        clear b1
        (try go_wp2_with fail)
        simp only [bodyPost]
        rw [HS.out]
        exact ⟨trivial, rfl, B1.out⟩
    · obtain rfl : k = t.size := by omega
      have HS : Hid (X = .ok (i + t.size)) := Lib.hid (by rw [← HE.out, List.drop_eq_nil_of_le (by rw [bytL_len]; exact Nat.le_refl _)]; rfl)
      clear HE
      go_wp2_with fail
      go_end0
      rw [HS.out]
      exact ⟨rfl, HR.out.1, HR.out.2⟩
end Go.Proofs.YtmkkckhfdafjnaaGreatDoor
/- Layer 4, Read: digits, hex, four. -/
namespace Go.Proofs.YtmkkckhfdafjnaaGreatDoor
open Go.RowKit Go.Maps
theorem dg_step {s : ByteArray} {i : Nat} (h : isDg (byt s i) = true) : dg s i = dg s (i + 1) := by
  have hi : i < s.size := byt_in (by intro e; rw [e] at h; cases h)
  unfold dg
  rw [show s.size - i = (s.size - (i + 1)) + 1 by omega]
  show (if isDg (byt s i) then dgF s (s.size - (i + 1)) (i + 1) else i) = _
  rw [if_pos h]
theorem dg_stop {s : ByteArray} {i : Nat} (h : isDg (byt s i) = false) : dg s i = i := by
  unfold dg
  cases s.size - i with
  | zero => rfl
  | succ f =>
    show (if isDg (byt s i) then dgF s f (i + 1) else i) = _
    rw [if_neg (by rw [h]; decide)]
set_option maxRecDepth 20000 in
set_option maxHeartbeats 1000000 in
theorem rdigits_at {p i op : Nat} {s : ByteArray} {v : Value} {L : List CR} (w : World) (h : RdB w p s i op v L) (hs : s.size ≤ 1000000000) (hi : i ≤ 1000000001) : Calls Tryz.prog 178 #[.pointer (some ⟨p, 0, none⟩)] w fun e w' => (∃ n : Nat, e = .returned (.int .i64 n) ∧ dg s i = i + n) ∧ RdB w' p s (dg s i) op v L ∧ Fr p v v w w' := by
  have H := Lib.hid h
  clear h
  go_enter Tryz.func178, Tryz.ntmps178
  go_wp2_with fail
  go_loopw [3, 3] (fun v3 _ wr => ∃ n : Nat, v3 = .int .i64 n ∧ i + n ≤ 1000000001 ∧ Hid (dg s i = dg s (i + n)) ∧ Hid (RdB wr p s (i + n) op v L ∧ Fr p v v w wr)) (fun v3 _ _ => s.size - i - (intOf v3).toNat)
  case atStart => exact ⟨0, rfl, hi, Lib.hid rfl, Lib.hid ⟨H.out, Fr.refl _ _ _⟩⟩
  case round =>
    obtain ⟨n, rfl, hn, HE, HR⟩ := hrel
    have HP := Lib.hid (fun W (d : Dr wr W) => (peek_any W (HR.out.1.dr d).1 hs (by omega)).mono (fun e W' k => And.intro k.1 (d.trans k.2)))
    have HST := Lib.hid (fun (e : isDg (byt s (i + n)) = true) => (⟨by rw [HE.out]; exact dg_step e, byt_in (by intro e'; rw [e'] at e; cases e)⟩ : dg s i = dg s (i + n + 1) ∧ i + n < s.size))
    have HSP := Lib.hid (fun (e : isDg (byt s (i + n)) = false) => (HE.out.trans (dg_stop e)))
    obtain ⟨b, hb⟩ : ∃ b, b = byt s (i + n) := ⟨_, rfl⟩
    rw [← hb] at HP HST HSP
    clear hb HE
    by_cases h1 : (48 : Int) ≤ b
    · by_cases h2 : b ≤ 57
      · have hd : isDg b = true := by simp [isDg, h1, h2]
        have HN := Lib.hid (HST.out hd)
        have hjs := (HST.out hd).2
        clear HST HSP hd
        go_wp2_with (go_at_call 160; first | (refine (HP.out _ (Dr.refl _)).mono ?_; rintro e w1 ⟨rfl, d⟩; have D1 := Lib.hid d; clear d) | (refine (HP.out _ D1.out).mono ?_; rintro e w2 ⟨rfl, d⟩; have R1 := Lib.hid (HR.out.1.dr d); clear d; have c1 := R1.out.1.c1; have z1 := R1.out.1.z 1; have RN := Lib.hid (R1.out.1.at_ (i + n + 1) (((i + n : Nat) : Int) + 1) (by omega))))
        go_roundw
        case rel => exact ⟨n + 1, by go_num, by omega, Lib.hid HN.out.1, Lib.hid ⟨RN.out.1, HR.out.2.trans (R1.out.2.trans RN.out.2)⟩⟩
        case measure => (simp [intOf]; omega)
      · have hd : isDg b = false := by simp [isDg, h2]
        have HN := Lib.hid (HSP.out hd)
        clear HST HSP hd
        go_wp2_with (go_at_call 160; first | (refine (HP.out _ (Dr.refl _)).mono ?_; rintro e w1 ⟨rfl, d⟩; have D1 := Lib.hid d; clear d) | (refine (HP.out _ D1.out).mono ?_; rintro e w2 ⟨rfl, d⟩; have R1 := Lib.hid (HR.out.1.dr d); clear d))
        go_ret
        exact ⟨⟨n, rfl, HN.out⟩, by rw [HN.out]; exact R1.out.1, HR.out.2.trans R1.out.2⟩
    · have hd : isDg b = false := by simp [isDg, h1]
      have HN := Lib.hid (HSP.out hd)
      clear HST HSP hd
      go_wp2_with (go_at_call 160; refine (HP.out _ (Dr.refl _)).mono ?_; rintro e w2 ⟨rfl, d⟩; have R1 := Lib.hid (HR.out.1.dr d); clear d)
      go_ret
      exact ⟨⟨n, rfl, HN.out⟩, by rw [HN.out]; exact R1.out.1, HR.out.2.trans R1.out.2⟩
set_option maxRecDepth 20000 in
theorem hex_any (b : Int) (w : World) (h0 : 0 ≤ b) (h1 : b < 256) : Calls Tryz.prog 187 #[.int .u8 b] w fun e w' => e = .returned (.int .i64 (hexV b)) ∧ w' = w := by
  obtain ⟨r, hr⟩ : ∃ r, r = hexV b := ⟨_, rfl⟩
  rw [← hr]
  unfold hexV at hr
  rcases (by omega : b < 48 ∨ (48 ≤ b ∧ b ≤ 57) ∨ (58 ≤ b ∧ b ≤ 64) ∨ (65 ≤ b ∧ b ≤ 70) ∨ (71 ≤ b ∧ b ≤ 96) ∨ (97 ≤ b ∧ b ≤ 102) ∨ 103 ≤ b) with k | ⟨k, k'⟩ | ⟨k, k'⟩ | ⟨k, k'⟩ | ⟨k, k'⟩ | ⟨k, k'⟩ | k
  · have HR : Hid (r = -1) := Lib.hid (by rw [hr, if_neg (by omega), if_neg (by omega), if_neg (by omega)])
    have g1 : ¬ (48 : Int) ≤ b := by omega
    have g2 : ¬ (97 : Int) ≤ b := by omega
    have g3 : ¬ (65 : Int) ≤ b := by omega
    clear hr k
    go_enter Tryz.func187, Tryz.ntmps187
    go_wp2_with fail
    go_ret
    exact ⟨ret_int HR.out.symm, rfl⟩
  · have HR : Hid (r = b - 48) := Lib.hid (by rw [hr, if_pos (by omega)])
    clear hr
    go_enter Tryz.func187, Tryz.ntmps187
    go_wp2_with fail
    go_ret
    exact ⟨ret_int HR.out.symm, rfl⟩
  · have HR : Hid (r = -1) := Lib.hid (by rw [hr, if_neg (by omega), if_neg (by omega), if_neg (by omega)])
    have g1 : (48 : Int) ≤ b := by omega
    have g1' : ¬ b ≤ (57 : Int) := by omega
    have g2 : ¬ (97 : Int) ≤ b := by omega
    have g3 : ¬ (65 : Int) ≤ b := by omega
    clear hr k k'
    go_enter Tryz.func187, Tryz.ntmps187
    go_wp2_with fail
    go_ret
    exact ⟨ret_int HR.out.symm, rfl⟩
  · have HR : Hid (r = b - 65 + 10) := Lib.hid (by rw [hr, if_neg (by omega), if_neg (by omega), if_pos (by omega)])
    have g1 : (48 : Int) ≤ b := by omega
    have g1' : ¬ b ≤ (57 : Int) := by omega
    have g2 : ¬ (97 : Int) ≤ b := by omega
    clear hr
    go_enter Tryz.func187, Tryz.ntmps187
    go_wp2_with fail
    go_ret
    exact ⟨ret_int HR.out.symm, rfl⟩
  · have HR : Hid (r = -1) := Lib.hid (by rw [hr, if_neg (by omega), if_neg (by omega), if_neg (by omega)])
    have g1 : (48 : Int) ≤ b := by omega
    have g1' : ¬ b ≤ (57 : Int) := by omega
    have g2 : ¬ (97 : Int) ≤ b := by omega
    have g3 : (65 : Int) ≤ b := by omega
    have g3' : ¬ b ≤ (70 : Int) := by omega
    clear hr k k'
    go_enter Tryz.func187, Tryz.ntmps187
    go_wp2_with fail
    go_ret
    exact ⟨ret_int HR.out.symm, rfl⟩
  · have HR : Hid (r = b - 97 + 10) := Lib.hid (by rw [hr, if_neg (by omega), if_pos (by omega)])
    have g1 : (48 : Int) ≤ b := by omega
    have g1' : ¬ b ≤ (57 : Int) := by omega
    clear hr
    go_enter Tryz.func187, Tryz.ntmps187
    go_wp2_with fail
    go_ret
    exact ⟨ret_int HR.out.symm, rfl⟩
  · have HR : Hid (r = -1) := Lib.hid (by rw [hr, if_neg (by omega), if_neg (by omega), if_neg (by omega)])
    have g1 : (48 : Int) ≤ b := by omega
    have g1' : ¬ b ≤ (57 : Int) := by omega
    have g2 : (97 : Int) ≤ b := by omega
    have g2' : ¬ b ≤ (102 : Int) := by omega
    have g3 : (65 : Int) ≤ b := by omega
    have g3' : ¬ b ≤ (70 : Int) := by omega
    clear hr k
    go_enter Tryz.func187, Tryz.ntmps187
    go_wp2_with fail
    go_ret
    exact ⟨ret_int HR.out.symm, rfl⟩
end Go.Proofs.YtmkkckhfdafjnaaGreatDoor
/- Layer 4, Read: four, point. -/
namespace Go.Proofs.YtmkkckhfdafjnaaGreatDoor
open Go.RowKit Go.Maps
/-- A number is told, and a place, or an error thrown. -/
def IntP (p : Nat) (s : ByteArray) (op : Nat) (v : Value) (L : List CR) (w : World) (x : Rs (Int × Nat)) (e : Ending) (w' : World) : Prop := match x with
  | .ok (n, j) => e = .returned (.int .i64 n) ∧ RdB w' p s j op v L ∧ Fr p v v w w'
  | .bad m => e = thr m ∧ Below p w w'
theorem hexV_range (b : Int) : -1 ≤ hexV b ∧ hexV b ≤ 15 := by unfold hexV; (repeat' split) <;> omega
theorem fourF_ok {s : ByteArray} : ∀ (k i : Nat) (n m : Int) (j : Nat), 0 ≤ n → fourF s k i n = .ok (m, j) → j = i + k ∧ 0 ≤ m ∧ m + 1 ≤ (n + 1) * 16 ^ k
  | 0, i, n, m, j, hn, h => by
    cases h
    exact ⟨rfl, hn, by omega⟩
  | k + 1, i, n, m, j, hn, h => by
    have hx := hexV_range (byt s i)
    unfold fourF at h
    split at h
    · cases h
    · obtain ⟨h1, h2, h3⟩ := fourF_ok k (i + 1) _ m j (by omega) h
      refine ⟨by omega, h2, Int.le_trans h3 ?_⟩
      rw [Int.pow_succ, ← Int.mul_assoc, Int.mul_comm ((n + 1) * 16 ^ k) 16, ← Int.mul_assoc]
      exact Int.mul_le_mul_of_nonneg_right (by omega) (Int.pow_nonneg (by decide))
theorem or_16 (x y : Int) (h0 : 0 ≤ x) (h1 : x < 2 ^ 57) (h2 : 0 ≤ y) (h3 : y < 16) : bits .or .i64 (x * 16) y = x * 16 + y := bits_join .i64 63 (by decide) wraps_i64 4 (x * 16) y (by omega) (by omega) (by omega) h2 h3 (by omega)
set_option maxRecDepth 20000 in
set_option maxHeartbeats 1000000 in
theorem four_any {p i op : Nat} {s : ByteArray} {v : Value} {L : List CR} (w : World) (h : RdB w p s i op v L) (hs : s.size ≤ 1000000000) (hi : i ≤ 1000000100) : Calls Tryz.prog 185 #[.pointer (some ⟨p, 0, none⟩)] w (IntP p s op v L w (fourF s 4 i 0)) := by
  have H := Lib.hid h
  have HF := Lib.hid h.far
  have HLT := Lib.hid h.lt
  clear h
  obtain ⟨X, hX⟩ : ∃ X, X = fourF s 4 i 0 := ⟨_, rfl⟩
  rw [← hX]
  have HX : Hid (fourF s (4 - 0) (i + 0) 0 = X) := Lib.hid (by rw [hX]; rfl)
  clear hX
  go_enter Tryz.func185, Tryz.ntmps185
  go_wp2_with fail
  go_loopw [3, 5] (fun v3 v5 wr => ∃ (k : Nat) (n : Int), k ≤ 4 ∧ v5 = .int .i64 k ∧ v3 = .int .i64 n ∧ 0 ≤ n ∧ n + 1 ≤ 16 ^ k ∧ Hid (fourF s (4 - k) (i + k) n = X) ∧ Hid (RdB wr p s (i + k) op v L ∧ Fr p v v w wr)) (fun _ v5 _ => 4 - (intOf v5).toNat)
  case atStart => exact ⟨0, 0, by omega, rfl, rfl, by omega, by decide, HX, Lib.hid ⟨H.out, Fr.refl _ _ _⟩⟩
  case round =>
    obtain ⟨k, n, hk, rfl, rfl, hn0, hn1, HE, HR⟩ := hrel
    by_cases hk4 : k < 4
    · have hki : (k : Int) < 4 := by omega
      have hp1 : (16 : Int) ^ k ≤ 4096 := by
        rcases (by omega : k = 0 ∨ k = 1 ∨ k = 2 ∨ k = 3) with rfl | rfl | rfl | rfl <;> decide
      have hp2 : (16 : Int) ^ (k + 1) = 16 ^ k * 16 := Int.pow_succ _ _
      obtain ⟨P, hP⟩ : ∃ P, P = (16 : Int) ^ k := ⟨_, rfl⟩
      rw [← hP] at hn1 hp1 hp2
      have HP2 := Lib.hid hp2
      have HP := Lib.hid (peek_any wr HR.out.1 hs (by omega))
      have hbr := byt_range s (i + k)
      have hxr := hexV_range (byt s (i + k))
      have HH := Lib.hid (fun W => hex_any (byt s (i + k)) W hbr.1 hbr.2)
      have HS : Hid (X = if hexV (byt s (i + k)) < 0 then .bad 40 else fourF s (4 - (k + 1)) (i + (k + 1)) (n * 16 + hexV (byt s (i + k)))) := Lib.hid (by
        rw [← HE.out, show 4 - k = (4 - (k + 1)) + 1 by omega]; rfl)
      obtain ⟨d, hd⟩ : ∃ d, d = hexV (byt s (i + k)) := ⟨_, rfl⟩
      rw [← hd] at HH HS hxr
      obtain ⟨b, hb⟩ : ∃ b, b = byt s (i + k) := ⟨_, rfl⟩
      rw [← hb] at HH HP
      clear hb hd hbr HE hP hp2
      by_cases hd0 : d < 0
      · rw [if_pos hd0] at HS
        go_wp2_with (first | (go_at_call 160; refine HP.out.mono ?_; rintro e w1 ⟨rfl, dd⟩; have R1 := Lib.hid (HR.out.1.dr dd); clear dd) | (go_at_call 187; refine (HH.out _).mono ?_; rintro e w2 ⟨rfl, rfl⟩))
        simp only [bodyPost]
        rw [HS.out]
        exact ⟨trivial, rfl, (HR.out.2.trans R1.out.2).below HF.out (Nat.le_of_lt HLT.out)⟩
      · rw [if_neg hd0] at HS
        have hor := or_16 n d hn0 (by omega) (by omega) (by omega)
        go_wp2_with (first | (go_at_call 160; refine HP.out.mono ?_; rintro e w1 ⟨rfl, dd⟩; have R1 := Lib.hid (HR.out.1.dr dd); clear dd; have c1 := R1.out.1.c1; have z1 := R1.out.1.z 1; have RN := Lib.hid (R1.out.1.at_ (i + k + 1) (((i + k : Nat) : Int) + 1) (by omega))) | (go_at_call 187; refine (HH.out _).mono ?_; rintro e w2 ⟨rfl, rfl⟩))
        go_roundw
        case rel => exact ⟨k + 1, n * 16 + d, by omega, by go_num, rfl, by omega, by rw [HP2.out]; omega, Lib.hid HS.out.symm, Lib.hid ⟨RN.out.1, HR.out.2.trans (R1.out.2.trans RN.out.2)⟩⟩
        case measure => (simp [intOf]; omega)
    · obtain rfl : k = 4 := by omega
      go_wp2_with fail
      go_ret
      rw [← HE.out]
      exact ⟨rfl, HR.out.1, HR.out.2⟩
end Go.Proofs.YtmkkckhfdafjnaaGreatDoor
/- Layer 4, Read: point. -/
namespace Go.Proofs.YtmkkckhfdafjnaaGreatDoor
open Go.RowKit Go.Maps
theorem and1023 (x : Int) (h0 : 0 ≤ x) (h1 : x < 2 ^ 63) : bits .and .i64 x 1023 = x % 1024 := bits_mask .i64 63 (by decide) wraps_i64 10 (by decide) x h0 h1
theorem or_1024 (x y : Int) (h0 : 0 ≤ x) (h1 : x < 2 ^ 52) (h2 : 0 ≤ y) (h3 : y < 1024) : bits .or .i64 (x * 1024) y = x * 1024 + y := bits_join .i64 63 (by decide) wraps_i64 10 (x * 1024) y (by omega) (by omega) (by omega) h2 h3 (by omega)
theorem put_one {q : Int} (h : isPt q = true) : putE [q] = 0 ∧ putS [q] = mkB (enc q) := by
  have := put_good (L := [q]) (by simp) (by simp [allPt, h])
  refine ⟨this.1, this.2.trans ?_⟩
  simp [encs]
theorem put_no {q : Int} (h : isPt q = false) : putE [q] = 10 ∧ putS [q] = ⟨#[]⟩ := put_bad (L := [q]) (by simp) (by simp [allPt, h])
theorem below_box2 {w w' : World} {o : Obj} (h : Below (w.alloc o).heap.size (w.alloc o) w') : Below w.heap.size w w' := ((Below.refl _ _).alloc (Nat.le_refl _) _).trans (h.mono (by simp))
/-- A code point's bytes are told, and a place, or an error thrown. -/
def PtP (p : Nat) (s : ByteArray) (op : Nat) (v : Value) (L : List CR) (w : World) (x : Rs (Int × Nat)) (e : Ending) (w' : World) : Prop := match x with
  | .ok (n, j) => e = .returned (.string (mkB (enc n))) ∧ isPt n = true ∧ RdB w' p s j op v L ∧ Fr p v v w w'
  | .bad m => e = thr m ∧ Below p w w'
theorem pv_one (w : World) (q : Int) : PView (w.alloc (.cells #[.int .i64 q] 3)) (some ⟨w.heap.size, 0, none⟩) 1 [q] := ⟨rfl, fun k hk => by
  obtain rfl : k = 0 := by omega
  exact ⟨w.heap.size, 0, rfl, by simp, by simp⟩⟩
set_option maxRecDepth 20000 in
set_option maxHeartbeats 2000000 in
theorem point_any {p i op : Nat} {s : ByteArray} {v : Value} {L : List CR} (w : World) (h : RdB w p s i op v L) (hs : s.size ≤ 1000000000) (hi : i ≤ 1000000010) : Calls Tryz.prog 184 #[.pointer (some ⟨p, 0, none⟩)] w (PtP p s op v L w (pointM s i)) := by
  have HF := Lib.hid h.far
  have HLT := Lib.hid h.lt
  have H4 := Lib.hid (four_any w h hs (by omega))
  clear h
  obtain ⟨X, hX⟩ : ∃ X, X = pointM s i := ⟨_, rfl⟩
  rw [← hX]
  unfold pointM at hX
  cases hx : fourF s 4 i 0 with
  | bad m =>
    rw [hx] at hX H4
    have HX : Hid (X = .bad m) := Lib.hid hX
    clear hX hx
    go_enter Tryz.func184, Tryz.ntmps184
    go_wp2_with fail
    refine H4.out.mono ?_
    rintro e w1 ⟨he, b1⟩
    unfold thr at he
    subst he
    (try go_wp2_with fail)
    simp only [bodyPost]
    rw [HX.out]
    exact ⟨trivial, rfl, b1⟩
  | ok y =>
    obtain ⟨q, j⟩ := y
    obtain ⟨hj, hq0, hq1⟩ := fourF_ok 4 i 0 q j (by decide) hx
    have hq2 : q ≤ 65535 := by have : (16 : Int) ^ 4 = 65536 := by decide
                               omega
    rw [hx] at hX H4
    simp only [Rs.bind_ok] at hX
    clear hx hq1
    by_cases hsur : 55296 ≤ q ∧ q ≤ 56319
    · rw [if_pos hsur] at hX
      have HX := Lib.hid hX
      clear hX
      obtain ⟨g1, g2⟩ := hsur
      have hji : j ≤ 1000000014 := by omega
      have thrown : ∀ (m : Int) (W : World), X = .bad m → Below p w W → PtP p s op v L w X (thr m) W := fun m W h1 h2 => by rw [h1]; exact ⟨rfl, h2⟩
      have HTH := Lib.hid thrown
      clear thrown
      by_cases h92 : byt s j = 92
      · by_cases h117 : byt s (j + 1) = 117
        · have hw : wordM s [92, 117] j = .ok (j + 2) := by
            show (if byt s j = 92 then (if byt s (j + 1) = 117 then Rs.ok (j + 1 + 1) else .bad 40) else .bad 40) = _
            rw [if_pos h92, if_pos h117]
          replace HX := HX.out
          rw [hw] at HX
          simp only [Rs.bind_ok] at HX
          have HTA := Lib.hid (fun W (r : RdB W p s j op v L) => take_ok 92 W r hs (by omega) h92)
          have HTB := Lib.hid (fun W (r : RdB W p s (j + 1) op v L) => take_ok 117 W r hs (by omega) h117)
          have H4B := Lib.hid (fun W (r : RdB W p s (j + 1 + 1) op v L) => four_any W r hs (by omega))
          clear hw h92 h117
          cases hy : fourF s 4 (j + 2) 0 with
          | bad m =>
            rw [hy] at HX
            have HX1 := Lib.hid HX
            have H4C : Hid (∀ W, RdB W p s (j + 1 + 1) op v L → Calls Tryz.prog 185 #[.pointer (some ⟨p, 0, none⟩)] W fun e w' => e = thr m ∧ Below p W w') := Lib.hid (fun W r => by have := H4B.out W r; rw [show j + 1 + 1 = j + 2 from rfl, hy] at this; exact this)
            clear HX hy H4B
            go_enter Tryz.func184, Tryz.ntmps184
            go_wp2_with fail
            refine H4.out.mono ?_
            rintro e w1 ⟨rfl, r1, f1⟩
            go_wp2_with fail
            refine (HTA.out _ r1).mono ?_
            rintro e w2 ⟨rfl, r2, f2⟩
            go_wp2_with fail
            refine (HTB.out _ r2).mono ?_
            rintro e w3 ⟨rfl, r3, f3⟩
            go_wp2_with fail
            refine (H4C.out _ r3).mono ?_
            rintro e w4 ⟨he, b4⟩
            unfold thr at he
            subst he
            (try go_wp2_with fail)
            simp only [bodyPost]
            exact ⟨trivial, HTH.out m _ HX1.out (((f1.trans (f2.trans f3)).below HF.out (Nat.le_of_lt HLT.out)).trans b4)⟩
          | ok y =>
            obtain ⟨lo, j3⟩ := y
            obtain ⟨hj3, hl0, hl1⟩ := fourF_ok 4 (j + 2) 0 lo j3 (by decide) hy
            have hl2 : lo ≤ 65535 := by have : (16 : Int) ^ 4 = 65536 := by decide
                                        omega
            rw [hy] at HX
            simp only [Rs.bind_ok] at HX
            have H4C : Hid (∀ W, RdB W p s (j + 1 + 1) op v L → Calls Tryz.prog 185 #[.pointer (some ⟨p, 0, none⟩)] W fun e w' => e = .returned (.int .i64 lo) ∧ RdB w' p s j3 op v L ∧ Fr p v v W w') := Lib.hid (fun W r => by have := H4B.out W r; rw [show j + 1 + 1 = j + 2 from rfl, hy] at this; exact this)
            clear hy H4B hl1
            by_cases hlo : lo < 56320 ∨ 57343 < lo
            · rw [if_pos hlo] at HX
              have HX1 := Lib.hid HX
              clear HX
              rcases hlo with k1 | k1
              all_goals
                have k2 : lo < 56320 ∨ ¬ lo < 56320 := by omega
                go_enter Tryz.func184, Tryz.ntmps184
                go_wp2_with fail
                refine H4.out.mono ?_
                rintro e w1 ⟨rfl, r1, f1⟩
                go_wp2_with fail
                refine (HTA.out _ r1).mono ?_
                rintro e w2 ⟨rfl, r2, f2⟩
                go_wp2_with fail
                refine (HTB.out _ r2).mono ?_
                rintro e w3 ⟨rfl, r3, f3⟩
                go_wp2_with fail
                refine (H4C.out _ r3).mono ?_
                rintro e w4 ⟨rfl, r4, f4⟩
                go_wp2_with fail
                simp only [bodyPost]
                exact ⟨trivial, HTH.out 40 _ HX1.out ((f1.trans (f2.trans (f3.trans f4))).below HF.out (Nat.le_of_lt HLT.out))⟩
            · rw [if_neg hlo] at HX
              have k1 : ¬ lo < 56320 := by omega
              have k2 : ¬ 57343 < lo := by omega
              have hq' := and1023 q (by omega) (by omega)
              have hl' := and1023 lo (by omega) (by omega)
              have ho := or_1024 (q % 1024) (lo % 1024) (by omega) (by omega) (by omega) (by omega)
              have hpt : isPt (65536 + (q % 1024 * 1024 + lo % 1024)) = true := by unfold isPt; rw [decide_eq_true_eq]; omega
              have HX1 := Lib.hid HX
              have HPT := Lib.hid hpt
              have HP1 := Lib.hid (put_one hpt)
              clear HX hpt hlo
              go_enter Tryz.func184, Tryz.ntmps184
              go_wp2_with fail
              refine H4.out.mono ?_
              rintro e w1 ⟨rfl, r1, f1⟩
              go_wp2_with fail
              refine (HTA.out _ r1).mono ?_
              rintro e w2 ⟨rfl, r2, f2⟩
              go_wp2_with fail
              refine (HTB.out _ r2).mono ?_
              rintro e w3 ⟨rfl, r3, f3⟩
              go_wp2_with fail
              refine (H4C.out _ r3).mono ?_
              rintro e w4 ⟨rfl, r4, f4⟩
              go_wp2_with fail
              refine (put_any _ 1 1 [65536 + (q % 1024 * 1024 + lo % 1024)] _ (pv_one _ _) (by decide)).mono ?_
              rintro e w5 ⟨rfl, b2⟩
              rw [HP1.out.1, HP1.out.2]
              have R2 := Lib.hid (r4.below (below_box2 b2))
              go_wp2_with fail
              go_ret
              rw [HX1.out]
              exact ⟨rfl, HPT.out, R2.out.1, f1.trans (f2.trans (f3.trans (f4.trans R2.out.2)))⟩
        · have hw : wordM s [92, 117] j = .bad 40 := by
            show (if byt s j = 92 then (if byt s (j + 1) = 117 then Rs.ok (j + 1 + 1) else .bad 40) else .bad 40) = _
            rw [if_pos h92, if_neg h117]
          have HX1 : Hid (X = .bad 40) := Lib.hid (by rw [HX.out, hw]; rfl)
          have HTA := Lib.hid (fun W (r : RdB W p s j op v L) => take_ok 92 W r hs (by omega) h92)
          have HTB := Lib.hid (fun W (r : RdB W p s (j + 1) op v L) => take_bad 117 W r hs (by omega) h117)
          clear hw h92 h117 HX
          go_enter Tryz.func184, Tryz.ntmps184
          go_wp2_with fail
          refine H4.out.mono ?_
          rintro e w1 ⟨rfl, r1, f1⟩
          go_wp2_with fail
          refine (HTA.out _ r1).mono ?_
          rintro e w2 ⟨rfl, r2, f2⟩
          go_wp2_with fail
          refine (HTB.out _ r2).mono ?_
          rintro e w3 ⟨he, d⟩
          unfold thr at he
          subst he
          (try go_wp2_with fail)
          simp only [bodyPost]
          exact ⟨trivial, HTH.out 40 _ HX1.out (((f1.trans f2).below HF.out (Nat.le_of_lt HLT.out)).trans (d.below _))⟩
      · have hw : wordM s [92, 117] j = .bad 40 := by
          show (if byt s j = 92 then (if byt s (j + 1) = 117 then Rs.ok (j + 1 + 1) else .bad 40) else .bad 40) = _
          rw [if_neg h92]
        have HX1 : Hid (X = .bad 40) := Lib.hid (by rw [HX.out, hw]; rfl)
        have HTA := Lib.hid (fun W (r : RdB W p s j op v L) => take_bad 92 W r hs (by omega) h92)
        clear hw h92 HX
        go_enter Tryz.func184, Tryz.ntmps184
        go_wp2_with fail
        refine H4.out.mono ?_
        rintro e w1 ⟨rfl, r1, f1⟩
        go_wp2_with fail
        refine (HTA.out _ r1).mono ?_
        rintro e w2 ⟨he, d⟩
        unfold thr at he
        subst he
        (try go_wp2_with fail)
        simp only [bodyPost]
        exact ⟨trivial, HTH.out 40 _ HX1.out ((f1.below HF.out (Nat.le_of_lt HLT.out)).trans (d.below _))⟩
    · rw [if_neg hsur] at hX
      cases hpt : isPt q with
      | true =>
        have HX : Hid (X = .ok (q, j)) := Lib.hid (by rw [hX, hpt]; rfl)
        have HPT := Lib.hid hpt
        have HP1 := Lib.hid (put_one hpt)
        clear hX hpt
        rcases (by omega : q < 55296 ∨ (55296 ≤ q ∧ 56319 < q)) with g1 | ⟨g1, g2⟩
        all_goals
          have gg : (55296 ≤ q) ∨ ¬ (55296 ≤ q) := by omega
          clear hsur
          go_enter Tryz.func184, Tryz.ntmps184
          go_wp2_with fail
          refine H4.out.mono ?_
          rintro e w1 ⟨rfl, r1, f1⟩
          have R1 := Lib.hid (And.intro r1 f1)
          clear r1 f1
          go_wp2_with fail
          refine (put_any _ 1 1 [q] _ (pv_one _ _) (by decide)).mono ?_
          rintro e w2 ⟨rfl, b2⟩
          rw [HP1.out.1, HP1.out.2]
          have R2 := Lib.hid (R1.out.1.below (below_box2 b2))
          go_wp2_with fail
          go_ret
          rw [HX.out]
          exact ⟨rfl, HPT.out, R2.out.1, R1.out.2.trans R2.out.2⟩
      | false =>
        have HX : Hid (X = .bad 40) := Lib.hid (by rw [hX, hpt]; rfl)
        have HP1 := Lib.hid (put_no hpt)
        clear hX hpt
        rcases (by omega : q < 55296 ∨ (55296 ≤ q ∧ 56319 < q)) with g1 | ⟨g1, g2⟩
        all_goals
          clear hsur
          go_enter Tryz.func184, Tryz.ntmps184
          go_wp2_with fail
          refine H4.out.mono ?_
          rintro e w1 ⟨rfl, r1, f1⟩
          have R1 := Lib.hid (And.intro r1 f1)
          clear r1 f1
          go_wp2_with fail
          refine (put_any _ 1 1 [q] _ (pv_one _ _) (by decide)).mono ?_
          rintro e w2 ⟨rfl, b2⟩
          rw [HP1.out.1, HP1.out.2]
          have R2 := Lib.hid (R1.out.1.below (below_box2 b2))
          go_wp2_with fail
          simp only [bodyPost]
          rw [HX.out]
          exact ⟨trivial, rfl, (R1.out.2.trans R2.out.2).below HF.out (Nat.le_of_lt HLT.out)⟩
end Go.Proofs.YtmkkckhfdafjnaaGreatDoor
/- Layer 4, Read: escape. -/
namespace Go.Proofs.YtmkkckhfdafjnaaGreatDoor
open Go.RowKit Go.Maps
/-- As Fr, for the blocks below B. -/
structure FB (B p : Nat) (v : Value) (w w' : World) : Prop where
  os : w'.os = w.os
  tape : w'.tape = w.tape
  output : w'.output = w.output
  size : w.heap.size ≤ w'.heap.size
  kept : ∀ k, k < B → k ≠ p → v.ownBlock ≠ some k → w'.heap[k]? = w.heap[k]?
theorem FB.trans {B p : Nat} {v : Value} {w w' w'' : World} (h : FB B p v w w') (k : FB B p v w' w'') : FB B p v w w'' := ⟨k.os.trans h.os, k.tape.trans h.tape, k.output.trans h.output, Nat.le_trans h.size k.size, fun j h1 h2 h3 => (k.kept j h1 h2 h3).trans (h.kept j h1 h2 h3)⟩
theorem Fr.fb {B p : Nat} {v v' : Value} {w w' : World} (h : Fr p v v' w w') (hB : B ≤ w.heap.size) : FB B p v w w' := ⟨h.os, h.tape, h.output, h.size, fun k h1 h2 h3 => h.kept k (by omega) h2 h3⟩
theorem fb_below {B p : Nat} {v : Value} {w w' : World} (h : Below B w w') : FB B p v w w' := ⟨h.os, h.tape, h.output, h.size, fun k h1 _ _ => h.block k h1⟩
theorem FB.fr {p : Nat} {v : Value} {w w' : World} (h : FB w.heap.size p v w w') : Fr p v v w w' := ⟨h.os, h.tape, h.output, h.size, h.kept, fun _ e => .inl e⟩
theorem FB.below {B p : Nat} {v : Value} {w w' : World} (h : FB B p v w w') (hv : ∀ k, v.ownBlock = some k → p + 1 ≤ k) (hp : p ≤ B) : Below p w w' := ⟨h.os, h.tape, h.output, h.size, fun k hk => h.kept k (by omega) (by omega) (fun e => by have := hv k e; omega)⟩
/-- A reader whose blocks lie below B, behind a step that leaves those. -/
theorem RdB.low {B : Nat} {w w' : World} {p : Nat} {s : ByteArray} {i op : Nat} {v : Value} {L : List CR} (h : RdB w p s i op v L) (b : Below B w w') (hp : p < B) (hv : ∀ k, v.ownBlock = some k → k < B) : RdB w' p s i op v L :=
  ⟨by rw [b.block p hp]; exact h.box, own_move h.row (fun j hj => b.block j (hv j hj))⟩
/-- An own row of bytes. -/
def OwB (B : Nat) (w : World) (v : Value) (L : List Int) : Prop := w.ownsRow B 5 1 v L.length (L.map (Value.int .u8)) ∧ B ≤ w.heap.size
theorem OwB.up {B : Nat} {w w' : World} {v : Value} {L : List Int} (h : OwB B w v L) (hb : Below w.heap.size w w') : OwB B w' v L := ⟨own_below h.1 hb, Nat.le_trans h.2 hb.size⟩
/-- A step of the reader leaves the row. -/
theorem OwB.fr {B p : Nat} {w w' : World} {v v1 v2 : Value} {L : List Int} (h : OwB B w v L) (f : Fr p v1 v2 w w') (hp : p < B) (hv : ∀ k, v1.ownBlock = some k → k < B) : OwB B w' v L := by
  refine ⟨⟨h.1.1, ?_⟩, Nat.le_trans h.2 f.size⟩
  rcases h.1.2 with h1 | ⟨g, cap, cur, rfl, hg, hc, rest⟩
  · exact .inl h1
  · exact .inr ⟨g, cap, cur, rfl, hg, by rw [f.kept g (Array.getElem?_eq_some_iff.1 hc).1 (by omega) (fun e => by have := hv g e; omega)]; exact hc, rest⟩
def EsP (B p : Nat) (s : ByteArray) (op : Nat) (v : Value) (L : List CR) (w : World) (l : List Int) (x : Rs (List Int × Nat)) (e : Ending) (w' : World) : Prop := match x with
  | .ok (m, j) => ∃ vo, e = .returned vo ∧ OwB B w' vo (l ++ m) ∧ RdB w' p s j op v L ∧ FB B p v w w'
  | .bad m => e = thr m ∧ Below p w w'
theorem owb_end {B : Nat} {w w1 : World} {v v' : Value} {l m : List Int} {n : Nat} (ho : w1.ownsRow B 5 1 v' (l.length + n) (l.map (Value.int .u8) ++ m.map (Value.int .u8))) (hn : n = m.length) (h : OwB B w v l) (hg : w.grownBy w1 v.ownBlock) : OwB B w1 v' (l ++ m) ∧ Below B w w1 := by
  subst hn
  refine ⟨⟨by rw [List.length_append, List.map_append]; exact ho, Nat.le_trans h.2 hg.size⟩, (Below.refl B w).grown hg h.2 (fun k hk => (h.1.lt k hk).1)⟩
theorem str_cells {q : List Int} (h : ∀ x ∈ q, 0 ≤ x ∧ x < 256) : Lib.strCells (mkB q) = q.map (Value.int .u8) := by
  show ((q.map (fun x => UInt8.ofNat x.toNat)).toArray.toList).map _ = _
  rw [List.map_map]
  apply List.map_congr_left
  intro x hx
  have := h x hx
  simp only [Function.comp_apply]
  rw [UInt8.toNat_ofNat']
  congr 1
  omega
end Go.Proofs.YtmkkckhfdafjnaaGreatDoor
/- Layer 4, Read: escape, the walk. -/
namespace Go.Proofs.YtmkkckhfdafjnaaGreatDoor
open Go.RowKit Go.Maps
theorem OwB.alloc {B : Nat} {w : World} {v : Value} {L : List Int} (h : OwB B w v L) (o : Obj) : OwB B (w.alloc o) v L := h.up ((Below.refl _ _).alloc (Nat.le_refl _) _)
theorem cell_news2 (w : World) (cs : Array Value) (t : TypeId) (L : List Value) (h : cs.toList = L) {b : Nat} (hb : b = w.heap.size) : ∀ j u, L[j]? = some u → (w.alloc (.cells cs t)).cell? ((⟨b, 0, none⟩ : Addr).add j) = some u := by
  subst hb
  exact cell_news w cs t L h
theorem es_end {B p i op n : Nat} {s : ByteArray} {v vo vo' : Value} {L : List CR} {w w2 w3 : World} {o : Obj} {l m : List Int} (ho : w3.ownsRow B 5 1 vo' (l.length + n) (l.map (Value.int .u8) ++ m.map (Value.int .u8))) (hn : n = m.length) (h : OwB B w2 vo l) (hg : (w2.alloc o).grownBy w3 vo.ownBlock) (r : RdB w2 p s i op v L) (f : Fr p v v w w2) (hB : B ≤ w.heap.size) (hp : p < B) (hv : ∀ k, v.ownBlock = some k → k < B) :
    OwB B w3 vo' (l ++ m) ∧ RdB w3 p s i op v L ∧ FB B p v w w3 := by
  obtain ⟨h1, h2⟩ := owb_end ho hn (h.alloc o) hg
  have hb : Below B w2 w3 := ((Below.refl B w2).alloc h.2 o).trans h2
  exact ⟨h1, r.low hb hp hv, (f.fb hB).trans (fb_below hb)⟩
theorem es_end0 {B p i op n : Nat} {s : ByteArray} {v vo vo' : Value} {L : List CR} {w w2 w3 : World} {l m : List Int} (ho : w3.ownsRow B 5 1 vo' (l.length + n) (l.map (Value.int .u8) ++ m.map (Value.int .u8))) (hn : n = m.length) (h : OwB B w2 vo l) (hg : w2.grownBy w3 vo.ownBlock) (r : RdB w2 p s i op v L) (f : Fr p v v w w2) (hB : B ≤ w.heap.size) (hp : p < B) (hv : ∀ k, v.ownBlock = some k → k < B) :
    OwB B w3 vo' (l ++ m) ∧ RdB w3 p s i op v L ∧ FB B p v w w3 := by
  obtain ⟨h1, h2⟩ := owb_end ho hn h hg
  exact ⟨h1, r.low h2 hp hv, (f.fb hB).trans (fb_below h2)⟩
set_option maxRecDepth 20000 in
set_option maxHeartbeats 4000000 in
theorem escape_any {B p i op : Nat} {s : ByteArray} {v vo : Value} {L : List CR} {l : List Int} (w : World) (h : RdB w p s i op v L) (ho : OwB B w vo l) (hp : p < B) (hv : ∀ k, v.ownBlock = some k → k < B) (hs : s.size ≤ 1000000000) (hi : i ≤ 1000000001) (hl : l.length ≤ 10000000000) : Calls Tryz.prog 183 #[.pointer (some ⟨p, 0, none⟩), vo] w (EsP B p s op v L w l (escM s i)) := by
  obtain ⟨i0, hi0, hz0, hz1, hz2⟩ := info_parts info5
  obtain ⟨X, hX⟩ : ∃ X, X = escM s i := ⟨_, rfl⟩
  rw [← hX]
  have HF := Lib.hid h.far
  have HLT := Lib.hid h.lt
  have HB := Lib.hid ho.2
  have HO := Lib.hid ho
  have HP0 := Lib.hid hp
  have HV := Lib.hid hv
  have HP := Lib.hid (peek_any w h hs (by omega))
  have HPT : Hid (∀ W, RdB W p s (i + 1) op v L → Calls Tryz.prog 184 #[.pointer (some ⟨p, 0, none⟩)] W (PtP p s op v L W (pointM s (i + 1)))) := Lib.hid (fun W r => point_any W r hs (by omega))
  have H := Lib.hid h
  have hi2 : (i : Int) ≤ 1000000001 := by omega
  unfold escM at hX
  dsimp only at hX
  obtain ⟨b, hb⟩ : ∃ b, b = byt s i := ⟨_, rfl⟩
  rw [← hb] at HP hX
  have HX := Lib.hid hX
  clear hb hX h ho hp hv
  by_cases k34 : b = 34
  · subst k34
    have HX1 : Hid (X = .ok ([34], i + 1)) := Lib.hid (by simp [HX.out])
    go_enter Tryz.func183, Tryz.ntmps183
    go_wp2_with (first | (go_at_call 160; refine HP.out.mono ?_; rintro e w1 ⟨rfl, d⟩; have R1 := Lib.hid (H.out.dr d); clear d; have c1 := R1.out.1.c1; have z1 := R1.out.1.z 1; have RN := Lib.hid (R1.out.1.at_ (i + 1) ((i : Int) + 1) (by omega))) | (at_builtin; refine wpList_append_own _ rfl _ _ 26 rfl B 5 i0 (.int .u8 0) 1 1 Tryz.underlying26 hi0 hz0 hz1 hz2 rfl (by decide) vo l.length (l.map (Value.int .u8)) rfl ((HO.out.fr (R1.out.2.trans RN.out.2) HP0.out HV.out).alloc _).1 ⟨w1.heap.size, 0, none⟩ 1 1 [.int .u8 34] rfl rfl (cell_news2 _ _ _ _ rfl (by simp)) (by intro u hu; simp at hu; subst hu; rfl) (by unfold maxLen; omega) (by omega) ((HO.out.fr (R1.out.2.trans RN.out.2) HP0.out HV.out).alloc _).2 ?_; intro v' w3 ho hg _))
    go_ret
    rw [HX1.out]
    obtain ⟨e1, e2, e3⟩ := es_end (m := [34]) ho rfl (HO.out.fr (R1.out.2.trans RN.out.2) HP0.out HV.out) hg RN.out.1 (R1.out.2.trans RN.out.2) HB.out HP0.out HV.out
    exact ⟨v', rfl, e1, e2, e3⟩
  by_cases k92 : b = 92
  · subst k92
    have HX1 : Hid (X = .ok ([92], i + 1)) := Lib.hid (by simp [HX.out])
    go_enter Tryz.func183, Tryz.ntmps183
    go_wp2_with (first | (go_at_call 160; refine HP.out.mono ?_; rintro e w1 ⟨rfl, d⟩; have R1 := Lib.hid (H.out.dr d); clear d; have c1 := R1.out.1.c1; have z1 := R1.out.1.z 1; have RN := Lib.hid (R1.out.1.at_ (i + 1) ((i : Int) + 1) (by omega))) | (at_builtin; refine wpList_append_own _ rfl _ _ 26 rfl B 5 i0 (.int .u8 0) 1 1 Tryz.underlying26 hi0 hz0 hz1 hz2 rfl (by decide) vo l.length (l.map (Value.int .u8)) rfl ((HO.out.fr (R1.out.2.trans RN.out.2) HP0.out HV.out).alloc _).1 ⟨w1.heap.size, 0, none⟩ 1 1 [.int .u8 92] rfl rfl (cell_news2 _ _ _ _ rfl (by simp)) (by intro u hu; simp at hu; subst hu; rfl) (by unfold maxLen; omega) (by omega) ((HO.out.fr (R1.out.2.trans RN.out.2) HP0.out HV.out).alloc _).2 ?_; intro v' w3 ho hg _))
    go_ret
    rw [HX1.out]
    obtain ⟨e1, e2, e3⟩ := es_end (m := [92]) ho rfl (HO.out.fr (R1.out.2.trans RN.out.2) HP0.out HV.out) hg RN.out.1 (R1.out.2.trans RN.out.2) HB.out HP0.out HV.out
    exact ⟨v', rfl, e1, e2, e3⟩
  by_cases k47 : b = 47
  · subst k47
    have HX1 : Hid (X = .ok ([47], i + 1)) := Lib.hid (by simp [HX.out])
    go_enter Tryz.func183, Tryz.ntmps183
    go_wp2_with (first | (go_at_call 160; refine HP.out.mono ?_; rintro e w1 ⟨rfl, d⟩; have R1 := Lib.hid (H.out.dr d); clear d; have c1 := R1.out.1.c1; have z1 := R1.out.1.z 1; have RN := Lib.hid (R1.out.1.at_ (i + 1) ((i : Int) + 1) (by omega))) | (at_builtin; refine wpList_append_own _ rfl _ _ 26 rfl B 5 i0 (.int .u8 0) 1 1 Tryz.underlying26 hi0 hz0 hz1 hz2 rfl (by decide) vo l.length (l.map (Value.int .u8)) rfl ((HO.out.fr (R1.out.2.trans RN.out.2) HP0.out HV.out).alloc _).1 ⟨w1.heap.size, 0, none⟩ 1 1 [.int .u8 47] rfl rfl (cell_news2 _ _ _ _ rfl (by simp)) (by intro u hu; simp at hu; subst hu; rfl) (by unfold maxLen; omega) (by omega) ((HO.out.fr (R1.out.2.trans RN.out.2) HP0.out HV.out).alloc _).2 ?_; intro v' w3 ho hg _))
    go_ret
    rw [HX1.out]
    obtain ⟨e1, e2, e3⟩ := es_end (m := [47]) ho rfl (HO.out.fr (R1.out.2.trans RN.out.2) HP0.out HV.out) hg RN.out.1 (R1.out.2.trans RN.out.2) HB.out HP0.out HV.out
    exact ⟨v', rfl, e1, e2, e3⟩
  by_cases k98 : b = 98
  · subst k98
    have HX1 : Hid (X = .ok ([8], i + 1)) := Lib.hid (by simp [HX.out])
    go_enter Tryz.func183, Tryz.ntmps183
    go_wp2_with (first | (go_at_call 160; refine HP.out.mono ?_; rintro e w1 ⟨rfl, d⟩; have R1 := Lib.hid (H.out.dr d); clear d; have c1 := R1.out.1.c1; have z1 := R1.out.1.z 1; have RN := Lib.hid (R1.out.1.at_ (i + 1) ((i : Int) + 1) (by omega))) | (at_builtin; refine wpList_append_own _ rfl _ _ 26 rfl B 5 i0 (.int .u8 0) 1 1 Tryz.underlying26 hi0 hz0 hz1 hz2 rfl (by decide) vo l.length (l.map (Value.int .u8)) rfl ((HO.out.fr (R1.out.2.trans RN.out.2) HP0.out HV.out).alloc _).1 ⟨w1.heap.size, 0, none⟩ 1 1 [.int .u8 8] rfl rfl (cell_news2 _ _ _ _ rfl (by simp)) (by intro u hu; simp at hu; subst hu; rfl) (by unfold maxLen; omega) (by omega) ((HO.out.fr (R1.out.2.trans RN.out.2) HP0.out HV.out).alloc _).2 ?_; intro v' w3 ho hg _))
    go_ret
    rw [HX1.out]
    obtain ⟨e1, e2, e3⟩ := es_end (m := [8]) ho rfl (HO.out.fr (R1.out.2.trans RN.out.2) HP0.out HV.out) hg RN.out.1 (R1.out.2.trans RN.out.2) HB.out HP0.out HV.out
    exact ⟨v', rfl, e1, e2, e3⟩
  by_cases k102 : b = 102
  · subst k102
    have HX1 : Hid (X = .ok ([12], i + 1)) := Lib.hid (by simp [HX.out])
    go_enter Tryz.func183, Tryz.ntmps183
    go_wp2_with (first | (go_at_call 160; refine HP.out.mono ?_; rintro e w1 ⟨rfl, d⟩; have R1 := Lib.hid (H.out.dr d); clear d; have c1 := R1.out.1.c1; have z1 := R1.out.1.z 1; have RN := Lib.hid (R1.out.1.at_ (i + 1) ((i : Int) + 1) (by omega))) | (at_builtin; refine wpList_append_own _ rfl _ _ 26 rfl B 5 i0 (.int .u8 0) 1 1 Tryz.underlying26 hi0 hz0 hz1 hz2 rfl (by decide) vo l.length (l.map (Value.int .u8)) rfl ((HO.out.fr (R1.out.2.trans RN.out.2) HP0.out HV.out).alloc _).1 ⟨w1.heap.size, 0, none⟩ 1 1 [.int .u8 12] rfl rfl (cell_news2 _ _ _ _ rfl (by simp)) (by intro u hu; simp at hu; subst hu; rfl) (by unfold maxLen; omega) (by omega) ((HO.out.fr (R1.out.2.trans RN.out.2) HP0.out HV.out).alloc _).2 ?_; intro v' w3 ho hg _))
    go_ret
    rw [HX1.out]
    obtain ⟨e1, e2, e3⟩ := es_end (m := [12]) ho rfl (HO.out.fr (R1.out.2.trans RN.out.2) HP0.out HV.out) hg RN.out.1 (R1.out.2.trans RN.out.2) HB.out HP0.out HV.out
    exact ⟨v', rfl, e1, e2, e3⟩
  by_cases k110 : b = 110
  · subst k110
    have HX1 : Hid (X = .ok ([10], i + 1)) := Lib.hid (by simp [HX.out])
    go_enter Tryz.func183, Tryz.ntmps183
    go_wp2_with (first | (go_at_call 160; refine HP.out.mono ?_; rintro e w1 ⟨rfl, d⟩; have R1 := Lib.hid (H.out.dr d); clear d; have c1 := R1.out.1.c1; have z1 := R1.out.1.z 1; have RN := Lib.hid (R1.out.1.at_ (i + 1) ((i : Int) + 1) (by omega))) | (at_builtin; refine wpList_append_own _ rfl _ _ 26 rfl B 5 i0 (.int .u8 0) 1 1 Tryz.underlying26 hi0 hz0 hz1 hz2 rfl (by decide) vo l.length (l.map (Value.int .u8)) rfl ((HO.out.fr (R1.out.2.trans RN.out.2) HP0.out HV.out).alloc _).1 ⟨w1.heap.size, 0, none⟩ 1 1 [.int .u8 10] rfl rfl (cell_news2 _ _ _ _ rfl (by simp)) (by intro u hu; simp at hu; subst hu; rfl) (by unfold maxLen; omega) (by omega) ((HO.out.fr (R1.out.2.trans RN.out.2) HP0.out HV.out).alloc _).2 ?_; intro v' w3 ho hg _))
    go_ret
    rw [HX1.out]
    obtain ⟨e1, e2, e3⟩ := es_end (m := [10]) ho rfl (HO.out.fr (R1.out.2.trans RN.out.2) HP0.out HV.out) hg RN.out.1 (R1.out.2.trans RN.out.2) HB.out HP0.out HV.out
    exact ⟨v', rfl, e1, e2, e3⟩
  by_cases k114 : b = 114
  · subst k114
    have HX1 : Hid (X = .ok ([13], i + 1)) := Lib.hid (by simp [HX.out])
    go_enter Tryz.func183, Tryz.ntmps183
    go_wp2_with (first | (go_at_call 160; refine HP.out.mono ?_; rintro e w1 ⟨rfl, d⟩; have R1 := Lib.hid (H.out.dr d); clear d; have c1 := R1.out.1.c1; have z1 := R1.out.1.z 1; have RN := Lib.hid (R1.out.1.at_ (i + 1) ((i : Int) + 1) (by omega))) | (at_builtin; refine wpList_append_own _ rfl _ _ 26 rfl B 5 i0 (.int .u8 0) 1 1 Tryz.underlying26 hi0 hz0 hz1 hz2 rfl (by decide) vo l.length (l.map (Value.int .u8)) rfl ((HO.out.fr (R1.out.2.trans RN.out.2) HP0.out HV.out).alloc _).1 ⟨w1.heap.size, 0, none⟩ 1 1 [.int .u8 13] rfl rfl (cell_news2 _ _ _ _ rfl (by simp)) (by intro u hu; simp at hu; subst hu; rfl) (by unfold maxLen; omega) (by omega) ((HO.out.fr (R1.out.2.trans RN.out.2) HP0.out HV.out).alloc _).2 ?_; intro v' w3 ho hg _))
    go_ret
    rw [HX1.out]
    obtain ⟨e1, e2, e3⟩ := es_end (m := [13]) ho rfl (HO.out.fr (R1.out.2.trans RN.out.2) HP0.out HV.out) hg RN.out.1 (R1.out.2.trans RN.out.2) HB.out HP0.out HV.out
    exact ⟨v', rfl, e1, e2, e3⟩
  by_cases k116 : b = 116
  · subst k116
    have HX1 : Hid (X = .ok ([9], i + 1)) := Lib.hid (by simp [HX.out])
    go_enter Tryz.func183, Tryz.ntmps183
    go_wp2_with (first | (go_at_call 160; refine HP.out.mono ?_; rintro e w1 ⟨rfl, d⟩; have R1 := Lib.hid (H.out.dr d); clear d; have c1 := R1.out.1.c1; have z1 := R1.out.1.z 1; have RN := Lib.hid (R1.out.1.at_ (i + 1) ((i : Int) + 1) (by omega))) | (at_builtin; refine wpList_append_own _ rfl _ _ 26 rfl B 5 i0 (.int .u8 0) 1 1 Tryz.underlying26 hi0 hz0 hz1 hz2 rfl (by decide) vo l.length (l.map (Value.int .u8)) rfl ((HO.out.fr (R1.out.2.trans RN.out.2) HP0.out HV.out).alloc _).1 ⟨w1.heap.size, 0, none⟩ 1 1 [.int .u8 9] rfl rfl (cell_news2 _ _ _ _ rfl (by simp)) (by intro u hu; simp at hu; subst hu; rfl) (by unfold maxLen; omega) (by omega) ((HO.out.fr (R1.out.2.trans RN.out.2) HP0.out HV.out).alloc _).2 ?_; intro v' w3 ho hg _))
    go_ret
    rw [HX1.out]
    obtain ⟨e1, e2, e3⟩ := es_end (m := [9]) ho rfl (HO.out.fr (R1.out.2.trans RN.out.2) HP0.out HV.out) hg RN.out.1 (R1.out.2.trans RN.out.2) HB.out HP0.out HV.out
    exact ⟨v', rfl, e1, e2, e3⟩
  by_cases k117 : b = 117
  · subst k117
    have HX1 : Hid (X = (pointM s (i + 1)).bind fun x => .ok (enc x.1, x.2)) := Lib.hid (by simp [HX.out])
    cases hy : pointM s (i + 1) with
    | bad m =>
      rw [hy] at HX1 HPT
      have HPT1 : Hid (∀ W, RdB W p s (i + 1) op v L → Calls Tryz.prog 184 #[.pointer (some ⟨p, 0, none⟩)] W fun e w' => e = thr m ∧ Below p W w') := Lib.hid HPT.out
      clear HPT hy
      go_enter Tryz.func183, Tryz.ntmps183
      go_wp2_with (go_at_call 160; refine HP.out.mono ?_; rintro e w1 ⟨rfl, d⟩; have R1 := Lib.hid (H.out.dr d); clear d; have c1 := R1.out.1.c1; have z1 := R1.out.1.z 1; have RN := Lib.hid (R1.out.1.at_ (i + 1) ((i : Int) + 1) (by omega)))
      refine (HPT1.out _ RN.out.1).mono ?_
      rintro e w2 ⟨he, b2⟩
      unfold thr at he
      subst he
      (try go_wp2_with fail)
      simp only [bodyPost]
      rw [HX1.out]
      exact ⟨trivial, rfl, ((R1.out.2.trans RN.out.2).below HF.out (Nat.le_of_lt HLT.out)).trans b2⟩
    | ok y =>
      obtain ⟨q, j⟩ := y
      rw [hy] at HX1 HPT
      have HPT1 : Hid (∀ W, RdB W p s (i + 1) op v L → Calls Tryz.prog 184 #[.pointer (some ⟨p, 0, none⟩)] W fun e w' => e = .returned (.string (mkB (enc q))) ∧ isPt q = true ∧ RdB w' p s j op v L ∧ Fr p v v W w') := Lib.hid HPT.out
      have hel := enc_len q
      have hms : (mkB (enc q)).size = (enc q).length := mkB_size _
      clear HPT hy
      go_enter Tryz.func183, Tryz.ntmps183
      go_wp2_with (go_at_call 160; refine HP.out.mono ?_; rintro e w1 ⟨rfl, d⟩; have R1 := Lib.hid (H.out.dr d); clear d; have c1 := R1.out.1.c1; have z1 := R1.out.1.z 1; have RN := Lib.hid (R1.out.1.at_ (i + 1) ((i : Int) + 1) (by omega)))
      refine (HPT1.out _ RN.out.1).mono ?_
      rintro e w2 ⟨rfl, hq, r2, f2⟩
      have HQ := Lib.hid hq
      have R2 := Lib.hid (And.intro r2 (R1.out.2.trans (RN.out.2.trans f2)))
      have O2 := Lib.hid (HO.out.fr R2.out.2 HP0.out HV.out)
      clear hq r2 f2
      go_wp2_with (at_builtin; refine Lib.wpList_append_own_string _ rfl _ _ 26 9 rfl B 5 i0 Tryz.underlying26 Tryz.underlying9 hi0 hz0 hz1 hz2 vo l.length (l.map (Value.int .u8)) rfl O2.out.1 (mkB (enc q)) rfl (by unfold maxLen; omega) (by omega) O2.out.2 ?_; intro v' w3 ho hg _)
      go_ret
      rw [HX1.out]
      rw [str_cells (fun x hx => enc_range (isPt_range HQ.out).1 (isPt_range HQ.out).2 x hx)] at ho
      obtain ⟨e1, e2, e3⟩ := es_end0 (m := enc q) ho hms O2.out hg R2.out.1 R2.out.2 HB.out HP0.out HV.out
      exact ⟨v', rfl, e1, e2, e3⟩
  · have HX1 : Hid (X = .bad 40) := Lib.hid (by simp [HX.out, k34, k92, k47, k98, k102, k110, k114, k116, k117])
    go_enter Tryz.func183, Tryz.ntmps183
    go_wp2_with (go_at_call 160; refine HP.out.mono ?_; rintro e w1 ⟨rfl, d⟩; have R1 := Lib.hid (H.out.dr d); clear d; have c1 := R1.out.1.c1; have z1 := R1.out.1.z 1; have RN := Lib.hid (R1.out.1.at_ (i + 1) ((i : Int) + 1) (by omega)))
    simp only [bodyPost]
    rw [HX1.out]
    exact ⟨trivial, rfl, (R1.out.2.trans RN.out.2).below HF.out (Nat.le_of_lt HLT.out)⟩
end Go.Proofs.YtmkkckhfdafjnaaGreatDoor

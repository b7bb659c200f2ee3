import Derived.ChangeArms
import Derived.Below
import Derived.WalkKit
import Derived.Outline
import Derived.SizedLaws
import Derived.Laws.BitsLemmas
import Derived.Test.YtmkkckhfdafjnaaGreatDoorProg
import Derived.Deep.LoopGhost
import Derived.Lib.Hide
import Derived.WalkLawsBesides
import Derived.WalkSpells
import Derived.BigQuiet
import Derived.Deep.RegionHeld3
import Derived.Deep.DeepCutAuto
import Derived.Deep.QuietTactic
import Derived.LoopTactic
import Derived.Maps.OwnSet
import Derived.Maps.AppendAt
import Derived.Laws.ResultCell
import Derived.Laws.EntriesVeiled
import Derived.StringKeys
import Derived.IntWalk
import Derived.OwnWalk
import Derived.ArgAppend
import Derived.Laws.StructEq
import Derived.Laws.AppendOwnNone
import Derived.Laws.IdiomStrings
import Derived.Lib.BufferRead
import Derived.Deep.RegionWith
import Derived.Test.YtmkkckhfdafjnaaGreatDoorShelf
import Derived.Laws.Externs
/- Views of what came in, of whatever depth: put together of views of parts. No program in sight. -/
namespace Go.Proofs.YtmkkckhfdafjnaaGreatDoor
open Go.RowKit
/-- How values of a type stand in memory: data, cells, and what they mean. -/
structure Vw : Type 1 where
  D : Type
  size : Nat
  rd : World → D → List Value → Prop
/-- What came in as a value of the type has the view. -/
def Opens (P : Program) (V : Vw) (t : TypeId) : Prop :=
  P.cellsOf t = V.size ∧ ∀ {H : Type} {enc : TypeId × Value → H} {W : World} {base : Nat} {sp : Nat → Bool} {held : Bool} {fuel : Nat} {cs : List Value} {x : DataW H × List MemPlace}, DataW.trod enc P W base sp held fuel t cs = some x → ∃ d, V.rd W d cs
/-! ### Its words, where a walk asks for cells -/
end Go.Proofs.YtmkkckhfdafjnaaGreatDoor
/- Views of what came in, of whatever depth, with what the form says of sizes. No program in sight. Built as V0 is, each view besides with the weights. -/
namespace Go.Proofs.YtmkkckhfdafjnaaGreatDoor
open Go.RowKit
def Lt {H : Type} (P : Program) (t : TypeId) (d : DataW H) : Prop := ∀ n ∈ d.weights P t, n ≤ reachBytes
/-- What came in as a value of the type, no larger than the form says, has the view. -/
def OpensZ (P : Program) (V : Vw) (t : TypeId) : Prop :=
  P.cellsOf t = V.size ∧ ∀ {H : Type} {enc : TypeId × Value → H} {W : World} {base : Nat} {sp : Nat → Bool} {held : Bool} {fuel : Nat} {cs : List Value} {x : DataW H × List MemPlace}, DataW.trod enc P W base sp held fuel t cs = some x → Lt P t x.1 → ∃ d, V.rd W d cs
theorem Opens.z {P : Program} {V : Vw} {t : TypeId} (h : Opens P V t) : OpensZ P V t := ⟨h.1, fun hx _ => h.2 hx⟩
end Go.Proofs.YtmkkckhfdafjnaaGreatDoor
/- Plain facts of texts: what code point begins at a byte, whether bytes are a text (as in layer 1). -/
namespace Go.Proofs.YtmkkckhfdafjnaaGreatDoor
open Go.RowKit
/-- The byte at a place; 0 behind the end. -/
def byt (s : ByteArray) (i : Nat) : Int := if h : i < s.size then (s[i].toNat : Int) else 0
theorem byt_range (s : ByteArray) (i : Nat) : 0 ≤ byt s i ∧ byt s i < 256 := by
  unfold byt; split
  · have := UInt8.toNat_lt s[i]; omega
  · omega
theorem byt_eq (s : ByteArray) (i : Nat) (h : i < s.size) : (s[i].toNat : Int) = byt s i := by simp [byt, h]

/-- Is a number a code point? -/
def isPt (p : Int) : Bool := decide (0 ≤ p ∧ p ≤ 1114111 ∧ (p < 55296 ∨ 57343 < p))
/-- How many bytes a code point has. -/
def szOf (p : Int) : Int := if p < 128 then 1 else if p < 2048 then 2 else if p < 65536 then 3 else 4
/-- What a first byte asks for. -/
def leadN (b : Int) : Nat := if b < 128 then 1 else if b < 192 then 0 else if b < 224 then 2 else if b < 240 then 3 else if b < 248 then 4 else 0
def leadB (b : Int) : Int := if b < 128 then b else if b < 192 then 0 else if b < 224 then b % 32 else if b < 240 then b % 16 else if b < 248 then b % 8 else 0
/-- The number behind k bytes more. -/
def acc (s : ByteArray) (a : Nat) (p : Int) : Nat → Int
  | 0 => p
  | k + 1 => acc s a p k * 64 + byt s (a + k) % 64
/-- Are the next k bytes continuing ones? -/
def conts (s : ByteArray) (a : Nat) : Nat → Bool
  | 0 => true
  | k + 1 => conts s a k && decide (a + k < s.size ∧ 128 ≤ byt s (a + k) ∧ byt s (a + k) < 192)
/-- Is there a code point at a place? -/
def decIs (s : ByteArray) (a : Nat) : Bool :=
  decide (leadN (byt s a) ≠ 0) && conts s (a + 1) (leadN (byt s a) - 1) && isPt (acc s (a + 1) (leadB (byt s a)) (leadN (byt s a) - 1)) && decide (szOf (acc s (a + 1) (leadB (byt s a)) (leadN (byt s a) - 1)) = leadN (byt s a))
/-- Its size; 0: none. -/
def decN (s : ByteArray) (a : Nat) : Int := if decIs s a then (leadN (byt s a) : Int) else 0
/-- The code point at a place. -/
def decP (s : ByteArray) (a : Nat) : Int := if decIs s a then acc s (a + 1) (leadB (byt s a)) (leadN (byt s a) - 1) else 0

theorem leadN_le (b : Int) : leadN b ≤ 4 := by unfold leadN; (repeat' split) <;> omega
theorem leadB_range (b : Int) (h0 : 0 ≤ b) (h : b < 256) : 0 ≤ leadB b ∧ leadB b < 128 := by unfold leadB; (repeat' split) <;> omega
theorem acc_range (s : ByteArray) (a : Nat) (p : Int) (h0 : 0 ≤ p) (h1 : p < 128) : ∀ k, k ≤ 3 → 0 ≤ acc s a p k ∧ acc s a p k < 33554432 := by
  intro k hk
  match k, hk with
  | 0, _ => simp [acc]; omega
  | 1, _ => simp only [acc]; omega
  | 2, _ => simp only [acc]; omega
  | 3, _ => simp only [acc]; omega

theorem wraps_i64 (n : Int) (h₀ : 0 ≤ n) (h₁ : n < 2 ^ 63) : IntKind.i64.wrap n = n := by rw [IntKind.wrap_i64]; omega
theorem and31 (x : Int) (h0 : 0 ≤ x) (h1 : x < 256) : bits .and .i64 x 31 = x % 32 := bits_mask .i64 63 (by decide) wraps_i64 5 (by decide) x h0 (by omega)
theorem and15 (x : Int) (h0 : 0 ≤ x) (h1 : x < 256) : bits .and .i64 x 15 = x % 16 := bits_mask .i64 63 (by decide) wraps_i64 4 (by decide) x h0 (by omega)
theorem and7 (x : Int) (h0 : 0 ≤ x) (h1 : x < 256) : bits .and .i64 x 7 = x % 8 := bits_mask .i64 63 (by decide) wraps_i64 3 (by decide) x h0 (by omega)
theorem and63 (x : Int) (h0 : 0 ≤ x) (h1 : x < 2 ^ 63) : bits .and .i64 x 63 = x % 64 := bits_mask .i64 63 (by decide) wraps_i64 6 (by decide) x h0 h1
theorem or6 (x y : Int) (h0 : 0 ≤ x) (h1 : x < 2 ^ 57) (h2 : 0 ≤ y) (h3 : y < 64) : bits .or .i64 (x * 64) y = x * 64 + y :=
  bits_join .i64 63 (by decide) wraps_i64 6 (x * 64) y (by omega) (by omega) (by omega) h2 h3 (by omega)
/-- b & 192 is 128 just for continuing bytes. -/
theorem and192_cont : ∀ b : Nat, b < 256 → ((b &&& 192 = 128) ↔ (128 ≤ b ∧ b < 192)) := by decide +kernel
theorem cont_test (x : Int) (h0 : 0 ≤ x) (h : x < 256) : (bits .and .i64 x 192 != 128) = !decide (128 ≤ x ∧ x < 192) := by
  obtain ⟨b, rfl⟩ := Int.eq_ofNat_of_zero_le h0
  have e : bits .and .i64 (b : Int) 192 = ((b &&& 192 : Nat) : Int) := (bits_nat .i64 63 (by decide) wraps_i64 b 192 (by omega) (by omega)).1
  rw [e]
  have := and192_cont b (by omega)
  by_cases hc : 128 ≤ b ∧ b < 192
  · have e := this.2 hc
    rw [e]; simp; omega
  · have e : ¬ (b &&& 192 = 128) := fun h => hc (this.1 h)
    have d : decide (128 ≤ (b : Int) ∧ (b : Int) < 192) = false := by simp; omega
    rw [d]
    simp only [Bool.not_false, bne_iff_ne, ne_eq]
    omega

theorem size_cut (s : ByteArray) (e : Nat) (h : e ≤ s.size) : (s.extract 0 e).size = e := by simp; omega
theorem byt_cut (s : ByteArray) (e i : Nat) (h : e ≤ s.size) (hi : i < e) : byt (s.extract 0 e) i = byt s i := by
  have hs := size_cut s e h
  unfold byt
  rw [dif_pos (by omega), dif_pos (by omega)]
  simp [ByteArray.getElem_extract]
theorem conts_size (s : ByteArray) (a : Nat) : ∀ k, 0 < k → conts s a k = true → a + k ≤ s.size := by
  intro k hk h
  match k, hk with
  | k + 1, _ =>
    simp only [conts, Bool.and_eq_true, decide_eq_true_eq] at h
    omega
theorem conts_cut (s : ByteArray) (e a : Nat) (h : e ≤ s.size) : ∀ k, a + k ≤ e → conts (s.extract 0 e) a k = conts s a k := by
  intro k
  induction k with
  | zero => intro _; rfl
  | succ k ih =>
    intro hk
    simp only [conts]
    rw [ih (by omega), byt_cut s e (a + k) h (by omega), size_cut s e h]
    congr 1
    rw [Bool.eq_iff_iff]; simp only [decide_eq_true_eq]; omega
theorem acc_cut (s : ByteArray) (e a : Nat) (p : Int) (h : e ≤ s.size) : ∀ k, a + k ≤ e → acc (s.extract 0 e) a p k = acc s a p k := by
  intro k
  induction k with
  | zero => intro _; rfl
  | succ k ih =>
    intro hk
    simp only [acc]
    rw [ih (by omega), byt_cut s e (a + k) h (by omega)]
theorem decIs_lead {s : ByteArray} {a : Nat} (h : decIs s a = true) : leadN (byt s a) ≠ 0 ∧ conts s (a + 1) (leadN (byt s a) - 1) = true := by
  simp only [decIs, Bool.and_eq_true, decide_eq_true_eq] at h
  exact ⟨h.1.1.1, h.1.1.2⟩
/-- It lies in the text. -/
theorem dec_in {s : ByteArray} {a : Nat} (ha : a < s.size) (h : decIs s a = true) : a + leadN (byt s a) ≤ s.size := by
  have h1 := (decIs_lead h).1
  have h2 := (decIs_lead h).2
  by_cases e : leadN (byt s a) = 1
  · omega
  · have := conts_size s (a + 1) _ (by omega) h2
    omega
theorem dec_cut {s : ByteArray} {a e : Nat} (h : e ≤ s.size) (ha : a + leadN (byt s a) ≤ e) (h0 : leadN (byt s a) ≠ 0) : decIs (s.extract 0 e) a = decIs s a := by
  unfold decIs
  rw [byt_cut s e a h (by omega), conts_cut s e (a + 1) h _ (by omega), acc_cut s e (a + 1) _ h _ (by omega)]
theorem decN_eq (s : ByteArray) (a : Nat) : (decIs s a = true ∧ decN s a = leadN (byt s a) ∧ leadN (byt s a) ≠ 0) ∨ (decIs s a = false ∧ decN s a = 0 ∧ decP s a = 0) := by
  cases h : decIs s a
  · exact .inr ⟨rfl, by simp [decN, h], by simp [decP, h]⟩
  · exact .inl ⟨rfl, by simp [decN, h], (decIs_lead h).1⟩
/-- Are the bytes from a place on a text? -/
def txF (s : ByteArray) : Nat → Nat → Bool
  | 0, _ => true
  | f + 1, a => if a < s.size then decIs s a && txF s f (a + leadN (byt s a)) else true
def isTx (s : ByteArray) : Bool := txF s s.size 0
theorem txF_step {s : ByteArray} {f a : Nat} (h : a < s.size) (hf : s.size - a ≤ f) : txF s f a = (decIs s a && txF s (f - 1) (a + leadN (byt s a))) := by
  match f, hf with
  | 0, hf => exact absurd hf (by omega)
  | f + 1, _ => simp only [txF]; rw [if_pos h]; rfl
theorem txF_end {s : ByteArray} {f a : Nat} (h : s.size ≤ a) : txF s f a = true := by
  match f with
  | 0 => rfl
  | f + 1 => simp only [txF]; rw [if_neg (by omega)]
/-- What Check tells. -/
def ckE (s : ByteArray) : Int := if 16384 < s.size then 4 else if isTx s then 0 else 10
end Go.Proofs.YtmkkckhfdafjnaaGreatDoor
namespace Go.Proofs.YtmkkckhfdafjnaaGreatDoor
open Go.RowKit
theorem ret2 {k l : IntKind} {a b c d : Int} (h : a = b) (g : c = d) : Ending.returned (.tuple #[.int k a, .int l c]) = .returned (.tuple #[.int k b, .int l d]) := by rw [h, g]
theorem ret_int {k : IntKind} {a b : Int} (h : a = b) : Ending.returned (.int k a) = .returned (.int k b) := by rw [h]
theorem ret_bool {a b : Bool} (h : a = b) : Ending.returned (.bool a) = .returned (.bool b) := by rw [h]
theorem ret_ib {a b : Int} {c d : Bool} (h : a = b) (g : c = d) : Ending.returned (.tuple #[.int .i64 a, .bool c]) = .returned (.tuple #[.int .i64 b, .bool d]) := by rw [h, g]

theorem lead_any (b : Int) (w : World) (h0 : 0 ≤ b) (hb : b < 256) :
    Calls Tryz.prog 71 #[.int .i64 b] w fun e w' => e = .returned (.tuple #[.int .i64 (leadN b), .int .i64 (leadB b)]) ∧ w = w' := by
  by_cases h1 : b < 128
  · go_enter Tryz.func71, Tryz.ntmps71
    go_wp2
    go_ret2
    exact ⟨ret2 (by unfold leadN; rw [if_pos (by omega)]; rfl) (by unfold leadB; rw [if_pos (by omega)]), rfl⟩
  by_cases h2 : b < 192
  · go_enter Tryz.func71, Tryz.ntmps71
    go_wp2
    go_ret2
    exact ⟨ret2 (by unfold leadN; rw [if_neg (by omega)]; rw [if_pos (by omega)]; rfl) (by unfold leadB; rw [if_neg (by omega)]; rw [if_pos (by omega)]), rfl⟩
  by_cases h3 : b < 224
  · go_enter Tryz.func71, Tryz.ntmps71
    go_wp2
    go_ret2
    exact ⟨ret2 (by unfold leadN; rw [if_neg (by omega)]; rw [if_neg (by omega)]; rw [if_pos (by omega)]; rfl) (by rw [and31 _ (by omega) (by omega)]; unfold leadB; rw [if_neg (by omega)]; rw [if_neg (by omega)]; rw [if_pos (by omega)]), rfl⟩
  by_cases h4 : b < 240
  · go_enter Tryz.func71, Tryz.ntmps71
    go_wp2
    go_ret2
    exact ⟨ret2 (by unfold leadN; rw [if_neg (by omega)]; rw [if_neg (by omega)]; rw [if_neg (by omega)]; rw [if_pos (by omega)]; rfl) (by rw [and15 _ (by omega) (by omega)]; unfold leadB; rw [if_neg (by omega)]; rw [if_neg (by omega)]; rw [if_neg (by omega)]; rw [if_pos (by omega)]), rfl⟩
  by_cases h5 : b < 248
  · go_enter Tryz.func71, Tryz.ntmps71
    go_wp2
    go_ret2
    exact ⟨ret2 (by unfold leadN; rw [if_neg (by omega)]; rw [if_neg (by omega)]; rw [if_neg (by omega)]; rw [if_neg (by omega)]; rw [if_pos (by omega)]; rfl) (by rw [and7 _ (by omega) (by omega)]; unfold leadB; rw [if_neg (by omega)]; rw [if_neg (by omega)]; rw [if_neg (by omega)]; rw [if_neg (by omega)]; rw [if_pos (by omega)]), rfl⟩
  · go_enter Tryz.func71, Tryz.ntmps71
    go_wp2
    go_ret2
    exact ⟨ret2 (by unfold leadN; rw [if_neg (by omega), if_neg (by omega), if_neg (by omega), if_neg (by omega), if_neg (by omega)]; rfl) (by unfold leadB; rw [if_neg (by omega), if_neg (by omega), if_neg (by omega), if_neg (by omega), if_neg (by omega)]), rfl⟩

theorem isPoint_any (p : Int) (w : World) :
    Calls Tryz.prog 72 #[.int .i64 p] w fun e w' => e = .returned (.bool (isPt p)) ∧ w = w' := by
  go_enter Tryz.func72, Tryz.ntmps72
  go_wp2
  all_goals
    go_ret
    refine ⟨ret_bool ?_, rfl⟩
    unfold isPt
    rw [Bool.eq_iff_iff]
    simp only [Bool.or_eq_true, decide_eq_true_eq, true_iff, Bool.false_eq_true, false_iff]
    omega
theorem sizeOf_any (p : Int) (w : World) :
    Calls Tryz.prog 73 #[.int .i64 p] w fun e w' => e = .returned (.int .i64 (szOf p)) ∧ w = w' := by
  by_cases h1 : p < 128
  · go_enter Tryz.func73, Tryz.ntmps73
    go_wp2
    go_ret
    exact ⟨ret_int (by unfold szOf; rw [if_pos h1]), rfl⟩
  by_cases h2 : p < 2048
  · go_enter Tryz.func73, Tryz.ntmps73
    go_wp2
    go_ret
    exact ⟨ret_int (by unfold szOf; rw [if_neg (by omega), if_pos h2]), rfl⟩
  by_cases h3 : p < 65536
  · go_enter Tryz.func73, Tryz.ntmps73
    go_wp2
    go_ret
    exact ⟨ret_int (by unfold szOf; rw [if_neg (by omega), if_neg (by omega), if_pos h3]), rfl⟩
  · go_enter Tryz.func73, Tryz.ntmps73
    go_wp2
    go_ret
    exact ⟨ret_int (by unfold szOf; rw [if_neg (by omega), if_neg (by omega), if_neg (by omega)]), rfl⟩

theorem next_yes (s : ByteArray) (i : Nat) (v : Int) (w : World) (pa ps : Addr) (hv : v = i) (ha : w.cell? pa = some (.int .i64 v)) (hs : w.cell? ps = some (.string s)) (hf : w.frozen? pa = false) (hlt : i < s.size) (hm : s.size ≤ maxLen) :
    Calls Tryz.prog 85 #[.pointer (some pa), .pointer (some ps)] w fun e w' => e = .returned (.tuple #[.int .i64 (byt s i), .bool true]) ∧ w.setCell pa (.int .i64 (v + 1)) = w' := by
  subst hv
  unfold maxLen at hm
  go_enter Tryz.func85, Tryz.ntmps85
  go_wp2
  go_ret2
  exact ⟨ret_ib (by rw [byt_eq]; have := byt_range s i; unfold wrap64; omega) rfl, rfl⟩
theorem next_no (s : ByteArray) (i : Nat) (v : Int) (w : World) (pa ps : Addr) (hv : v = i) (ha : w.cell? pa = some (.int .i64 v)) (hs : w.cell? ps = some (.string s)) (hlt : s.size ≤ i) :
    Calls Tryz.prog 85 #[.pointer (some pa), .pointer (some ps)] w fun e w' => e = .returned (.tuple #[.int .i64 0, .bool false]) ∧ w = w' := by
  subst hv
  go_enter Tryz.func85, Tryz.ntmps85
  go_wp2
  go_ret2
  exact ⟨rfl, rfl⟩
theorem walk_any (s : ByteArray) (i : Nat) (w : World) :
    Calls Tryz.prog 70 #[.string s, .int .i64 i] w fun e w' => e = .returned (.func (.func 85) #[] #[.pointer (some ⟨w.heap.size + 1, 0, none⟩), .pointer (some ⟨w.heap.size, 0, none⟩)]) ∧ (w.alloc (.cells #[.string s] 9)).alloc (.cells #[.int .i64 i] 3) = w' := by
  go_enter Tryz.func70, Tryz.ntmps70
  go_wp2
  go_ret
  exact ⟨rfl, rfl⟩

/-- A step of the loop: the new number, as the walk has it. -/
theorem acc_step (s : ByteArray) (a : Nat) (p : Int) (k : Nat) (h0 : 0 ≤ acc s a p k) (h1 : acc s a p k < 33554432) :
    bits .or .i64 (acc s a p k * 64) (bits .and .i64 (byt s (a + k)) 63) = acc s a p (k + 1) := by
  have hb := byt_range s (a + k)
  rw [and63 _ hb.1 (by omega), or6 _ _ h0 (by omega) (by omega) (by omega)]
  rfl
theorem dec_no {s : ByteArray} {a : Nat} (h : decIs s a = false) : decP s a = 0 ∧ decN s a = 0 := by simp [decP, decN, h]
theorem dec_yes {s : ByteArray} {a : Nat} (h : decIs s a = true) : decP s a = acc s (a + 1) (leadB (byt s a)) (leadN (byt s a) - 1) ∧ decN s a = leadN (byt s a) := by simp [decP, decN, h]
theorem conts_mono (s : ByteArray) (a : Nat) : ∀ k j, j ≤ k → conts s a k = true → conts s a j = true := by
  intro k
  induction k with
  | zero => intro j hj h; rw [Nat.le_zero.1 hj]; exact h
  | succ k ih =>
    intro j hj h
    by_cases e : j = k + 1
    · rw [e]; exact h
    · simp only [conts, Bool.and_eq_true] at h
      exact ih j (by omega) h.1
/-- A byte among the continuing ones that continues nothing: none begins. -/
theorem dec_bad {s : ByteArray} {a j : Nat} (hj : j + 1 < leadN (byt s a)) (h : ¬ (a + 1 + j < s.size ∧ 128 ≤ byt s (a + 1 + j) ∧ byt s (a + 1 + j) < 192)) : decIs s a = false := by
  by_cases hc : conts s (a + 1) (leadN (byt s a) - 1) = true
  · have := conts_mono s (a + 1) _ (j + 1) (by omega) hc
    simp only [conts, Bool.and_eq_true, decide_eq_true_eq] at this
    exact absurd this.2 h
  · simp [decIs, hc]

set_option maxHeartbeats 1000000 in
theorem decode_any (s : ByteArray) (a : Nat) (w : World) (hs : s.size ≤ maxLen) (ha : a < s.size) :
    Calls Tryz.prog 46 #[.string s, .int .i64 a] w fun e w' => e = .returned (.tuple #[.int .i64 (decP s a), .int .i64 (decN s a)]) ∧ Below w.heap.size w w' := by
  have hm := hs
  unfold maxLen at hm
  have hb := byt_range s a
  have hL := leadN_le (byt s a)
  have hB := leadB_range (byt s a) hb.1 hb.2
  obtain ⟨n, hn⟩ : ∃ n, n = leadN (byt s a) := ⟨_, rfl⟩
  obtain ⟨q, hq⟩ : ∃ q, q = leadB (byt s a) := ⟨_, rfl⟩
  have Hn := Lib.hid hn
  have Hq := Lib.hid hq
  have hrng := Lib.hid (acc_range s (a + 1) (leadB (byt s a)) hB.1 hB.2)
  clear hB
  rw [← hn] at hL
  have hbad : ∀ j, j + 1 < n → ¬ (a + 1 + j < s.size ∧ 128 ≤ byt s (a + 1 + j) ∧ byt s (a + 1 + j) < 192) → decIs s a = false := fun j h1 h2 => dec_bad (by rw [← hn]; exact h1) h2
  have Hbad := Lib.hid hbad
  clear hn hq hbad
  go_enter Tryz.func46, Tryz.ntmps46
  go_wp2_with fail
  refine (walk_any s a _).mono ?_
  rintro e w' ⟨rfl, rfl⟩
  go_wp2_with fail
  refine (next_yes s a _ _ ⟨w.heap.size + 1, 0, none⟩ ⟨w.heap.size, 0, none⟩ rfl (by simp) (by simp) (by simp) ha hs).mono ?_
  rintro e w' ⟨rfl, rfl⟩
  go_wp2_with fail
  refine (lead_any _ _ hb.1 hb.2).mono ?_
  rintro e w' ⟨rfl, rfl⟩
  rw [← Hn.out, ← Hq.out]
  go_wp2_with fail
  go_loopw [4, 5, 9] (fun p z i wr => ∃ j : Nat, j ≤ n - 1 ∧ z = .int .i64 n ∧ i = .int .i64 ((j : Int) + 1) ∧ p = .int .i64 (acc s (a + 1) q j) ∧ conts s (a + 1) j = true ∧ wr = (w.alloc (.cells #[.string s] 9)).alloc (.cells #[.int .i64 ((a : Int) + 1 + j)] 3)) (fun _ _ i _ => 5 - (intOf i).toNat)
  case atStart => exact ⟨0, by omega, rfl, rfl, rfl, rfl, by simp⟩
  case round =>
    obtain ⟨j, hj, rfl, rfl, rfl, hc, rfl⟩ := hrel
    have Hc := Lib.hid hc
    clear hc
    by_cases hlt : j + 1 < n
    · by_cases hin : a + 1 + j < s.size
      · have hbj := byt_range s (a + 1 + j)
        go_wp2_with fail
        refine (next_yes s (a + 1 + j) ((a : Int) + 1 + j) _ ⟨w.heap.size + 1, 0, none⟩ ⟨w.heap.size, 0, none⟩ (by omega) (by simp) (by simp) (by simp) hin hs).mono ?_
        rintro e w' ⟨rfl, rfl⟩
        have ht := cont_test _ hbj.1 hbj.2
        by_cases hcc : 128 ≤ byt s (a + 1 + j) ∧ byt s (a + 1 + j) < 192
        · rw [decide_eq_true hcc] at ht
          simp only [Bool.not_true] at ht
          have Hcc := Lib.hid hcc
          clear hcc
          have hr := (hrng.out j (by omega))
          rw [← Hq.out] at hr
          have hr0 := hr.1
          have hr1 := hr.2
          clear hr
          have hst := Lib.hid (acc_step s (a + 1) q j hr0 hr1)
          go_wp2_with fail
          go_roundw
          case rel =>
            refine ⟨j + 1, by omega, rfl, by go_num, ?_, ?_, ?_⟩
            · rw [← hst.out]
            · simp only [conts, Hc.out, Bool.true_and, decide_eq_true_eq]; exact ⟨hin, Hcc.out⟩
            · rw [show ((a : Int) + 1 + ((j + 1 : Nat) : Int)) = (a : Int) + 1 + j + 1 from by omega]
          case measure => simp [intOf]; omega
        · rw [decide_eq_false hcc] at ht
          simp only [Bool.not_false] at ht
          have hz := Hbad.out j hlt (fun h => hcc ⟨h.2.1, h.2.2⟩)
          have Hz := Lib.hid (dec_no hz)
          clear hz hcc
          go_wp2_with fail
          go_ret2
          exact ⟨ret2 Hz.out.1.symm Hz.out.2.symm, ((Below.refl _ _).alloc (Nat.le_refl _) _).alloc (by simp) _⟩
      · have hz := Hbad.out j hlt (fun h => hin h.1)
        have Hz := Lib.hid (dec_no hz)
        clear hz
        go_wp2_with fail
        refine (next_no s (a + 1 + j) ((a : Int) + 1 + j) _ ⟨w.heap.size + 1, 0, none⟩ ⟨w.heap.size, 0, none⟩ (by omega) (by simp) (by simp) (by omega)).mono ?_
        rintro e w' ⟨rfl, rfl⟩
        go_wp2_with fail
        go_ret2
        exact ⟨ret2 Hz.out.1.symm Hz.out.2.symm, ((Below.refl _ _).alloc (Nat.le_refl _) _).alloc (by simp) _⟩
    · by_cases hn0 : n = 0
      · subst hn0
        have hz : decIs s a = false := by unfold decIs; rw [← Hn.out]; rfl
        have Hz := Lib.hid (dec_no hz)
        clear hz
        go_wp2_with fail
        go_ret2
        exact ⟨ret2 Hz.out.1.symm Hz.out.2.symm, ((Below.refl _ _).alloc (Nat.le_refl _) _).alloc (by simp) _⟩
      · have ej : j = n - 1 := by omega
        have hd : decIs s a = (isPt (acc s (a + 1) q j) && decide (szOf (acc s (a + 1) q j) = (n : Int))) := by
          unfold decIs
          rw [← Hn.out, ← Hq.out, ← ej, Hc.out]
          simp [hn0]
        have HD := Lib.hid hd
        have EJ := Lib.hid ej
        have z0 : ((n : Int) == 0) = false := by simp; omega
        clear hd ej
        cases hp : isPt (acc s (a + 1) q j)
        · have HP := Lib.hid hp
          have Hz := Lib.hid (dec_no (s := s) (a := a) (by rw [HD.out, hp]; rfl))
          clear hp
          go_wp2_with fail
          refine (isPoint_any _ _).mono ?_
          rintro e w' ⟨rfl, rfl⟩
          rw [HP.out]
          go_wp2_with fail
          go_ret2
          exact ⟨ret2 Hz.out.1.symm Hz.out.2.symm, ((Below.refl _ _).alloc (Nat.le_refl _) _).alloc (by simp) _⟩
        · by_cases hsz : szOf (acc s (a + 1) q j) = (n : Int)
          · have HP := Lib.hid hp
            have Hy := Lib.hid (dec_yes (s := s) (a := a) (by rw [HD.out, hp, hsz]; simp))
            have hsz2 : (szOf (acc s (a + 1) q j) != (n : Int)) = false := by simp [hsz]
            clear hp hsz
            go_wp2_with fail
            refine (isPoint_any _ _).mono ?_
            rintro e w' ⟨rfl, rfl⟩
            rw [HP.out]
            go_wp2_with fail
            refine (sizeOf_any _ _).mono ?_
            rintro e w' ⟨rfl, rfl⟩
            go_wp2_with fail
            go_ret2
            exact ⟨ret2 (by rw [Hy.out.1, ← Hn.out, ← Hq.out, ← EJ.out]) (by rw [Hy.out.2, ← Hn.out]), ((Below.refl _ _).alloc (Nat.le_refl _) _).alloc (by simp) _⟩
          · have HP := Lib.hid hp
            have Hz := Lib.hid (dec_no (s := s) (a := a) (by rw [HD.out, hp]; simp [hsz]))
            have hsz2 : (szOf (acc s (a + 1) q j) != (n : Int)) = true := by simp [hsz]
            clear hp hsz
            go_wp2_with fail
            refine (isPoint_any _ _).mono ?_
            rintro e w' ⟨rfl, rfl⟩
            rw [HP.out]
            go_wp2_with fail
            refine (sizeOf_any _ _).mono ?_
            rintro e w' ⟨rfl, rfl⟩
            go_wp2_with fail
            go_ret2
            exact ⟨ret2 Hz.out.1.symm Hz.out.2.symm, ((Below.refl _ _).alloc (Nat.le_refl _) _).alloc (by simp) _⟩
theorem check_any (s : ByteArray) (w : World) (hs : s.size ≤ maxLen) :
    Calls Tryz.prog 27 #[.string s] w fun e w' => e = .returned (.int .i64 (ckE s)) ∧ Below w.heap.size w w' := by
  have hm := hs
  unfold maxLen at hm
  by_cases hbig : 16384 < s.size
  · have hc := Lib.hid (show ckE s = 4 by unfold ckE; rw [if_pos hbig])
    go_enter Tryz.func27, Tryz.ntmps27
    go_wp2_with fail
    go_ret
    exact ⟨ret_int hc.out.symm, Below.refl _ _⟩
  · have hc := Lib.hid (show ckE s = if isTx s then 0 else 10 by unfold ckE; rw [if_neg hbig])
    go_enter Tryz.func27, Tryz.ntmps27
    go_wp2_with fail
    go_loopw [2, 3] (fun _ i wr => ∃ f a : Nat, s.size - a ≤ f ∧ a ≤ s.size ∧ i = .int .i64 a ∧ txF s f a = isTx s ∧ Below w.heap.size w wr) (fun _ i _ => s.size - (intOf i).toNat)
    case atStart => exact ⟨s.size, 0, by omega, by omega, rfl, rfl, Below.refl _ _⟩
    case round =>
      obtain ⟨f, a, hf, ha, rfl, ht, hb⟩ := hrel
      by_cases hlt : a < s.size
      · rw [txF_step hlt hf] at ht
        rcases decN_eq s a with ⟨hd, hN, h0⟩ | ⟨hd, hN, _⟩
        · have hin := dec_in hlt hd
          rw [hd, Bool.true_and] at ht
          have HT := Lib.hid ht
          have HN := Lib.hid hN
          have hz : ((leadN (byt s a) : Int) == 0) = false := by simp; omega
          clear ht hN hd
          go_wp2_with fail
          refine (decode_any s a _ hs hlt).mono ?_
          rintro e w' ⟨rfl, hb'⟩
          rw [HN.out]
          go_wp2_with fail
          go_roundw
          case rel => exact ⟨f - 1, a + leadN (byt s a), by omega, hin, by go_num, HT.out, hb.trans (hb'.mono hb.size)⟩
          case measure => simp [intOf]; omega
        · rw [hd, Bool.false_and] at ht
          have HC : Hid (ckE s = 10) := Lib.hid (by rw [hc.out, ← ht]; rfl)
          have HN := Lib.hid hN
          clear ht hN hd
          go_wp2_with fail
          refine (decode_any s a _ hs hlt).mono ?_
          rintro e w' ⟨rfl, hb'⟩
          rw [HN.out]
          go_wp2_with fail
          go_ret
          exact ⟨ret_int HC.out.symm, hb.trans (hb'.mono hb.size)⟩
      · rw [txF_end (by omega)] at ht
        have HC : Hid (ckE s = 0) := Lib.hid (by rw [hc.out, ← ht]; rfl)
        clear ht
        go_wp2_with fail
        go_ret
        exact ⟨ret_int HC.out.symm, hb⟩

end Go.Proofs.YtmkkckhfdafjnaaGreatDoor
/- Plain facts of layer 3: which cells are a value. No program in sight. -/
namespace Go.Proofs.YtmkkckhfdafjnaaGreatDoor
open Go.RowKit
/-- A cell. -/
structure CR where
  k : Nat
  nm : ByteArray
  tx : ByteArray
  n : Int
  m : Int
instance : Inhabited CR := ⟨⟨0, ⟨#[]⟩, ⟨#[]⟩, 0, 0⟩⟩
def em (s : ByteArray) : Bool := decide (s.size = 0)
def letB (b : UInt8) : Bool := b == 95 || (97 ≤ b && b ≤ 122) || (65 ≤ b && b ≤ 90)
def dgB (b : UInt8) : Bool := 48 ≤ b && b ≤ 57
def nmL : List UInt8 → Bool
  | [] => false
  | b :: r => letB b && r.all fun c => letB c || dgB c
def nmB (s : ByteArray) : Bool := nmL s.data.toList
def ckB (s : ByteArray) : Bool := decide (ckE s = 0)
/-- May a cell be, but for its name? -/
def oneP (c : CR) : Bool :=
  if c.k = 0 then em c.tx && decide (c.m = 0) && decide (c.n = 0)
  else if c.k = 1 then em c.tx && decide (c.m = 0) && (decide (c.n = 0) || decide (c.n = 1))
  else if c.k = 2 then em c.tx && decide (c.m = 0)
  else if c.k = 3 then decide (c.n = 0) && decide (c.m = 0) && ckB c.tx
  else if c.k = 4 ∨ c.k = 5 then decide (c.n = 0) && decide (c.m = 0) && nmB c.tx
  else if c.k = 6 ∨ c.k = 7 then decide (c.n = 0) && em c.tx && decide (0 ≤ c.m)
  else false
def headP (c : CR) : Bool := decide (c.k = 6) || decide (c.k = 7)
/-- May an item, a member have that name? -/
def namedP (obj : Bool) (names : List ByteArray) (s : ByteArray) : Bool :=
  if obj then !names.any (fun x => decide (x = s)) && !em s && ckB s else em s
/-- Behind so many values, one behind the other. -/
def kidsF (w : Nat → Option Nat) (g : Nat → CR) (n : Nat) (obj : Bool) : Nat → List ByteArray → Nat → Option Nat
  | 0, _, a => some a
  | m + 1, names, a =>
    if n ≤ a then none else if namedP obj names (g a).nm then
      match w a with
      | none => none
      | some a' => kidsF w g n obj m (if obj then (g a).nm :: names else names) a'
    else none
/-- Behind the value that begins at a place, with at most so many in each other. -/
def wk (g : Nat → CR) (n : Nat) : Nat → Nat → Option Nat
  | 0, a => if n ≤ a then none else if oneP (g a) && !headP (g a) then some (a + 1) else none
  | r + 1, a => if n ≤ a then none else if oneP (g a) then
      if headP (g a) then kidsF (wk g n r) g n (decide ((g a).k = 7)) (g a).m.toNat [] (a + 1) else some (a + 1)
    else none
theorem wk_z (g : Nat → CR) (n a : Nat) : wk g n 0 a = if n ≤ a then none else if oneP (g a) && !headP (g a) then some (a + 1) else none := rfl
theorem wk_s (g : Nat → CR) (n r a : Nat) : wk g n (r + 1) a = if n ≤ a then none else if oneP (g a) then
      if headP (g a) then kidsF (wk g n r) g n (decide ((g a).k = 7)) (g a).m.toNat [] (a + 1) else some (a + 1)
    else none := rfl
theorem kidsF_lt {w : Nat → Option Nat} {g : Nat → CR} {n : Nat} {obj : Bool} (hw : ∀ a e, w a = some e → a < e ∧ e ≤ n) : ∀ (m : Nat) (names : List ByteArray) (a e : Nat), a ≤ n → kidsF w g n obj m names a = some e → a + m ≤ e ∧ e ≤ n
  | 0, _, a, e, ha, h => by simp [kidsF] at h; omega
  | m + 1, names, a, e, ha, h => by
    rw [kidsF] at h
    split at h
    · cases h
    · split at h
      · cases hx : w a with
        | none => rw [hx] at h; cases h
        | some a' =>
          rw [hx] at h
          have h1 := hw a a' hx
          have h2 := kidsF_lt hw m _ a' e h1.2 h
          omega
      · cases h
theorem wk_lt {g : Nat → CR} {n : Nat} : ∀ (r a e : Nat), wk g n r a = some e → a < e ∧ e ≤ n
  | 0, a, e, h => by
    rw [wk] at h
    split at h
    · cases h
    · split at h
      · cases h; omega
      · cases h
  | r + 1, a, e, h => by
    rw [wk] at h
    split at h
    · cases h
    · split at h
      · split at h
        · have := kidsF_lt (wk_lt r) _ _ _ _ (by omega) h
          omega
        · cases h; omega
      · cases h
theorem kidsF_mono {w w' : Nat → Option Nat} {g : Nat → CR} {n : Nat} {obj : Bool} (hw : ∀ a e, w a = some e → w' a = some e) : ∀ (m : Nat) (names : List ByteArray) (a e : Nat), kidsF w g n obj m names a = some e → kidsF w' g n obj m names a = some e
  | 0, _, a, e, h => h
  | m + 1, names, a, e, h => by
    rw [kidsF] at h ⊢
    split at h
    · cases h
    · rename_i h1
      rw [if_neg h1]
      split at h
      · rename_i h2
        rw [if_pos h2]
        cases hx : w a with
        | none => rw [hx] at h; cases h
        | some a' =>
          rw [hx] at h
          rw [hw a a' hx]
          exact kidsF_mono hw m _ a' e h
      · cases h
theorem wk_succ {g : Nat → CR} {n : Nat} : ∀ (r a e : Nat), wk g n r a = some e → wk g n (r + 1) a = some e
  | 0, a, e, h => by
    rw [wk_z] at h
    rw [wk_s]
    split at h
    · cases h
    · rename_i h1
      rw [if_neg h1]
      split at h
      · rename_i h2
        simp only [Bool.and_eq_true, Bool.not_eq_true'] at h2
        rw [if_pos h2.1, if_neg (by rw [h2.2]; simp)]
        exact h
      · cases h
  | r + 1, a, e, h => by
    rw [wk_s] at h
    rw [wk_s]
    split at h
    · cases h
    · rename_i h1
      rw [if_neg h1]
      split at h
      · rename_i h2
        rw [if_pos h2]
        split at h
        · rename_i h3
          rw [if_pos h3]
          exact kidsF_mono (wk_succ r) _ _ _ _ h
        · rename_i h3
          rw [if_neg h3]
          exact h
      · cases h
theorem wk_up {g : Nat → CR} {n : Nat} {r r' a e : Nat} (hr : r ≤ r') (h : wk g n r a = some e) : wk g n r' a = some e := by
  obtain ⟨d, rfl⟩ : ∃ d, r' = r + d := ⟨r' - r, by omega⟩
  clear hr
  induction d with
  | zero => exact h
  | succ d ih => exact wk_succ _ _ _ ih
/-- So many values, one behind the other. -/
def Chain (g : Nat → CR) (n : Nat) : Nat → Nat → Nat → Prop
  | 0, a, e => a = e
  | o + 1, a, e => ∃ a', wk g n 16 a = some a' ∧ Chain g n o a' e
theorem Chain.le {g : Nat → CR} {n : Nat} : ∀ (o a e : Nat), Chain g n o a e → a + o ≤ e ∧ (e = a ∨ e ≤ n)
  | 0, a, e, h => by have : a = e := h; omega
  | o + 1, a, e, h => by
    obtain ⟨a', h1, h2⟩ := h
    have h3 := wk_lt _ _ _ h1
    have h4 := Chain.le o a' e h2
    omega
theorem Chain.add {g : Nat → CR} {n : Nat} : ∀ (o p a b e : Nat), Chain g n o a b → Chain g n p b e → Chain g n (o + p) a e
  | 0, p, a, b, e, h, k => by have : a = b := h; subst this; simpa using k
  | o + 1, p, a, b, e, h, k => by
    obtain ⟨a', h1, h2⟩ := h
    rw [show o + 1 + p = (o + p) + 1 by omega]
    exact ⟨a', h1, Chain.add o p a' b e h2 k⟩
theorem kidsF_chain {g : Nat → CR} {n r : Nat} {obj : Bool} (hr : r ≤ 16) : ∀ (m : Nat) (names : List ByteArray) (a e : Nat), kidsF (wk g n r) g n obj m names a = some e → Chain g n m a e
  | 0, _, a, e, h => by simp [kidsF] at h; exact h
  | m + 1, names, a, e, h => by
    rw [kidsF] at h
    split at h
    · cases h
    · split at h
      · cases hx : wk g n r a with
        | none => rw [hx] at h; cases h
        | some a' =>
          rw [hx] at h
          exact ⟨a', wk_up hr hx, kidsF_chain hr m _ a' e h⟩
      · cases h
theorem one_leaf {c : CR} (h1 : oneP c = true) (h2 : headP c = false) : c.m = 0 := by
  unfold oneP at h1
  simp only [headP, Bool.or_eq_false_iff, decide_eq_false_iff_not] at h2
  repeat' split at h1
  all_goals first
    | cases h1
    | (simp only [Bool.and_eq_true, decide_eq_true_eq] at h1; first | exact h1.1.2 | exact h1.2 | (exfalso; omega))
theorem one_head {c : CR} (h1 : oneP c = true) (h2 : headP c = true) : c.n = 0 ∧ em c.tx = true ∧ 0 ≤ c.m ∧ (c.k = 6 ∨ c.k = 7) := by
  simp only [headP, Bool.or_eq_true, decide_eq_true_eq] at h2
  unfold oneP at h1
  rw [if_neg (by omega), if_neg (by omega), if_neg (by omega), if_neg (by omega), if_neg (by omega), if_pos h2] at h1
  simp only [Bool.and_eq_true, decide_eq_true_eq] at h1
  exact ⟨h1.1.1, h1.1.2, h1.2, h2⟩
/-- What stands at the head of a value: the values in it, one behind the other. -/
theorem wk_open {g : Nat → CR} {n r a e : Nat} (hr : r ≤ 16) (h : wk g n r a = some e) : a < n ∧ oneP (g a) = true ∧ 0 ≤ (g a).m ∧ Chain g n (g a).m.toNat (a + 1) e := by
  cases r with
  | zero =>
    rw [wk] at h
    split at h
    · cases h
    · split at h
      · rename_i h2
        simp only [Bool.and_eq_true, Bool.not_eq_true'] at h2
        have := one_leaf h2.1 h2.2
        cases h
        refine ⟨by omega, h2.1, by omega, ?_⟩
        rw [this]; rfl
      · cases h
  | succ r =>
    rw [wk] at h
    split at h
    · cases h
    · split at h
      · rename_i h2
        split at h
        · rename_i h3
          exact ⟨by omega, h2, (one_head h2 h3).2.2.1, kidsF_chain (by omega) _ _ _ _ h⟩
        · rename_i h3
          have := one_leaf h2 (by simpa using h3)
          cases h
          refine ⟨by omega, h2, by omega, ?_⟩
          rw [this]; rfl
      · cases h
/-- One round of skip. -/
theorem Chain.step {g : Nat → CR} {n o a e : Nat} (h : Chain g n (o + 1) a e) : a < n ∧ a < e ∧ 0 ≤ (g a).m ∧ Chain g n (o + (g a).m.toNat) (a + 1) e := by
  obtain ⟨a', h1, h2⟩ := h
  obtain ⟨h3, _, h4, h5⟩ := wk_open (Nat.le_refl _) h1
  have := Chain.le _ _ _ h2
  have := wk_lt _ _ _ h1
  refine ⟨h3, by omega, h4, ?_⟩
  rw [Nat.add_comm]
  exact Chain.add _ _ _ _ _ h5 h2
end Go.Proofs.YtmkkckhfdafjnaaGreatDoor
/- Plain facts of layer 3: values in other cells. No program in sight. -/
namespace Go.Proofs.YtmkkckhfdafjnaaGreatDoor
open Go.RowKit
/-- From i to j two rows of cells read the same, but for the first one's name (b: that, too). -/
def Alk (b : Bool) (g1 : Nat → CR) (s1 : Nat) (g2 : Nat → CR) (s2 i j : Nat) : Prop :=
  ∀ t, i ≤ t → t < j → (g1 (t + s1)).k = (g2 (t + s2)).k ∧ (g1 (t + s1)).tx = (g2 (t + s2)).tx ∧ (g1 (t + s1)).n = (g2 (t + s2)).n ∧ (g1 (t + s1)).m = (g2 (t + s2)).m ∧ ((b = true ∨ i < t) → (g1 (t + s1)).nm = (g2 (t + s2)).nm)
theorem Alk.part {b : Bool} {g1 g2 : Nat → CR} {s1 s2 i j i' j' : Nat} (h : Alk b g1 s1 g2 s2 i j) (hi : b = true ∨ i < i') (hi' : i ≤ i') (hj : j' ≤ j) (c : Bool) : Alk c g1 s1 g2 s2 i' j' := fun t h1 h2 =>
  have q := h t (by omega) (by omega)
  ⟨q.1, q.2.1, q.2.2.1, q.2.2.2.1, fun _ => q.2.2.2.2 (by rcases hi with e | e; exact .inl e; exact .inr (by omega))⟩
theorem one_alk {c d : CR} (h1 : c.k = d.k) (h2 : c.tx = d.tx) (h3 : c.n = d.n) (h4 : c.m = d.m) : oneP c = oneP d := by
  unfold oneP; rw [h1, h2, h3, h4]
theorem kidsF_shift {g1 g2 : Nat → CR} {n1 n2 s1 s2 r : Nat} {obj : Bool} (ih : ∀ i j, wk g1 n1 r (i + s1) = some (j + s1) → Alk false g1 s1 g2 s2 i j → j + s2 ≤ n2 → wk g2 n2 r (i + s2) = some (j + s2)) :
    ∀ (m : Nat) (names : List ByteArray) (i j : Nat), i + s1 ≤ n1 → kidsF (wk g1 n1 r) g1 n1 obj m names (i + s1) = some (j + s1) → Alk true g1 s1 g2 s2 i j → j + s2 ≤ n2 → kidsF (wk g2 n2 r) g2 n2 obj m names (i + s2) = some (j + s2)
  | 0, _, i, j, _, h, _, _ => by
    simp only [kidsF, Option.some.injEq] at h ⊢
    omega
  | m + 1, names, i, j, hi, h, ha, hj => by
    rw [kidsF] at h
    split at h
    · cases h
    · rename_i h1
      split at h
      · rename_i h2
        cases hx : wk g1 n1 r (i + s1) with
        | none => rw [hx] at h; cases h
        | some a' =>
          rw [hx] at h
          have h3 := wk_lt _ _ _ hx
          obtain ⟨i', rfl⟩ : ∃ i', a' = i' + s1 := ⟨a' - s1, by omega⟩
          have h4 := kidsF_lt (wk_lt r) _ _ _ _ h3.2 h
          have hn := (ha i (Nat.le_refl _) (by omega)).2.2.2.2 (.inl rfl)
          have e := ih i i' hx (ha.part (.inl rfl) (Nat.le_refl _) (by omega) false) (by omega)
          rw [kidsF, if_neg (by have := wk_lt _ _ _ hx; omega), ← hn, if_pos h2, e]
          exact kidsF_shift ih m _ i' j h3.2 h (ha.part (.inl rfl) (by omega) (Nat.le_refl _) true) hj
      · cases h
theorem wk_shift {g1 g2 : Nat → CR} {n1 n2 s1 s2 : Nat} : ∀ (r i j : Nat), wk g1 n1 r (i + s1) = some (j + s1) → Alk false g1 s1 g2 s2 i j → j + s2 ≤ n2 → wk g2 n2 r (i + s2) = some (j + s2)
  | 0, i, j, h, ha, hj => by
    have hl := wk_lt _ _ _ h
    have q := ha i (Nat.le_refl _) (by omega)
    rw [wk_z] at h ⊢
    rw [if_neg (by omega)] at h ⊢
    rw [one_alk q.1 q.2.1 q.2.2.1 q.2.2.2.1, show headP (g1 (i + s1)) = headP (g2 (i + s2)) by unfold headP; rw [q.1]] at h
    split at h
    · rename_i h2
      rw [if_pos h2]
      simp only [Option.some.injEq] at h ⊢
      omega
    · cases h
  | r + 1, i, j, h, ha, hj => by
    have hl := wk_lt _ _ _ h
    have q := ha i (Nat.le_refl _) (by omega)
    rw [wk_s] at h ⊢
    rw [if_neg (by omega)] at h ⊢
    rw [one_alk q.1 q.2.1 q.2.2.1 q.2.2.2.1, show headP (g1 (i + s1)) = headP (g2 (i + s2)) by unfold headP; rw [q.1], q.1, q.2.2.2.1] at h
    split at h
    · rename_i h2
      rw [if_pos h2]
      split at h
      · rename_i h3
        rw [if_pos h3]
        rw [show i + s1 + 1 = (i + 1) + s1 by omega] at h
        rw [show i + s2 + 1 = (i + 1) + s2 by omega]
        exact kidsF_shift (wk_shift r) _ _ _ _ (by omega) h (ha.part (.inr (by omega)) (by omega) (Nat.le_refl _) true) hj
      · rename_i h3
        rw [if_neg h3]
        simp only [Option.some.injEq] at h ⊢
        omega
    · cases h
end Go.Proofs.YtmkkckhfdafjnaaGreatDoor
/- Plain facts of layer 3: where items and members begin; values put together. No program in sight. -/
namespace Go.Proofs.YtmkkckhfdafjnaaGreatDoor
open Go.RowKit
/-- Behind the value that begins at a place. -/
def nx (g : Nat → CR) (n a : Nat) : Nat := (wk g n 16 a).getD a
/-- Where the i-th value from a place on begins. -/
def bd (g : Nat → CR) (n a : Nat) : Nat → Nat
  | 0 => a
  | i + 1 => nx g n (bd g n a i)
end Go.Proofs.YtmkkckhfdafjnaaGreatDoor
/- Plain facts of layer 3: lists of cells; values put together under a head; a value cut out. No program in sight. -/
namespace Go.Proofs.YtmkkckhfdafjnaaGreatDoor
open Go.RowKit
def gl (L : List CR) (i : Nat) : CR := L.getD i default
/-- The cells, the first one's name aside. -/
def ren (s : ByteArray) : List CR → List CR
  | [] => []
  | c :: r => { c with nm := s } :: r
/-- Cells from a place to another one. -/
def cut (g : Nat → CR) (a e : Nat) : List CR := (List.range (e - a)).map fun i => g (a + i)
theorem em_eq {s : ByteArray} (h : em s = true) : s = ⟨#[]⟩ := by
  unfold em at h
  simp only [decide_eq_true_eq] at h
  exact ByteArray.ext (Array.eq_empty_of_size_eq_zero h)
end Go.Proofs.YtmkkckhfdafjnaaGreatDoor
/- Layer 3: what a cell's checks tell. -/
namespace Go.Proofs.YtmkkckhfdafjnaaGreatDoor
open Go.RowKit
def cv (c : CR) : Value := .agg #[.int .u8 c.k, .string c.nm, .string c.tx, .int .i64 c.n, .int .i64 c.m]
theorem size_nil {s : ByteArray} (h : s.toList = []) : s.size = 0 := by
  rw [ByteArray.toList_eq] at h
  have : s.data = #[] := by simpa using h
  show s.data.size = 0
  rw [this]; rfl
theorem em_yes {s : ByteArray} (h : em s = true) : s = ⟨#[]⟩ := em_eq h
theorem em_no {s : ByteArray} (h : em s = false) : s.toList.isEmpty = false := by
  unfold em at h
  simp only [decide_eq_false_iff_not] at h
  cases hs : s.toList with
  | nil =>
    exfalso
    apply h
    exact size_nil hs
  | cons _ _ => rfl
set_option maxRecDepth 20000 in
theorem head_any (c : CR) (w : World) : Calls Tryz.prog 97 #[cv c] w fun e w' => e = .returned (.bool (decide (c.n = 0) && em c.tx && decide (0 ≤ c.m))) ∧ Below w.heap.size w w' := by
  obtain ⟨k, nm, tx, n, m⟩ := c
  show Calls Tryz.prog 97 #[cv ⟨k, nm, tx, n, m⟩] w fun e w' => e = .returned (.bool (decide (n = 0) && em tx && decide (0 ≤ m))) ∧ Below w.heap.size w w'
  unfold cv
  obtain ⟨r, hr⟩ : ∃ r, r = (decide (n = 0) && em tx && decide (0 ≤ m)) := ⟨_, rfl⟩
  rw [← hr]
  by_cases he : n = 0
  · cases ht : em tx with
    | true =>
      obtain rfl := em_yes ht
      by_cases hm : 0 ≤ m
      · have HB := Lib.hid (show r = true by rw [hr, he, ht, decide_eq_true hm]; rfl)
        subst he
        clear ht
        clear hr
        go_enter Tryz.func97, Tryz.ntmps97
        go_wp2_with fail
        go_ret
        exact ⟨ret_bool HB.out.symm, (Below.refl _ _).alloc (Nat.le_refl _) _⟩
      · have HB := Lib.hid (show r = false by rw [hr, decide_eq_false hm, Bool.and_false])
        subst he
        clear ht
        have g : ¬ (0 : Int) ≤ m := hm
        clear hm
        clear hr
        go_enter Tryz.func97, Tryz.ntmps97
        go_wp2_with fail
        go_ret
        exact ⟨ret_bool HB.out.symm, (Below.refl _ _).alloc (Nat.le_refl _) _⟩
    | false =>
      have HB := Lib.hid (show r = false by rw [hr, ht, Bool.and_false, Bool.false_and])
      have g := em_no ht
      subst he
      clear ht
      clear hr
      go_enter Tryz.func97, Tryz.ntmps97
      go_wp2_with fail
      go_ret
      exact ⟨ret_bool HB.out.symm, (Below.refl _ _).alloc (Nat.le_refl _) _⟩
  · have HB := Lib.hid (show r = false by rw [hr, decide_eq_false he, Bool.false_and, Bool.false_and])
    have g : (n == 0) = false := by rw [beq_eq_false_iff_ne]; exact he
    clear he
    clear hr
    go_enter Tryz.func97, Tryz.ntmps97
    go_wp2_with fail
    go_ret
    exact ⟨ret_bool HB.out.symm, (Below.refl _ _).alloc (Nat.le_refl _) _⟩
end Go.Proofs.YtmkkckhfdafjnaaGreatDoor
/- Layer 3: names, and the checks of the kinds by their numbers. -/
namespace Go.Proofs.YtmkkckhfdafjnaaGreatDoor
open Go.RowKit
/-- What a name may have at a place. -/
def okAt (b : UInt8) (j : Nat) : Bool := letB b || (decide (j ≠ 0) && dgB b)
theorem all_from : ∀ (l : List UInt8) (j : Nat), (∀ i (h : i < l.length), okAt l[i] (j + 1 + i) = true) ↔ l.all (fun c => letB c || dgB c) = true
  | [], _ => by simp
  | b :: r, j => by
    have ih := all_from r (j + 1)
    rw [List.all_cons, Bool.and_eq_true, ← ih]
    constructor
    · intro h
      refine ⟨?_, fun i hi => ?_⟩
      · have := h 0 (by simp)
        simpa [okAt] using this
      · have := h (i + 1) (by simpa using hi)
        rw [show j + 1 + (i + 1) = j + 1 + 1 + i by omega] at this
        exact this
    · rintro ⟨h1, h2⟩ i hi
      cases i with
      | zero => simpa [okAt] using h1
      | succ i =>
        have := h2 i (by simpa using hi)
        rw [show j + 1 + (i + 1) = j + 1 + 1 + i by omega]
        exact this
theorem nm_iff (s : ByteArray) : nmB s = true ↔ s.size ≠ 0 ∧ ∀ i (h : i < s.size), okAt s[i] i = true := by
  have e : s.size = s.data.toList.length := by rw [Array.length_toList]; rfl
  have hget : ∀ i (h : i < s.size), s[i] = s.data.toList[i]'(by rw [← e]; exact h) := fun i h => rfl
  have key : (∀ i (h : i < s.size), okAt s[i] i = true) ↔ ∀ i (h : i < s.data.toList.length), okAt s.data.toList[i] i = true :=
    ⟨fun k i h => by have := k i (by rw [e]; exact h); rw [hget] at this; exact this, fun k i h => by rw [hget]; exact k i _⟩
  rw [key, e]
  unfold nmB
  generalize s.data.toList = l
  cases l with
  | nil => simp [nmL]
  | cons b r =>
    have := all_from r 0
    unfold nmL
    rw [Bool.and_eq_true, ← this]
    constructor
    · rintro ⟨h1, h2⟩
      refine ⟨by simp, fun i hi => ?_⟩
      cases i with
      | zero => simpa [okAt] using h1
      | succ i =>
        have := h2 i (by simpa using hi)
        rw [show 0 + 1 + i = i + 1 by omega] at this
        exact this
    · rintro ⟨_, h⟩
      refine ⟨?_, fun i hi => ?_⟩
      · have := h 0 (by simp)
        simpa [okAt] using this
      · have := h (i + 1) (by simpa using hi)
        rw [show 0 + 1 + i = i + 1 by omega]
        exact this
theorem nm_bad {s : ByteArray} {i : Nat} (h : i < s.size) (hb : okAt s[i] i = false) : nmB s = false := by
  cases hn : nmB s with
  | false => rfl
  | true => rw [((nm_iff s).1 hn).2 i h] at hb; cases hb
theorem by256c {P : UInt8 → Bool} (h : (List.range 256).all (fun n => P (UInt8.ofNat n)) = true) (b : UInt8) : P b = true := by
  have := List.all_eq_true.1 h b.toNat (List.mem_range.2 (UInt8.toNat_lt b))
  simpa using this
theorem let_val (b : UInt8) : letB b = (decide (b.toNat = 95) || (decide (97 ≤ b.toNat) && decide (b.toNat ≤ 122)) || (decide (65 ≤ b.toNat) && decide (b.toNat ≤ 90))) := by
  have := by256c (P := fun b => letB b == (decide (b.toNat = 95) || (decide (97 ≤ b.toNat) && decide (b.toNat ≤ 122)) || (decide (65 ≤ b.toNat) && decide (b.toNat ≤ 90)))) (by decide +kernel) b
  simpa using this
theorem dg_val (b : UInt8) : dgB b = (decide (48 ≤ b.toNat) && decide (b.toNat ≤ 57)) := by
  have := by256c (P := fun b => dgB b == (decide (48 ≤ b.toNat) && decide (b.toNat ≤ 57))) (by decide +kernel) b
  simpa using this
end Go.Proofs.YtmkkckhfdafjnaaGreatDoor
/- Layer 3: the checks of the kinds, by the kind's number; the array of them. -/
namespace Go.Proofs.YtmkkckhfdafjnaaGreatDoor
open Go.RowKit
/-- The function that checks a kind. -/
def fo : Nat → Nat
  | 0 => 89
  | 1 => 91
  | 2 => 90
  | 3 => 92
  | 4 => 94
  | 5 => 96
  | _ => 97
end Go.Proofs.YtmkkckhfdafjnaaGreatDoor
/- Layer 3: the array of the checks; the names that an object's members have had. -/
namespace Go.Proofs.YtmkkckhfdafjnaaGreatDoor
open Go.RowKit Go.Maps Go.WideMaps
theorem law9 : Keyed Tryz.prog 9 := string_keyed Tryz.underlying9
theorem zeroU (w : World) : (zeroValue 68).run Tryz.prog w = .ok (.agg #[]) w := by kernel_rfl
def keyL (s : ByteArray) : Lit := .string s.data.toList
def setN (names : List ByteArray) : DataW Unit := setOf (.agg []) (names.reverse.map keyL)
theorem setN_cons (s : ByteArray) (names : List ByteArray) : setN (s :: names) = (setN names).put (keyL s) (.agg []) := by
  unfold setN
  rw [List.reverse_cons, List.map_append]
  exact setOf_snoc _ _ _
theorem has_setN (names : List ByteArray) (s : ByteArray) : Maps.has (setN names) (keyL s) = names.any (fun x => decide (x = s)) := by
  unfold setN
  rw [has_setOf _ _ _ (fun x hx => by obtain ⟨y, _, rfl⟩ := List.mem_map.1 hx; trivial)]
  rw [List.any_map, Bool.eq_iff_iff, List.any_eq_true, List.any_eq_true]
  have e : ∀ x : ByteArray, ((fun x => x.sameKey (keyL s)) ∘ keyL) x = decide (x = s) := fun x => by
    rw [Bool.eq_iff_iff, decide_eq_true_eq]
    show (x.data.toList == s.data.toList) = true ↔ _
    rw [beq_iff_eq, Array.toList_inj]
    exact ⟨fun h => ByteArray.ext h, fun h => by rw [h]⟩
  constructor
  · rintro ⟨x, hx, h⟩
    rw [e] at h
    exact ⟨x, List.mem_reverse.1 hx, h⟩
  · rintro ⟨x, hx, h⟩
    exact ⟨x, List.mem_reverse.2 hx, by rw [e]; exact h⟩
/-- A map that holds the names met. -/
def Met (w : World) (b n : Nat) (names : List ByteArray) : Prop := w.ownsMap Tryz.prog 9 (unitElem (H := Unit)) b n (setN names)
end Go.Proofs.YtmkkckhfdafjnaaGreatDoor
/- Layer 3: cells in memory; what the closure of Check finds. -/
namespace Go.Proofs.YtmkkckhfdafjnaaGreatDoor
open Go.RowKit Go.Maps
/-- A row of cells reads so. -/
def CV (w : World) (a : Option Addr) (n : Nat) (g : Nat → CR) : Prop :=
  ∀ i, i < n → ∃ b off, a = some ⟨b, off, none⟩ ∧ b < w.heap.size ∧ w.cell? ⟨b, off + i * 5, none⟩ = some (.int .u8 (g i).k) ∧ w.cell? ⟨b, off + i * 5 + 1, none⟩ = some (.string (g i).nm) ∧ w.cell? ⟨b, off + i * 5 + 2, none⟩ = some (.string (g i).tx) ∧ w.cell? ⟨b, off + i * 5 + 3, none⟩ = some (.int .i64 (g i).n) ∧ w.cell? ⟨b, off + i * 5 + 4, none⟩ = some (.int .i64 (g i).m)
theorem CV.same {w w' : World} {a : Option Addr} {n : Nat} {g : Nat → CR} (h : CV w a n g) (hs : w.heap.size ≤ w'.heap.size) (hb : ∀ b off, a = some ⟨b, off, none⟩ → b < w.heap.size → w'.heap[b]? = w.heap[b]?) : CV w' a n g := fun i hi => by
  obtain ⟨b, off, e, h0, h1, h2, h3, h4, h5⟩ := h i hi
  have hh := hb b off e h0
  have c : ∀ o, w'.cell? ⟨b, o, none⟩ = w.cell? ⟨b, o, none⟩ := fun o => World.cell?_of_block hh
  exact ⟨b, off, e, by omega, by rw [c]; exact h1, by rw [c]; exact h2, by rw [c]; exact h3, by rw [c]; exact h4, by rw [c]; exact h5⟩
theorem CV.below {w w' : World} {a : Option Addr} {n : Nat} {g : Nat → CR} (h : CV w a n g) (hb : Below w.heap.size w w') : CV w' a n g :=
  h.same hb.size fun b _ _ hl => hb.block b hl
theorem World.grownBy.far {w w1 w2 : World} {p : Option Nat} {b : Nat} (h : w.grownBy w1 p) (k : w1.grownBy w2 (some b)) (hb : w.heap.size ≤ b) : w.grownBy w2 p :=
  ⟨k.os.trans h.os, k.tape.trans h.tape, k.output.trans h.output, Nat.le_trans h.size k.size, fun i hi hne => (k.block i (Nat.lt_of_lt_of_le hi h.size) (fun e => by cases e; omega)).trans (h.block i hi hne)⟩
theorem Below.grown' {w w1 w2 : World} {p : Option Nat} (h : w.grownBy w1 p) (k : Below w1.heap.size w1 w2) : w.grownBy w2 p :=
  ⟨k.os.trans h.os, k.tape.trans h.tape, k.output.trans h.output, Nat.le_trans h.size k.size, fun i hi hne => (k.block i (Nat.lt_of_lt_of_le hi h.size)).trans (h.block i hi hne)⟩
/-- What the closure has captured, but for where it is. -/
structure Env (W : World) (pa pv pr pw : Nat) (a : Option Addr) (n cap : Nat) (g : Nat → CR) : Prop where
  v : W.cell? ⟨pv, 0, none⟩ = some (.slice a n cap)
  rules : ∀ k, k < 8 → W.cell? ⟨pr, k, none⟩ = some (.func (.func (fo k)) #[] #[])
  walk : W.cell? ⟨pw, 0, none⟩ = some (.func (.func 81) #[] #[.pointer (some ⟨pa, 0, none⟩), .pointer (some ⟨pv, 0, none⟩), .pointer (some ⟨pr, 0, none⟩), .pointer (some ⟨pw, 0, none⟩)])
  cv : CV W a n g
  n1 : pv ≠ pa
  n2 : pr ≠ pa
  n3 : pw ≠ pa
  n4 : ∀ b off, a = some ⟨b, off, none⟩ → b ≠ pa
theorem Env.up {W W' : World} {pa pv pr pw : Nat} {a : Option Addr} {n cap : Nat} {g : Nat → CR} (h : Env W pa pv pr pw a n cap g) (k : W.grownBy W' (some pa)) : Env W' pa pv pr pw a n cap g :=
  have f : ∀ {q : Nat} {o : Nat} {x : Value}, q ≠ pa → W.cell? ⟨q, o, none⟩ = some x → W'.cell? ⟨q, o, none⟩ = some x := fun hq hx => k.cell hx (fun e => hq (by cases e; rfl))
  ⟨f h.n1 h.v, fun i hi => f h.n2 (h.rules i hi), f h.n3 h.walk, h.cv.same k.size (fun b off e hl => k.block b hl (fun q => h.n4 b off e (by cases q; rfl))), h.n1, h.n2, h.n3, h.n4⟩
/-- Where it is. -/
def At (W : World) (pa p : Nat) : Prop := W.heap[pa]? = some (.cells #[.int .i64 (p : Nat)] 3)
theorem At.c {W : World} {pa p : Nat} (h : At W pa p) : W.cell? ⟨pa, 0, none⟩ = some (.int .i64 (p : Nat)) := by simp [World.cell?, show W.heap[pa]? = _ from h]
theorem At.f {W : World} {pa p : Nat} (h : At W pa p) : W.frozen? ⟨pa, 0, none⟩ = false := by simp [World.frozen?, show W.heap[pa]? = _ from h]
theorem At.lt {W : World} {pa p : Nat} (h : At W pa p) : pa < W.heap.size := (Array.getElem?_eq_some_iff.1 h).1
theorem At.set {W : World} {pa p : Nat} (h : At W pa p) (q : Nat) : At (W.setCell ⟨pa, 0, none⟩ (.int .i64 (q : Nat))) pa q := by
  unfold At at h ⊢
  simp [World.setCell, Array.getElem?_modify, h]
theorem At.keep {W W' : World} {pa p : Nat} {row : Option Nat} (h : At W pa p) (k : W.grownBy W' row) (hne : some pa ≠ row) : At W' pa p := (k.block pa h.lt hne).trans h
theorem grown_drew {W W' : World} {row : Option Nat} (h : W.grownBy W' row) (d : Nat) : W.grownBy (W'.drewN d) row := ⟨h.os, h.tape, h.output, h.size, h.block⟩
end Go.Proofs.YtmkkckhfdafjnaaGreatDoor
/- Layer 3: the closure of Check: what ends it at once. -/
namespace Go.Proofs.YtmkkckhfdafjnaaGreatDoor
open Go.RowKit Go.Maps
def WkPost (W : World) (pa : Nat) (res : Option Nat) (e : Ending) (W' : World) : Prop :=
  e = .returned (.bool res.isSome) ∧ W.grownBy W' (some pa) ∧ ∃ q, At W' pa q ∧ ∀ e', res = some e' → q = e'
/-- What holds while a cell's copy is looked at. -/
def FS (W : World) (pa p B pr fk : Nat) (c : CR) (w' : World) : Prop :=
  w'.cell? ⟨B, 0, none⟩ = some (.int .u8 c.k) ∧ w'.cell? ⟨B, 1, none⟩ = some (.string c.nm) ∧ w'.cell? ⟨B, 2, none⟩ = some (.string c.tx) ∧ w'.cell? ⟨B, 3, none⟩ = some (.int .i64 c.n) ∧ w'.cell? ⟨B, 4, none⟩ = some (.int .i64 c.m) ∧ w'.cell? ⟨pr, c.k, none⟩ = some (.func (.func fk) #[] #[]) ∧ W.grownBy w' (some pa) ∧ At w' pa p
theorem FS.up {W : World} {pa p B pr fk : Nat} {c : CR} {w w' : World} (h : FS W pa p B pr fk c w) (b : Below w.heap.size w w') : FS W pa p B pr fk c w' := by
  obtain ⟨h0, h1, h2, h3, h4, h5, h6, h7⟩ := h
  have f : ∀ {q o : Nat} {x : Value}, w.cell? ⟨q, o, none⟩ = some x → w'.cell? ⟨q, o, none⟩ = some x := fun hx => (b.cell (World.block_lt_of_cell? _ _ hx)).trans hx
  exact ⟨f h0, f h1, f h2, f h3, f h4, f h5, Below.grown' h6 b, (b.block pa h7.lt).trans h7⟩
theorem WkPost.no {W W' : World} {pa q : Nat} {res : Option Nat} {b : Bool} (hr : res = none) (hb : b = false) (hg : W.grownBy W' (some pa)) (ha : At W' pa q) : WkPost W pa res (.returned (.bool b)) W' := by
  subst hr hb; exact ⟨rfl, hg, q, ha, fun e' h => by cases h⟩
end Go.Proofs.YtmkkckhfdafjnaaGreatDoor
/- Layer 3: the closure of Check: items and members. -/
namespace Go.Proofs.YtmkkckhfdafjnaaGreatDoor
open Go.RowKit Go.Maps
/-- What holds at a round's head. -/
def LSt (W : World) (pa B M : Nat) (c : CR) (n : Nat) (wr : World) (i q : Nat) (names : List ByteArray) : Prop :=
  At wr pa q ∧ W.grownBy wr (some pa) ∧ wr.cell? ⟨B, 0, none⟩ = some (.int .u8 c.k) ∧ (c.k = 7 → Met wr M i names) ∧ i ≤ q ∧ q ≤ n ∧ M < wr.heap.size
end Go.Proofs.YtmkkckhfdafjnaaGreatDoor
/- Layer 3: Check. -/
namespace Go.Proofs.YtmkkckhfdafjnaaGreatDoor
open Go.RowKit Go.Maps
end Go.Proofs.YtmkkckhfdafjnaaGreatDoor
/- Layer 3: Check, whole. -/
namespace Go.Proofs.YtmkkckhfdafjnaaGreatDoor
open Go.RowKit Go.Maps
end Go.Proofs.YtmkkckhfdafjnaaGreatDoor
/- Layer 3: skip, place, End. -/
namespace Go.Proofs.YtmkkckhfdafjnaaGreatDoor
open Go.RowKit Go.Maps
theorem CV.at_ {w : World} {b off n : Nat} {g : Nat → CR} (h : CV w (some ⟨b, off, none⟩) n g) {i : Nat} (hi : i < n) : b < w.heap.size ∧ w.cell? ⟨b, off + i * 5, none⟩ = some (.int .u8 (g i).k) ∧ w.cell? ⟨b, off + i * 5 + 1, none⟩ = some (.string (g i).nm) ∧ w.cell? ⟨b, off + i * 5 + 2, none⟩ = some (.string (g i).tx) ∧ w.cell? ⟨b, off + i * 5 + 3, none⟩ = some (.int .i64 (g i).n) ∧ w.cell? ⟨b, off + i * 5 + 4, none⟩ = some (.int .i64 (g i).m) := by
  obtain ⟨b', off', e, k⟩ := h i hi
  cases e
  exact k
theorem CV.addr {w : World} {a : Option Addr} {n : Nat} {g : Nat → CR} (h : CV w a n g) (h0 : 0 < n) : ∃ b off, a = some ⟨b, off, none⟩ := by
  obtain ⟨b, off, e, _⟩ := h 0 h0
  exact ⟨b, off, e⟩
end Go.Proofs.YtmkkckhfdafjnaaGreatDoor
/- Layer 3: kids, Kids, Member. -/
namespace Go.Proofs.YtmkkckhfdafjnaaGreatDoor
open Go.RowKit Go.Maps
theorem news_at (w : World) (cs : Array Value) (t : TypeId) (L : List Value) (h : cs.toList = L) : ∀ j u, L[j]? = some u → (w.alloc (.cells cs t)).cell? ((⟨w.heap.size, 0, none⟩ : Addr).add j) = some u := by
  subst h
  intro j u hj
  simp only [Addr.add_lit, Nat.zero_add, World.cell?, heap_alloc_new]
  simpa using hj
def bdL (g : Nat → CR) (n a m : Nat) : List Value := (List.range m).map fun i => .int .i64 (bd g n a i : Nat)
/-- A row of places. -/
def IV (w : World) (a : Option Addr) (m : Nat) (f : Nat → Nat) : Prop := ∀ i, i < m → ∃ b off, a = some ⟨b, off, none⟩ ∧ b < w.heap.size ∧ w.cell? ⟨b, off + i, none⟩ = some (.int .i64 (f i : Nat))
theorem IV.below {w w' : World} {a : Option Addr} {m : Nat} {f : Nat → Nat} (h : IV w a m f) (hb : Below w.heap.size w w') : IV w' a m f := fun i hi => by
  obtain ⟨b, off, e, h1, h2⟩ := h i hi
  exact ⟨b, off, e, Nat.lt_of_lt_of_le h1 hb.size, (hb.cell (p := ⟨b, _, none⟩) h1).trans h2⟩
theorem str_is {x y : ByteArray} : (x.toList == y.toList) = decide (x = y) := by
  rw [Bool.eq_iff_iff, beq_iff_eq, decide_eq_true_eq, ByteArray.toList_eq, ByteArray.toList_eq, Array.toList_inj]
  exact ⟨fun h => ByteArray.ext h, fun h => by rw [h]⟩
end Go.Proofs.YtmkkckhfdafjnaaGreatDoor
/- Layer 3: rows of cells that a call made; the chapter's object; alive. -/
namespace Go.Proofs.YtmkkckhfdafjnaaGreatDoor
open Go.RowKit Go.Maps
def rw5 (L : List CR) : List Value := L.flatMap fun c => [.int .u8 c.k, .string c.nm, .string c.tx, .int .i64 c.n, .int .i64 c.m]
theorem rw5_cons (c : CR) (L : List CR) : rw5 (c :: L) = .int .u8 c.k :: .string c.nm :: .string c.tx :: .int .i64 c.n :: .int .i64 c.m :: rw5 L := rfl
theorem rw5_app (L M : List CR) : rw5 (L ++ M) = rw5 L ++ rw5 M := by unfold rw5; rw [List.flatMap_append]
theorem rw5_len : ∀ L : List CR, (rw5 L).length = L.length * 5
  | [] => rfl
  | c :: L => by rw [rw5_cons]; simp [rw5_len L]; omega
theorem rw5_at : ∀ (L : List CR) (i : Nat), i < L.length → (rw5 L)[i * 5]? = some (.int .u8 (gl L i).k) ∧ (rw5 L)[i * 5 + 1]? = some (.string (gl L i).nm) ∧ (rw5 L)[i * 5 + 2]? = some (.string (gl L i).tx) ∧ (rw5 L)[i * 5 + 3]? = some (.int .i64 (gl L i).n) ∧ (rw5 L)[i * 5 + 4]? = some (.int .i64 (gl L i).m)
  | [], i, h => by simp at h
  | c :: L, 0, h => by
    rw [rw5_cons]
    exact ⟨rfl, rfl, rfl, rfl, rfl⟩
  | c :: L, i + 1, h => by
    have ih := rw5_at L i (by simpa using h)
    rw [rw5_cons, show (i + 1) * 5 = i * 5 + 5 by omega]
    exact ih
theorem cv_of {w : World} {q n : Nat} {L : List CR} (hl : L.length = n) (hq : q < w.heap.size) (h : ∀ j, j < n * 5 → w.cell? ⟨q, j, none⟩ = (rw5 L)[j]?) : CV w (some ⟨q, 0, none⟩) n (gl L) := fun i hi => by
  obtain ⟨a0, a1, a2, a3, a4⟩ := rw5_at L i (by omega)
  exact ⟨q, 0, rfl, hq, by rw [Nat.zero_add, h _ (by omega)]; exact a0, by rw [Nat.zero_add, h _ (by omega)]; exact a1, by rw [Nat.zero_add, h _ (by omega)]; exact a2, by rw [Nat.zero_add, h _ (by omega)]; exact a3, by rw [Nat.zero_add, h _ (by omega)]; exact a4⟩
theorem own_cv {w : World} {B n : Nat} {v : Value} {L : List CR} (hl : L.length = n) (h : w.ownsRow B 46 5 v n (rw5 L)) : ∃ ad cap, v = .slice ad n cap ∧ CV w ad n (gl L) ∧ (∀ b off, ad = some ⟨b, off, none⟩ → B ≤ b) ∧ (n = 0 → ad = none ∨ True) := by
  rcases h.2 with ⟨rfl, hn⟩ | ⟨q, cap, cur, rfl, hg, hgg, h1, h2, h3, h4⟩
  · subst hn
    exact ⟨none, 0, rfl, fun i hi => by omega, fun b off e => by (cases e), fun _ => .inl rfl⟩
  · exact ⟨some ⟨q, 0, none⟩, cap, rfl, cv_of hl (Array.getElem?_eq_some_iff.1 hgg).1 (fun j hj => h.cellAt j hj), fun b off e => by (cases e; exact hg), fun _ => .inr trivial⟩
end Go.Proofs.YtmkkckhfdafjnaaGreatDoor
/- Layer 3: alive. -/
namespace Go.Proofs.YtmkkckhfdafjnaaGreatDoor
open Go.RowKit Go.Maps
end Go.Proofs.YtmkkckhfdafjnaaGreatDoor
/- Layer 3: append onto a row that is kept; CellNames. -/
namespace Go.Proofs.YtmkkckhfdafjnaaGreatDoor
open Go.RowKit Go.Maps
section
variable {P : Program}
end
theorem infoC : ∃ i, Tryz.prog.info? 46 = some i ∧ i.zero = some (.agg #[.int .u8 0, .string ⟨#[]⟩, .string ⟨#[]⟩, .int .i64 0, .int .i64 0]) ∧ i.size = 5 ∧ i.bytes = 56 := by
  have h := Tryz.typeInfo46 default
  unfold typeInfo at h
  cases hq : Tryz.prog.info? 46 with
  | none => simp [hq] at h
  | some i =>
    simp [hq] at h
    exact ⟨i, rfl, by rw [h]; rfl, by rw [h]; rfl, by rw [h]; rfl⟩
def c6 : CR := ⟨6, ⟨#[]⟩, ⟨#[]⟩, 0, 1⟩
def c0 : CR := ⟨0, ⟨#[]⟩, ⟨#[]⟩, 0, 0⟩
end Go.Proofs.YtmkkckhfdafjnaaGreatDoor
/- Layer 3: how large cells are; whether two rows are the same. -/
namespace Go.Proofs.YtmkkckhfdafjnaaGreatDoor
open Go.RowKit Go.Maps
end Go.Proofs.YtmkkckhfdafjnaaGreatDoor
/- Layer 3: two cells against each other; two rows. -/
namespace Go.Proofs.YtmkkckhfdafjnaaGreatDoor
open Go.RowKit Go.Maps
deriving instance DecidableEq for CR
theorem cell_dec (k1 k2 : Nat) (a1 a2 b1 b2 : ByteArray) (n1 n2 m1 m2 : Int) : decide ((⟨k1, a1, b1, n1, m1⟩ : CR) = ⟨k2, a2, b2, n2, m2⟩) = (decide ((k1 : Int) = k2) && (decide (a1 = a2) && (decide (b1 = b2) && (decide (n1 = n2) && decide (m1 = m2))))) := by
  rw [Bool.eq_iff_iff]
  simp only [decide_eq_true_eq, Bool.and_eq_true, CR.mk.injEq]
  constructor
  · rintro ⟨h1, h2, h3, h4, h5⟩; exact ⟨by omega, h2, h3, h4, h5⟩
  · rintro ⟨h1, h2, h3, h4, h5⟩; exact ⟨by omega, h2, h3, h4, h5⟩
theorem neq_cell (c d : CR) (w : World) : (binOp .neq 46 (cv c) (cv d)).run Tryz.prog w = .ok (.bool !(decide (c = d))) w := by
  obtain ⟨k1, a1, b1, n1, m1⟩ := c
  obtain ⟨k2, a2, b2, n2, m2⟩ := d
  rw [cell_dec]
  unfold cv
  have a3 := Tryz.isAgg5
  have a4 := Tryz.isAgg9
  have a5 := Tryz.isAgg2
  have a6 := Tryz.isAgg3
  have z3 := Tryz.sizeOf5
  have z4 := Tryz.sizeOf9
  have z5 := Tryz.sizeOf2
  have z6 := Tryz.sizeOf3
  have u3 := Tryz.underlying5
  have u4 := Tryz.underlying9
  have u5 := Tryz.underlying2
  have u6 := Tryz.underlying3
  have hS : Tryz.prog.underlying 46 = some (.struct (Tryz.prog.fieldsOf 46)) := by kernel_rfl
  have hp : Tryz.prog.stoodInHeld 46 = false := by kernel_rfl
  rw [run_neq_struct, show (10000 : Nat) = 9999 + 1 from rfl, run_equalIn_agg w 9999 46 _ _ hS hp]
  simp only [Program.fieldsOf, Tryz.underlying46]
  have e1 : (a1.toList == a2.toList) = decide (a1 = a2) := str_is
  have e2 : (b1.toList == b2.toList) = decide (b1 = b2) := str_is
  go_simp
  by_cases h1 : (k1 : Int) = k2 <;> by_cases h2 : a1 = a2 <;> by_cases h3 : b1 = b2 <;> by_cases h4 : n1 = n2 <;> by_cases h5 : m1 = m2 <;> simp [h1, h2, h3, h4, h5, e1, e2]
/-- Are two rows the same? -/
def smB (g1 : Nat → CR) (n1 : Nat) (g2 : Nat → CR) (n2 : Nat) : Bool := decide (n1 = n2) && (List.range n1).all fun i => decide (g1 i = g2 i)
theorem sm_no {g1 g2 : Nat → CR} {n i : Nat} (hi : i < n) (h : g1 i ≠ g2 i) : smB g1 n g2 n = false := by
  unfold smB
  rw [Bool.and_eq_false_iff]
  refine .inr (List.all_eq_false.2 ⟨i, List.mem_range.2 hi, by simpa using h⟩)
theorem sm_yes {g1 g2 : Nat → CR} {n : Nat} (h : ∀ j, j < n → g1 j = g2 j) : smB g1 n g2 n = true := by
  unfold smB
  rw [Bool.and_eq_true]
  exact ⟨by simp, List.all_eq_true.2 fun i hi => by simpa using h i (List.mem_range.1 hi)⟩
theorem sm_lists {L M : List CR} (h : L = M) : smB (gl L) L.length (gl M) M.length = true := by subst h; exact sm_yes fun _ _ => rfl
set_option maxRecDepth 20000 in
set_option maxHeartbeats 1000000 in
theorem rsame_any (a1 a2 : Option Addr) (n1 n2 c1 c2 : Nat) (g1 g2 : Nat → CR) (w : World) (hv1 : CV w a1 n1 g1) (hv2 : CV w a2 n2 g2) (hn : n1 ≤ maxLen) : Calls Tryz.prog 21 #[.slice a1 n1 c1, .slice a2 n2 c2] w fun r w' => r = .returned (.bool (smB g1 n1 g2 n2)) ∧ Below w.heap.size w w' := by
  unfold maxLen at hn
  obtain ⟨x, hx⟩ : ∃ x, x = smB g1 n1 g2 n2 := ⟨_, rfl⟩
  rw [← hx]
  replace hx := Lib.hid hx
  by_cases he : n1 = n2
  · subst he
    have HV1 := Lib.hid hv1
    have HV2 := Lib.hid hv2
    clear hv1 hv2
    have hn' : (n1 : Int) ≤ 9223372036854775807 := by omega
    have hne : ((n1 : Int) != n1) = false := by simp
    go_enter Tryz.func21, Tryz.ntmps21
    go_wp2_with fail
    go_loopw [5] (fun v5 wr => ∃ i : Nat, i ≤ n1 ∧ v5 = .int .i64 i ∧ Hid (∀ j, j < i → g1 j = g2 j) ∧ Hid (Below w.heap.size w wr)) (fun v5 _ => n1 - (intOf v5).toNat)
    case atStart => exact ⟨0, Nat.zero_le _, rfl, Lib.hid (fun j hj => by omega), Lib.hid (Below.refl _ _)⟩
    case round =>
      obtain ⟨i, hi, rfl, HN, HB⟩ := hrel
      by_cases h1 : i < n1
      · obtain ⟨b, off, rfl⟩ := HV1.out.addr (by omega)
        obtain ⟨b', off', rfl⟩ := HV2.out.addr (by omega)
        obtain ⟨_, d0, d1, d2, d3, d4⟩ := (HV1.out.below HB.out).at_ h1
        obtain ⟨_, e0, e1, e2, e3, e4⟩ := (HV2.out.below HB.out).at_ h1
        have hg1 : (i : Int) < n1 := by omega
        have hg0 : (0 : Int) ≤ i := by omega
        obtain ⟨c, hc⟩ : ∃ c, c = g1 i := ⟨_, rfl⟩
        obtain ⟨d, hd⟩ : ∃ d, d = g2 i := ⟨_, rfl⟩
        rw [← hc] at d0 d1 d2 d3 d4
        rw [← hd] at e0 e1 e2 e3 e4
        have hq := neq_cell c d
        unfold cv at hq
        have hgd : ∀ (op : BinOp) (x y : Operand) (xs ys : Array Value) (W : World), (eqGuard op 46 x y (.agg xs) (.agg ys)).run Tryz.prog W = .ok () W := fun op x y xs ys W => run_eqGuard_agg W op _ x y xs ys (by kernel_rfl)
        by_cases hcd : c = d
        · have HN2 : Hid (∀ j, j < i + 1 → g1 j = g2 j) := Lib.hid (fun j hj => by
            by_cases e : j = i
            · subst e; rw [← hc, ← hd]; exact hcd
            · exact HN.out j (by omega))
          rw [decide_eq_true hcd] at hq
          clear HN hc hd hcd
          go_wp2_with fail
          go_quiet (fail)
          go_wp2_with fail
          go_roundw
          case rel => exact ⟨i + 1, by omega, by go_num, HN2, Lib.hid ⟨HB.out.os, HB.out.tape, HB.out.output, HB.out.size, HB.out.block⟩⟩
          case measure => simp [intOf]; omega
        · have HX : Hid (x = false) := Lib.hid (by rw [hx.out]; exact sm_no h1 (by rw [← hc, ← hd]; exact hcd))
          rw [decide_eq_false hcd] at hq
          clear HN hc hd hcd
          go_wp2_with fail
          go_quiet (fail)
          go_wp2_with fail
          go_ret
          exact ⟨ret_bool HX.out.symm, ⟨HB.out.os, HB.out.tape, HB.out.output, HB.out.size, HB.out.block⟩⟩
      · have e1 : i = n1 := by omega
        subst e1
        have HX : Hid (x = true) := Lib.hid (by rw [hx.out]; exact sm_yes HN.out)
        have hg1 : ¬ (i : Int) < i := by omega
        clear HN
        go_wp2_with fail
        go_ret
        exact ⟨ret_bool HX.out.symm, HB.out⟩
  · have HX : Hid (x = false) := Lib.hid (by rw [hx.out]; unfold smB; rw [decide_eq_false he]; rfl)
    have hne : ((n1 : Int) != n2) = true := by simp; omega
    have hne2 : ((n1 : Int) == n2) = false := by rw [beq_eq_false_iff_ne]; omega
    clear he
    go_enter Tryz.func21, Tryz.ntmps21
    go_wp2_with fail
    go_ret
    exact ⟨ret_bool HX.out.symm, Below.refl _ _⟩
end Go.Proofs.YtmkkckhfdafjnaaGreatDoor
/- Layer 3: Twin, Sub. -/
namespace Go.Proofs.YtmkkckhfdafjnaaGreatDoor
open Go.RowKit Go.Maps
end Go.Proofs.YtmkkckhfdafjnaaGreatDoor
/- Layer 3: a name written into a row; Sub. -/
namespace Go.Proofs.YtmkkckhfdafjnaaGreatDoor
open Go.RowKit Go.Maps
theorem own_addr {w : World} {B n : Nat} {v : Value} {xs : List Value} {e : TypeId} {sz : Nat} (h : w.ownsRow B e sz v n xs) (h0 : 0 < n) : ∃ q cap, v = .slice (some ⟨q, 0, none⟩) n cap ∧ B ≤ q ∧ q < w.heap.size := by
  rcases h.2 with ⟨_, hn⟩ | ⟨q, cap, cur, rfl, hb, hg, _⟩
  · omega
  · exact ⟨q, cap, rfl, hb, (Array.getElem?_eq_some_iff.1 hg).1⟩
theorem CV.part {w : World} {b off n : Nat} {g : Nat → CR} (h : CV w (some ⟨b, off, none⟩) n g) (p e : Nat) (he : e ≤ n) : CV w (some ⟨b, off + p * 5, none⟩) (e - p) (fun i => g (p + i)) := fun i hi => by
  obtain ⟨h0, c0, c1, c2, c3, c4⟩ := h.at_ (i := p + i) (by omega)
  rw [show off + (p + i) * 5 = off + p * 5 + i * 5 by omega] at c0 c1 c2 c3 c4
  exact ⟨b, off + p * 5, rfl, h0, c0, c1, c2, c3, c4⟩
end Go.Proofs.YtmkkckhfdafjnaaGreatDoor
/- Layer 3: gather. -/
namespace Go.Proofs.YtmkkckhfdafjnaaGreatDoor
open Go.RowKit Go.Maps
/-- Values that came in. -/
structure LIn (w : World) (la : Option Addr) (ln : Nat) (ad : Nat → Option Addr) (len cp : Nat → Nat) (G : Nat → Nat → CR) : Prop where
  at_ : ∀ i, i < ln → ∃ b off, la = some ⟨b, off, none⟩ ∧ b < w.heap.size ∧ w.cell? ⟨b, off + i, none⟩ = some (.slice (ad i) (len i) (cp i))
  cv : ∀ i, i < ln → CV w (ad i) (len i) (G i)
theorem LIn.below {w w' : World} {la : Option Addr} {ln : Nat} {ad : Nat → Option Addr} {len cp : Nat → Nat} {G : Nat → Nat → CR} (h : LIn w la ln ad len cp G) (hb : Below w.heap.size w w') : LIn w' la ln ad len cp G :=
  ⟨fun i hi => by
    obtain ⟨b, off, e, h1, h2⟩ := h.at_ i hi
    exact ⟨b, off, e, Nat.lt_of_lt_of_le h1 hb.size, (hb.cell (p := ⟨b, _, none⟩) h1).trans h2⟩, fun i hi => (h.cv i hi).below hb⟩
/-- Names that came in. -/
def NV (w : World) (a : Option Addr) (n : Nat) (s : Nat → ByteArray) : Prop := ∀ i, i < n → ∃ b off, a = some ⟨b, off, none⟩ ∧ b < w.heap.size ∧ w.cell? ⟨b, off + i, none⟩ = some (.string (s i))
theorem NV.below {w w' : World} {a : Option Addr} {n : Nat} {s : Nat → ByteArray} (h : NV w a n s) (hb : Below w.heap.size w w') : NV w' a n s := fun i hi => by
  obtain ⟨b, off, e, h1, h2⟩ := h i hi
  exact ⟨b, off, e, Nat.lt_of_lt_of_le h1 hb.size, (hb.cell (p := ⟨b, _, none⟩) h1).trans h2⟩
/-- The i-th value, under its name. -/
def lsF (k : Nat) (s : Nat → ByteArray) (len : Nat → Nat) (G : Nat → Nat → CR) (i : Nat) : List CR := if k = 7 then ren (s i) (cut (G i) 0 (len i)) else cut (G i) 0 (len i)
def GP (w : World) (e : Int) (L : List CR) (r : Ending) (w' : World) : Prop :=
  ∃ v, r = .returned (.tuple #[v, .int .i64 e]) ∧ (e ≠ 0 → v = .slice none 0 0) ∧ (e = 0 → w'.ownsRow w.heap.size 46 5 v L.length (rw5 L)) ∧ Below w.heap.size w w'
theorem GP.bad {w w' : World} {e z : Int} {L : List CR} (he : e = z) (hz : z ≠ 0) (hb : Below w.heap.size w w') : GP w e L (.returned (.tuple #[.slice none 0 0, .int .i64 z])) w' := by
  subst he; exact ⟨_, rfl, fun _ => rfl, fun h => absurd h hz, hb⟩
theorem GP.ok {w w' : World} {e : Int} {L : List CR} {v : Value} (he : e = 0) (ho : w'.ownsRow w.heap.size 46 5 v L.length (rw5 L)) (hb : Below w.heap.size w w') : GP w e L (.returned (.tuple #[v, .int .i64 0])) w' := by
  subst he; exact ⟨_, rfl, fun h => absurd rfl h, fun _ => ho, hb⟩
end Go.Proofs.YtmkkckhfdafjnaaGreatDoor
/- Layer 3: what is put together of values, taken apart again (plain); Items, Members. -/
namespace Go.Proofs.YtmkkckhfdafjnaaGreatDoor
open Go.RowKit Go.Maps
end Go.Proofs.YtmkkckhfdafjnaaGreatDoor
/- Layer 3: a value's parts put together again (plain); rows of lists and of names that were built. -/
namespace Go.Proofs.YtmkkckhfdafjnaaGreatDoor
open Go.RowKit Go.Maps
theorem own_base {w : World} {B B' s n : Nat} {e : TypeId} {v : Value} {x : List Value} (h : w.ownsRow B e s v n x) (hb : B' ≤ B) : w.ownsRow B' e s v n x := by
  refine ⟨h.1, ?_⟩
  rcases h.2 with h | ⟨g', cap', cur, h', hb', rest⟩
  · exact .inl h
  · exact .inr ⟨g', cap', cur, h', Nat.le_trans hb hb', rest⟩
theorem own_below {w w' : World} {B s n : Nat} {e : TypeId} {v : Value} {x : List Value} (h : w.ownsRow B e s v n x) (b : Below w.heap.size w w') : w'.ownsRow B e s v n x :=
  h.kept (row := none) ⟨b.os, b.tape, b.output, b.size, fun k hk _ => b.block k hk⟩ (Classical.em _)
end Go.Proofs.YtmkkckhfdafjnaaGreatDoor
/- Plain facts of texts: the document's search for a code point (as in layer 1). -/
namespace Go.Proofs.YtmkkckhfdafjnaaGreatDoor
open Go.RowKit
/-- The bytes of a code point. -/
def enc (p : Int) : List Int :=
  if p < 128 then [p] else if p < 2048 then [192 + p / 64, 128 + p % 64] else if p < 65536 then [224 + p / 4096, 128 + p / 64 % 64, 128 + p % 64]
  else [240 + p / 262144, 128 + p / 4096 % 64, 128 + p / 64 % 64, 128 + p % 64]
/-- Numbers as bytes. -/
def mkB (L : List Int) : ByteArray := ⟨(L.map (fun x => UInt8.ofNat x.toNat)).toArray⟩
theorem isPt_range {p : Int} (h : isPt p = true) : 0 ≤ p ∧ p < 1114112 := by
  simp only [isPt, decide_eq_true_eq] at h; omega
theorem enc_range {p : Int} (h0 : 0 ≤ p) (h1 : p < 1114112) : ∀ x ∈ enc p, 0 ≤ x ∧ x < 256 := by
  intro x hx
  unfold enc at hx
  split at hx
  · simp at hx; omega
  split at hx
  · simp at hx; omega
  split at hx
  · simp at hx; omega
  · simp at hx; omega
theorem enc_len (p : Int) : 1 ≤ (enc p).length ∧ (enc p).length ≤ 4 := by
  unfold enc; (repeat' split) <;> simp
theorem mkB_size (L : List Int) : (mkB L).size = L.length := by simp [mkB, ByteArray.size]
theorem mkB_byt (L : List Int) (i : Nat) (h : i < L.length) (hr : 0 ≤ L.getD i 0 ∧ L.getD i 0 < 256) : byt (mkB L) i = L.getD i 0 := by
  unfold byt
  rw [dif_pos (by rw [mkB_size]; exact h)]
  have e : (mkB L)[i]'(by rw [mkB_size]; exact h) = UInt8.ofNat (L.getD i 0).toNat := by
    show (mkB L).data[i]'_ = _
    simp [mkB, List.getD, h]
  rw [e, UInt8.toNat_ofNat']; omega

/-- The bytes of a code point are read as it. -/
theorem dec_enc {s : ByteArray} {a : Nat} {p : Int} (hp : isPt p = true) (hs : a + (enc p).length ≤ s.size) (hb : ∀ j, j < (enc p).length → byt s (a + j) = (enc p).getD j 0) :
    decIs s a = true ∧ decP s a = p ∧ leadN (byt s a) = (enc p).length := by
  have hr := isPt_range hp
  have key : leadN (byt s a) = (enc p).length ∧ conts s (a + 1) ((enc p).length - 1) = true ∧ acc s (a + 1) (leadB (byt s a)) ((enc p).length - 1) = p ∧ szOf p = (enc p).length := by
    by_cases c1 : p < 128
    · have e : enc p = [p] := by unfold enc; rw [if_pos c1]
      rw [e] at hb hs ⊢
      have b0 : byt s a = p := by simpa using hb 0 (by simp)
      rw [b0]
      exact ⟨by unfold leadN; rw [if_pos c1]; rfl, rfl, by unfold leadB; rw [if_pos c1]; rfl, by unfold szOf; rw [if_pos c1]; rfl⟩
    by_cases c2 : p < 2048
    · have e : enc p = [192 + p / 64, 128 + p % 64] := by unfold enc; rw [if_neg c1, if_pos c2]
      rw [e] at hb hs ⊢
      simp only [List.length_cons, List.length_nil] at hs hb ⊢
      have b0 : byt s a = 192 + p / 64 := by simpa using hb 0 (by simp)
      have b1 : byt s (a + 1) = 128 + p % 64 := by simpa using hb 1 (by simp)
      refine ⟨?_, ?_, ?_, ?_⟩
      · unfold leadN; rw [b0]; (repeat' split) <;> omega
      · simp only [conts, Nat.add_zero, b1, Bool.true_and, decide_eq_true_eq]; omega
      · simp only [acc, Nat.add_zero, b1, b0, leadB]; (repeat' split) <;> omega
      · unfold szOf; (repeat' split) <;> omega
    by_cases c3 : p < 65536
    · have e : enc p = [224 + p / 4096, 128 + p / 64 % 64, 128 + p % 64] := by unfold enc; rw [if_neg c1, if_neg c2, if_pos c3]
      rw [e] at hb hs ⊢
      simp only [List.length_cons, List.length_nil] at hs hb ⊢
      have b0 : byt s a = 224 + p / 4096 := by simpa using hb 0 (by simp)
      have b1 : byt s (a + 1) = 128 + p / 64 % 64 := by simpa using hb 1 (by simp)
      have b2 : byt s (a + 1 + 1) = 128 + p % 64 := by simpa using hb 2 (by simp)
      refine ⟨?_, ?_, ?_, ?_⟩
      · unfold leadN; rw [b0]; (repeat' split) <;> omega
      · simp only [conts, Nat.add_zero, b1, b2, Bool.true_and, Bool.and_eq_true, decide_eq_true_eq]; omega
      · simp only [acc, Nat.add_zero, b1, b2, b0, leadB]; (repeat' split) <;> omega
      · unfold szOf; (repeat' split) <;> omega
    · have e : enc p = [240 + p / 262144, 128 + p / 4096 % 64, 128 + p / 64 % 64, 128 + p % 64] := by unfold enc; rw [if_neg c1, if_neg c2, if_neg c3]
      rw [e] at hb hs ⊢
      simp only [List.length_cons, List.length_nil] at hs hb ⊢
      have b0 : byt s a = 240 + p / 262144 := by simpa using hb 0 (by simp)
      have b1 : byt s (a + 1) = 128 + p / 4096 % 64 := by simpa using hb 1 (by simp)
      have b2 : byt s (a + 1 + 1) = 128 + p / 64 % 64 := by simpa using hb 2 (by simp)
      have b3 : byt s (a + 1 + 2) = 128 + p % 64 := by simpa using hb 3 (by simp)
      refine ⟨?_, ?_, ?_, ?_⟩
      · unfold leadN; rw [b0]; (repeat' split) <;> omega
      · simp only [conts, Nat.add_zero, b1, b2, b3, Bool.true_and, Bool.and_eq_true, decide_eq_true_eq]; omega
      · simp only [acc, Nat.add_zero, b1, b2, b3, b0, leadB]; (repeat' split) <;> omega
      · unfold szOf; (repeat' split) <;> omega
  obtain ⟨k1, k2, k3, k4⟩ := key
  have hl := enc_len p
  have hd : decIs s a = true := by
    simp only [decIs, k1, k2, k3, hp, k4, Bool.and_eq_true, decide_eq_true_eq, and_true]
    omega
  exact ⟨hd, by unfold decP; rw [if_pos hd, k1, k3], k1⟩
def m0 (b : Int) (z : Nat) : Int := if z = 2 then b % 32 else if z = 3 then b % 16 else if z = 4 then b % 8 else b
theorem byt_extract {s : ByteArray} {a z : Nat} (h : a + z ≤ s.size) (j : Nat) (hj : j < z) : byt (s.extract a (a + z)) j = byt s (a + j) := by
  have hs : (s.extract a (a + z)).size = z := by simp; omega
  unfold byt
  rw [dif_pos (by omega), dif_pos (by omega)]
  simp [ByteArray.getElem_extract]
end Go.Proofs.YtmkkckhfdafjnaaGreatDoor
/- The document's code points of a text: number, Is, Bytes, One (as in layer 1). -/
namespace Go.Proofs.YtmkkckhfdafjnaaGreatDoor
open Go.RowKit
set_option maxRecDepth 20000 in
theorem conv_own {w : World} {B : Nat} {v : Value} {L : List Int} (h : w.ownsRow B 5 1 v L.length (L.map (Value.int .u8))) (hr : ∀ x ∈ L, 0 ≤ x ∧ x < 256) :
    (convert 26 9 v).run Tryz.prog w = .ok (.string (mkB L)) w := by
  rcases h.2 with ⟨rfl, hn⟩ | ⟨g, cap, cur, rfl, hg, hgg, h1, h2, h3, h4⟩
  · have : L = [] := by cases L <;> simp_all
    subst this
    exact Lib.run_convert_nil_bytes w 26 9 5 0 Tryz.underlying26 Tryz.underlying5 Tryz.underlying9
  · have k := run_convert_bytes_back (P := Tryz.prog) w 26 9 5 ⟨g, 0, none⟩ cap (L.map (fun x => UInt8.ofNat x.toNat)) Tryz.underlying26 Tryz.underlying5 Tryz.underlying9 (fun j hj => by
      have hj' : j < L.length := by simpa using hj
      have hx := hr L[j] (List.getElem_mem hj')
      rw [Addr.add_lit, Nat.zero_add, h.cellAt j (by omega)]
      simp only [List.getElem?_map, List.getElem?_eq_getElem hj', Option.map_some, List.getElem_map, Option.some.injEq, Value.int.injEq, true_and]
      rw [UInt8.toNat_ofNat']; omega)
    rw [List.length_map] at k
    exact k
end Go.Proofs.YtmkkckhfdafjnaaGreatDoor
/- The document's code points of a text: Next, Points (as in layer 1). -/
namespace Go.Proofs.YtmkkckhfdafjnaaGreatDoor
open Go.RowKit
end Go.Proofs.YtmkkckhfdafjnaaGreatDoor
/- Plain facts on numbers for layer 2: what fits 64 bits, with its sign. No program in sight. -/
namespace Go.Proofs.YtmkkckhfdafjnaaGreatDoor.Nm
open Go.RowKit
/-- Does a number fit an int64? -/
def fits (z : Int) : Bool := decide (-9223372036854775808 ≤ z ∧ z ≤ 9223372036854775807)
/-- What comes of a number: itself or 0. -/
def val (z : Int) : Int := if fits z then z else 0
/-- Its error: none or 20. -/
def err (z : Int) : Int := if fits z then 0 else 20
/-- A sign and a size. -/
def sv (s m : Int) : Int := if s = 0 then -m else m

theorem fits_yes {z : Int} (h0 : -9223372036854775808 ≤ z) (h1 : z ≤ 9223372036854775807) : fits z = true := by unfold fits; simp; omega
theorem fits_no {z : Int} (h : z < -9223372036854775808 ∨ 9223372036854775807 < z) : fits z = false := by unfold fits; simp; omega
theorem val_yes {z : Int} (h0 : -9223372036854775808 ≤ z) (h1 : z ≤ 9223372036854775807) : val z = z := by unfold val; rw [fits_yes h0 h1]; rfl
theorem err_yes {z : Int} (h0 : -9223372036854775808 ≤ z) (h1 : z ≤ 9223372036854775807) : err z = 0 := by unfold err; rw [fits_yes h0 h1]; rfl
theorem val_no {z : Int} (h : z < -9223372036854775808 ∨ 9223372036854775807 < z) : val z = 0 := by unfold val; rw [fits_no h]; rfl
theorem err_no {z : Int} (h : z < -9223372036854775808 ∨ 9223372036854775807 < z) : err z = 20 := by unfold err; rw [fits_no h]; rfl
theorem fits_cases (z : Int) : (-9223372036854775808 ≤ z ∧ z ≤ 9223372036854775807 ∧ val z = z ∧ err z = 0) ∨ ((z < -9223372036854775808 ∨ 9223372036854775807 < z) ∧ val z = 0 ∧ err z = 20) := by
  by_cases h : -9223372036854775808 ≤ z ∧ z ≤ 9223372036854775807
  · exact .inl ⟨h.1, h.2, val_yes h.1 h.2, err_yes h.1 h.2⟩
  · have h' : z < -9223372036854775808 ∨ 9223372036854775807 < z := by omega
    exact .inr ⟨h', val_no h', err_no h'⟩
theorem err_two (z : Int) : err z = 0 ∨ err z = 20 := by rcases fits_cases z with ⟨_, _, _, h⟩ | ⟨_, _, h⟩ <;> simp [h]

theorem ret2 {k l : IntKind} {a b c d : Int} (h : a = b) (g : c = d) : Ending.returned (.tuple #[.int k a, .int l c]) = .returned (.tuple #[.int k b, .int l d]) := by rw [h, g]
theorem ret_bool {a b : Bool} (h : a = b) : Ending.returned (.bool a) = .returned (.bool b) := by rw [h]
theorem back_wrap (m : Int) (h0 : 0 ≤ m) (h1 : m ≤ 9223372036854775808) : wrap64 (IntKind.u64.wrap (-m)) = -m := by
  rw [IntKind.wrap_u64]; unfold wrap64; omega
end Go.Proofs.YtmkkckhfdafjnaaGreatDoor.Nm
namespace Go.Proofs.YtmkkckhfdafjnaaGreatDoor.Nm
open Go.RowKit
/-- What the table of limits holds. -/
def Lim (w : World) : Prop := w.cell? ⟨1, 0, none⟩ = some (.int .u64 9223372036854775808) ∧ w.cell? ⟨1, 1, none⟩ = some (.int .u64 9223372036854775807)

theorem limit0 (w : World) (l : Lim w) : Calls Tryz.prog 111 #[.int .u8 0] w fun e w' => e = .returned (.int .u64 9223372036854775808) ∧ w = w' := by
  obtain ⟨l0, _⟩ := l
  go_enter Tryz.func111, Tryz.ntmps111
  go_wp2
  go_ret
  exact ⟨rfl, rfl⟩
theorem limit1 (w : World) (l : Lim w) : Calls Tryz.prog 111 #[.int .u8 1] w fun e w' => e = .returned (.int .u64 9223372036854775807) ∧ w = w' := by
  obtain ⟨_, l1⟩ := l
  go_enter Tryz.func111, Tryz.ntmps111
  go_wp2
  go_ret
  exact ⟨rfl, rfl⟩
theorem add64_run (x y : Int) (hx : 0 ≤ x) (hy : 0 ≤ y) (w : World) : (callFunc 104 #[.int .u64 x, .int .u64 y, .int .u64 0]).run Tryz.prog w = .ok (.value (.tuple #[.int .u64 ((x + y) % 18446744073709551616), .int .u64 ((x + y) / 18446744073709551616)])) w := by
  rw [run_callFunc_extern Tryz.func104 (by kernel_rfl) (by kernel_rfl) (by kernel_rfl) (e := add64Entry) (by kernel_rfl), run_add64 x y 0 hx hy (by omega) (by omega)]
  simp only [Result.andThen, Int.add_zero]

theorem join_any (s m : Int) (w : World) (l : Lim w) (hs : s = 0 ∨ s = 1) (h0 : 0 ≤ m) (h1 : m < 18446744073709551616) :
    Calls Tryz.prog 105 #[.int .u8 s, .int .u64 m] w fun e w' => e = .returned (.tuple #[.int .i64 (val (sv s m)), .int .i64 (err (sv s m))]) ∧ w = w' := by
  rcases hs with rfl | rfl
  · by_cases h : m ≤ 9223372036854775808
    · go_enter Tryz.func105, Tryz.ntmps105
      go_wp2_with (go_at_call 111; refine (limit0 _ l).mono ?_; rintro e w' ⟨rfl, rfl⟩)
      go_ret2
      have hz : sv 0 m = -m := by simp [sv]
      exact ⟨ret2 (by rw [hz, back_wrap m h0 h, val_yes (by omega) (by omega)]) (by rw [hz, err_yes (by omega) (by omega)]), rfl⟩
    · go_enter Tryz.func105, Tryz.ntmps105
      go_wp2_with (go_at_call 111; refine (limit0 _ l).mono ?_; rintro e w' ⟨rfl, rfl⟩)
      go_ret2
      have hz : sv 0 m = -m := by simp [sv]
      exact ⟨ret2 (by rw [hz, val_no (by omega)]) (by rw [hz, err_no (by omega)]), rfl⟩
  · by_cases h : m ≤ 9223372036854775807
    · go_enter Tryz.func105, Tryz.ntmps105
      go_wp2_with (go_at_call 111; refine (limit1 _ l).mono ?_; rintro e w' ⟨rfl, rfl⟩)
      go_ret2
      have hz : sv 1 m = m := by simp [sv]
      exact ⟨ret2 (by rw [hz, val_yes (by omega) (by omega)]) (by rw [hz, err_yes (by omega) (by omega)]), rfl⟩
    · go_enter Tryz.func105, Tryz.ntmps105
      go_wp2_with (go_at_call 111; refine (limit1 _ l).mono ?_; rintro e w' ⟨rfl, rfl⟩)
      go_ret2
      have hz : sv 1 m = m := by simp [sv]
      exact ⟨ret2 (by rw [hz, val_no (by omega)]) (by rw [hz, err_no (by omega)]), rfl⟩

end Go.Proofs.YtmkkckhfdafjnaaGreatDoor.Nm

/- Layer 3: cells in memory; what the closure of Check finds. -/
import Derived.Test.YtfmgkndljppffaaC3
namespace Go.Proofs.Ytfmgkndljppffaa
open Go.RowKit Go.Maps
/-- A row of cells reads so. -/
def CV (w : World) (a : Option Addr) (n : Nat) (g : Nat → CR) : Prop :=
  ∀ i, i < n → ∃ b off, a = some ⟨b, off, none⟩ ∧ b < w.heap.size ∧ w.cell? ⟨b, off + i * 5, none⟩ = some (.int .u8 (g i).k) ∧ w.cell? ⟨b, off + i * 5 + 1, none⟩ = some (.string (g i).nm) ∧ w.cell? ⟨b, off + i * 5 + 2, none⟩ = some (.string (g i).tx) ∧ w.cell? ⟨b, off + i * 5 + 3, none⟩ = some (.int .i64 (g i).n) ∧ w.cell? ⟨b, off + i * 5 + 4, none⟩ = some (.int .i64 (g i).m)
/-- How large they are. -/
def CW (n : Nat) (g : Nat → CR) : Prop := ∀ i, i < n → (g i).k < 256 ∧ (g i).nm.size ≤ maxLen ∧ (g i).tx.size ≤ 1000000 ∧ -9223372036854775808 ≤ (g i).m ∧ (g i).m ≤ 9223372036854775807
theorem CV.same {w w' : World} {a : Option Addr} {n : Nat} {g : Nat → CR} (h : CV w a n g) (hs : w.heap.size ≤ w'.heap.size) (hb : ∀ b off, a = some ⟨b, off, none⟩ → b < w.heap.size → w'.heap[b]? = w.heap[b]?) : CV w' a n g := fun i hi => by
  obtain ⟨b, off, e, h0, h1, h2, h3, h4, h5⟩ := h i hi
  have hh := hb b off e h0
  have c : ∀ o, w'.cell? ⟨b, o, none⟩ = w.cell? ⟨b, o, none⟩ := fun o => World.cell?_of_block hh
  exact ⟨b, off, e, by omega, by rw [c]; exact h1, by rw [c]; exact h2, by rw [c]; exact h3, by rw [c]; exact h4, by rw [c]; exact h5⟩
theorem CV.below {w w' : World} {a : Option Addr} {n : Nat} {g : Nat → CR} (h : CV w a n g) (hb : Below w.heap.size w w') : CV w' a n g :=
  h.same hb.size fun b _ _ hl => hb.block b hl
theorem World.grownBy.far {w w1 w2 : World} {p : Option Nat} {b : Nat} (h : w.grownBy w1 p) (k : w1.grownBy w2 (some b)) (hb : w.heap.size ≤ b) : w.grownBy w2 p :=
  ⟨k.os.trans h.os, k.tape.trans h.tape, k.output.trans h.output, Nat.le_trans h.size k.size, fun i hi hne => (k.block i (Nat.lt_of_lt_of_le hi h.size) (fun e => by cases e; omega)).trans (h.block i hi hne)⟩
theorem Below.grown' {w w1 w2 : World} {p : Option Nat} (h : w.grownBy w1 p) (k : Below w1.heap.size w1 w2) : w.grownBy w2 p :=
  ⟨k.os.trans h.os, k.tape.trans h.tape, k.output.trans h.output, Nat.le_trans h.size k.size, fun i hi hne => (k.block i (Nat.lt_of_lt_of_le hi h.size)).trans (h.block i hi hne)⟩
/-- What the closure has captured, but for where it is. -/
structure Env (W : World) (pa pv pr pw : Nat) (a : Option Addr) (n cap : Nat) (g : Nat → CR) : Prop where
  v : W.cell? ⟨pv, 0, none⟩ = some (.slice a n cap)
  rules : ∀ k, k < 8 → W.cell? ⟨pr, k, none⟩ = some (.func (.func (fo k)) #[] #[])
  walk : W.cell? ⟨pw, 0, none⟩ = some (.func (.func 36) #[] #[.pointer (some ⟨pa, 0, none⟩), .pointer (some ⟨pv, 0, none⟩), .pointer (some ⟨pr, 0, none⟩), .pointer (some ⟨pw, 0, none⟩)])
  cv : CV W a n g
  n1 : pv ≠ pa
  n2 : pr ≠ pa
  n3 : pw ≠ pa
  n4 : ∀ b off, a = some ⟨b, off, none⟩ → b ≠ pa
theorem Env.up {W W' : World} {pa pv pr pw : Nat} {a : Option Addr} {n cap : Nat} {g : Nat → CR} (h : Env W pa pv pr pw a n cap g) (k : W.grownBy W' (some pa)) : Env W' pa pv pr pw a n cap g :=
  have f : ∀ {q : Nat} {o : Nat} {x : Value}, q ≠ pa → W.cell? ⟨q, o, none⟩ = some x → W'.cell? ⟨q, o, none⟩ = some x := fun hq hx => k.cell hx (fun e => hq (by cases e; rfl))
  ⟨f h.n1 h.v, fun i hi => f h.n2 (h.rules i hi), f h.n3 h.walk, h.cv.same k.size (fun b off e hl => k.block b hl (fun q => h.n4 b off e (by cases q; rfl))), h.n1, h.n2, h.n3, h.n4⟩
/-- Where it is. -/
def At (W : World) (pa p : Nat) : Prop := W.heap[pa]? = some (.cells #[.int .i64 (p : Nat)] 3)
theorem At.c {W : World} {pa p : Nat} (h : At W pa p) : W.cell? ⟨pa, 0, none⟩ = some (.int .i64 (p : Nat)) := by simp [World.cell?, show W.heap[pa]? = _ from h]
theorem At.f {W : World} {pa p : Nat} (h : At W pa p) : W.frozen? ⟨pa, 0, none⟩ = false := by simp [World.frozen?, show W.heap[pa]? = _ from h]
theorem At.lt {W : World} {pa p : Nat} (h : At W pa p) : pa < W.heap.size := (Array.getElem?_eq_some_iff.1 h).1
theorem At.set {W : World} {pa p : Nat} (h : At W pa p) (q : Nat) : At (W.setCell ⟨pa, 0, none⟩ (.int .i64 (q : Nat))) pa q := by
  unfold At at h ⊢
  simp [World.setCell, Array.getElem?_modify, h]
theorem At.keep {W W' : World} {pa p : Nat} {row : Option Nat} (h : At W pa p) (k : W.grownBy W' row) (hne : some pa ≠ row) : At W' pa p := (k.block pa h.lt hne).trans h
theorem grown_set (W : World) (pa : Nat) (v : Value) : W.grownBy (W.setCell ⟨pa, 0, none⟩ v) (some pa) :=
  ⟨rfl, rfl, rfl, by simp [World.setCell], fun i _ hne => RowKit.Below.heap_setCell _ _ _ _ (fun e => hne (by rw [show i = pa from e]))⟩
theorem grown_drew {W W' : World} {row : Option Nat} (h : W.grownBy W' row) (d : Nat) : W.grownBy (W'.drewN d) row := ⟨h.os, h.tape, h.output, h.size, h.block⟩
theorem grown_drew1 {W W' : World} {row : Option Nat} (h : W.grownBy W' row) : W.grownBy W'.drew row := ⟨h.os, h.tape, h.output, h.size, h.block⟩
theorem grown_refl (W : World) (row : Option Nat) : W.grownBy W row := ⟨rfl, rfl, rfl, Nat.le_refl _, fun _ _ _ => rfl⟩
end Go.Proofs.Ytfmgkndljppffaa

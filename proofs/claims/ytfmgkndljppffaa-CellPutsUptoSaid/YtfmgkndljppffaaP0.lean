/- Plain facts of layer 3: which cells are a value. No program in sight. -/
import Derived.Test.YtfmgkndljppffaaT0
namespace Go.Proofs.Ytfmgkndljppffaa
open Go.RowKit
/-- A cell. -/
structure CR where
  k : Nat
  nm : ByteArray
  tx : ByteArray
  n : Int
  m : Int
instance : Inhabited CR := ⟨⟨0, ⟨#[]⟩, ⟨#[]⟩, 0, 0⟩⟩
def em (s : ByteArray) : Bool := decide (s.size = 0)
def letB (b : UInt8) : Bool := b == 95 || (97 ≤ b && b ≤ 122) || (65 ≤ b && b ≤ 90)
def dgB (b : UInt8) : Bool := 48 ≤ b && b ≤ 57
def nmL : List UInt8 → Bool
  | [] => false
  | b :: r => letB b && r.all fun c => letB c || dgB c
def nmB (s : ByteArray) : Bool := nmL s.data.toList
def ckB (s : ByteArray) : Bool := decide (ckE s = 0)
/-- May a cell be, but for its name? -/
def oneP (c : CR) : Bool :=
  if c.k = 0 then em c.tx && decide (c.m = 0) && decide (c.n = 0)
  else if c.k = 1 then em c.tx && decide (c.m = 0) && (decide (c.n = 0) || decide (c.n = 1))
  else if c.k = 2 then em c.tx && decide (c.m = 0)
  else if c.k = 3 then decide (c.n = 0) && decide (c.m = 0) && ckB c.tx
  else if c.k = 4 ∨ c.k = 5 then decide (c.n = 0) && decide (c.m = 0) && nmB c.tx
  else if c.k = 6 ∨ c.k = 7 then decide (c.n = 0) && em c.tx && decide (0 ≤ c.m)
  else false
def headP (c : CR) : Bool := decide (c.k = 6) || decide (c.k = 7)
/-- May an item, a member have that name? -/
def namedP (obj : Bool) (names : List ByteArray) (s : ByteArray) : Bool :=
  if obj then !names.any (fun x => decide (x = s)) && !em s && ckB s else em s
/-- Behind so many values, one behind the other. -/
def kidsF (w : Nat → Option Nat) (g : Nat → CR) (n : Nat) (obj : Bool) : Nat → List ByteArray → Nat → Option Nat
  | 0, _, a => some a
  | m + 1, names, a =>
    if n ≤ a then none else if namedP obj names (g a).nm then
      match w a with
      | none => none
      | some a' => kidsF w g n obj m (if obj then (g a).nm :: names else names) a'
    else none
/-- Behind the value that begins at a place, with at most so many in each other. -/
def wk (g : Nat → CR) (n : Nat) : Nat → Nat → Option Nat
  | 0, a => if n ≤ a then none else if oneP (g a) && !headP (g a) then some (a + 1) else none
  | r + 1, a => if n ≤ a then none else if oneP (g a) then
      if headP (g a) then kidsF (wk g n r) g n (decide ((g a).k = 7)) (g a).m.toNat [] (a + 1) else some (a + 1)
    else none
/-- Are cells a value? -/
def ckC (g : Nat → CR) (n : Nat) : Bool := decide (0 < n) && decide (n ≤ 2048) && em (g 0).nm && decide (wk g n 16 0 = some n)
theorem wk_z (g : Nat → CR) (n a : Nat) : wk g n 0 a = if n ≤ a then none else if oneP (g a) && !headP (g a) then some (a + 1) else none := rfl
theorem wk_s (g : Nat → CR) (n r a : Nat) : wk g n (r + 1) a = if n ≤ a then none else if oneP (g a) then
      if headP (g a) then kidsF (wk g n r) g n (decide ((g a).k = 7)) (g a).m.toNat [] (a + 1) else some (a + 1)
    else none := rfl
theorem kidsF_lt {w : Nat → Option Nat} {g : Nat → CR} {n : Nat} {obj : Bool} (hw : ∀ a e, w a = some e → a < e ∧ e ≤ n) : ∀ (m : Nat) (names : List ByteArray) (a e : Nat), a ≤ n → kidsF w g n obj m names a = some e → a + m ≤ e ∧ e ≤ n
  | 0, _, a, e, ha, h => by simp [kidsF] at h; omega
  | m + 1, names, a, e, ha, h => by
    rw [kidsF] at h
    split at h
    · cases h
    · split at h
      · cases hx : w a with
        | none => rw [hx] at h; cases h
        | some a' =>
          rw [hx] at h
          have h1 := hw a a' hx
          have h2 := kidsF_lt hw m _ a' e h1.2 h
          omega
      · cases h
theorem wk_lt {g : Nat → CR} {n : Nat} : ∀ (r a e : Nat), wk g n r a = some e → a < e ∧ e ≤ n
  | 0, a, e, h => by
    rw [wk] at h
    split at h
    · cases h
    · split at h
      · cases h; omega
      · cases h
  | r + 1, a, e, h => by
    rw [wk] at h
    split at h
    · cases h
    · split at h
      · split at h
        · have := kidsF_lt (wk_lt r) _ _ _ _ (by omega) h
          omega
        · cases h; omega
      · cases h
theorem kidsF_mono {w w' : Nat → Option Nat} {g : Nat → CR} {n : Nat} {obj : Bool} (hw : ∀ a e, w a = some e → w' a = some e) : ∀ (m : Nat) (names : List ByteArray) (a e : Nat), kidsF w g n obj m names a = some e → kidsF w' g n obj m names a = some e
  | 0, _, a, e, h => h
  | m + 1, names, a, e, h => by
    rw [kidsF] at h ⊢
    split at h
    · cases h
    · rename_i h1
      rw [if_neg h1]
      split at h
      · rename_i h2
        rw [if_pos h2]
        cases hx : w a with
        | none => rw [hx] at h; cases h
        | some a' =>
          rw [hx] at h
          rw [hw a a' hx]
          exact kidsF_mono hw m _ a' e h
      · cases h
theorem wk_succ {g : Nat → CR} {n : Nat} : ∀ (r a e : Nat), wk g n r a = some e → wk g n (r + 1) a = some e
  | 0, a, e, h => by
    rw [wk_z] at h
    rw [wk_s]
    split at h
    · cases h
    · rename_i h1
      rw [if_neg h1]
      split at h
      · rename_i h2
        simp only [Bool.and_eq_true, Bool.not_eq_true'] at h2
        rw [if_pos h2.1, if_neg (by rw [h2.2]; simp)]
        exact h
      · cases h
  | r + 1, a, e, h => by
    rw [wk_s] at h
    rw [wk_s]
    split at h
    · cases h
    · rename_i h1
      rw [if_neg h1]
      split at h
      · rename_i h2
        rw [if_pos h2]
        split at h
        · rename_i h3
          rw [if_pos h3]
          exact kidsF_mono (wk_succ r) _ _ _ _ h
        · rename_i h3
          rw [if_neg h3]
          exact h
      · cases h
theorem wk_up {g : Nat → CR} {n : Nat} {r r' a e : Nat} (hr : r ≤ r') (h : wk g n r a = some e) : wk g n r' a = some e := by
  obtain ⟨d, rfl⟩ : ∃ d, r' = r + d := ⟨r' - r, by omega⟩
  clear hr
  induction d with
  | zero => exact h
  | succ d ih => exact wk_succ _ _ _ ih
/-- So many values, one behind the other. -/
def Chain (g : Nat → CR) (n : Nat) : Nat → Nat → Nat → Prop
  | 0, a, e => a = e
  | o + 1, a, e => ∃ a', wk g n 16 a = some a' ∧ Chain g n o a' e
theorem Chain.le {g : Nat → CR} {n : Nat} : ∀ (o a e : Nat), Chain g n o a e → a + o ≤ e ∧ (e = a ∨ e ≤ n)
  | 0, a, e, h => by have : a = e := h; omega
  | o + 1, a, e, h => by
    obtain ⟨a', h1, h2⟩ := h
    have h3 := wk_lt _ _ _ h1
    have h4 := Chain.le o a' e h2
    omega
theorem Chain.add {g : Nat → CR} {n : Nat} : ∀ (o p a b e : Nat), Chain g n o a b → Chain g n p b e → Chain g n (o + p) a e
  | 0, p, a, b, e, h, k => by have : a = b := h; subst this; simpa using k
  | o + 1, p, a, b, e, h, k => by
    obtain ⟨a', h1, h2⟩ := h
    rw [show o + 1 + p = (o + p) + 1 by omega]
    exact ⟨a', h1, Chain.add o p a' b e h2 k⟩
theorem kidsF_chain {g : Nat → CR} {n r : Nat} {obj : Bool} (hr : r ≤ 16) : ∀ (m : Nat) (names : List ByteArray) (a e : Nat), kidsF (wk g n r) g n obj m names a = some e → Chain g n m a e
  | 0, _, a, e, h => by simp [kidsF] at h; exact h
  | m + 1, names, a, e, h => by
    rw [kidsF] at h
    split at h
    · cases h
    · split at h
      · cases hx : wk g n r a with
        | none => rw [hx] at h; cases h
        | some a' =>
          rw [hx] at h
          exact ⟨a', wk_up hr hx, kidsF_chain hr m _ a' e h⟩
      · cases h
theorem one_leaf {c : CR} (h1 : oneP c = true) (h2 : headP c = false) : c.m = 0 := by
  unfold oneP at h1
  simp only [headP, Bool.or_eq_false_iff, decide_eq_false_iff_not] at h2
  repeat' split at h1
  all_goals first
    | cases h1
    | (simp only [Bool.and_eq_true, decide_eq_true_eq] at h1; first | exact h1.1.2 | exact h1.2 | (exfalso; omega))
theorem one_head {c : CR} (h1 : oneP c = true) (h2 : headP c = true) : c.n = 0 ∧ em c.tx = true ∧ 0 ≤ c.m ∧ (c.k = 6 ∨ c.k = 7) := by
  simp only [headP, Bool.or_eq_true, decide_eq_true_eq] at h2
  unfold oneP at h1
  rw [if_neg (by omega), if_neg (by omega), if_neg (by omega), if_neg (by omega), if_neg (by omega), if_pos h2] at h1
  simp only [Bool.and_eq_true, decide_eq_true_eq] at h1
  exact ⟨h1.1.1, h1.1.2, h1.2, h2⟩
/-- What stands at the head of a value: the values in it, one behind the other. -/
theorem wk_open {g : Nat → CR} {n r a e : Nat} (hr : r ≤ 16) (h : wk g n r a = some e) : a < n ∧ oneP (g a) = true ∧ 0 ≤ (g a).m ∧ Chain g n (g a).m.toNat (a + 1) e := by
  cases r with
  | zero =>
    rw [wk] at h
    split at h
    · cases h
    · split at h
      · rename_i h2
        simp only [Bool.and_eq_true, Bool.not_eq_true'] at h2
        have := one_leaf h2.1 h2.2
        cases h
        refine ⟨by omega, h2.1, by omega, ?_⟩
        rw [this]; rfl
      · cases h
  | succ r =>
    rw [wk] at h
    split at h
    · cases h
    · split at h
      · rename_i h2
        split at h
        · rename_i h3
          exact ⟨by omega, h2, (one_head h2 h3).2.2.1, kidsF_chain (by omega) _ _ _ _ h⟩
        · rename_i h3
          have := one_leaf h2 (by simpa using h3)
          cases h
          refine ⟨by omega, h2, by omega, ?_⟩
          rw [this]; rfl
      · cases h
/-- One round of skip. -/
theorem Chain.step {g : Nat → CR} {n o a e : Nat} (h : Chain g n (o + 1) a e) : a < n ∧ a < e ∧ 0 ≤ (g a).m ∧ Chain g n (o + (g a).m.toNat) (a + 1) e := by
  obtain ⟨a', h1, h2⟩ := h
  obtain ⟨h3, _, h4, h5⟩ := wk_open (Nat.le_refl _) h1
  have := Chain.le _ _ _ h2
  have := wk_lt _ _ _ h1
  refine ⟨h3, by omega, h4, ?_⟩
  rw [Nat.add_comm]
  exact Chain.add _ _ _ _ _ h5 h2
theorem kidsF_at {g : Nat → CR} {n r : Nat} {obj : Bool} (hw : ∀ a e, wk g n r a = some e → ∀ b, a ≤ b → b < e → ∃ e', wk g n r b = some e' ∧ e' ≤ e) : ∀ (m : Nat) (names : List ByteArray) (a e : Nat), kidsF (wk g n r) g n obj m names a = some e → ∀ b, a ≤ b → b < e → ∃ e', wk g n r b = some e' ∧ e' ≤ e
  | 0, _, a, e, h, b, h1, h2 => by simp [kidsF] at h; omega
  | m + 1, names, a, e, h, b, h1, h2 => by
    rw [kidsF] at h
    split at h
    · cases h
    · split at h
      · cases hx : wk g n r a with
        | none => rw [hx] at h; cases h
        | some a' =>
          rw [hx] at h
          have h3 := (kidsF_lt (wk_lt r) _ _ _ _ (wk_lt _ _ _ hx).2 h).1
          by_cases hb : b < a'
          · obtain ⟨e', g1, g2⟩ := hw a a' hx b h1 hb
            exact ⟨e', g1, by omega⟩
          · exact kidsF_at hw m _ a' e h b (by omega) h2
      · cases h
theorem wk_at {g : Nat → CR} {n : Nat} : ∀ (r a e : Nat), wk g n r a = some e → ∀ b, a ≤ b → b < e → ∃ e', wk g n r b = some e' ∧ e' ≤ e
  | 0, a, e, h, b, h1, h2 => by
    have hh := h
    rw [wk] at h
    split at h
    · cases h
    · split at h
      · cases h
        obtain rfl : a = b := by omega
        exact ⟨_, hh, Nat.le_refl _⟩
      · cases h
  | r + 1, a, e, h, b, h1, h2 => by
    have hh := h
    rw [wk] at h
    split at h
    · cases h
    · split at h
      · split at h
        · by_cases hb : b = a
          · subst hb; exact ⟨_, hh, Nat.le_refl _⟩
          · obtain ⟨e', g1, g2⟩ := kidsF_at (wk_at r) _ _ _ _ h b (by omega) h2
            exact ⟨e', wk_succ _ _ _ g1, g2⟩
        · cases h
          obtain rfl : a = b := by omega
          exact ⟨_, hh, Nat.le_refl _⟩
      · cases h
end Go.Proofs.Ytfmgkndljppffaa

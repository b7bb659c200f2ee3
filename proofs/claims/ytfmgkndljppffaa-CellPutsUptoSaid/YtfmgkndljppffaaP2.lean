/- Plain facts of layer 3: where items and members begin; values put together. No program in sight. -/
import Derived.Test.YtfmgkndljppffaaP1
namespace Go.Proofs.Ytfmgkndljppffaa
open Go.RowKit
theorem ckC_parts {g : Nat → CR} {n : Nat} (h : ckC g n = true) : 0 < n ∧ n ≤ 2048 ∧ em (g 0).nm = true ∧ wk g n 16 0 = some n := by
  unfold ckC at h
  simp only [Bool.and_eq_true, decide_eq_true_eq] at h
  exact ⟨h.1.1.1, h.1.1.2, h.1.2, h.2⟩
theorem ckC_mk {g : Nat → CR} {n : Nat} (h1 : 0 < n) (h2 : n ≤ 2048) (h3 : em (g 0).nm = true) (h4 : wk g n 16 0 = some n) : ckC g n = true := by
  unfold ckC
  simp only [Bool.and_eq_true, decide_eq_true_eq]
  exact ⟨⟨⟨h1, h2⟩, h3⟩, h4⟩
/-- Behind the value that begins at a place. -/
def nx (g : Nat → CR) (n a : Nat) : Nat := (wk g n 16 a).getD a
/-- Where the i-th value from a place on begins. -/
def bd (g : Nat → CR) (n a : Nat) : Nat → Nat
  | 0 => a
  | i + 1 => nx g n (bd g n a i)
theorem bd_next (g : Nat → CR) (n a : Nat) : ∀ i, bd g n a (i + 1) = bd g n (nx g n a) i
  | 0 => rfl
  | i + 1 => by show nx g n (bd g n a (i + 1)) = nx g n (bd g n (nx g n a) i); rw [bd_next g n a i]
theorem nx_some {g : Nat → CR} {n a e : Nat} (h : wk g n 16 a = some e) : nx g n a = e := by unfold nx; rw [h]; rfl
theorem bd_chain {g : Nat → CR} {n : Nat} : ∀ (m a e : Nat), Chain g n m a e → (∀ i, i < m → wk g n 16 (bd g n a i) = some (bd g n a (i + 1))) ∧ bd g n a m = e
  | 0, a, e, h => ⟨fun i hi => by omega, h⟩
  | m + 1, a, e, h => by
    obtain ⟨a', h1, h2⟩ := h
    have hn := nx_some h1
    obtain ⟨k1, k2⟩ := bd_chain m a' e h2
    refine ⟨fun i hi => ?_, by rw [bd_next, hn]; exact k2⟩
    cases i with
    | zero => show wk g n 16 a = some (nx g n a); rw [hn]; exact h1
    | succ i =>
      rw [bd_next, bd_next, hn]
      exact k1 i (by omega)
theorem chain_bd {g : Nat → CR} {n : Nat} (a : Nat) (b : Nat → Nat) : ∀ (m : Nat), (∀ i, i < m → wk g n 16 (b i) = some (b (i + 1))) → b 0 = a → ∀ i, i ≤ m → bd g n a i = b i
  | m, h, h0, 0, _ => h0.symm
  | m, h, h0, i + 1, hi => by
    show nx g n (bd g n a i) = _
    rw [chain_bd a b m h h0 i (by omega)]
    exact nx_some (h i (by omega))
/-- The members' names of an object are apart. -/
theorem names_apart {g : Nat → CR} {n r a e : Nat} (hr : r ≤ 16) (h : wk g n r a = some e) (hk : (g a).k = 7) : ∀ i, i < (g a).m.toNat → namedP true [] (g (bd g n (a + 1) i)).nm = true ∧ ∀ j, j < i → (g (bd g n (a + 1) j)).nm ≠ (g (bd g n (a + 1) i)).nm := by
  have hc := (wk_open hr h).2.2.2
  have hb := (bd_chain _ _ _ hc).1
  cases r with
  | zero =>
    rw [wk_z] at h
    have : headP (g a) = true := by simp [headP, hk]
    rw [this] at h
    simp at h
  | succ r =>
    rw [wk_s] at h
    split at h
    · cases h
    · split at h
      · rw [if_pos (by simp [headP, hk]), hk] at h
        intro i hi
        have hbr : ∀ i, i < (g a).m.toNat → wk g n r (bd g n (a + 1) i) = some (bd g n (a + 1) (i + 1)) := by
          have K : ∀ (m : Nat) (names : List ByteArray) (b : Nat → Nat), kidsF (wk g n r) g n true m names (b 0) = some e → (∀ i, i < m → wk g n 16 (b i) = some (b (i + 1))) → ∀ i, i < m → wk g n r (b i) = some (b (i + 1)) := by
            intro m
            induction m with
            | zero => intro _ _ _ _ i hi; omega
            | succ m ih =>
              intro names b hk hb i hi
              rw [kidsF] at hk
              split at hk
              · cases hk
              · split at hk
                · cases hx : wk g n r (b 0) with
                  | none => rw [hx] at hk; cases hk
                  | some a' =>
                    rw [hx] at hk
                    have e1 := wk_up (r' := 16) (by omega) hx
                    rw [hb 0 (by omega)] at e1
                    simp only [Option.some.injEq] at e1
                    cases i with
                    | zero => rw [hx, e1]
                    | succ i =>
                      rw [← e1] at hk
                      exact ih _ (fun t => b (t + 1)) hk (fun t ht => hb (t + 1) (by omega)) i (by omega)
                · cases hk
          exact K _ _ (bd g n (a + 1)) h hb
        have k := kidsF_names _ [] (bd g n (a + 1)) (by rw [show bd g n (a + 1) 0 = a + 1 from rfl, show decide ((7 : Nat) = 7) = true from rfl] at *; rw [h]; simp) hbr i hi
        exact ⟨k.1, (k.2 rfl).2⟩
      · cases h
end Go.Proofs.Ytfmgkndljppffaa

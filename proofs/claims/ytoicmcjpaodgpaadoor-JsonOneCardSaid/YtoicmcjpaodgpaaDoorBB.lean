/- Layer 4: numbers, as they are written, are read (plain). -/
import Derived.Test.YtoicmcjpaodgpaaDoorBA
import Derived.Test.YtoicmcjpaodgpaaDoorN5
import Derived.Test.YtoicmcjpaodgpaaDoorK6
namespace Go.Proofs.YtoicmcjpaodgpaaDoor
open Go.RowKit Go.Lib
/-- What may stand behind a value: nothing that goes on with a number. -/
def Fo (b : Int) : Prop := isDg b = false ∧ b ≠ 46 ∧ b ≠ 101 ∧ b ≠ 69
theorem dg_at {s : ByteArray} : ∀ (L : List Int) (i : Nat), (∀ c ∈ L, isDg c = true) → AtL s i L → isDg (byt s (i + L.length)) = false → dg s i = i + L.length
  | [], i, _, _, h => dg_stop h
  | c :: r, i, hc, h, hf => by
    have e : i + 1 + r.length = i + (c :: r).length := by simp; omega
    rw [dg_step (by rw [h.2.1]; exact hc c (by simp)), dg_at r (i + 1) (fun x hx => hc x (by simp [hx])) h.2.2 (by rw [e]; exact hf), e]
/-- Digits, as a number's are. -/
def DgL (L : List Int) : Prop := (∀ c ∈ L, isDg c = true) ∧ L ≠ [] ∧ (L.head? = some 48 → L = [48])
theorem bI_mkl (l : List UInt8) : bI ⟨l.toArray⟩ = l.map fun b => (b.toNat : Int) := rfl
theorem dec_dgl (u : Nat) : DgL (bI ⟨(decDigits u).toArray⟩) := by
  obtain ⟨d1, d2, d3, d4⟩ := Nm.dec_all u
  have hall : ∀ k, k < (decDigits u).length → 48 ≤ Nm.byt ⟨(decDigits u).toArray⟩ k ∧ Nm.byt ⟨(decDigits u).toArray⟩ k ≤ 57 := fun k hk => Nm.allD_byte _ _ k hk d1
  have hb : ∀ k, Nm.byt ⟨(decDigits u).toArray⟩ k = byt ⟨(decDigits u).toArray⟩ k := fun k => rfl
  have hlen : (bI ⟨(decDigits u).toArray⟩).length = (decDigits u).length := by rw [bI_len]; rfl
  refine ⟨fun c hc => ?_, fun e => ?_, fun e => ?_⟩
  · obtain ⟨k, hk, rfl⟩ := List.mem_iff_getElem.1 hc
    have e := bI_at ⟨(decDigits u).toArray⟩ k (by rw [hlen] at hk; exact hk)
    rw [List.getElem?_eq_getElem hk] at e
    have h := hall k (by rw [hlen] at hk; exact hk)
    rw [hb] at h
    rw [Option.some.inj e]
    unfold isDg
    simp; omega
  · rw [e] at hlen; simp at hlen; omega
  · have e0 := bI_at ⟨(decDigits u).toArray⟩ 0 d4
    rw [← List.head?_eq_getElem?] at e0
    have h48 : byt ⟨(decDigits u).toArray⟩ 0 = 48 := by rw [e] at e0; exact (Option.some.inj e0).symm
    have hu := d3 h48
    subst hu
    rw [decDigits, dif_pos (by decide)]
    rfl
theorem itT_bI (n : Int) : ∃ D, DgL D ∧ (bI (itT n) = D ∨ bI (itT n) = 45 :: D) := by
  unfold itT
  by_cases h : n < 0
  · refine ⟨_, dec_dgl n.natAbs, .inr ?_⟩
    have e : itoa n = 45 :: decDigits n.natAbs := by unfold itoa; rw [if_pos h]
    rw [e]; rfl
  · refine ⟨_, dec_dgl n.toNat, .inl ?_⟩
    have e : itoa n = decDigits n.toNat := by unfold itoa; rw [if_neg h]
    rw [e]
theorem isDg_45 : isDg 45 = false := by decide
/-- Behind a sign: digits. -/
theorem int_at {s : ByteArray} {a : Nat} {D : List Int} (hD : DgL D) (h : AtL s a D) (hf : isDg (byt s (a + D.length)) = false) : (if byt s a = 48 then Rs.ok (a + 1) else if dg s a = a then .bad 40 else .ok (dg s a)) = .ok (a + D.length) := by
  obtain ⟨h1, h2, h3⟩ := hD
  cases D with
  | nil => exact absurd rfl h2
  | cons c r =>
    by_cases hc : c = 48
    · have e := h3 (by rw [hc]; rfl)
      rw [e] at h ⊢
      rw [if_pos h.2.1]
      rfl
    · rw [if_neg (by rw [h.2.1]; exact hc), dg_at _ _ h1 h hf, if_neg (by simp)]
theorem fo_frac {s : ByteArray} {b : Nat} (h : Fo (byt s b)) : expoM s (fracM s b) = b := by
  have e : fracM s b = b := by unfold fracM; rw [if_neg h.2.1]
  rw [e]
  unfold expoM
  rw [if_neg (by have := h.2.2; omega)]
/-- A number is read. -/
theorem num_at {s : ByteArray} {i : Nat} {n : Int} (hn : i64ok n) (h : AtL s i (bI (itT n))) (hf : Fo (byt s (i + (itT n).size))) : numM s i = .ok (n, i + (itT n).size) := by
  obtain ⟨D, hD, hb⟩ := itT_bI n
  have hsz := bI_len (itT n)
  have hx := at_extract h
  have hi : intM s i = .ok (i + (itT n).size) := by
    unfold intM
    dsimp only
    rcases hb with hb | hb
    · rw [hb] at h hsz
      rw [← hsz] at hf ⊢
      have h45 : ¬ byt s i = 45 := by
        cases hDD : D with
        | nil => exact absurd hDD hD.2.1
        | cons c r =>
          rw [hDD] at h
          have := hD.1 c (by rw [hDD]; simp)
          intro e
          rw [h.2.1] at e
          rw [e, isDg_45] at this
          cases this
      rw [if_neg h45]
      exact int_at hD h hf.1
    · rw [hb] at h hsz
      have e : i + 1 + D.length = i + (itT n).size := by rw [← hsz]; simp; omega
      rw [← e] at hf ⊢
      rw [if_pos h.2.1]
      exact int_at hD h.2.2 hf.1
  have hext : s.extract i (i + (itT n).size) = itT n := bI_inj (by rw [← hsz]; exact hx)
  unfold numM
  rw [hi, Rs.bind_ok]
  dsimp only
  rw [fo_frac hf, hext]
  obtain ⟨r1, r2⟩ := Nm.read_itoa n hn.1 hn.2
  unfold itT
  rw [r1, r2, if_pos rfl]
theorem itT_first (n : Int) : ∃ c r, bI (itT n) = c :: r ∧ (c = 45 ∨ isDg c = true) := by
  obtain ⟨D, hD, hb⟩ := itT_bI n
  rcases hb with hb | hb
  · cases hDD : D with
    | nil => exact absurd hDD hD.2.1
    | cons c r => exact ⟨c, r, by rw [hb, hDD], .inr (hD.1 c (by rw [hDD]; simp))⟩
  · exact ⟨45, D, hb, .inl rfl⟩
end Go.Proofs.YtoicmcjpaodgpaaDoor

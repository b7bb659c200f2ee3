import Derived.Test.YtoicmcjpaodgpaaDoorK10
import Derived.Test.YtoicmcjpaodgpaaDoorK6
import Derived.Lib.ItoaMem
/- Layer 2: a number's digits tell it (as in whole's Plain3). -/
namespace Go.Proofs.YtoicmcjpaodgpaaDoor.Nm
open Go.RowKit Go.Lib
theorem byt_mk (l : List UInt8) (k : Nat) : byt ⟨l.toArray⟩ k = ((l.getD k 0).toNat : Int) := by
  unfold byt
  have hsz : (⟨l.toArray⟩ : ByteArray).size = l.length := rfl
  by_cases h : k < l.length
  · rw [dif_pos (by rw [hsz]; exact h)]
    have : (⟨l.toArray⟩ : ByteArray)[k]'(by rw [hsz]; exact h) = l[k] := rfl
    rw [this]; simp [List.getD, h]
  · rw [dif_neg (by rw [hsz]; exact h)]; simp [List.getD, h]
theorem byt_app (l m : List UInt8) (k : Nat) (h : k < l.length) : byt ⟨(l ++ m).toArray⟩ k = byt ⟨l.toArray⟩ k := by
  rw [byt_mk, byt_mk]; simp [List.getD, List.getElem?_append_left h]
theorem byt_last (l : List UInt8) (c : UInt8) : byt ⟨(l ++ [c]).toArray⟩ l.length = (c.toNat : Int) := by
  rw [byt_mk]; simp [List.getD]
theorem allD_app (l m : List UInt8) : ∀ k, k ≤ l.length → allD ⟨(l ++ m).toArray⟩ k = allD ⟨l.toArray⟩ k := by
  intro k
  induction k with
  | zero => intro _; rfl
  | succ k ih => intro h; simp only [allD]; rw [ih (by omega), byt_app l m k (by omega)]
theorem valD_app (l m : List UInt8) : ∀ k, k ≤ l.length → valD ⟨(l ++ m).toArray⟩ k = valD ⟨l.toArray⟩ k := by
  intro k
  induction k with
  | zero => intro _; rfl
  | succ k ih => intro h; simp only [valD]; rw [ih (by omega), byt_app l m k (by omega)]
/-- What digits tell, as a list. -/
def valL (l : List UInt8) : Int := valD ⟨l.toArray⟩ l.length
def allL (l : List UInt8) : Bool := allD ⟨l.toArray⟩ l.length
theorem valL_snoc (l : List UInt8) (c : UInt8) : valL (l ++ [c]) = valL l * 10 + ((c.toNat : Int) - 48) := by
  unfold valL
  rw [List.length_append, List.length_singleton]
  simp only [valD]
  rw [valD_app l [c] l.length (Nat.le_refl _), byt_last]
theorem allL_snoc (l : List UInt8) (c : UInt8) : allL (l ++ [c]) = (allL l && decide (48 ≤ (c.toNat : Int) ∧ (c.toNat : Int) ≤ 57)) := by
  unfold allL
  rw [List.length_append, List.length_singleton]
  simp only [allD]
  rw [allD_app l [c] l.length (Nat.le_refl _), byt_last]
theorem digit_toNat (d : Nat) (h : d < 10) : (UInt8.ofNat (48 + d)).toNat = 48 + d := by simp; omega
theorem dec_all (u : Nat) : allL (decDigits u) = true ∧ valL (decDigits u) = u ∧ (byt ⟨(decDigits u).toArray⟩ 0 = 48 → u = 0) ∧ 0 < (decDigits u).length := by
  induction u using Nat.strongRecOn with
  | _ u ih =>
    by_cases h : u < 10
    · rw [decDigits, dif_pos h]
      have hd := digit_toNat u h
      have e : [UInt8.ofNat (48 + u)] = [] ++ [UInt8.ofNat (48 + u)] := rfl
      refine ⟨?_, ?_, ?_, by simp⟩
      · rw [e, allL_snoc, hd]; simp [allL, allD]; omega
      · rw [e, valL_snoc, hd]; simp [valL, valD]; omega
      · intro hb; rw [byt_mk] at hb; simp only [List.getD_cons_zero] at hb; rw [hd] at hb; omega
    · obtain ⟨i1, i2, i3, i4⟩ := ih (u / 10) (by omega)
      rw [decDigits, dif_neg h]
      have hd := digit_toNat (u % 10) (by omega)
      refine ⟨?_, ?_, ?_, by simp⟩
      · rw [allL_snoc, hd, i1]; simp; omega
      · rw [valL_snoc, hd, i2]; omega
      · intro hb; rw [byt_app _ _ 0 i4] at hb; have := i3 hb; omega
theorem valL_pos (l : List UInt8) (h : allL l = true) (h0 : 0 < l.length) (h1 : byt ⟨l.toArray⟩ 0 ≠ 48) : 1 ≤ valL l := by
  have hb := allD_byte _ _ 0 h0 h
  have hm := valD_mono _ _ 1 h0 h
  have e : valD ⟨l.toArray⟩ 1 = 0 * 10 + (byt ⟨l.toArray⟩ 0 - 48) := rfl
  unfold valL; omega
/-- Digits are those of what they tell. -/
theorem dec_back : ∀ (n : Nat) (l : List UInt8), l.length = n + 1 → allL l = true → (byt ⟨l.toArray⟩ 0 = 48 → l.length = 1) → decDigits (valL l).toNat = l := by
  intro n
  induction n with
  | zero =>
    intro l hl ha _
    obtain ⟨c, rfl⟩ := List.length_eq_one_iff.1 hl
    have e : [c] = [] ++ [c] := rfl
    rw [e, allL_snoc] at ha
    simp only [Bool.and_eq_true, decide_eq_true_eq] at ha
    rw [e, valL_snoc]
    have e0 : valL [] = 0 := rfl
    rw [e0, decDigits, dif_pos (by omega)]
    simp only [List.nil_append, List.cons.injEq, and_true]
    apply UInt8.toNat_inj.1
    rw [digit_toNat _ (by omega)]; omega
  | succ n ih =>
    intro l hl ha h0
    obtain ⟨m, c, rfl⟩ : ∃ m c, l = m ++ [c] := ⟨l.dropLast, l.getLast (by intro h; rw [h] at hl; simp at hl), (List.dropLast_concat_getLast _).symm⟩
    have hm : m.length = n + 1 := by simp at hl; omega
    rw [allL_snoc] at ha
    simp only [Bool.and_eq_true, decide_eq_true_eq] at ha
    rw [byt_app m [c] 0 (by omega)] at h0
    have h48 : byt ⟨m.toArray⟩ 0 ≠ 48 := fun h => by have := h0 h; simp at this; omega
    have hp := valL_pos m ha.1 (by omega) h48
    have i := ih m hm ha.1 (fun h => absurd h h48)
    rw [valL_snoc, decDigits, dif_neg (by omega)]
    rw [show (valL m * 10 + ((c.toNat : Int) - 48)).toNat / 10 = (valL m).toNat from by omega, i]
    congr 1
    simp only [List.cons.injEq, and_true]
    apply UInt8.toNat_inj.1
    rw [digit_toNat _ (by omega)]; omega
/-- A text by its list. -/
theorem mk_list (s : ByteArray) : (⟨s.data.toList.toArray⟩ : ByteArray) = s := rfl
theorem areD_list (l : List UInt8) (h0 : 0 < l.length) (h1 : byt ⟨l.toArray⟩ 0 = 48 → l.length = 1) (ha : allL l = true) : areD ⟨l.toArray⟩ = true := by
  have hsz : (⟨l.toArray⟩ : ByteArray).size = l.length := rfl
  unfold areD
  rw [hsz]
  have : allD ⟨l.toArray⟩ l.length = true := ha
  by_cases hb : byt ⟨l.toArray⟩ 0 = 48
  · simp [hb, h1 hb, ← this]
  · simp [h0, hb, this]
theorem dec_first (u : Nat) : byt ⟨(decDigits u).toArray⟩ 0 = 48 → (decDigits u).length = 1 := by
  intro h
  have := (dec_all u).2.2.1 h
  subst this; rw [decDigits, dif_pos (by decide)]; rfl
theorem bare_minus (l : List UInt8) : bare ⟨(45 :: l).toArray⟩ = ⟨l.toArray⟩ ∧ sgn ⟨(45 :: l).toArray⟩ = 0 := by
  have hn : isNeg ⟨(45 :: l).toArray⟩ = true := by
    unfold isNeg
    have hsz : (⟨(45 :: l).toArray⟩ : ByteArray).size = l.length + 1 := rfl
    rw [hsz, byt_mk]; simp
  unfold bare sgn
  rw [hn]
  refine ⟨?_, rfl⟩
  simp only [if_true]
  rw [Lib.extract_eq]
  have hsz : (⟨(45 :: l).toArray⟩ : ByteArray).size = l.length + 1 := rfl
  rw [hsz]
  simp
/-- What is written is read. -/
theorem read_itoa (n : Int) (h0 : -9223372036854775808 ≤ n) (h1 : n ≤ 9223372036854775807) : rdV ⟨(itoa n).toArray⟩ = n ∧ rdE ⟨(itoa n).toArray⟩ = 0 := by
  by_cases hn : n < 0
  · have e : itoa n = 45 :: decDigits n.natAbs := by unfold itoa; rw [if_pos hn]
    obtain ⟨d1, d2, _, d4⟩ := dec_all n.natAbs
    have ha := areD_list _ d4 (dec_first n.natAbs) d1
    have hz : rdZ ⟨(itoa n).toArray⟩ = n := by
      unfold rdZ
      rw [e, (bare_minus _).1, (bare_minus _).2]
      have : valD ⟨(decDigits n.natAbs).toArray⟩ (⟨(decDigits n.natAbs).toArray⟩ : ByteArray).size = n.natAbs := d2
      rw [this]; simp [sv]; omega
    unfold rdV rdE
    rw [hz]
    rw [e, (bare_minus _).1, ha]
    exact ⟨val_yes h0 h1, err_yes h0 h1⟩
  · have e : itoa n = decDigits n.toNat := by unfold itoa; rw [if_neg hn]
    obtain ⟨d1, d2, _, d4⟩ := dec_all n.toNat
    have ha := areD_list _ d4 (dec_first n.toNat) d1
    have hf : isNeg ⟨(decDigits n.toNat).toArray⟩ = false := by
      unfold isNeg
      have hb := allD_byte _ _ 0 d4 d1
      have : ¬ byt ⟨(decDigits n.toNat).toArray⟩ 0 = 45 := by omega
      simp [this]
    have hb : bare ⟨(decDigits n.toNat).toArray⟩ = ⟨(decDigits n.toNat).toArray⟩ := by unfold bare; rw [hf]; rfl
    have hs : sgn ⟨(decDigits n.toNat).toArray⟩ = 1 := by unfold sgn; rw [hf]; rfl
    have hz : rdZ ⟨(itoa n).toArray⟩ = n := by
      unfold rdZ
      rw [e, hb, hs]
      have : valD ⟨(decDigits n.toNat).toArray⟩ (⟨(decDigits n.toNat).toArray⟩ : ByteArray).size = n.toNat := d2
      rw [this]; simp [sv]; omega
    unfold rdV rdE
    rw [hz]
    rw [e, hb, ha]
    exact ⟨val_yes h0 h1, err_yes h0 h1⟩
end Go.Proofs.YtoicmcjpaodgpaaDoor.Nm
/- Layer 4: numbers, as they are written, are read (plain). -/
namespace Go.Proofs.YtoicmcjpaodgpaaDoor
open Go.RowKit Go.Lib
/-- What may stand behind a value: nothing that goes on with a number. -/
def Fo (b : Int) : Prop := isDg b = false ∧ b ≠ 46 ∧ b ≠ 101 ∧ b ≠ 69
theorem dg_at {s : ByteArray} : ∀ (L : List Int) (i : Nat), (∀ c ∈ L, isDg c = true) → AtL s i L → isDg (byt s (i + L.length)) = false → dg s i = i + L.length
  | [], i, _, _, h => dg_stop h
  | c :: r, i, hc, h, hf => by
    have e : i + 1 + r.length = i + (c :: r).length := by simp; omega
    rw [dg_step (by rw [h.2.1]; exact hc c (by simp)), dg_at r (i + 1) (fun x hx => hc x (by simp [hx])) h.2.2 (by rw [e]; exact hf), e]
/-- Digits, as a number's are. -/
def DgL (L : List Int) : Prop := (∀ c ∈ L, isDg c = true) ∧ L ≠ [] ∧ (L.head? = some 48 → L = [48])
theorem bI_mkl (l : List UInt8) : bI ⟨l.toArray⟩ = l.map fun b => (b.toNat : Int) := rfl
theorem dec_dgl (u : Nat) : DgL (bI ⟨(decDigits u).toArray⟩) := by
  obtain ⟨d1, d2, d3, d4⟩ := Nm.dec_all u
  have hall : ∀ k, k < (decDigits u).length → 48 ≤ Nm.byt ⟨(decDigits u).toArray⟩ k ∧ Nm.byt ⟨(decDigits u).toArray⟩ k ≤ 57 := fun k hk => Nm.allD_byte _ _ k hk d1
  have hb : ∀ k, Nm.byt ⟨(decDigits u).toArray⟩ k = byt ⟨(decDigits u).toArray⟩ k := fun k => rfl
  have hlen : (bI ⟨(decDigits u).toArray⟩).length = (decDigits u).length := by rw [bI_len]; rfl
  refine ⟨fun c hc => ?_, fun e => ?_, fun e => ?_⟩
  · obtain ⟨k, hk, rfl⟩ := List.mem_iff_getElem.1 hc
    have e := bI_at ⟨(decDigits u).toArray⟩ k (by rw [hlen] at hk; exact hk)
    rw [List.getElem?_eq_getElem hk] at e
    have h := hall k (by rw [hlen] at hk; exact hk)
    rw [hb] at h
    rw [Option.some.inj e]
    unfold isDg
    simp; omega
  · rw [e] at hlen; simp at hlen; omega
  · have e0 := bI_at ⟨(decDigits u).toArray⟩ 0 d4
    rw [← List.head?_eq_getElem?] at e0
    have h48 : byt ⟨(decDigits u).toArray⟩ 0 = 48 := by rw [e] at e0; exact (Option.some.inj e0).symm
    have hu := d3 h48
    subst hu
    rw [decDigits, dif_pos (by decide)]
    rfl
theorem itT_bI (n : Int) : ∃ D, DgL D ∧ (bI (itT n) = D ∨ bI (itT n) = 45 :: D) := by
  unfold itT
  by_cases h : n < 0
  · refine ⟨_, dec_dgl n.natAbs, .inr ?_⟩
    have e : itoa n = 45 :: decDigits n.natAbs := by unfold itoa; rw [if_pos h]
    rw [e]; rfl
  · refine ⟨_, dec_dgl n.toNat, .inl ?_⟩
    have e : itoa n = decDigits n.toNat := by unfold itoa; rw [if_neg h]
    rw [e]
theorem isDg_45 : isDg 45 = false := by decide
/-- Behind a sign: digits. -/
theorem int_at {s : ByteArray} {a : Nat} {D : List Int} (hD : DgL D) (h : AtL s a D) (hf : isDg (byt s (a + D.length)) = false) : (if byt s a = 48 then Rs.ok (a + 1) else if dg s a = a then .bad 40 else .ok (dg s a)) = .ok (a + D.length) := by
  obtain ⟨h1, h2, h3⟩ := hD
  cases D with
  | nil => exact absurd rfl h2
  | cons c r =>
    by_cases hc : c = 48
    · have e := h3 (by rw [hc]; rfl)
      rw [e] at h ⊢
      rw [if_pos h.2.1]
      rfl
    · rw [if_neg (by rw [h.2.1]; exact hc), dg_at _ _ h1 h hf, if_neg (by simp)]
theorem fo_frac {s : ByteArray} {b : Nat} (h : Fo (byt s b)) : expoM s (fracM s b) = b := by
  have e : fracM s b = b := by unfold fracM; rw [if_neg h.2.1]
  rw [e]
  unfold expoM
  rw [if_neg (by have := h.2.2; omega)]
/-- A number is read. -/
theorem num_at {s : ByteArray} {i : Nat} {n : Int} (hn : i64ok n) (h : AtL s i (bI (itT n))) (hf : Fo (byt s (i + (itT n).size))) : numM s i = .ok (n, i + (itT n).size) := by
  obtain ⟨D, hD, hb⟩ := itT_bI n
  have hsz := bI_len (itT n)
  have hx := at_extract h
  have hi : intM s i = .ok (i + (itT n).size) := by
    unfold intM
    dsimp only
    rcases hb with hb | hb
    · rw [hb] at h hsz
      rw [← hsz] at hf ⊢
      have h45 : ¬ byt s i = 45 := by
        cases hDD : D with
        | nil => exact absurd hDD hD.2.1
        | cons c r =>
          rw [hDD] at h
          have := hD.1 c (by rw [hDD]; simp)
          intro e
          rw [h.2.1] at e
          rw [e, isDg_45] at this
          cases this
      rw [if_neg h45]
      exact int_at hD h hf.1
    · rw [hb] at h hsz
      have e : i + 1 + D.length = i + (itT n).size := by rw [← hsz]; simp; omega
      rw [← e] at hf ⊢
      rw [if_pos h.2.1]
      exact int_at hD h.2.2 hf.1
  have hext : s.extract i (i + (itT n).size) = itT n := bI_inj (by rw [← hsz]; exact hx)
  unfold numM
  rw [hi, Rs.bind_ok]
  dsimp only
  rw [fo_frac hf, hext]
  obtain ⟨r1, r2⟩ := Nm.read_itoa n hn.1 hn.2
  unfold itT
  rw [r1, r2, if_pos rfl]
theorem itT_first (n : Int) : ∃ c r, bI (itT n) = c :: r ∧ (c = 45 ∨ isDg c = true) := by
  obtain ⟨D, hD, hb⟩ := itT_bI n
  rcases hb with hb | hb
  · cases hDD : D with
    | nil => exact absurd hDD hD.2.1
    | cons c r => exact ⟨c, r, by rw [hb, hDD], .inr (hD.1 c (by rw [hDD]; simp))⟩
  · exact ⟨45, D, hb, .inl rfl⟩
end Go.Proofs.YtoicmcjpaodgpaaDoor
/- Layer 4: a value, as it is written, is read (plain). -/
namespace Go.Proofs.YtoicmcjpaodgpaaDoor
open Go.RowKit
/-- What is written of items, from one on. -/
def kl (T : Nat → ByteArray) (g : Nat → CR) (n : Nat) (obj : Bool) : Nat → Nat → Nat → List Int
  | 0, _, _ => []
  | d + 1, k, a => (if 0 < k then [44] else []) ++ ((if obj then bI (quT (g a).nm) ++ [58] else []) ++ (bI (T a) ++ kl T g n obj d (k + 1) (nx g n a)))
theorem kl_succ (T : Nat → ByteArray) (g : Nat → CR) (n : Nat) (obj : Bool) (d k a : Nat) : kl T g n obj (d + 1) k a = (if 0 < k then [44] else []) ++ ((if obj then bI (quT (g a).nm) ++ [58] else []) ++ (bI (T a) ++ kl T g n obj d (k + 1) (nx g n a))) := rfl
theorem bI_lit (l : List UInt8) : bI ⟨l.toArray⟩ = l.map fun b => (b.toNat : Int) := rfl
theorem jki_step {T : Nat → ByteArray} {g : Nat → CR} {n p k : Nat} {obj : Bool} : bI (jki T g n obj p (k + 1)) = bI (jki T g n obj p k) ++ ((if 0 < k then [44] else []) ++ ((if obj then bI (quT (g (bd g n (p + 1) k)).nm) ++ [58] else []) ++ bI (T (bd g n (p + 1) k)))) := by
  have e44 : bI ⟨#[44]⟩ = [44] := rfl
  have e58 : bI ⟨#[58]⟩ = [58] := rfl
  rw [jki, bI_app]
  cases obj with
  | true =>
    simp only [if_true]
    split <;> simp [bI_app, e44, e58]
  | false =>
    simp only [Bool.false_eq_true, if_false]
    split <;> simp [bI_app, e44]
theorem jki_kl {T : Nat → ByteArray} {g : Nat → CR} {n p : Nat} {obj : Bool} : ∀ (d k : Nat), bI (jki T g n obj p (k + d)) = bI (jki T g n obj p k) ++ kl T g n obj d k (bd g n (p + 1) k)
  | 0, k => by unfold kl; rw [List.append_nil]; rfl
  | d + 1, k => by
    have h := jki_kl (T := T) (g := g) (n := n) (p := p) (obj := obj) d (k + 1)
    rw [show k + (d + 1) = k + 1 + d by omega, h, jki_step, kl]
    simp only [List.append_assoc]
    rfl
theorem jki_all {T : Nat → ByteArray} {g : Nat → CR} {n p m : Nat} {obj : Bool} : bI (jki T g n obj p m) = kl T g n obj m 0 (p + 1) := by
  have h := jki_kl (T := T) (g := g) (n := n) (p := p) (obj := obj) m 0
  rw [Nat.zero_add] at h
  rw [h]
  rfl
/-- Cells that are plain, with numbers in their bounds. -/
structure Pln (g : Nat → CR) (n : Nat) : Prop where
  en : ∀ i, i < n → enB (g i) = false
  nn : ∀ i, i < n → i64ok (g i).n
/-- The values' texts are read, so deep. -/
def IHV (s : ByteArray) (g : Nat → CR) (n r : Nat) (T : Nat → ByteArray) (V : ByteArray → Nat → List CR → Rs Out) (p : Nat) : Prop := ∀ a e i L, p < a → wk g n r a = some e → AtL s i (bI (T a)) → Fo (byt s (i + (T a).size)) → L.length + (e - a) ≤ 2048 → V (g a).nm i L = .ok (i + (T a).size, L ++ cut g a e) ∧ isSt (byt s i) = true
theorem cut_cons (g : Nat → CR) {a e : Nat} (h : a < e) : cut g a e = g a :: cut g (a + 1) e := by
  unfold cut
  rw [show e - a = (e - (a + 1)) + 1 by omega, List.range_succ_eq_map]
  simp only [List.map_cons, List.map_map, Nat.add_zero, List.cons.injEq, true_and]
  apply List.map_congr_left
  intro x _
  show g (a + (x + 1)) = g (a + 1 + x)
  rw [show a + (x + 1) = a + 1 + x by omega]
theorem cut_nil (g : Nat → CR) (a : Nat) : cut g a a = [] := by unfold cut; rw [Nat.sub_self]; rfl
theorem cut_join (g : Nat → CR) {a b e : Nat} (h1 : a ≤ b) (h2 : b ≤ e) : cut g a b ++ cut g b e = cut g a e := by
  obtain ⟨d, rfl⟩ : ∃ d, b = a + d := ⟨b - a, by omega⟩
  clear h1
  induction d generalizing a with
  | zero => rw [Nat.add_zero, cut_nil]; rfl
  | succ d ih =>
    rw [cut_cons g (show a < a + (d + 1) by omega), cut_cons g (show a < e by omega)]
    have := ih (a := a + 1) (by omega)
    rw [show a + 1 + d = a + (d + 1) by omega] at this
    rw [List.cons_append, this]
theorem fo_44 : Fo 44 := ⟨by decide, by decide, by decide, by decide⟩
theorem fo_93 : Fo 93 := ⟨by decide, by decide, by decide, by decide⟩
theorem fo_125 : Fo 125 := ⟨by decide, by decide, by decide, by decide⟩
/-- What stands behind items: a comma, or the end. -/
theorem kl_next {s : ByteArray} {T : Nat → ByteArray} {g : Nat → CR} {n d k a j : Nat} {obj : Bool} {c : Int} (hk : 0 < k) (h : AtL s j (kl T g n obj d k a ++ [c])) : byt s j = if d = 0 then c else 44 := by
  cases d with
  | zero => exact h.2.1
  | succ d =>
    unfold kl at h
    rw [if_pos hk] at h
    exact h.2.1
theorem bl_no {s : ByteArray} {j : Nat} {c : Int} (h : byt s j = c) (hc : isBl c = false) : bl s j = j := bl_stop (by rw [h]; exact hc)
theorem incC_last {L C : List CR} {c : CR} : incC (L ++ [c] ++ C) L.length = L ++ [{ c with m := c.m + 1 }] ++ C := by
  have h : gl (L ++ [c] ++ C) L.length = c := by unfold gl; simp [List.getD_eq_getElem?_getD]
  show (L ++ [c] ++ C).set L.length { gl (L ++ [c] ++ C) L.length with m := (gl (L ++ [c] ++ C) L.length).m + 1 } = _
  rw [h, List.append_assoc, List.set_append_right _ _ (Nat.le_refl _), Nat.sub_self, List.append_assoc]
  rfl
theorem kl_len {T : Nat → ByteArray} {g : Nat → CR} {n : Nat} {obj : Bool} : ∀ {d k a : Nat}, 0 < k → d ≤ (kl T g n obj d k a).length
  | 0, _, _, _ => Nat.zero_le _
  | d + 1, k, a, h => by
    have ih := kl_len (T := T) (g := g) (n := n) (obj := obj) (d := d) (k := k + 1) (a := nx g n a) (by omega)
    unfold kl
    rw [if_pos h]
    simp only [List.length_append, List.length_cons, List.length_nil]
    omega
theorem st_bl {b : Int} (h : isSt b = true) : isBl b = false ∧ b ≠ 93 ∧ b ≠ 125 ∧ b ≠ 44 := by
  unfold isSt isDg at h
  unfold isBl
  simp only [Bool.or_eq_true, Bool.and_eq_true, decide_eq_true_eq] at h
  simp only [Bool.or_eq_false_iff, decide_eq_false_iff_not]
  omega
/-- A list's items, behind the first one. -/
theorem rt_lstF {s : ByteArray} {g : Nat → CR} {n r p : Nat} {T : Nat → ByteArray} {V : ByteArray → Nat → List CR → Rs Out} (hr : r ≤ 16) (hI : IHV s g n r T V p) (L : List CR) (nm : ByteArray) : ∀ (d k a e j f : Nat) (C : List CR), p < a → kidsF (wk g n r) g n false d [] a = some e → AtL s j (kl T g n false d k a ++ [93]) → 1 ≤ k → d < f → L.length + 1 + C.length + (e - a) ≤ 2048 → lstF s (V ⟨#[]⟩) L.length f j (L ++ [⟨6, nm, ⟨#[]⟩, 0, k⟩] ++ C) = .ok (j + (kl T g n false d k a).length + 1, L ++ [⟨6, nm, ⟨#[]⟩, 0, (k + d : Nat)⟩] ++ (C ++ cut g a e))
  | 0, k, a, e, j, f, C, _, hk, h, k1, hf, hl => by
    obtain ⟨f', rfl⟩ : ∃ f', f = f' + 1 := ⟨f - 1, by omega⟩
    have e1 : byt s j = 93 := h.2.1
    unfold kidsF at hk
    cases hk
    unfold lstF
    rw [e1, if_neg (by decide)]
    unfold wordM
    rw [if_pos e1, cut_nil, List.append_nil]
    rfl
  | d + 1, k, a, e, j, f, C, hp, hk, h, k1, hf, hl => by
    obtain ⟨f', rfl⟩ : ∃ f', f = f' + 1 := ⟨f - 1, by omega⟩
    unfold kl at h
    rw [if_pos (show 0 < k from k1)] at h
    simp only [Bool.false_eq_true, if_false, List.nil_append, List.append_assoc] at h
    obtain ⟨_, e1, h2⟩ := h
    have h2 : AtL s (j + 1) (bI (T a) ++ (kl T g n false d (k + 1) (nx g n a) ++ [93])) := h2
    rw [at_app] at h2
    obtain ⟨h3, h4⟩ := h2
    rw [bI_len] at h4
    unfold kidsF at hk
    split at hk
    · cases hk
    split at hk
    case isFalse => cases hk
    rename_i hna hnm
    simp only [Bool.false_eq_true, if_false] at hk
    cases hw : wk g n r a with
    | none => rw [hw] at hk; cases hk
    | some a' =>
      rw [hw] at hk
      dsimp only at hk
      have hlt := wk_lt r a a' hw
      have hk2 := kidsF_lt (wk_lt r) d [] a' e hlt.2 hk
      have hnx : nx g n a = a' := nx_some (wk_up hr hw)
      rw [hnx] at h4
      have hnb := kl_next (show 0 < k + 1 by omega) h4
      have hF : Fo (byt s (j + 1 + (T a).size)) := by rw [hnb]; split; exact fo_93; exact fo_44
      have hB : isBl (byt s (j + 1 + (T a).size)) = false := by rw [hnb]; split <;> decide
      have hnm2 : (g a).nm = ⟨#[]⟩ := by
        unfold namedP at hnm
        simp only [Bool.false_eq_true, if_false] at hnm
        exact em_eq hnm
      have hv := hI a a' (j + 1) (L ++ [⟨6, nm, ⟨#[]⟩, 0, k⟩] ++ C) hp hw h3 hF (by simp; omega)
      have hbl : bl s (j + 1) = j + 1 := bl_stop (st_bl hv.2).1
      rw [hnm2] at hv
      have ih := rt_lstF hr hI L nm d (k + 1) a' e (j + 1 + (T a).size) f' (C ++ cut g a a') (by omega) hk h4 (by omega) (by omega) (by rw [List.length_append, cut_len]; omega)
      unfold lstF
      rw [if_pos e1, hbl, hv.1, Rs.bind_ok]
      dsimp only
      rw [bl_stop hB, List.append_assoc (L ++ [_]) C, incC_last]
      have ee : ((k : Int) + 1) = ((k + 1 : Nat) : Int) := by omega
      dsimp only
      rw [ee, ih]
      rw [kl_succ, if_pos (show 0 < k from k1)]
      simp only [Bool.false_eq_true, if_false, List.nil_append, hnx]
      have e5 : k + 1 + d = k + (d + 1) := by omega
      rw [e5, List.append_assoc C, cut_join g (by omega) (by omega)]
      simp only [List.length_append, bI_len, List.length_cons, List.length_nil]
      congr 2
      omega
/-- A list, behind its bracket. -/
theorem rt_lst {s : ByteArray} {g : Nat → CR} {n r p : Nat} {T : Nat → ByteArray} {V : ByteArray → Nat → List CR → Rs Out} (hr : r ≤ 16) (hI : IHV s g n r T V p) (L : List CR) (nm : ByteArray) (d a e j : Nat) (hp : p < a) (hk : kidsF (wk g n r) g n false d [] a = some e) (h : AtL s j (kl T g n false d 0 a ++ [93])) (hl : L.length + 1 + (e - a) ≤ 2048) : lstM s (V ⟨#[]⟩) L.length (bl s j) (L ++ [⟨6, nm, ⟨#[]⟩, 0, 0⟩]) = .ok (j + (kl T g n false d 0 a).length + 1, L ++ [⟨6, nm, ⟨#[]⟩, 0, (d : Nat)⟩] ++ cut g a e) := by
  cases d with
  | zero =>
    have e1 : byt s j = 93 := h.2.1
    rw [bl_no e1 (by decide)]
    unfold kidsF at hk
    cases hk
    unfold lstM
    rw [if_pos e1, cut_nil, List.append_nil]
    rfl
  | succ d =>
    have h0 := h
    unfold kl at h
    simp only [Nat.lt_irrefl, if_false, Bool.false_eq_true, List.nil_append, List.append_assoc] at h
    rw [at_app] at h
    obtain ⟨h3, h4⟩ := h
    rw [bI_len] at h4
    unfold kidsF at hk
    split at hk
    · cases hk
    split at hk
    case isFalse => cases hk
    rename_i hna hnm
    simp only [Bool.false_eq_true, if_false] at hk
    cases hw : wk g n r a with
    | none => rw [hw] at hk; cases hk
    | some a' =>
      rw [hw] at hk
      dsimp only at hk
      have hlt := wk_lt r a a' hw
      have hk2 := kidsF_lt (wk_lt r) d [] a' e hlt.2 hk
      have hnx : nx g n a = a' := nx_some (wk_up hr hw)
      rw [hnx] at h4
      have hnb := kl_next (show 0 < 0 + 1 by omega) h4
      have hF : Fo (byt s (j + (T a).size)) := by rw [hnb]; split; exact fo_93; exact fo_44
      have hB : isBl (byt s (j + (T a).size)) = false := by rw [hnb]; split <;> decide
      have hnm2 : (g a).nm = ⟨#[]⟩ := by
        unfold namedP at hnm
        simp only [Bool.false_eq_true, if_false] at hnm
        exact em_eq hnm
      have hv := hI a a' j (L ++ [⟨6, nm, ⟨#[]⟩, 0, 0⟩]) hp hw h3 hF (by simp; omega)
      have hbl : bl s j = j := bl_stop (st_bl hv.2).1
      have hn93 : ¬ byt s j = 93 := (st_bl hv.2).2.1
      rw [hnm2] at hv
      have hle := at_le h4
      rw [List.length_append] at hle
      have hdk : d ≤ (kl T g n false d (0 + 1) a').length := kl_len (by omega)
      have ih := rt_lstF hr hI L nm d 1 a' e (j + (T a).size) (s.size - (j + (T a).size) + 1) (cut g a a') (by omega) hk h4 (by omega) (by rw [List.length_singleton] at hle; omega) (by rw [cut_len]; omega)
      unfold lstM
      rw [hbl, if_neg hn93, hv.1, Rs.bind_ok]
      dsimp only
      have h1 := @incC_last L (cut g a a') ⟨6, nm, ⟨#[]⟩, 0, 0⟩
      rw [bl_stop hB, h1]
      have ee : ((0 : Int) + 1) = ((1 : Nat) : Int) := rfl
      dsimp only
      rw [ee, ih]
      rw [kl_succ]
      simp only [Nat.lt_irrefl, if_false, Bool.false_eq_true, List.nil_append, hnx]
      rw [show 1 + d = d + 1 by omega, cut_join g (by omega) (by omega)]
      simp only [List.length_append, bI_len, Nat.zero_add]
      congr 2
      omega
end Go.Proofs.YtoicmcjpaodgpaaDoor
/- Layer 4: an object, a value, as they are written, are read (plain). -/
namespace Go.Proofs.YtoicmcjpaodgpaaDoor
open Go.RowKit
theorem bI_ne {t : ByteArray} (h : em t = false) : bI t ≠ [] := fun e => by
  have := bI_len t
  rw [e] at this
  unfold em at h
  rw [decide_eq_false_iff_not] at h
  exact h this.symm
/-- A member is read. -/
theorem rt_mem {s : ByteArray} {g : Nat → CR} {n r p : Nat} {T : Nat → ByteArray} {V : ByteArray → Nat → List CR → Rs Out} (hI : IHV s g n r T V p) (L : List CR) (h a a' j : Nat) (ns : List ByteArray) (rest : List Int) (hp : p < a) (hw : wk g n r a = some a') (hn : namedP true ns (g a).nm = true) (hat : AtL s j (bI (quT (g a).nm) ++ ([58] ++ (bI (T a) ++ rest)))) (hF : Fo (byt s (j + ((quT (g a).nm).size + (1 + (T a).size))))) (hl : L.length + (a' - a) ≤ 2048) :
    memM s V h j ns L = .ok ((j + ((quT (g a).nm).size + (1 + (T a).size)), incC (L ++ cut g a a') h), (g a).nm :: ns) := by
  rw [at_app] at hat
  obtain ⟨h1, h2⟩ := hat
  rw [bI_len] at h2
  obtain ⟨_, c1, h3⟩ := h2
  have h3 : AtL s (j + (quT (g a).nm).size + 1) (bI (T a) ++ rest) := h3
  rw [at_app] at h3
  have hs := quT_read h1
  unfold namedP at hn
  simp only [if_true, Bool.and_eq_true, Bool.not_eq_true'] at hn
  obtain ⟨⟨n1, n2⟩, _⟩ := hn
  have hv := hI a a' (j + (quT (g a).nm).size + 1) L hp hw h3.1 (by rw [show j + (quT (g a).nm).size + 1 + (T a).size = j + ((quT (g a).nm).size + (1 + (T a).size)) by omega]; exact hF) hl
  have hb2 : bl s (j + (quT (g a).nm).size + 1) = j + (quT (g a).nm).size + 1 := bl_stop (st_bl hv.2).1
  unfold memM
  rw [hs, Rs.bind_ok]
  dsimp only
  rw [if_neg (bI_ne n2), mk_bI, if_neg (by rw [n1]; decide), bl_no c1 (by decide)]
  unfold wordM
  rw [if_pos c1]
  unfold wordM
  rw [Rs.bind_ok, hb2, hv.1, Rs.bind_ok]
  dsimp only
  rw [show j + (quT (g a).nm).size + 1 + (T a).size = j + ((quT (g a).nm).size + (1 + (T a).size)) by omega]
/-- An object's members, behind the first one. -/
theorem rt_objF {s : ByteArray} {g : Nat → CR} {n r p : Nat} {T : Nat → ByteArray} {V : ByteArray → Nat → List CR → Rs Out} (hr : r ≤ 16) (hI : IHV s g n r T V p) (L : List CR) (nm : ByteArray) : ∀ (d k a e j f : Nat) (ns : List ByteArray) (C : List CR), p < a → kidsF (wk g n r) g n true d ns a = some e → AtL s j (kl T g n true d k a ++ [125]) → 1 ≤ k → d < f → L.length + 1 + C.length + (e - a) ≤ 2048 → objF s V L.length f j ns (L ++ [⟨7, nm, ⟨#[]⟩, 0, k⟩] ++ C) = .ok (j + (kl T g n true d k a).length + 1, L ++ [⟨7, nm, ⟨#[]⟩, 0, (k + d : Nat)⟩] ++ (C ++ cut g a e))
  | 0, k, a, e, j, f, ns, C, _, hk, h, k1, hf, hl => by
    obtain ⟨f', rfl⟩ : ∃ f', f = f' + 1 := ⟨f - 1, by omega⟩
    have e1 : byt s j = 125 := h.2.1
    unfold kidsF at hk
    cases hk
    unfold objF
    rw [e1, if_neg (by decide)]
    unfold wordM
    rw [if_pos e1, cut_nil, List.append_nil]
    rfl
  | d + 1, k, a, e, j, f, ns, C, hp, hk, h, k1, hf, hl => by
    obtain ⟨f', rfl⟩ : ∃ f', f = f' + 1 := ⟨f - 1, by omega⟩
    rw [kl_succ, if_pos (show 0 < k from k1)] at h
    simp only [if_true, List.append_assoc] at h
    obtain ⟨_, e1, h2⟩ := h
    have h2 : AtL s (j + 1) (bI (quT (g a).nm) ++ ([58] ++ (bI (T a) ++ (kl T g n true d (k + 1) (nx g n a) ++ [125])))) := h2
    unfold kidsF at hk
    split at hk
    · cases hk
    split at hk
    case isFalse => cases hk
    rename_i hna hnm
    simp only [if_true] at hk
    cases hw : wk g n r a with
    | none => rw [hw] at hk; cases hk
    | some a' =>
      rw [hw] at hk
      dsimp only at hk
      have hlt := wk_lt r a a' hw
      have hk2 := kidsF_lt (wk_lt r) d _ a' e hlt.2 hk
      have hnx : nx g n a = a' := nx_some (wk_up hr hw)
      rw [hnx] at h2
      have h4 : AtL s (j + 1 + ((quT (g a).nm).size + (1 + (T a).size))) (kl T g n true d (k + 1) a' ++ [125]) := by
        have h3 := (at_app.1 h2).2
        rw [bI_len] at h3
        have h5 := (at_app.1 (at_app.1 h3).2).2
        rw [bI_len] at h5
        rw [show j + 1 + ((quT (g a).nm).size + (1 + (T a).size)) = j + 1 + (quT (g a).nm).size + [(58 : Int)].length + (T a).size by simp; omega]
        exact h5
      have hnb := kl_next (show 0 < k + 1 by omega) h4
      have hF : Fo (byt s (j + 1 + ((quT (g a).nm).size + (1 + (T a).size)))) := by rw [hnb]; split; exact fo_125; exact fo_44
      have hB : isBl (byt s (j + 1 + ((quT (g a).nm).size + (1 + (T a).size)))) = false := by rw [hnb]; split <;> decide
      have hq : byt s (j + 1) = 34 := by
        have h6 := (at_app.1 h2).1
        rw [quT_bI] at h6
        exact h6.2.1
      have hm := rt_mem hI (L ++ [⟨7, nm, ⟨#[]⟩, 0, k⟩] ++ C) L.length a a' (j + 1) ns _ hp hw hnm h2 hF (by simp; omega)
      have hbl : bl s (j + 1) = j + 1 := bl_no hq (by decide)
      have ih := rt_objF hr hI L nm d (k + 1) a' e (j + 1 + ((quT (g a).nm).size + (1 + (T a).size))) f' ((g a).nm :: ns) (C ++ cut g a a') (by omega) hk h4 (by omega) (by omega) (by rw [List.length_append, cut_len]; omega)
      unfold objF
      rw [if_pos e1, hbl, hm, Rs.bind_ok]
      dsimp only
      rw [bl_stop hB, List.append_assoc (L ++ [_]) C, incC_last]
      have ee : ((k : Int) + 1) = ((k + 1 : Nat) : Int) := by omega
      dsimp only
      rw [ee, ih]
      rw [kl_succ, if_pos (show 0 < k from k1)]
      simp only [if_true, hnx]
      have e5 : k + 1 + d = k + (d + 1) := by omega
      rw [e5, List.append_assoc C, cut_join g (by omega) (by omega)]
      simp only [List.length_append, bI_len, List.length_cons, List.length_nil]
      congr 2
      omega
/-- An object, behind its bracket. -/
theorem rt_obj {s : ByteArray} {g : Nat → CR} {n r p : Nat} {T : Nat → ByteArray} {V : ByteArray → Nat → List CR → Rs Out} (hr : r ≤ 16) (hI : IHV s g n r T V p) (L : List CR) (nm : ByteArray) (d a e j : Nat) (hp : p < a) (hk : kidsF (wk g n r) g n true d [] a = some e) (h : AtL s j (kl T g n true d 0 a ++ [125])) (hl : L.length + 1 + (e - a) ≤ 2048) : objM s V L.length (bl s j) (L ++ [⟨7, nm, ⟨#[]⟩, 0, 0⟩]) = .ok (j + (kl T g n true d 0 a).length + 1, L ++ [⟨7, nm, ⟨#[]⟩, 0, (d : Nat)⟩] ++ cut g a e) := by
  cases d with
  | zero =>
    have e1 : byt s j = 125 := h.2.1
    rw [bl_no e1 (by decide)]
    unfold kidsF at hk
    cases hk
    unfold objM
    rw [if_pos e1, cut_nil, List.append_nil]
    rfl
  | succ d =>
    rw [kl_succ] at h
    simp only [Nat.lt_irrefl, if_false, if_true, List.nil_append, List.append_assoc] at h
    unfold kidsF at hk
    split at hk
    · cases hk
    split at hk
    case isFalse => cases hk
    rename_i hna hnm
    simp only [if_true] at hk
    cases hw : wk g n r a with
    | none => rw [hw] at hk; cases hk
    | some a' =>
      rw [hw] at hk
      dsimp only at hk
      have hlt := wk_lt r a a' hw
      have hk2 := kidsF_lt (wk_lt r) d _ a' e hlt.2 hk
      have hnx : nx g n a = a' := nx_some (wk_up hr hw)
      rw [hnx] at h
      simp only [Nat.zero_add] at h
      have h4 : AtL s (j + ((quT (g a).nm).size + (1 + (T a).size))) (kl T g n true d 1 a' ++ [125]) := by
        have h3 := (at_app.1 h).2
        rw [bI_len] at h3
        have h5 := (at_app.1 (at_app.1 h3).2).2
        rw [bI_len] at h5
        rw [show j + ((quT (g a).nm).size + (1 + (T a).size)) = j + (quT (g a).nm).size + [(58 : Int)].length + (T a).size by simp; omega]
        exact h5
      have hnb := kl_next (show 0 < 1 by omega) h4
      have hF : Fo (byt s (j + ((quT (g a).nm).size + (1 + (T a).size)))) := by rw [hnb]; split; exact fo_125; exact fo_44
      have hB : isBl (byt s (j + ((quT (g a).nm).size + (1 + (T a).size)))) = false := by rw [hnb]; split <;> decide
      have hq : byt s j = 34 := by
        have h6 := (at_app.1 h).1
        rw [quT_bI] at h6
        exact h6.2.1
      have hm := rt_mem hI (L ++ [⟨7, nm, ⟨#[]⟩, 0, 0⟩]) L.length a a' j [] _ hp hw hnm h hF (by simp; omega)
      have hbl : bl s j = j := bl_no hq (by decide)
      have hle := at_le h4
      rw [List.length_append, List.length_singleton] at hle
      have hdk : d ≤ (kl T g n true d 1 a').length := kl_len (by omega)
      have ih := rt_objF hr hI L nm d 1 a' e (j + ((quT (g a).nm).size + (1 + (T a).size))) (s.size - (j + ((quT (g a).nm).size + (1 + (T a).size))) + 1) [(g a).nm] (cut g a a') (by omega) hk h4 (by omega) (by omega) (by rw [cut_len]; omega)
      unfold objM
      rw [hbl, if_neg (by rw [hq]; decide), hm, Rs.bind_ok]
      dsimp only
      have h1 := @incC_last L (cut g a a') ⟨7, nm, ⟨#[]⟩, 0, 0⟩
      rw [bl_stop hB, h1]
      have ee : ((0 : Int) + 1) = ((1 : Nat) : Int) := rfl
      dsimp only
      rw [ee, ih]
      rw [kl_succ]
      simp only [Nat.lt_irrefl, if_false, if_true, List.nil_append, hnx, Nat.zero_add]
      rw [show 1 + d = d + 1 by omega, cut_join g (by omega) (by omega)]
      simp only [List.length_append, bI_len, List.length_cons, List.length_nil]
      congr 2
      omega
end Go.Proofs.YtoicmcjpaodgpaaDoor
/- Layer 4: whatever may be, as it is written, is read (plain). -/
namespace Go.Proofs.YtoicmcjpaodgpaaDoor
open Go.RowKit
theorem cr_eta {c : CR} {k : Nat} {tx : ByteArray} {nn m : Int} (h1 : c.k = k) (h2 : c.tx = tx) (h3 : c.n = nn) (h4 : c.m = m) : c = ⟨k, c.nm, tx, nn, m⟩ := by
  cases c
  cases h1; cases h2; cases h3; cases h4
  rfl
theorem isSt_num {c : Int} (h : c = 45 ∨ isDg c = true) : isSt c = true := by
  unfold isSt
  rcases h with rfl | h
  · decide
  · rw [h]; simp
theorem st_dg {c : Int} (h : c = 45 ∨ isDg c = true) : c ≠ 123 ∧ c ≠ 91 ∧ c ≠ 34 ∧ c ≠ 116 ∧ c ≠ 102 ∧ c ≠ 110 := by
  unfold isDg at h
  simp only [Bool.and_eq_true, decide_eq_true_eq] at h
  omega
/-- A leaf is read. -/
theorem rt_leaf {s : ByteArray} {g : Nat → CR} {n p F : Nat} (r : Nat) {i : Nat} {L : List CR} (hP : Pln g n) (hp : p < n) (ho : oneP (g p) = true) (hh : headP (g p) = false) (hF0 : 1 ≤ F) (hat : AtL s i (bI (jtx g n F p))) (hf : Fo (byt s (i + (jtx g n F p).size))) (hl : L.length + 1 ≤ 2048) (op : Nat) : valM s (r + 1) (g p).nm op i L = .ok (i + (jtx g n F p).size, L ++ [g p]) ∧ isSt (byt s i) = true := by
  obtain ⟨F', rfl⟩ : ∃ F', F = F' + 1 := ⟨F - 1, by omega⟩
  have he := hP.en p hp
  have hn := hP.nn p hp
  have hlne : ¬ L.length = 2048 := by omega
  rcases one_kind ho he with k | k | k | k | k | k
  · unfold oneP at ho
    rw [if_pos k] at ho
    simp only [Bool.and_eq_true, decide_eq_true_eq] at ho
    have hc := cr_eta k (em_eq ho.1.1) ho.2 ho.1.2
    have ht : jtx g n (F' + 1) p = ⟨#[110, 117, 108, 108]⟩ := by unfold jtx; rw [if_pos k]
    rw [ht] at hat ⊢
    have hb : byt s i = 110 := hat.2.1
    have hw : wordM s [110, 117, 108, 108] i = .ok (i + 4) := word_at hat
    refine ⟨?_, by rw [hb]; decide⟩
    unfold valM
    rw [hb, if_neg (by decide), if_neg (by omega), if_neg hlne, if_neg (by decide), if_neg (by decide), if_neg (by decide), if_neg (by decide), if_neg (by decide), if_pos rfl, hw, Rs.bind_ok]
    rw [hc]
    rfl
  · unfold oneP at ho
    rw [if_neg (by omega), if_pos k] at ho
    simp only [Bool.and_eq_true, decide_eq_true_eq, Bool.or_eq_true] at ho
    rcases ho.2 with h0 | h1
    · have hc := cr_eta k (em_eq ho.1.1) h0 ho.1.2
      have ht : jtx g n (F' + 1) p = ⟨#[102, 97, 108, 115, 101]⟩ := by unfold jtx; rw [if_neg (by omega), if_pos k, if_neg (by omega)]
      rw [ht] at hat ⊢
      have hb : byt s i = 102 := hat.2.1
      have hw : wordM s [102, 97, 108, 115, 101] i = .ok (i + 5) := word_at hat
      refine ⟨?_, by rw [hb]; decide⟩
      unfold valM
      rw [hb, if_neg (by decide), if_neg (by omega), if_neg hlne, if_neg (by decide), if_neg (by decide), if_neg (by decide), if_neg (by decide), if_pos rfl, hw, Rs.bind_ok]
      rw [hc]
      rfl
    · have hc := cr_eta k (em_eq ho.1.1) h1 ho.1.2
      have ht : jtx g n (F' + 1) p = ⟨#[116, 114, 117, 101]⟩ := by unfold jtx; rw [if_neg (by omega), if_pos k, if_pos h1]
      rw [ht] at hat ⊢
      have hb : byt s i = 116 := hat.2.1
      have hw : wordM s [116, 114, 117, 101] i = .ok (i + 4) := word_at hat
      refine ⟨?_, by rw [hb]; decide⟩
      unfold valM
      rw [hb, if_neg (by decide), if_neg (by omega), if_neg hlne, if_neg (by decide), if_neg (by decide), if_neg (by decide), if_pos rfl, hw, Rs.bind_ok]
      rw [hc]
      rfl
  · unfold oneP at ho
    rw [if_neg (by omega), if_neg (by omega), if_pos k] at ho
    simp only [Bool.and_eq_true, decide_eq_true_eq] at ho
    have hc := cr_eta k (em_eq ho.1) rfl ho.2
    have ht : jtx g n (F' + 1) p = itT (g p).n := by unfold jtx; rw [if_neg (by omega), if_neg (by omega), if_pos k]
    rw [ht] at hat hf ⊢
    obtain ⟨c, rr, e1, e2⟩ := itT_first (g p).n
    have hb : byt s i = c := by rw [e1] at hat; exact hat.2.1
    have hw := num_at hn hat hf
    have hs := isSt_num e2
    have hd := st_dg e2
    refine ⟨?_, by rw [hb]; exact hs⟩
    unfold valM
    rw [hb, if_neg (by rw [hs]; decide), if_neg (by omega), if_neg hlne, if_neg hd.1, if_neg hd.2.1, if_neg hd.2.2.1, if_neg hd.2.2.2.1, if_neg hd.2.2.2.2.1, if_neg hd.2.2.2.2.2, hw, Rs.bind_ok]
    dsimp only
    rw [← hc]
  · unfold oneP at ho
    rw [if_neg (by omega), if_neg (by omega), if_neg (by omega), if_pos k] at ho
    simp only [Bool.and_eq_true, decide_eq_true_eq] at ho
    have hc := cr_eta k rfl ho.1.1 ho.1.2
    have ht : jtx g n (F' + 1) p = quT (g p).tx := by unfold jtx; rw [if_neg (by omega), if_neg (by omega), if_neg (by omega), if_pos k]
    rw [ht] at hat ⊢
    have hb : byt s i = 34 := by rw [quT_bI] at hat; exact hat.2.1
    have hw := quT_read hat
    refine ⟨?_, by rw [hb]; decide⟩
    unfold valM
    rw [hb, if_neg (by decide), if_neg (by omega), if_neg hlne, if_neg (by decide), if_neg (by decide), if_pos rfl, hw, Rs.bind_ok]
    dsimp only
    rw [mk_bI, ← hc]
  · unfold headP at hh; rw [k] at hh; simp at hh
  · unfold headP at hh; rw [k] at hh; simp at hh
/-- A value is read. -/
theorem rt_val {s : ByteArray} {g : Nat → CR} {n : Nat} (hP : Pln g n) : ∀ (r p e F i : Nat) (L : List CR), r ≤ 16 → wk g n r p = some e → n - p ≤ F → AtL s i (bI (jtx g n F p)) → Fo (byt s (i + (jtx g n F p).size)) → L.length + (e - p) ≤ 2048 → valM s (r + 1) (g p).nm (16 - r) i L = .ok (i + (jtx g n F p).size, L ++ cut g p e) ∧ isSt (byt s i) = true
  | 0, p, e, F, i, L, hr, hw, hF, hat, hf, hl => by
    rw [wk_z] at hw
    split at hw
    · cases hw
    split at hw
    case isFalse => cases hw
    rename_i hpn hoh
    cases hw
    simp only [Bool.and_eq_true, Bool.not_eq_true'] at hoh
    have h := rt_leaf (s := s) (i := i) (L := L) 0 hP (by omega) hoh.1 hoh.2 (by omega) hat hf (by omega) (16 - 0)
    rw [cut_cons g (by omega), cut_nil]
    exact h
  | r + 1, p, e, F, i, L, hr, hw, hF, hat, hf, hl => by
    have hlt := wk_lt _ p e hw
    rw [wk_s] at hw
    split at hw
    · cases hw
    split at hw
    case isFalse => cases hw
    rename_i hpn ho
    split at hw
    case isFalse hh =>
      cases hw
      have h := rt_leaf (s := s) (i := i) (L := L) (r + 1) hP (by omega) ho (by simpa using hh) (by omega) hat hf (by omega) (16 - (r + 1))
      rw [cut_cons g (by omega), cut_nil]
      exact h
    rename_i hh
    obtain ⟨F', rfl⟩ : ∃ F', F = F' + 1 := ⟨F - 1, by omega⟩
    have hlne : ¬ L.length = 2048 := by omega
    have h16 : ¬ (16 - (r + 1)) = 16 := by omega
    have hI : IHV s g n r (jtx g n F') (fun nm' j M => valM s (r + 1) nm' (16 - (r + 1) + 1) j M) p := by
      intro a e' i' L' ha hw' hat' hf' hl'
      have h := rt_val hP r a e' F' i' L' (by omega) hw' (by omega) hat' hf' hl'
      rw [show 16 - r = 16 - (r + 1) + 1 by omega] at h
      exact h
    unfold headP at hh
    simp only [Bool.or_eq_true, decide_eq_true_eq] at hh
    unfold oneP at ho
    rw [if_neg (by omega), if_neg (by omega), if_neg (by omega), if_neg (by omega), if_neg (by omega), if_pos hh] at ho
    simp only [Bool.and_eq_true, decide_eq_true_eq] at ho
    have hm : (((g p).m.toNat : Nat) : Int) = (g p).m := by omega
    rcases hh with k | k
    · have hc := cr_eta k (em_eq ho.1.2) ho.1.1 hm.symm
      rw [k] at hw
      have hw : kidsF (wk g n r) g n false (g p).m.toNat [] (p + 1) = some e := hw
      have ht : bI (jtx g n (F' + 1) p) = 91 :: (kl (jtx g n F') g n false (g p).m.toNat 0 (p + 1) ++ [93]) := by
        unfold jtx
        rw [if_neg (by omega), if_neg (by omega), if_neg (by omega), if_neg (by omega), if_neg (by omega), bI_app, bI_app, jki_all]
        rfl
      have hsz : (jtx g n (F' + 1) p).size = (kl (jtx g n F') g n false (g p).m.toNat 0 (p + 1)).length + 2 := by rw [← bI_len, ht]; simp
      rw [ht] at hat
      obtain ⟨_, hb, hat2⟩ := hat
      have h := rt_lst (by omega) hI L (g p).nm (g p).m.toNat (p + 1) e (i + 1) (by omega) hw hat2 (by omega)
      refine ⟨?_, by rw [hb]; decide⟩
      rw [valM, hb, if_neg (by decide), if_neg (fun hc => h16 hc.2), if_neg hlne, if_neg (by decide), if_pos rfl, h, hsz, cut_cons g hlt.1, ← hc]
      simp
      omega
    · have hc := cr_eta k (em_eq ho.1.2) ho.1.1 hm.symm
      rw [k] at hw
      have hw : kidsF (wk g n r) g n true (g p).m.toNat [] (p + 1) = some e := hw
      have ht : bI (jtx g n (F' + 1) p) = 123 :: (kl (jtx g n F') g n true (g p).m.toNat 0 (p + 1) ++ [125]) := by
        unfold jtx
        rw [if_neg (by omega), if_neg (by omega), if_neg (by omega), if_neg (by omega), if_pos k, bI_app, bI_app, jki_all]
        rfl
      have hsz : (jtx g n (F' + 1) p).size = (kl (jtx g n F') g n true (g p).m.toNat 0 (p + 1)).length + 2 := by rw [← bI_len, ht]; simp
      rw [ht] at hat
      obtain ⟨_, hb, hat2⟩ := hat
      have h := rt_obj (by omega) hI L (g p).nm (g p).m.toNat (p + 1) e (i + 1) (by omega) hw hat2 (by omega)
      refine ⟨?_, by rw [hb]; decide⟩
      rw [valM, hb, if_neg (by decide), if_neg (fun hc => h16 hc.2), if_neg hlne, if_pos rfl, h, hsz, cut_cons g hlt.1, ← hc]
      simp
      omega
end Go.Proofs.YtoicmcjpaodgpaaDoor
/- Layer 4: what is written is a text (plain). -/
namespace Go.Proofs.YtoicmcjpaodgpaaDoor
open Go.RowKit
/-- From a place on code points stand, up to another place. -/
inductive Tw (s : ByteArray) : Nat → Nat → Prop
  | nil (a : Nat) : Tw s a a
  | step {a b : Nat} : a < s.size → decIs s a = true → Tw s (a + leadN (byt s a)) b → Tw s a b
theorem Tw.trans {s : ByteArray} {a b c : Nat} (h : Tw s a b) (k : Tw s b c) : Tw s a c := by
  induction h with
  | nil => exact k
  | step h1 h2 _ ih => exact .step h1 h2 (ih k)
theorem Tw.tx {s : ByteArray} {a b : Nat} (h : Tw s a b) (hb : b = s.size) : ∀ f, s.size - a ≤ f → txF s f a = true := by
  induction h with
  | nil a => intro f _; exact txF_end (by omega)
  | step h1 h2 _ ih =>
    intro f hf
    have h3 := (decIs_lead h2).1
    rw [txF_step h1 hf, h2, ih hb (f - 1) (by omega)]
    rfl
theorem tw_of {s : ByteArray} : ∀ (f a : Nat), s.size - a ≤ f → a ≤ s.size → txF s f a = true → Tw s a s.size
  | 0, a, hf, ha, _ => by
    obtain rfl : a = s.size := by omega
    exact .nil _
  | f + 1, a, hf, ha, h => by
    by_cases e : a < s.size
    · rw [txF_step e hf, Bool.and_eq_true] at h
      have h3 := (decIs_lead h.1).1
      exact .step e h.1 (tw_of f _ (by omega) (dec_in e h.1) h.2)
    · obtain rfl : a = s.size := by omega
      exact .nil _
theorem isTx_tw {t : ByteArray} (h : isTx t = true) : Tw t 0 t.size := tw_of t.size 0 (by omega) (Nat.zero_le _) h
theorem asc_dec {s : ByteArray} {a : Nat} (h : byt s a < 128) : decIs s a = true ∧ leadN (byt s a) = 1 := by
  have h0 := (byt_range s a).1
  have e1 : leadN (byt s a) = 1 := by unfold leadN; rw [if_pos h]
  have e2 : leadB (byt s a) = byt s a := by unfold leadB; rw [if_pos h]
  refine ⟨?_, e1⟩
  unfold decIs
  rw [e1, e2]
  simp only [Nat.sub_self, conts, acc]
  have e3 : isPt (byt s a) = true := by unfold isPt; simp; omega
  have e4 : szOf (byt s a) = 1 := by unfold szOf; rw [if_pos h]
  rw [e3, e4]
  rfl
theorem tw_asc {s : ByteArray} : ∀ {L : List Int} {i : Nat}, (∀ c ∈ L, c < 128) → AtL s i L → Tw s i (i + L.length)
  | [], i, _, _ => .nil _
  | c :: r, i, hc, h => by
    have hb : byt s i < 128 := by rw [h.2.1]; exact hc c (by simp)
    obtain ⟨h1, h2⟩ := asc_dec hb
    have ih := tw_asc (fun x hx => hc x (by simp [hx])) h.2.2
    rw [show i + 1 + r.length = i + (c :: r).length by simp; omega] at ih
    exact .step h.1 h1 (by rw [h2]; exact ih)
theorem conts_as {s t : ByteArray} {a j : Nat} : ∀ k, (∀ i, i < k → byt s (j + i) = byt t (a + i)) → j + k ≤ s.size → conts t a k = true → conts s j k = true
  | 0, _, _, _ => rfl
  | k + 1, h, hs, hc => by
    simp only [conts, Bool.and_eq_true, decide_eq_true_eq] at hc ⊢
    have := h k (by omega)
    exact ⟨conts_as k (fun i hi => h i (by omega)) (by omega) hc.1, by omega⟩
theorem acc_as {s t : ByteArray} {a j : Nat} (p : Int) : ∀ k, (∀ i, i < k → byt s (j + i) = byt t (a + i)) → acc s j p k = acc t a p k
  | 0, _ => rfl
  | k + 1, h => by
    simp only [acc]
    rw [acc_as p k (fun i hi => h i (by omega)), h k (by omega)]
theorem dec_as {s t : ByteArray} {a j : Nat} (hd : decIs t a = true) (h : ∀ k, k < leadN (byt t a) → byt s (j + k) = byt t (a + k)) (hs : j + leadN (byt t a) ≤ s.size) : decIs s j = true ∧ byt s j = byt t a := by
  have h1 := (decIs_lead hd).1
  have e0 : byt s j = byt t a := h 0 (by omega)
  refine ⟨?_, e0⟩
  have hc := (decIs_lead hd).2
  have hk : ∀ i, i < leadN (byt t a) - 1 → byt s (j + 1 + i) = byt t (a + 1 + i) := fun i hi => by
    have := h (i + 1) (by omega)
    rw [show j + 1 + i = j + (i + 1) by omega, show a + 1 + i = a + (i + 1) by omega]
    exact this
  unfold decIs at hd ⊢
  rw [e0, acc_as _ _ hk]
  simp only [Bool.and_eq_true] at hd ⊢
  exact ⟨⟨⟨hd.1.1.1, conts_as _ hk (by omega) hc⟩, hd.1.2⟩, hd.2⟩
theorem esc_asc {x : Int} (h0 : 0 ≤ x) (h : x < 128) : ∀ c ∈ escI x, c < 128 := by
  unfold escI shortI hexI
  intro c hc
  (repeat' split at hc) <;> simp at hc <;> omega
theorem esc_high {x : Int} (h : 128 ≤ x) : escI x = [x] := by
  have hs : shortI x = 0 := by unfold shortI; (repeat' split) <;> omega
  exact esc_own hs (by omega)
theorem esL_high : ∀ {L : List Int}, (∀ c ∈ L, 128 ≤ c) → esL L = L
  | [], _ => rfl
  | x :: r, h => by
    show escI x ++ esL r = x :: r
    rw [esc_high (h x (by simp)), esL_high (fun c hc => h c (by simp [hc]))]
    rfl
theorem conts_byt {s : ByteArray} {a : Nat} : ∀ k, conts s a k = true → ∀ i, i < k → 128 ≤ byt s (a + i)
  | 0, _, i, h => by omega
  | k + 1, hc, i, h => by
    simp only [conts, Bool.and_eq_true, decide_eq_true_eq] at hc
    by_cases e : i = k
    · subst e; omega
    · exact conts_byt k hc.1 i (by omega)
theorem drop_chunk (t : ByteArray) : ∀ (z a : Nat), a + z ≤ t.size → (bI t).drop a = ((List.range z).map fun k => byt t (a + k)) ++ (bI t).drop (a + z)
  | 0, a, _ => by simp
  | z + 1, a, h => by
    have hi : a < (bI t).length := by rw [bI_len]; omega
    have e := bI_at t a (by omega)
    rw [List.getElem?_eq_getElem hi] at e
    rw [List.drop_eq_getElem_cons hi, Option.some.inj e, drop_chunk t z (a + 1) (by omega), List.range_succ_eq_map]
    simp only [List.map_cons, List.map_map, List.cons_append, Nat.add_zero, List.cons.injEq, true_and]
    rw [show a + 1 + z = a + (z + 1) by omega]
    congr 1
    apply List.map_congr_left
    intro x _
    show byt t (a + 1 + x) = byt t (a + (x + 1))
    rw [show a + 1 + x = a + (x + 1) by omega]
theorem at_map {s : ByteArray} {F : Nat → Int} : ∀ {z j : Nat}, AtL s j ((List.range z).map F) → ∀ k, k < z → byt s (j + k) = F k := by
  intro z
  induction z generalizing F with
  | zero => intro j _ k hk; omega
  | succ z ih =>
    intro j h k hk
    rw [List.range_succ_eq_map, List.map_cons, List.map_map] at h
    cases k with
    | zero => exact h.2.1
    | succ k =>
      have := ih (F := F ∘ Nat.succ) h.2.2 k (by omega)
      rw [show j + (k + 1) = j + 1 + k by omega]
      exact this
/-- A text's bytes, as they are quoted, are code points. -/
theorem tw_esc {s t : ByteArray} {a b : Nat} (h : Tw t a b) (hb : b = t.size) : ∀ j, AtL s j (esL ((bI t).drop a)) → Tw s j (j + (esL ((bI t).drop a)).length) := by
  induction h with
  | nil a =>
    intro j _
    rw [List.drop_eq_nil_of_le (by rw [bI_len]; omega)]
    exact .nil _
  | @step a b h1 h2 _ ih =>
    intro j hat
    have hz := (decIs_lead h2).1
    have hin := dec_in h1 h2
    have hch := drop_chunk t (leadN (byt t a)) a hin
    have he : esL ((bI t).drop a) = esL ((List.range (leadN (byt t a))).map fun k => byt t (a + k)) ++ esL ((bI t).drop (a + leadN (byt t a))) := by
      rw [hch]; unfold esL; rw [List.flatMap_append]
    rw [he] at hat ⊢
    rw [at_app] at hat
    have hrest := ih hb _ hat.2
    rw [List.length_append, ← Nat.add_assoc]
    refine Tw.trans ?_ hrest
    by_cases hlow : byt t a < 128
    · have hl1 := (asc_dec hlow).2
      rw [hl1] at hat ⊢
      have e1 : ((List.range 1).map fun k => byt t (a + k)) = [byt t a] := rfl
      rw [e1] at hat ⊢
      have e2 : esL [byt t a] = escI (byt t a) := by unfold esL; simp
      rw [e2] at hat ⊢
      exact tw_asc (esc_asc (byt_range t a).1 hlow) hat.1
    · have hcb := conts_byt _ (decIs_lead h2).2
      have hall : ∀ c ∈ ((List.range (leadN (byt t a))).map fun k => byt t (a + k)), 128 ≤ c := by
        intro c hc
        obtain ⟨k, hk, rfl⟩ := List.mem_map.1 hc
        have hk := List.mem_range.1 hk
        cases k with
        | zero => show 128 ≤ byt t a; omega
        | succ k =>
          have := hcb k (by omega)
          rw [show a + (k + 1) = a + 1 + k by omega]
          exact this
      rw [esL_high hall] at hat ⊢
      have hlen : ((List.range (leadN (byt t a))).map fun k => byt t (a + k)).length = leadN (byt t a) := by simp
      have hle := at_le hat.1
      rw [hlen] at hle ⊢
      obtain ⟨d1, d2⟩ := dec_as h2 (at_map hat.1) hle
      refine .step (by omega) d1 ?_
      rw [d2]
      exact .nil _
/-- A text that is quoted is one. -/
theorem tw_qu {s t : ByteArray} {i : Nat} (ht : isTx t = true) (h : AtL s i (bI (quT t))) : Tw s i (i + (quT t).size) := by
  have hsz : (quT t).size = (esL (bI t)).length + 2 := by rw [← bI_len, quT_bI]; simp
  rw [quT_bI] at h
  have h : AtL s i ([34] ++ (esL (bI t) ++ [34])) := h
  rw [at_app, at_app] at h
  obtain ⟨h1, h2, h3⟩ := h
  have w1 := tw_asc (by intro c hc; simp at hc; omega) h1
  have e0 : (bI t).drop 0 = bI t := rfl
  have w2 := tw_esc (isTx_tw ht) rfl (i + 1) (by rw [e0]; exact h2)
  rw [e0] at w2
  have w3 := tw_asc (by intro c hc; simp at hc; omega) h3
  have w := (w1.trans w2).trans w3
  rw [hsz, show i + ((esL (bI t)).length + 2) = i + 1 + (esL (bI t)).length + 1 by omega]
  exact w
end Go.Proofs.YtoicmcjpaodgpaaDoor
/- Layer 4: what is written of a value is read, blanks around it (plain). -/
namespace Go.Proofs.YtoicmcjpaodgpaaDoor
open Go.RowKit
theorem ck_tx {s : ByteArray} (h : ckB s = true) : isTx s = true := by
  unfold ckB at h
  rw [decide_eq_true_eq] at h
  unfold ckE at h
  split at h
  · cases h
  · split at h
    · assumption
    · cases h
theorem dg_asc {D : List Int} (h : DgL D) : ∀ c ∈ D, c < 128 := fun c hc => by
  have := h.1 c hc
  unfold isDg at this
  simp only [Bool.and_eq_true, decide_eq_true_eq] at this
  omega
theorem itT_asc (n : Int) : ∀ c ∈ bI (itT n), c < 128 := by
  obtain ⟨D, hD, hb⟩ := itT_bI n
  rcases hb with hb | hb
  · rw [hb]; exact dg_asc hD
  · rw [hb]
    intro c hc
    rcases List.mem_cons.1 hc with rfl | hc
    · decide
    · exact dg_asc hD c hc
theorem tw_len {s : ByteArray} {i : Nat} {L : List Int} {k : Nat} (h : Tw s i (i + L.length)) (e : L.length = k) : Tw s i (i + k) := by rw [← e]; exact h
/-- Items are code points. -/
theorem tw_kl {s : ByteArray} {g : Nat → CR} {n r p : Nat} {T : Nat → ByteArray} {obj : Bool} (hr : r ≤ 16) (hI : ∀ a e i, p < a → wk g n r a = some e → AtL s i (bI (T a)) → Tw s i (i + (T a).size)) : ∀ (d k a e j : Nat) (ns : List ByteArray), p < a → kidsF (wk g n r) g n obj d ns a = some e → AtL s j (kl T g n obj d k a) → Tw s j (j + (kl T g n obj d k a).length)
  | 0, k, a, e, j, ns, _, _, _ => .nil _
  | d + 1, k, a, e, j, ns, hp, hk, h => by
    rw [kl_succ] at h ⊢
    rw [at_app, at_app, at_app] at h
    obtain ⟨h1, h2, h3, h4⟩ := h
    unfold kidsF at hk
    split at hk
    · cases hk
    split at hk
    case isFalse => cases hk
    rename_i hna hnm
    cases hw : wk g n r a with
    | none => rw [hw] at hk; cases hk
    | some a' =>
      rw [hw] at hk
      dsimp only at hk
      have hlt := wk_lt r a a' hw
      have hnx : nx g n a = a' := nx_some (wk_up hr hw)
      rw [hnx] at h4 ⊢
      have w1 : Tw s j (j + (if 0 < k then [44] else ([] : List Int)).length) := tw_asc (by intro c hc; split at hc <;> simp at hc; omega) h1
      have w2 : Tw s (j + (if 0 < k then [44] else ([] : List Int)).length) (j + (if 0 < k then [44] else ([] : List Int)).length + (if obj then bI (quT (g a).nm) ++ [58] else ([] : List Int)).length) := by
        cases obj with
        | false => exact .nil _
        | true =>
          simp only [if_true] at h2 ⊢
          rw [at_app] at h2
          unfold namedP at hnm
          simp only [if_true, Bool.and_eq_true] at hnm
          have q1 := tw_qu (ck_tx hnm.2) h2.1
          have q2 := tw_asc (by intro c hc; simp at hc; omega) h2.2
          rw [bI_len] at q2
          rw [List.length_append, bI_len, ← Nat.add_assoc]
          exact q1.trans q2
      have w3 := hI a a' _ hp hw h3
      have w4 := tw_kl hr hI d (k + 1) a' e _ _ (by omega) hk h4
      rw [bI_len] at w4
      have w := ((w1.trans w2).trans w3).trans w4
      simp only [List.length_append, bI_len]
      simpa only [Nat.add_assoc] using w
theorem tw_leaf {s : ByteArray} {g : Nat → CR} {n p F i : Nat} (hP : Pln g n) (hp : p < n) (ho : oneP (g p) = true) (hh : headP (g p) = false) (hF0 : 1 ≤ F) (hat : AtL s i (bI (jtx g n F p))) : Tw s i (i + (jtx g n F p).size) := by
  obtain ⟨F', rfl⟩ : ∃ F', F = F' + 1 := ⟨F - 1, by omega⟩
  have he := hP.en p hp
  rcases one_kind ho he with k | k | k | k | k | k
  · have ht : jtx g n (F' + 1) p = ⟨#[110, 117, 108, 108]⟩ := by unfold jtx; rw [if_pos k]
    rw [ht] at hat ⊢
    exact tw_len (tw_asc (by decide) hat) rfl
  · by_cases h1 : (g p).n = 1
    · have ht : jtx g n (F' + 1) p = ⟨#[116, 114, 117, 101]⟩ := by unfold jtx; rw [if_neg (by omega), if_pos k, if_pos h1]
      rw [ht] at hat ⊢
      exact tw_len (tw_asc (by decide) hat) rfl
    · have ht : jtx g n (F' + 1) p = ⟨#[102, 97, 108, 115, 101]⟩ := by unfold jtx; rw [if_neg (by omega), if_pos k, if_neg h1]
      rw [ht] at hat ⊢
      exact tw_len (tw_asc (by decide) hat) rfl
  · have ht : jtx g n (F' + 1) p = itT (g p).n := by unfold jtx; rw [if_neg (by omega), if_neg (by omega), if_pos k]
    rw [ht] at hat ⊢
    exact tw_len (tw_asc (itT_asc _) hat) (bI_len _)
  · unfold oneP at ho
    rw [if_neg (by omega), if_neg (by omega), if_neg (by omega), if_pos k] at ho
    simp only [Bool.and_eq_true] at ho
    have ht : jtx g n (F' + 1) p = quT (g p).tx := by unfold jtx; rw [if_neg (by omega), if_neg (by omega), if_neg (by omega), if_pos k]
    rw [ht] at hat ⊢
    exact tw_qu (ck_tx ho.2) hat
  · unfold headP at hh; rw [k] at hh; simp at hh
  · unfold headP at hh; rw [k] at hh; simp at hh
theorem tw_val {s : ByteArray} {g : Nat → CR} {n : Nat} (hP : Pln g n) : ∀ (r p e F i : Nat), r ≤ 16 → wk g n r p = some e → n - p ≤ F → AtL s i (bI (jtx g n F p)) → Tw s i (i + (jtx g n F p).size)
  | 0, p, e, F, i, hr, hw, hF, hat => by
    rw [wk_z] at hw
    split at hw
    · cases hw
    split at hw
    case isFalse => cases hw
    rename_i hpn hoh
    simp only [Bool.and_eq_true, Bool.not_eq_true'] at hoh
    exact tw_leaf hP (by omega) hoh.1 hoh.2 (by omega) hat
  | r + 1, p, e, F, i, hr, hw, hF, hat => by
    rw [wk_s] at hw
    split at hw
    · cases hw
    split at hw
    case isFalse => cases hw
    rename_i hpn ho
    split at hw
    case isFalse hh => exact tw_leaf hP (by omega) ho (by simpa using hh) (by omega) hat
    rename_i hh
    obtain ⟨F', rfl⟩ : ∃ F', F = F' + 1 := ⟨F - 1, by omega⟩
    have hI : ∀ a e i, p < a → wk g n r a = some e → AtL s i (bI (jtx g n F' a)) → Tw s i (i + (jtx g n F' a).size) := fun a e' i' ha hw' hat' => tw_val hP r a e' F' i' (by omega) hw' (by omega) hat'
    unfold headP at hh
    simp only [Bool.or_eq_true, decide_eq_true_eq] at hh
    rcases hh with k | k
    · rw [k] at hw
      have hw : kidsF (wk g n r) g n false (g p).m.toNat [] (p + 1) = some e := hw
      have ht : bI (jtx g n (F' + 1) p) = [91] ++ (kl (jtx g n F') g n false (g p).m.toNat 0 (p + 1) ++ [93]) := by
        unfold jtx
        rw [if_neg (by omega), if_neg (by omega), if_neg (by omega), if_neg (by omega), if_neg (by omega), bI_app, bI_app, jki_all]
        rfl
      have hsz : (jtx g n (F' + 1) p).size = (kl (jtx g n F') g n false (g p).m.toNat 0 (p + 1)).length + 2 := by rw [← bI_len, ht]; simp
      rw [ht, at_app, at_app] at hat
      have w1 := tw_asc (by decide) hat.1
      have w2 := tw_kl (by omega) hI _ _ _ e _ _ (by omega) hw hat.2.1
      have w3 := tw_asc (by decide) hat.2.2
      rw [hsz, show i + ((kl (jtx g n F') g n false (g p).m.toNat 0 (p + 1)).length + 2) = i + 1 + (kl (jtx g n F') g n false (g p).m.toNat 0 (p + 1)).length + 1 by omega]
      exact (w1.trans w2).trans w3
    · rw [k] at hw
      have hw : kidsF (wk g n r) g n true (g p).m.toNat [] (p + 1) = some e := hw
      have ht : bI (jtx g n (F' + 1) p) = [123] ++ (kl (jtx g n F') g n true (g p).m.toNat 0 (p + 1) ++ [125]) := by
        unfold jtx
        rw [if_neg (by omega), if_neg (by omega), if_neg (by omega), if_neg (by omega), if_pos k, bI_app, bI_app, jki_all]
        rfl
      have hsz : (jtx g n (F' + 1) p).size = (kl (jtx g n F') g n true (g p).m.toNat 0 (p + 1)).length + 2 := by rw [← bI_len, ht]; simp
      rw [ht, at_app, at_app] at hat
      have w1 := tw_asc (by decide) hat.1
      have w2 := tw_kl (by omega) hI _ _ _ e _ _ (by omega) hw hat.2.1
      have w3 := tw_asc (by decide) hat.2.2
      rw [hsz, show i + ((kl (jtx g n F') g n true (g p).m.toNat 0 (p + 1)).length + 2) = i + 1 + (kl (jtx g n F') g n true (g p).m.toNat 0 (p + 1)).length + 1 by omega]
      exact (w1.trans w2).trans w3
theorem bl_at {s : ByteArray} : ∀ {L : List Int} {i : Nat}, (∀ c ∈ L, isBl c = true) → AtL s i L → bl s i = bl s (i + L.length)
  | [], i, _, _ => rfl
  | c :: r, i, hc, h => by
    rw [bl_step (by rw [h.2.1]; exact hc c (by simp)), bl_at (fun x hx => hc x (by simp [hx])) h.2.2, show i + 1 + r.length = i + (c :: r).length by simp; omega]
theorem byt_end {s : ByteArray} {i : Nat} (h : s.size ≤ i) : byt s i = 0 := by unfold byt; rw [dif_neg (by omega)]
/-- What is written is read as that value, blanks around it. -/
theorem rt_read {g : Nat → CR} {n : Nat} {b : ByteArray} (hP : Pln g n) (hn : n ≤ 2048) (hw : wk g n 16 0 = some n) (h0 : em (g 0).nm = true) (hb : ∀ c ∈ bI b, isBl c = true) (hsz : (b ++ jtx g n n 0 ++ b).size ≤ 16384) : readM (b ++ jtx g n n 0 ++ b) = .ok (cut g 0 n) := by
  obtain ⟨s, hs⟩ : ∃ s, s = b ++ jtx g n n 0 ++ b := ⟨_, rfl⟩
  obtain ⟨T, hT⟩ : ∃ T, T = jtx g n n 0 := ⟨_, rfl⟩
  rw [← hs] at hsz ⊢
  have hbi : bI s = bI b ++ (bI T ++ bI b) := by rw [hs, ← hT, bI_app, bI_app, List.append_assoc]
  have hall := at_all s
  rw [hbi, at_app, at_app] at hall
  obtain ⟨a1, a2, a3⟩ := hall
  rw [Nat.zero_add, bI_len] at a2 a3
  rw [bI_len] at a3
  have hS : s.size = b.size + T.size + b.size := by rw [← bI_len s, hbi]; simp [bI_len]; omega
  have hfo : Fo (byt s (b.size + T.size)) := by
    cases hbb : bI b with
    | nil =>
      have : b.size = 0 := by rw [← bI_len, hbb]; rfl
      rw [byt_end (by omega)]
      exact ⟨by decide, by decide, by decide, by decide⟩
    | cons c r =>
      rw [hbb] at a3
      rw [a3.2.1]
      have hc := hb c (by rw [hbb]; simp)
      unfold isBl at hc
      simp only [Bool.or_eq_true, decide_eq_true_eq] at hc
      unfold Fo isDg
      simp only [Bool.and_eq_false_iff, decide_eq_false_iff_not]
      omega
  rw [hT] at a2 hfo
  have hv := rt_val hP 16 0 n n b.size [] (Nat.le_refl _) hw (by omega) a2 hfo (by simp; omega)
  have hnm : (g 0).nm = ⟨#[]⟩ := em_eq h0
  rw [hnm, Nat.sub_self, ← hT] at hv
  have hb1 : bl s 0 = b.size := by
    rw [bl_at hb a1, Nat.zero_add, bI_len]
    exact bl_stop (st_bl hv.2).1
  have hb2 : bl s (b.size + T.size) = s.size := by
    rw [bl_at hb a3, bI_len, hS]
    exact bl_stop (by rw [byt_end (by omega)]; decide)
  have hasc : ∀ c ∈ bI b, c < 128 := fun c hc => by
    have := hb c hc
    unfold isBl at this
    simp only [Bool.or_eq_true, decide_eq_true_eq] at this
    omega
  have w1 := tw_asc hasc a1
  have w2 := tw_val hP 16 0 n n b.size (Nat.le_refl _) hw (by omega) a2
  have w3 := tw_asc hasc a3
  rw [Nat.zero_add, bI_len] at w1
  rw [bI_len] at w3
  rw [← hT] at w2
  have htx : isTx s = true := Tw.tx ((w1.trans w2).trans w3) hS.symm s.size (by omega)
  have hck : ckE s = 0 := by unfold ckE; rw [if_neg (by omega), if_pos htx]
  unfold readM
  rw [hck, if_neg (by decide), hb1, hv.1, Rs.bind_ok]
  dsimp only
  rw [hb2, if_neg (by omega)]
  rfl
end Go.Proofs.YtoicmcjpaodgpaaDoor
/- Layer 4: what is read of a beginning is read of all (plain). -/
namespace Go.Proofs.YtoicmcjpaodgpaaDoor
open Go.RowKit
/-- A text begins with another one. -/
structure Ex (s' s : ByteArray) : Prop where
  le : s'.size ≤ s.size
  eq : ∀ k, k < s'.size → byt s k = byt s' k
theorem Ex.at_ {s' s : ByteArray} (h : Ex s' s) {i : Nat} (hn : byt s' i ≠ 0) : byt s i = byt s' i := h.eq i (byt_in hn)
theorem ext_word {s' s : ByteArray} (h : Ex s' s) : ∀ (l : List Int) (i j : Nat), (∀ c ∈ l, c ≠ 0) → wordM s' l i = .ok j → wordM s l i = .ok j
  | [], _, _, _, e => e
  | c :: r, i, j, hc, e => by
    unfold wordM at e ⊢
    split at e
    · rename_i hb
      rw [h.at_ (by rw [hb]; exact hc c (by simp)), if_pos hb]
      exact ext_word h r (i + 1) j (fun x hx => hc x (by simp [hx])) e
    · cases e
theorem ext_bl {s' s : ByteArray} (h : Ex s' s) : ∀ (f i j : Nat), s'.size - i ≤ f → bl s' i = j → j < s'.size → bl s i = j
  | 0, i, j, hf, e, hj => by
    have := bl_ge s' i
    omega
  | f + 1, i, j, hf, e, hj => by
    cases hb : isBl (byt s' i) with
    | true =>
      have hi : i < s'.size := byt_in (by intro e'; rw [e'] at hb; cases hb)
      rw [bl_step hb] at e
      rw [bl_step (by rw [h.eq i hi]; exact hb)]
      exact ext_bl h f (i + 1) j (by omega) e hj
    | false =>
      rw [bl_stop hb] at e
      subst e
      exact bl_stop (by rw [h.eq i hj]; exact hb)
theorem ext_dg {s' s : ByteArray} (h : Ex s' s) : ∀ (f i j : Nat), s'.size - i ≤ f → dg s' i = j → j < s'.size → dg s i = j
  | 0, i, j, hf, e, hj => by
    have := dg_ge s' i
    omega
  | f + 1, i, j, hf, e, hj => by
    cases hb : isDg (byt s' i) with
    | true =>
      have hi : i < s'.size := byt_in (by intro e'; rw [e'] at hb; cases hb)
      rw [dg_step hb] at e
      rw [dg_step (by rw [h.eq i hi]; exact hb)]
      exact ext_dg h f (i + 1) j (by omega) e hj
    | false =>
      rw [dg_stop hb] at e
      subst e
      exact dg_stop (by rw [h.eq i hj]; exact hb)
theorem hex_in {b : Int} (h : ¬ hexV b < 0) : b ≠ 0 := by
  intro e
  rw [e] at h
  exact h (by decide)
theorem ext_four {s' s : ByteArray} (h : Ex s' s) : ∀ (k i : Nat) (n : Int) (x : Int × Nat), fourF s' k i n = .ok x → fourF s k i n = .ok x
  | 0, _, _, _, e => e
  | k + 1, i, n, x, e => by
    unfold fourF at e ⊢
    split at e
    · cases e
    · rename_i hh
      rw [h.at_ (hex_in hh), if_neg hh]
      exact ext_four h k _ _ _ e
theorem ext_point {s' s : ByteArray} (h : Ex s' s) {i : Nat} {x : Int × Nat} (e : pointM s' i = .ok x) : pointM s i = .ok x := by
  unfold pointM at e ⊢
  cases h1 : fourF s' 4 i 0 with
  | bad m => rw [h1] at e; cases e
  | ok y =>
    rw [h1] at e
    rw [ext_four h _ _ _ _ h1]
    simp only [Rs.bind_ok] at e ⊢
    split at e
    · rename_i hh
      rw [if_pos hh]
      cases h2 : wordM s' [92, 117] y.2 with
      | bad m => rw [h2] at e; cases e
      | ok j =>
        rw [h2] at e
        rw [ext_word h _ _ _ (by decide) h2]
        simp only [Rs.bind_ok] at e ⊢
        cases h3 : fourF s' 4 j 0 with
        | bad m => rw [h3] at e; cases e
        | ok z =>
          rw [h3] at e
          rw [ext_four h _ _ _ _ h3]
          exact e
    · rename_i hh
      rw [if_neg hh]
      exact e
theorem ext_esc {s' s : ByteArray} (h : Ex s' s) {i : Nat} {x : List Int × Nat} (e : escM s' i = .ok x) : escM s i = .ok x := by
  have hin : i < s'.size := by
    by_cases hh : i < s'.size
    · exact hh
    · unfold escM at e
      rw [byt_end (by omega)] at e
      cases e
  unfold escM at e ⊢
  rw [h.eq i hin]
  dsimp only at e ⊢
  (repeat' split at e) <;> first | (cases e; done) | skip
  all_goals simp_all only [if_true, if_false, or_true, true_or, or_false, false_or, ↓reduceIte, not_or]
  all_goals first
    | rfl
    | (cases hp : pointM s' (i + 1) with
       | bad m => rw [hp] at e; cases e
       | ok y =>
         rw [hp] at e
         rw [ext_point h hp]
         exact e)
theorem ext_strF {s' s : ByteArray} (h : Ex s' s) : ∀ (f f' j : Nat) (l : List Int) (x : List Int × Nat), f ≤ f' → strF s' f j l = .ok x → strF s f' j l = .ok x
  | 0, _, _, _, _, _, e => by cases e
  | f + 1, f', j, l, x, hf, e => by
    obtain ⟨f2, rfl⟩ : ∃ f2, f' = f2 + 1 := ⟨f' - 1, by omega⟩
    unfold strF at e ⊢
    split at e
    · rename_i hb
      rw [h.at_ (by omega), if_pos hb]
      exact e
    split at e
    · rename_i hb0 hb
      rw [h.at_ (by omega), if_neg hb0, if_pos hb]
      cases he : escM s' (j + 1) with
      | bad m => rw [he] at e; cases e
      | ok y =>
        rw [he] at e
        rw [ext_esc h he]
        exact ext_strF h f f2 _ _ _ (by omega) e
    split at e
    · cases e
    · rename_i hb0 hb1 hb
      rw [h.at_ (by omega), if_neg hb0, if_neg hb1, if_neg hb]
      exact ext_strF h f f2 _ _ _ (by omega) e
theorem ext_str {s' s : ByteArray} (h : Ex s' s) {i : Nat} {x : List Int × Nat} (e : strM s' i = .ok x) : strM s i = .ok x := by
  unfold strM at e ⊢
  cases hw : wordM s' [34] i with
  | bad m => rw [hw] at e; cases e
  | ok j =>
    rw [hw] at e
    rw [ext_word h _ _ _ (by decide) hw]
    exact ext_strF h _ _ _ _ _ (by have := h.le; omega) e
/-- What may stand behind a value that is whole. -/
def Cl (b : Int) : Prop := b = 44 ∨ b = 93 ∨ b = 125 ∨ isBl b = true
theorem cl_not {b : Int} (h : Cl b) : b ≠ 0 ∧ isDg b = false ∧ b ≠ 46 ∧ b ≠ 101 ∧ b ≠ 69 := by
  unfold Cl isBl at h
  simp only [Bool.or_eq_true, decide_eq_true_eq] at h
  unfold isDg
  simp only [Bool.and_eq_false_iff, decide_eq_false_iff_not]
  omega
theorem ext_extract {s' s : ByteArray} (h : Ex s' s) {i d : Nat} (hd : d ≤ s'.size) : s.extract i d = s'.extract i d := by
  apply bI_inj
  rw [bI_extract, bI_extract]
  congr 1
  apply List.ext_getElem?
  intro k
  rw [List.getElem?_take, List.getElem?_take]
  split
  · rw [bI_at s k (by have := h.le; omega), bI_at s' k (by omega), h.eq k (by omega)]
  · rfl
theorem ext_num {s' s : ByteArray} (h : Ex s' s) {i d : Nat} {n : Int} (hi : i ≤ s'.size) (e : numM s' i = .ok (n, d)) (hc : Cl (byt s' d)) : numM s i = .ok (n, d) := by
  obtain ⟨c0, c1, c2, c3, c4⟩ := cl_not hc
  have hd : d < s'.size := byt_in c0
  unfold numM at e ⊢
  cases hb : intM s' i with
  | bad m => rw [hb] at e; cases e
  | ok b =>
    rw [hb] at e
    simp only [Rs.bind_ok] at e
    obtain ⟨b1, b2⟩ := intM_ok hi hb
    obtain ⟨f1, f2⟩ := fracM_ok b2
    obtain ⟨g1, g2⟩ := expoM_ok f2
    have hde : expoM s' (fracM s' b) = d := by
      split at e
      · cases e; rfl
      · cases e
    have hib : intM s i = .ok b := by
      unfold intM at hb ⊢
      have e0 := h.eq i (by omega)
      rw [e0]
      obtain ⟨a, ha⟩ : ∃ a, a = if byt s' i = 45 then i + 1 else i := ⟨_, rfl⟩
      simp only [← ha] at hb ⊢
      have hab : a < b := by
        split at hb
        · cases hb; omega
        · split at hb
          · cases hb
          · have := dg_ge s' a
            cases hb
            omega
      rw [h.eq a (by omega)]
      split at hb
      · rename_i h48
        rw [if_pos h48]
        exact hb
      · rename_i h48
        split at hb
        · cases hb
        · rename_i hne
          cases hb
          have hx := ext_dg h _ a _ (Nat.le_refl _) rfl (show dg s' a < s'.size by omega)
          rw [if_neg h48, hx, if_neg hne]
    have hfr : fracM s b = fracM s' b := by
      unfold fracM
      rw [h.eq b (by omega)]
      split
      · rename_i h46
        by_cases hz : dg s' (b + 1) = b + 1
        · exfalso
          have e1 : fracM s' b = b := by unfold fracM; rw [if_pos h46, if_pos hz]
          rw [e1] at hde
          unfold expoM at hde
          rw [if_neg (by omega)] at hde
          rw [← hde] at c2
          exact c2 h46
        · have e1 : fracM s' b = dg s' (b + 1) := by unfold fracM; rw [if_pos h46, if_neg hz]
          have hx := ext_dg h _ (b + 1) _ (Nat.le_refl _) rfl (show dg s' (b + 1) < s'.size by omega)
          rw [hx]
      · rfl
    have hex : expoM s (fracM s' b) = d := by
      obtain ⟨c, hcc⟩ : ∃ c, c = fracM s' b := ⟨_, rfl⟩
      rw [← hcc] at hde g1 ⊢
      have hcd : c < s'.size := by omega
      unfold expoM at hde ⊢
      rw [h.eq c hcd]
      by_cases hE : byt s' c = 101 ∨ byt s' c = 69
      · rw [if_pos hE] at hde ⊢
        have hc1 : c + 1 < s'.size := by
          by_cases k : c + 1 < s'.size
          · exact k
          · exfalso
            have e3 : byt s' (c + 1) = 0 := byt_end (by omega)
            rw [e3] at hde
            dsimp only at hde
            rw [if_neg (show ¬ ((0 : Int) = 43 ∨ (0 : Int) = 45) by decide), dg_stop (by rw [e3]; decide), if_pos rfl] at hde
            rw [hde] at hE
            omega
        rw [h.eq (c + 1) hc1]
        obtain ⟨c5, hc5⟩ : ∃ c5, c5 = if byt s' (c + 1) = 43 ∨ byt s' (c + 1) = 45 then c + 2 else c + 1 := ⟨_, rfl⟩
        dsimp only at hde ⊢
        rw [← hc5] at hde ⊢
        by_cases hz : dg s' c5 = c5
        · rw [if_pos hz] at hde
          exfalso
          rw [hde] at hE
          omega
        · rw [if_neg hz] at hde
          have hx := ext_dg h _ c5 _ (Nat.le_refl _) rfl (show dg s' c5 < s'.size by omega)
          rw [hx, if_neg hz]
          exact hde
      · rw [if_neg hE] at hde ⊢
        exact hde
    rw [hib, Rs.bind_ok]
    dsimp only
    rw [hfr, hex, ext_extract h (by omega)]
    rw [hde] at e
    exact e
end Go.Proofs.YtoicmcjpaodgpaaDoor
/- Layer 4: a value that is read of a beginning is read of all; no beginning of what is written is read (plain). -/
namespace Go.Proofs.YtoicmcjpaodgpaaDoor
open Go.RowKit
/-- What an item is in a beginning it is in all. -/
structure ItX {σ : Type} (s' s : ByteArray) (it' it : Nat → σ → Rs (Nat × σ)) : Prop where
  same : ∀ i x y, it' i x = .ok y → Cl (byt s' y.1) → it i x = .ok y
  here : ∀ i x y, it' i x = .ok y → i < s'.size
theorem alF_head {σ : Type} {s : ByteArray} {it : Nat → σ → Rs (Nat × σ)} {shut : Int} {f i : Nat} {x : σ} {y : Nat × σ} (e : alF s it shut f i x = .ok y) : byt s i = 44 ∨ byt s i = shut := by
  cases f with
  | zero => cases e
  | succ f =>
    unfold alF at e
    split at e
    · rename_i h; exact .inl h
    · unfold wordM at e
      split at e
      · rename_i h; exact .inr h
      · cases e
theorem cl_bl {s : ByteArray} {i : Nat} {shut : Int} (hsh : shut = 93 ∨ shut = 125) (h : byt s (bl s i) = 44 ∨ byt s (bl s i) = shut) : Cl (byt s i) ∧ bl s i < s.size := by
  refine ⟨?_, byt_in (by omega)⟩
  cases hb : isBl (byt s i) with
  | true => exact .inr (.inr (.inr hb))
  | false =>
    rw [bl_stop hb] at h
    unfold Cl
    omega
theorem alF_ext {σ : Type} {s' s : ByteArray} (h : Ex s' s) {it' it : Nat → σ → Rs (Nat × σ)} (hI : ItX s' s it' it) {shut : Int} (hsh : shut = 93 ∨ shut = 125) : ∀ (f f' i : Nat) (x : σ) (y : Nat × σ), f ≤ f' → alF s' it' shut f i x = .ok y → alF s it shut f' i x = .ok y
  | 0, _, _, _, _, _, e => by cases e
  | f + 1, f', i, x, y, hf, e => by
    obtain ⟨f2, rfl⟩ : ∃ f2, f' = f2 + 1 := ⟨f' - 1, by omega⟩
    unfold alF at e ⊢
    split at e
    · rename_i h44
      rw [h.at_ (by omega), if_pos h44]
      cases hz : it' (bl s' (i + 1)) x with
      | bad m => rw [hz] at e; cases e
      | ok z =>
        rw [hz] at e
        simp only [Rs.bind_ok] at e
        obtain ⟨c1, c2⟩ := cl_bl hsh (alF_head e)
        rw [ext_bl h _ (i + 1) _ (Nat.le_refl _) rfl (hI.here _ _ _ hz), hI.same _ _ _ hz c1, Rs.bind_ok, ext_bl h _ z.1 _ (Nat.le_refl _) rfl c2]
        exact alF_ext h hI hsh f f2 _ _ _ (by omega) e
    · rename_i h44
      cases hw : wordM s' [shut] i with
      | bad m => rw [hw] at e; cases e
      | ok j =>
        rw [hw] at e
        have hb : byt s' i = shut := by
          unfold wordM at hw
          split at hw
          · assumption
          · cases hw
        rw [h.at_ (by omega), if_neg h44, ext_word h _ _ _ (by intro c hc; simp at hc; omega) hw]
        exact e
theorem alM_ext {σ : Type} {s' s : ByteArray} (h : Ex s' s) {it' it : Nat → σ → Rs (Nat × σ)} (hI : ItX s' s it' it) {shut : Int} (hsh : shut = 93 ∨ shut = 125) {i : Nat} {x : σ} {y : Nat × σ} (e : alM s' it' shut i x = .ok y) : alM s it shut i x = .ok y ∧ i < s'.size := by
  unfold alM at e ⊢
  split at e
  · rename_i hb
    rw [h.at_ (by omega), if_pos hb]
    exact ⟨e, byt_in (by omega)⟩
  · rename_i hb
    cases hz : it' i x with
    | bad m => rw [hz] at e; cases e
    | ok z =>
      rw [hz] at e
      simp only [Rs.bind_ok] at e
      have hi := hI.here _ _ _ hz
      obtain ⟨c1, c2⟩ := cl_bl hsh (alF_head e)
      rw [h.eq i hi, if_neg hb, hI.same _ _ _ hz c1, Rs.bind_ok, ext_bl h _ z.1 _ (Nat.le_refl _) rfl c2]
      exact ⟨alF_ext h hI hsh _ _ _ _ _ (by have := h.le; omega) e, hi⟩
/-- Values that are read of a beginning. -/
structure VaX (s' s : ByteArray) (V' V : ByteArray → Nat → List CR → Rs Out) : Prop where
  same : ∀ nm i L y, V' nm i L = .ok y → Cl (byt s' y.1) → V nm i L = .ok y
  here : ∀ nm i L y, V' nm i L = .ok y → i < s'.size
theorem litI_ext {s' s : ByteArray} {V' V : ByteArray → Nat → List CR → Rs Out} (hV : VaX s' s V' V) (nm : ByteArray) (hd : Nat) : ItX s' s (litI s' (V' nm) hd) (litI s (V nm) hd) where
  same := fun i x y e hc => by
    unfold litI at e ⊢
    cases hz : V' nm i x with
    | bad m => rw [hz] at e; cases e
    | ok z =>
      rw [hz] at e
      simp only [Rs.bind_ok] at e
      have e1 : z.1 = y.1 := by cases e; rfl
      rw [← e1] at hc
      rw [hV.same _ _ _ _ hz hc]
      exact e
  here := fun i x y e => by
    unfold litI at e
    cases hz : V' nm i x with
    | bad m => rw [hz] at e; cases e
    | ok z => exact hV.here _ _ _ _ hz
theorem word1 {s : ByteArray} {c : Int} {i j : Nat} (h : wordM s [c] i = .ok j) : byt s i = c ∧ j = i + 1 := by
  unfold wordM at h
  split at h
  · unfold wordM at h
    cases h
    exact ⟨by assumption, rfl⟩
  · cases h
theorem str_here {s : ByteArray} {i : Nat} {x : List Int × Nat} (e : strM s i = .ok x) : i < s.size := by
  unfold strM at e
  cases hw : wordM s [34] i with
  | bad m => rw [hw] at e; cases e
  | ok j => exact byt_in (by rw [(word1 hw).1]; decide)
theorem objI_ext {s' s : ByteArray} (h : Ex s' s) {V' V : ByteArray → Nat → List CR → Rs Out} (hV : VaX s' s V' V) (hd : Nat) : ItX s' s (objI s' V' hd) (objI s V hd) where
  same := fun i x y e hc => by
    unfold objI memM at e ⊢
    cases hst : strM s' i with
    | bad m => rw [hst] at e; cases e
    | ok t =>
      rw [hst] at e
      rw [ext_str h hst]
      simp only [Rs.bind_ok] at e ⊢
      split at e
      · cases e
      · rename_i h1
        rw [if_neg h1]
        split at e
        · cases e
        · rename_i h2
          rw [if_neg h2]
          cases hw : wordM s' [58] (bl s' t.2) with
          | bad m => rw [hw] at e; cases e
          | ok k =>
            rw [hw] at e
            simp only [Rs.bind_ok] at e
            obtain ⟨w1, w2⟩ := word1 hw
            cases hz : V' (mkB t.1) (bl s' k) x.2 with
            | bad m => rw [hz] at e; cases e
            | ok z =>
              rw [hz] at e
              simp only [Rs.bind_ok] at e
              have e1 : z.1 = y.1 := by cases e; rfl
              rw [← e1] at hc
              rw [ext_bl h _ t.2 _ (Nat.le_refl _) rfl (byt_in (by rw [w1]; decide)), ext_word h _ _ _ (by decide) hw, Rs.bind_ok, ext_bl h _ k _ (Nat.le_refl _) rfl (hV.here _ _ _ _ hz), hV.same _ _ _ _ hz hc]
              exact e
  here := fun i x y e => by
    unfold objI memM at e
    cases hst : strM s' i with
    | bad m => rw [hst] at e; cases e
    | ok t => exact str_here hst
theorem valM_here {s : ByteArray} : ∀ {f : Nat} {nm : ByteArray} {op i : Nat} {L : List CR} {y : Out}, valM s f nm op i L = .ok y → i < s.size
  | 0, _, _, _, _, _, e => by cases e
  | f + 1, nm, op, i, L, y, e => by
    unfold valM at e
    split at e
    · cases e
    · rename_i hs
      refine byt_in (fun h0 => hs ?_)
      rw [h0]
      decide
/-- A value that is read of a beginning is read of all. -/
theorem valM_ext {s' s : ByteArray} (h : Ex s' s) : ∀ (f : Nat) (nm : ByteArray) (op i : Nat) (L : List CR) (y : Out), valM s' f nm op i L = .ok y → (Cl (byt s' y.1) ∨ ¬ (byt s' i = 45 ∨ isDg (byt s' i) = true)) → valM s f nm op i L = .ok y
  | 0, _, _, _, _, _, e, _ => by cases e
  | f + 1, nm, op, i, L, y, e, hc => by
    have hi := valM_here e
    have hV : ∀ op, VaX s' s (fun nm j M => valM s' f nm op j M) (fun nm j M => valM s f nm op j M) := fun op => ⟨fun nm i L y e' hc' => valM_ext h f nm op i L y e' (.inl hc'), fun nm i L y e' => valM_here e'⟩
    unfold valM at e ⊢
    rw [h.eq i hi]
    split at e
    · cases e
    rename_i h1
    rw [if_neg h1]
    split at e
    · cases e
    rename_i h2
    rw [if_neg h2]
    split at e
    · cases e
    rename_i h3
    rw [if_neg h3]
    split at e
    · rename_i hb
      rw [if_pos hb]
      rw [obj_al] at e ⊢
      cases ha : alM s' (objI s' (fun nm' j M => valM s' f nm' (op + 1) j M) L.length) 125 (bl s' (i + 1)) ([], L ++ [⟨7, nm, ⟨#[]⟩, 0, 0⟩]) with
      | bad m => rw [ha] at e; cases e
      | ok z =>
        rw [ha] at e
        obtain ⟨k1, k2⟩ := alM_ext h (objI_ext h (hV (op + 1)) L.length) (.inr rfl) ha
        rw [ext_bl h _ (i + 1) _ (Nat.le_refl _) rfl k2, k1]
        exact e
    rename_i h4
    rw [if_neg h4]
    split at e
    · rename_i hb
      rw [if_pos hb]
      rw [lst_al] at e ⊢
      obtain ⟨k1, k2⟩ := alM_ext h (litI_ext (hV (op + 1)) ⟨#[]⟩ L.length) (.inl rfl) e
      rw [ext_bl h _ (i + 1) _ (Nat.le_refl _) rfl k2]
      exact k1
    rename_i h5
    rw [if_neg h5]
    split at e
    · rename_i hb
      rw [if_pos hb]
      cases hst : strM s' i with
      | bad m => rw [hst] at e; cases e
      | ok t => rw [hst] at e; rw [ext_str h hst]; exact e
    rename_i h6
    rw [if_neg h6]
    split at e
    · rename_i hb
      rw [if_pos hb]
      cases hst : wordM s' [116, 114, 117, 101] i with
      | bad m => rw [hst] at e; cases e
      | ok t => rw [hst] at e; rw [ext_word h _ _ _ (by decide) hst]; exact e
    rename_i h7
    rw [if_neg h7]
    split at e
    · rename_i hb
      rw [if_pos hb]
      cases hst : wordM s' [102, 97, 108, 115, 101] i with
      | bad m => rw [hst] at e; cases e
      | ok t => rw [hst] at e; rw [ext_word h _ _ _ (by decide) hst]; exact e
    rename_i h8
    rw [if_neg h8]
    split at e
    · rename_i hb
      rw [if_pos hb]
      cases hst : wordM s' [110, 117, 108, 108] i with
      | bad m => rw [hst] at e; cases e
      | ok t => rw [hst] at e; rw [ext_word h _ _ _ (by decide) hst]; exact e
    · rename_i h9
      rw [if_neg h9]
      have hnum : byt s' i = 45 ∨ isDg (byt s' i) = true := by
        have h1' : isSt (byt s' i) = true := by simpa using h1
        unfold isSt at h1'
        simp only [Bool.or_eq_true, decide_eq_true_eq] at h1'
        rcases h1' with ((((((k | k) | k) | k) | k) | k) | k) | k
        · exact absurd k h4
        · exact absurd k h5
        · exact absurd k h6
        · exact absurd k h7
        · exact absurd k h8
        · exact absurd k h9
        · exact .inl k
        · exact .inr k
      rcases hc with hc | hc
      · cases hst : numM s' i with
        | bad m => rw [hst] at e; cases e
        | ok t =>
          rw [hst] at e
          simp only [Rs.bind_ok] at e
          have e1 : t.2 = y.1 := by cases e; rfl
          rw [← e1] at hc
          rw [ext_num h (Nat.le_of_lt hi) hst hc]
          exact e
      · exact absurd hnum hc
theorem jtx_first {g : Nat → CR} {n p F : Nat} (he : enB (g p) = false) (ho : oneP (g p) = true) (h2 : (g p).k ≠ 2) : ∃ c r, bI (jtx g n (F + 1) p) = c :: r ∧ ¬ (c = 45 ∨ isDg c = true) ∧ isBl c = false := by
  rcases one_kind ho he with k | k | k | k | k | k
  · exact ⟨110, [117, 108, 108], by unfold jtx; rw [if_pos k]; rfl, by decide, by decide⟩
  · by_cases h1 : (g p).n = 1
    · exact ⟨116, [114, 117, 101], by unfold jtx; rw [if_neg (by omega), if_pos k, if_pos h1]; rfl, by decide, by decide⟩
    · exact ⟨102, [97, 108, 115, 101], by unfold jtx; rw [if_neg (by omega), if_pos k, if_neg h1]; rfl, by decide, by decide⟩
  · exact absurd k h2
  · exact ⟨34, _, by unfold jtx; rw [if_neg (by omega), if_neg (by omega), if_neg (by omega), if_pos k, quT_bI], by decide, by decide⟩
  · exact ⟨91, _, by unfold jtx; rw [if_neg (by omega), if_neg (by omega), if_neg (by omega), if_neg (by omega), if_neg (by omega), bI_app, bI_app, List.append_assoc]; rfl, by decide, by decide⟩
  · exact ⟨123, _, by unfold jtx; rw [if_neg (by omega), if_neg (by omega), if_neg (by omega), if_neg (by omega), if_pos k, bI_app, bI_app, List.append_assoc]; rfl, by decide, by decide⟩
theorem ex_cut {s : ByteArray} {m : Nat} (h : m ≤ s.size) : Ex (s.extract 0 m) s := ⟨by rw [size_cut s m h]; exact h, fun k hk => by rw [size_cut s m h] at hk; exact (byt_cut s m k h hk).symm⟩
/-- No beginning of what is written is read, but a number's. -/
theorem rt_cuts {g : Nat → CR} {n m : Nat} (hP : Pln g n) (hn : n ≤ 2048) (hw : wk g n 16 0 = some n) (h0 : em (g 0).nm = true) (h2 : (g 0).k ≠ 2) (hm : m < (jtx g n n 0).size) : ∃ e, readM ((jtx g n n 0).extract 0 m) = .bad e := by
  obtain ⟨T, hT⟩ : ∃ T, T = jtx g n n 0 := ⟨_, rfl⟩
  rw [← hT] at hm ⊢
  have hsz : (T.extract 0 m).size = m := size_cut T m (by omega)
  have hx := ex_cut (show m ≤ T.size by omega)
  obtain ⟨o1, o2, o3, _⟩ := wk_open (Nat.le_refl _) hw
  have hv := rt_val hP 16 0 n n 0 [] (Nat.le_refl _) hw (by omega) (by rw [← hT]; exact at_all T) (by rw [← hT, Nat.zero_add, byt_end (Nat.le_refl _)]; exact ⟨by decide, by decide, by decide, by decide⟩) (by simp; omega)
  rw [em_eq h0, Nat.sub_self, ← hT, Nat.zero_add] at hv
  obtain ⟨F, hF⟩ : ∃ F, n = F + 1 := ⟨n - 1, by omega⟩
  obtain ⟨c, r, hc, hc1, hc2⟩ := jtx_first (n := n) (F := F) (hP.en 0 o1) o2 h2
  rw [← hF, ← hT] at hc
  have hT0 : byt T 0 = c := by
    have h := at_all T
    rw [hc] at h
    exact h.2.1
  cases hr : readM (T.extract 0 m) with
  | bad e => exact ⟨e, rfl⟩
  | ok M =>
    exfalso
    unfold readM at hr
    split at hr
    · cases hr
    · cases hz : valM (T.extract 0 m) 17 ⟨#[]⟩ 0 (bl (T.extract 0 m) 0) [] with
      | bad e => rw [hz] at hr; cases hr
      | ok y =>
        obtain ⟨j, M'⟩ := y
        have hh := valM_here hz
        have hb0 : bl (T.extract 0 m) 0 = 0 := by
          have hm0 : 0 < m := by rw [hsz] at hh; omega
          have e0 : byt (T.extract 0 m) 0 = c := by rw [← hT0]; exact (hx.eq 0 (by omega)).symm
          exact bl_stop (by rw [e0]; exact hc2)
        rw [hb0] at hz hh
        have e0 : byt (T.extract 0 m) 0 = c := by rw [← hT0]; exact (hx.eq 0 hh).symm
        have hfull := valM_ext hx 17 ⟨#[]⟩ 0 0 [] (j, M') hz (.inr (by rw [e0]; exact hc1))
        have hok := valM_ok (T.extract 0 m) 17 0 ⟨#[]⟩ 0 [] j M' (Nat.zero_le _) (by decide) hz
        rw [hv.1] at hfull
        cases hfull
        omega
end Go.Proofs.YtoicmcjpaodgpaaDoor
/- Layer 2: what is read is written as the same digits, but -0 (as in whole's Plain3). -/
namespace Go.Proofs.YtoicmcjpaodgpaaDoor.Nm
open Go.RowKit Go.Lib
/-- What is read is written as the same digits, but -0. -/
theorem itoa_read (s : ByteArray) (h : rdE s = 0) : itoa (rdV s) = s.data.toList ∨ (s.data.toList = [45, 48] ∧ rdV s = 0) := by
  have hd : areD (bare s) = true := by
    cases hh : areD (bare s)
    · unfold rdE at h; rw [hh] at h; simp at h
    · rfl
  unfold rdE at h
  rw [hd] at h
  simp only [if_true] at h
  have hv : rdV s = rdZ s ∧ -9223372036854775808 ≤ rdZ s ∧ rdZ s ≤ 9223372036854775807 := by
    unfold rdV; rw [hd]
    rcases fits_cases (rdZ s) with ⟨a, b, c, _⟩ | ⟨_, _, c⟩
    · exact ⟨by simpa using c, a, b⟩
    · rw [c] at h; omega
  obtain ⟨p1, p2, p3⟩ := areD_parts hd
  have hl : (bare s).data.toList.length = (bare s).size := rfl
  have hb := dec_back ((bare s).size - 1) (bare s).data.toList (by rw [hl]; omega) p3 (fun h => by rw [hl]; exact p2 h)
  have hnn : 0 ≤ valL (bare s).data.toList := valD_nonneg _ _ p3
  rw [hv.1]
  cases hn : isNeg s
  · have h1 : bare s = s := by unfold bare; rw [hn]; rfl
    have h2 : sgn s = 1 := by unfold sgn; rw [hn]; rfl
    have hz : rdZ s = valL s.data.toList := by unfold rdZ; rw [h1, h2]; rfl
    rw [h1] at hb hnn
    left
    rw [hz]; unfold itoa
    rw [if_neg (by omega), hb]
  · have h2 : sgn s = 0 := by unfold sgn; rw [hn]; rfl
    have hz : rdZ s = -(valL (bare s).data.toList) := by unfold rdZ; rw [h2]; rfl
    have hbs : bare s = s.extract 1 s.size := by unfold bare; rw [hn]; rfl
    unfold isNeg at hn
    simp only [Bool.and_eq_true, decide_eq_true_eq] at hn
    have hs : s.data.toList = 45 :: (bare s).data.toList := by
      rw [hbs, Lib.extract_data]
      have hpos := hn.1
      have hv45 := hn.2
      have hb0 := byt_eq s 0 hpos
      rw [hv45] at hb0
      have hc : s[0]'hpos = 45 := UInt8.toNat_inj.1 (by have h45 : (45 : UInt8).toNat = 45 := rfl; omega)
      have hdr : s.data.toList = s[0]'hpos :: s.data.toList.drop 1 := by
        have := List.drop_eq_getElem_cons (l := s.data.toList) (i := 0) (by exact hpos)
        have h3 : s[0]'hpos = s.data[0]'hpos := rfl
        rw [h3]
        simpa using this
      rw [hc] at hdr
      have hlen : s.data.toList.length = s.size := rfl
      have ht : (s.data.toList.drop 1).take (s.size - 1) = s.data.toList.drop 1 := List.take_of_length_le (by simp [hlen])
      rw [ht]; exact hdr
    by_cases h0 : valL (bare s).data.toList = 0
    · right
      rw [hz, h0]
      have hb2 := hb
      rw [h0] at hb2
      rw [hs, ← hb2]
      refine ⟨?_, rfl⟩
      rw [show ((0 : Int).toNat) = 0 from rfl, decDigits, dif_pos (by decide)]; rfl
    · left
      rw [hz, hs]
      unfold itoa
      rw [if_pos (by omega)]
      congr 1
      rw [show (-(valL (bare s).data.toList)).natAbs = (valL (bare s).data.toList).toNat from by omega]
      exact hb
theorem read_range (s : ByteArray) (h : rdE s = 0) : -9223372036854775808 ≤ rdV s ∧ rdV s ≤ 9223372036854775807 := by
  have hd : areD (bare s) = true := by
    cases hh : areD (bare s)
    · unfold rdE at h; rw [hh] at h; simp at h
    · rfl
  unfold rdE at h
  rw [hd] at h
  simp only [if_true] at h
  unfold rdV; rw [hd]
  rcases fits_cases (rdZ s) with ⟨a, b, c, _⟩ | ⟨_, _, c⟩
  · simp only [if_true]
    rw [c]
    exact ⟨a, b⟩
  · rw [c] at h; omega
end Go.Proofs.YtoicmcjpaodgpaaDoor.Nm

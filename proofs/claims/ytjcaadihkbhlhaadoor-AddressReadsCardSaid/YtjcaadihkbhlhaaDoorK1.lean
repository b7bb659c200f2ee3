import Derived.Test.YtjcaadihkbhlhaaDoorJJ
import Derived.Test.YtjcaadihkbhlhaaDoorH7
namespace Go.Proofs.YtjcaadihkbhlhaaDoor
open Go.RowKit
/-- What a turn keeps. -/
structure Turn (m : List UInt8) (f : UInt8 → UInt8) : Prop where
  may : ∀ b, mayB m b = true → mayB m (f b) = true
  again : ∀ b, f (f b) = f b
  free : ∀ b, freeB b = true → mayB m b = true
  n37 : mayB m 37 = false
theorem free_may (m : List UInt8) (b : UInt8) (h : freeB b = true) : mayB m b = true := by
  unfold mayB delimB; rw [h]; rfl
theorem turn_id (m : List UInt8) (h : mayB m 37 = false) : Turn m id := ⟨fun _ h => h, fun _ => rfl, fun b h => free_may m b h, h⟩
theorem turn_lower : Turn [] Lib.lowerB := by
  refine ⟨fun b hb => ?_, fun b => ?_, fun b h => free_may [] b h, by decide +kernel⟩
  · have := by256 (P := fun z => !mayB [] z || mayB [] (Lib.lowerB z)) (by decide +kernel) b
    rw [hb] at this
    simpa using this
  · have := by256 (P := fun z => Lib.lowerB (Lib.lowerB z) == Lib.lowerB z) (by decide +kernel) b
    simpa using this
theorem dig_hex {n : Nat} (h : n < 16) : hexB (digU n) = true ∧ hexN (digU n).toNat = n := by
  have : ∀ a : Fin 16, hexB (digU a) = true ∧ hexN (digU a).toNat = a := by decide +kernel
  exact this ⟨n, h⟩
theorem esc_not {b : UInt8} {r : List UInt8} (h : b ≠ 37) : esc (b :: r) = false := by
  cases e : esc (b :: r) with
  | false => rfl
  | true =>
    match r, e with
    | a :: c :: r2, e =>
      unfold esc at e
      simp only [Bool.and_eq_true, beq_iff_eq] at e
      exact absurd e.1 h
theorem esc_dig {x y : Nat} (hx : x < 16) (hy : y < 16) (r : List UInt8) : esc (37 :: digU x :: digU y :: r) = true ∧ escV (37 :: digU x :: digU y :: r) = 16 * x + y := by
  constructor
  · show ((37 : UInt8) == 37 && (hexB (digU x) && hexB (digU y))) = true
    rw [(dig_hex hx).1, (dig_hex hy).1]; rfl
  · show 16 * hexN (digU x).toNat + hexN (digU y).toNat = _
    rw [(dig_hex hx).2, (dig_hex hy).2]
theorem stl_not (f : UInt8 → UInt8) {b : UInt8} {r : List UInt8} (h : esc (b :: r) = false) : stl f (b :: r) = f b :: stl f r := by
  rw [stl, h]; rfl
theorem stl_esc (f : UInt8 → UInt8) {b : UInt8} {r : List UInt8} (h : esc (b :: r) = true) : stl f (b :: r) = (if freeB (UInt8.ofNat (escV (b :: r))) then [f (UInt8.ofNat (escV (b :: r)))] else [37, digU (escV (b :: r) / 16), digU (escV (b :: r) % 16)]) ++ stl f (r.drop 2) := by
  rw [stl, h]; rfl
theorem stl_keeps {m : List UInt8} {f : UInt8 → UInt8} (T : Turn m f) : ∀ (n : Nat) (l : List UInt8), l.length ≤ n → ofP (mayB m) l = true → ofP (mayB m) (stl f l) = true ∧ stl f (stl f l) = stl f l
  | 0, l, hn, _ => by
    cases l with
    | nil => rw [stl_nil, stl_nil]; exact ⟨ofP_nil _, rfl⟩
    | cons _ _ => simp at hn
  | n + 1, [], _, _ => by rw [stl_nil, stl_nil]; exact ⟨ofP_nil _, rfl⟩
  | n + 1, b :: r, hn, h => by
    cases he : esc (b :: r) with
    | false =>
      rw [ofP, he] at h
      have hb : mayB m b = true := by
        cases q : mayB m b with
        | true => rfl
        | false => rw [q] at h; simp at h
      rw [hb] at h
      simp only [if_true] at h
      obtain ⟨i1, i2⟩ := stl_keeps T n r (by simpa using hn) h
      have hfb := T.may b hb
      have h37 : f b ≠ 37 := fun q => by rw [q, T.n37] at hfb; cases hfb
      rw [stl_not f he]
      refine ⟨?_, ?_⟩
      · rw [ofP, hfb, if_pos rfl]; exact i1
      · rw [stl_not f (esc_not h37), T.again, i2]
    | true =>
      have hb37 : b = 37 := by
        apply Classical.byContradiction
        intro q
        rw [esc_not q] at he; cases he
      have hr : ofP (mayB m) (r.drop 2) = true := by
        rw [ofP, hb37, T.n37] at h
        simp only [Bool.false_eq_true, if_false, Bool.and_eq_true] at h
        exact h.2
      have hl3 := esc_long he
      obtain ⟨i1, i2⟩ := stl_keeps T n (r.drop 2) (by simp at hn hl3 ⊢; omega) hr
      have hV := escV_lt (b :: r)
      rw [stl_esc f he]
      generalize escV (b :: r) = V at *
      cases hf : freeB (UInt8.ofNat V) with
      | true =>
        simp only [if_true, List.cons_append, List.nil_append]
        have hfb := T.may _ (T.free _ hf)
        have h37 : f (UInt8.ofNat V) ≠ 37 := fun q => by rw [q, T.n37] at hfb; cases hfb
        refine ⟨?_, ?_⟩
        · rw [ofP, hfb, if_pos rfl]; exact i1
        · rw [stl_not f (esc_not h37), T.again, i2]
      | false =>
        simp only [Bool.false_eq_true, if_false, List.cons_append, List.nil_append]
        have hx : V / 16 < 16 := by omega
        have hy : V % 16 < 16 := by omega
        obtain ⟨e1, e2⟩ := esc_dig hx hy (stl f (r.drop 2))
        have hVV : 16 * (V / 16) + V % 16 = V := by omega
        rw [hVV] at e2
        refine ⟨?_, ?_⟩
        · rw [ofP, T.n37, e1]
          simp only [Bool.false_eq_true, if_false, Bool.true_and]
          exact i1
        · rw [stl_esc f e1, e2, hf]
          simp only [Bool.false_eq_true, if_false, List.cons_append, List.nil_append]
          show 37 :: digU (V / 16) :: digU (V % 16) :: stl f (stl f (r.drop 2)) = _
          rw [i2]
theorem stS_keeps {m : List UInt8} {f : UInt8 → UInt8} (T : Turn m f) (x : ByteArray) (h : ofP (mayB m) x.data.toList = true) : ofP (mayB m) (stS f x).data.toList = true ∧ stS f (stS f x) = stS f x := by
  obtain ⟨a, b⟩ := stl_keeps T _ x.data.toList (Nat.le_refl _) h
  exact ⟨a, congrArg mk b⟩
theorem slash_id (l : List UInt8) (h : slashB l = true) : slashB (stl id l) = true := by
  cases l with
  | nil => rw [stl_nil]; rfl
  | cons b r =>
    have hb : b = 47 := by unfold slashB at h; simpa using h
    subst hb
    rw [stl_not id (esc_not (by decide))]; rfl
theorem empty_st (f : UInt8 → UInt8) (x : ByteArray) (h : x.toList.isEmpty = true) : (stS f x).toList.isEmpty = true := by
  rw [ByteArray.toList_eq] at h ⊢
  have : x.data.toList = [] := by simpa using h
  unfold stS
  rw [this, stl_nil]; rfl
theorem lower_again (x : ByteArray) : lowS (lowS x) = lowS x := by
  unfold lowS Lib.toLowerA
  rw [mk_data, List.map_map]
  congr 1
  apply List.map_congr_left
  intro b _
  exact turn_lower.again b
theorem lower_scheme (x : ByteArray) (h : schemeP x.data.toList = true) : schemeP (lowS x).data.toList = true := by
  have h1 : ∀ b, letterB b = true → letterB (Lib.lowerB b) = true := fun b hb => by
    have := by256 (P := fun z => !letterB z || letterB (Lib.lowerB z)) (by decide +kernel) b
    rw [hb] at this; simpa using this
  have h2 : ∀ b, schemeB b = true → schemeB (Lib.lowerB b) = true := fun b hb => by
    have := by256 (P := fun z => !schemeB z || schemeB (Lib.lowerB z)) (by decide +kernel) b
    rw [hb] at this; simpa using this
  unfold lowS Lib.toLowerA
  rw [mk_data]
  match hl : x.data.toList, h with
  | b :: r, h =>
    unfold schemeP at h
    simp only [Bool.and_eq_true, List.all_eq_true] at h
    show (letterB (Lib.lowerB b) && (r.map Lib.lowerB).all schemeB) = true
    rw [h1 b h.1, Bool.true_and, List.all_eq_true]
    intro e he
    obtain ⟨z, hz, rfl⟩ := List.mem_map.1 he
    exact h2 z (h.2 z hz)
theorem join_len (s u h p a q : ByteArray) (hu hq : Bool) : (joinT s u h p a q hu hq).size = s.size + 3 + (if hu then u.size + 1 else 0) + h.size + (if p.size = 0 then 0 else p.size + 1) + a.size + (if hq then q.size + 1 else 0) := by
  unfold joinT
  have e1 : (⟨#[58, 47, 47]⟩ : ByteArray).size = 3 := rfl
  have e2 : (⟨#[64]⟩ : ByteArray).size = 1 := rfl
  have e3 : (⟨#[58]⟩ : ByteArray).size = 1 := rfl
  have e4 : (⟨#[63]⟩ : ByteArray).size = 1 := rfl
  cases hu <;> cases hq <;> by_cases hp0 : p.size = 0 <;> simp only [hp0, if_true, if_false, Bool.false_eq_true, ByteArray.size_append, e1, e2, e3, e4] <;> omega
/-- Parts in one way may be, and are no longer. -/
theorem can_may {s u h p a q : ByteArray} {hu hq : Bool} (H : mayP s u h p a q hu hq = true) :
    mayP (lowS s) (stS id u) (stS Lib.lowerB h) p (stS id a) (stS id q) hu hq = true ∧ (joinT (lowS s) (stS id u) (stS Lib.lowerB h) p (stS id a) (stS id q) hu hq).size ≤ (joinT s u h p a q hu hq).size := by
  have hz : (joinT (lowS s) (stS id u) (stS Lib.lowerB h) p (stS id a) (stS id q) hu hq).size ≤ (joinT s u h p a q hu hq).size := by
    rw [join_len, join_len, lowS_size]
    have := stS_size id u
    have := stS_size Lib.lowerB h
    have := stS_size id a
    have := stS_size id q
    cases hu <;> cases hq <;> simp only [if_true, Bool.false_eq_true, if_false] <;> omega
  refine ⟨?_, hz⟩
  unfold mayP ok1 ok2 at H ⊢
  simp only [Bool.and_eq_true, decide_eq_true_eq] at H ⊢
  obtain ⟨⟨⟨⟨⟨⟨⟨h1, h2⟩, h3⟩, h4⟩, h5⟩, h6⟩, ⟨⟨g1, g2⟩, g3⟩⟩, h8⟩ := H
  refine ⟨⟨⟨⟨⟨⟨⟨lower_scheme s h1, (stS_keeps (turn_id [58] (by decide +kernel)) u h2).1⟩, (stS_keeps turn_lower h h3).1⟩, h4⟩, (stS_keeps (turn_id [58, 64, 47] (by decide +kernel)) a h5).1⟩, (stS_keeps (turn_id [58, 64, 47, 63] (by decide +kernel)) q h6).1⟩, ⟨⟨slash_id _ g1, ?_⟩, ?_⟩⟩, Nat.le_trans hz h8⟩
  · cases hu with
    | true => rfl
    | false => rw [Bool.false_or] at g2 ⊢; exact empty_st id u g2
  · cases hq with
    | true => rfl
    | false => rw [Bool.false_or] at g3 ⊢; exact empty_st id q g3
theorem can_again {s u h p a q : ByteArray} {hu hq : Bool} (H : mayP s u h p a q hu hq = true) : lowS (lowS s) = lowS s ∧ stS id (stS id u) = stS id u ∧ stS Lib.lowerB (stS Lib.lowerB h) = stS Lib.lowerB h ∧ stS id (stS id a) = stS id a ∧ stS id (stS id q) = stS id q := by
  obtain ⟨_, h2, h3, h5, h6⟩ := may_parts H
  exact ⟨lower_again s, (stS_keeps (turn_id [58] (by decide +kernel)) u h2).2, (stS_keeps turn_lower h h3).2, (stS_keeps (turn_id [58, 64, 47] (by decide +kernel)) a h5).2, (stS_keeps (turn_id [58, 64, 47, 63] (by decide +kernel)) q h6).2⟩
end Go.Proofs.YtjcaadihkbhlhaaDoor

/- Layer 4: what is written is a text (plain). -/
import Derived.Test.YtoicmcjpaodgpaaDoorBE
namespace Go.Proofs.YtoicmcjpaodgpaaDoor
open Go.RowKit
/-- From a place on code points stand, up to another place. -/
inductive Tw (s : ByteArray) : Nat → Nat → Prop
  | nil (a : Nat) : Tw s a a
  | step {a b : Nat} : a < s.size → decIs s a = true → Tw s (a + leadN (byt s a)) b → Tw s a b
theorem Tw.trans {s : ByteArray} {a b c : Nat} (h : Tw s a b) (k : Tw s b c) : Tw s a c := by
  induction h with
  | nil => exact k
  | step h1 h2 _ ih => exact .step h1 h2 (ih k)
theorem Tw.tx {s : ByteArray} {a b : Nat} (h : Tw s a b) (hb : b = s.size) : ∀ f, s.size - a ≤ f → txF s f a = true := by
  induction h with
  | nil a => intro f _; exact txF_end (by omega)
  | step h1 h2 _ ih =>
    intro f hf
    have h3 := (decIs_lead h2).1
    rw [txF_step h1 hf, h2, ih hb (f - 1) (by omega)]
    rfl
theorem tw_of {s : ByteArray} : ∀ (f a : Nat), s.size - a ≤ f → a ≤ s.size → txF s f a = true → Tw s a s.size
  | 0, a, hf, ha, _ => by
    obtain rfl : a = s.size := by omega
    exact .nil _
  | f + 1, a, hf, ha, h => by
    by_cases e : a < s.size
    · rw [txF_step e hf, Bool.and_eq_true] at h
      have h3 := (decIs_lead h.1).1
      exact .step e h.1 (tw_of f _ (by omega) (dec_in e h.1) h.2)
    · obtain rfl : a = s.size := by omega
      exact .nil _
theorem isTx_tw {t : ByteArray} (h : isTx t = true) : Tw t 0 t.size := tw_of t.size 0 (by omega) (Nat.zero_le _) h
theorem asc_dec {s : ByteArray} {a : Nat} (h : byt s a < 128) : decIs s a = true ∧ leadN (byt s a) = 1 := by
  have h0 := (byt_range s a).1
  have e1 : leadN (byt s a) = 1 := by unfold leadN; rw [if_pos h]
  have e2 : leadB (byt s a) = byt s a := by unfold leadB; rw [if_pos h]
  refine ⟨?_, e1⟩
  unfold decIs
  rw [e1, e2]
  simp only [Nat.sub_self, conts, acc]
  have e3 : isPt (byt s a) = true := by unfold isPt; simp; omega
  have e4 : szOf (byt s a) = 1 := by unfold szOf; rw [if_pos h]
  rw [e3, e4]
  rfl
theorem tw_asc {s : ByteArray} : ∀ {L : List Int} {i : Nat}, (∀ c ∈ L, c < 128) → AtL s i L → Tw s i (i + L.length)
  | [], i, _, _ => .nil _
  | c :: r, i, hc, h => by
    have hb : byt s i < 128 := by rw [h.2.1]; exact hc c (by simp)
    obtain ⟨h1, h2⟩ := asc_dec hb
    have ih := tw_asc (fun x hx => hc x (by simp [hx])) h.2.2
    rw [show i + 1 + r.length = i + (c :: r).length by simp; omega] at ih
    exact .step h.1 h1 (by rw [h2]; exact ih)
theorem conts_as {s t : ByteArray} {a j : Nat} : ∀ k, (∀ i, i < k → byt s (j + i) = byt t (a + i)) → j + k ≤ s.size → conts t a k = true → conts s j k = true
  | 0, _, _, _ => rfl
  | k + 1, h, hs, hc => by
    simp only [conts, Bool.and_eq_true, decide_eq_true_eq] at hc ⊢
    have := h k (by omega)
    exact ⟨conts_as k (fun i hi => h i (by omega)) (by omega) hc.1, by omega⟩
theorem acc_as {s t : ByteArray} {a j : Nat} (p : Int) : ∀ k, (∀ i, i < k → byt s (j + i) = byt t (a + i)) → acc s j p k = acc t a p k
  | 0, _ => rfl
  | k + 1, h => by
    simp only [acc]
    rw [acc_as p k (fun i hi => h i (by omega)), h k (by omega)]
theorem dec_as {s t : ByteArray} {a j : Nat} (hd : decIs t a = true) (h : ∀ k, k < leadN (byt t a) → byt s (j + k) = byt t (a + k)) (hs : j + leadN (byt t a) ≤ s.size) : decIs s j = true ∧ byt s j = byt t a := by
  have h1 := (decIs_lead hd).1
  have e0 : byt s j = byt t a := h 0 (by omega)
  refine ⟨?_, e0⟩
  have hc := (decIs_lead hd).2
  have hk : ∀ i, i < leadN (byt t a) - 1 → byt s (j + 1 + i) = byt t (a + 1 + i) := fun i hi => by
    have := h (i + 1) (by omega)
    rw [show j + 1 + i = j + (i + 1) by omega, show a + 1 + i = a + (i + 1) by omega]
    exact this
  unfold decIs at hd ⊢
  rw [e0, acc_as _ _ hk]
  simp only [Bool.and_eq_true] at hd ⊢
  exact ⟨⟨⟨hd.1.1.1, conts_as _ hk (by omega) hc⟩, hd.1.2⟩, hd.2⟩
theorem esc_asc {x : Int} (h0 : 0 ≤ x) (h : x < 128) : ∀ c ∈ escI x, c < 128 := by
  unfold escI shortI hexI
  intro c hc
  (repeat' split at hc) <;> simp at hc <;> omega
theorem esc_high {x : Int} (h : 128 ≤ x) : escI x = [x] := by
  have hs : shortI x = 0 := by unfold shortI; (repeat' split) <;> omega
  exact esc_own hs (by omega)
theorem esL_high : ∀ {L : List Int}, (∀ c ∈ L, 128 ≤ c) → esL L = L
  | [], _ => rfl
  | x :: r, h => by
    show escI x ++ esL r = x :: r
    rw [esc_high (h x (by simp)), esL_high (fun c hc => h c (by simp [hc]))]
    rfl
theorem conts_byt {s : ByteArray} {a : Nat} : ∀ k, conts s a k = true → ∀ i, i < k → 128 ≤ byt s (a + i)
  | 0, _, i, h => by omega
  | k + 1, hc, i, h => by
    simp only [conts, Bool.and_eq_true, decide_eq_true_eq] at hc
    by_cases e : i = k
    · subst e; omega
    · exact conts_byt k hc.1 i (by omega)
theorem drop_chunk (t : ByteArray) : ∀ (z a : Nat), a + z ≤ t.size → (bI t).drop a = ((List.range z).map fun k => byt t (a + k)) ++ (bI t).drop (a + z)
  | 0, a, _ => by simp
  | z + 1, a, h => by
    have hi : a < (bI t).length := by rw [bI_len]; omega
    have e := bI_at t a (by omega)
    rw [List.getElem?_eq_getElem hi] at e
    rw [List.drop_eq_getElem_cons hi, Option.some.inj e, drop_chunk t z (a + 1) (by omega), List.range_succ_eq_map]
    simp only [List.map_cons, List.map_map, List.cons_append, Nat.add_zero, List.cons.injEq, true_and]
    rw [show a + 1 + z = a + (z + 1) by omega]
    congr 1
    apply List.map_congr_left
    intro x _
    show byt t (a + 1 + x) = byt t (a + (x + 1))
    rw [show a + 1 + x = a + (x + 1) by omega]
theorem at_map {s : ByteArray} {F : Nat → Int} : ∀ {z j : Nat}, AtL s j ((List.range z).map F) → ∀ k, k < z → byt s (j + k) = F k := by
  intro z
  induction z generalizing F with
  | zero => intro j _ k hk; omega
  | succ z ih =>
    intro j h k hk
    rw [List.range_succ_eq_map, List.map_cons, List.map_map] at h
    cases k with
    | zero => exact h.2.1
    | succ k =>
      have := ih (F := F ∘ Nat.succ) h.2.2 k (by omega)
      rw [show j + (k + 1) = j + 1 + k by omega]
      exact this
/-- A text's bytes, as they are quoted, are code points. -/
theorem tw_esc {s t : ByteArray} {a b : Nat} (h : Tw t a b) (hb : b = t.size) : ∀ j, AtL s j (esL ((bI t).drop a)) → Tw s j (j + (esL ((bI t).drop a)).length) := by
  induction h with
  | nil a =>
    intro j _
    rw [List.drop_eq_nil_of_le (by rw [bI_len]; omega)]
    exact .nil _
  | @step a b h1 h2 _ ih =>
    intro j hat
    have hz := (decIs_lead h2).1
    have hin := dec_in h1 h2
    have hch := drop_chunk t (leadN (byt t a)) a hin
    have he : esL ((bI t).drop a) = esL ((List.range (leadN (byt t a))).map fun k => byt t (a + k)) ++ esL ((bI t).drop (a + leadN (byt t a))) := by
      rw [hch]; unfold esL; rw [List.flatMap_append]
    rw [he] at hat ⊢
    rw [at_app] at hat
    have hrest := ih hb _ hat.2
    rw [List.length_append, ← Nat.add_assoc]
    refine Tw.trans ?_ hrest
    by_cases hlow : byt t a < 128
    · have hl1 := (asc_dec hlow).2
      rw [hl1] at hat ⊢
      have e1 : ((List.range 1).map fun k => byt t (a + k)) = [byt t a] := rfl
      rw [e1] at hat ⊢
      have e2 : esL [byt t a] = escI (byt t a) := by unfold esL; simp
      rw [e2] at hat ⊢
      exact tw_asc (esc_asc (byt_range t a).1 hlow) hat.1
    · have hcb := conts_byt _ (decIs_lead h2).2
      have hall : ∀ c ∈ ((List.range (leadN (byt t a))).map fun k => byt t (a + k)), 128 ≤ c := by
        intro c hc
        obtain ⟨k, hk, rfl⟩ := List.mem_map.1 hc
        have hk := List.mem_range.1 hk
        cases k with
        | zero => show 128 ≤ byt t a; omega
        | succ k =>
          have := hcb k (by omega)
          rw [show a + (k + 1) = a + 1 + k by omega]
          exact this
      rw [esL_high hall] at hat ⊢
      have hlen : ((List.range (leadN (byt t a))).map fun k => byt t (a + k)).length = leadN (byt t a) := by simp
      have hle := at_le hat.1
      rw [hlen] at hle ⊢
      obtain ⟨d1, d2⟩ := dec_as h2 (at_map hat.1) hle
      refine .step (by omega) d1 ?_
      rw [d2]
      exact .nil _
/-- A text that is quoted is one. -/
theorem tw_qu {s t : ByteArray} {i : Nat} (ht : isTx t = true) (h : AtL s i (bI (quT t))) : Tw s i (i + (quT t).size) := by
  have hsz : (quT t).size = (esL (bI t)).length + 2 := by rw [← bI_len, quT_bI]; simp
  rw [quT_bI] at h
  have h : AtL s i ([34] ++ (esL (bI t) ++ [34])) := h
  rw [at_app, at_app] at h
  obtain ⟨h1, h2, h3⟩ := h
  have w1 := tw_asc (by intro c hc; simp at hc; omega) h1
  have e0 : (bI t).drop 0 = bI t := rfl
  have w2 := tw_esc (isTx_tw ht) rfl (i + 1) (by rw [e0]; exact h2)
  rw [e0] at w2
  have w3 := tw_asc (by intro c hc; simp at hc; omega) h3
  have w := (w1.trans w2).trans w3
  rw [hsz, show i + ((esL (bI t)).length + 2) = i + 1 + (esL (bI t)).length + 1 by omega]
  exact w
end Go.Proofs.YtoicmcjpaodgpaaDoor

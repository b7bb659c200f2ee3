/- Layer 4: a value, as it is written, is read (plain). -/
import Derived.Test.YtoicmcjpaodgpaaDoorBB
namespace Go.Proofs.YtoicmcjpaodgpaaDoor
open Go.RowKit
/-- What is written of items, from one on. -/
def kl (T : Nat → ByteArray) (g : Nat → CR) (n : Nat) (obj : Bool) : Nat → Nat → Nat → List Int
  | 0, _, _ => []
  | d + 1, k, a => (if 0 < k then [44] else []) ++ ((if obj then bI (quT (g a).nm) ++ [58] else []) ++ (bI (T a) ++ kl T g n obj d (k + 1) (nx g n a)))
theorem kl_succ (T : Nat → ByteArray) (g : Nat → CR) (n : Nat) (obj : Bool) (d k a : Nat) : kl T g n obj (d + 1) k a = (if 0 < k then [44] else []) ++ ((if obj then bI (quT (g a).nm) ++ [58] else []) ++ (bI (T a) ++ kl T g n obj d (k + 1) (nx g n a))) := rfl
theorem bI_lit (l : List UInt8) : bI ⟨l.toArray⟩ = l.map fun b => (b.toNat : Int) := rfl
theorem jki_step {T : Nat → ByteArray} {g : Nat → CR} {n p k : Nat} {obj : Bool} : bI (jki T g n obj p (k + 1)) = bI (jki T g n obj p k) ++ ((if 0 < k then [44] else []) ++ ((if obj then bI (quT (g (bd g n (p + 1) k)).nm) ++ [58] else []) ++ bI (T (bd g n (p + 1) k)))) := by
  have e44 : bI ⟨#[44]⟩ = [44] := rfl
  have e58 : bI ⟨#[58]⟩ = [58] := rfl
  rw [jki, bI_app]
  cases obj with
  | true =>
    simp only [if_true]
    split <;> simp [bI_app, e44, e58]
  | false =>
    simp only [Bool.false_eq_true, if_false]
    split <;> simp [bI_app, e44]
theorem jki_kl {T : Nat → ByteArray} {g : Nat → CR} {n p : Nat} {obj : Bool} : ∀ (d k : Nat), bI (jki T g n obj p (k + d)) = bI (jki T g n obj p k) ++ kl T g n obj d k (bd g n (p + 1) k)
  | 0, k => by unfold kl; rw [List.append_nil]; rfl
  | d + 1, k => by
    have h := jki_kl (T := T) (g := g) (n := n) (p := p) (obj := obj) d (k + 1)
    rw [show k + (d + 1) = k + 1 + d by omega, h, jki_step, kl]
    simp only [List.append_assoc]
    rfl
theorem jki_all {T : Nat → ByteArray} {g : Nat → CR} {n p m : Nat} {obj : Bool} : bI (jki T g n obj p m) = kl T g n obj m 0 (p + 1) := by
  have h := jki_kl (T := T) (g := g) (n := n) (p := p) (obj := obj) m 0
  rw [Nat.zero_add] at h
  rw [h]
  rfl
/-- Cells that are plain, with numbers in their bounds. -/
structure Pln (g : Nat → CR) (n : Nat) : Prop where
  en : ∀ i, i < n → enB (g i) = false
  nn : ∀ i, i < n → i64ok (g i).n
/-- The values' texts are read, so deep. -/
def IHV (s : ByteArray) (g : Nat → CR) (n r : Nat) (T : Nat → ByteArray) (V : ByteArray → Nat → List CR → Rs Out) (p : Nat) : Prop := ∀ a e i L, p < a → wk g n r a = some e → AtL s i (bI (T a)) → Fo (byt s (i + (T a).size)) → L.length + (e - a) ≤ 2048 → V (g a).nm i L = .ok (i + (T a).size, L ++ cut g a e) ∧ isSt (byt s i) = true
theorem cut_cons (g : Nat → CR) {a e : Nat} (h : a < e) : cut g a e = g a :: cut g (a + 1) e := by
  unfold cut
  rw [show e - a = (e - (a + 1)) + 1 by omega, List.range_succ_eq_map]
  simp only [List.map_cons, List.map_map, Nat.add_zero, List.cons.injEq, true_and]
  apply List.map_congr_left
  intro x _
  show g (a + (x + 1)) = g (a + 1 + x)
  rw [show a + (x + 1) = a + 1 + x by omega]
theorem cut_nil (g : Nat → CR) (a : Nat) : cut g a a = [] := by unfold cut; rw [Nat.sub_self]; rfl
theorem cut_join (g : Nat → CR) {a b e : Nat} (h1 : a ≤ b) (h2 : b ≤ e) : cut g a b ++ cut g b e = cut g a e := by
  obtain ⟨d, rfl⟩ : ∃ d, b = a + d := ⟨b - a, by omega⟩
  clear h1
  induction d generalizing a with
  | zero => rw [Nat.add_zero, cut_nil]; rfl
  | succ d ih =>
    rw [cut_cons g (show a < a + (d + 1) by omega), cut_cons g (show a < e by omega)]
    have := ih (a := a + 1) (by omega)
    rw [show a + 1 + d = a + (d + 1) by omega] at this
    rw [List.cons_append, this]
theorem fo_44 : Fo 44 := ⟨by decide, by decide, by decide, by decide⟩
theorem fo_93 : Fo 93 := ⟨by decide, by decide, by decide, by decide⟩
theorem fo_125 : Fo 125 := ⟨by decide, by decide, by decide, by decide⟩
/-- What stands behind items: a comma, or the end. -/
theorem kl_next {s : ByteArray} {T : Nat → ByteArray} {g : Nat → CR} {n d k a j : Nat} {obj : Bool} {c : Int} (hk : 0 < k) (h : AtL s j (kl T g n obj d k a ++ [c])) : byt s j = if d = 0 then c else 44 := by
  cases d with
  | zero => exact h.2.1
  | succ d =>
    unfold kl at h
    rw [if_pos hk] at h
    exact h.2.1
theorem bl_no {s : ByteArray} {j : Nat} {c : Int} (h : byt s j = c) (hc : isBl c = false) : bl s j = j := bl_stop (by rw [h]; exact hc)
theorem incC_last {L C : List CR} {c : CR} : incC (L ++ [c] ++ C) L.length = L ++ [{ c with m := c.m + 1 }] ++ C := by
  have h : gl (L ++ [c] ++ C) L.length = c := by unfold gl; simp [List.getD_eq_getElem?_getD]
  show (L ++ [c] ++ C).set L.length { gl (L ++ [c] ++ C) L.length with m := (gl (L ++ [c] ++ C) L.length).m + 1 } = _
  rw [h, List.append_assoc, List.set_append_right _ _ (Nat.le_refl _), Nat.sub_self, List.append_assoc]
  rfl
theorem kl_len {T : Nat → ByteArray} {g : Nat → CR} {n : Nat} {obj : Bool} : ∀ {d k a : Nat}, 0 < k → d ≤ (kl T g n obj d k a).length
  | 0, _, _, _ => Nat.zero_le _
  | d + 1, k, a, h => by
    have ih := kl_len (T := T) (g := g) (n := n) (obj := obj) (d := d) (k := k + 1) (a := nx g n a) (by omega)
    unfold kl
    rw [if_pos h]
    simp only [List.length_append, List.length_cons, List.length_nil]
    omega
theorem st_bl {b : Int} (h : isSt b = true) : isBl b = false ∧ b ≠ 93 ∧ b ≠ 125 ∧ b ≠ 44 := by
  unfold isSt isDg at h
  unfold isBl
  simp only [Bool.or_eq_true, Bool.and_eq_true, decide_eq_true_eq] at h
  simp only [Bool.or_eq_false_iff, decide_eq_false_iff_not]
  omega
/-- A list's items, behind the first one. -/
theorem rt_lstF {s : ByteArray} {g : Nat → CR} {n r p : Nat} {T : Nat → ByteArray} {V : ByteArray → Nat → List CR → Rs Out} (hr : r ≤ 16) (hI : IHV s g n r T V p) (L : List CR) (nm : ByteArray) : ∀ (d k a e j f : Nat) (C : List CR), p < a → kidsF (wk g n r) g n false d [] a = some e → AtL s j (kl T g n false d k a ++ [93]) → 1 ≤ k → d < f → L.length + 1 + C.length + (e - a) ≤ 2048 → lstF s (V ⟨#[]⟩) L.length f j (L ++ [⟨6, nm, ⟨#[]⟩, 0, k⟩] ++ C) = .ok (j + (kl T g n false d k a).length + 1, L ++ [⟨6, nm, ⟨#[]⟩, 0, (k + d : Nat)⟩] ++ (C ++ cut g a e))
  | 0, k, a, e, j, f, C, _, hk, h, k1, hf, hl => by
    obtain ⟨f', rfl⟩ : ∃ f', f = f' + 1 := ⟨f - 1, by omega⟩
    have e1 : byt s j = 93 := h.2.1
    unfold kidsF at hk
    cases hk
    unfold lstF
    rw [e1, if_neg (by decide)]
    unfold wordM
    rw [if_pos e1, cut_nil, List.append_nil]
    rfl
  | d + 1, k, a, e, j, f, C, hp, hk, h, k1, hf, hl => by
    obtain ⟨f', rfl⟩ : ∃ f', f = f' + 1 := ⟨f - 1, by omega⟩
    unfold kl at h
    rw [if_pos (show 0 < k from k1)] at h
    simp only [Bool.false_eq_true, if_false, List.nil_append, List.append_assoc] at h
    obtain ⟨_, e1, h2⟩ := h
    have h2 : AtL s (j + 1) (bI (T a) ++ (kl T g n false d (k + 1) (nx g n a) ++ [93])) := h2
    rw [at_app] at h2
    obtain ⟨h3, h4⟩ := h2
    rw [bI_len] at h4
    unfold kidsF at hk
    split at hk
    · cases hk
    split at hk
    case isFalse => cases hk
    rename_i hna hnm
    simp only [Bool.false_eq_true, if_false] at hk
    cases hw : wk g n r a with
    | none => rw [hw] at hk; cases hk
    | some a' =>
      rw [hw] at hk
      dsimp only at hk
      have hlt := wk_lt r a a' hw
      have hk2 := kidsF_lt (wk_lt r) d [] a' e hlt.2 hk
      have hnx : nx g n a = a' := nx_some (wk_up hr hw)
      rw [hnx] at h4
      have hnb := kl_next (show 0 < k + 1 by omega) h4
      have hF : Fo (byt s (j + 1 + (T a).size)) := by rw [hnb]; split; exact fo_93; exact fo_44
      have hB : isBl (byt s (j + 1 + (T a).size)) = false := by rw [hnb]; split <;> decide
      have hnm2 : (g a).nm = ⟨#[]⟩ := by
        unfold namedP at hnm
        simp only [Bool.false_eq_true, if_false] at hnm
        exact em_eq hnm
      have hv := hI a a' (j + 1) (L ++ [⟨6, nm, ⟨#[]⟩, 0, k⟩] ++ C) hp hw h3 hF (by simp; omega)
      have hbl : bl s (j + 1) = j + 1 := bl_stop (st_bl hv.2).1
      rw [hnm2] at hv
      have ih := rt_lstF hr hI L nm d (k + 1) a' e (j + 1 + (T a).size) f' (C ++ cut g a a') (by omega) hk h4 (by omega) (by omega) (by rw [List.length_append, cut_len]; omega)
      unfold lstF
      rw [if_pos e1, hbl, hv.1, Rs.bind_ok]
      dsimp only
      rw [bl_stop hB, List.append_assoc (L ++ [_]) C, incC_last]
      have ee : ((k : Int) + 1) = ((k + 1 : Nat) : Int) := by omega
      dsimp only
      rw [ee, ih]
      rw [kl_succ, if_pos (show 0 < k from k1)]
      simp only [Bool.false_eq_true, if_false, List.nil_append, hnx]
      have e5 : k + 1 + d = k + (d + 1) := by omega
      rw [e5, List.append_assoc C, cut_join g (by omega) (by omega)]
      simp only [List.length_append, bI_len, List.length_cons, List.length_nil]
      congr 2
      omega
/-- A list, behind its bracket. -/
theorem rt_lst {s : ByteArray} {g : Nat → CR} {n r p : Nat} {T : Nat → ByteArray} {V : ByteArray → Nat → List CR → Rs Out} (hr : r ≤ 16) (hI : IHV s g n r T V p) (L : List CR) (nm : ByteArray) (d a e j : Nat) (hp : p < a) (hk : kidsF (wk g n r) g n false d [] a = some e) (h : AtL s j (kl T g n false d 0 a ++ [93])) (hl : L.length + 1 + (e - a) ≤ 2048) : lstM s (V ⟨#[]⟩) L.length (bl s j) (L ++ [⟨6, nm, ⟨#[]⟩, 0, 0⟩]) = .ok (j + (kl T g n false d 0 a).length + 1, L ++ [⟨6, nm, ⟨#[]⟩, 0, (d : Nat)⟩] ++ cut g a e) := by
  cases d with
  | zero =>
    have e1 : byt s j = 93 := h.2.1
    rw [bl_no e1 (by decide)]
    unfold kidsF at hk
    cases hk
    unfold lstM
    rw [if_pos e1, cut_nil, List.append_nil]
    rfl
  | succ d =>
    have h0 := h
    unfold kl at h
    simp only [Nat.lt_irrefl, if_false, Bool.false_eq_true, List.nil_append, List.append_assoc] at h
    rw [at_app] at h
    obtain ⟨h3, h4⟩ := h
    rw [bI_len] at h4
    unfold kidsF at hk
    split at hk
    · cases hk
    split at hk
    case isFalse => cases hk
    rename_i hna hnm
    simp only [Bool.false_eq_true, if_false] at hk
    cases hw : wk g n r a with
    | none => rw [hw] at hk; cases hk
    | some a' =>
      rw [hw] at hk
      dsimp only at hk
      have hlt := wk_lt r a a' hw
      have hk2 := kidsF_lt (wk_lt r) d [] a' e hlt.2 hk
      have hnx : nx g n a = a' := nx_some (wk_up hr hw)
      rw [hnx] at h4
      have hnb := kl_next (show 0 < 0 + 1 by omega) h4
      have hF : Fo (byt s (j + (T a).size)) := by rw [hnb]; split; exact fo_93; exact fo_44
      have hB : isBl (byt s (j + (T a).size)) = false := by rw [hnb]; split <;> decide
      have hnm2 : (g a).nm = ⟨#[]⟩ := by
        unfold namedP at hnm
        simp only [Bool.false_eq_true, if_false] at hnm
        exact em_eq hnm
      have hv := hI a a' j (L ++ [⟨6, nm, ⟨#[]⟩, 0, 0⟩]) hp hw h3 hF (by simp; omega)
      have hbl : bl s j = j := bl_stop (st_bl hv.2).1
      have hn93 : ¬ byt s j = 93 := (st_bl hv.2).2.1
      rw [hnm2] at hv
      have hle := at_le h4
      rw [List.length_append] at hle
      have hdk : d ≤ (kl T g n false d (0 + 1) a').length := kl_len (by omega)
      have ih := rt_lstF hr hI L nm d 1 a' e (j + (T a).size) (s.size - (j + (T a).size) + 1) (cut g a a') (by omega) hk h4 (by omega) (by rw [List.length_singleton] at hle; omega) (by rw [cut_len]; omega)
      unfold lstM
      rw [hbl, if_neg hn93, hv.1, Rs.bind_ok]
      dsimp only
      have h1 := @incC_last L (cut g a a') ⟨6, nm, ⟨#[]⟩, 0, 0⟩
      rw [bl_stop hB, h1]
      have ee : ((0 : Int) + 1) = ((1 : Nat) : Int) := rfl
      dsimp only
      rw [ee, ih]
      rw [kl_succ]
      simp only [Nat.lt_irrefl, if_false, Bool.false_eq_true, List.nil_append, hnx]
      rw [show 1 + d = d + 1 by omega, cut_join g (by omega) (by omega)]
      simp only [List.length_append, bI_len, Nat.zero_add]
      congr 2
      omega
end Go.Proofs.YtoicmcjpaodgpaaDoor

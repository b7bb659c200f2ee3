/- Layer 4: an object, a value, as they are written, are read (plain). -/
import Derived.Test.YtoicmcjpaodgpaaDoorBC
namespace Go.Proofs.YtoicmcjpaodgpaaDoor
open Go.RowKit
theorem bI_ne {t : ByteArray} (h : em t = false) : bI t ≠ [] := fun e => by
  have := bI_len t
  rw [e] at this
  unfold em at h
  rw [decide_eq_false_iff_not] at h
  exact h this.symm
/-- A member is read. -/
theorem rt_mem {s : ByteArray} {g : Nat → CR} {n r p : Nat} {T : Nat → ByteArray} {V : ByteArray → Nat → List CR → Rs Out} (hI : IHV s g n r T V p) (L : List CR) (h a a' j : Nat) (ns : List ByteArray) (rest : List Int) (hp : p < a) (hw : wk g n r a = some a') (hn : namedP true ns (g a).nm = true) (hat : AtL s j (bI (quT (g a).nm) ++ ([58] ++ (bI (T a) ++ rest)))) (hF : Fo (byt s (j + ((quT (g a).nm).size + (1 + (T a).size))))) (hl : L.length + (a' - a) ≤ 2048) :
    memM s V h j ns L = .ok ((j + ((quT (g a).nm).size + (1 + (T a).size)), incC (L ++ cut g a a') h), (g a).nm :: ns) := by
  rw [at_app] at hat
  obtain ⟨h1, h2⟩ := hat
  rw [bI_len] at h2
  obtain ⟨_, c1, h3⟩ := h2
  have h3 : AtL s (j + (quT (g a).nm).size + 1) (bI (T a) ++ rest) := h3
  rw [at_app] at h3
  have hs := quT_read h1
  unfold namedP at hn
  simp only [if_true, Bool.and_eq_true, Bool.not_eq_true'] at hn
  obtain ⟨⟨n1, n2⟩, _⟩ := hn
  have hv := hI a a' (j + (quT (g a).nm).size + 1) L hp hw h3.1 (by rw [show j + (quT (g a).nm).size + 1 + (T a).size = j + ((quT (g a).nm).size + (1 + (T a).size)) by omega]; exact hF) hl
  have hb2 : bl s (j + (quT (g a).nm).size + 1) = j + (quT (g a).nm).size + 1 := bl_stop (st_bl hv.2).1
  unfold memM
  rw [hs, Rs.bind_ok]
  dsimp only
  rw [if_neg (bI_ne n2), mk_bI, if_neg (by rw [n1]; decide), bl_no c1 (by decide)]
  unfold wordM
  rw [if_pos c1]
  unfold wordM
  rw [Rs.bind_ok, hb2, hv.1, Rs.bind_ok]
  dsimp only
  rw [show j + (quT (g a).nm).size + 1 + (T a).size = j + ((quT (g a).nm).size + (1 + (T a).size)) by omega]
/-- An object's members, behind the first one. -/
theorem rt_objF {s : ByteArray} {g : Nat → CR} {n r p : Nat} {T : Nat → ByteArray} {V : ByteArray → Nat → List CR → Rs Out} (hr : r ≤ 16) (hI : IHV s g n r T V p) (L : List CR) (nm : ByteArray) : ∀ (d k a e j f : Nat) (ns : List ByteArray) (C : List CR), p < a → kidsF (wk g n r) g n true d ns a = some e → AtL s j (kl T g n true d k a ++ [125]) → 1 ≤ k → d < f → L.length + 1 + C.length + (e - a) ≤ 2048 → objF s V L.length f j ns (L ++ [⟨7, nm, ⟨#[]⟩, 0, k⟩] ++ C) = .ok (j + (kl T g n true d k a).length + 1, L ++ [⟨7, nm, ⟨#[]⟩, 0, (k + d : Nat)⟩] ++ (C ++ cut g a e))
  | 0, k, a, e, j, f, ns, C, _, hk, h, k1, hf, hl => by
    obtain ⟨f', rfl⟩ : ∃ f', f = f' + 1 := ⟨f - 1, by omega⟩
    have e1 : byt s j = 125 := h.2.1
    unfold kidsF at hk
    cases hk
    unfold objF
    rw [e1, if_neg (by decide)]
    unfold wordM
    rw [if_pos e1, cut_nil, List.append_nil]
    rfl
  | d + 1, k, a, e, j, f, ns, C, hp, hk, h, k1, hf, hl => by
    obtain ⟨f', rfl⟩ : ∃ f', f = f' + 1 := ⟨f - 1, by omega⟩
    rw [kl_succ, if_pos (show 0 < k from k1)] at h
    simp only [if_true, List.append_assoc] at h
    obtain ⟨_, e1, h2⟩ := h
    have h2 : AtL s (j + 1) (bI (quT (g a).nm) ++ ([58] ++ (bI (T a) ++ (kl T g n true d (k + 1) (nx g n a) ++ [125])))) := h2
    unfold kidsF at hk
    split at hk
    · cases hk
    split at hk
    case isFalse => cases hk
    rename_i hna hnm
    simp only [if_true] at hk
    cases hw : wk g n r a with
    | none => rw [hw] at hk; cases hk
    | some a' =>
      rw [hw] at hk
      dsimp only at hk
      have hlt := wk_lt r a a' hw
      have hk2 := kidsF_lt (wk_lt r) d _ a' e hlt.2 hk
      have hnx : nx g n a = a' := nx_some (wk_up hr hw)
      rw [hnx] at h2
      have h4 : AtL s (j + 1 + ((quT (g a).nm).size + (1 + (T a).size))) (kl T g n true d (k + 1) a' ++ [125]) := by
        have h3 := (at_app.1 h2).2
        rw [bI_len] at h3
        have h5 := (at_app.1 (at_app.1 h3).2).2
        rw [bI_len] at h5
        rw [show j + 1 + ((quT (g a).nm).size + (1 + (T a).size)) = j + 1 + (quT (g a).nm).size + [(58 : Int)].length + (T a).size by simp; omega]
        exact h5
      have hnb := kl_next (show 0 < k + 1 by omega) h4
      have hF : Fo (byt s (j + 1 + ((quT (g a).nm).size + (1 + (T a).size)))) := by rw [hnb]; split; exact fo_125; exact fo_44
      have hB : isBl (byt s (j + 1 + ((quT (g a).nm).size + (1 + (T a).size)))) = false := by rw [hnb]; split <;> decide
      have hq : byt s (j + 1) = 34 := by
        have h6 := (at_app.1 h2).1
        rw [quT_bI] at h6
        exact h6.2.1
      have hm := rt_mem hI (L ++ [⟨7, nm, ⟨#[]⟩, 0, k⟩] ++ C) L.length a a' (j + 1) ns _ hp hw hnm h2 hF (by simp; omega)
      have hbl : bl s (j + 1) = j + 1 := bl_no hq (by decide)
      have ih := rt_objF hr hI L nm d (k + 1) a' e (j + 1 + ((quT (g a).nm).size + (1 + (T a).size))) f' ((g a).nm :: ns) (C ++ cut g a a') (by omega) hk h4 (by omega) (by omega) (by rw [List.length_append, cut_len]; omega)
      unfold objF
      rw [if_pos e1, hbl, hm, Rs.bind_ok]
      dsimp only
      rw [bl_stop hB, List.append_assoc (L ++ [_]) C, incC_last]
      have ee : ((k : Int) + 1) = ((k + 1 : Nat) : Int) := by omega
      dsimp only
      rw [ee, ih]
      rw [kl_succ, if_pos (show 0 < k from k1)]
      simp only [if_true, hnx]
      have e5 : k + 1 + d = k + (d + 1) := by omega
      rw [e5, List.append_assoc C, cut_join g (by omega) (by omega)]
      simp only [List.length_append, bI_len, List.length_cons, List.length_nil]
      congr 2
      omega
/-- An object, behind its bracket. -/
theorem rt_obj {s : ByteArray} {g : Nat → CR} {n r p : Nat} {T : Nat → ByteArray} {V : ByteArray → Nat → List CR → Rs Out} (hr : r ≤ 16) (hI : IHV s g n r T V p) (L : List CR) (nm : ByteArray) (d a e j : Nat) (hp : p < a) (hk : kidsF (wk g n r) g n true d [] a = some e) (h : AtL s j (kl T g n true d 0 a ++ [125])) (hl : L.length + 1 + (e - a) ≤ 2048) : objM s V L.length (bl s j) (L ++ [⟨7, nm, ⟨#[]⟩, 0, 0⟩]) = .ok (j + (kl T g n true d 0 a).length + 1, L ++ [⟨7, nm, ⟨#[]⟩, 0, (d : Nat)⟩] ++ cut g a e) := by
  cases d with
  | zero =>
    have e1 : byt s j = 125 := h.2.1
    rw [bl_no e1 (by decide)]
    unfold kidsF at hk
    cases hk
    unfold objM
    rw [if_pos e1, cut_nil, List.append_nil]
    rfl
  | succ d =>
    rw [kl_succ] at h
    simp only [Nat.lt_irrefl, if_false, if_true, List.nil_append, List.append_assoc] at h
    unfold kidsF at hk
    split at hk
    · cases hk
    split at hk
    case isFalse => cases hk
    rename_i hna hnm
    simp only [if_true] at hk
    cases hw : wk g n r a with
    | none => rw [hw] at hk; cases hk
    | some a' =>
      rw [hw] at hk
      dsimp only at hk
      have hlt := wk_lt r a a' hw
      have hk2 := kidsF_lt (wk_lt r) d _ a' e hlt.2 hk
      have hnx : nx g n a = a' := nx_some (wk_up hr hw)
      rw [hnx] at h
      simp only [Nat.zero_add] at h
      have h4 : AtL s (j + ((quT (g a).nm).size + (1 + (T a).size))) (kl T g n true d 1 a' ++ [125]) := by
        have h3 := (at_app.1 h).2
        rw [bI_len] at h3
        have h5 := (at_app.1 (at_app.1 h3).2).2
        rw [bI_len] at h5
        rw [show j + ((quT (g a).nm).size + (1 + (T a).size)) = j + (quT (g a).nm).size + [(58 : Int)].length + (T a).size by simp; omega]
        exact h5
      have hnb := kl_next (show 0 < 1 by omega) h4
      have hF : Fo (byt s (j + ((quT (g a).nm).size + (1 + (T a).size)))) := by rw [hnb]; split; exact fo_125; exact fo_44
      have hB : isBl (byt s (j + ((quT (g a).nm).size + (1 + (T a).size)))) = false := by rw [hnb]; split <;> decide
      have hq : byt s j = 34 := by
        have h6 := (at_app.1 h).1
        rw [quT_bI] at h6
        exact h6.2.1
      have hm := rt_mem hI (L ++ [⟨7, nm, ⟨#[]⟩, 0, 0⟩]) L.length a a' j [] _ hp hw hnm h hF (by simp; omega)
      have hbl : bl s j = j := bl_no hq (by decide)
      have hle := at_le h4
      rw [List.length_append, List.length_singleton] at hle
      have hdk : d ≤ (kl T g n true d 1 a').length := kl_len (by omega)
      have ih := rt_objF hr hI L nm d 1 a' e (j + ((quT (g a).nm).size + (1 + (T a).size))) (s.size - (j + ((quT (g a).nm).size + (1 + (T a).size))) + 1) [(g a).nm] (cut g a a') (by omega) hk h4 (by omega) (by omega) (by rw [cut_len]; omega)
      unfold objM
      rw [hbl, if_neg (by rw [hq]; decide), hm, Rs.bind_ok]
      dsimp only
      have h1 := @incC_last L (cut g a a') ⟨7, nm, ⟨#[]⟩, 0, 0⟩
      rw [bl_stop hB, h1]
      have ee : ((0 : Int) + 1) = ((1 : Nat) : Int) := rfl
      dsimp only
      rw [ee, ih]
      rw [kl_succ]
      simp only [Nat.lt_irrefl, if_false, if_true, List.nil_append, hnx, Nat.zero_add]
      rw [show 1 + d = d + 1 by omega, cut_join g (by omega) (by omega)]
      simp only [List.length_append, bI_len, List.length_cons, List.length_nil]
      congr 2
      omega
end Go.Proofs.YtoicmcjpaodgpaaDoor

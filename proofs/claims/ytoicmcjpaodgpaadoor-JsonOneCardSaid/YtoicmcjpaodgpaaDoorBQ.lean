/- Layer 4: what is read is written in so few bytes, and read again (plain). -/
import Derived.Test.YtoicmcjpaodgpaaDoorBP
import Derived.Test.YtoicmcjpaodgpaaDoorBH
namespace Go.Proofs.YtoicmcjpaodgpaaDoor
open Go.RowKit
theorem tsz_leaf {g : Nat → CR} {n p F : Nat} (he : enB (g p) = false) (ho : oneP (g p) = true) (hh : headP (g p) = false) (hF0 : 1 ≤ F) : (jtx g n F p).size ≤ ow (g p) := by
  obtain ⟨F', rfl⟩ : ∃ F', F = F' + 1 := ⟨F - 1, by omega⟩
  rcases one_kind ho he with k | k | k | k | k | k
  · have ht : jtx g n (F' + 1) p = ⟨#[110, 117, 108, 108]⟩ := by unfold jtx; rw [if_pos k]
    rw [ht]
    unfold ow
    rw [if_neg (by omega), if_neg (by omega), if_pos (.inl k)]
    decide
  · unfold ow
    rw [if_neg (by omega), if_neg (by omega), if_pos (.inr k)]
    by_cases h1 : (g p).n = 1
    · have ht : jtx g n (F' + 1) p = ⟨#[116, 114, 117, 101]⟩ := by unfold jtx; rw [if_neg (by omega), if_pos k, if_pos h1]
      rw [ht]
      decide
    · have ht : jtx g n (F' + 1) p = ⟨#[102, 97, 108, 115, 101]⟩ := by unfold jtx; rw [if_neg (by omega), if_pos k, if_neg h1]
      rw [ht]
      decide
  · have ht : jtx g n (F' + 1) p = itT (g p).n := by unfold jtx; rw [if_neg (by omega), if_neg (by omega), if_pos k]
    rw [ht]
    unfold ow
    rw [if_pos k]
    exact Nat.le_refl _
  · have ht : jtx g n (F' + 1) p = quT (g p).tx := by unfold jtx; rw [if_neg (by omega), if_neg (by omega), if_neg (by omega), if_pos k]
    rw [ht]
    unfold ow
    rw [if_neg (by omega), if_pos k]
    exact Nat.le_refl _
  · unfold headP at hh; rw [k] at hh; simp at hh
  · unfold headP at hh; rw [k] at hh; simp at hh
theorem tsz_kl {g : Nat → CR} {n r p : Nat} {T : Nat → ByteArray} {obj : Bool} (hr : r ≤ 16) (hI : ∀ a e, p < a → wk g n r a = some e → (T a).size + nw (g a).nm + 1 ≤ wts (cut g a e)) : ∀ (d k a e : Nat) (ns : List ByteArray), p < a → kidsF (wk g n r) g n obj d ns a = some e → (kl T g n obj d k a).length ≤ wts (cut g a e)
  | 0, k, a, e, ns, _, _ => Nat.zero_le _
  | d + 1, k, a, e, ns, hp, hk => by
    unfold kidsF at hk
    split at hk
    · cases hk
    split at hk
    case isFalse => cases hk
    rename_i hna hnm
    cases hw : wk g n r a with
    | none => rw [hw] at hk; cases hk
    | some a' =>
      rw [hw] at hk
      dsimp only at hk
      have hlt := wk_lt r a a' hw
      have hk2 := kidsF_lt (wk_lt r) d _ a' e hlt.2 hk
      have hnx : nx g n a = a' := nx_some (wk_up hr hw)
      have ih := tsz_kl hr hI d (k + 1) a' e _ (by omega) hk
      have hv := hI a a' hp hw
      rw [kl_succ, hnx, ← cut_join g (show a ≤ a' by omega) (show a' ≤ e by omega), wts_app]
      simp only [List.length_append, bI_len]
      have h1 : (if 0 < k then [44] else ([] : List Int)).length ≤ 1 := by split <;> simp
      cases obj with
      | false =>
        simp only [Bool.false_eq_true, if_false, List.length_nil]
        omega
      | true =>
        unfold namedP at hnm
        simp only [if_true, Bool.and_eq_true, Bool.not_eq_true'] at hnm
        have hne : (g a).nm ≠ ⟨#[]⟩ := fun e0 => by
          have := hnm.1.2
          rw [e0] at this
          cases this
        have hnw : nw (g a).nm = (quT (g a).nm).size + 1 := by unfold nw; rw [if_neg hne]
        simp only [if_true, List.length_append, bI_len, List.length_cons, List.length_nil]
        omega
theorem tsz_val {g : Nat → CR} {n : Nat} (hE : ∀ i, i < n → enB (g i) = false) : ∀ (r p e F : Nat), r ≤ 16 → wk g n r p = some e → n - p ≤ F → (jtx g n F p).size + nw (g p).nm + 1 ≤ wts (cut g p e)
  | 0, p, e, F, hr, hw, hF => by
    rw [wk_z] at hw
    split at hw
    · cases hw
    split at hw
    case isFalse => cases hw
    rename_i hpn hoh
    cases hw
    simp only [Bool.and_eq_true, Bool.not_eq_true'] at hoh
    have h := tsz_leaf (n := n) (hE p (by omega)) hoh.1 hoh.2 (show 1 ≤ F by omega)
    rw [cut_cons g (by omega), cut_nil, wts_cons]
    unfold wc
    omega
  | r + 1, p, e, F, hr, hw, hF => by
    have hlt := wk_lt _ p e hw
    rw [wk_s] at hw
    split at hw
    · cases hw
    split at hw
    case isFalse => cases hw
    rename_i hpn ho
    split at hw
    case isFalse hh =>
      cases hw
      have h := tsz_leaf (n := n) (hE p (by omega)) ho (by simpa using hh) (show 1 ≤ F by omega)
      rw [cut_cons g (by omega), cut_nil, wts_cons]
      unfold wc
      omega
    rename_i hh
    obtain ⟨F', rfl⟩ : ∃ F', F = F' + 1 := ⟨F - 1, by omega⟩
    have hI : ∀ a e, p < a → wk g n r a = some e → (jtx g n F' a).size + nw (g a).nm + 1 ≤ wts (cut g a e) := fun a e' ha hw' => tsz_val hE r a e' F' (by omega) hw' (by omega)
    rw [cut_cons g hlt.1, wts_cons]
    unfold headP at hh
    simp only [Bool.or_eq_true, decide_eq_true_eq] at hh
    have hwc : wc (g p) = 2 + nw (g p).nm + 1 := by
      unfold wc ow
      rw [if_neg (by omega), if_neg (by omega), if_neg (by omega)]
    rcases hh with k | k
    · rw [k] at hw
      have hw : kidsF (wk g n r) g n false (g p).m.toNat [] (p + 1) = some e := hw
      have ht : bI (jtx g n (F' + 1) p) = 91 :: (kl (jtx g n F') g n false (g p).m.toNat 0 (p + 1) ++ [93]) := by
        unfold jtx
        rw [if_neg (by omega), if_neg (by omega), if_neg (by omega), if_neg (by omega), if_neg (by omega), bI_app, bI_app, jki_all]
        rfl
      have hsz : (jtx g n (F' + 1) p).size = (kl (jtx g n F') g n false (g p).m.toNat 0 (p + 1)).length + 2 := by rw [← bI_len, ht]; simp
      have h := tsz_kl (by omega) hI (g p).m.toNat 0 (p + 1) e [] (by omega) hw
      omega
    · rw [k] at hw
      have hw : kidsF (wk g n r) g n true (g p).m.toNat [] (p + 1) = some e := hw
      have ht : bI (jtx g n (F' + 1) p) = 123 :: (kl (jtx g n F') g n true (g p).m.toNat 0 (p + 1) ++ [125]) := by
        unfold jtx
        rw [if_neg (by omega), if_neg (by omega), if_neg (by omega), if_neg (by omega), if_pos k, bI_app, bI_app, jki_all]
        rfl
      have hsz : (jtx g n (F' + 1) p).size = (kl (jtx g n F') g n true (g p).m.toNat 0 (p + 1)).length + 2 := by rw [← bI_len, ht]; simp
      have h := tsz_kl (by omega) hI (g p).m.toNat 0 (p + 1) e [] (by omega) hw
      omega
theorem gl_mem {M : List CR} {i : Nat} (h : i < M.length) : gl M i ∈ M := by
  unfold gl
  rw [List.getD_eq_getElem?_getD, List.getElem?_eq_getElem h]
  exact List.getElem_mem h
/-- What is read of few bytes is plain, small, and read again of what is written of it. -/
theorem one_facts {s : ByteArray} {M : List CR} (hs : s.size ≤ 3000) (h : readM s = .ok M) : plnB (gl M) M.length = true ∧ SmK (gl M) M.length ∧ readM (jtx (gl M) M.length M.length 0) = .ok M ∧ (jtx (gl M) M.length M.length 0).size ≤ 16384 := by
  unfold readM at h
  split at h
  · cases h
  rename_i hck
  have htx : isTx s = true := by
    unfold ckE at hck
    rw [if_neg (by omega)] at hck
    split at hck
    · assumption
    · exact absurd (by decide) hck
  have hb2 : bl s 0 ≤ s.size := bl_le (Nat.zero_le _)
  have tw : Tw s (bl s 0) s.size := (isTx_tw htx).asc (bl_asc s 0) hb2
  cases hv : valM s 17 ⟨#[]⟩ 0 (bl s 0) [] with
  | bad m => rw [hv] at h; cases h
  | ok y =>
    obtain ⟨j, M'⟩ := y
    rw [hv] at h
    simp only [Rs.bind_ok] at h
    split at h
    · cases h
    cases h
    have hok := valM_ok s 17 0 ⟨#[]⟩ _ _ _ _ hb2 (by decide) hv
    obtain ⟨K, hK, sv, wt, _⟩ := vs_all hs 16 0 ⟨#[]⟩ _ [] j _ rfl (by decide) tw hb2 (by decide) hv
    have hK2 : M = K := hK
    subst hK2
    have hnw : nw ⟨#[]⟩ = 0 := rfl
    have hE : ∀ i, i < M.length → enB (gl M i) = false := fun i hi => (sv.ok _ (gl_mem hi)).en
    have hem : em (gl M 0).nm = true := by rw [sv.hd]; rfl
    have hp : plnB (gl M) M.length = true := by
      rw [pln_yes hE]
      unfold ckC
      rw [decide_eq_true sv.pos, decide_eq_true hok.2.2.2.1, hem, decide_eq_true sv.wk]
      rfl
    have hts := tsz_val hE 16 0 M.length M.length (Nat.le_refl _) sv.wk (by omega)
    rw [cut_gl M M.length rfl] at hts
    have hsz : (jtx (gl M) M.length M.length 0).size ≤ 16384 := by omega
    have hnn : ∀ i, i < M.length → i64ok (gl M i).n := fun i hi => (sv.ok _ (gl_mem hi)).nn
    refine ⟨hp, ⟨fun i hi => (sv.ok _ (gl_mem hi)).nm, fun i hi => (sv.ok _ (gl_mem hi)).tx, hnn, ⟨fun i hi => ?_, fun i hi => Nat.le_trans (sv.ok _ (gl_mem hi)).nm (by decide), by have := hok.2.2.2.1; unfold maxLen; omega⟩⟩, ?_, hsz⟩
    · have q := sv.ok _ (gl_mem hi)
      exact ⟨q.k, Nat.le_trans q.nm (by decide), Nat.le_trans q.tx (by decide), by have := q.mm.1; omega, by have := q.mm.2; omega⟩
    · have hr := rt_read (b := ⟨#[]⟩) ⟨hE, hnn⟩ hok.2.2.2.1 sv.wk hem (by intro c hc; cases hc) (by rw [app_nil2]; exact hsz)
      rw [app_nil2, cut_gl M M.length rfl] at hr
      exact hr
end Go.Proofs.YtoicmcjpaodgpaaDoor

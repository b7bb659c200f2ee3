/- Layer 3: what is put together of values, taken apart again (plain); Items, Members. -/
import Derived.Test.YtfmgkndljppffaaD8
namespace Go.Proofs.Ytfmgkndljppffaa
open Go.RowKit Go.Maps
theorem ck_cut {g : Nat → CR} {n : Nat} (h : ckC g n = true) : ckL (cut g 0 n) = true := by
  obtain ⟨k1, k2, k3, k4⟩ := ckC_parts h
  have hl : (cut g 0 n).length = n := by rw [cut_len, Nat.sub_zero]
  have hat : ∀ t, t < n → gl (cut g 0 n) t = g t := fun t ht => by rw [cut_at g 0 n t (by omega), Nat.zero_add]
  unfold ckL
  rw [hl]
  refine ckC_mk k1 k2 (by rw [hat 0 k1]; exact k3) ?_
  have k := wk_shift (g1 := g) (n1 := n) (s1 := 0) (g2 := gl (cut g 0 n)) (n2 := n) (s2 := 0) 16 0 n (by simpa using k4) ?_ (by omega)
  · simpa using k
  · intro t _ ht
    rw [Nat.add_zero, hat t ht]
    exact ⟨rfl, rfl, rfl, rfl, fun _ => rfl⟩
/-- The values' lists; the same under their names. -/
def vsL (ln : Nat) (len : Nat → Nat) (G : Nat → Nat → CR) : List (List CR) := (List.range ln).map fun i => cut (G i) 0 (len i)
def lsL (k ln : Nat) (s : Nat → ByteArray) (len : Nat → Nat) (G : Nat → Nat → CR) : List (List CR) := (List.range ln).map (lsF k s len G)
theorem pre_under (k ln : Nat) (s : Nat → ByteArray) (len : Nat → Nat) (G : Nat → Nat → CR) : preL k ln s len G ln = under (hdC k ln) (lsL k ln s len G) := rfl
theorem vs_len (ln : Nat) (len : Nat → Nat) (G : Nat → Nat → CR) : (vsL ln len G).length = ln := by simp [vsL]
theorem ls_len2 (k ln : Nat) (s : Nat → ByteArray) (len : Nat → Nat) (G : Nat → Nat → CR) : (lsL k ln s len G).length = ln := by simp [lsL]
theorem vs_at (ln : Nat) (len : Nat → Nat) (G : Nat → Nat → CR) (i : Nat) (h : i < (vsL ln len G).length) : (vsL ln len G)[i] = cut (G i) 0 (len i) := by simp [vsL]
theorem ls_at (k ln : Nat) (s : Nat → ByteArray) (len : Nat → Nat) (G : Nat → Nat → CR) (i : Nat) (h : i < (lsL k ln s len G).length) : (lsL k ln s len G)[i] = lsF k s len G i := by simp [lsL]
/-- Where the i-th begins, in what was put together. -/
def plF (k ln : Nat) (s : Nat → ByteArray) (len : Nat → Nat) (G : Nat → Nat → CR) (i : Nat) : Nat := bd (gl (preL k ln s len G ln)) (preL k ln s len G ln).length (0 + 1) i
theorem put_facts (k : Nat) (hk : k = 6 ∨ k = 7) (ln : Nat) (s : Nat → ByteArray) (len : Nat → Nat) (G : Nat → Nat → CR) (hck : ∀ i, i < ln → ckC (G i) (len i) = true) (hL : ckL (preL k ln s len G ln) = true) :
    (gl (preL k ln s len G ln) 0).m.toNat = ln ∧ (gl (preL k ln s len G ln) 0).k = k ∧ ∀ i, i < ln → plF k ln s len G i < (preL k ln s len G ln).length ∧ ren ⟨#[]⟩ (cut (gl (preL k ln s len G ln)) (plF k ln s len G i) (nx (gl (preL k ln s len G ln)) (preL k ln s len G ln).length (plF k ln s len G i))) = cut (G i) 0 (len i) ∧ nx (gl (preL k ln s len G ln)) (preL k ln s len G ln).length (plF k ln s len G i) - plF k ln s len G i = len i ∧ (k = 7 → memP (gl (preL k ln s len G ln)) (preL k ln s len G ln).length 0 (s i) = some (plF k ln s len G i)) := by
  have hm : (gl (preL k ln s len G ln) 0).m.toNat = ln := by
    show ((ln : Int)).toNat = ln
    exact Int.toNat_natCast _
  have hk0 : (gl (preL k ln s len G ln) 0).k = k := rfl
  refine ⟨hm, hk0, ?_⟩
  have hvs : ∀ i (h2 : i < (vsL ln len G).length), ckL (vsL ln len G)[i] = true := fun i h2 => by
    rw [vs_at]
    exact ck_cut (hck i (by rw [vs_len] at h2; exact h2))
  have hl : (lsL k ln s len G).length = (vsL ln len G).length := by rw [ls_len2, vs_len]
  have hr : ∀ i (h1 : i < (lsL k ln s len G).length) (h2 : i < (vsL ln len G).length), ∃ t, (lsL k ln s len G)[i] = ren t (vsL ln len G)[i] := fun i h1 h2 => by
    rw [ls_at, vs_at]
    unfold lsF
    rcases hk with e | e
    · rw [if_neg (by omega)]
      refine ⟨⟨#[]⟩, (ren_self ?_).symm⟩
      have := hvs i h2
      rw [vs_at] at this
      exact em_eq (ckC_parts this).2.2.1
    · rw [if_pos e]
      exact ⟨s i, rfl⟩
  have e1 : ∀ i, i ≤ ln → plF k ln s len G i = st 1 (lsL k ln s len G) i := fun i hi => by
    unfold plF
    rw [pre_under]
    exact under_bd (hdC k ln) (vsL ln len G) (lsL k ln s len G) hl hr hvs i (by rw [ls_len2]; exact hi)
  have w1 := under_wk (hdC k ln) (vsL ln len G) (lsL k ln s len G) hl hr hvs
  rw [← pre_under] at w1
  intro i hi
  have hi2 : i < (lsL k ln s len G).length := by rw [ls_len2]; exact hi
  have hi3 : i < (vsL ln len G).length := by rw [vs_len]; exact hi
  have hw := w1 i hi2
  have hlt := wk_lt _ _ _ hw
  have hn : nx (gl (preL k ln s len G ln)) (preL k ln s len G ln).length (plF k ln s len G i) = st 1 (lsL k ln s len G) (i + 1) := e1 (i + 1) (by omega)
  have hsub := under_sub (hdC k ln) (vsL ln len G) (lsL k ln s len G) hl hr hvs i hi2 hi3
  rw [← pre_under, vs_at] at hsub
  rw [hn, e1 i (by omega)]
  refine ⟨by omega, hsub, ?_, ?_⟩
  · have := congrArg List.length hsub
    rw [ren_len, cut_len, cut_len] at this
    omega
  · intro h7
    obtain ⟨c1, c2, c3, c4⟩ := ckC_parts hL
    unfold memP
    have hp0 : plE (gl (preL k ln s len G ln)) (preL k ln s len G ln).length 0 = 0 := by
      unfold plE
      have hL' : ckC (gl (preL k ln s len G ln)) (preL k ln s len G ln).length = true := hL
      rw [if_pos hL', if_pos (by omega)]
    rw [if_pos ⟨hp0, by show k = 7; exact h7⟩]
    show mbF _ _ (plF k ln s len G) (gl (preL k ln s len G ln) 0).m.toNat = _
    have nmAt : ∀ j, j < ln → (gl (preL k ln s len G ln) (plF k ln s len G j)).nm = s j := fun j hj => by
      have hj2 : j < (lsL k ln s len G).length := by rw [ls_len2]; exact hj
      have hj3 : j < (vsL ln len G).length := by rw [vs_len]; exact hj
      have hw' := wk_lt _ _ _ (w1 j hj2)
      have hpos := (ckC_parts (hvs j hj3)).1
      rw [vs_at, cut_len, Nat.sub_zero] at hpos
      rw [e1 j (by omega), pre_under]
      have u := under_at (hdC k ln) (lsL k ln s len G) j 0 hj2 (by rw [ls_at, ls_len]; exact hpos)
      rw [Nat.add_zero] at u
      rw [u, ls_at]
      unfold lsF
      rw [if_pos h7]
      exact ren_nm _ _ (by rw [cut_len, Nat.sub_zero]; exact hpos)
    have hap := names_apart (Nat.le_refl 16) c4 (by show k = 7; exact h7) i (by rw [hm]; exact hi)
    rw [hm, mbF_some (i := i) hi (fun j hj => ?_) (nmAt i hi)]
    · rw [← e1 i (by omega)]
    · have := hap.2 j hj
      intro hh
      exact this (hh.trans (nmAt i hi).symm)
theorem gE_ok {k ln : Nat} {s : Nat → ByteArray} {len : Nat → Nat} {G : Nat → Nat → CR} (h : gE k ln s len G = 0) : ln ≤ 2048 ∧ (∀ i, i < ln → ckC (G i) (len i) = true) ∧ ckL (preL k ln s len G ln) = true := by
  unfold gE at h
  split at h
  · cases h
  · rename_i h1
    split at h
    · rename_i h2
      refine ⟨by omega, fun i hi => List.all_eq_true.1 h2 i (List.mem_range.2 hi), ?_⟩
      cases hc : ckL (preL k ln s len G ln) with
      | true => rfl
      | false => rw [hc] at h; cases h
    · cases h
theorem own_cvc {w : World} {B n : Nat} {v : Value} {L : List CR} (hl : L.length = n) (h : w.ownsRow B 32 5 v n (rw5 L)) (h0 : 0 < n) : ∃ q cap, v = .slice (some ⟨q, 0, none⟩) n cap ∧ n ≤ cap ∧ CV w (some ⟨q, 0, none⟩) n (gl L) ∧ B ≤ q ∧ q < w.heap.size := by
  rcases h.2 with ⟨rfl, hn⟩ | ⟨q, cap, cur, rfl, hg, hgg, h1, h2, h3, h4⟩
  · omega
  · exact ⟨q, cap, rfl, h1, cv_of hl (Array.getElem?_eq_some_iff.1 hgg).1 (fun j hj => h.cellAt j hj), hg, (Array.getElem?_eq_some_iff.1 hgg).1⟩
set_option maxRecDepth 20000 in
theorem items_any (la : Option Addr) (ln lc : Nat) (s : Nat → ByteArray) (ad : Nat → Option Addr) (len cp : Nat → Nat) (G : Nat → Nat → CR) (w : World) (hin : LIn w la ln ad len cp G) (hcw : ∀ i, i < ln → CW (len i) (G i)) :
    Calls Try.prog 28 #[.slice la ln lc] w (GP w (gE 6 ln s len G) (preL 6 ln s len G ln)) := by
  have HG : Hid (Calls Try.prog 47 #[.int .u8 6, .slice none 0 0, .slice la ln lc] w (GP w (gE 6 ln s len G) (preL 6 ln s len G ln))) := Lib.hid (by
    have hkv2 : (6 : Int) = ((6 : Nat) : Int) := rfl
    by_cases hl : ln ≤ 2048
    · rw [hkv2]
      exact gather_any 6 (.inl rfl) none la 0 0 ln lc s ad len cp G w hl hin hcw (fun h => by cases h) (fun h => by cases h) (fun h => by cases h)
    · exact gather_many 6 none la 0 0 ln lc 6 s len G w (by omega))
  clear hin hcw
  obtain ⟨z, hz⟩ : ∃ z, z = gE 6 ln s len G := ⟨_, rfl⟩
  obtain ⟨L, hL⟩ : ∃ L, L = preL 6 ln s len G ln := ⟨_, rfl⟩
  rw [← hz, ← hL] at HG ⊢
  clear hz hL
  go_enter Try.func28, Try.ntmps28
  go_wp2_with fail
  with_reducible refine HG.out.mono ?_
  rintro e w1 ⟨v, rfl, h1, h2, h3⟩
  go_wp2_with fail
  go_ret2
  exact ⟨v, rfl, h1, h2, h3⟩
/-- The error of Members. -/
def mE (nn ln : Nat) (s : Nat → ByteArray) (len : Nat → Nat) (G : Nat → Nat → CR) : Int := if nn = ln then gE 7 ln s len G else 2
set_option maxRecDepth 20000 in
theorem members_any (na la : Option Addr) (nn nc ln lc : Nat) (s : Nat → ByteArray) (ad : Nat → Option Addr) (len cp : Nat → Nat) (G : Nat → Nat → CR) (w : World) (hin : LIn w la ln ad len cp G) (hcw : ∀ i, i < ln → CW (len i) (G i)) (hnv : NV w na nn s) (hsz : ∀ i, i < nn → (s i).size ≤ maxLen) :
    Calls Try.prog 30 #[.slice na nn nc, .slice la ln lc] w (GP w (mE nn ln s len G) (preL 7 ln s len G ln)) := by
  by_cases he : nn = ln
  · subst he
    have HG : Hid (Calls Try.prog 47 #[.int .u8 7, .slice na nn nc, .slice la nn lc] w (GP w (gE 7 nn s len G) (preL 7 nn s len G nn))) := Lib.hid (by
      have hkv2 : (7 : Int) = ((7 : Nat) : Int) := rfl
      by_cases hl : nn ≤ 2048
      · rw [hkv2]
        exact gather_any 7 (.inr rfl) na la nn nc nn lc s ad len cp G w hl hin hcw (fun _ => hnv) (fun _ => rfl) (fun _ => hsz)
      · exact gather_many 7 na la nn nc nn lc 7 s len G w (by omega))
    unfold mE
    rw [if_pos rfl]
    clear hin hcw hnv hsz
    obtain ⟨z, hz⟩ : ∃ z, z = gE 7 nn s len G := ⟨_, rfl⟩
    obtain ⟨L, hL⟩ : ∃ L, L = preL 7 nn s len G nn := ⟨_, rfl⟩
    rw [← hz, ← hL] at HG ⊢
    clear hz hL
    have hne : ((nn : Int) != nn) = false := by simp
    go_enter Try.func30, Try.ntmps30
    go_wp2_with fail
    with_reducible refine HG.out.mono ?_
    rintro e w1 ⟨v, rfl, h1, h2, h3⟩
    go_wp2_with fail
    go_ret2
    exact ⟨v, rfl, h1, h2, h3⟩
  · have HE := Lib.hid (show mE nn ln s len G = 2 by unfold mE; rw [if_neg he])
    obtain ⟨z, hz⟩ : ∃ z, z = mE nn ln s len G := ⟨_, rfl⟩
    rw [← hz] at HE ⊢
    have hne : ((nn : Int) != ln) = true := by simp; omega
    have hne2 : ((nn : Int) == ln) = false := by rw [beq_eq_false_iff_ne]; omega
    clear hz hin hcw hnv hsz he
    go_enter Try.func30, Try.ntmps30
    go_wp2_with fail
    go_ret2
    exact GP.bad HE.out (by decide) (Below.refl _ _)
end Go.Proofs.Ytfmgkndljppffaa

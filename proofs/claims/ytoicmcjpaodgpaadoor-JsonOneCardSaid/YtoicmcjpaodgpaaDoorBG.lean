/- Layer 4: what is written of a value is read, blanks around it (plain). -/
import Derived.Test.YtoicmcjpaodgpaaDoorBF
namespace Go.Proofs.YtoicmcjpaodgpaaDoor
open Go.RowKit
theorem ck_tx {s : ByteArray} (h : ckB s = true) : isTx s = true := by
  unfold ckB at h
  rw [decide_eq_true_eq] at h
  unfold ckE at h
  split at h
  · cases h
  · split at h
    · assumption
    · cases h
theorem dg_asc {D : List Int} (h : DgL D) : ∀ c ∈ D, c < 128 := fun c hc => by
  have := h.1 c hc
  unfold isDg at this
  simp only [Bool.and_eq_true, decide_eq_true_eq] at this
  omega
theorem itT_asc (n : Int) : ∀ c ∈ bI (itT n), c < 128 := by
  obtain ⟨D, hD, hb⟩ := itT_bI n
  rcases hb with hb | hb
  · rw [hb]; exact dg_asc hD
  · rw [hb]
    intro c hc
    rcases List.mem_cons.1 hc with rfl | hc
    · decide
    · exact dg_asc hD c hc
theorem tw_len {s : ByteArray} {i : Nat} {L : List Int} {k : Nat} (h : Tw s i (i + L.length)) (e : L.length = k) : Tw s i (i + k) := by rw [← e]; exact h
/-- Items are code points. -/
theorem tw_kl {s : ByteArray} {g : Nat → CR} {n r p : Nat} {T : Nat → ByteArray} {obj : Bool} (hr : r ≤ 16) (hI : ∀ a e i, p < a → wk g n r a = some e → AtL s i (bI (T a)) → Tw s i (i + (T a).size)) : ∀ (d k a e j : Nat) (ns : List ByteArray), p < a → kidsF (wk g n r) g n obj d ns a = some e → AtL s j (kl T g n obj d k a) → Tw s j (j + (kl T g n obj d k a).length)
  | 0, k, a, e, j, ns, _, _, _ => .nil _
  | d + 1, k, a, e, j, ns, hp, hk, h => by
    rw [kl_succ] at h ⊢
    rw [at_app, at_app, at_app] at h
    obtain ⟨h1, h2, h3, h4⟩ := h
    unfold kidsF at hk
    split at hk
    · cases hk
    split at hk
    case isFalse => cases hk
    rename_i hna hnm
    cases hw : wk g n r a with
    | none => rw [hw] at hk; cases hk
    | some a' =>
      rw [hw] at hk
      dsimp only at hk
      have hlt := wk_lt r a a' hw
      have hnx : nx g n a = a' := nx_some (wk_up hr hw)
      rw [hnx] at h4 ⊢
      have w1 : Tw s j (j + (if 0 < k then [44] else ([] : List Int)).length) := tw_asc (by intro c hc; split at hc <;> simp at hc; omega) h1
      have w2 : Tw s (j + (if 0 < k then [44] else ([] : List Int)).length) (j + (if 0 < k then [44] else ([] : List Int)).length + (if obj then bI (quT (g a).nm) ++ [58] else ([] : List Int)).length) := by
        cases obj with
        | false => exact .nil _
        | true =>
          simp only [if_true] at h2 ⊢
          rw [at_app] at h2
          unfold namedP at hnm
          simp only [if_true, Bool.and_eq_true] at hnm
          have q1 := tw_qu (ck_tx hnm.2) h2.1
          have q2 := tw_asc (by intro c hc; simp at hc; omega) h2.2
          rw [bI_len] at q2
          rw [List.length_append, bI_len, ← Nat.add_assoc]
          exact q1.trans q2
      have w3 := hI a a' _ hp hw h3
      have w4 := tw_kl hr hI d (k + 1) a' e _ _ (by omega) hk h4
      rw [bI_len] at w4
      have w := ((w1.trans w2).trans w3).trans w4
      simp only [List.length_append, bI_len]
      simpa only [Nat.add_assoc] using w
theorem tw_leaf {s : ByteArray} {g : Nat → CR} {n p F i : Nat} (hP : Pln g n) (hp : p < n) (ho : oneP (g p) = true) (hh : headP (g p) = false) (hF0 : 1 ≤ F) (hat : AtL s i (bI (jtx g n F p))) : Tw s i (i + (jtx g n F p).size) := by
  obtain ⟨F', rfl⟩ : ∃ F', F = F' + 1 := ⟨F - 1, by omega⟩
  have he := hP.en p hp
  rcases one_kind ho he with k | k | k | k | k | k
  · have ht : jtx g n (F' + 1) p = ⟨#[110, 117, 108, 108]⟩ := by unfold jtx; rw [if_pos k]
    rw [ht] at hat ⊢
    exact tw_len (tw_asc (by decide) hat) rfl
  · by_cases h1 : (g p).n = 1
    · have ht : jtx g n (F' + 1) p = ⟨#[116, 114, 117, 101]⟩ := by unfold jtx; rw [if_neg (by omega), if_pos k, if_pos h1]
      rw [ht] at hat ⊢
      exact tw_len (tw_asc (by decide) hat) rfl
    · have ht : jtx g n (F' + 1) p = ⟨#[102, 97, 108, 115, 101]⟩ := by unfold jtx; rw [if_neg (by omega), if_pos k, if_neg h1]
      rw [ht] at hat ⊢
      exact tw_len (tw_asc (by decide) hat) rfl
  · have ht : jtx g n (F' + 1) p = itT (g p).n := by unfold jtx; rw [if_neg (by omega), if_neg (by omega), if_pos k]
    rw [ht] at hat ⊢
    exact tw_len (tw_asc (itT_asc _) hat) (bI_len _)
  · unfold oneP at ho
    rw [if_neg (by omega), if_neg (by omega), if_neg (by omega), if_pos k] at ho
    simp only [Bool.and_eq_true] at ho
    have ht : jtx g n (F' + 1) p = quT (g p).tx := by unfold jtx; rw [if_neg (by omega), if_neg (by omega), if_neg (by omega), if_pos k]
    rw [ht] at hat ⊢
    exact tw_qu (ck_tx ho.2) hat
  · unfold headP at hh; rw [k] at hh; simp at hh
  · unfold headP at hh; rw [k] at hh; simp at hh
theorem tw_val {s : ByteArray} {g : Nat → CR} {n : Nat} (hP : Pln g n) : ∀ (r p e F i : Nat), r ≤ 16 → wk g n r p = some e → n - p ≤ F → AtL s i (bI (jtx g n F p)) → Tw s i (i + (jtx g n F p).size)
  | 0, p, e, F, i, hr, hw, hF, hat => by
    rw [wk_z] at hw
    split at hw
    · cases hw
    split at hw
    case isFalse => cases hw
    rename_i hpn hoh
    simp only [Bool.and_eq_true, Bool.not_eq_true'] at hoh
    exact tw_leaf hP (by omega) hoh.1 hoh.2 (by omega) hat
  | r + 1, p, e, F, i, hr, hw, hF, hat => by
    rw [wk_s] at hw
    split at hw
    · cases hw
    split at hw
    case isFalse => cases hw
    rename_i hpn ho
    split at hw
    case isFalse hh => exact tw_leaf hP (by omega) ho (by simpa using hh) (by omega) hat
    rename_i hh
    obtain ⟨F', rfl⟩ : ∃ F', F = F' + 1 := ⟨F - 1, by omega⟩
    have hI : ∀ a e i, p < a → wk g n r a = some e → AtL s i (bI (jtx g n F' a)) → Tw s i (i + (jtx g n F' a).size) := fun a e' i' ha hw' hat' => tw_val hP r a e' F' i' (by omega) hw' (by omega) hat'
    unfold headP at hh
    simp only [Bool.or_eq_true, decide_eq_true_eq] at hh
    rcases hh with k | k
    · rw [k] at hw
      have hw : kidsF (wk g n r) g n false (g p).m.toNat [] (p + 1) = some e := hw
      have ht : bI (jtx g n (F' + 1) p) = [91] ++ (kl (jtx g n F') g n false (g p).m.toNat 0 (p + 1) ++ [93]) := by
        unfold jtx
        rw [if_neg (by omega), if_neg (by omega), if_neg (by omega), if_neg (by omega), if_neg (by omega), bI_app, bI_app, jki_all]
        rfl
      have hsz : (jtx g n (F' + 1) p).size = (kl (jtx g n F') g n false (g p).m.toNat 0 (p + 1)).length + 2 := by rw [← bI_len, ht]; simp
      rw [ht, at_app, at_app] at hat
      have w1 := tw_asc (by decide) hat.1
      have w2 := tw_kl (by omega) hI _ _ _ e _ _ (by omega) hw hat.2.1
      have w3 := tw_asc (by decide) hat.2.2
      rw [hsz, show i + ((kl (jtx g n F') g n false (g p).m.toNat 0 (p + 1)).length + 2) = i + 1 + (kl (jtx g n F') g n false (g p).m.toNat 0 (p + 1)).length + 1 by omega]
      exact (w1.trans w2).trans w3
    · rw [k] at hw
      have hw : kidsF (wk g n r) g n true (g p).m.toNat [] (p + 1) = some e := hw
      have ht : bI (jtx g n (F' + 1) p) = [123] ++ (kl (jtx g n F') g n true (g p).m.toNat 0 (p + 1) ++ [125]) := by
        unfold jtx
        rw [if_neg (by omega), if_neg (by omega), if_neg (by omega), if_neg (by omega), if_pos k, bI_app, bI_app, jki_all]
        rfl
      have hsz : (jtx g n (F' + 1) p).size = (kl (jtx g n F') g n true (g p).m.toNat 0 (p + 1)).length + 2 := by rw [← bI_len, ht]; simp
      rw [ht, at_app, at_app] at hat
      have w1 := tw_asc (by decide) hat.1
      have w2 := tw_kl (by omega) hI _ _ _ e _ _ (by omega) hw hat.2.1
      have w3 := tw_asc (by decide) hat.2.2
      rw [hsz, show i + ((kl (jtx g n F') g n true (g p).m.toNat 0 (p + 1)).length + 2) = i + 1 + (kl (jtx g n F') g n true (g p).m.toNat 0 (p + 1)).length + 1 by omega]
      exact (w1.trans w2).trans w3
theorem bl_at {s : ByteArray} : ∀ {L : List Int} {i : Nat}, (∀ c ∈ L, isBl c = true) → AtL s i L → bl s i = bl s (i + L.length)
  | [], i, _, _ => rfl
  | c :: r, i, hc, h => by
    rw [bl_step (by rw [h.2.1]; exact hc c (by simp)), bl_at (fun x hx => hc x (by simp [hx])) h.2.2, show i + 1 + r.length = i + (c :: r).length by simp; omega]
theorem byt_end {s : ByteArray} {i : Nat} (h : s.size ≤ i) : byt s i = 0 := by unfold byt; rw [dif_neg (by omega)]
/-- What is written is read as that value, blanks around it. -/
theorem rt_read {g : Nat → CR} {n : Nat} {b : ByteArray} (hP : Pln g n) (hn : n ≤ 2048) (hw : wk g n 16 0 = some n) (h0 : em (g 0).nm = true) (hb : ∀ c ∈ bI b, isBl c = true) (hsz : (b ++ jtx g n n 0 ++ b).size ≤ 16384) : readM (b ++ jtx g n n 0 ++ b) = .ok (cut g 0 n) := by
  obtain ⟨s, hs⟩ : ∃ s, s = b ++ jtx g n n 0 ++ b := ⟨_, rfl⟩
  obtain ⟨T, hT⟩ : ∃ T, T = jtx g n n 0 := ⟨_, rfl⟩
  rw [← hs] at hsz ⊢
  have hbi : bI s = bI b ++ (bI T ++ bI b) := by rw [hs, ← hT, bI_app, bI_app, List.append_assoc]
  have hall := at_all s
  rw [hbi, at_app, at_app] at hall
  obtain ⟨a1, a2, a3⟩ := hall
  rw [Nat.zero_add, bI_len] at a2 a3
  rw [bI_len] at a3
  have hS : s.size = b.size + T.size + b.size := by rw [← bI_len s, hbi]; simp [bI_len]; omega
  have hfo : Fo (byt s (b.size + T.size)) := by
    cases hbb : bI b with
    | nil =>
      have : b.size = 0 := by rw [← bI_len, hbb]; rfl
      rw [byt_end (by omega)]
      exact ⟨by decide, by decide, by decide, by decide⟩
    | cons c r =>
      rw [hbb] at a3
      rw [a3.2.1]
      have hc := hb c (by rw [hbb]; simp)
      unfold isBl at hc
      simp only [Bool.or_eq_true, decide_eq_true_eq] at hc
      unfold Fo isDg
      simp only [Bool.and_eq_false_iff, decide_eq_false_iff_not]
      omega
  rw [hT] at a2 hfo
  have hv := rt_val hP 16 0 n n b.size [] (Nat.le_refl _) hw (by omega) a2 hfo (by simp; omega)
  have hnm : (g 0).nm = ⟨#[]⟩ := em_eq h0
  rw [hnm, Nat.sub_self, ← hT] at hv
  have hb1 : bl s 0 = b.size := by
    rw [bl_at hb a1, Nat.zero_add, bI_len]
    exact bl_stop (st_bl hv.2).1
  have hb2 : bl s (b.size + T.size) = s.size := by
    rw [bl_at hb a3, bI_len, hS]
    exact bl_stop (by rw [byt_end (by omega)]; decide)
  have hasc : ∀ c ∈ bI b, c < 128 := fun c hc => by
    have := hb c hc
    unfold isBl at this
    simp only [Bool.or_eq_true, decide_eq_true_eq] at this
    omega
  have w1 := tw_asc hasc a1
  have w2 := tw_val hP 16 0 n n b.size (Nat.le_refl _) hw (by omega) a2
  have w3 := tw_asc hasc a3
  rw [Nat.zero_add, bI_len] at w1
  rw [bI_len] at w3
  rw [← hT] at w2
  have htx : isTx s = true := Tw.tx ((w1.trans w2).trans w3) hS.symm s.size (by omega)
  have hck : ckE s = 0 := by unfold ckE; rw [if_neg (by omega), if_pos htx]
  unfold readM
  rw [hck, if_neg (by decide), hb1, hv.1, Rs.bind_ok]
  dsimp only
  rw [hb2, if_neg (by omega)]
  rfl
end Go.Proofs.YtoicmcjpaodgpaaDoor

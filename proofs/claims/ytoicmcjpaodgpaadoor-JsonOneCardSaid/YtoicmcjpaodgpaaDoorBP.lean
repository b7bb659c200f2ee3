/- Layer 4: what is read is plain, the whole of it (plain). -/
import Derived.Test.YtoicmcjpaodgpaaDoorBO
namespace Go.Proofs.YtoicmcjpaodgpaaDoor
open Go.RowKit
theorem cont_end {s : ByteArray} {f kd i0 i1 k : Nat} {obj : Bool} {L M : List CR} {nm : ByteArray} {ns : List ByteArray} (hkd : (kd = 7 ∧ obj = true) ∨ (kd = 6 ∧ obj = false)) (hnm : nm.size ≤ 3000) (h : LS s f obj kd L nm i0 i1 k ns M) : ∃ N, M = L ++ N ∧ SV (f + 1) nm N ∧ wts N + 2 * i0 ≤ 2 * i1 + nw nm + 3 := by
  obtain ⟨C, h1, h2, h3, h4⟩ := h.ex
  have hle := h2.le
  have hlen := h.len
  rw [h1] at hlen
  simp only [List.length_append, List.length_cons, List.length_nil] at hlen
  have hfold := h2.fold 0
  rw [Nat.add_zero, kidsF] at hfold
  refine ⟨⟨kd, nm, ⟨#[]⟩, 0, k⟩ :: C, by rw [h1, List.append_assoc]; rfl, ⟨?_, rfl, Nat.zero_lt_succ _, ?_⟩, ?_⟩
  · have e : gl (⟨kd, nm, ⟨#[]⟩, 0, k⟩ :: C) 0 = ⟨kd, nm, ⟨#[]⟩, 0, k⟩ := rfl
    have ho : oneP ⟨kd, nm, ⟨#[]⟩, 0, k⟩ = true := by
      unfold oneP
      dsimp only
      rw [if_neg (by omega), if_neg (by omega), if_neg (by omega), if_neg (by omega), if_neg (by omega), if_pos (by omega)]
      show (decide ((0 : Int) = 0) && em ⟨#[]⟩ && decide ((0 : Int) ≤ (k : Int))) = true
      rw [decide_eq_true (show (0 : Int) ≤ (k : Int) by omega)]
      rfl
    have hh : headP ⟨kd, nm, ⟨#[]⟩, 0, k⟩ = true := by
      unfold headP
      dsimp only
      rcases hkd with ⟨e1, _⟩ | ⟨e1, _⟩ <;> rw [e1] <;> rfl
    rw [wk_s, e, if_neg (by simp), ho, if_pos rfl, hh, if_pos rfl]
    have hd : decide (kd = 7) = obj := by rcases hkd with ⟨e1, e2⟩ | ⟨e1, e2⟩ <;> rw [e1, e2] <;> rfl
    dsimp only
    rw [hd, Int.toNat_natCast]
    exact hfold
  · intro c hc
    rcases List.mem_cons.1 hc with rfl | hc
    · refine ⟨?_, ?_, hnm, by dsimp only; decide, ⟨by dsimp only; decide, by dsimp only; decide⟩, ⟨by dsimp only; omega, by dsimp only; omega⟩⟩
      · unfold enB
        dsimp only
        rcases hkd with ⟨e1, _⟩ | ⟨e1, _⟩ <;> rw [e1] <;> rfl
      · dsimp only; omega
    · exact h3 c hc
  · rw [wts_cons]
    have ew : wc ⟨kd, nm, ⟨#[]⟩, 0, k⟩ = 2 + nw nm + 1 := by
      unfold wc ow
      dsimp only
      rw [if_neg (by omega), if_neg (by omega), if_neg (by omega)]
    rw [ew]
    omega
theorem leafEnd {s : ByteArray} {f i j : Nat} {L : List CR} {c : CR} (h1 : oneP c = true) (h2 : headP c = false) (h3 : Okc c) (hw : ow c + 1 + 2 * i ≤ 2 * j) (ht : Tw s j s.size) : ∃ N, L ++ [c] = L ++ N ∧ SV f c.nm N ∧ wts N + 2 * i ≤ 2 * j + nw c.nm ∧ Tw s j s.size := by
  refine ⟨[c], rfl, SV.leaf h1 h2 h3, ?_, ht⟩
  rw [wts_cons]
  have e : wts [] = 0 := rfl
  rw [e]
  unfold wc
  omega
theorem ckB_of {t : ByteArray} (h : isTx t = true) (hs : t.size ≤ 3000) : ckB t = true := by
  unfold ckB ckE
  rw [if_neg (by omega), if_pos h]
  rfl
theorem vs_body (s : ByteArray) (hs : s.size ≤ 3000) (f : Nat) (IH : ∀ f', f = f' + 1 → ∀ (op : Nat) (nm : ByteArray) (i : Nat) (L : List CR) (j : Nat) (M : List CR), op + f' = 16 → nm.size ≤ 3000 → Tw s i s.size → i ≤ s.size → L.length ≤ 2048 → valM s (f' + 1) nm op i L = .ok (j, M) → ∃ N, M = L ++ N ∧ SV f' nm N ∧ wts N + 2 * i ≤ 2 * j + nw nm ∧ Tw s j s.size) : ∀ (op : Nat) (nm : ByteArray) (i : Nat) (L : List CR) (j : Nat) (M : List CR), op + f = 16 → nm.size ≤ 3000 → Tw s i s.size → i ≤ s.size → L.length ≤ 2048 → valM s (f + 1) nm op i L = .ok (j, M) → ∃ N, M = L ++ N ∧ SV f nm N ∧ wts N + 2 * i ≤ 2 * j + nw nm ∧ Tw s j s.size := by
  intro op nm i L j M hop hnm hw hi hL e
  obtain ⟨o1, o2, o3, o4, o5⟩ := valM_ok s (f + 1) op nm i L j M hi hL e
  unfold valM at e
  split at e
  · cases e
  split at e
  · cases e
  rename_i h16
  split at e
  · cases e
  rename_i h4
  have hb1 := bl_ge s (i + 1)
  split at e
  · rename_i hb
    have hin : i < s.size := byt_in (by omega)
    obtain ⟨f', rfl⟩ : ∃ f', f = f' + 1 := ⟨f - 1, by omega⟩
    have ih := IH f' rfl
    have hb2 : bl s (i + 1) ≤ s.size := bl_le (by omega)
    obtain ⟨i0', hi0⟩ : ∃ i0', i0' = bl s (i + 1) := ⟨_, rfl⟩
    have hA : Asc s i (bl s (i + 1)) := (Asc.one (by omega)).trans (bl_asc s (i + 1))
    rw [obj_al] at e
    cases ha : alM s (objI s (fun nm' j M => valM s (f' + 1) nm' (op + 1) j M) L.length) 125 (bl s (i + 1)) ([], L ++ [⟨7, nm, ⟨#[]⟩, 0, 0⟩]) with
    | bad m => rw [ha] at e; cases e
    | ok y =>
      rw [ha] at e
      simp only [Rs.bind_ok] at e
      have inv := alM_inv (P := fun i x => ∃ k, LS s f' true 7 L nm i0' i k x.1 x.2) (.inr rfl) (fun i j x ⟨k, h⟩ a hj => ⟨k, h.move a hj⟩) (fun ii x z hii ⟨k, h⟩ ez => by
        unfold objI memM at ez
        cases hst : strM s ii with
        | bad m => rw [hst] at ez; cases ez
        | ok t =>
          obtain ⟨l, k1⟩ := t
          obtain ⟨p1, p2⟩ := strM_pt h.tw hst
          dsimp only at p1 p2
          have p3 := strM_es h.tw hst
          obtain ⟨q1, q2⟩ := strM_ok hst
          rw [hst] at ez
          simp only [Rs.bind_ok] at ez
          split at ez
          · cases ez
          rename_i n1
          split at ez
          · cases ez
          rename_i n2
          cases hc : wordM s [58] (bl s k1) with
          | bad m => rw [hc] at ez; cases ez
          | ok k2 =>
            rw [hc] at ez
            simp only [Rs.bind_ok] at ez
            obtain ⟨w1, rfl⟩ := word1 hc
            have hcin : bl s k1 < s.size := byt_in (by omega)
            have hb3 := bl_ge s k1
            have hb4 := bl_ge s (bl s k1 + 1)
            have hb5 : bl s (bl s k1 + 1) ≤ s.size := bl_le (by omega)
            have tw2 : Tw s (bl s (bl s k1 + 1)) s.size := p2.asc (((bl_asc s k1).trans (Asc.one (by omega))).trans (bl_asc s _)) hb5
            have hmk : (mkB l).size = l.length := mkB_size l
            have hq : (quT (mkB l)).size = (esL l).length + 2 := by rw [← bI_len, quT_bI, bI_mk p1.range]; simp
            have hll := esL_len l
            cases hv : valM s (f' + 1) (mkB l) (op + 1) (bl s (bl s k1 + 1)) x.2 with
            | bad m => rw [hv] at ez; cases ez
            | ok u =>
              obtain ⟨jj, MM⟩ := u
              rw [hv] at ez
              simp only [Rs.bind_ok] at ez
              cases ez
              have hok := valM_ok s (f' + 1) (op + 1) (mkB l) _ _ _ _ hb5 h.len hv
              obtain ⟨N, rfl, sv, wt, tw3⟩ := ih (op + 1) (mkB l) _ x.2 jj _ (by omega) (by omega) tw2 hb5 h.len hv
              have hne : mkB l ≠ ⟨#[]⟩ := fun e0 => n1 (List.eq_nil_of_length_eq_zero (by rw [← hmk, e0]; rfl))
              have hnw : nw (mkB l) = (quT (mkB l)).size + 1 := by unfold nw; rw [if_neg hne]
              have hname : namedP true x.1 (mkB l) = true := by
                unfold namedP
                have e1 : em (mkB l) = false := by
                  cases ee : em (mkB l) with
                  | true => exact absurd (em_eq ee) hne
                  | false => rfl
                have e2 : x.1.any (fun y => decide (y = mkB l)) = false := by
                  cases ee : x.1.any (fun y => decide (y = mkB l)) with
                  | true => exact absurd ee n2
                  | false => rfl
                rw [if_pos rfl, e1, e2, ckB_of p1.tx (by omega)]
                rfl
              have hadd := h.add (j := jj) sv hname (by omega) hok.2.2.2.1 tw3
              exact ⟨⟨k + 1, hadd⟩, hok.2.1, by omega⟩) hb2 ⟨0, ⟨[], by simp, Kd.nil, (by intro c hc; cases hc), by show 0 + _ ≤ _; omega⟩, by simp; omega, hw.asc hA hb2⟩ ha
      obtain ⟨i1, ⟨k, hls⟩, e1, e2, e3⟩ := inv
      obtain ⟨N, c1, c2, c3⟩ := cont_end (.inl ⟨rfl, rfl⟩) hnm hls
      cases e
      have hi1 : i1 < s.size := byt_in (by omega)
      exact ⟨N, c1, c2, by omega, by rw [e1]; exact hls.tw.asc (Asc.one (by omega)) (by omega)⟩
  split at e
  · rename_i hb0 hb
    have hin : i < s.size := byt_in (by omega)
    obtain ⟨f', rfl⟩ : ∃ f', f = f' + 1 := ⟨f - 1, by omega⟩
    have ih := IH f' rfl
    have hb2 : bl s (i + 1) ≤ s.size := bl_le (by omega)
    obtain ⟨i0', hi0⟩ : ∃ i0', i0' = bl s (i + 1) := ⟨_, rfl⟩
    have hA : Asc s i (bl s (i + 1)) := (Asc.one (by omega)).trans (bl_asc s (i + 1))
    rw [lst_al] at e
    have inv := alM_inv (P := fun i x => ∃ k, LS s f' false 6 L nm i0' i k [] x) (.inl rfl) (fun i j x ⟨k, h⟩ a hj => ⟨k, h.move a hj⟩) (fun ii x z hii ⟨k, h⟩ ez => by
      unfold litI at ez
      dsimp only at ez
      cases hv : valM s (f' + 1) ⟨#[]⟩ (op + 1) ii x with
      | bad m => rw [hv] at ez; cases ez
      | ok u =>
        obtain ⟨jj, MM⟩ := u
        rw [hv] at ez
        simp only [Rs.bind_ok] at ez
        cases ez
        have hok := valM_ok s (f' + 1) (op + 1) ⟨#[]⟩ _ _ _ _ hii h.len hv
        obtain ⟨N, rfl, sv, wt, tw3⟩ := ih (op + 1) ⟨#[]⟩ _ x jj _ (by omega) (by decide) h.tw hii h.len hv
        have hnw : nw ⟨#[]⟩ = 0 := rfl
        have hadd := h.add (j := jj) sv rfl (by omega) hok.2.2.2.1 tw3
        exact ⟨⟨k + 1, hadd⟩, hok.2.1, by show ii ≤ jj; omega⟩) hb2 ⟨0, ⟨[], by simp, Kd.nil, (by intro c hc; cases hc), by show 0 + _ ≤ _; omega⟩, by simp; omega, hw.asc hA hb2⟩ e
    obtain ⟨i1, ⟨k, hls⟩, e1, e2, e3⟩ := inv
    obtain ⟨N, c1, c2, c3⟩ := cont_end (.inr ⟨rfl, rfl⟩) hnm hls
    have hi1 : i1 < s.size := byt_in (by omega)
    dsimp only at e1 c1
    exact ⟨N, c1, c2, by omega, by rw [e1]; exact hls.tw.asc (Asc.one (by omega)) (by omega)⟩
  split at e
  · cases hst : strM s i with
    | bad m => rw [hst] at e; cases e
    | ok t =>
      obtain ⟨l, k1⟩ := t
      rw [hst] at e
      simp only [Rs.bind_ok] at e
      cases e
      obtain ⟨p1, p2⟩ := strM_pt hw hst
      dsimp only at p1 p2
      have p4 := (strM_ok hst).2
      have p3 := strM_es hw hst
      have hmk : (mkB l).size = l.length := mkB_size l
      have hq : (quT (mkB l)).size = (esL l).length + 2 := by rw [← bI_len, quT_bI, bI_mk p1.range]; simp
      have hll := esL_len l
      exact leafEnd (c := ⟨3, nm, mkB l, 0, 0⟩) (by unfold oneP; dsimp only; rw [if_neg (by decide), if_neg (by decide), if_neg (by decide), if_pos rfl, ckB_of p1.tx (by omega)]; rfl) rfl ⟨rfl, by dsimp only; decide, hnm, by dsimp only; omega, ⟨by dsimp only; decide, by dsimp only; decide⟩, ⟨by dsimp only; decide, by dsimp only; decide⟩⟩ (by show (quT (mkB l)).size + 1 + 2 * i ≤ _; omega) p2
  split at e
  · cases hst : wordM s [116, 114, 117, 101] i with
    | bad m => rw [hst] at e; cases e
    | ok t =>
      rw [hst] at e
      simp only [Rs.bind_ok] at e
      cases e
      have h5 := wordM_ok _ _ _ (by decide) hi hst
      simp at h5
      exact leafEnd (c := ⟨1, nm, ⟨#[]⟩, 1, 0⟩) rfl rfl ⟨rfl, by dsimp only; decide, hnm, by dsimp only; decide, ⟨by dsimp only; decide, by dsimp only; decide⟩, ⟨by dsimp only; decide, by dsimp only; decide⟩⟩ (by show 5 + 1 + 2 * i ≤ _; omega) (hw.asc (word_asc (by decide) hst) (by omega))
  split at e
  · cases hst : wordM s [102, 97, 108, 115, 101] i with
    | bad m => rw [hst] at e; cases e
    | ok t =>
      rw [hst] at e
      simp only [Rs.bind_ok] at e
      cases e
      have h5 := wordM_ok _ _ _ (by decide) hi hst
      simp at h5
      exact leafEnd (c := ⟨1, nm, ⟨#[]⟩, 0, 0⟩) rfl rfl ⟨rfl, by dsimp only; decide, hnm, by dsimp only; decide, ⟨by dsimp only; decide, by dsimp only; decide⟩, ⟨by dsimp only; decide, by dsimp only; decide⟩⟩ (by show 5 + 1 + 2 * i ≤ _; omega) (hw.asc (word_asc (by decide) hst) (by omega))
  split at e
  · cases hst : wordM s [110, 117, 108, 108] i with
    | bad m => rw [hst] at e; cases e
    | ok t =>
      rw [hst] at e
      simp only [Rs.bind_ok] at e
      cases e
      have h5 := wordM_ok _ _ _ (by decide) hi hst
      simp at h5
      exact leafEnd (c := ⟨0, nm, ⟨#[]⟩, 0, 0⟩) rfl rfl ⟨rfl, by dsimp only; decide, hnm, by dsimp only; decide, ⟨by dsimp only; decide, by dsimp only; decide⟩, ⟨by dsimp only; decide, by dsimp only; decide⟩⟩ (by show 5 + 1 + 2 * i ≤ _; omega) (hw.asc (word_asc (by decide) hst) (by omega))
  · cases hst : numM s i with
    | bad m => rw [hst] at e; cases e
    | ok t =>
      obtain ⟨n, d⟩ := t
      rw [hst] at e
      simp only [Rs.bind_ok] at e
      cases e
      obtain ⟨n1, n2⟩ := num_es hi hst
      have n3 := numM_ok hi hst
      exact leafEnd (c := ⟨2, nm, ⟨#[]⟩, n, 0⟩) rfl rfl ⟨rfl, by dsimp only; decide, hnm, by dsimp only; decide, n2, ⟨by dsimp only; decide, by dsimp only; decide⟩⟩ (by show (itT n).size + 1 + 2 * i ≤ _; omega) (hw.asc (num_asc hst) n3.2)
theorem vs_all {s : ByteArray} (hs : s.size ≤ 3000) : ∀ (f op : Nat) (nm : ByteArray) (i : Nat) (L : List CR) (j : Nat) (M : List CR), op + f = 16 → nm.size ≤ 3000 → Tw s i s.size → i ≤ s.size → L.length ≤ 2048 → valM s (f + 1) nm op i L = .ok (j, M) → ∃ N, M = L ++ N ∧ SV f nm N ∧ wts N + 2 * i ≤ 2 * j + nw nm ∧ Tw s j s.size := by
  intro f
  induction f with
  | zero =>
    intro op nm i L j M hop hnm hw hi hL e
    exact vs_body s hs 0 (fun f' hf => by omega) op nm i L j M hop hnm hw hi hL e
  | succ f ih =>
    intro op nm i L j M hop hnm hw hi hL e
    exact vs_body s hs (f + 1) (fun f' hf => by obtain rfl : f' = f := by omega
                                                exact ih) op nm i L j M hop hnm hw hi hL e
end Go.Proofs.YtoicmcjpaodgpaaDoor

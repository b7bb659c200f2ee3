/- Layer 3: the document's put, Items, Members. -/
import Derived.Test.YtfmgkndljppffaaRC
namespace Go.Proofs.Ytfmgkndljppffaa
open Go.RowKit Go.Maps
theorem pre_le (k ln : Nat) (s : Nat → ByteArray) (len : Nat → Nat) (G : Nat → Nat → CR) : ∀ i, (∀ j, j < i → len j ≤ 2048) → (preL k ln s len G i).length ≤ 1 + 2048 * i
  | 0, _ => Nat.le_refl _
  | i + 1, h => by
    have := pre_le k ln s len G i (fun j hj => h j (by omega))
    have h2 := h i (by omega)
    rw [pre_succ, List.length_append, ls_len]
    omega
theorem pre_sm (k ln : Nat) (hk : k = 6 ∨ k = 7) (s : Nat → ByteArray) (len : Nat → Nat) (G : Nat → Nat → CR) (hl : ln ≤ 2048) (hs : ∀ i, i < ln → Sm (len i) (G i)) (hlen : ∀ i, i < ln → len i ≤ 2048) (hsz : k = 7 → ∀ i, i < ln → (s i).size ≤ 2000000) : Sm (preL k ln s len G ln).length (gl (preL k ln s len G ln)) := by
  refine ⟨pre_cw k ln hk s len G hl (fun i hi => (hs i hi).cw) (fun h i hi => by have := hsz h i hi; unfold maxLen; omega), fun i hi => ?_, by have := pre_le k ln s len G ln hlen; unfold maxLen; omega⟩
  have key : ∀ c, c ∈ preL k ln s len G ln → c.nm.size ≤ 2000000 := fun c hc => by
    unfold preL at hc
    rcases List.mem_cons.1 hc with rfl | hc
    · show (0 : Nat) ≤ 2000000; omega
    · obtain ⟨l, hl1, hl2⟩ := List.mem_flatten.1 hc
      obtain ⟨j, hj, rfl⟩ := List.mem_map.1 hl1
      have hj' := List.mem_range.1 hj
      have kk : ∀ c, c ∈ cut (G j) 0 (len j) → c.nm.size ≤ 2000000 := fun c hc => by
        unfold cut at hc
        obtain ⟨t, ht, rfl⟩ := List.mem_map.1 hc
        have ht' := List.mem_range.1 ht
        exact (hs j (by omega)).nz (0 + t) (by omega)
      unfold lsF at hl2
      split at hl2
      · rename_i h7
        cases hcl : cut (G j) 0 (len j) with
        | nil => rw [hcl] at hl2; simp [ren] at hl2
        | cons x r =>
          rw [hcl] at hl2 kk
          rcases List.mem_cons.1 hl2 with rfl | hl2
          · exact hsz h7 j (by omega)
          · exact kk c (by simp [hl2])
      · exact kk c hl2
  have e : gl (preL k ln s len G ln) i = (preL k ln s len G ln)[i] := by
    unfold gl
    rw [List.getD_eq_getElem?_getD, List.getElem?_eq_getElem hi]; rfl
  rw [e]
  exact key _ (List.getElem_mem hi)
set_option maxRecDepth 20000 in
theorem rput_many (kv : Int) (na la : Option Addr) (nn nc ln lc : Nat) (k : Nat) (s : Nat → ByteArray) (len : Nat → Nat) (G : Nat → Nat → CR) (w : World) (hl : 2048 < ln) (hlm : ln ≤ maxLen) : Calls Try.prog 48 #[.int .u8 kv, .slice na nn nc, .slice la ln lc] w (GP w (gE k ln s len G) (preL k ln s len G ln)) := by
  have HE := Lib.hid (show gE k ln s len G = 4 by unfold gE; rw [if_pos hl])
  obtain ⟨z, hz⟩ : ∃ z, z = gE k ln s len G := ⟨_, rfl⟩
  rw [← hz] at HE ⊢
  unfold maxLen at hlm
  have h1 : (2048 : Int) < (ln : Int) := by omega
  clear hl hz
  go_enter Try.func48, Try.ntmps48
  go_wp2_with fail
  go_ret2
  exact GP.bad HE.out (by decide) (Below.refl _ _)
set_option maxRecDepth 20000 in
set_option maxHeartbeats 4000000 in
theorem rput_any (k : Nat) (kv : Int) (hkv : kv = k) (hk : k = 6 ∨ k = 7) (na la : Option Addr) (nn nc ln lc : Nat) (s : Nat → ByteArray) (ad : Nat → Option Addr) (len cp : Nat → Nat) (G : Nat → Nat → CR) (w : World) (hl : ln ≤ 2048) (hin : LIn w la ln ad len cp G) (hs : ∀ i, i < ln → Sm (len i) (G i)) (hnv : k = 7 → NV w na ln s) (hnn : k = 7 → nn = ln) (hsz : k = 7 → ∀ i, i < ln → (s i).size ≤ 2000000) :
    Calls Try.prog 48 #[.int .u8 kv, .slice na nn nc, .slice la ln lc] w (GP w (gE k ln s len G) (preL k ln s len G ln)) := by
  have HE : Hid (gE k ln s len G = if (List.range ln).all (fun i => ckC (G i) (len i)) then eC (ckL (preL k ln s len G ln)) else 8) := Lib.hid (by unfold gE; rw [if_neg (by omega)])
  obtain ⟨z, hz⟩ : ∃ z, z = gE k ln s len G := ⟨_, rfl⟩
  rw [← hz] at HE ⊢
  have HIN := Lib.hid hin
  have HM := Lib.hid (fun i (hi : i < ln) W (hV : CV W (ad i) (len i) (G i)) => rmay_any (ad i) (len i) (cp i) (G i) W hV (hs i hi).cw (hs i hi).nz (hs i hi).le)
  have HPUT : Hid ((∀ i, i < ln → ckC (G i) (len i) = true) → ∀ W, LIn W la ln ad len cp G → Below w.heap.size w W → Calls Try.prog 62 #[.int .u8 kv, .slice na nn nc, .slice la ln lc] W (PPost W (preL k ln s len G ln))) := Lib.hid (fun hck W hI hB => by
    subst hkv
    exact rPut_any k hk na la nn nc ln lc s ad len cp G W hl hI (fun i hi => ⟨(ckC_parts (hck i hi)).1, (ckC_parts (hck i hi)).2.1⟩) (fun h => (hnv h).below hB) hnn)
  have HMO : Hid ((∀ i, i < ln → ckC (G i) (len i) = true) → ∀ a c W, CV W a (preL k ln s len G ln).length (gl (preL k ln s len G ln)) → Calls Try.prog 46 #[.slice a (preL k ln s len G ln).length c] W fun e w' => e = .returned (.bool (ckL (preL k ln s len G ln))) ∧ Below W.heap.size W w') := Lib.hid (fun hck a c W hV => by
    have S := pre_sm k ln hk s len G hl hs (fun i hi => (ckC_parts (hck i hi)).2.1) hsz
    exact rmay_any a _ c _ W hV S.cw S.nz S.le)
  obtain ⟨PL, hPL⟩ : ∃ x, x = preL k ln s len G ln := ⟨_, rfl⟩
  rw [← hPL] at HE HPUT HMO ⊢
  have HPOS : Hid (0 < PL.length) := Lib.hid (by rw [hPL]; exact pre_pos _ _ _ _ _)
  have h1 : ¬ (2048 : Int) < (ln : Int) := by omega
  clear hz hin hs hnv hsz hPL hkv
  go_enter Try.func48, Try.ntmps48
  go_wp2_with fail
  go_loopw [8] (fun v8 wr => ∃ i : Nat, i ≤ ln ∧ v8 = .int .i64 i ∧ Hid (Below w.heap.size w wr) ∧ Hid (∀ j, j < i → ckC (G j) (len j) = true)) (fun v8 _ => ln - (intOf v8).toNat)
  case atStart => exact ⟨0, Nat.zero_le _, rfl, Lib.hid (Below.refl _ _), Lib.hid (fun j hj => by omega)⟩
  case round =>
    obtain ⟨i, hi1, rfl, HB, HK⟩ := hrel
    by_cases hlt : i < ln
    · obtain ⟨b, off, rfl, hbl, cl⟩ := (HIN.out.below HB.out).at_ i hlt
      have hg0 : (0 : Int) ≤ i := by omega
      have hg1 : (i : Int) < ln := by omega
      have HM1 := Lib.hid (HM.out i hlt wr ((HIN.out.below HB.out).cv i hlt))
      cases hck : ckC (G i) (len i) with
      | false =>
        rw [hck] at HM1
        have HZ : Hid (z = 8) := Lib.hid (by
          rw [HE.out, if_neg]
          intro h
          have := List.all_eq_true.1 h i (List.mem_range.2 hlt)
          rw [hck] at this; cases this)
        clear hck HK hbl
        go_wp2_with fail
        with_reducible refine HM1.out.mono ?_
        rintro e w1 ⟨rfl, b1⟩
        have B1 := Lib.hid (HB.out.trans (b1.mono HB.out.size))
        clear b1
        go_wp2_with fail
        go_ret2
        exact GP.bad HZ.out (by decide) B1.out
      | true =>
        rw [hck] at HM1
        have HK2 : Hid (∀ j, j < i + 1 → ckC (G j) (len j) = true) := Lib.hid (fun j hj => by
          by_cases e : j = i
          · subst e; exact hck
          · exact HK.out j (by omega))
        clear hck HK hbl
        go_wp2_with fail
        with_reducible refine HM1.out.mono ?_
        rintro e w1 ⟨rfl, b1⟩
        have B1 := Lib.hid (HB.out.trans (b1.mono HB.out.size))
        clear b1
        go_wp2_with fail
        go_roundw
        case rel => exact ⟨i + 1, by omega, by go_num, B1, HK2⟩
        case measure => simp [intOf]; omega
    · have e1 : i = ln := by omega
      subst e1
      have hge : ¬ (i : Int) < i := by omega
      have HZ : Hid (z = eC (ckL PL)) := Lib.hid (by
        rw [HE.out, if_pos]
        rw [List.all_eq_true]
        intro j hj
        exact HK.out j (List.mem_range.1 hj))
      have HP1 := Lib.hid (HPUT.out HK.out wr (HIN.out.below HB.out) HB.out)
      unfold PPost at HP1
      have HM1 := Lib.hid (HMO.out HK.out)
      clear HE HPUT HMO HM HK
      go_wp2_with fail
      with_reducible refine HP1.out.mono ?_
      rintro e w1 ⟨v, rfl, o1, b1⟩
      have B1 := Lib.hid (HB.out.trans (b1.mono HB.out.size))
      have O1 := Lib.hid (own_base o1 HB.out.size)
      obtain ⟨q, c, rfl, _, hcv, _, _⟩ := own_cvc rfl o1 HPOS.out
      have HM2 := Lib.hid (HM1.out _ c w1 hcv)
      clear b1 o1 hcv HM1 HP1
      cases hck : ckL PL with
      | false =>
        rw [hck] at HM2 HZ
        clear hck
        go_wp2_with fail
        with_reducible refine HM2.out.mono ?_
        rintro e w2 ⟨rfl, b2⟩
        have B2 := Lib.hid (B1.out.trans (b2.mono B1.out.size))
        clear b2
        go_wp2_with fail
        go_ret2
        exact GP.bad HZ.out (by decide) B2.out
      | true =>
        rw [hck] at HM2 HZ
        clear hck
        go_wp2_with fail
        with_reducible refine HM2.out.mono ?_
        rintro e w2 ⟨rfl, b2⟩
        have B2 := Lib.hid (B1.out.trans (b2.mono B1.out.size))
        have O2 := Lib.hid (own_below O1.out b2)
        clear b2
        go_wp2_with fail
        go_ret2
        exact GP.ok HZ.out O2.out B2.out
set_option maxRecDepth 20000 in
theorem ritems_any (la : Option Addr) (ln lc : Nat) (s : Nat → ByteArray) (ad : Nat → Option Addr) (len cp : Nat → Nat) (G : Nat → Nat → CR) (w : World) (hlm : ln ≤ maxLen) (hin : LIn w la ln ad len cp G) (hs : ∀ i, i < ln → Sm (len i) (G i)) :
    Calls Try.prog 29 #[.slice la ln lc] w (GP w (gE 6 ln s len G) (preL 6 ln s len G ln)) := by
  have HG : Hid (Calls Try.prog 48 #[.int .u8 6, .slice none 0 0, .slice la ln lc] w (GP w (gE 6 ln s len G) (preL 6 ln s len G ln))) := Lib.hid (by
    by_cases hl : ln ≤ 2048
    · exact rput_any 6 6 rfl (.inl rfl) none la 0 0 ln lc s ad len cp G w hl hin hs (fun h => by cases h) (fun h => by cases h) (fun h => by cases h)
    · exact rput_many 6 none la 0 0 ln lc 6 s len G w (by omega) hlm)
  obtain ⟨z, hz⟩ : ∃ z, z = gE 6 ln s len G := ⟨_, rfl⟩
  obtain ⟨PL, hPL⟩ : ∃ x, x = preL 6 ln s len G ln := ⟨_, rfl⟩
  rw [← hz, ← hPL] at HG ⊢
  clear hz hPL hin hs
  go_enter Try.func29, Try.ntmps29
  go_wp2_with fail
  with_reducible refine HG.out.mono ?_
  rintro e w1 ⟨v, rfl, h1, h2, h3⟩
  have H := Lib.hid (show GP w z PL (.returned (.tuple #[v, .int .i64 z])) w1 from ⟨v, rfl, h1, h2, h3⟩)
  clear h1 h2 h3 HG
  go_wp2_with fail
  go_ret2
  exact H.out
set_option maxRecDepth 20000 in
theorem rmembers_any (na la : Option Addr) (nn nc ln lc : Nat) (s : Nat → ByteArray) (ad : Nat → Option Addr) (len cp : Nat → Nat) (G : Nat → Nat → CR) (w : World) (hlm : ln ≤ maxLen) (hnm : nn ≤ maxLen) (hin : LIn w la ln ad len cp G) (hs : ∀ i, i < ln → Sm (len i) (G i)) (hnv : NV w na nn s) (hsz : ∀ i, i < nn → (s i).size ≤ 2000000) :
    Calls Try.prog 31 #[.slice na nn nc, .slice la ln lc] w (GP w (mE nn ln s len G) (preL 7 ln s len G ln)) := by
  unfold maxLen at hlm hnm
  by_cases he : nn = ln
  · subst he
    have HG : Hid (Calls Try.prog 48 #[.int .u8 7, .slice na nn nc, .slice la nn lc] w (GP w (gE 7 nn s len G) (preL 7 nn s len G nn))) := Lib.hid (by
      by_cases hl : nn ≤ 2048
      · exact rput_any 7 7 rfl (.inr rfl) na la nn nc nn lc s ad len cp G w hl hin hs (fun _ => hnv) (fun _ => rfl) (fun _ => hsz)
      · exact rput_many 7 na la nn nc nn lc 7 s len G w (by omega) (by unfold maxLen; omega))
    have hmE : mE nn nn s len G = gE 7 nn s len G := by unfold mE; rw [if_pos rfl]
    rw [hmE]
    obtain ⟨z, hz⟩ : ∃ z, z = gE 7 nn s len G := ⟨_, rfl⟩
    obtain ⟨PL, hPL⟩ : ∃ x, x = preL 7 nn s len G nn := ⟨_, rfl⟩
    rw [← hz, ← hPL] at HG ⊢
    have hne : ((nn : Int) != nn) = false := by simp
    clear hz hPL hin hs hnv hsz hmE
    go_enter Try.func31, Try.ntmps31
    go_wp2_with fail
    with_reducible refine HG.out.mono ?_
    rintro e w1 ⟨v, rfl, h1, h2, h3⟩
    have H := Lib.hid (show GP w z PL (.returned (.tuple #[v, .int .i64 z])) w1 from ⟨v, rfl, h1, h2, h3⟩)
    clear h1 h2 h3 HG
    go_wp2_with fail
    go_ret2
    exact H.out
  · have HE := Lib.hid (show mE nn ln s len G = 2 by unfold mE; rw [if_neg he])
    obtain ⟨z, hz⟩ : ∃ z, z = mE nn ln s len G := ⟨_, rfl⟩
    rw [← hz] at HE ⊢
    have hne : ((nn : Int) != ln) = true := by simp; omega
    clear hz hin hs hnv hsz he
    go_enter Try.func31, Try.ntmps31
    go_wp2_with fail
    go_ret2
    exact GP.bad HE.out (by decide) (Below.refl _ _)
end Go.Proofs.Ytfmgkndljppffaa

import Derived.Test.YtmkkckhfdafjnaaGreatDoorK11
/- Layer 17, plain: what stands behind a line's end counts for nothing for what stands ahead. -/
namespace Go.Proofs.YtmkkckhfdafjnaaGreatDoor
open Go.RowKit Go.Maps
/-- A text begins another; there its line ends. -/
structure Beg (a S : ByteArray) : Prop where
  lt : a.size < S.size
  same : ∀ j, j < a.size → byt S j = byt a j
  nl : byt S a.size = 10
  cut : ∀ i j, j ≤ a.size → S.extract i j = a.extract i j
theorem beg_of (a b : ByteArray) : Beg a (a ++ ⟨#[10]⟩ ++ b) := by
  have e1 : (a ++ ⟨#[10]⟩ ++ b).size = a.size + 1 + b.size := by
    rw [ByteArray.size_append, ByteArray.size_append]
    rfl
  have hb : bI (a ++ ⟨#[10]⟩ ++ b) = bI a ++ ([10] ++ bI b) := by
    rw [bI_app, bI_app, List.append_assoc]
    rfl
  have hin : ∀ j, j < a.size + 1 → byt (a ++ ⟨#[10]⟩ ++ b) j = (bI a ++ ([10] ++ bI b)).getD j 0 := fun j hj => by
    have h := bI_at (a ++ ⟨#[10]⟩ ++ b) j (by omega)
    rw [hb] at h
    rw [List.getD_eq_getElem?_getD, h]
    rfl
  refine ⟨by omega, fun j hj => ?_, ?_, fun i j hj => bI_inj ?_⟩
  · rw [hin j (by omega), List.getD_eq_getElem?_getD, List.getElem?_append_left (by rw [bI_len]; exact hj), bI_at a j hj]
    rfl
  · rw [hin _ (by omega), List.getD_eq_getElem?_getD, List.getElem?_append_right (by rw [bI_len]; exact Nat.le_refl _), bI_len, Nat.sub_self]
    rfl
  · rw [bI_extract, bI_extract, hb, List.take_append_of_le_length (by rw [bI_len]; exact hj)]
theorem Beg.wdE {a S : ByteArray} (h : Beg a S) : ∀ (n j : Nat), a.size - j ≤ n → j ≤ a.size → wd S j = wd a j := by
  intro n
  induction n with
  | zero =>
    intro j hn hj
    obtain rfl : j = a.size := by omega
    rw [wd_stop (s := a) (by rw [byt_end (Nat.le_refl _)]; rfl), wd_stop (s := S) (by rw [h.nl]; rfl)]
  | succ n ih =>
    intro j hn hj
    by_cases hjl : j < a.size
    · cases hw : wcI (byt a j) with
      | true => rw [wd_step (s := a) hw, wd_step (s := S) (by rw [h.same j hjl]; exact hw), ih (j + 1) (by omega) (by omega)]
      | false => rw [wd_stop (s := a) hw, wd_stop (s := S) (by rw [h.same j hjl]; exact hw)]
    · obtain rfl : j = a.size := by omega
      rw [wd_stop (s := a) (by rw [byt_end (Nat.le_refl _)]; rfl), wd_stop (s := S) (by rw [h.nl]; rfl)]
theorem Beg.dgE {a S : ByteArray} (h : Beg a S) : ∀ (n j : Nat), a.size - j ≤ n → j ≤ a.size → dg S j = dg a j := by
  intro n
  induction n with
  | zero =>
    intro j hn hj
    obtain rfl : j = a.size := by omega
    rw [dg_stop (s := a) (by rw [byt_end (Nat.le_refl _)]; rfl), dg_stop (s := S) (by rw [h.nl]; rfl)]
  | succ n ih =>
    intro j hn hj
    by_cases hjl : j < a.size
    · cases hw : isDg (byt a j) with
      | true => rw [dg_step (s := a) hw, dg_step (s := S) (by rw [h.same j hjl]; exact hw), ih (j + 1) (by omega) (by omega)]
      | false => rw [dg_stop (s := a) hw, dg_stop (s := S) (by rw [h.same j hjl]; exact hw)]
    · obtain rfl : j = a.size := by omega
      rw [dg_stop (s := a) (by rw [byt_end (Nat.le_refl _)]; rfl), dg_stop (s := S) (by rw [h.nl]; rfl)]
/-- A byte that is neither none nor a line's end stands in both alike. -/
theorem Beg.iff {a S : ByteArray} (h : Beg a S) {j : Nat} (hj : j ≤ a.size) (p : Int → Prop) (p0 : ¬ p 0) (p1 : ¬ p 10) : p (byt S j) ↔ p (byt a j) := by
  by_cases hjl : j < a.size
  · rw [h.same j hjl]
  · obtain rfl : j = a.size := by omega
    rw [h.nl, byt_end (Nat.le_refl _)]
    exact ⟨fun k => absurd k p1, fun k => absurd k p0⟩
theorem Beg.quFE {a S : ByteArray} (h : Beg a S) : ∀ (f f' j : Nat), j ≤ a.size → a.size - j + 1 ≤ f → S.size - j + 1 ≤ f' → quF S f' j = quF a f j := by
  intro f
  induction f with
  | zero => intro f' j hj hf; omega
  | succ f ih =>
    intro f' j hj hf hf'
    have hl := h.lt
    rw [quF_step (f := f + 1) (by omega), quF_step (f := f') (by omega)]
    by_cases hjl : j < a.size
    · rw [h.same j hjl, if_neg (show ¬ S.size ≤ j by omega), if_neg (show ¬ a.size ≤ j by omega)]
      by_cases c1 : byt a j = 34
      · rw [if_pos c1, if_pos c1]
      rw [if_neg c1, if_neg c1]
      by_cases c2 : byt a j = 92 ∧ 32 ≤ byt a (j + 1)
      · have hj1 : j + 1 < a.size := byt_in (by omega)
        rw [if_pos c2, if_pos ⟨c2.1, by rw [h.same _ hj1]; exact c2.2⟩]
        exact ih _ _ (by omega) (by omega) (by omega)
      rw [if_neg c2, if_neg (fun k => c2 ⟨k.1, (h.iff (j := j + 1) (by omega) (fun c => 32 ≤ c) (by decide) (by decide)).1 k.2⟩)]
      by_cases c3 : byt a j = 92 ∨ (byt a j < 32 ∧ byt a j ≠ 9)
      · rw [if_pos c3, if_pos c3]
      · rw [if_neg c3, if_neg c3]
        exact ih _ _ (by omega) (by omega) (by omega)
    · obtain rfl : j = a.size := by omega
      rw [h.nl, if_neg (by omega), if_neg (by decide), if_neg (fun k => absurd k.1 (by decide)), if_pos (.inr (by decide)), if_pos (Nat.le_refl _)]
theorem Beg.quME {a S : ByteArray} (h : Beg a S) {i : Nat} (hi : i < a.size) : quM S i = quM a i := by
  have hl := h.lt
  unfold Go.Proofs.YtmkkckhfdafjnaaGreatDoor.quM
  exact h.quFE _ _ _ (by omega) (by omega) (by omega)
theorem Beg.tok {a S : ByteArray} (h : Beg a S) {i : Nat} (hi : i < a.size) : tokM S i = tokM a i := by
  have e1 : namR S i = namR a i := by
    unfold namR
    have w := wd_range (s := a) _ (i + 1) (Nat.le_refl _) (by omega)
    rw [h.same i hi, h.wdE _ (i + 1) (Nat.le_refl _) (by omega), h.cut _ _ w.2]
  have e2 : intR S i = intR a i := by
    unfold intR
    have w := dg_le (s := a) (i := i + 1) (by omega)
    have q1 : (byt S (dg a (i + 1)) = 46 ∨ ltI (byt S (dg a (i + 1))) = true) ↔ (byt a (dg a (i + 1)) = 46 ∨ ltI (byt a (dg a (i + 1))) = true) := h.iff w (fun c => c = 46 ∨ ltI c = true) (by decide) (by decide)
    rw [h.same i hi, h.dgE _ (i + 1) (Nat.le_refl _) (by omega), h.cut _ _ w]
    by_cases c0 : byt a i = 45 ∨ isDg (byt a i) = true
    · rw [if_pos c0, if_pos c0]
      by_cases c1 : byt a (dg a (i + 1)) = 46 ∨ ltI (byt a (dg a (i + 1))) = true ∨ intB (a.extract i (dg a (i + 1))) = false
      · rw [if_pos c1, if_pos (by
          rcases c1 with k | k | k
          · exact (q1.2 (.inl k)).elim .inl (fun k => .inr (.inl k))
          · exact (q1.2 (.inr k)).elim .inl (fun k => .inr (.inl k))
          · exact .inr (.inr k))]
      · rw [if_neg c1, if_neg (by
          intro k
          apply c1
          rcases k with k | k | k
          · exact (q1.1 (.inl k)).elim .inl (fun k => .inr (.inl k))
          · exact (q1.1 (.inr k)).elim .inl (fun k => .inr (.inl k))
          · exact .inr (.inr k))]
    · rw [if_neg c0, if_neg c0]
  have e3 : txtR S i = txtR a i := by
    unfold txtR
    rw [h.same i hi, h.quME hi]
    by_cases c0 : byt a i = 34
    · rw [if_pos c0, if_pos c0]
      cases hq : quM a i with
      | none => rfl
      | some n =>
        have w := quM_ok hq
        have q := h.iff w.2 (fun c => c = 34) (by decide) (by decide)
        unfold txt1
        dsimp only
        rw [h.cut _ _ w.2]
        cases readM (tabT (a.extract i n)) with
        | bad m => rfl
        | ok M =>
          unfold txt2
          dsimp only
          by_cases c1 : (gl M 0).tx = ⟨#[]⟩ ∧ byt a n = 34
          · rw [if_pos c1, if_pos ⟨c1.1, q.2 c1.2⟩]
          · rw [if_neg c1, if_neg (fun k => c1 ⟨k.1, q.1 k.2⟩)]
    · rw [if_neg c0, if_neg c0]
  have e4 : mrkR S i = mrkR a i := by
    unfold mrkR
    rw [h.same i hi, h.cut _ _ (show i + 1 ≤ a.size by omega)]
    by_cases c0 : byt a i = 46 ∧ byt a (i + 1) = 46 ∧ byt a (i + 2) = 46
    · have h1 : i + 2 < a.size := byt_in (by omega)
      rw [if_pos c0, if_pos ⟨c0.1, by rw [h.same _ (by omega)]; exact c0.2.1, by rw [h.same _ h1]; exact c0.2.2⟩]
    · rw [if_neg c0, if_neg (fun k => c0 ?_)]
      have k1 := (h.iff (j := i + 1) (by omega) (fun c => c = 46) (by decide) (by decide)).1 k.2.1
      have h1 : i + 1 < a.size := byt_in (by omega)
      exact ⟨k.1, k1, (h.iff (j := i + 2) (by omega) (fun c => c = 46) (by decide) (by decide)).1 k.2.2⟩
  unfold tokM
  rw [e1, e2, e3, e4]
theorem Beg.bkFE {a S : ByteArray} (h : Beg a S) : ∀ (f f' j : Nat) (ins : Bool), j ≤ a.size → a.size - j + 1 ≤ f → S.size - j + 1 ≤ f' → (bkF a f j ins).1 < a.size → bkF S f' j ins = bkF a f j ins := by
  intro f
  induction f with
  | zero => intro f' j ins hj hf; omega
  | succ f ih =>
    intro f' j ins hj hf hf' hlt
    have hl := h.lt
    rw [bkF_step (f := f + 1) (by omega)] at hlt
    rw [bkF_step (f := f + 1) (by omega), bkF_step (f := f') (by omega)]
    by_cases hjl : j < a.size
    · rw [if_neg (by omega)] at hlt
      rw [h.same j hjl, if_neg (show ¬ S.size ≤ j by omega), if_neg (show ¬ a.size ≤ j by omega)]
      by_cases c1 : byt a j = 10 ∨ byt a j = 13
      · rw [if_pos c1] at hlt
        rw [if_pos c1, if_pos c1]
        exact ih _ _ _ (by omega) (by omega) (by omega) hlt
      rw [if_neg c1] at hlt
      rw [if_neg c1, if_neg c1]
      by_cases c2 : ins = true ∧ byt a j < 32 ∧ byt a j ≠ 9
      · rw [if_pos c2, if_pos c2]
      rw [if_neg c2] at hlt
      rw [if_neg c2, if_neg c2]
      by_cases c3 : ins = true ∨ byt a j = 32 ∨ byt a j = 9 ∨ byt a j = 44
      · rw [if_pos c3] at hlt
        rw [if_pos c3, if_pos c3]
        exact ih _ _ _ (by omega) (by omega) (by omega) hlt
      rw [if_neg c3] at hlt
      rw [if_neg c3, if_neg c3]
      by_cases c4 : byt a j = 35
      · rw [if_pos c4] at hlt
        rw [if_pos c4, if_pos c4]
        exact ih _ _ _ (by omega) (by omega) (by omega) hlt
      rw [if_neg c4] at hlt
      rw [if_neg c4, if_neg c4]
      by_cases c5 : byt a j = 239 ∧ byt a (j + 1) = 187 ∧ byt a (j + 2) = 191
      · have h2 : j + 2 < a.size := byt_in (by omega)
        rw [if_pos c5] at hlt
        rw [if_pos c5, if_pos ⟨c5.1, by rw [h.same _ (by omega)]; exact c5.2.1, by rw [h.same _ h2]; exact c5.2.2⟩]
        exact ih _ _ _ (by omega) (by omega) (by omega) hlt
      · rw [if_neg c5, if_neg (fun k => c5 ?_)]
        have k1 := (h.iff (j := j + 1) (by omega) (fun c => c = 187) (by decide) (by decide)).1 k.2.1
        have h1 : j + 1 < a.size := byt_in (by omega)
        exact ⟨k.1, k1, (h.iff (j := j + 2) (by omega) (fun c => c = 191) (by decide) (by decide)).1 k.2.2⟩
    · rw [if_pos (by omega)] at hlt
      exact absurd hlt (by dsimp only; omega)
theorem Beg.bkE {a S : ByteArray} (h : Beg a S) {j : Nat} (hj : j ≤ a.size) (hlt : (bk a j).1 < a.size) : bk S j = bk a j := h.bkFE _ _ _ _ hj (by omega) (by omega) hlt
theorem bkF_broken {s : ByteArray} : ∀ (f j : Nat) (ins : Bool), (bkF s f j ins).2 = true → (bkF s f j ins).1 < s.size
  | 0, j, ins, h => by cases h
  | f + 1, j, ins, h => by
    unfold bkF at h ⊢
    by_cases c0 : s.size ≤ j
    · rw [if_pos c0] at h; cases h
    rw [if_neg c0] at h ⊢
    by_cases c1 : byt s j = 10 ∨ byt s j = 13
    · rw [if_pos c1] at h ⊢; exact bkF_broken _ _ _ h
    rw [if_neg c1] at h ⊢
    by_cases c2 : ins = true ∧ byt s j < 32 ∧ byt s j ≠ 9
    · rw [if_pos c2]; dsimp only; omega
    rw [if_neg c2] at h ⊢
    by_cases c3 : ins = true ∨ byt s j = 32 ∨ byt s j = 9 ∨ byt s j = 44
    · rw [if_pos c3] at h ⊢; exact bkF_broken _ _ _ h
    rw [if_neg c3] at h ⊢
    by_cases c4 : byt s j = 35
    · rw [if_pos c4] at h ⊢; exact bkF_broken _ _ _ h
    rw [if_neg c4] at h ⊢
    by_cases c5 : byt s j = 239 ∧ byt s (j + 1) = 187 ∧ byt s (j + 2) = 191
    · rw [if_pos c5] at h ⊢; exact bkF_broken _ _ _ h
    · rw [if_neg c5] at h; cases h
theorem Beg.bad {a S : ByteArray} (h : Beg a S) : ∀ (n i : Nat) (L L' : List TkR) (p : Nat) (m : Int), i ≤ a.size → lexF a n i L = .bad p m → lexF S n i L' = .bad p m := by
  intro n
  induction n with
  | zero =>
    intro i L L' p m hi hb
    have hl := h.lt
    have hle := bk_le hi
    rw [lexF_step0] at hb
    rw [lexF_step0]
    by_cases c0 : (bk a i).2 = true
    · rw [if_pos c0] at hb
      rw [h.bkE hi (bkF_broken _ _ _ c0), if_pos c0]
      exact hb
    rw [if_neg c0] at hb
    by_cases c1 : (bk a i).1 = a.size
    · rw [if_pos c1] at hb; cases hb
    · rw [if_neg c1] at hb
      rw [h.bkE hi (by omega), if_neg c0, if_neg (by omega)]
      exact hb
  | succ n ih =>
    intro i L L' p m hi hb
    have hl := h.lt
    have hle := bk_le hi
    rw [lexF_step] at hb
    rw [lexF_step]
    by_cases c0 : (bk a i).2 = true
    · rw [if_pos c0] at hb
      rw [h.bkE hi (bkF_broken _ _ _ c0), if_pos c0]
      exact hb
    rw [if_neg c0] at hb
    by_cases c1 : (bk a i).1 = a.size
    · rw [if_pos c1] at hb; cases hb
    · rw [if_neg c1] at hb
      rw [h.bkE hi (by omega), if_neg c0, if_neg (by omega), h.tok (by omega)]
      cases ht : tokM a (bk a i).1 with
      | none => rw [ht] at hb; exact hb
      | some y =>
        rw [ht] at hb
        have hk := tok_ok (t := y.1) (k := y.2) (by omega) ht
        exact ih _ _ _ _ _ hk.2 hb
theorem lexF_more {s : ByteArray} : ∀ (n i : Nat) (L R : List TkR), lexF s n i L = .ok R → ∃ T, R = L ++ T ∧ T ≠ [] := by
  intro n
  induction n with
  | zero =>
    intro i L R h
    rw [lexF_step0] at h
    split at h
    · cases h
    split at h
    · cases h; exact ⟨_, rfl, by simp⟩
    · cases h
  | succ n ih =>
    intro i L R h
    rw [lexF_step] at h
    split at h
    · cases h
    split at h
    · cases h; exact ⟨_, rfl, by simp⟩
    · cases ht : tokM s (bk s i).1 with
      | none => rw [ht] at h; cases h
      | some y =>
        rw [ht] at h
        obtain ⟨T, e, _⟩ := ih _ _ _ h
        exact ⟨y.1 :: T, by rw [e]; simp, by simp⟩
theorem Beg.ok {a S : ByteArray} (h : Beg a S) : ∀ (n i : Nat) (L R R' : List TkR), i ≤ a.size → lexF a n i L = .ok R → lexF S n i L = .ok R' → ∃ M T e, R = M ++ [e] ∧ R' = M ++ T ∧ T ≠ [] := by
  intro n
  induction n with
  | zero =>
    intro i L R R' hi hb hb'
    rw [lexF_step0] at hb
    obtain ⟨T, e, hT⟩ := lexF_more _ _ _ _ hb'
    split at hb
    · cases hb
    split at hb
    · cases hb; exact ⟨L, T, _, rfl, e, hT⟩
    · cases hb
  | succ n ih =>
    intro i L R R' hi hb hb'
    have hl := h.lt
    have hle := bk_le hi
    rw [lexF_step] at hb
    by_cases c0 : (bk a i).2 = true
    · rw [if_pos c0] at hb; cases hb
    rw [if_neg c0] at hb
    by_cases c1 : (bk a i).1 = a.size
    · rw [if_pos c1] at hb
      cases hb
      obtain ⟨T, e, hT⟩ := lexF_more _ _ _ _ hb'
      exact ⟨L, T, _, rfl, e, hT⟩
    · rw [if_neg c1] at hb
      rw [lexF_step, h.bkE hi (by omega), if_neg c0, if_neg (by omega), h.tok (by omega)] at hb'
      cases ht : tokM a (bk a i).1 with
      | none => rw [ht] at hb; cases hb
      | some y =>
        rw [ht] at hb hb'
        have hk := tok_ok (t := y.1) (k := y.2) (by omega) ht
        exact ih _ _ _ _ hk.2 hb hb'
theorem conts_at {s : ByteArray} {a : Nat} : ∀ {k j : Nat}, conts s a k = true → j < k → 128 ≤ byt s (a + j)
  | 0, j, _, h => by omega
  | k + 1, j, hc, h => by
    simp only [conts, Bool.and_eq_true, decide_eq_true_eq] at hc
    by_cases e : j = k
    · rw [e]; exact hc.2.2.1
    · exact conts_at hc.1 (by omega)
theorem Beg.tw {a S : ByteArray} (h : Beg a S) {i n : Nat} (ht : Tw S i n) (hn : n = S.size) : i ≤ a.size → Tw a i a.size := by
  induction ht with
  | nil i =>
    intro hi
    have := h.lt
    omega
  | step h1 h2 _ ih =>
    rename_i i b _
    intro hi
    by_cases he : i = a.size
    · rw [he]; exact .nil _
    have hia : i < a.size := by omega
    obtain ⟨d1, d2⟩ := decIs_lead h2
    have hle : i + leadN (byt S i) ≤ a.size := by
      by_cases hc : i + leadN (byt S i) ≤ a.size
      · exact hc
      · exfalso
        have := conts_at (j := a.size - (i + 1)) d2 (by omega)
        rw [show i + 1 + (a.size - (i + 1)) = a.size by omega, h.nl] at this
        exact absurd this (by decide)
    have hcut : S.extract 0 a.size = a := by rw [h.cut 0 a.size (Nat.le_refl _)]; exact ByteArray.extract_zero_size
    have hd := dec_cut (s := S) (a := i) (e := a.size) (Nat.le_of_lt h.lt) hle d1
    rw [hcut, h2] at hd
    refine .step hia hd ?_
    rw [← h.same i hia]
    exact ih hn hle
theorem Beg.ck {a S : ByteArray} (h : Beg a S) (ha : a.size ≤ 16384) (hc : ckE S = 0) : ckE a = 0 := by
  have ht := h.tw (ck_tw hc).2 rfl (Nat.zero_le _)
  unfold ckE
  rw [if_neg (by omega), if_pos]
  exact ht.tx rfl _ (by omega)
/-- What the law asks, where the first is no text of tokens. -/
theorem begin_bad {a S : ByteArray} (h : Beg a S) (ha : a.size ≤ 16384) {p : Nat} {m : Int} (hb : lexM a = .bad p m) : ∃ p' m', lexM S = .bad p' m' := by
  unfold lexM at hb ⊢
  by_cases c : ckE S = 0
  · rw [if_neg (by rw [h.ck ha c]; exact fun k => k rfl)] at hb
    rw [if_neg (by rw [c]; exact fun k => k rfl)]
    exact ⟨p, m, h.bad _ _ _ _ _ _ (Nat.zero_le _) hb⟩
  · rw [if_pos c]
    exact ⟨_, _, rfl⟩
/-- What it asks where both are. -/
theorem begin_ok {a S : ByteArray} (h : Beg a S) {R R' : List TkR} (hb : lexM a = .ok R) (hb' : lexM S = .ok R') : ∃ m, R.length = m + 1 ∧ m + 1 ≤ R'.length ∧ ∀ k, k < m → gt R' k = gt R k := by
  unfold lexM at hb hb'
  split at hb
  · cases hb
  split at hb'
  · cases hb'
  obtain ⟨M, T, e, rfl, rfl, hT⟩ := h.ok _ _ _ _ _ (Nat.zero_le _) hb hb'
  refine ⟨M.length, by simp, ?_, fun k hk => ?_⟩
  · cases T with
    | nil => exact absurd rfl hT
    | cons x r => simp
  · unfold gt
    rw [List.getD_eq_getElem?_getD, List.getD_eq_getElem?_getD, List.getElem?_append_left hk, List.getElem?_append_left hk]
theorem own_cap {B : Nat} {w : World} {a : Option Addr} {n c : Nat} {L : List TkR} (h : OwT B w (.slice a n c) L) : L.length ≤ c ∧ c ≤ maxLen := by
  rcases h.2 with ⟨e, hn⟩ | ⟨g, cap, cur, e, hb, hg, h1, h2, h3, h4⟩
  · cases e
    exact ⟨by omega, by unfold maxLen; omega⟩
  · cases e
    exact ⟨h1, h2⟩
theorem lexF_bad {s : ByteArray} : ∀ (n i : Nat) (L : List TkR) (p : Nat) (m : Int), lexF s n i L = .bad p m → m ≠ 0 := by
  intro n
  induction n with
  | zero =>
    intro i L p m h
    rw [lexF_step0] at h
    split at h
    · cases h; decide
    · split at h
      · cases h
      · cases h; decide
  | succ n ih =>
    intro i L p m h
    rw [lexF_step] at h
    split at h
    · cases h; decide
    · split at h
      · cases h
      · cases ht : tokM s (bk s i).1 with
        | none => rw [ht] at h; cases h; decide
        | some y => rw [ht] at h; exact ih _ _ _ _ h
theorem lexM_bad {s : ByteArray} {p : Nat} {m : Int} (h : lexM s = .bad p m) : m ≠ 0 := by
  unfold lexM at h
  split at h
  · rename_i h0
    cases h
    exact h0
  · exact lexF_bad _ _ _ _ _ h
end Go.Proofs.YtmkkckhfdafjnaaGreatDoor
/- Layer 17, plain: what counts for nothing between tokens. -/
namespace Go.Proofs.YtmkkckhfdafjnaaGreatDoor
open Go.RowKit Go.Maps
theorem bkF_two {s : ByteArray} : ∀ (f f' j : Nat) (ins : Bool), s.size - j + 1 ≤ f → s.size - j + 1 ≤ f' → bkF s f j ins = bkF s f' j ins := by
  intro f
  induction f with
  | zero => intro f' j ins h; omega
  | succ f ih =>
    intro f' j ins h h'
    rw [bkF_step (f := f + 1) (by omega), bkF_step (f := f') (by omega)]
    by_cases hj : s.size ≤ j
    · rw [if_pos hj, if_pos hj]
    · rw [if_neg hj, if_neg hj]
      have e1 : ∀ b, bkF s (f + 1 - 1) (j + 1) b = bkF s (f' - 1) (j + 1) b := fun b => ih _ _ _ (by omega) (by omega)
      have e3 : ∀ b, bkF s (f + 1 - 1) (j + 3) b = bkF s (f' - 1) (j + 3) b := fun b => ih _ _ _ (by omega) (by omega)
      rw [e1, e1, e1, e3]
theorem bk_nl {s : ByteArray} {j : Nat} (hj : j < s.size) (h : byt s j = 10 ∨ byt s j = 13) : bk s j = bk s (j + 1) := by
  unfold bk
  rw [bkF_step (f := s.size - j + 1) (by omega), if_neg (by omega), if_pos h]
  exact bkF_two _ _ _ _ (by omega) (by omega)
theorem bk_bom {s : ByteArray} {j : Nat} (hj : j < s.size) (h1 : byt s j = 239) (h2 : byt s (j + 1) = 187) (h3 : byt s (j + 2) = 191) : bk s j = bk s (j + 3) := by
  unfold bk
  rw [bkF_step (f := s.size - j + 1) (by omega), if_neg (by omega), if_neg (by omega), if_neg (fun e => by cases e.1), if_neg (by rintro (e | e | e | e); cases e; omega; omega; omega), if_neg (by omega), if_pos ⟨h1, h2, h3⟩]
  exact bkF_two _ _ _ _ (by omega) (by omega)
/-- Within a remark: on to the line's end. -/
theorem bkF_rem {s : ByteArray} {f j : Nat} (hf : s.size - j + 1 ≤ f) (hj : j < s.size) (h : 32 ≤ byt s j) : bkF s f j true = bkF s (s.size - j) (j + 1) true := by
  rw [bkF_step (by omega), if_neg (by omega), if_neg (by omega), if_neg (by omega), if_pos (.inl rfl)]
  exact bkF_two _ _ _ _ (by omega) (by omega)
theorem bk_rem {s : ByteArray} {j : Nat} (h : AtL s j [35, 120, 32, 34, 10]) : bk s j = bk s (j + 5) := by
  have hl := at_le h
  have hl5 : j + 5 ≤ s.size := by simpa using hl
  have b0 := at_getD h 0 (by decide)
  have b1 := at_getD h 1 (by decide)
  have b2 := at_getD h 2 (by decide)
  have b3 := at_getD h 3 (by decide)
  have b4 := at_getD h 4 (by decide)
  rw [Nat.add_zero] at b0
  simp at b0 b1 b2 b3 b4
  unfold bk
  rw [bkF_step (f := s.size - j + 1) (by omega), if_neg (by omega), if_neg (by omega), if_neg (fun e => by cases e.1), if_neg (by rintro (e | e | e | e); cases e; omega; omega; omega), if_pos b0]
  rw [bkF_rem (by omega) (by omega) (by omega), bkF_rem (by omega) (by omega) (by rw [show j + 1 + 1 = j + 2 by omega]; omega), bkF_rem (by omega) (by omega) (by rw [show j + 1 + 1 + 1 = j + 3 by omega]; omega)]
  rw [bkF_step (by omega), if_neg (by omega), if_pos (.inl (by rw [show j + 1 + 1 + 1 + 1 = j + 4 by omega]; exact b4))]
  exact bkF_two _ _ _ _ (by omega) (by omega)
/-- The five. -/
def blT : Nat → ByteArray
  | 0 => ⟨#[32]⟩
  | 1 => ⟨#[9, 44]⟩
  | 2 => ⟨#[13, 10]⟩
  | 3 => ⟨#[35, 120, 32, 34, 10]⟩
  | _ => ⟨#[239, 187, 191]⟩
theorem bk_bl {s : ByteArray} {i j : Nat} (h : AtL s i (bI (blT j))) : bk s i = bk s (i + (blT j).size) := by
  have hl := at_le h
  have g := fun k hk => at_getD h k hk
  match j with
  | 0 =>
    have b0 : byt s i = 32 := g 0 (by decide)
    exact bk_sp (by have : i + 1 ≤ s.size := hl; omega) (.inl b0)
  | 1 =>
    have b0 : byt s i = 9 := g 0 (by decide)
    have b1 : byt s (i + 1) = 44 := g 1 (by decide)
    have hz : i + 2 ≤ s.size := hl
    rw [bk_sp (by omega) (.inr (.inl b0)), bk_sp (by omega) (.inr (.inr b1))]
    rfl
  | 2 =>
    have b0 : byt s i = 13 := g 0 (by decide)
    have b1 : byt s (i + 1) = 10 := g 1 (by decide)
    have hz : i + 2 ≤ s.size := hl
    rw [bk_nl (by omega) (.inr b0), bk_nl (by omega) (.inl b1)]
    rfl
  | 3 => exact bk_rem h
  | j + 4 =>
    have b0 : byt s i = 239 := g 0 (show 0 < 3 by omega)
    have b1 : byt s (i + 1) = 187 := g 1 (show 1 < 3 by omega)
    have b2 : byt s (i + 2) = 191 := g 2 (show 2 < 3 by omega)
    have hz : i + 3 ≤ s.size := hl
    exact bk_bom (by omega) b0 b1 b2
theorem bl_fol {s : ByteArray} {i j : Nat} (h : AtL s i (bI (blT j))) : Fol (byt s i) := by
  have g := fun k hk => at_getD h k hk
  match j with
  | 0 => have b0 : byt s i = 32 := g 0 (by decide)
         rw [b0]; exact ⟨by decide, by decide, by decide⟩
  | 1 => have b0 : byt s i = 9 := g 0 (by decide)
         rw [b0]; exact ⟨by decide, by decide, by decide⟩
  | 2 => have b0 : byt s i = 13 := g 0 (by decide)
         rw [b0]; exact ⟨by decide, by decide, by decide⟩
  | 3 => have b0 : byt s i = 35 := g 0 (by decide)
         rw [b0]; exact ⟨by decide, by decide, by decide⟩
  | j + 4 => have b0 : byt s i = 239 := g 0 (show 0 < 3 by omega)
             rw [b0]; exact ⟨by decide, by decide, by decide⟩
theorem bl_tw {s : ByteArray} {i j : Nat} (h : AtL s i (bI (blT j))) : Tw s i (i + (blT j).size) := by
  match j with
  | 0 => exact tw_asc (L := [32]) (by decide) h
  | 1 => exact tw_asc (L := [9, 44]) (by decide) h
  | 2 => exact tw_asc (L := [13, 10]) (by decide) h
  | 3 => exact tw_asc (L := [35, 120, 32, 34, 10]) (by decide) h
  | j + 4 =>
    have e : bI (blT (j + 4)) = [65279].flatMap enc := by rfl
    rw [e] at h
    exact tw_encs [65279] i (by decide) h
end Go.Proofs.YtmkkckhfdafjnaaGreatDoor
/- Layer 17, plain: tokens with blanks between them are read as the same. -/
namespace Go.Proofs.YtmkkckhfdafjnaaGreatDoor
open Go.RowKit Go.Maps
def jbW (c : Nat) (g : Nat → TkR) : Nat → ByteArray
  | 0 => ⟨#[]⟩
  | i + 1 => jbW c g i ++ (blT ((c + i) % 5) ++ tellT (g i))
theorem jb_bI (c : Nat) (g : Nat → TkR) (k : Nat) : bI (jbW c g (k + 1)) = bI (jbW c g k) ++ (bI (blT ((c + k) % 5)) ++ bI (tellT (g k))) := by
  show bI (jbW c g k ++ (blT ((c + k) % 5) ++ tellT (g k))) = _
  rw [bI_app, bI_app]
theorem jb_size (c : Nat) (g : Nat → TkR) (k : Nat) : (jbW c g (k + 1)).size = (jbW c g k).size + (blT ((c + k) % 5)).size + (tellT (g k)).size := by
  rw [← bI_len, jb_bI, List.length_append, List.length_append, bI_len, bI_len, bI_len]
  omega
theorem jb_pre {S : ByteArray} {c : Nat} {g : Nat → TkR} {m : Nat} (h : AtL S 0 (bI (jbW c g m))) : ∀ d k, k + d = m → AtL S 0 (bI (jbW c g k))
  | 0, k, e => by obtain rfl : k = m := by omega
                  exact h
  | d + 1, k, e => by
    have := jb_pre h d (k + 1) (by omega)
    rw [jb_bI] at this
    exact (at_app.1 this).1
theorem jb_at {S : ByteArray} {c : Nat} {g : Nat → TkR} {m : Nat} (h : AtL S 0 (bI (jbW c g m))) {k : Nat} (hk : k < m) : AtL S (jbW c g k).size (bI (blT ((c + k) % 5)) ++ bI (tellT (g k))) := by
  have := jb_pre h (m - (k + 1)) (k + 1) (by omega)
  rw [jb_bI] at this
  have := (at_app.1 this).2
  rw [bI_len, Nat.zero_add] at this
  exact this
def itB (c : Nat) (g : Nat → TkR) : Nat → Nat → List (Nat × TkR)
  | 0, _ => []
  | d + 1, k => ((blT ((c + k) % 5)).size, g k) :: itB c g d (k + 1)
theorem itB_len (c : Nat) (g : Nat → TkR) : ∀ d k, (itB c g d k).length = d
  | 0, _ => rfl
  | d + 1, k => by simp [itB, itB_len c g d]
theorem itB_map (c : Nat) (g : Nat → TkR) : ∀ d k, (itB c g d k).map (fun y => ksT y.2) = (List.range d).map (fun j => ksT (g (k + j)))
  | 0, _ => rfl
  | d + 1, k => by
    rw [itB, List.map_cons, itB_map c g d (k + 1), List.range_succ_eq_map, List.map_cons, List.map_map]
    congr 1
    apply List.map_congr_left
    intro j _
    show ksT (g (k + 1 + j)) = ksT (g (k + (j + 1)))
    rw [show k + 1 + j = k + (j + 1) by omega]
theorem lay_jb {S : ByteArray} {c : Nat} {g : Nat → TkR} {m : Nat} (hok : ∀ k, k < m → okT (g k) = true) (hk : ∀ k, k < m → (g k).k ≠ 0) (hsz : S.size ≤ 16384) (hall : AtL S 0 (bI (jbW c g m))) (hlast : AtL S (jbW c g m).size (bI (blT ((c + m) % 5)))) (hS : S.size = (jbW c g m).size + (blT ((c + m) % 5)).size) : ∀ d k, k + d = m → Lay S (jbW c g k).size (itB c g d k) ∧ Tw S (jbW c g k).size S.size
  | 0, k, e => by
    obtain rfl : k = m := by omega
    refine ⟨?_, ?_⟩
    · show bk S (jbW c g k).size = (S.size, false)
      rw [bk_bl hlast, ← hS, bk_end]
    · have := bl_tw hlast
      rw [← hS] at this
      exact this
  | d + 1, k, e => by
    have hkm : k < m := by omega
    obtain ⟨ih1, ih2⟩ := lay_jb hok hk hsz hall hlast hS d (k + 1) (by omega)
    obtain ⟨hA, hB⟩ := at_app.1 (jb_at hall hkm)
    rw [bI_len] at hB
    have hle := at_le hB
    rw [bI_len] at hle
    obtain ⟨t0, tn⟩ := tell_b0 (hok k hkm) (hk k hkm)
    have hb := bytA hB 0 t0
    rw [Nat.add_zero] at hb
    have hfol : Fol (byt S (jbW c g (k + 1)).size) := by
      by_cases e2 : k + 1 < m
      · exact bl_fol (at_app.1 (jb_at hall e2)).1
      · obtain rfl : m = k + 1 := by omega
        exact bl_fol hlast
    rw [jb_size] at ih1 ih2 hfol
    refine ⟨?_, ((bl_tw hA).trans (tell_tw (hok k hkm) (hk k hkm) hB)).trans ih2⟩
    exact ⟨by rw [bk_bl hA]; exact bk_here (by omega) (by rw [hb]; exact tn), by show (jbW c g k).size + (blT ((c + k) % 5)).size < S.size; omega, hok k hkm, hk k hkm, by show (tellT (g k)).size ≤ 16384; omega, hB, hfol, ih1⟩
/-- Tokens with blanks ahead of each, and of the end, are read as the same. -/
theorem blank_lex {c : Nat} {g : Nat → TkR} {m : Nat} (hok : ∀ k, k < m → okT (g k) = true) (hk : ∀ k, k < m → (g k).k ≠ 0) (hend : tellT (g m) = ⟨#[]⟩) (hsz : (jbW c g (m + 1)).size ≤ 16384) (hm : m ≤ 1024) : ∃ L', lexM (jbW c g (m + 1)) = .ok (L' ++ [⟨0, ⟨#[]⟩, (jbW c g (m + 1)).size⟩]) ∧ L'.map ksT = (List.range m).map (fun j => ksT (g j)) := by
  have hz := jb_size c g m
  rw [hend] at hz
  have hz0 : (⟨#[]⟩ : ByteArray).size = 0 := rfl
  have hall := at_all (jbW c g (m + 1))
  rw [jb_bI, hend] at hall
  obtain ⟨h1, h2⟩ := at_app.1 hall
  rw [bI_len, Nat.zero_add] at h2
  have h3 := (at_app.1 h2).1
  obtain ⟨a1, a2⟩ := lay_jb (S := jbW c g (m + 1)) hok hk hsz h1 h3 (by omega) m 0 (by omega)
  obtain ⟨L', e1, e2⟩ := lexM_of a2 hsz a1 (by rw [itB_len]; exact hm)
  refine ⟨L', e1, ?_⟩
  rw [e2, itB_map]
  apply List.map_congr_left
  intro j _
  rw [Nat.zero_add]
end Go.Proofs.YtmkkckhfdafjnaaGreatDoor
/- Layer 17, plain: a text that is read is no longer than it was written (the same as in wip/read BO, without the cells). -/
namespace Go.Proofs.YtmkkckhfdafjnaaGreatDoor
open Go.RowKit Go.Maps
theorem four_len {s : ByteArray} : ∀ {k i : Nat} {n : Int} {x : Int × Nat}, fourF s k i n = .ok x → x.2 = i + k
  | 0, i, n, x, e => by cases e; rfl
  | k + 1, i, n, x, e => by
    unfold fourF at e
    split at e
    · cases e
    · have := four_len e; omega
theorem point_len {s : ByteArray} {i : Nat} {x : Int × Nat} (e : pointM s i = .ok x) : i + 4 ≤ x.2 := by
  unfold pointM at e
  cases h1 : fourF s 4 i 0 with
  | bad m => rw [h1] at e; cases e
  | ok y =>
    rw [h1] at e
    have a1 := four_len h1
    simp only [Rs.bind_ok] at e
    split at e
    · cases h2 : wordM s [92, 117] y.2 with
      | bad m => rw [h2] at e; cases e
      | ok j =>
        rw [h2] at e
        have a2 := (word_asc (by decide) h2).le
        simp only [Rs.bind_ok] at e
        cases h3 : fourF s 4 j 0 with
        | bad m => rw [h3] at e; cases e
        | ok z =>
          rw [h3] at e
          have a3 := four_len h3
          simp only [Rs.bind_ok] at e
          split at e
          · cases e
          · cases e
            show i + 4 ≤ z.2
            omega
    · split at e
      · cases e; omega
      · cases e
theorem esL_one (x : Int) : esL [x] = escI x := by unfold esL; simp
theorem esL_app (a b : List Int) : esL (a ++ b) = esL a ++ esL b := by unfold esL; rw [List.flatMap_append]
theorem enc_es {p : Int} (h : isPt p = true) : (esL (enc p)).length ≤ 6 := by
  by_cases hl : p < 128
  · rw [enc_low p hl, esL_one]
    exact esc_len p
  · have hh : ∀ c ∈ enc p, 128 ≤ c := by
      have hr := isPt_range h
      intro c hc
      unfold enc at hc
      rw [if_neg hl] at hc
      (repeat' split at hc) <;> simp at hc <;> omega
    rw [esL_high hh]
    have := (enc_len p).2
    omega
theorem esc_es {s : ByteArray} {i j : Nat} {m : List Int} (e : escM s i = .ok (m, j)) : (esL m).length + i ≤ j + 1 := by
  unfold escM at e
  dsimp only at e
  split at e
  · rename_i hb
    cases e
    rw [esL_one]
    have h2 : (escI (byt s i)).length ≤ 2 := by rcases hb with hb | hb | hb <;> rw [hb] <;> decide
    omega
  split at e
  · cases e; rw [esL_one]; have : (escI 8).length = 2 := rfl; omega
  split at e
  · cases e; rw [esL_one]; have : (escI 12).length = 2 := rfl; omega
  split at e
  · cases e; rw [esL_one]; have : (escI 10).length = 2 := rfl; omega
  split at e
  · cases e; rw [esL_one]; have : (escI 13).length = 2 := rfl; omega
  split at e
  · cases e; rw [esL_one]; have : (escI 9).length = 2 := rfl; omega
  split at e
  · cases hp : pointM s (i + 1) with
    | bad m' => rw [hp] at e; cases e
    | ok x =>
      rw [hp] at e
      have h1 := point_len hp
      have h2 := enc_es (point_asc hp).2
      simp only [Rs.bind_ok] at e
      cases e
      omega
  · cases e
theorem strF_es {s : ByteArray} : ∀ (f j : Nat) (l m : List Int) (k : Nat), strF s f j l = .ok (m, k) → (esL m).length + j + 1 ≤ (esL l).length + k
  | 0, j, l, m, k, e => by cases e
  | f + 1, j, l, m, k, e => by
    rw [strF] at e
    split at e
    · cases e; omega
    split at e
    · cases he : escM s (j + 1) with
      | bad m' => rw [he] at e; cases e
      | ok y =>
        obtain ⟨y1, j'⟩ := y
        rw [he] at e
        have h1 := esc_es he
        have h2 := strF_es f j' _ m k e
        rw [esL_app, List.length_append] at h2
        dsimp only at h2
        omega
    split at e
    · cases e
    · rename_i n1 n2 n3
      have h2 := strF_es f (j + 1) _ m k e
      have h3 : (esL [byt s j]).length = 1 := by
        rw [esL_one, esc_own _ n3]
        · rfl
        · unfold shortI
          rw [if_neg n1, if_neg n2, if_neg (by omega), if_neg (by omega), if_neg (by omega), if_neg (by omega), if_neg (by omega)]
      rw [esL_app, List.length_append, h3] at h2
      omega
theorem strM_es {s : ByteArray} {i k : Nat} {m : List Int} (hw : Tw s i s.size) (e : strM s i = .ok (m, k)) : (quT (mkB m)).size + i ≤ k := by
  have hp := (strM_pt hw e).1
  unfold strM at e
  cases h1 : wordM s [34] i with
  | bad m' => rw [h1] at e; cases e
  | ok j =>
    rw [h1] at e
    obtain ⟨w1, rfl⟩ := word1 h1
    have h := strF_es _ _ _ _ _ e
    have hsz : (quT (mkB m)).size = (esL m).length + 2 := by rw [← bI_len, quT_bI, bI_mk hp.range]; simp
    rw [hsz]
    have e0 : (esL []).length = 0 := rfl
    rw [e0] at h
    omega
/-- A token's text is no longer than what stood there. -/
theorem txt_size {T : ByteArray} {M : List CR} (hs : T.size ≤ 2000) (hf : byt T 0 = 34) (hr : readM T = .ok M) : ((gl M 0).tx).size ≤ 2000 := by
  obtain ⟨hck, x, hx, htx⟩ := read_txt hf hr
  obtain ⟨y, hy⟩ := ck_tw hck
  obtain ⟨m, k⟩ := x
  have h1 := strM_es hy hx
  have h2 := (strM_ok hx).2
  have h3 := esL_len (bI (mkB m))
  have h4 := quT_size2 (mkB m)
  rw [bI_len] at h3
  rw [htx]
  show (mkB m).size ≤ 2000
  omega
theorem tok_small {s : ByteArray} {a k : Nat} {t : TkR} (ha : a < s.size) (hs : s.size ≤ 1000) (h : tokM s a = some (t, k)) : t.s.size ≤ 3000 := by
  unfold tokM at h
  have hcut : ∀ x y, (s.extract x y).size ≤ s.size := fun x y => ba_cut
  cases h1 : namR s a with
  | bad => rw [h1] at h; cases h
  | ok t' k' =>
    rw [h1] at h
    cases h
    unfold namR at h1
    split at h1
    · cases h1
      exact Nat.le_trans (hcut _ _) (by omega)
    · cases h1
  | no =>
    rw [h1] at h
    cases h2 : intR s a with
    | bad => rw [h2] at h; cases h
    | ok t' k' =>
      rw [h2] at h
      cases h
      unfold intR at h2
      split at h2
      · split at h2
        · cases h2
        · cases h2
          exact Nat.le_trans (hcut _ _) (by omega)
      · cases h2
    | no =>
      rw [h2] at h
      cases h3 : txtR s a with
      | bad => rw [h3] at h; cases h
      | ok t' k' =>
        rw [h3] at h
        cases h
        unfold txtR at h3
        split at h3
        · rename_i h34
          cases hq : quM s a with
          | none => rw [hq] at h3; cases h3
          | some n =>
            rw [hq] at h3
            obtain ⟨q1, q2⟩ := quM_ok hq
            have hf := tab_first (s := s) (a := a) (n := n) h34 (by omega) q2
            have hts := tabT_size (s.extract a n)
            have hxs := hcut a n
            unfold txt1 at h3
            cases hr : readM (tabT (s.extract a n)) with
            | bad m => dsimp only at h3; rw [hr] at h3; cases h3
            | ok M =>
              dsimp only at h3
              rw [hr] at h3
              have hc := txt_size (by omega) hf hr
              unfold txt2 at h3
              dsimp only at h3
              split at h3
              · cases h3
              · cases h3
                show ((gl M 0).tx).size ≤ 3000
                omega
        · cases h3
      | no =>
        rw [h3] at h
        cases h4 : mrkR s a with
        | bad => rw [h4] at h; cases h
        | no => rw [h4] at h; cases h
        | ok t' k' =>
          rw [h4] at h
          cases h
          unfold mrkR at h4
          split at h4
          · cases h4
            show (⟨#[46, 46, 46]⟩ : ByteArray).size ≤ 3000
            decide
          · split at h4
            · cases h4
              exact Nat.le_trans (hcut _ _) (by omega)
            · cases h4
/-- Each token that is read may be, and is small. -/
theorem toks_ok {s : ByteArray} (hs : s.size ≤ 1000) : ∀ (M : List TkR) (i k : Nat), Toks s i M → k < M.length → okT (gt M k) = true ∧ (gt M k).s.size ≤ 3000
  | [], _, k, _, hk => absurd hk (Nat.not_lt_zero k)
  | t :: r, i, 0, h, _ => by
    obtain ⟨j, k, h1, h2, h3, h4, h5⟩ := h
    exact ⟨tok_okT (by omega) hs h4, tok_small (by omega) hs h4⟩
  | t :: r, i, n + 1, h, hn => by
    obtain ⟨j, k, h1, h2, h3, h4, h5⟩ := h
    exact toks_ok hs r k n h5 (by simpa using hn)
theorem okT_end (a : Int) : okT ⟨0, ⟨#[]⟩, a⟩ = true := by
  unfold okT
  rw [if_pos rfl]
  have e : (⟨#[]⟩ : ByteArray).toList = [] := by rw [Lib.toList_data]
  show ((⟨#[]⟩ : ByteArray).toList).isEmpty = true
  rw [e]
  rfl
theorem gt_snoc_l {M : List TkR} {e : TkR} {i : Nat} (h : i < M.length) : gt (M ++ [e]) i = gt M i := by
  unfold gt
  rw [List.getD_eq_getElem?_getD, List.getD_eq_getElem?_getD, List.getElem?_append_left h]
theorem gt_snoc_r {M : List TkR} {e : TkR} : gt (M ++ [e]) M.length = e := by
  unfold gt
  rw [List.getD_eq_getElem?_getD, List.getElem?_append_right (Nat.le_refl _)]
  simp
/-- What the law asks of the tokens, one by one. -/
theorem blank_facts {s : ByteArray} {M : List TkR} (hs : s.size ≤ 1000) (h : Toks s 0 M) {g : Nat → TkR} (hg : g = gt (M ++ [⟨0, ⟨#[]⟩, s.size⟩])) : ∀ i, i < M.length + 1 → okT (g i) = true ∧ (g i).s.size ≤ 3000 ∧ (if i = 0 then -1 else (g (i - 1)).a) < (g i).a ∧ ((g i).k = 0 ↔ i = M.length) ∧ 0 ≤ (g i).a ∧ (g i).a ≤ s.size := by
  intro i hi
  by_cases him : i < M.length
  · obtain ⟨q1, q2, q3, q4⟩ := toks_at M 0 i h him
    obtain ⟨r1, r2⟩ := toks_ok hs M 0 i h him
    have e : g i = gt M i := by rw [hg, gt_snoc_l him]
    rw [e]
    refine ⟨r1, r2, ?_, ⟨fun hk => by omega, fun hk => by omega⟩, by omega, by omega⟩
    by_cases h0 : i = 0
    · rw [if_pos h0]; omega
    · rw [if_neg h0, hg, gt_snoc_l (by omega)]
      exact q3 (i - 1) (by omega)
  · obtain rfl : i = M.length := by omega
    have e : g M.length = ⟨0, ⟨#[]⟩, s.size⟩ := by rw [hg, gt_snoc_r]
    rw [e]
    refine ⟨okT_end _, by show (⟨#[]⟩ : ByteArray).size ≤ 3000; decide, ?_, ⟨fun _ => rfl, fun _ => rfl⟩, by show (0 : Int) ≤ s.size; omega, by show (s.size : Int) ≤ s.size; omega⟩
    by_cases h0 : M.length = 0
    · rw [if_pos h0]; show (-1 : Int) < s.size; omega
    · rw [if_neg h0, hg, gt_snoc_l (by omega)]
      obtain ⟨q1, q2, q3, q4⟩ := toks_at M 0 (M.length - 1) h (by omega)
      exact q2
end Go.Proofs.YtmkkckhfdafjnaaGreatDoor
/- Layer 18: what tokens tell (plain). -/
namespace Go.Proofs.YtmkkckhfdafjnaaGreatDoor.Li
open Go.RowKit Go.Maps
/-- What is told, or an error and its token. -/
inductive LR (α : Type) where
  | ok (x : α) : LR α
  | bad (p : Nat) (e : Int) : LR α
def LR.bind {α β : Type} (x : LR α) (f : α → LR β) : LR β := match x with
  | .ok a => f a
  | .bad p e => .bad p e
@[simp] theorem LR.bind_ok {α β : Type} (a : α) (f : α → LR β) : (LR.ok a).bind f = f a := rfl
@[simp] theorem LR.bind_bad {α β : Type} (p : Nat) (e : Int) (f : α → LR β) : (LR.bad p e : LR α).bind f = .bad p e := rfl
/-- Tokens in memory, and whether what is read is fixed. -/
structure LTok where
  a : Option Addr
  n : Nat
  c : Nat
  g : Nat → TkR
  fx : Bool
/-- The token that stands there; behind all: the end. -/
def tkA (s : LTok) (i : Nat) : TkR := if i < s.n then s.g i else ⟨0, ⟨#[]⟩, 0⟩
theorem tkA_out {s : LTok} {i : Nat} (h : s.n ≤ i) : tkA s i = ⟨0, ⟨#[]⟩, 0⟩ := by unfold tkA; rw [if_neg (by omega)]
theorem tkA_in {s : LTok} {i : Nat} (h : i < s.n) : tkA s i = s.g i := by unfold tkA; rw [if_pos h]
theorem tkA_lt {s : LTok} {i : Nat} (h : (tkA s i).k ≠ 0) : i < s.n := by
  by_cases k : i < s.n
  · exact k
  · exact absurd (by rw [tkA_out (by omega)]) h
/-- Is a token that mark? -/
def isMk (t : TkR) (x : ByteArray) : Bool := decide (t.k = 4) && decide (t.s = x)
theorem isMk_in {s : LTok} {i : Nat} {x : ByteArray} (h : isMk (tkA s i) x = true) : i < s.n := by
  unfold isMk at h
  simp only [Bool.and_eq_true, decide_eq_true_eq] at h
  exact tkA_lt (by rw [h.1]; decide)
/-- Is a token a name? -/
def isNm (t : TkR) : Bool := decide (t.k = 1) && nmB t.s
theorem isNm_in {s : LTok} {i : Nat} (h : isNm (tkA s i) = true) : i < s.n := by
  unfold isNm at h
  simp only [Bool.and_eq_true, decide_eq_true_eq] at h
  exact tkA_lt (by rw [h.1]; decide)
abbrev Out := Nat × List CR
def mDollar : ByteArray := ⟨#[36]⟩
def mColon : ByteArray := ⟨#[58]⟩
def mLB : ByteArray := ⟨#[91]⟩
def mRB : ByteArray := ⟨#[93]⟩
def mLC : ByteArray := ⟨#[123]⟩
def mRC : ByteArray := ⟨#[125]⟩
def tNull : ByteArray := ⟨#[110, 117, 108, 108]⟩
def tFalse : ByteArray := ⟨#[102, 97, 108, 115, 101]⟩
def tTrue : ByteArray := ⟨#[116, 114, 117, 101]⟩
/-- The value that a name tells. -/
def namedL (x : ByteArray) : CR := if x = tNull then ⟨0, ⟨#[]⟩, ⟨#[]⟩, 0, 0⟩ else if x = tFalse then ⟨1, ⟨#[]⟩, ⟨#[]⟩, 0, 0⟩ else if x = tTrue then ⟨1, ⟨#[]⟩, ⟨#[]⟩, 1, 0⟩ else ⟨4, ⟨#[]⟩, x, 0, 0⟩
/-- The cell that a token begins. -/
def hdL (s : LTok) (i : Nat) : LR CR :=
  if okT (tkA s i) = false ∧ (tkA s i).k ≠ 2 then .bad i 180
  else if (tkA s i).k = 1 then .ok (namedL (tkA s i).s)
  else if (tkA s i).k = 2 then (if Nm.rdE (tkA s i).s = 0 then .ok ⟨2, ⟨#[]⟩, ⟨#[]⟩, Nm.rdV (tkA s i).s, 0⟩ else .bad i 41)
  else if (tkA s i).k = 3 then .ok ⟨3, ⟨#[]⟩, (tkA s i).s, 0, 0⟩
  else if isMk (tkA s i) mDollar = true ∧ s.fx = false then .ok ⟨5, ⟨#[]⟩, ⟨#[]⟩, 0, 0⟩
  else if isMk (tkA s i) mLB = true then .ok ⟨6, ⟨#[]⟩, ⟨#[]⟩, 0, 0⟩
  else if isMk (tkA s i) mLC = true then .ok ⟨7, ⟨#[]⟩, ⟨#[]⟩, 0, 0⟩
  else .bad i 180
theorem okT_end0 : okT ⟨0, ⟨#[]⟩, 0⟩ = true := okT_end 0
theorem hdL_in {s : LTok} {i : Nat} {c : CR} (h : hdL s i = .ok c) : i < s.n := by
  by_cases k : i < s.n
  · exact k
  · rw [hdL, tkA_out (by omega), okT_end0, if_neg (by intro e; cases e.1), if_neg (by decide), if_neg (by decide), if_neg (by decide), if_neg (by intro e; exact absurd e.1 (by decide +kernel)), if_neg (by decide +kernel), if_neg (by decide +kernel)] at h
    cases h
/-- A name that may not be among some. -/
def nwL (s : LTok) (ns : List ByteArray) (i : Nat) : LR ByteArray := if ns.any (fun y => decide (y = (tkA s i).s)) = true ∧ isNm (tkA s i) = true then .bad i 42 else if isNm (tkA s i) = true then .ok (tkA s i).s else .bad i 180
def lsF (s : LTok) (val : Nat → List CR → LR Out) (k : Nat) : Nat → Nat → List CR → LR Out
  | 0, j, _ => .bad j 180
  | f + 1, j, M => if isMk (tkA s j) mRB = true then .ok (j + 1, M) else (val j M).bind fun y => lsF s val k f y.1 (incC y.2 k)
def obF (s : LTok) (val : ByteArray → Nat → List CR → LR Out) (k : Nat) : Nat → Nat → List ByteArray → List CR → LR Out
  | 0, j, _, _ => .bad j 180
  | f + 1, j, ns, M => if isMk (tkA s j) mRC = true then .ok (j + 1, M) else (nwL s ns j).bind fun nm =>
    if isMk (tkA s (j + 1)) mColon = true then (val nm (j + 2) M).bind fun y => obF s val k f y.1 (nm :: ns) (incC y.2 k) else .bad (j + 1) 180
/-- What stands behind a value's head. -/
def bdL (s : LTok) (val : ByteArray → Nat → List CR → LR Out) (c : CR) (i : Nat) (L : List CR) : LR Out :=
  if c.k = 5 then (if isNm (tkA s (i + 1)) = true then .ok (i + 2, L ++ [{ c with tx := (tkA s (i + 1)).s }]) else .bad (i + 1) 180)
  else if c.k = 6 then lsF s (val ⟨#[]⟩) L.length (s.n + 1 - (i + 1)) (i + 1) (L ++ [c])
  else if c.k = 7 then obF s val L.length (s.n + 1 - (i + 1)) (i + 1) [] (L ++ [c])
  else .ok (i + 1, L ++ [c])
/-- A value, so many more brackets being allowed (one more than they). -/
def vaL (s : LTok) : Nat → ByteArray → Nat → Nat → List CR → LR Out
  | 0, _, _, i, _ => .bad i 30
  | f + 1, nm, op, i, L => (hdL s i).bind fun c =>
    if L.length = 2048 then .bad i 4
    else if (c.k = 6 ∨ c.k = 7) ∧ op = 16 then .bad i 30
    else bdL s (fun nm' j M => vaL s f nm' (op + 1) j M) { c with nm := nm } i L
/-- A literal. -/
def ltL (s : LTok) (i : Nat) : LR Out := vaL s 17 ⟨#[]⟩ 0 i []
theorem nwL_ok {s : LTok} {ns : List ByteArray} {i : Nat} {x : ByteArray} (h : nwL s ns i = .ok x) : isNm (tkA s i) = true ∧ x = (tkA s i).s ∧ ns.any (fun y => decide (y = x)) = false := by
  unfold nwL at h
  split at h
  · cases h
  · split at h
    · rename_i h1 h2
      cases h
      refine ⟨h2, rfl, ?_⟩
      cases e : ns.any (fun y => decide (y = (tkA s i).s)) with
      | false => rfl
      | true => exact absurd ⟨e, h2⟩ h1
    · cases h
end Go.Proofs.YtmkkckhfdafjnaaGreatDoor.Li
/- Layer 18: the reader of literals in memory. -/
namespace Go.Proofs.YtmkkckhfdafjnaaGreatDoor.Li
open Go.RowKit Go.Maps
/-- The tokens lie below the reader. -/
def TkP (w : World) (p : Nat) (s : LTok) : Prop := (∀ i, i < s.n → ∃ b off, s.a = some ⟨b, off, none⟩ ∧ b < p ∧ w.cell? ⟨b, off + i * 3, none⟩ = some (.int .u8 (s.g i).k) ∧ w.cell? ⟨b, off + i * 3 + 1, none⟩ = some (.string (s.g i).s) ∧ w.cell? ⟨b, off + i * 3 + 2, none⟩ = some (.int .i64 (s.g i).a)) ∧ s.n ≤ 100000 ∧ ∀ i, i < s.n → (s.g i).s.size ≤ 1000000
theorem TkP.kept {w w' : World} {p : Nat} {s : LTok} (h : TkP w p s) (k : ∀ j, j < p → w'.heap[j]? = w.heap[j]?) : TkP w' p s := by
  refine ⟨fun i hi => ?_, h.2⟩
  obtain ⟨b, off, e, h0, h1, h2, h3⟩ := h.1 i hi
  have c : ∀ o, w'.cell? ⟨b, o, none⟩ = w.cell? ⟨b, o, none⟩ := fun o => World.cell?_of_block (k b h0)
  exact ⟨b, off, e, h0, by rw [c]; exact h1, by rw [c]; exact h2, by rw [c]; exact h3⟩
theorem TkP.at_ {w : World} {p : Nat} {s : LTok} (h : TkP w p s) {i : Nat} (hi : i < s.n) : ∃ b off, s.a = some ⟨b, off, none⟩ ∧ b < p ∧ w.cell? ⟨b, off + i * 3, none⟩ = some (.int .u8 (s.g i).k) ∧ w.cell? ⟨b, off + i * 3 + 1, none⟩ = some (.string (s.g i).s) ∧ w.cell? ⟨b, off + i * 3 + 2, none⟩ = some (.int .i64 (s.g i).a) := h.1 i hi
/-- A reader: its box, and its row. -/
structure RdB (w : World) (p : Nat) (s : LTok) (i op : Nat) (v : Value) (L : List CR) : Prop where
  box : w.heap[p]? = some (.cells #[.slice s.a s.n s.c, .int .i64 i, .bool s.fx, .int .i64 op, v] 119)
  tok : TkP w p s
  row : w.ownsRow (p + 1) 46 5 v L.length (rw5 L)
theorem RdB.lt {w : World} {p : Nat} {s : LTok} {i op : Nat} {v : Value} {L : List CR} (h : RdB w p s i op v L) : p < w.heap.size := (Array.getElem?_eq_some_iff.1 h.box).1
theorem RdB.c0 {w : World} {p : Nat} {s : LTok} {i op : Nat} {v : Value} {L : List CR} (h : RdB w p s i op v L) : w.cell? ⟨p, 0, none⟩ = some (.slice s.a s.n s.c) := by simp [World.cell?, h.box]
theorem RdB.c1 {w : World} {p : Nat} {s : LTok} {i op : Nat} {v : Value} {L : List CR} (h : RdB w p s i op v L) : w.cell? ⟨p, 1, none⟩ = some (.int .i64 i) := by simp [World.cell?, h.box]
theorem RdB.c3 {w : World} {p : Nat} {s : LTok} {i op : Nat} {v : Value} {L : List CR} (h : RdB w p s i op v L) : w.cell? ⟨p, 3, none⟩ = some (.int .i64 op) := by simp [World.cell?, h.box]
theorem RdB.c4 {w : World} {p : Nat} {s : LTok} {i op : Nat} {v : Value} {L : List CR} (h : RdB w p s i op v L) : w.cell? ⟨p, 4, none⟩ = some v := by simp [World.cell?, h.box]
theorem RdB.c2 {w : World} {p : Nat} {s : LTok} {i op : Nat} {v : Value} {L : List CR} (h : RdB w p s i op v L) : w.cell? ⟨p, 2, none⟩ = some (.bool s.fx) := by simp [World.cell?, h.box]
theorem RdB.z {w : World} {p : Nat} {s : LTok} {i op : Nat} {v : Value} {L : List CR} (h : RdB w p s i op v L) (o : Nat) : w.frozen? ⟨p, o, none⟩ = false := by simp [World.frozen?, h.box]
theorem RdB.far {w : World} {p : Nat} {s : LTok} {i op : Nat} {v : Value} {L : List CR} (h : RdB w p s i op v L) : ∀ k, v.ownBlock = some k → p + 1 ≤ k := fun k hk => (h.row.lt k hk).1
/-- The reader goes to a place. -/
theorem RdB.at_ {w : World} {p : Nat} {s : LTok} {i op : Nat} {v : Value} {L : List CR} (h : RdB w p s i op v L) (j : Nat) (x : Int) (hx : x = (j : Nat)) : RdB (w.setCell ⟨p, 1, none⟩ (.int .i64 x)) p s j op v L ∧ Fr p v v w (w.setCell ⟨p, 1, none⟩ (.int .i64 x)) := by
  subst hx
  have hk : ∀ k, k ≠ p → (w.setCell ⟨p, 1, none⟩ (.int .i64 j)).heap[k]? = w.heap[k]? := fun k hk => Below.heap_setCell w ⟨p, 1, none⟩ _ k hk
  refine ⟨⟨?_, h.tok.kept (fun k hlt => hk k (by omega)), own_move h.row (fun j hj => hk j (by have := h.far j hj; omega))⟩, ⟨rfl, rfl, rfl, by simp, fun k _ h1 _ => hk k h1, fun _ e => .inl e⟩⟩
  simp [World.setCell, Array.getElem?_modify, h.box]
theorem RdB.open_ {w : World} {p : Nat} {s : LTok} {i op : Nat} {v : Value} {L : List CR} (h : RdB w p s i op v L) (j : Nat) (x : Int) (hx : x = (j : Nat)) : RdB (w.setCell ⟨p, 3, none⟩ (.int .i64 x)) p s i j v L ∧ Fr p v v w (w.setCell ⟨p, 3, none⟩ (.int .i64 x)) := by
  subst hx
  have hk : ∀ k, k ≠ p → (w.setCell ⟨p, 3, none⟩ (.int .i64 j)).heap[k]? = w.heap[k]? := fun k hk => Below.heap_setCell w ⟨p, 3, none⟩ _ k hk
  refine ⟨⟨?_, h.tok.kept (fun k hlt => hk k (by omega)), own_move h.row (fun j hj => hk j (by have := h.far j hj; omega))⟩, ⟨rfl, rfl, rfl, by simp, fun k _ h1 _ => hk k h1, fun _ e => .inl e⟩⟩
  simp [World.setCell, Array.getElem?_modify, h.box]
/-- What lies above, and is made, leaves a reader as it was. -/
theorem RdB.below {w w' : World} {p : Nat} {s : LTok} {i op : Nat} {v : Value} {L : List CR} (h : RdB w p s i op v L) (b : Below w.heap.size w w') : RdB w' p s i op v L ∧ Fr p v v w w' := by
  have hk : ∀ k, k < w.heap.size → w'.heap[k]? = w.heap[k]? := fun k hk => b.block k hk
  exact ⟨⟨by rw [hk p h.lt]; exact h.box, h.tok.kept (fun k hlt => hk k (by have := h.lt; omega)), own_move h.row (fun j hj => hk j (h.row.lt j hj).2)⟩, ⟨b.os, b.tape, b.output, b.size, fun k h1 _ _ => hk k h1, fun _ e => .inl e⟩⟩
theorem RdB.dr {w w' : World} {p : Nat} {s : LTok} {i op : Nat} {v : Value} {L : List CR} (h : RdB w p s i op v L) (d : Dr w w') : RdB w' p s i op v L ∧ Fr p v v w w' := h.below (d.below _)
/-- An error that is thrown, at a token. -/
def thr (a : Nat) (e : Int) : Ending := .panicked [{ v := .iface 115 (.agg #[.int .i64 e, .int .i64 a]), recovered := false }]
/-- Cells are told, and a place, or an error thrown. -/
def OutP (p : Nat) (s : LTok) (op : Nat) (v : Value) (w : World) (x : LR Out) (e : Ending) (w' : World) : Prop := match x with
  | .ok (j, M) => e = .returned (.tuple #[]) ∧ ∃ v', RdB w' p s j op v' M ∧ Fr p v v' w w'
  | .bad a m => e = thr a m ∧ Below p w w'
end Go.Proofs.YtmkkckhfdafjnaaGreatDoor.Li
/- Layer 18: the reader's row of cells. -/
namespace Go.Proofs.YtmkkckhfdafjnaaGreatDoor.Li
open Go.RowKit Go.Maps
/-- The reader's row: where it lies. -/
theorem RdB.addr {w : World} {p : Nat} {s : LTok} {i op : Nat} {v : Value} {L : List CR} (h : RdB w p s i op v L) (h0 : 0 < L.length) : ∃ q cap, v = .slice (some ⟨q, 0, none⟩) L.length cap ∧ p < q ∧ q < w.heap.size := by
  obtain ⟨q, cap, e, h1, h2⟩ := own_addr h.row h0
  exact ⟨q, cap, e, by omega, h2⟩
theorem RdB.cellz {w : World} {p q cap : Nat} {s : LTok} {i op : Nat} {L : List CR} (h : RdB w p s i op (.slice (some ⟨q, 0, none⟩) L.length cap) L) (o : Nat) : w.frozen? ⟨q, o, none⟩ = false := by
  rcases h.row.2 with ⟨h', _⟩ | ⟨g', cap', cur, h', hb, hg, h1, h2, h3, h4⟩
  · simp at h'
  · simp only [Value.slice.injEq, Option.some.injEq, Addr.mk.injEq, and_true, true_and] at h'
    obtain ⟨rfl, rfl⟩ := h'
    simp [World.frozen?, hg]
theorem RdB.cells {w : World} {p q cap : Nat} {s : LTok} {i op : Nat} {L : List CR} (h : RdB w p s i op (.slice (some ⟨q, 0, none⟩) L.length cap) L) {k : Nat} (hk : k < L.length) : w.cell? ⟨q, k * 5, none⟩ = some (.int .u8 (gl L k).k) ∧ w.cell? ⟨q, k * 5 + 1, none⟩ = some (.string (gl L k).nm) ∧ w.cell? ⟨q, k * 5 + 2, none⟩ = some (.string (gl L k).tx) ∧ w.cell? ⟨q, k * 5 + 3, none⟩ = some (.int .i64 (gl L k).n) ∧ w.cell? ⟨q, k * 5 + 4, none⟩ = some (.int .i64 (gl L k).m) := by
  obtain ⟨a0, a1, a2, a3, a4⟩ := rw5_at L k hk
  refine ⟨?_, ?_, ?_, ?_, ?_⟩
  · rw [h.row.cellAt _ (by omega)]; exact a0
  · rw [h.row.cellAt _ (by omega)]; exact a1
  · rw [h.row.cellAt _ (by omega)]; exact a2
  · rw [h.row.cellAt _ (by omega)]; exact a3
  · rw [h.row.cellAt _ (by omega)]; exact a4
/-- A field of a cell is set. -/
theorem RdB.setF {w : World} {p q cap : Nat} {s : LTok} {i op : Nat} {L : List CR} (h : RdB w p s i op (.slice (some ⟨q, 0, none⟩) L.length cap) L) (hpq : p < q) {k : Nat} (hk : k < L.length) (f : Nat) (hf : f < 5) (x : Value) (c' : CR) (hx : (cellL (gl L k)).set f x = cellL c') :
    RdB (w.setCell ⟨q, k * 5 + f, none⟩ x) p s i op (.slice (some ⟨q, 0, none⟩) (L.set k c').length cap) (L.set k c') ∧ Fr p (.slice (some ⟨q, 0, none⟩) L.length cap) (.slice (some ⟨q, 0, none⟩) (L.set k c').length cap) w (w.setCell ⟨q, k * 5 + f, none⟩ x) := by
  have hkk : ∀ j, j ≠ q → (w.setCell ⟨q, k * 5 + f, none⟩ x).heap[j]? = w.heap[j]? := fun j hj => Below.heap_setCell w ⟨q, k * 5 + f, none⟩ _ j hj
  refine ⟨⟨by rw [hkk p (by omega), List.length_set]; exact h.box, h.tok.kept (fun j hj => hkk j (by omega)), ?_⟩, ⟨rfl, rfl, rfl, by simp, fun j _ _ h3 => hkk j (fun e => h3 (by simp [Value.ownBlock, e])), fun j e => .inl (by simpa [Value.ownBlock] using e)⟩⟩
  rw [List.length_set]
  refine ⟨by rw [rw5_len, List.length_set], ?_⟩
  rcases h.row.2 with ⟨h', _⟩ | ⟨g', cap', cur, h', hb, hg, h1, h2, h3, h4⟩
  · simp at h'
  · simp only [Value.slice.injEq, Option.some.injEq, Addr.mk.injEq, and_true, true_and] at h'
    obtain ⟨rfl, rfl⟩ := h'
    refine .inr ⟨q, cap, cur.setIfInBounds (k * 5 + f) x, rfl, hb, ?_, h1, h2, by simpa using h3, ?_⟩
    · simp [World.setCell, Array.getElem?_modify, hg]
    · rw [Array.toList_setIfInBounds, List.take_set, h4]
      exact rw5_setF f x L k c' hk hf hx
theorem RdB.slice {w : World} {p i op : Nat} {s : LTok} {v : Value} {L : List CR} (h : RdB w p s i op v L) : ∃ ad cap, v = .slice ad L.length cap := by
  rcases h.row.2 with ⟨rfl, h0⟩ | ⟨g, cap, cur, rfl, _⟩
  · exact ⟨none, 0, by rw [h0]⟩
  · exact ⟨_, _, rfl⟩
theorem RdB.push {w w' : World} {p i op : Nat} {s : LTok} {v v' : Value} {L : List CR} (h : RdB w p s i op v L) (c : CR) (o : w'.ownsRow (p + 1) 46 5 v' (L.length + 1) (rw5 L ++ cellL c)) (os : w'.os = w.os) (tape : w'.tape = w.tape) (out : w'.output = w.output) (sz : w.heap.size ≤ w'.heap.size) (kp : ∀ k, k < w.heap.size → v.ownBlock ≠ some k → w'.heap[k]? = w.heap[k]?) (ha : v'.ownBlock = v.ownBlock ∨ ∃ k, v'.ownBlock = some k ∧ w.heap.size ≤ k) :
    w'.cell? ⟨p, 4, none⟩ = some v ∧ w'.frozen? ⟨p, 4, none⟩ = false ∧ RdB (w'.setCell ⟨p, 4, none⟩ v') p s i op v' (L ++ [c]) ∧ Fr p v v' w (w'.setCell ⟨p, 4, none⟩ v') := by
  have hb : w'.heap[p]? = some (.cells #[.slice s.a s.n s.c, .int .i64 i, .bool s.fx, .int .i64 op, v] 119) := by
    rw [kp p h.lt (fun e => by have := h.far p e; omega)]
    exact h.box
  have hk : ∀ k, k ≠ p → (w'.setCell ⟨p, 4, none⟩ v').heap[k]? = w'.heap[k]? := fun k hk => Below.heap_setCell w' ⟨p, 4, none⟩ _ k hk
  refine ⟨by simp [World.cell?, hb], by simp [World.frozen?, hb], ⟨by simp [World.setCell, Array.getElem?_modify, hb], h.tok.kept (fun j hj => (hk j (by omega)).trans (kp j (by have := h.lt; omega) (fun e => by have := h.far j e; omega))), ?_⟩, ⟨os, tape, out, by simpa using sz, fun k h1 h2 h3 => by rw [hk k h2]; exact kp k h1 h3, fun k e => ?_⟩⟩
  · have o2 := own_move (w' := w'.setCell ⟨p, 4, none⟩ v') o (fun j hj => hk j (by have := (o.lt j hj).1; omega))
    rw [List.length_append, rw5_app]
    exact o2
  · rcases ha with ha | ⟨g, h1, h2⟩
    · exact .inl (ha ▸ e)
    · rw [h1] at e
      cases e
      exact .inr h2
theorem RdB.veq {w : World} {p i i' op op' : Nat} {s : LTok} {v v' : Value} {L L' : List CR} (h : RdB w p s i op v L) (k : RdB w p s i' op' v' L') : v = v' := by
  have e := h.box.symm.trans k.box
  simp only [Option.some.injEq, Obj.cells.injEq, Array.mk.injEq, List.cons.injEq, and_true] at e
  exact e.2.2.2.2
theorem RdB.same {w w' : World} {p i op : Nat} {s : LTok} {v : Value} {L : List CR} (h : RdB w p s i op v L) (hp : w'.heap[p]? = w.heap[p]?) (ht : ∀ j, j < p → w'.heap[j]? = w.heap[j]?) (hv : ∀ j, v.ownBlock = some j → w'.heap[j]? = w.heap[j]?) : RdB w' p s i op v L := ⟨hp.trans h.box, h.tok.kept ht, own_move h.row hv⟩
end Go.Proofs.YtmkkckhfdafjnaaGreatDoor.Li
/- Layer 18: peek, isMark, skip, take, isName, name. -/
namespace Go.Proofs.YtmkkckhfdafjnaaGreatDoor.Li
open Go.RowKit Go.Maps
theorem tkA_small {w : World} {p : Nat} {s : LTok} (h : TkP w p s) (i : Nat) : (tkA s i).s.size ≤ 1000000 := by
  by_cases k : i < s.n
  · rw [tkA_in k]; exact h.2.2 i k
  · rw [tkA_out (by omega)]; decide
set_option maxRecDepth 20000 in
theorem peek_any {p i op : Nat} {s : LTok} {v : Value} {L : List CR} (w : World) (h : RdB w p s i op v L) (hi : i ≤ 2000000) : Calls Tryz.prog 75 #[.pointer (some ⟨p, 0, none⟩)] w fun e w' => e = .returned (.agg #[.int .u8 (tkA s i).k, .string (tkA s i).s, .int .i64 (tkA s i).a]) ∧ Below w.heap.size w w' := by
  have hb0 := below_box w (.cells #[.int .u8 0, .string ⟨#[]⟩, .int .i64 0] 59)
  have hlt0 := h.lt
  have c0 := (h.below hb0).1.c0
  have c1 := (h.below hb0).1.c1
  have hT := (h.below hb0).1.tok
  have HB0 := Lib.hid hb0
  clear h hb0
  obtain ⟨a, n, c, g, fx⟩ := s
  dsimp only at c0 hT
  have hn : (n : Int) ≤ 100000 := by have := hT.2.1; dsimp only at this; omega
  by_cases hlt : i < n
  · obtain ⟨b, off, rfl, hb, d0, d1, d2⟩ := hT.at_ hlt
    dsimp only at d0 d1 d2 c0
    rw [tkA_in (s := ⟨some ⟨b, off, none⟩, n, c, g, fx⟩) hlt]
    dsimp only
    have hii : (i : Int) < n := by omega
    have hi0 : (0 : Int) ≤ i := by omega
    clear hT
    go_enter Tryz.func75, Tryz.ntmps75
    go_wp2_with fail
    go_quiet (fail)
    go_wp2_with fail
    go_region
    all_goals
      go_wp2_with fail
      exact ret_mk Tryz.results75 rfl (set3_heap (heap_alloc_new _ _)) rfl ⟨rfl, (below_drewN HB0.out _).trans (set3_below (Nat.le_refl _))⟩
  · rw [tkA_out (s := ⟨a, n, c, g, fx⟩) (by dsimp only; omega)]
    have hii : ¬ (i : Int) < n := by omega
    clear hT
    go_enter Tryz.func75, Tryz.ntmps75
    go_wp2_with fail
    go_quiet (fail)
    go_wp2_with fail
    exact ret_mk Tryz.results75 rfl (set3_heap (heap_alloc_new _ _)) rfl ⟨rfl, (below_drewN HB0.out _).trans (set3_below (Nat.le_refl _))⟩
theorem tl_no {a b : ByteArray} (h : ¬ a = b) : (a.toList == b.toList) = false := by
  cases e : (a.toList == b.toList) with
  | false => rfl
  | true => exact absurd (by rw [Lib.toList_data, Lib.toList_data] at e; have := eq_of_beq e; cases a; cases b; simp at this; rw [this]) h
set_option maxRecDepth 20000 in
theorem isMark_any {p i op : Nat} {s : LTok} {v : Value} {L : List CR} (x : ByteArray) (w : World) (h : RdB w p s i op v L) (hi : i ≤ 2000000) : Calls Tryz.prog 55 #[.pointer (some ⟨p, 0, none⟩), .string x] w fun e w' => e = .returned (.bool (isMk (tkA s i) x)) ∧ Below w.heap.size w w' := by
  have HP := Lib.hid (peek_any w h hi)
  clear h
  obtain ⟨t, ht⟩ : ∃ t, t = tkA s i := ⟨_, rfl⟩
  rw [← ht] at HP ⊢
  clear ht
  obtain ⟨k, b, a⟩ := t
  unfold isMk
  dsimp only at HP ⊢
  by_cases hk : k = 4
  · subst hk
    by_cases hb : b = x
    · subst hb
      go_enter Tryz.func55, Tryz.ntmps55
      go_wp2_with fail
      refine HP.out.mono ?_
      rintro e w1 ⟨rfl, d⟩
      have D := Lib.hid d
      clear d
      go_wp2_with fail
      go_ret
      exact ⟨by simp, D.out.alloc D.out.size _⟩
    · have q := tl_no hb
      go_enter Tryz.func55, Tryz.ntmps55
      go_wp2_with fail
      refine HP.out.mono ?_
      rintro e w1 ⟨rfl, d⟩
      have D := Lib.hid d
      clear d
      go_wp2_with fail
      go_ret
      exact ⟨by simp [hb], D.out.alloc D.out.size _⟩
  · have q : (k == 4) = false := beq_eq_false_iff_ne.2 hk
    go_enter Tryz.func55, Tryz.ntmps55
    go_wp2_with fail
    refine HP.out.mono ?_
    rintro e w1 ⟨rfl, d⟩
    have D := Lib.hid d
    clear d
    go_wp2_with fail
    go_ret
    exact ⟨by simp [hk], D.out.alloc D.out.size _⟩
set_option maxRecDepth 20000 in
theorem skip_yes {p i op : Nat} {s : LTok} {v : Value} {L : List CR} {x : ByteArray} (w : World) (h : RdB w p s i op v L) (hi : i ≤ 1999999) (hm : isMk (tkA s i) x = true) : Calls Tryz.prog 60 #[.pointer (some ⟨p, 0, none⟩), .string x] w fun e w' => e = .returned (.bool true) ∧ RdB w' p s (i + 1) op v L ∧ Fr p v v w w' := by
  have HM := Lib.hid (isMark_any x w h (by omega))
  rw [hm] at HM
  have H := Lib.hid h
  clear h hm
  have hi2 : (i : Int) ≤ 1999999 := by omega
  go_enter Tryz.func60, Tryz.ntmps60
  go_wp2_with fail
  refine HM.out.mono ?_
  rintro e w1 ⟨rfl, d⟩
  have R1 := Lib.hid (H.out.below d)
  have c1 := R1.out.1.c1
  have z1 := R1.out.1.z 1
  have RN := Lib.hid (R1.out.1.at_ (i + 1) ((i : Int) + 1) (by omega))
  clear d
  go_wp2_with fail
  go_ret
  exact ⟨rfl, RN.out.1, R1.out.2.trans RN.out.2⟩
set_option maxRecDepth 20000 in
theorem skip_no {p i op : Nat} {s : LTok} {v : Value} {L : List CR} {x : ByteArray} (w : World) (h : RdB w p s i op v L) (hi : i ≤ 1999999) (hm : isMk (tkA s i) x = false) : Calls Tryz.prog 60 #[.pointer (some ⟨p, 0, none⟩), .string x] w fun e w' => e = .returned (.bool false) ∧ Below w.heap.size w w' := by
  have HM := Lib.hid (isMark_any x w h (by omega))
  rw [hm] at HM
  clear h hm
  go_enter Tryz.func60, Tryz.ntmps60
  go_wp2_with fail
  refine HM.out.mono ?_
  rintro e w1 ⟨rfl, d⟩
  have D := Lib.hid d
  clear d
  go_wp2_with fail
  go_ret
  exact ⟨rfl, D.out⟩
set_option maxRecDepth 20000 in
theorem fail_any {p i op : Nat} {s : LTok} {v : Value} {L : List CR} (m : Int) (w : World) (h : RdB w p s i op v L) : Calls Tryz.prog 53 #[.pointer (some ⟨p, 0, none⟩), .int .i64 m] w fun e w' => e = thr i m ∧ Below w.heap.size w w' := by
  have c1 := h.c1
  clear h
  go_enter Tryz.func53, Tryz.ntmps53
  go_wp2_with fail
  (try go_quiet (fail))
  (try go_wp2_with fail)
  simp only [bodyPost]
  exact ⟨trivial, rfl, Below.refl _ _⟩
set_option maxRecDepth 20000 in
theorem take_ok {p i op : Nat} {s : LTok} {v : Value} {L : List CR} {x : ByteArray} (w : World) (h : RdB w p s i op v L) (hi : i ≤ 1999999) (hm : isMk (tkA s i) x = true) : Calls Tryz.prog 56 #[.pointer (some ⟨p, 0, none⟩), .string x] w fun e w' => e = .returned (.tuple #[]) ∧ RdB w' p s (i + 1) op v L ∧ Fr p v v w w' := by
  have HM := Lib.hid (skip_yes w h hi hm)
  clear h hm
  go_enter Tryz.func56, Tryz.ntmps56
  go_wp2_with fail
  refine HM.out.mono ?_
  rintro e w1 ⟨rfl, r1, f1⟩
  have R1 := Lib.hid (And.intro r1 f1)
  clear r1 f1
  go_wp2_with fail
  go_end0
  exact ⟨rfl, R1.out⟩
set_option maxRecDepth 20000 in
theorem take_bad {p i op : Nat} {s : LTok} {v : Value} {L : List CR} {x : ByteArray} (w : World) (h : RdB w p s i op v L) (hi : i ≤ 1999999) (hm : isMk (tkA s i) x = false) : Calls Tryz.prog 56 #[.pointer (some ⟨p, 0, none⟩), .string x] w fun e w' => e = thr i 180 ∧ Below w.heap.size w w' := by
  have HM := Lib.hid (skip_no w h hi hm)
  have HF := Lib.hid (fun W (d : Below w.heap.size w W) => fail_any 180 W (h.below d).1)
  clear h hm
  go_enter Tryz.func56, Tryz.ntmps56
  go_wp2_with fail
  refine HM.out.mono ?_
  rintro e w1 ⟨rfl, d⟩
  have D := Lib.hid d
  clear d
  go_wp2_with fail
  refine (HF.out _ D.out).mono ?_
  rintro e w2 ⟨he, d⟩
  unfold thr at he
  subst he
  (try go_wp2_with fail)
  simp only [bodyPost]
  exact ⟨trivial, rfl, D.out.trans (d.mono D.out.size)⟩
set_option maxRecDepth 20000 in
theorem isName_any {p i op : Nat} {s : LTok} {v : Value} {L : List CR} (w : World) (h : RdB w p s i op v L) (hi : i ≤ 2000000) : Calls Tryz.prog 78 #[.pointer (some ⟨p, 0, none⟩)] w fun e w' => e = .returned (.bool (isNm (tkA s i))) ∧ Below w.heap.size w w' := by
  have HP := Lib.hid (peek_any w h hi)
  have hz := tkA_small h.tok i
  clear h
  obtain ⟨t, ht⟩ : ∃ t, t = tkA s i := ⟨_, rfl⟩
  rw [← ht] at HP hz ⊢
  clear ht
  obtain ⟨k, b, a⟩ := t
  unfold isNm
  dsimp only at HP hz ⊢
  have HN := Lib.hid (fun W => lname_any b W hz)
  by_cases hk : k = 1
  · subst hk
    go_enter Tryz.func78, Tryz.ntmps78
    go_wp2_with fail
    refine HP.out.mono ?_
    rintro e w1 ⟨rfl, d⟩
    have D := Lib.hid d
    clear d
    go_wp2_with (go_at_call 43; refine (HN.out _).mono ?_; rintro e w2 ⟨rfl, rfl⟩)
    go_ret
    exact ⟨by simp, D.out.alloc D.out.size _⟩
  · have q : (k == 1) = false := beq_eq_false_iff_ne.2 hk
    go_enter Tryz.func78, Tryz.ntmps78
    go_wp2_with fail
    refine HP.out.mono ?_
    rintro e w1 ⟨rfl, d⟩
    have D := Lib.hid d
    clear d
    go_wp2_with fail
    go_ret
    exact ⟨by simp [hk], D.out.alloc D.out.size _⟩
set_option maxRecDepth 20000 in
theorem name_no {p i op : Nat} {s : LTok} {v : Value} {L : List CR} (w : World) (h : RdB w p s i op v L) (hi : i ≤ 1999999) (hm : isNm (tkA s i) = false) : Calls Tryz.prog 58 #[.pointer (some ⟨p, 0, none⟩)] w fun e w' => e = thr i 180 ∧ Below w.heap.size w w' := by
  have HM := Lib.hid (isName_any w h (by omega))
  have HF := Lib.hid (fun W (d : Below w.heap.size w W) => fail_any 180 W (h.below d).1)
  rw [hm] at HM
  clear h hm
  go_enter Tryz.func58, Tryz.ntmps58
  go_wp2_with fail
  refine HM.out.mono ?_
  rintro e w1 ⟨rfl, d⟩
  have D := Lib.hid d
  clear d
  go_wp2_with fail
  refine (HF.out _ D.out).mono ?_
  rintro e w2 ⟨he, d⟩
  unfold thr at he
  subst he
  (try go_wp2_with fail)
  simp only [bodyPost]
  exact ⟨trivial, rfl, D.out.trans (d.mono D.out.size)⟩
set_option maxRecDepth 20000 in
theorem name_yes {p i op : Nat} {s : LTok} {v : Value} {L : List CR} (w : World) (h : RdB w p s i op v L) (hi : i ≤ 1999999) (hm : isNm (tkA s i) = true) : Calls Tryz.prog 58 #[.pointer (some ⟨p, 0, none⟩)] w fun e w' => e = .returned (.string (tkA s i).s) ∧ RdB w' p s (i + 1) op v L ∧ Fr p v v w w' := by
  have HM := Lib.hid (isName_any w h (by omega))
  have hin := isNm_in hm
  rw [hm] at HM
  have H := Lib.hid h
  clear h hm
  rw [tkA_in hin]
  have hi2 : (i : Int) ≤ 1999999 := by omega
  have hi0 : (0 : Int) ≤ i := by omega
  have hii : (i : Int) < s.n := by omega
  go_enter Tryz.func58, Tryz.ntmps58
  go_wp2_with fail
  refine HM.out.mono ?_
  rintro e w1 ⟨rfl, d⟩
  have R1 := Lib.hid (H.out.below d)
  have c1 := R1.out.1.c1
  have z1 := R1.out.1.z 1
  have RN := Lib.hid (R1.out.1.at_ (i + 1) ((i : Int) + 1) (by omega))
  obtain ⟨W2, hW2⟩ : ∃ W2, W2 = w1.setCell ⟨p, 1, none⟩ (.int .i64 ((i : Int) + 1)) := ⟨_, rfl⟩
  rw [← hW2] at RN
  have c0' := RN.out.1.c0
  have c1' : W2.cell? ⟨p, 1, none⟩ = some (.int .i64 ((i : Int) + 1)) := by rw [RN.out.1.c1]; simp
  obtain ⟨b, off, ha, hb, d0, d1, d2⟩ := RN.out.1.tok.at_ hin
  rw [ha] at c0'
  have HW2 := Lib.hid hW2
  clear d hW2
  go_wp2_with fail
  rw [← HW2.out]
  go_quiet (fail)
  go_wp2_with fail
  go_ret
  have R3 := RN.out.1.dr (w' := W2.drewN nq) ⟨rfl, rfl, rfl, rfl⟩
  exact ⟨rfl, R3.1, R1.out.2.trans (RN.out.2.trans R3.2)⟩
end Go.Proofs.YtmkkckhfdafjnaaGreatDoor.Li
/- Layer 18: named, head. -/
namespace Go.Proofs.YtmkkckhfdafjnaaGreatDoor.Li
open Go.RowKit Go.Maps
def clV (c : CR) : Value := .agg #[.int .u8 c.k, .string c.nm, .string c.tx, .int .i64 c.n, .int .i64 c.m]
theorem ret_cl {R : Ending → World → Prop} {fn : Func} {tmps : Array Value} {w : World} {g k : Nat} {cs : Array Value} (hr : fn.results = #[.cell k 46]) (h2 : tmps.getD k undef = .pointer (some ⟨g, 0, none⟩)) (hg : w.heap[g]? = some (.cells cs 46)) (hs : cs.size = 5)
    (hR : R (.returned (.agg cs)) w) : bodyPost Tryz.prog fn R .ret ⟨tmps, []⟩ w := by
  obtain ⟨i0, hin, hz0, hz1, hz2⟩ := infoC
  refine bodyPost_ret (v := .agg cs) ?_ rfl hR
  exact results_cell_row hr tmps w g 46 cs (0, 0) _ h2 hg Tryz.underlying46 rfl (by rw [hin]; simp [hz1, hs])
def sets5 (w : World) (N : Nat) (p q r s t : Value) : World := ((((w.setCell ⟨N, 0, none⟩ p).setCell ⟨N, 1, none⟩ q).setCell ⟨N, 2, none⟩ r).setCell ⟨N, 3, none⟩ s).setCell ⟨N, 4, none⟩ t
theorem set5_heap {w2 : World} {N : Nat} {x y z u v p q r s t : Value} (hg : w2.heap[N]? = some (.cells #[x, y, z, u, v] 46)) : (sets5 w2 N p q r s t).heap[N]? = some (.cells #[p, q, r, s, t] 46) := by
  have h3 : (((w2.setCell ⟨N, 0, none⟩ p).setCell ⟨N, 1, none⟩ q).setCell ⟨N, 2, none⟩ r).heap[N]? = some (.cells #[p, q, r, u, v] 46) := by
    simp [World.setCell, Array.getElem?_modify, hg]
  unfold sets5
  obtain ⟨w3, hw3⟩ : ∃ w3, w3 = ((w2.setCell ⟨N, 0, none⟩ p).setCell ⟨N, 1, none⟩ q).setCell ⟨N, 2, none⟩ r := ⟨_, rfl⟩
  rw [← hw3] at h3 ⊢
  clear hw3 hg
  simp [World.setCell, Array.getElem?_modify, h3]
theorem set5_below {w2 : World} {N B : Nat} {p q r s t : Value} (h : B ≤ N) : Below B w2 (sets5 w2 N p q r s t) := by
  unfold sets5
  exact (((((Below.refl _ _).setCell (by exact h) _).setCell (by exact h) _).setCell (by exact h) _).setCell (by exact h) _).setCell (by exact h) _
theorem cl_cells {w2 : World} {N : Nat} {x y z u v : Value} (hg : w2.heap[N]? = some (.cells #[x, y, z, u, v] 46)) : w2.cell? ⟨N, 0, none⟩ = some x ∧ w2.cell? ⟨N, 1, none⟩ = some y ∧ w2.cell? ⟨N, 2, none⟩ = some z ∧ w2.cell? ⟨N, 3, none⟩ = some u ∧ w2.cell? ⟨N, 4, none⟩ = some v ∧ ∀ o, w2.frozen? ⟨N, o, none⟩ = false := by
  refine ⟨?_, ?_, ?_, ?_, ?_, fun o => ?_⟩
  · unfold World.cell?; dsimp only; rw [hg]; rfl
  · unfold World.cell?; dsimp only; rw [hg]; rfl
  · unfold World.cell?; dsimp only; rw [hg]; rfl
  · unfold World.cell?; dsimp only; rw [hg]; rfl
  · unfold World.cell?; dsimp only; rw [hg]; rfl
  · simp [World.frozen?, hg]
set_option maxRecDepth 20000 in
set_option maxHeartbeats 2000000 in
theorem named_any (x : ByteArray) (w : World) : Calls Tryz.prog 65 #[.string x] w fun e w' => e = .returned (clV (namedL x)) ∧ Below w.heap.size w w' := by
  by_cases h0 : x = tNull
  · have e : namedL x = ⟨0, ⟨#[]⟩, ⟨#[]⟩, 0, 0⟩ := by unfold namedL; rw [if_pos h0]
    rw [e]
    clear e 
    subst h0
    unfold tNull
    go_enter Tryz.func65, Tryz.ntmps65
    go_wp2_with fail
    exact ret_cl Tryz.results65 rfl (heap_alloc_new _ _) rfl ⟨rfl, (Below.refl _ _).alloc (Nat.le_refl _) _⟩
  by_cases h1 : x = tFalse
  · have e : namedL x = ⟨1, ⟨#[]⟩, ⟨#[]⟩, 0, 0⟩ := by unfold namedL; rw [if_neg h0]; rw [if_pos h1]
    rw [e]
    clear e h0
    subst h1
    unfold tFalse
    go_enter Tryz.func65, Tryz.ntmps65
    go_wp2_with fail
    exact ret_cl Tryz.results65 rfl (heap_alloc_new _ _) rfl ⟨rfl, (Below.refl _ _).alloc (Nat.le_refl _) _⟩
  by_cases h2 : x = tTrue
  · have e : namedL x = ⟨1, ⟨#[]⟩, ⟨#[]⟩, 1, 0⟩ := by unfold namedL; rw [if_neg h0]; rw [if_neg h1]; rw [if_pos h2]
    rw [e]
    clear e h0 h1
    subst h2
    unfold tTrue
    go_enter Tryz.func65, Tryz.ntmps65
    go_wp2_with fail
    exact ret_cl Tryz.results65 rfl (heap_alloc_new _ _) rfl ⟨rfl, (Below.refl _ _).alloc (Nat.le_refl _) _⟩
  have e : namedL x = ⟨4, ⟨#[]⟩, x, 0, 0⟩ := by unfold namedL; rw [if_neg h0, if_neg h1, if_neg h2]
  rw [e]
  have q0 : (x.toList == [110, 117, 108, 108]) = false := by
    have q := tl_no h0
    rwa [show tNull.toList = [110, 117, 108, 108] by rw [Lib.toList_data]; rfl] at q
  have q1 : (x.toList == [102, 97, 108, 115, 101]) = false := by
    have q := tl_no h1
    rwa [show tFalse.toList = [102, 97, 108, 115, 101] by rw [Lib.toList_data]; rfl] at q
  have q2 : (x.toList == [116, 114, 117, 101]) = false := by
    have q := tl_no h2
    rwa [show tTrue.toList = [116, 114, 117, 101] by rw [Lib.toList_data]; rfl] at q
  clear e h0 h1 h2
  go_enter Tryz.func65, Tryz.ntmps65
  go_wp2_with fail
  exact ret_cl Tryz.results65 rfl (heap_alloc_new _ _) rfl ⟨rfl, (Below.refl _ _).alloc (Nat.le_refl _) _⟩
end Go.Proofs.YtmkkckhfdafjnaaGreatDoor.Li

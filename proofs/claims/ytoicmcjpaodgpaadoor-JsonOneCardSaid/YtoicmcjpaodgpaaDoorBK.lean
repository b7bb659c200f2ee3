/- Layer 4: a value that is read of a beginning is read of all; no beginning of what is written is read (plain). -/
import Derived.Test.YtoicmcjpaodgpaaDoorBJ
namespace Go.Proofs.YtoicmcjpaodgpaaDoor
open Go.RowKit
/-- What an item is in a beginning it is in all. -/
structure ItX {σ : Type} (s' s : ByteArray) (it' it : Nat → σ → Rs (Nat × σ)) : Prop where
  same : ∀ i x y, it' i x = .ok y → Cl (byt s' y.1) → it i x = .ok y
  here : ∀ i x y, it' i x = .ok y → i < s'.size
theorem alF_head {σ : Type} {s : ByteArray} {it : Nat → σ → Rs (Nat × σ)} {shut : Int} {f i : Nat} {x : σ} {y : Nat × σ} (e : alF s it shut f i x = .ok y) : byt s i = 44 ∨ byt s i = shut := by
  cases f with
  | zero => cases e
  | succ f =>
    unfold alF at e
    split at e
    · rename_i h; exact .inl h
    · unfold wordM at e
      split at e
      · rename_i h; exact .inr h
      · cases e
theorem cl_bl {s : ByteArray} {i : Nat} {shut : Int} (hsh : shut = 93 ∨ shut = 125) (h : byt s (bl s i) = 44 ∨ byt s (bl s i) = shut) : Cl (byt s i) ∧ bl s i < s.size := by
  refine ⟨?_, byt_in (by omega)⟩
  cases hb : isBl (byt s i) with
  | true => exact .inr (.inr (.inr hb))
  | false =>
    rw [bl_stop hb] at h
    unfold Cl
    omega
theorem alF_ext {σ : Type} {s' s : ByteArray} (h : Ex s' s) {it' it : Nat → σ → Rs (Nat × σ)} (hI : ItX s' s it' it) {shut : Int} (hsh : shut = 93 ∨ shut = 125) : ∀ (f f' i : Nat) (x : σ) (y : Nat × σ), f ≤ f' → alF s' it' shut f i x = .ok y → alF s it shut f' i x = .ok y
  | 0, _, _, _, _, _, e => by cases e
  | f + 1, f', i, x, y, hf, e => by
    obtain ⟨f2, rfl⟩ : ∃ f2, f' = f2 + 1 := ⟨f' - 1, by omega⟩
    unfold alF at e ⊢
    split at e
    · rename_i h44
      rw [h.at_ (by omega), if_pos h44]
      cases hz : it' (bl s' (i + 1)) x with
      | bad m => rw [hz] at e; cases e
      | ok z =>
        rw [hz] at e
        simp only [Rs.bind_ok] at e
        obtain ⟨c1, c2⟩ := cl_bl hsh (alF_head e)
        rw [ext_bl h _ (i + 1) _ (Nat.le_refl _) rfl (hI.here _ _ _ hz), hI.same _ _ _ hz c1, Rs.bind_ok, ext_bl h _ z.1 _ (Nat.le_refl _) rfl c2]
        exact alF_ext h hI hsh f f2 _ _ _ (by omega) e
    · rename_i h44
      cases hw : wordM s' [shut] i with
      | bad m => rw [hw] at e; cases e
      | ok j =>
        rw [hw] at e
        have hb : byt s' i = shut := by
          unfold wordM at hw
          split at hw
          · assumption
          · cases hw
        rw [h.at_ (by omega), if_neg h44, ext_word h _ _ _ (by intro c hc; simp at hc; omega) hw]
        exact e
theorem alM_ext {σ : Type} {s' s : ByteArray} (h : Ex s' s) {it' it : Nat → σ → Rs (Nat × σ)} (hI : ItX s' s it' it) {shut : Int} (hsh : shut = 93 ∨ shut = 125) {i : Nat} {x : σ} {y : Nat × σ} (e : alM s' it' shut i x = .ok y) : alM s it shut i x = .ok y ∧ i < s'.size := by
  unfold alM at e ⊢
  split at e
  · rename_i hb
    rw [h.at_ (by omega), if_pos hb]
    exact ⟨e, byt_in (by omega)⟩
  · rename_i hb
    cases hz : it' i x with
    | bad m => rw [hz] at e; cases e
    | ok z =>
      rw [hz] at e
      simp only [Rs.bind_ok] at e
      have hi := hI.here _ _ _ hz
      obtain ⟨c1, c2⟩ := cl_bl hsh (alF_head e)
      rw [h.eq i hi, if_neg hb, hI.same _ _ _ hz c1, Rs.bind_ok, ext_bl h _ z.1 _ (Nat.le_refl _) rfl c2]
      exact ⟨alF_ext h hI hsh _ _ _ _ _ (by have := h.le; omega) e, hi⟩
/-- Values that are read of a beginning. -/
structure VaX (s' s : ByteArray) (V' V : ByteArray → Nat → List CR → Rs Out) : Prop where
  same : ∀ nm i L y, V' nm i L = .ok y → Cl (byt s' y.1) → V nm i L = .ok y
  here : ∀ nm i L y, V' nm i L = .ok y → i < s'.size
theorem litI_ext {s' s : ByteArray} {V' V : ByteArray → Nat → List CR → Rs Out} (hV : VaX s' s V' V) (nm : ByteArray) (hd : Nat) : ItX s' s (litI s' (V' nm) hd) (litI s (V nm) hd) where
  same := fun i x y e hc => by
    unfold litI at e ⊢
    cases hz : V' nm i x with
    | bad m => rw [hz] at e; cases e
    | ok z =>
      rw [hz] at e
      simp only [Rs.bind_ok] at e
      have e1 : z.1 = y.1 := by cases e; rfl
      rw [← e1] at hc
      rw [hV.same _ _ _ _ hz hc]
      exact e
  here := fun i x y e => by
    unfold litI at e
    cases hz : V' nm i x with
    | bad m => rw [hz] at e; cases e
    | ok z => exact hV.here _ _ _ _ hz
theorem word1 {s : ByteArray} {c : Int} {i j : Nat} (h : wordM s [c] i = .ok j) : byt s i = c ∧ j = i + 1 := by
  unfold wordM at h
  split at h
  · unfold wordM at h
    cases h
    exact ⟨by assumption, rfl⟩
  · cases h
theorem str_here {s : ByteArray} {i : Nat} {x : List Int × Nat} (e : strM s i = .ok x) : i < s.size := by
  unfold strM at e
  cases hw : wordM s [34] i with
  | bad m => rw [hw] at e; cases e
  | ok j => exact byt_in (by rw [(word1 hw).1]; decide)
theorem objI_ext {s' s : ByteArray} (h : Ex s' s) {V' V : ByteArray → Nat → List CR → Rs Out} (hV : VaX s' s V' V) (hd : Nat) : ItX s' s (objI s' V' hd) (objI s V hd) where
  same := fun i x y e hc => by
    unfold objI memM at e ⊢
    cases hst : strM s' i with
    | bad m => rw [hst] at e; cases e
    | ok t =>
      rw [hst] at e
      rw [ext_str h hst]
      simp only [Rs.bind_ok] at e ⊢
      split at e
      · cases e
      · rename_i h1
        rw [if_neg h1]
        split at e
        · cases e
        · rename_i h2
          rw [if_neg h2]
          cases hw : wordM s' [58] (bl s' t.2) with
          | bad m => rw [hw] at e; cases e
          | ok k =>
            rw [hw] at e
            simp only [Rs.bind_ok] at e
            obtain ⟨w1, w2⟩ := word1 hw
            cases hz : V' (mkB t.1) (bl s' k) x.2 with
            | bad m => rw [hz] at e; cases e
            | ok z =>
              rw [hz] at e
              simp only [Rs.bind_ok] at e
              have e1 : z.1 = y.1 := by cases e; rfl
              rw [← e1] at hc
              rw [ext_bl h _ t.2 _ (Nat.le_refl _) rfl (byt_in (by rw [w1]; decide)), ext_word h _ _ _ (by decide) hw, Rs.bind_ok, ext_bl h _ k _ (Nat.le_refl _) rfl (hV.here _ _ _ _ hz), hV.same _ _ _ _ hz hc]
              exact e
  here := fun i x y e => by
    unfold objI memM at e
    cases hst : strM s' i with
    | bad m => rw [hst] at e; cases e
    | ok t => exact str_here hst
theorem valM_here {s : ByteArray} : ∀ {f : Nat} {nm : ByteArray} {op i : Nat} {L : List CR} {y : Out}, valM s f nm op i L = .ok y → i < s.size
  | 0, _, _, _, _, _, e => by cases e
  | f + 1, nm, op, i, L, y, e => by
    unfold valM at e
    split at e
    · cases e
    · rename_i hs
      refine byt_in (fun h0 => hs ?_)
      rw [h0]
      decide
/-- A value that is read of a beginning is read of all. -/
theorem valM_ext {s' s : ByteArray} (h : Ex s' s) : ∀ (f : Nat) (nm : ByteArray) (op i : Nat) (L : List CR) (y : Out), valM s' f nm op i L = .ok y → (Cl (byt s' y.1) ∨ ¬ (byt s' i = 45 ∨ isDg (byt s' i) = true)) → valM s f nm op i L = .ok y
  | 0, _, _, _, _, _, e, _ => by cases e
  | f + 1, nm, op, i, L, y, e, hc => by
    have hi := valM_here e
    have hV : ∀ op, VaX s' s (fun nm j M => valM s' f nm op j M) (fun nm j M => valM s f nm op j M) := fun op => ⟨fun nm i L y e' hc' => valM_ext h f nm op i L y e' (.inl hc'), fun nm i L y e' => valM_here e'⟩
    unfold valM at e ⊢
    rw [h.eq i hi]
    split at e
    · cases e
    rename_i h1
    rw [if_neg h1]
    split at e
    · cases e
    rename_i h2
    rw [if_neg h2]
    split at e
    · cases e
    rename_i h3
    rw [if_neg h3]
    split at e
    · rename_i hb
      rw [if_pos hb]
      rw [obj_al] at e ⊢
      cases ha : alM s' (objI s' (fun nm' j M => valM s' f nm' (op + 1) j M) L.length) 125 (bl s' (i + 1)) ([], L ++ [⟨7, nm, ⟨#[]⟩, 0, 0⟩]) with
      | bad m => rw [ha] at e; cases e
      | ok z =>
        rw [ha] at e
        obtain ⟨k1, k2⟩ := alM_ext h (objI_ext h (hV (op + 1)) L.length) (.inr rfl) ha
        rw [ext_bl h _ (i + 1) _ (Nat.le_refl _) rfl k2, k1]
        exact e
    rename_i h4
    rw [if_neg h4]
    split at e
    · rename_i hb
      rw [if_pos hb]
      rw [lst_al] at e ⊢
      obtain ⟨k1, k2⟩ := alM_ext h (litI_ext (hV (op + 1)) ⟨#[]⟩ L.length) (.inl rfl) e
      rw [ext_bl h _ (i + 1) _ (Nat.le_refl _) rfl k2]
      exact k1
    rename_i h5
    rw [if_neg h5]
    split at e
    · rename_i hb
      rw [if_pos hb]
      cases hst : strM s' i with
      | bad m => rw [hst] at e; cases e
      | ok t => rw [hst] at e; rw [ext_str h hst]; exact e
    rename_i h6
    rw [if_neg h6]
    split at e
    · rename_i hb
      rw [if_pos hb]
      cases hst : wordM s' [116, 114, 117, 101] i with
      | bad m => rw [hst] at e; cases e
      | ok t => rw [hst] at e; rw [ext_word h _ _ _ (by decide) hst]; exact e
    rename_i h7
    rw [if_neg h7]
    split at e
    · rename_i hb
      rw [if_pos hb]
      cases hst : wordM s' [102, 97, 108, 115, 101] i with
      | bad m => rw [hst] at e; cases e
      | ok t => rw [hst] at e; rw [ext_word h _ _ _ (by decide) hst]; exact e
    rename_i h8
    rw [if_neg h8]
    split at e
    · rename_i hb
      rw [if_pos hb]
      cases hst : wordM s' [110, 117, 108, 108] i with
      | bad m => rw [hst] at e; cases e
      | ok t => rw [hst] at e; rw [ext_word h _ _ _ (by decide) hst]; exact e
    · rename_i h9
      rw [if_neg h9]
      have hnum : byt s' i = 45 ∨ isDg (byt s' i) = true := by
        have h1' : isSt (byt s' i) = true := by simpa using h1
        unfold isSt at h1'
        simp only [Bool.or_eq_true, decide_eq_true_eq] at h1'
        rcases h1' with ((((((k | k) | k) | k) | k) | k) | k) | k
        · exact absurd k h4
        · exact absurd k h5
        · exact absurd k h6
        · exact absurd k h7
        · exact absurd k h8
        · exact absurd k h9
        · exact .inl k
        · exact .inr k
      rcases hc with hc | hc
      · cases hst : numM s' i with
        | bad m => rw [hst] at e; cases e
        | ok t =>
          rw [hst] at e
          simp only [Rs.bind_ok] at e
          have e1 : t.2 = y.1 := by cases e; rfl
          rw [← e1] at hc
          rw [ext_num h (Nat.le_of_lt hi) hst hc]
          exact e
      · exact absurd hnum hc
theorem jtx_first {g : Nat → CR} {n p F : Nat} (he : enB (g p) = false) (ho : oneP (g p) = true) (h2 : (g p).k ≠ 2) : ∃ c r, bI (jtx g n (F + 1) p) = c :: r ∧ ¬ (c = 45 ∨ isDg c = true) ∧ isBl c = false := by
  rcases one_kind ho he with k | k | k | k | k | k
  · exact ⟨110, [117, 108, 108], by unfold jtx; rw [if_pos k]; rfl, by decide, by decide⟩
  · by_cases h1 : (g p).n = 1
    · exact ⟨116, [114, 117, 101], by unfold jtx; rw [if_neg (by omega), if_pos k, if_pos h1]; rfl, by decide, by decide⟩
    · exact ⟨102, [97, 108, 115, 101], by unfold jtx; rw [if_neg (by omega), if_pos k, if_neg h1]; rfl, by decide, by decide⟩
  · exact absurd k h2
  · exact ⟨34, _, by unfold jtx; rw [if_neg (by omega), if_neg (by omega), if_neg (by omega), if_pos k, quT_bI], by decide, by decide⟩
  · exact ⟨91, _, by unfold jtx; rw [if_neg (by omega), if_neg (by omega), if_neg (by omega), if_neg (by omega), if_neg (by omega), bI_app, bI_app, List.append_assoc]; rfl, by decide, by decide⟩
  · exact ⟨123, _, by unfold jtx; rw [if_neg (by omega), if_neg (by omega), if_neg (by omega), if_neg (by omega), if_pos k, bI_app, bI_app, List.append_assoc]; rfl, by decide, by decide⟩
theorem ex_cut {s : ByteArray} {m : Nat} (h : m ≤ s.size) : Ex (s.extract 0 m) s := ⟨by rw [size_cut s m h]; exact h, fun k hk => by rw [size_cut s m h] at hk; exact (byt_cut s m k h hk).symm⟩
/-- No beginning of what is written is read, but a number's. -/
theorem rt_cuts {g : Nat → CR} {n m : Nat} (hP : Pln g n) (hn : n ≤ 2048) (hw : wk g n 16 0 = some n) (h0 : em (g 0).nm = true) (h2 : (g 0).k ≠ 2) (hm : m < (jtx g n n 0).size) : ∃ e, readM ((jtx g n n 0).extract 0 m) = .bad e := by
  obtain ⟨T, hT⟩ : ∃ T, T = jtx g n n 0 := ⟨_, rfl⟩
  rw [← hT] at hm ⊢
  have hsz : (T.extract 0 m).size = m := size_cut T m (by omega)
  have hx := ex_cut (show m ≤ T.size by omega)
  obtain ⟨o1, o2, o3, _⟩ := wk_open (Nat.le_refl _) hw
  have hv := rt_val hP 16 0 n n 0 [] (Nat.le_refl _) hw (by omega) (by rw [← hT]; exact at_all T) (by rw [← hT, Nat.zero_add, byt_end (Nat.le_refl _)]; exact ⟨by decide, by decide, by decide, by decide⟩) (by simp; omega)
  rw [em_eq h0, Nat.sub_self, ← hT, Nat.zero_add] at hv
  obtain ⟨F, hF⟩ : ∃ F, n = F + 1 := ⟨n - 1, by omega⟩
  obtain ⟨c, r, hc, hc1, hc2⟩ := jtx_first (n := n) (F := F) (hP.en 0 o1) o2 h2
  rw [← hF, ← hT] at hc
  have hT0 : byt T 0 = c := by
    have h := at_all T
    rw [hc] at h
    exact h.2.1
  cases hr : readM (T.extract 0 m) with
  | bad e => exact ⟨e, rfl⟩
  | ok M =>
    exfalso
    unfold readM at hr
    split at hr
    · cases hr
    · cases hz : valM (T.extract 0 m) 17 ⟨#[]⟩ 0 (bl (T.extract 0 m) 0) [] with
      | bad e => rw [hz] at hr; cases hr
      | ok y =>
        obtain ⟨j, M'⟩ := y
        have hh := valM_here hz
        have hb0 : bl (T.extract 0 m) 0 = 0 := by
          have hm0 : 0 < m := by rw [hsz] at hh; omega
          have e0 : byt (T.extract 0 m) 0 = c := by rw [← hT0]; exact (hx.eq 0 (by omega)).symm
          exact bl_stop (by rw [e0]; exact hc2)
        rw [hb0] at hz hh
        have e0 : byt (T.extract 0 m) 0 = c := by rw [← hT0]; exact (hx.eq 0 hh).symm
        have hfull := valM_ext hx 17 ⟨#[]⟩ 0 0 [] (j, M') hz (.inr (by rw [e0]; exact hc1))
        have hok := valM_ok (T.extract 0 m) 17 0 ⟨#[]⟩ 0 [] j M' (Nat.zero_le _) (by decide) hz
        rw [hv.1] at hfull
        cases hfull
        omega
end Go.Proofs.YtoicmcjpaodgpaaDoor

/- Layer 4: what is read of a text are texts (plain). -/
import Derived.Test.YtoicmcjpaodgpaaDoorBK
import Derived.Test.YtoicmcjpaodgpaaDoorN6
namespace Go.Proofs.YtoicmcjpaodgpaaDoor
open Go.RowKit
/-- Bytes of code points. -/
def PtL (l : List Int) : Prop := ∃ ps : List Int, (∀ p ∈ ps, isPt p = true) ∧ l = ps.flatMap enc
theorem PtL.nil : PtL [] := ⟨[], by simp, rfl⟩
theorem PtL.app {a b : List Int} (h : PtL a) (k : PtL b) : PtL (a ++ b) := by
  obtain ⟨p, p1, rfl⟩ := h
  obtain ⟨q, q1, rfl⟩ := k
  exact ⟨p ++ q, fun x hx => (List.mem_append.1 hx).elim (p1 x) (q1 x), by rw [List.flatMap_append]⟩
theorem PtL.one {p : Int} (h : isPt p = true) : PtL (enc p) := ⟨[p], by simpa using h, by simp⟩
theorem PtL.low {b : Int} (h0 : 0 ≤ b) (h : b < 128) : PtL [b] := by
  rw [← enc_low b h]
  exact PtL.one (by unfold isPt; simp; omega)
theorem PtL.range {l : List Int} (h : PtL l) : ∀ y ∈ l, 0 ≤ y ∧ y < 256 := by
  obtain ⟨ps, h1, rfl⟩ := h
  intro y hy
  obtain ⟨p, hp, hy⟩ := List.mem_flatMap.1 hy
  have hr := isPt_range (h1 p hp)
  exact enc_range hr.1 hr.2 y hy
theorem at_getD {s : ByteArray} : ∀ {L : List Int} {i : Nat}, AtL s i L → ∀ k, k < L.length → byt s (i + k) = L.getD k 0
  | [], _, _, k, hk => by simp at hk
  | c :: r, i, h, k, hk => by
    cases k with
    | zero => exact h.2.1
    | succ k =>
      have := at_getD h.2.2 k (by simpa using hk)
      rw [show i + (k + 1) = i + 1 + k by omega]
      exact this
theorem tw_encs {s : ByteArray} : ∀ (ps : List Int) (i : Nat), (∀ p ∈ ps, isPt p = true) → AtL s i (ps.flatMap enc) → Tw s i (i + (ps.flatMap enc).length)
  | [], i, _, _ => .nil _
  | p :: r, i, hp, h => by
    have e : (p :: r).flatMap enc = enc p ++ r.flatMap enc := rfl
    rw [e, at_app] at h
    rw [e, List.length_append, ← Nat.add_assoc]
    have hl := at_le h.1
    obtain ⟨d1, d2, d3⟩ := dec_enc (hp p (by simp)) hl (at_getD h.1)
    have h1 := enc_len p
    refine .step (by omega) d1 ?_
    rw [d3]
    exact tw_encs r _ (fun q hq => hp q (by simp [hq])) h.2
theorem PtL.tx {l : List Int} (h : PtL l) : isTx (mkB l) = true := by
  have hb : bI (mkB l) = l := bI_mk h.range
  obtain ⟨ps, h1, rfl⟩ := h
  have ha := at_all (mkB (ps.flatMap enc))
  rw [hb] at ha
  have hw := tw_encs ps 0 h1 ha
  rw [Nat.zero_add, ← mkB_size] at hw
  exact Tw.tx hw rfl _ (by omega)
theorem Tw.le {s : ByteArray} {a b : Nat} (h : Tw s a b) : a ≤ b := by
  induction h with
  | nil => exact Nat.le_refl _
  | step h1 h2 _ ih => exact Nat.le_trans (Nat.le_add_right _ _) ih
theorem Tw.inv {s : ByteArray} {a b : Nat} (h : Tw s a b) (hne : a ≠ b) : a < s.size ∧ decIs s a = true ∧ Tw s (a + leadN (byt s a)) b := by
  cases h with
  | nil => exact absurd rfl hne
  | step h1 h2 h3 => exact ⟨h1, h2, h3⟩
/-- From a place to another one no byte but ASCII's. -/
structure Asc (s : ByteArray) (i j : Nat) : Prop where
  le : i ≤ j
  lt : ∀ k, i ≤ k → k < j → byt s k < 128
theorem Asc.refl (s : ByteArray) (i : Nat) : Asc s i i := ⟨Nat.le_refl _, fun k h1 h2 => by omega⟩
theorem Asc.trans {s : ByteArray} {i j k : Nat} (h : Asc s i j) (g : Asc s j k) : Asc s i k := ⟨Nat.le_trans h.le g.le, fun x h1 h2 => by
  by_cases e : x < j
  · exact h.lt x h1 e
  · exact g.lt x (by omega) h2⟩
theorem Asc.one {s : ByteArray} {i : Nat} (h : byt s i < 128) : Asc s i (i + 1) := ⟨by omega, fun k h1 h2 => by
  obtain rfl : k = i := by omega
  exact h⟩
theorem Tw.asc {s : ByteArray} {i j : Nat} (h : Tw s i s.size) (a : Asc s i j) (hj : j ≤ s.size) : Tw s j s.size := by
  obtain ⟨d, rfl⟩ : ∃ d, j = i + d := ⟨j - i, by have := a.le; omega⟩
  induction d generalizing i with
  | zero => exact h
  | succ d ih =>
    · obtain ⟨h1, h2, h3⟩ := h.inv (by omega)
      have hb := a.lt i (Nat.le_refl _) (by omega)
      rw [(asc_dec hb).2] at h3
      have := ih h3 ⟨by omega, fun k k1 k2 => a.lt k (by omega) (by omega)⟩ (by omega)
      rw [show i + (d + 1) = i + 1 + d by omega]
      exact this
theorem bl_asc (s : ByteArray) (i : Nat) : Asc s i (bl s i) := by
  have key : ∀ f i, s.size - i ≤ f → Asc s i (bl s i) := by
    intro f
    induction f with
    | zero =>
      intro i hf
      rw [bl_stop (by rw [byt_end (by omega)]; decide)]
      exact .refl _ _
    | succ f ih =>
      intro i hf
      cases hb : isBl (byt s i) with
      | false => rw [bl_stop hb]; exact .refl _ _
      | true =>
        rw [bl_step hb]
        refine Asc.trans (Asc.one ?_) (ih (i + 1) (by omega))
        unfold isBl at hb
        simp only [Bool.or_eq_true, decide_eq_true_eq] at hb
        omega
  exact key _ i (Nat.le_refl _)
theorem dg_ascii (s : ByteArray) (i : Nat) : Asc s i (dg s i) := by
  have key : ∀ f i, s.size - i ≤ f → Asc s i (dg s i) := by
    intro f
    induction f with
    | zero =>
      intro i hf
      rw [dg_stop (by rw [byt_end (by omega)]; decide)]
      exact .refl _ _
    | succ f ih =>
      intro i hf
      cases hb : isDg (byt s i) with
      | false => rw [dg_stop hb]; exact .refl _ _
      | true =>
        rw [dg_step hb]
        refine Asc.trans (Asc.one ?_) (ih (i + 1) (by omega))
        unfold isDg at hb
        simp only [Bool.and_eq_true, decide_eq_true_eq] at hb
        omega
  exact key _ i (Nat.le_refl _)
theorem word_asc {s : ByteArray} : ∀ {l : List Int} {i j : Nat}, (∀ c ∈ l, c < 128) → wordM s l i = .ok j → Asc s i j
  | [], i, j, _, e => by cases e; exact .refl _ _
  | c :: r, i, j, hc, e => by
    unfold wordM at e
    split at e
    · rename_i hb
      exact Asc.trans (Asc.one (by rw [hb]; exact hc c (by simp))) (word_asc (fun x hx => hc x (by simp [hx])) e)
    · cases e
theorem num_asc {s : ByteArray} {i d : Nat} {n : Int} (e : numM s i = .ok (n, d)) : Asc s i d := by
  unfold numM at e
  cases hb : intM s i with
  | bad m => rw [hb] at e; cases e
  | ok b =>
    rw [hb] at e
    simp only [Rs.bind_ok] at e
    have hde : expoM s (fracM s b) = d := by
      split at e
      · cases e; rfl
      · cases e
    have a1 : Asc s i b := by
      unfold intM at hb
      obtain ⟨a, ha⟩ : ∃ a, a = if byt s i = 45 then i + 1 else i := ⟨_, rfl⟩
      have ha1 : Asc s i a := by
        rw [ha]
        split
        · exact Asc.one (by omega)
        · exact .refl _ _
      simp only [← ha] at hb
      split at hb
      · cases hb; exact ha1.trans (Asc.one (by omega))
      · split at hb
        · cases hb
        · cases hb; exact ha1.trans (dg_ascii s a)
    have a2 : Asc s b (fracM s b) := by
      unfold fracM
      split
      · split
        · exact .refl _ _
        · exact (Asc.one (by omega)).trans (dg_ascii s (b + 1))
      · exact .refl _ _
    have a3 : Asc s (fracM s b) (expoM s (fracM s b)) := by
      obtain ⟨c, hc⟩ : ∃ c, c = fracM s b := ⟨_, rfl⟩
      rw [← hc]
      unfold expoM
      split
      · dsimp only
        obtain ⟨c5, hc5⟩ : ∃ c5, c5 = if byt s (c + 1) = 43 ∨ byt s (c + 1) = 45 then c + 2 else c + 1 := ⟨_, rfl⟩
        rw [← hc5]
        split
        · exact .refl _ _
        · have q : Asc s c c5 := by
            rw [hc5]
            split
            · exact (Asc.one (by omega)).trans (Asc.one (by omega))
            · exact Asc.one (by omega)
          exact q.trans (dg_ascii s c5)
      · exact .refl _ _
    rw [← hde]
    exact (a1.trans a2).trans a3
theorem hex_asc {b : Int} (h : ¬ hexV b < 0) : b < 128 := by
  unfold hexV at h
  (repeat' split at h) <;> omega
theorem four_asc {s : ByteArray} : ∀ {k i : Nat} {n : Int} {x : Int × Nat}, fourF s k i n = .ok x → Asc s i x.2
  | 0, i, n, x, e => by cases e; exact .refl _ _
  | k + 1, i, n, x, e => by
    unfold fourF at e
    split at e
    · cases e
    · rename_i hh
      exact (Asc.one (hex_asc hh)).trans (four_asc e)
theorem point_asc {s : ByteArray} {i : Nat} {x : Int × Nat} (e : pointM s i = .ok x) : Asc s i x.2 ∧ isPt x.1 = true := by
  unfold pointM at e
  cases h1 : fourF s 4 i 0 with
  | bad m => rw [h1] at e; cases e
  | ok y =>
    rw [h1] at e
    have a1 := four_asc h1
    simp only [Rs.bind_ok] at e
    split at e
    · rename_i hh
      cases h2 : wordM s [92, 117] y.2 with
      | bad m => rw [h2] at e; cases e
      | ok j =>
        rw [h2] at e
        have a2 := word_asc (by decide) h2
        simp only [Rs.bind_ok] at e
        cases h3 : fourF s 4 j 0 with
        | bad m => rw [h3] at e; cases e
        | ok z =>
          rw [h3] at e
          have a3 := four_asc h3
          simp only [Rs.bind_ok] at e
          split at e
          · cases e
          · cases e
            refine ⟨(a1.trans a2).trans a3, ?_⟩
            unfold isPt
            simp
            omega
    · split at e
      · cases e
        exact ⟨a1, by assumption⟩
      · cases e
theorem esc_pt {s : ByteArray} {i j : Nat} {m : List Int} (e : escM s i = .ok (m, j)) : Asc s i j ∧ PtL m := by
  have hr := byt_range s i
  unfold escM at e
  dsimp only at e
  split at e
  · cases e
    exact ⟨Asc.one (by omega), PtL.low hr.1 (by omega)⟩
  split at e
  · cases e
    exact ⟨Asc.one (by omega), PtL.low (by decide) (by decide)⟩
  split at e
  · cases e
    exact ⟨Asc.one (by omega), PtL.low (by decide) (by decide)⟩
  split at e
  · cases e
    exact ⟨Asc.one (by omega), PtL.low (by decide) (by decide)⟩
  split at e
  · cases e
    exact ⟨Asc.one (by omega), PtL.low (by decide) (by decide)⟩
  split at e
  · cases e
    exact ⟨Asc.one (by omega), PtL.low (by decide) (by decide)⟩
  split at e
  · cases hp : pointM s (i + 1) with
    | bad m' => rw [hp] at e; cases e
    | ok x =>
      rw [hp] at e
      obtain ⟨p1, p2⟩ := point_asc hp
      simp only [Rs.bind_ok] at e
      cases e
      exact ⟨(Asc.one (by omega)).trans p1, PtL.one p2⟩
  · cases e
/-- Raw bytes from 128 on are taken as they are. -/
theorem strF_raw {s : ByteArray} : ∀ (z f j : Nat) (l : List Int) (x : List Int × Nat), (∀ k, k < z → 128 ≤ byt s (j + k)) → strF s f j l = .ok x → ∃ f', f' + z = f ∧ strF s f' (j + z) (l ++ (List.range z).map fun k => byt s (j + k)) = .ok x
  | 0, f, j, l, x, _, e => ⟨f, rfl, by simpa using e⟩
  | z + 1, f, j, l, x, h, e => by
    cases f with
    | zero => cases e
    | succ f =>
      have h0 := h 0 (by omega)
      rw [Nat.add_zero] at h0
      rw [strF, if_neg (by omega), if_neg (by omega), if_neg (by omega)] at e
      obtain ⟨f', h1, h2⟩ := strF_raw z f (j + 1) _ x (fun k hk => by have := h (k + 1) (by omega); rw [show j + 1 + k = j + (k + 1) by omega]; exact this) e
      refine ⟨f', by omega, ?_⟩
      rw [show j + (z + 1) = j + 1 + z by omega, List.range_succ_eq_map, List.map_cons, List.map_map]
      rw [List.append_assoc] at h2
      have e3 : ((fun k => byt s (j + k)) ∘ Nat.succ) = fun k => byt s (j + 1 + k) := by
        funext k
        show byt s (j + (k + 1)) = byt s (j + 1 + k)
        rw [show j + (k + 1) = j + 1 + k by omega]
      rw [e3]
      exact h2
theorem map_range_eq {s : ByteArray} {a : Nat} {L : List Int} (h : ∀ k, k < L.length → byt s (a + k) = L.getD k 0) : ((List.range L.length).map fun k => byt s (a + k)) = L := by
  apply List.ext_getElem?
  intro k
  rw [List.getElem?_map]
  by_cases hk : k < L.length
  · rw [List.getElem?_range hk, Option.map_some, h k hk, List.getD_eq_getElem?_getD, List.getElem?_eq_getElem hk]; rfl
  · rw [List.getElem?_eq_none (by simpa using hk), List.getElem?_eq_none (by omega)]; rfl
theorem strF_pt {s : ByteArray} : ∀ (n f j : Nat) (l : List Int) (x : List Int × Nat), f ≤ n → Tw s j s.size → PtL l → strF s f j l = .ok x → PtL x.1 ∧ Tw s x.2 s.size
  | 0, f, j, l, x, hn, _, _, e => by
    obtain rfl : f = 0 := by omega
    cases e
  | n + 1, f, j, l, x, hn, hw, hl, e => by
    cases f with
    | zero => cases e
    | succ f =>
      have hj : j < s.size := by
        by_cases k : j < s.size
        · exact k
        · rw [strF, byt_end (by omega)] at e
          cases e
      obtain ⟨_, hd, hw2⟩ := hw.inv (by omega)
      by_cases hb : byt s j < 128
      · rw [(asc_dec hb).2] at hw2
        rw [strF] at e
        split at e
        · cases e
          exact ⟨hl, hw2⟩
        split at e
        · cases he : escM s (j + 1) with
          | bad m => rw [he] at e; cases e
          | ok y =>
            obtain ⟨m, j'⟩ := y
            rw [he] at e
            obtain ⟨a1, a2⟩ := esc_pt he
            exact strF_pt n f j' _ x (by omega) (hw2.asc a1 (escM_ok he).2.1) (hl.app a2) e
        split at e
        · cases e
        · exact strF_pt n f (j + 1) _ x (by omega) hw2 (hl.app (PtL.low (byt_range s j).1 hb)) e
      · have h1 := (decIs_lead hd).1
        have hcb := conts_byt _ (decIs_lead hd).2
        obtain ⟨f', e1, e2⟩ := strF_raw (leadN (byt s j)) (f + 1) j l x (fun k hk => by
          cases k with
          | zero => rw [Nat.add_zero]; omega
          | succ k =>
            have := hcb k (by omega)
            rw [show j + (k + 1) = j + 1 + k by omega]
            exact this) e
        obtain ⟨q1, q2⟩ := enc_dec hd
        rw [← q1] at q2
        have hm := map_range_eq q2
        rw [q1] at hm
        rw [hm] at e2
        have hpt : isPt (decP s j) = true := by
          have hdd := hd
          unfold decIs at hdd
          simp only [Bool.and_eq_true] at hdd
          unfold decP
          rw [hd]
          exact hdd.1.2
        exact strF_pt n f' _ _ x (by omega) hw2 (hl.app (PtL.one hpt)) e2
theorem strM_pt {s : ByteArray} {i : Nat} {x : List Int × Nat} (hw : Tw s i s.size) (e : strM s i = .ok x) : PtL x.1 ∧ Tw s x.2 s.size := by
  have hi := str_here e
  unfold strM at e
  cases h1 : wordM s [34] i with
  | bad m => rw [h1] at e; cases e
  | ok j =>
    rw [h1] at e
    obtain ⟨w1, rfl⟩ := word1 h1
    exact strF_pt _ _ _ _ _ (Nat.le_refl _) (hw.asc (Asc.one (by omega)) (by omega)) PtL.nil e
end Go.Proofs.YtoicmcjpaodgpaaDoor

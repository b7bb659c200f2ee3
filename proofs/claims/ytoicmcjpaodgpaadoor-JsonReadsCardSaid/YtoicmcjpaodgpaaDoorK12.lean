import Derived.Test.YtoicmcjpaodgpaaDoorK11
import Derived.Test.YtoicmcjpaodgpaaDoorK10
import Derived.Test.YtoicmcjpaodgpaaDoorK8
/- Layer 4: what is read of a text are texts (plain). -/
namespace Go.Proofs.YtoicmcjpaodgpaaDoor
open Go.RowKit
/-- Bytes of code points. -/
def PtL (l : List Int) : Prop := ∃ ps : List Int, (∀ p ∈ ps, isPt p = true) ∧ l = ps.flatMap enc
theorem PtL.nil : PtL [] := ⟨[], by simp, rfl⟩
theorem PtL.app {a b : List Int} (h : PtL a) (k : PtL b) : PtL (a ++ b) := by
  obtain ⟨p, p1, rfl⟩ := h
  obtain ⟨q, q1, rfl⟩ := k
  exact ⟨p ++ q, fun x hx => (List.mem_append.1 hx).elim (p1 x) (q1 x), by rw [List.flatMap_append]⟩
theorem PtL.one {p : Int} (h : isPt p = true) : PtL (enc p) := ⟨[p], by simpa using h, by simp⟩
theorem PtL.low {b : Int} (h0 : 0 ≤ b) (h : b < 128) : PtL [b] := by
  rw [← enc_low b h]
  exact PtL.one (by unfold isPt; simp; omega)
theorem PtL.range {l : List Int} (h : PtL l) : ∀ y ∈ l, 0 ≤ y ∧ y < 256 := by
  obtain ⟨ps, h1, rfl⟩ := h
  intro y hy
  obtain ⟨p, hp, hy⟩ := List.mem_flatMap.1 hy
  have hr := isPt_range (h1 p hp)
  exact enc_range hr.1 hr.2 y hy
theorem at_getD {s : ByteArray} : ∀ {L : List Int} {i : Nat}, AtL s i L → ∀ k, k < L.length → byt s (i + k) = L.getD k 0
  | [], _, _, k, hk => by simp at hk
  | c :: r, i, h, k, hk => by
    cases k with
    | zero => exact h.2.1
    | succ k =>
      have := at_getD h.2.2 k (by simpa using hk)
      rw [show i + (k + 1) = i + 1 + k by omega]
      exact this
theorem tw_encs {s : ByteArray} : ∀ (ps : List Int) (i : Nat), (∀ p ∈ ps, isPt p = true) → AtL s i (ps.flatMap enc) → Tw s i (i + (ps.flatMap enc).length)
  | [], i, _, _ => .nil _
  | p :: r, i, hp, h => by
    have e : (p :: r).flatMap enc = enc p ++ r.flatMap enc := rfl
    rw [e, at_app] at h
    rw [e, List.length_append, ← Nat.add_assoc]
    have hl := at_le h.1
    obtain ⟨d1, d2, d3⟩ := dec_enc (hp p (by simp)) hl (at_getD h.1)
    have h1 := enc_len p
    refine .step (by omega) d1 ?_
    rw [d3]
    exact tw_encs r _ (fun q hq => hp q (by simp [hq])) h.2
theorem PtL.tx {l : List Int} (h : PtL l) : isTx (mkB l) = true := by
  have hb : bI (mkB l) = l := bI_mk h.range
  obtain ⟨ps, h1, rfl⟩ := h
  have ha := at_all (mkB (ps.flatMap enc))
  rw [hb] at ha
  have hw := tw_encs ps 0 h1 ha
  rw [Nat.zero_add, ← mkB_size] at hw
  exact Tw.tx hw rfl _ (by omega)
theorem Tw.le {s : ByteArray} {a b : Nat} (h : Tw s a b) : a ≤ b := by
  induction h with
  | nil => exact Nat.le_refl _
  | step h1 h2 _ ih => exact Nat.le_trans (Nat.le_add_right _ _) ih
theorem Tw.inv {s : ByteArray} {a b : Nat} (h : Tw s a b) (hne : a ≠ b) : a < s.size ∧ decIs s a = true ∧ Tw s (a + leadN (byt s a)) b := by
  cases h with
  | nil => exact absurd rfl hne
  | step h1 h2 h3 => exact ⟨h1, h2, h3⟩
/-- From a place to another one no byte but ASCII's. -/
structure Asc (s : ByteArray) (i j : Nat) : Prop where
  le : i ≤ j
  lt : ∀ k, i ≤ k → k < j → byt s k < 128
theorem Asc.refl (s : ByteArray) (i : Nat) : Asc s i i := ⟨Nat.le_refl _, fun k h1 h2 => by omega⟩
theorem Asc.trans {s : ByteArray} {i j k : Nat} (h : Asc s i j) (g : Asc s j k) : Asc s i k := ⟨Nat.le_trans h.le g.le, fun x h1 h2 => by
  by_cases e : x < j
  · exact h.lt x h1 e
  · exact g.lt x (by omega) h2⟩
theorem Asc.one {s : ByteArray} {i : Nat} (h : byt s i < 128) : Asc s i (i + 1) := ⟨by omega, fun k h1 h2 => by
  obtain rfl : k = i := by omega
  exact h⟩
theorem Tw.asc {s : ByteArray} {i j : Nat} (h : Tw s i s.size) (a : Asc s i j) (hj : j ≤ s.size) : Tw s j s.size := by
  obtain ⟨d, rfl⟩ : ∃ d, j = i + d := ⟨j - i, by have := a.le; omega⟩
  induction d generalizing i with
  | zero => exact h
  | succ d ih =>
    · obtain ⟨h1, h2, h3⟩ := h.inv (by omega)
      have hb := a.lt i (Nat.le_refl _) (by omega)
      rw [(asc_dec hb).2] at h3
      have := ih h3 ⟨by omega, fun k k1 k2 => a.lt k (by omega) (by omega)⟩ (by omega)
      rw [show i + (d + 1) = i + 1 + d by omega]
      exact this
theorem bl_asc (s : ByteArray) (i : Nat) : Asc s i (bl s i) := by
  have key : ∀ f i, s.size - i ≤ f → Asc s i (bl s i) := by
    intro f
    induction f with
    | zero =>
      intro i hf
      rw [bl_stop (by rw [byt_end (by omega)]; decide)]
      exact .refl _ _
    | succ f ih =>
      intro i hf
      cases hb : isBl (byt s i) with
      | false => rw [bl_stop hb]; exact .refl _ _
      | true =>
        rw [bl_step hb]
        refine Asc.trans (Asc.one ?_) (ih (i + 1) (by omega))
        unfold isBl at hb
        simp only [Bool.or_eq_true, decide_eq_true_eq] at hb
        omega
  exact key _ i (Nat.le_refl _)
theorem dg_ascii (s : ByteArray) (i : Nat) : Asc s i (dg s i) := by
  have key : ∀ f i, s.size - i ≤ f → Asc s i (dg s i) := by
    intro f
    induction f with
    | zero =>
      intro i hf
      rw [dg_stop (by rw [byt_end (by omega)]; decide)]
      exact .refl _ _
    | succ f ih =>
      intro i hf
      cases hb : isDg (byt s i) with
      | false => rw [dg_stop hb]; exact .refl _ _
      | true =>
        rw [dg_step hb]
        refine Asc.trans (Asc.one ?_) (ih (i + 1) (by omega))
        unfold isDg at hb
        simp only [Bool.and_eq_true, decide_eq_true_eq] at hb
        omega
  exact key _ i (Nat.le_refl _)
theorem word_asc {s : ByteArray} : ∀ {l : List Int} {i j : Nat}, (∀ c ∈ l, c < 128) → wordM s l i = .ok j → Asc s i j
  | [], i, j, _, e => by cases e; exact .refl _ _
  | c :: r, i, j, hc, e => by
    unfold wordM at e
    split at e
    · rename_i hb
      exact Asc.trans (Asc.one (by rw [hb]; exact hc c (by simp))) (word_asc (fun x hx => hc x (by simp [hx])) e)
    · cases e
theorem num_asc {s : ByteArray} {i d : Nat} {n : Int} (e : numM s i = .ok (n, d)) : Asc s i d := by
  unfold numM at e
  cases hb : intM s i with
  | bad m => rw [hb] at e; cases e
  | ok b =>
    rw [hb] at e
    simp only [Rs.bind_ok] at e
    have hde : expoM s (fracM s b) = d := by
      split at e
      · cases e; rfl
      · cases e
    have a1 : Asc s i b := by
      unfold intM at hb
      obtain ⟨a, ha⟩ : ∃ a, a = if byt s i = 45 then i + 1 else i := ⟨_, rfl⟩
      have ha1 : Asc s i a := by
        rw [ha]
        split
        · exact Asc.one (by omega)
        · exact .refl _ _
      simp only [← ha] at hb
      split at hb
      · cases hb; exact ha1.trans (Asc.one (by omega))
      · split at hb
        · cases hb
        · cases hb; exact ha1.trans (dg_ascii s a)
    have a2 : Asc s b (fracM s b) := by
      unfold fracM
      split
      · split
        · exact .refl _ _
        · exact (Asc.one (by omega)).trans (dg_ascii s (b + 1))
      · exact .refl _ _
    have a3 : Asc s (fracM s b) (expoM s (fracM s b)) := by
      obtain ⟨c, hc⟩ : ∃ c, c = fracM s b := ⟨_, rfl⟩
      rw [← hc]
      unfold expoM
      split
      · dsimp only
        obtain ⟨c5, hc5⟩ : ∃ c5, c5 = if byt s (c + 1) = 43 ∨ byt s (c + 1) = 45 then c + 2 else c + 1 := ⟨_, rfl⟩
        rw [← hc5]
        split
        · exact .refl _ _
        · have q : Asc s c c5 := by
            rw [hc5]
            split
            · exact (Asc.one (by omega)).trans (Asc.one (by omega))
            · exact Asc.one (by omega)
          exact q.trans (dg_ascii s c5)
      · exact .refl _ _
    rw [← hde]
    exact (a1.trans a2).trans a3
theorem hex_asc {b : Int} (h : ¬ hexV b < 0) : b < 128 := by
  unfold hexV at h
  (repeat' split at h) <;> omega
theorem four_asc {s : ByteArray} : ∀ {k i : Nat} {n : Int} {x : Int × Nat}, fourF s k i n = .ok x → Asc s i x.2
  | 0, i, n, x, e => by cases e; exact .refl _ _
  | k + 1, i, n, x, e => by
    unfold fourF at e
    split at e
    · cases e
    · rename_i hh
      exact (Asc.one (hex_asc hh)).trans (four_asc e)
theorem point_asc {s : ByteArray} {i : Nat} {x : Int × Nat} (e : pointM s i = .ok x) : Asc s i x.2 ∧ isPt x.1 = true := by
  unfold pointM at e
  cases h1 : fourF s 4 i 0 with
  | bad m => rw [h1] at e; cases e
  | ok y =>
    rw [h1] at e
    have a1 := four_asc h1
    simp only [Rs.bind_ok] at e
    split at e
    · rename_i hh
      cases h2 : wordM s [92, 117] y.2 with
      | bad m => rw [h2] at e; cases e
      | ok j =>
        rw [h2] at e
        have a2 := word_asc (by decide) h2
        simp only [Rs.bind_ok] at e
        cases h3 : fourF s 4 j 0 with
        | bad m => rw [h3] at e; cases e
        | ok z =>
          rw [h3] at e
          have a3 := four_asc h3
          simp only [Rs.bind_ok] at e
          split at e
          · cases e
          · cases e
            refine ⟨(a1.trans a2).trans a3, ?_⟩
            unfold isPt
            simp
            omega
    · split at e
      · cases e
        exact ⟨a1, by assumption⟩
      · cases e
theorem esc_pt {s : ByteArray} {i j : Nat} {m : List Int} (e : escM s i = .ok (m, j)) : Asc s i j ∧ PtL m := by
  have hr := byt_range s i
  unfold escM at e
  dsimp only at e
  split at e
  · cases e
    exact ⟨Asc.one (by omega), PtL.low hr.1 (by omega)⟩
  split at e
  · cases e
    exact ⟨Asc.one (by omega), PtL.low (by decide) (by decide)⟩
  split at e
  · cases e
    exact ⟨Asc.one (by omega), PtL.low (by decide) (by decide)⟩
  split at e
  · cases e
    exact ⟨Asc.one (by omega), PtL.low (by decide) (by decide)⟩
  split at e
  · cases e
    exact ⟨Asc.one (by omega), PtL.low (by decide) (by decide)⟩
  split at e
  · cases e
    exact ⟨Asc.one (by omega), PtL.low (by decide) (by decide)⟩
  split at e
  · cases hp : pointM s (i + 1) with
    | bad m' => rw [hp] at e; cases e
    | ok x =>
      rw [hp] at e
      obtain ⟨p1, p2⟩ := point_asc hp
      simp only [Rs.bind_ok] at e
      cases e
      exact ⟨(Asc.one (by omega)).trans p1, PtL.one p2⟩
  · cases e
/-- Raw bytes from 128 on are taken as they are. -/
theorem strF_raw {s : ByteArray} : ∀ (z f j : Nat) (l : List Int) (x : List Int × Nat), (∀ k, k < z → 128 ≤ byt s (j + k)) → strF s f j l = .ok x → ∃ f', f' + z = f ∧ strF s f' (j + z) (l ++ (List.range z).map fun k => byt s (j + k)) = .ok x
  | 0, f, j, l, x, _, e => ⟨f, rfl, by simpa using e⟩
  | z + 1, f, j, l, x, h, e => by
    cases f with
    | zero => cases e
    | succ f =>
      have h0 := h 0 (by omega)
      rw [Nat.add_zero] at h0
      rw [strF, if_neg (by omega), if_neg (by omega), if_neg (by omega)] at e
      obtain ⟨f', h1, h2⟩ := strF_raw z f (j + 1) _ x (fun k hk => by have := h (k + 1) (by omega); rw [show j + 1 + k = j + (k + 1) by omega]; exact this) e
      refine ⟨f', by omega, ?_⟩
      rw [show j + (z + 1) = j + 1 + z by omega, List.range_succ_eq_map, List.map_cons, List.map_map]
      rw [List.append_assoc] at h2
      have e3 : ((fun k => byt s (j + k)) ∘ Nat.succ) = fun k => byt s (j + 1 + k) := by
        funext k
        show byt s (j + (k + 1)) = byt s (j + 1 + k)
        rw [show j + (k + 1) = j + 1 + k by omega]
      rw [e3]
      exact h2
theorem map_range_eq {s : ByteArray} {a : Nat} {L : List Int} (h : ∀ k, k < L.length → byt s (a + k) = L.getD k 0) : ((List.range L.length).map fun k => byt s (a + k)) = L := by
  apply List.ext_getElem?
  intro k
  rw [List.getElem?_map]
  by_cases hk : k < L.length
  · rw [List.getElem?_range hk, Option.map_some, h k hk, List.getD_eq_getElem?_getD, List.getElem?_eq_getElem hk]; rfl
  · rw [List.getElem?_eq_none (by simpa using hk), List.getElem?_eq_none (by omega)]; rfl
theorem strF_pt {s : ByteArray} : ∀ (n f j : Nat) (l : List Int) (x : List Int × Nat), f ≤ n → Tw s j s.size → PtL l → strF s f j l = .ok x → PtL x.1 ∧ Tw s x.2 s.size
  | 0, f, j, l, x, hn, _, _, e => by
    obtain rfl : f = 0 := by omega
    cases e
  | n + 1, f, j, l, x, hn, hw, hl, e => by
    cases f with
    | zero => cases e
    | succ f =>
      have hj : j < s.size := by
        by_cases k : j < s.size
        · exact k
        · rw [strF, byt_end (by omega)] at e
          cases e
      obtain ⟨_, hd, hw2⟩ := hw.inv (by omega)
      by_cases hb : byt s j < 128
      · rw [(asc_dec hb).2] at hw2
        rw [strF] at e
        split at e
        · cases e
          exact ⟨hl, hw2⟩
        split at e
        · cases he : escM s (j + 1) with
          | bad m => rw [he] at e; cases e
          | ok y =>
            obtain ⟨m, j'⟩ := y
            rw [he] at e
            obtain ⟨a1, a2⟩ := esc_pt he
            exact strF_pt n f j' _ x (by omega) (hw2.asc a1 (escM_ok he).2.1) (hl.app a2) e
        split at e
        · cases e
        · exact strF_pt n f (j + 1) _ x (by omega) hw2 (hl.app (PtL.low (byt_range s j).1 hb)) e
      · have h1 := (decIs_lead hd).1
        have hcb := conts_byt _ (decIs_lead hd).2
        obtain ⟨f', e1, e2⟩ := strF_raw (leadN (byt s j)) (f + 1) j l x (fun k hk => by
          cases k with
          | zero => rw [Nat.add_zero]; omega
          | succ k =>
            have := hcb k (by omega)
            rw [show j + (k + 1) = j + 1 + k by omega]
            exact this) e
        obtain ⟨q1, q2⟩ := enc_dec hd
        rw [← q1] at q2
        have hm := map_range_eq q2
        rw [q1] at hm
        rw [hm] at e2
        have hpt : isPt (decP s j) = true := by
          have hdd := hd
          unfold decIs at hdd
          simp only [Bool.and_eq_true] at hdd
          unfold decP
          rw [hd]
          exact hdd.1.2
        exact strF_pt n f' _ _ x (by omega) hw2 (hl.app (PtL.one hpt)) e2
theorem strM_pt {s : ByteArray} {i : Nat} {x : List Int × Nat} (hw : Tw s i s.size) (e : strM s i = .ok x) : PtL x.1 ∧ Tw s x.2 s.size := by
  have hi := str_here e
  unfold strM at e
  cases h1 : wordM s [34] i with
  | bad m => rw [h1] at e; cases e
  | ok j =>
    rw [h1] at e
    obtain ⟨w1, rfl⟩ := word1 h1
    exact strF_pt _ _ _ _ _ (Nat.le_refl _) (hw.asc (Asc.one (by omega)) (by omega)) PtL.nil e
end Go.Proofs.YtoicmcjpaodgpaaDoor
/- Layer 4, the document's Read: its reader in memory; fail, look. -/
namespace Go.Proofs.YtoicmcjpaodgpaaDoor
open Go.RowKit Go.Maps
/-- The document's reader: its box, and its row. -/
structure RfB (w : World) (p : Nat) (s : ByteArray) (i : Nat) (v : Value) (L : List CR) (e : Int) : Prop where
  box : w.heap[p]? = some (.cells #[.string s, .int .i64 i, v, .int .i64 e] 49)
  row : w.ownsRow (p + 1) 42 5 v L.length (rw5 L)
theorem RfB.lt {w : World} {p i : Nat} {s : ByteArray} {v : Value} {L : List CR} {e : Int} (h : RfB w p s i v L e) : p < w.heap.size := (Array.getElem?_eq_some_iff.1 h.box).1
theorem RfB.c0 {w : World} {p i : Nat} {s : ByteArray} {v : Value} {L : List CR} {e : Int} (h : RfB w p s i v L e) : w.cell? ⟨p, 0, none⟩ = some (.string s) := by simp [World.cell?, h.box]
theorem RfB.c1 {w : World} {p i : Nat} {s : ByteArray} {v : Value} {L : List CR} {e : Int} (h : RfB w p s i v L e) : w.cell? ⟨p, 1, none⟩ = some (.int .i64 i) := by simp [World.cell?, h.box]
theorem RfB.c2 {w : World} {p i : Nat} {s : ByteArray} {v : Value} {L : List CR} {e : Int} (h : RfB w p s i v L e) : w.cell? ⟨p, 2, none⟩ = some v := by simp [World.cell?, h.box]
theorem RfB.c3 {w : World} {p i : Nat} {s : ByteArray} {v : Value} {L : List CR} {e : Int} (h : RfB w p s i v L e) : w.cell? ⟨p, 3, none⟩ = some (.int .i64 e) := by simp [World.cell?, h.box]
theorem RfB.z {w : World} {p i : Nat} {s : ByteArray} {v : Value} {L : List CR} {e : Int} (h : RfB w p s i v L e) (o : Nat) : w.frozen? ⟨p, o, none⟩ = false := by simp [World.frozen?, h.box]
theorem RfB.far {w : World} {p i : Nat} {s : ByteArray} {v : Value} {L : List CR} {e : Int} (h : RfB w p s i v L e) : ∀ k, v.ownBlock = some k → p + 1 ≤ k := fun k hk => (h.row.lt k hk).1
theorem RfB.setB {w : World} {p i : Nat} {s : ByteArray} {v : Value} {L : List CR} {e : Int} (h : RfB w p s i v L e) (o : Nat) (x : Value) : w.ownsRow (p + 1) 42 5 v L.length (rw5 L) ∧ (w.setCell ⟨p, o, none⟩ x).ownsRow (p + 1) 42 5 v L.length (rw5 L) ∧ Fr p v v w (w.setCell ⟨p, o, none⟩ x) := by
  have hk : ∀ k, k ≠ p → (w.setCell ⟨p, o, none⟩ x).heap[k]? = w.heap[k]? := fun k hk => Below.heap_setCell w ⟨p, o, none⟩ _ k hk
  exact ⟨h.row, own_move h.row (fun j hj => hk j (by have := h.far j hj; omega)), ⟨rfl, rfl, rfl, by simp, fun k _ h1 _ => hk k h1, fun _ e => .inl e⟩⟩
theorem RfB.at_ {w : World} {p i : Nat} {s : ByteArray} {v : Value} {L : List CR} {e : Int} (h : RfB w p s i v L e) (j : Nat) (x : Int) (hx : x = (j : Nat)) : RfB (w.setCell ⟨p, 1, none⟩ (.int .i64 x)) p s j v L e ∧ Fr p v v w (w.setCell ⟨p, 1, none⟩ (.int .i64 x)) := by
  subst hx
  obtain ⟨_, k2, k3⟩ := h.setB 1 (.int .i64 j)
  exact ⟨⟨by simp [World.setCell, Array.getElem?_modify, h.box], k2⟩, k3⟩
theorem RfB.err {w : World} {p i : Nat} {s : ByteArray} {v : Value} {L : List CR} {e : Int} (h : RfB w p s i v L e) (m : Int) : RfB (w.setCell ⟨p, 3, none⟩ (.int .i64 m)) p s i v L m ∧ Fr p v v w (w.setCell ⟨p, 3, none⟩ (.int .i64 m)) := by
  obtain ⟨_, k2, k3⟩ := h.setB 3 (.int .i64 m)
  exact ⟨⟨by simp [World.setCell, Array.getElem?_modify, h.box], k2⟩, k3⟩
theorem RfB.below {w w' : World} {p i : Nat} {s : ByteArray} {v : Value} {L : List CR} {e : Int} (h : RfB w p s i v L e) (b : Below w.heap.size w w') : RfB w' p s i v L e ∧ Fr p v v w w' := by
  have hk : ∀ k, k < w.heap.size → w'.heap[k]? = w.heap[k]? := fun k hk => b.block k hk
  exact ⟨⟨by rw [hk p h.lt]; exact h.box, own_move h.row (fun j hj => hk j (h.row.lt j hj).2)⟩, ⟨b.os, b.tape, b.output, b.size, fun k h1 _ _ => hk k h1, fun _ e => .inl e⟩⟩
theorem RfB.dr {w w' : World} {p i : Nat} {s : ByteArray} {v : Value} {L : List CR} {e : Int} (h : RfB w p s i v L e) (d : Dr w w') : RfB w' p s i v L e ∧ Fr p v v w w' := h.below (d.below _)
/-- The byte that is looked at: none behind an error. -/
def lk (s : ByteArray) (e : Int) (i : Nat) : Int := if e = 0 then byt s i else 0
set_option maxRecDepth 20000 in
theorem rfail_ok {p i : Nat} {s : ByteArray} {v : Value} {L : List CR} (m : Int) (w : World) (h : RfB w p s i v L 0) : Calls Tryd.prog 25 #[.pointer (some ⟨p, 0, none⟩), .int .i64 m] w fun e w' => e = .returned (.tuple #[]) ∧ RfB w' p s i v L m ∧ Fr p v v w w' := by
  have c3 := h.c3
  have z3 := h.z 3
  have R := Lib.hid (h.err m)
  clear h
  go_enter Tryd.func25, Tryd.ntmps25
  go_wp2_with fail
  go_end0
  exact ⟨rfl, R.out⟩
set_option maxRecDepth 20000 in
theorem rfail_no {p i : Nat} {s : ByteArray} {v : Value} {L : List CR} {e0 : Int} (m : Int) (w : World) (h : RfB w p s i v L e0) (he : e0 ≠ 0) : Calls Tryd.prog 25 #[.pointer (some ⟨p, 0, none⟩), .int .i64 m] w fun e w' => e = .returned (.tuple #[]) ∧ w' = w := by
  have c3 := h.c3
  have hb : (e0 == 0) = false := beq_eq_false_iff_ne.2 he
  clear h
  go_enter Tryd.func25, Tryd.ntmps25
  go_wp2_with fail
  go_end0
  exact ⟨rfl, rfl⟩
set_option maxRecDepth 20000 in
theorem rlook_any {p i : Nat} {s : ByteArray} {v : Value} {L : List CR} {e0 : Int} (w : World) (h : RfB w p s i v L e0) (hs : s.size ≤ 1000000000) (hi : i ≤ 2000000000) : Calls Tryd.prog 35 #[.pointer (some ⟨p, 0, none⟩)] w fun e w' => e = .returned (.int .u8 (lk s e0 i)) ∧ Dr w w' := by
  have c0 := h.c0
  have c1 := h.c1
  have c3 := h.c3
  clear h
  by_cases he : e0 = 0
  · subst he
    by_cases hlt : i < s.size
    · have hb : (s[i].toNat : Int) = lk s 0 i := by unfold lk; rw [if_pos rfl]; exact byt_eq s i hlt
      have hii : (i : Int) < s.size := by omega
      have hi0 : (0 : Int) ≤ i := by omega
      rw [← hb]
      clear hb
      go_enter Tryd.func35, Tryd.ntmps35
      go_wp2_with fail
      go_quiet (fail)
      go_wp2_with fail
      go_quiet (fail)
      go_wp2_with fail
      go_ret
      exact ⟨rfl, ⟨rfl, rfl, rfl, rfl⟩⟩
    · have hb : lk s 0 i = 0 := by unfold lk byt; rw [if_pos rfl, dif_neg hlt]
      have hii : (s.size : Int) ≤ i := by omega
      rw [hb]
      go_enter Tryd.func35, Tryd.ntmps35
      go_wp2_with fail
      go_quiet (fail)
      go_wp2_with fail
      go_ret
      exact ⟨rfl, ⟨rfl, rfl, rfl, rfl⟩⟩
  · have hb : lk s e0 i = 0 := by unfold lk; rw [if_neg he]
    have hne : (e0 != 0) = true := by simp only [bne, beq_eq_false_iff_ne.2 he]; rfl
    rw [hb]
    go_enter Tryd.func35, Tryd.ntmps35
    go_wp2_with fail
    go_quiet (fail)
    go_wp2_with fail
    go_ret
    exact ⟨rfl, ⟨rfl, rfl, rfl, rfl⟩⟩
end Go.Proofs.YtoicmcjpaodgpaaDoor
/- Layer 4, the document's Read: blanks, take. -/
namespace Go.Proofs.YtoicmcjpaodgpaaDoor
open Go.RowKit Go.Maps
/-- A place is told, or the first error. -/
def RfP (p : Nat) (s : ByteArray) (v : Value) (L : List CR) (w : World) (x : Rs Nat) (e : Ending) (w' : World) : Prop := match x with
  | .ok j => e = .returned (.tuple #[]) ∧ RfB w' p s j v L 0 ∧ Fr p v v w w'
  | .bad m => e = .returned (.tuple #[]) ∧ ∃ i', i' ≤ s.size ∧ RfB w' p s i' v L m ∧ Fr p v v w w'
set_option maxRecDepth 20000 in
set_option maxHeartbeats 1000000 in
theorem rblanks_any {p i : Nat} {s : ByteArray} {v : Value} {L : List CR} (w : World) (h : RfB w p s i v L 0) (hs : s.size ≤ 1000000) (hi : i ≤ s.size) : Calls Tryd.prog 24 #[.pointer (some ⟨p, 0, none⟩)] w fun e w' => e = .returned (.tuple #[]) ∧ RfB w' p s (bl s i) v L 0 ∧ Fr p v v w w' := by
  have H := Lib.hid h
  clear h
  go_enter Tryd.func24, Tryd.ntmps24
  go_wp2_with fail
  go_loopg [2, 3] (s.size + 1) (fun f _ _ wr => ∃ j : Nat, s.size + 1 - j ≤ f ∧ j ≤ s.size ∧ Hid (bl s i = bl s j) ∧ Hid (RfB wr p s j v L 0 ∧ Fr p v v w wr))
  case atStart => exact ⟨i, by omega, hi, Lib.hid rfl, Lib.hid ⟨H.out, Fr.refl _ _ _⟩⟩
  case round =>
    obtain ⟨j, hf, hj, HE, HR⟩ := hrel
    have HP := Lib.hid (fun W (d : Dr wr W) => (rlook_any W (HR.out.1.dr d).1 (by omega) (by omega)).mono (fun e W' k => And.intro k.1 (d.trans k.2)))
    have e1 : lk s 0 j = byt s j := rfl
    rw [e1] at HP
    have HST := Lib.hid (fun (e : isBl (byt s j) = true) => (⟨by rw [HE.out]; exact bl_step e, byt_in (by intro e'; rw [e'] at e; cases e)⟩ : bl s i = bl s (j + 1) ∧ j < s.size))
    have HSP := Lib.hid (fun (e : isBl (byt s j) = false) => (HE.out.trans (bl_stop e)))
    obtain ⟨b, hb⟩ : ∃ b, b = byt s j := ⟨_, rfl⟩
    rw [← hb] at HP HST HSP
    clear hb HE e1
    have hji : (j : Int) ≤ 1000000 := by omega
    have D : Hid (Dr wr wr) := Lib.hid (Dr.refl _)
    cases hbl : isBl b with
    | true =>
      have HN := Lib.hid (HST.out hbl)
      have hjs := (HST.out hbl).2
      clear HST HSP
      simp only [isBl, Bool.or_eq_true, decide_eq_true_eq] at hbl
      rcases hbl with ((rfl | rfl) | rfl) | rfl
      all_goals
        go_wp2_with (go_at_call 35; refine (HP.out _ D.out).mono ?_; rintro e w1 ⟨rfl, d⟩; have D := Lib.hid d; have c1 := (HR.out.1.dr d).1.c1; have z1 := (HR.out.1.dr d).1.z 1; have RN := Lib.hid (And.intro ((HR.out.1.dr d).1.at_ (j + 1) ((j : Int) + 1) (by omega)).1 ((HR.out.1.dr d).2.trans ((HR.out.1.dr d).1.at_ (j + 1) ((j : Int) + 1) (by omega)).2)); clear d)
        go_roundg (gk - 1)
        case rel => exact ⟨j + 1, by omega, by omega, Lib.hid HN.out.1, Lib.hid ⟨RN.out.1, HR.out.2.trans RN.out.2⟩⟩
        case measure => omega
    | false =>
      have HN := Lib.hid (HSP.out hbl)
      clear HST HSP
      simp only [isBl, Bool.or_eq_false_iff, decide_eq_false_iff_not] at hbl
      obtain ⟨⟨⟨h1, h2⟩, h3⟩, h4⟩ := hbl
      have y1 : (b == 32) = false := beq_eq_false_iff_ne.2 h1
      have y2 : (b == 9) = false := beq_eq_false_iff_ne.2 h2
      have y3 : (b == 10) = false := beq_eq_false_iff_ne.2 h3
      have y4 : (b == 13) = false := beq_eq_false_iff_ne.2 h4
      go_wp2_with (go_at_call 35; refine (HP.out _ D.out).mono ?_; rintro e w1 ⟨rfl, d⟩; have D := Lib.hid d; clear d)
      go_end0
      exact ⟨rfl, by rw [HN.out]; exact (HR.out.1.dr D.out).1, HR.out.2.trans (HR.out.1.dr D.out).2⟩
set_option maxRecDepth 20000 in
set_option maxHeartbeats 1000000 in
theorem rblanks_err {p i : Nat} {s : ByteArray} {v : Value} {L : List CR} {e0 : Int} (w : World) (h : RfB w p s i v L e0) (he : e0 ≠ 0) (hs : s.size ≤ 1000000) (hi : i ≤ s.size) : Calls Tryd.prog 24 #[.pointer (some ⟨p, 0, none⟩)] w fun e w' => e = .returned (.tuple #[]) ∧ RfB w' p s i v L e0 ∧ Fr p v v w w' := by
  have H := Lib.hid h
  have HP := Lib.hid (fun W (d : Dr w W) => (rlook_any W (h.dr d).1 (by omega) (by omega)).mono (fun e W' k => And.intro k.1 (d.trans k.2)))
  have e1 : lk s e0 i = 0 := by unfold lk; rw [if_neg he]
  rw [e1] at HP
  have D : Hid (Dr w w) := Lib.hid (Dr.refl _)
  clear h e1 hi hs he
  go_enter Tryd.func24, Tryd.ntmps24
  go_wp2_with fail
  refine wp_loop_rounds 1 ?_
  rw [rounds_succ]
  go_wp2_with (go_at_call 35; refine (HP.out _ D.out).mono ?_; rintro e w1 ⟨rfl, d⟩; have D := Lib.hid d; clear d)
  go_end0
  exact ⟨rfl, (H.out.dr D.out).1, (H.out.dr D.out).2⟩
end Go.Proofs.YtoicmcjpaodgpaaDoor
/- Layer 4, the document's Read: take. -/
namespace Go.Proofs.YtoicmcjpaodgpaaDoor
open Go.RowKit Go.Maps
theorem drop_step {t : ByteArray} {k : Nat} (h : k < t.size) : (bI t).drop k = byt t k :: (bI t).drop (k + 1) := by
  have hk : k < (bI t).length := by rw [bI_len]; exact h
  have e := bI_at t k h
  rw [List.getElem?_eq_getElem hk] at e
  rw [List.drop_eq_getElem_cons hk, Option.some.inj e]
set_option maxRecDepth 20000 in
set_option maxHeartbeats 2000000 in
theorem rtake_any {p i : Nat} {s : ByteArray} {v : Value} {L : List CR} (t : ByteArray) (w : World) (h : RfB w p s i v L 0) (hs : s.size ≤ 1000000) (hi : i ≤ s.size) (ht : t.size ≤ 100) (h0 : ∀ c ∈ bI t, c ≠ 0) : Calls Tryd.prog 39 #[.pointer (some ⟨p, 0, none⟩), .string t] w (RfP p s v L w (wordM s (bI t) i)) := by
  obtain ⟨X, hX⟩ : ∃ X, X = wordM s (bI t) i := ⟨_, rfl⟩
  rw [← hX]
  have HX : Hid (wordM s ((bI t).drop 0) (i + 0) = X) := Lib.hid (by rw [hX]; rfl)
  have H := Lib.hid h
  have H0 := Lib.hid (fun k (hk : k < t.size) => h0 (byt t k) (by
    have e := bI_at t k hk
    exact List.mem_of_getElem? e))
  clear hX h h0
  go_enter Tryd.func39, Tryd.ntmps39
  go_wp2_with fail
  go_loopg [4, 5] (t.size + 1) (fun f v4 _ wr => ∃ k : Nat, v4 = .int .i64 k ∧ t.size + 1 - k ≤ f ∧ k ≤ t.size ∧ i + k ≤ s.size ∧ Hid (wordM s ((bI t).drop k) (i + k) = X) ∧ Hid (RfB wr p s (i + k) v L 0 ∧ Fr p v v w wr))
  case atStart => exact ⟨0, rfl, by omega, by omega, by omega, HX, Lib.hid ⟨H.out, Fr.refl _ _ _⟩⟩
  case round =>
    obtain ⟨k, rfl, hf, hk, hik, HXk, HR⟩ := hrel
    by_cases hlt : k < t.size
    · have hlt' : (k : Int) < t.size := by omega
      have hk0 : (0 : Int) ≤ k := by omega
      have HP := Lib.hid (fun W (d : Dr wr W) => (rlook_any W (HR.out.1.dr d).1 (by omega) (by omega)).mono (fun e W' k => And.intro k.1 (d.trans k.2)))
      have e1 : lk s 0 (i + k) = byt s (i + k) := rfl
      rw [e1] at HP
      have hbe := byt_eq t k hlt
      have hne := H0.out k hlt
      have HX2 := HXk.out
      rw [drop_step hlt] at HX2
      unfold wordM at HX2
      have hin := byt_in (s := s) (i := i + k)
      obtain ⟨b, hb⟩ : ∃ b, b = byt s (i + k) := ⟨_, rfl⟩
      rw [← hb] at HP HX2 hin
      rw [← hbe] at HX2 hne
      clear hb e1 hbe
      by_cases hc : b = (t[k].toNat : Int)
      · rw [if_pos hc] at HX2
        have HX3 := Lib.hid HX2
        have hins := hin (by rw [hc]; exact hne)
        have hik2 : ((i + k : Nat) : Int) = i + k := by omega
        clear HX2 hin HXk hne
        subst hc
        go_wp2_with fail
        go_region_with (go_at_call 35; refine (HP.out wr.drew ⟨rfl, rfl, rfl, rfl⟩).mono ?_; rintro e w1 ⟨rfl, d⟩; have D := Lib.hid d; clear d)
        all_goals
          have c1 := (HR.out.1.dr D.out).1.c1
          have z1 := (HR.out.1.dr D.out).1.z 1
          rw [hik2] at c1
          have RN := Lib.hid (And.intro ((HR.out.1.dr D.out).1.at_ (i + (k + 1)) ((i : Int) + k + 1) (by omega)).1 ((HR.out.1.dr D.out).2.trans ((HR.out.1.dr D.out).1.at_ (i + (k + 1)) ((i : Int) + k + 1) (by omega)).2))
          go_wp2_with fail
          go_roundg (gk - 1)
          case rel => exact ⟨k + 1, by go_num, by omega, by omega, by omega, HX3, Lib.hid ⟨RN.out.1, HR.out.2.trans RN.out.2⟩⟩
          case measure => omega
      · rw [if_neg hc] at HX2
        have HX3 := Lib.hid HX2
        have hcb : (b != (t[k].toNat : Int)) = true := by simp only [bne, beq_eq_false_iff_ne.2 hc]; rfl
        clear HX2 hin HXk hne hc
        go_wp2_with fail
        go_region_with (go_at_call 35; refine (HP.out wr.drew ⟨rfl, rfl, rfl, rfl⟩).mono ?_; rintro e w1 ⟨rfl, d⟩; have D := Lib.hid d; clear d)
        all_goals
          go_wp2_with fail
          refine (rfail_ok 40 _ (HR.out.1.dr D.out).1).mono ?_
          rintro e w2 ⟨rfl, r2, f2⟩
          have R2 := Lib.hid (And.intro r2 ((HR.out.1.dr D.out).2.trans f2))
          clear r2 f2
          go_wp2_with fail
          (try simp only [Exit.inBlock, Exit.then])
          refine bodyPost_ret (results_none rfl _ _ _) rfl ?_
          rw [← HX3.out]
          exact ⟨rfl, i + k, hik, R2.out.1, HR.out.2.trans R2.out.2⟩
    · obtain rfl : k = t.size := by omega
      have hz : ¬ ((t.size : Int) < t.size) := by omega
      have HX3 : Hid (X = .ok (i + t.size)) := Lib.hid (by rw [← HXk.out, List.drop_eq_nil_of_le (by rw [bI_len]; exact Nat.le_refl _)]; rfl)
      go_wp2_with fail
      go_end0
      rw [HX3.out]
      exact ⟨rfl, HR.out.1, HR.out.2⟩
set_option maxRecDepth 20000 in
theorem rtake_err {p i : Nat} {s : ByteArray} {v : Value} {L : List CR} {e0 : Int} (t : ByteArray) (w : World) (h : RfB w p s i v L e0) (he : e0 ≠ 0) (hs : s.size ≤ 1000000) (hi : i ≤ s.size) (ht : t.size ≤ 100) (hpos : 0 < t.size) (h0 : byt t 0 ≠ 0) : Calls Tryd.prog 39 #[.pointer (some ⟨p, 0, none⟩), .string t] w fun e w' => e = .returned (.tuple #[]) ∧ RfB w' p s i v L e0 ∧ Fr p v v w w' := by
  have H := Lib.hid h
  have HP := Lib.hid (fun W (d : Dr w W) => (rlook_any W (h.dr d).1 (by omega) (by omega)).mono (fun e W' k => And.intro k.1 (d.trans k.2)))
  have e1 : lk s e0 i = 0 := by unfold lk; rw [if_neg he]
  rw [e1] at HP
  have HF := Lib.hid (fun W (r : RfB W p s i v L e0) => rfail_no 40 W r he)
  have hbe := byt_eq t 0 hpos
  rw [← hbe] at h0
  have hlt' : (0 : Int) < t.size := by omega
  have hcb : ((0 : Int) != (t[0].toNat : Int)) = true := by simp only [bne, beq_eq_false_iff_ne.2 (Ne.symm h0)]; rfl
  clear h e1 hi hs he hbe h0
  go_enter Tryd.func39, Tryd.ntmps39
  go_wp2_with fail
  refine wp_loop_rounds 1 ?_
  rw [rounds_succ]
  go_wp2_with fail
  go_region_with (go_at_call 35; refine (HP.out w.drew ⟨rfl, rfl, rfl, rfl⟩).mono ?_; rintro e w1 ⟨rfl, d⟩; have D := Lib.hid d; clear d)
  all_goals
    go_wp2_with fail
    refine (HF.out _ (H.out.dr D.out).1).mono ?_
    rintro e w2 ⟨rfl, hw⟩
    obtain rfl := hw.symm
    go_wp2_with fail
    (try simp only [Exit.inBlock, Exit.then])
    refine bodyPost_ret (results_none rfl _ _ _) rfl ?_
    exact ⟨rfl, (H.out.dr D.out).1, (H.out.dr D.out).2⟩
end Go.Proofs.YtoicmcjpaodgpaaDoor
/- Layer 2: the document's Read (as in whole's W4, W9, W10). -/
namespace Go.Proofs.YtoicmcjpaodgpaaDoor.Nm
open Go.RowKit
theorem fits_iff {z : Int} {p : Prop} [Decidable p] (h : p ↔ (-9223372036854775808 ≤ z ∧ z ≤ 9223372036854775807)) : decide p = fits z := by
  unfold fits; simp only [h]
theorem adds_pos (a b : Int) (w : World) (ha : -9223372036854775808 ≤ a) (ha' : a ≤ 9223372036854775807) (hb : 0 ≤ b) (hb' : b ≤ 9223372036854775807) :
    Calls Tryd.prog 92 #[.int .i64 a, .int .i64 b] w fun e w' => e = .returned (.bool (fits (a + b))) ∧ w = w' := by
  go_enter Tryd.func92, Tryd.ntmps92
  go_wp2_with fail
  go_ret
  exact ⟨ret_bool (fits_iff (by omega)), rfl⟩
theorem adds_neg (a b : Int) (w : World) (ha : -9223372036854775808 ≤ a) (ha' : a ≤ 9223372036854775807) (hb : -9223372036854775808 ≤ b) (hb' : b < 0) :
    Calls Tryd.prog 92 #[.int .i64 a, .int .i64 b] w fun e w' => e = .returned (.bool (fits (a + b))) ∧ w = w' := by
  go_enter Tryd.func92, Tryd.ntmps92
  go_wp2_with fail
  go_ret
  exact ⟨ret_bool (fits_iff (by omega)), rfl⟩
theorem adds_any (a b : Int) (w : World) (ha : -9223372036854775808 ≤ a) (ha' : a ≤ 9223372036854775807) (hb : -9223372036854775808 ≤ b) (hb' : b ≤ 9223372036854775807) :
    Calls Tryd.prog 92 #[.int .i64 a, .int .i64 b] w fun e w' => e = .returned (.bool (fits (a + b))) ∧ w = w' := by
  by_cases h : 0 ≤ b
  · exact adds_pos a b w ha ha' h hb'
  · exact adds_neg a b w ha ha' hb (by omega)
theorem muls_pp (a b : Int) (w : World) (ha : 0 < a) (ha' : a ≤ 9223372036854775807) (hb : 0 < b) (hb' : b ≤ 9223372036854775807) :
    Calls Tryd.prog 91 #[.int .i64 a, .int .i64 b] w fun e w' => e = .returned (.bool (fits (a * b))) ∧ w = w' := by
  have hk : a ≤ 9223372036854775807 / b ↔ a * b ≤ 9223372036854775807 := Int.le_ediv_iff_mul_le hb
  have hpos : 0 < a * b := Int.mul_pos ha hb
  have HK := Lib.hid hk
  have HP := Lib.hid hpos
  clear hk hpos
  have z1 : (a == 0) = false := by simp; omega
  have z2 : (b == 0) = false := by simp; omega
  go_enter Tryd.func91, Tryd.ntmps91
  go_wp2_with fail
  go_ret
  exact ⟨ret_bool (fits_iff (by rw [HK.out]; have := HP.out; omega)), rfl⟩
theorem muls_zero (a b : Int) (w : World) (h : a = 0 ∨ b = 0) :
    Calls Tryd.prog 91 #[.int .i64 a, .int .i64 b] w fun e w' => e = .returned (.bool (fits (a * b))) ∧ w = w' := by
  have hz : fits (a * b) = true := by rcases h with rfl | rfl <;> simp <;> decide
  rw [hz]; clear hz
  rcases h with rfl | rfl
  · go_enter Tryd.func91, Tryd.ntmps91
    go_wp2_with fail
    go_ret
    exact ⟨rfl, rfl⟩
  · by_cases ha : a = 0
    · subst ha
      go_enter Tryd.func91, Tryd.ntmps91
      go_wp2_with fail
      go_ret
      exact ⟨rfl, rfl⟩
    · go_enter Tryd.func91, Tryd.ntmps91
      go_wp2_with fail
      go_ret
      exact ⟨rfl, rfl⟩
theorem pn_close (a b z : Int) (ha : 0 < a) (hk : -b ≤ 9223372036854775808 / a ↔ -z ≤ 9223372036854775808) (hz : 0 < -z) :
    decide (wrap64 (-Int.tdiv 9223372036854775808 a) ≤ b) = fits z := by
  rw [Int.tdiv_eq_ediv_of_nonneg (by omega)]
  have q0 : 0 ≤ 9223372036854775808 / a := Int.ediv_nonneg (by omega) (by omega)
  have q1 : 9223372036854775808 / a ≤ 9223372036854775808 := Int.ediv_le_self _ (by omega)
  generalize 9223372036854775808 / a = q at *
  rw [IntWalk.wrap64_in _ (by omega)]
  exact fits_iff (by omega)
theorem nn_close (a b z : Int) (ha : -9223372036854775808 < a) (hb : -9223372036854775808 < b) (hb' : b < 0) (hk : -a ≤ 9223372036854775807 / -b ↔ z ≤ 9223372036854775807) (hz : 0 < z) :
    (a != -9223372036854775808 && b != -9223372036854775808 && decide (-a ≤ wrap64 (-Int.tdiv 9223372036854775807 b))) = fits z := by
  have e : -Int.tdiv 9223372036854775807 b = 9223372036854775807 / -b := by
    rw [← Int.tdiv_neg, Int.tdiv_eq_ediv_of_nonneg (by omega)]
  have q0 : 0 ≤ 9223372036854775807 / -b := Int.ediv_nonneg (by omega) (by omega)
  have q1 : 9223372036854775807 / -b ≤ 9223372036854775807 := Int.ediv_le_self _ (by omega)
  rw [e]
  generalize 9223372036854775807 / -b = q at *
  rw [IntWalk.wrap64_in _ (by omega)]
  have n1 : (a != -9223372036854775808) = true := by simp; omega
  have n2 : (b != -9223372036854775808) = true := by simp; omega
  rw [n1, n2, Bool.true_and, Bool.true_and]
  exact fits_iff (by omega)
theorem muls_pn (a b : Int) (w : World) (ha : 0 < a) (ha' : a ≤ 9223372036854775807) (hb : -9223372036854775808 ≤ b) (hb' : b < 0) :
    Calls Tryd.prog 91 #[.int .i64 a, .int .i64 b] w fun e w' => e = .returned (.bool (fits (a * b))) ∧ w = w' := by
  have hk : -b ≤ 9223372036854775808 / a ↔ -b * a ≤ 9223372036854775808 := Int.le_ediv_iff_mul_le ha
  have hpos : 0 < -b * a := Int.mul_pos (by omega) ha
  have hm : -b * a = -(a * b) := by rw [Int.neg_mul, Int.mul_comm]
  rw [hm] at hk hpos
  have HK := Lib.hid hk
  have HP := Lib.hid hpos
  clear hk hpos hm
  have z1 : (a == 0) = false := by simp; omega
  have z2 : (b == 0) = false := by simp; omega
  go_enter Tryd.func91, Tryd.ntmps91
  go_wp2_with fail
  go_ret
  exact ⟨ret_bool (pn_close a b _ ha HK.out HP.out), rfl⟩
theorem muls_np (a b : Int) (w : World) (ha : -9223372036854775808 ≤ a) (ha' : a < 0) (hb : 0 < b) (hb' : b ≤ 9223372036854775807) :
    Calls Tryd.prog 91 #[.int .i64 a, .int .i64 b] w fun e w' => e = .returned (.bool (fits (a * b))) ∧ w = w' := by
  have hk : -a ≤ 9223372036854775808 / b ↔ -a * b ≤ 9223372036854775808 := Int.le_ediv_iff_mul_le hb
  have hpos : 0 < -a * b := Int.mul_pos (by omega) hb
  have hm : -a * b = -(a * b) := by rw [Int.neg_mul]
  rw [hm] at hk hpos
  have HK := Lib.hid hk
  have HP := Lib.hid hpos
  clear hk hpos hm
  have z1 : (a == 0) = false := by simp; omega
  have z2 : (b == 0) = false := by simp; omega
  go_enter Tryd.func91, Tryd.ntmps91
  go_wp2_with fail
  go_ret
  exact ⟨ret_bool (pn_close b a _ hb HK.out HP.out), rfl⟩
theorem muls_nn (a b : Int) (w : World) (ha : -9223372036854775808 < a) (ha' : a < 0) (hb : -9223372036854775808 < b) (hb' : b < 0) :
    Calls Tryd.prog 91 #[.int .i64 a, .int .i64 b] w fun e w' => e = .returned (.bool (fits (a * b))) ∧ w = w' := by
  have hk : -a ≤ 9223372036854775807 / -b ↔ -a * -b ≤ 9223372036854775807 := Int.le_ediv_iff_mul_le (by omega)
  have hpos : 0 < -a * -b := Int.mul_pos (by omega) (by omega)
  have hm : -a * -b = a * b := by rw [Int.neg_mul_neg]
  rw [hm] at hk hpos
  have HK := Lib.hid hk
  have HP := Lib.hid hpos
  clear hk hpos hm
  have z1 : (a == 0) = false := by simp; omega
  have z2 : (b == 0) = false := by simp; omega
  go_enter Tryd.func91, Tryd.ntmps91
  go_wp2_with fail
  go_ret
  exact ⟨ret_bool (nn_close a b _ ha hb hb' HK.out HP.out), rfl⟩
theorem least_no (a b : Int) (ha : a ≤ -9223372036854775808) (hb : b < 0) : fits (a * b) = false := by
  have h : 9223372036854775808 * 1 ≤ -a * -b := Int.mul_le_mul (by omega) (by omega) (by omega) (by omega)
  rw [Int.neg_mul_neg] at h
  exact fits_no (by omega)
theorem muls_least (a b : Int) (w : World) (ha : -9223372036854775808 ≤ a) (ha' : a < 0) (hb : -9223372036854775808 ≤ b) (hb' : b < 0) (h : a ≤ -9223372036854775808 ∨ b ≤ -9223372036854775808) :
    Calls Tryd.prog 91 #[.int .i64 a, .int .i64 b] w fun e w' => e = .returned (.bool (fits (a * b))) ∧ w = w' := by
  have hz : fits (a * b) = false := by
    rcases h with h | h
    · exact least_no a b h hb'
    · rw [Int.mul_comm]; exact least_no b a h ha'
  rw [hz]; clear hz
  have z1 : (a == 0) = false := by simp; omega
  have z2 : (b == 0) = false := by simp; omega
  by_cases hal : a ≤ -9223372036854775808
  · have z3 : (a != -9223372036854775808) = false := by simp; omega
    clear h
    go_enter Tryd.func91, Tryd.ntmps91
    go_wp2_with fail
    go_ret
    exact ⟨rfl, rfl⟩
  · have z3 : (a != -9223372036854775808) = true := by simp; omega
    have hb2 : b ≤ -9223372036854775808 := by omega
    have z4 : (b != -9223372036854775808) = false := by simp; omega
    clear h
    go_enter Tryd.func91, Tryd.ntmps91
    go_wp2_with fail
    go_ret
    exact ⟨rfl, rfl⟩
theorem muls_any (a b : Int) (w : World) (ha : -9223372036854775808 ≤ a) (ha' : a ≤ 9223372036854775807) (hb : -9223372036854775808 ≤ b) (hb' : b ≤ 9223372036854775807) :
    Calls Tryd.prog 91 #[.int .i64 a, .int .i64 b] w fun e w' => e = .returned (.bool (fits (a * b))) ∧ w = w' := by
  by_cases h0 : a = 0 ∨ b = 0
  · exact muls_zero a b w h0
  · by_cases h1 : 0 < a
    · by_cases h2 : 0 < b
      · exact muls_pp a b w h1 ha' h2 hb'
      · exact muls_pn a b w h1 ha' hb (by omega)
    · by_cases h2 : 0 < b
      · exact muls_np a b w ha (by omega) h2 hb'
      · by_cases h3 : a ≤ -9223372036854775808 ∨ b ≤ -9223372036854775808
        · exact muls_least a b w ha (by omega) hb (by omega) h3
        · exact muls_nn a b w (by omega) (by omega) (by omega) (by omega)
theorem rdigits_any (s : ByteArray) (w : World) (hs : s.size ≤ maxLen) :
    Calls Tryd.prog 90 #[.string s] w fun e w' => e = .returned (.bool (allD s s.size && decide (0 < s.size))) ∧ w = w' := by
  unfold maxLen at hs
  go_enter Tryd.func90, Tryd.ntmps90
  go_wp2_with fail
  go_loopw [2, 3] (fun b i wr => ∃ k : Nat, k ≤ s.size ∧ i = .int .i64 k ∧ b = .bool false ∧ allD s k = true ∧ w = wr) (fun _ i _ => s.size - (intOf i).toNat)
  case atStart => exact ⟨0, by omega, rfl, rfl, rfl, rfl⟩
  case round =>
    obtain ⟨k, hk, rfl, rfl, ha, rfl⟩ := hrel
    by_cases hlt : k < s.size
    · have hbk := byt_eq s k hlt
      by_cases h1 : byt s k < 48
      · have hf : Hid (allD s s.size = false) := Lib.hid (by
          cases hh : allD s s.size
          · rfl
          · have := allD_byte s _ k hlt hh; omega)
        have ht1 : (s[k].toNat : Int) < 48 := by omega
        clear ha hbk h1
        go_wp2_with fail
        go_ret
        exact ⟨ret_bool (by rw [hf.out]; rfl), rfl⟩
      · by_cases h2 : 57 < byt s k
        · have hf : Hid (allD s s.size = false) := Lib.hid (by
            cases hh : allD s s.size
            · rfl
            · have := allD_byte s _ k hlt hh; omega)
          have ht1 : ¬ (s[k].toNat : Int) < 48 := by omega
          have ht2 : 57 < (s[k].toNat : Int) := by omega
          clear ha hbk h1 h2
          go_wp2_with fail
          go_ret
          exact ⟨ret_bool (by rw [hf.out]; rfl), rfl⟩
        · have hf : Hid (allD s (k + 1) = true) := Lib.hid (by simp only [allD, ha, Bool.true_and, decide_eq_true_eq]; omega)
          have ht1 : ¬ (s[k].toNat : Int) < 48 := by omega
          have ht2 : ¬ 57 < (s[k].toNat : Int) := by omega
          clear ha hbk h1 h2
          go_wp2_with fail
          go_roundw
          case rel => exact ⟨k + 1, by omega, by go_num, rfl, hf.out, trivial⟩
          case measure => simp [intOf]; omega
    · obtain rfl : k = s.size := by omega
      have HA := Lib.hid ha
      clear ha
      go_wp2_with fail
      go_ret
      exact ⟨ret_bool (by rw [HA.out]; simp), rfl⟩
theorem tmod_neg (n : Int) (h : n < 0) : -10 < n.tmod 10 ∧ n.tmod 10 ≤ 0 := by
  have e : (-n).tmod 10 = -(n.tmod 10) := Int.neg_tmod n 10
  have h1 := Int.tmod_lt_of_pos (-n) (by omega : (0 : Int) < 10)
  have h2 := Int.tmod_nonneg 10 (by omega : 0 ≤ -n)
  omega
theorem fits_range {z : Int} (h : fits z = true) : -9223372036854775808 ≤ z ∧ z ≤ 9223372036854775807 := by simpa [fits] using h
theorem fits_out {z : Int} (h : fits z = false) : z < -9223372036854775808 ∨ 9223372036854775807 < z := by
  unfold fits at h; simp only [decide_eq_false_iff_not] at h; omega
set_option maxHeartbeats 2000000 in
theorem rread_any (s : ByteArray) (w : World) (hs : s.size ≤ maxLen) :
    Calls Tryd.prog 64 #[.string s] w fun e w' => e = .returned (.tuple #[.int .i64 (rdV s), .int .i64 (rdE s)]) ∧ Below w.heap.size w w' := by
  have hm := hs
  unfold maxLen at hm
  cases hn : isNeg s
  · have ht : bare s = s := by unfold bare; rw [hn]; rfl
    have hsg : sgn s = 1 := by unfold sgn; rw [hn]; rfl
    have HT := Lib.hid ht
    have HS := Lib.hid hsg
    have hfirst : s.size = 0 ∨ ∃ hpos : 0 < s.size, ((s[0].toNat : Int) == 45) = false := by
      by_cases h0 : s.size = 0
      · exact .inl h0
      · have hpos : 0 < s.size := by omega
        refine .inr ⟨hpos, ?_⟩
        rw [byt_eq s 0 hpos]
        unfold isNeg at hn
        simp only [hpos, decide_true, Bool.true_and, decide_eq_false_iff_not] at hn
        simp [hn]
    clear hn ht hsg
    rcases hfirst with h0 | ⟨hpos, h45⟩
    · have hD : Hid (areD s = false) := Lib.hid (by unfold areD; simp [h0])
      have hq : Hid ((allD s s.size && decide (0 < s.size)) = false) := Lib.hid (by simp [h0])
      have hle : s.size ≤ 0 := by omega
      clear h0
      go_enter Tryd.func64, Tryd.ntmps64
      go_wp2_with fail
      refine (rdigits_any s _ hs).mono ?_
      rintro e w' ⟨rfl, rfl⟩
      rw [hq.out]
      go_wp2_with fail
      go_ret2
      exact ⟨ret2 (by unfold rdV; rw [HT.out, hD.out]; rfl) (by unfold rdE; rw [HT.out, hD.out]; rfl), Below.refl _ _⟩
    · go_enter Tryd.func64, Tryd.ntmps64
      go_wp2_with fail
      refine (rdigits_any s _ hs).mono ?_
      rintro e w' ⟨rfl, rfl⟩
      cases hd : (allD s (s).size && decide (0 < (s).size))
      · have hR : rdV s = 0 ∧ rdE s = 21 := by
          have : areD s = false := by
            unfold areD
            cases ha : allD s (s).size
            · simp
            · rw [ha] at hd; simp at hd; simp [hd]
          unfold rdV rdE; rw [HT.out, this]; exact ⟨rfl, rfl⟩
        have HR := Lib.hid hR
        clear hd hR
        go_wp2_with fail
        go_ret2
        exact ⟨ret2 HR.out.1.symm HR.out.2.symm, Below.refl _ _⟩
      · have hpt : 0 < (s).size := by simp only [Bool.and_eq_true, decide_eq_true_eq] at hd; exact hd.2
        have hall : allD s (s).size = true := by simp only [Bool.and_eq_true, decide_eq_true_eq] at hd; exact hd.1
        have HA := Lib.hid hall
        have hb0t := byt_eq s 0 hpt
        clear hd hall
        by_cases hlead : byt s 0 = 48 ∧ 1 < (s).size
        · have hR : rdV s = 0 ∧ rdE s = 21 := by
            have hne : ¬ (s).size = 1 := by omega
            have : areD s = false := by unfold areD; simp [hlead.1, hne]
            unfold rdV rdE; rw [HT.out, this]; exact ⟨rfl, rfl⟩
          have HR := Lib.hid hR
          have h48 : (((s)[0].toNat : Int) == 48) = true := by rw [hb0t, hlead.1]; rfl
          have hl1 := hlead.2
          clear hR hlead hb0t
          go_wp2_with fail
          go_ret2
          exact ⟨ret2 HR.out.1.symm HR.out.2.symm, Below.refl _ _⟩
        · have hD : areD s = true := by
            unfold areD
            by_cases hb : byt s 0 = 48
            · have : (s).size = 1 := by omega
              simp [this, ← HA.out]
            · simp [hb, hpt, HA.out]
          have hV : rdV s = val (sv 1 (valD s (s).size)) := by unfold rdV rdZ; rw [HT.out, HS.out, hD]; rfl
          have hE : rdE s = err (sv 1 (valD s (s).size)) := by unfold rdE rdZ; rw [HT.out, HS.out, hD]; rfl
          have HV := Lib.hid hV
          have HE := Lib.hid hE
          have htest : (((s)[0].toNat : Int) == 48) = false ∨ ((((s)[0].toNat : Int) == 48) = true ∧ (s).size ≤ 1) := by
            rw [hb0t]
            by_cases hb : byt s 0 = 48
            · right; rw [hb]; exact ⟨rfl, by omega⟩
            · left; simp [hb]
          clear hlead hb0t hD hV hE
          rcases htest with h48 | ⟨h48, hone⟩
          all_goals
            go_wp2_with fail
            go_loopw [5, 6] (fun z i wr => ∃ k : Nat, k ≤ (s).size ∧ i = .int .i64 k ∧ z = .int .i64 (sv 1 (valD s k)) ∧ fits (sv 1 (valD s k)) = true ∧ w = wr) (fun _ i _ => (s).size - (intOf i).toNat)
            case atStart => exact ⟨0, Nat.zero_le _, rfl, rfl, (by decide : fits 0 = true), rfl⟩
            case round =>
              obtain ⟨k, hk, rfl, rfl, hf, rfl⟩ := hrel
              have hfr := fits_range hf
              have f0 := hfr.1
              have f1 := hfr.2
              clear hf hfr
              by_cases hlt : k < (s).size
              · have hby := allD_byte _ _ k hlt HA.out
                have hbe := byt_eq _ k hlt
                have hnn : 0 ≤ valD s k := valD_nonneg _ k (allD_mono _ _ k hk HA.out)
                have hmo := valD_mono _ _ (k + 1) hlt HA.out
                have hst : valD s (k + 1) = valD s k * 10 + (byt s k - 48) := rfl
                rw [hst] at hmo
                rw [← hbe] at hby hmo hst
                have b0 := hby.1
                have b1 := hby.2
                have hsv : sv 1 (valD s (k + 1)) = sv 1 (valD s k) * 10 + ((s[k].toNat : Int) - 48) := by rw [hst]; simp [sv]
                have hfin : fits (sv 1 (valD s (k + 1))) = false → val (sv 1 (valD s (s).size)) = 0 ∧ err (sv 1 (valD s (s).size)) = 20 := by
                  intro h
                  have h2 := fits_out h
                  have : sv 1 (valD s (s).size) < -9223372036854775808 ∨ 9223372036854775807 < sv 1 (valD s (s).size) := by
                    rw [hst] at h2; simp [sv] at h2 ⊢; omega
                  exact ⟨val_no this, err_no this⟩
                have h10 : fits (sv 1 (valD s k) * 10) = false → fits (sv 1 (valD s (k + 1))) = false := by
                  intro h
                  have h2 := fits_out h
                  apply fits_no
                  rw [hst]; simp [sv] at h2 ⊢; omega
                have HFIN := Lib.hid hfin
                have H10 := Lib.hid h10
                have HSV := Lib.hid hsv
                clear hst hbe hby hmo hfin h10 hsv hnn
                generalize hp : sv 1 (valD s k) = p at *
                have HP := Lib.hid hp
                clear hp
                cases hm10 : fits (p * 10)
                · have hz := Lib.hid (HFIN.out (H10.out hm10))
                  have HM := Lib.hid hm10
                  clear hm10
                  go_wp2_with fail
                  refine (muls_any p 10 _ f0 f1 (by omega) (by omega)).mono ?_
                  rintro e w' ⟨rfl, rfl⟩
                  rw [HM.out]
                  go_wp2_with fail
                  go_ret2
                  exact ⟨ret2 (by rw [HV.out, hz.out.1]) (by rw [HE.out, hz.out.2]), Below.refl _ _⟩
                · have hmr := fits_range hm10
                  have m0 := hmr.1
                  have m1 := hmr.2
                  have HM := Lib.hid hm10
                  clear hm10 hmr
                  cases hadd : fits (p * 10 + ((s[k].toNat : Int) - 48))
                  · have hz := Lib.hid (HFIN.out (by rw [HSV.out]; exact hadd))
                    have HADD := Lib.hid hadd
                    clear hadd
                    go_wp2_with fail
                    refine (muls_any p 10 _ f0 f1 (by omega) (by omega)).mono ?_
                    rintro e w' ⟨rfl, rfl⟩
                    rw [HM.out]
                    go_wp2_with fail
                    refine (adds_any (p * 10) (((s[k].toNat : Int) - 48)) _ m0 m1 (by omega) (by omega)).mono ?_
                    rintro e w' ⟨rfl, rfl⟩
                    rw [HADD.out]
                    go_wp2_with fail
                    go_ret2
                    exact ⟨ret2 (by rw [HV.out, hz.out.1]) (by rw [HE.out, hz.out.2]), Below.refl _ _⟩
                  · have har := fits_range hadd
                    have a0 := har.1
                    have a1 := har.2
                    have HADD := Lib.hid hadd
                    clear hadd har
                    go_wp2_with fail
                    refine (muls_any p 10 _ f0 f1 (by omega) (by omega)).mono ?_
                    rintro e w' ⟨rfl, rfl⟩
                    rw [HM.out]
                    go_wp2_with fail
                    refine (adds_any (p * 10) (((s[k].toNat : Int) - 48)) _ m0 m1 (by omega) (by omega)).mono ?_
                    rintro e w' ⟨rfl, rfl⟩
                    rw [HADD.out]
                    go_wp2_with fail
                    go_roundw
                    case rel => exact ⟨k + 1, hlt, by go_num, by rw [HSV.out], by rw [HSV.out]; exact HADD.out, trivial⟩
                    case measure => simp [intOf]; omega
              · obtain rfl : k = (s).size := by omega
                have HV2 := Lib.hid (val_yes f0 f1)
                have HE2 := Lib.hid (err_yes f0 f1)
                go_wp2_with fail
                go_ret2
                exact ⟨ret2 (by rw [HV.out, HV2.out]) (by rw [HE.out, HE2.out]), Below.refl _ _⟩
  · have ht : bare s = s.extract 1 s.size := by unfold bare; rw [hn]; rfl
    have hsg : sgn s = 0 := by unfold sgn; rw [hn]; rfl
    have hpos : 0 < s.size := by
      unfold isNeg at hn
      simp only [Bool.and_eq_true, decide_eq_true_eq] at hn
      exact hn.1
    have hb0 := byt_eq s 0 hpos
    have h45 : ((s[0].toNat : Int) == 45) = true := by
      rw [hb0]
      unfold isNeg at hn
      simp only [Bool.and_eq_true, decide_eq_true_eq] at hn
      rw [hn.2]; rfl
    have HT := Lib.hid ht
    have HS := Lib.hid hsg
    clear hn ht hsg hb0
    have hts : (s.extract 1 s.size).size ≤ maxLen := by rw [size_tail s hpos]; omega
    have htm : (s.extract 1 s.size).size ≤ 9223372036854775807 := by rw [size_tail s hpos]; omega
    go_enter Tryd.func64, Tryd.ntmps64
    go_wp2_with fail
    generalize s.extract 1 s.size = t at *
    refine (rdigits_any t _ hts).mono ?_
    rintro e w' ⟨rfl, rfl⟩
    cases hd : (allD t (t).size && decide (0 < (t).size))
    · have hR : rdV s = 0 ∧ rdE s = 21 := by
        have : areD t = false := by
          unfold areD
          cases ha : allD t (t).size
          · simp
          · rw [ha] at hd; simp at hd; simp [hd]
        unfold rdV rdE; rw [HT.out, this]; exact ⟨rfl, rfl⟩
      have HR := Lib.hid hR
      clear hd hR
      go_wp2_with fail
      go_ret2
      exact ⟨ret2 HR.out.1.symm HR.out.2.symm, Below.refl _ _⟩
    · have hpt : 0 < (t).size := by simp only [Bool.and_eq_true, decide_eq_true_eq] at hd; exact hd.2
      have hall : allD t (t).size = true := by simp only [Bool.and_eq_true, decide_eq_true_eq] at hd; exact hd.1
      have HA := Lib.hid hall
      have hb0t := byt_eq t 0 hpt
      clear hd hall
      by_cases hlead : byt t 0 = 48 ∧ 1 < (t).size
      · have hR : rdV s = 0 ∧ rdE s = 21 := by
          have hne : ¬ (t).size = 1 := by omega
          have : areD t = false := by unfold areD; simp [hlead.1, hne]
          unfold rdV rdE; rw [HT.out, this]; exact ⟨rfl, rfl⟩
        have HR := Lib.hid hR
        have h48 : (((t)[0].toNat : Int) == 48) = true := by rw [hb0t, hlead.1]; rfl
        have hl1 := hlead.2
        clear hR hlead hb0t
        go_wp2_with fail
        go_ret2
        exact ⟨ret2 HR.out.1.symm HR.out.2.symm, Below.refl _ _⟩
      · have hD : areD t = true := by
          unfold areD
          by_cases hb : byt t 0 = 48
          · have : (t).size = 1 := by omega
            simp [this, ← HA.out]
          · simp [hb, hpt, HA.out]
        have hV : rdV s = val (sv 0 (valD t (t).size)) := by unfold rdV rdZ; rw [HT.out, HS.out, hD]; rfl
        have hE : rdE s = err (sv 0 (valD t (t).size)) := by unfold rdE rdZ; rw [HT.out, HS.out, hD]; rfl
        have HV := Lib.hid hV
        have HE := Lib.hid hE
        have htest : (((t)[0].toNat : Int) == 48) = false ∨ ((((t)[0].toNat : Int) == 48) = true ∧ (t).size ≤ 1) := by
          rw [hb0t]
          by_cases hb : byt t 0 = 48
          · right; rw [hb]; exact ⟨rfl, by omega⟩
          · left; simp [hb]
        clear hlead hb0t hD hV hE
        rcases htest with h48 | ⟨h48, hone⟩
        all_goals
          go_wp2_with fail
          go_loopw [5, 6] (fun z i wr => ∃ k : Nat, k ≤ (t).size ∧ i = .int .i64 k ∧ z = .int .i64 (sv 0 (valD t k)) ∧ fits (sv 0 (valD t k)) = true ∧ w = wr) (fun _ i _ => (t).size - (intOf i).toNat)
          case atStart => exact ⟨0, Nat.zero_le _, rfl, rfl, (by decide : fits 0 = true), rfl⟩
          case round =>
            obtain ⟨k, hk, rfl, rfl, hf, rfl⟩ := hrel
            have hfr := fits_range hf
            have f0 := hfr.1
            have f1 := hfr.2
            clear hf hfr
            by_cases hlt : k < (t).size
            · have hby := allD_byte _ _ k hlt HA.out
              have hbe := byt_eq _ k hlt
              have hnn : 0 ≤ valD t k := valD_nonneg _ k (allD_mono _ _ k hk HA.out)
              have hmo := valD_mono _ _ (k + 1) hlt HA.out
              have hst : valD t (k + 1) = valD t k * 10 + (byt t k - 48) := rfl
              rw [hst] at hmo
              rw [← hbe] at hby hmo hst
              have b0 := hby.1
              have b1 := hby.2
              have hsv : sv 0 (valD t (k + 1)) = sv 0 (valD t k) * 10 + -((t[k].toNat : Int) - 48) := by rw [hst]; simp [sv]; omega
              have hfin : fits (sv 0 (valD t (k + 1))) = false → val (sv 0 (valD t (t).size)) = 0 ∧ err (sv 0 (valD t (t).size)) = 20 := by
                intro h
                have h2 := fits_out h
                have : sv 0 (valD t (t).size) < -9223372036854775808 ∨ 9223372036854775807 < sv 0 (valD t (t).size) := by
                  rw [hst] at h2; simp [sv] at h2 ⊢; omega
                exact ⟨val_no this, err_no this⟩
              have h10 : fits (sv 0 (valD t k) * 10) = false → fits (sv 0 (valD t (k + 1))) = false := by
                intro h
                have h2 := fits_out h
                apply fits_no
                rw [hst]; simp [sv] at h2 ⊢; omega
              have HFIN := Lib.hid hfin
              have H10 := Lib.hid h10
              have HSV := Lib.hid hsv
              clear hst hbe hby hmo hfin h10 hsv hnn
              generalize hp : sv 0 (valD t k) = p at *
              have HP := Lib.hid hp
              clear hp
              cases hm10 : fits (p * 10)
              · have hz := Lib.hid (HFIN.out (H10.out hm10))
                have HM := Lib.hid hm10
                clear hm10
                go_wp2_with fail
                refine (muls_any p 10 _ f0 f1 (by omega) (by omega)).mono ?_
                rintro e w' ⟨rfl, rfl⟩
                rw [HM.out]
                go_wp2_with fail
                go_ret2
                exact ⟨ret2 (by rw [HV.out, hz.out.1]) (by rw [HE.out, hz.out.2]), Below.refl _ _⟩
              · have hmr := fits_range hm10
                have m0 := hmr.1
                have m1 := hmr.2
                have HM := Lib.hid hm10
                clear hm10 hmr
                cases hadd : fits (p * 10 + -((t[k].toNat : Int) - 48))
                · have hz := Lib.hid (HFIN.out (by rw [HSV.out]; exact hadd))
                  have HADD := Lib.hid hadd
                  clear hadd
                  go_wp2_with fail
                  refine (muls_any p 10 _ f0 f1 (by omega) (by omega)).mono ?_
                  rintro e w' ⟨rfl, rfl⟩
                  rw [HM.out]
                  go_wp2_with fail
                  refine (adds_any (p * 10) (-((t[k].toNat : Int) - 48)) _ m0 m1 (by omega) (by omega)).mono ?_
                  rintro e w' ⟨rfl, rfl⟩
                  rw [HADD.out]
                  go_wp2_with fail
                  go_ret2
                  exact ⟨ret2 (by rw [HV.out, hz.out.1]) (by rw [HE.out, hz.out.2]), Below.refl _ _⟩
                · have har := fits_range hadd
                  have a0 := har.1
                  have a1 := har.2
                  have HADD := Lib.hid hadd
                  clear hadd har
                  go_wp2_with fail
                  refine (muls_any p 10 _ f0 f1 (by omega) (by omega)).mono ?_
                  rintro e w' ⟨rfl, rfl⟩
                  rw [HM.out]
                  go_wp2_with fail
                  refine (adds_any (p * 10) (-((t[k].toNat : Int) - 48)) _ m0 m1 (by omega) (by omega)).mono ?_
                  rintro e w' ⟨rfl, rfl⟩
                  rw [HADD.out]
                  go_wp2_with fail
                  go_roundw
                  case rel => exact ⟨k + 1, hlt, by go_num, by rw [HSV.out], by rw [HSV.out]; exact HADD.out, trivial⟩
                  case measure => simp [intOf]; omega
            · obtain rfl : k = (t).size := by omega
              have HV2 := Lib.hid (val_yes f0 f1)
              have HE2 := Lib.hid (err_yes f0 f1)
              go_wp2_with fail
              go_ret2
              exact ⟨ret2 (by rw [HV.out, HV2.out]) (by rw [HE.out, HE2.out]), Below.refl _ _⟩
end Go.Proofs.YtoicmcjpaodgpaaDoor.Nm
/- Layer 4, the document's Read: digits. -/
namespace Go.Proofs.YtoicmcjpaodgpaaDoor
open Go.RowKit Go.Maps
set_option maxRecDepth 20000 in
theorem rdigit_any {p i : Nat} {s : ByteArray} {v : Value} {L : List CR} {e0 : Int} (w : World) (h : RfB w p s i v L e0) (hs : s.size ≤ 1000000) (hi : i ≤ 2000000) : Calls Tryd.prog 89 #[.pointer (some ⟨p, 0, none⟩)] w fun e w' => e = .returned (.bool (isDg (lk s e0 i))) ∧ Dr w w' := by
  have HP := Lib.hid (fun W (d : Dr w W) => (rlook_any W (h.dr d).1 (by omega) (by omega)).mono (fun e W' k => And.intro k.1 (d.trans k.2)))
  obtain ⟨b, hb⟩ : ∃ b, b = lk s e0 i := ⟨_, rfl⟩
  rw [← hb] at HP ⊢
  have D : Hid (Dr w w) := Lib.hid (Dr.refl _)
  obtain ⟨r, hr⟩ : ∃ r, r = isDg b := ⟨_, rfl⟩
  rw [← hr]
  clear h hb
  by_cases h1 : b < 48
  · have HR : Hid (r = false) := Lib.hid (by rw [hr]; unfold isDg; simp; omega)
    clear hr
    go_enter Tryd.func89, Tryd.ntmps89
    go_wp2_with (go_at_call 35; refine (HP.out _ D.out).mono ?_; rintro e w1 ⟨rfl, d⟩; have D := Lib.hid d; clear d)
    go_ret
    exact ⟨by rw [HR.out]; rfl, D.out⟩
  by_cases h2 : 57 < b
  · have HR : Hid (r = false) := Lib.hid (by rw [hr]; unfold isDg; simp; omega)
    clear hr
    go_enter Tryd.func89, Tryd.ntmps89
    go_wp2_with (go_at_call 35; refine (HP.out _ D.out).mono ?_; rintro e w1 ⟨rfl, d⟩; have D := Lib.hid d; clear d)
    go_ret
    exact ⟨by rw [HR.out]; exact ret_bool (decide_eq_false (by omega)), D.out⟩
  · have HR : Hid (r = true) := Lib.hid (by rw [hr]; unfold isDg; simp; omega)
    clear hr
    go_enter Tryd.func89, Tryd.ntmps89
    go_wp2_with (go_at_call 35; refine (HP.out _ D.out).mono ?_; rintro e w1 ⟨rfl, d⟩; have D := Lib.hid d; clear d)
    go_ret
    exact ⟨by rw [HR.out]; rfl, D.out⟩
set_option maxRecDepth 20000 in
set_option maxHeartbeats 1000000 in
theorem rdigs_any {p i : Nat} {s : ByteArray} {v : Value} {L : List CR} (w : World) (h : RfB w p s i v L 0) (hs : s.size ≤ 1000000) (hi : i ≤ s.size) : Calls Tryd.prog 62 #[.pointer (some ⟨p, 0, none⟩)] w (RfP p s v L w (if dg s i = i then .bad 40 else .ok (dg s i))) := by
  have H := Lib.hid h
  have HP := Lib.hid (rdigit_any w h hs (by omega))
  have e1 : lk s 0 i = byt s i := rfl
  rw [e1] at HP
  clear h e1
  cases hd : isDg (byt s i) with
  | false =>
    rw [dg_stop hd, if_pos rfl]
    rw [hd] at HP
    have HE := Lib.hid (fun W (r : RfB W p s i v L 40) => rdigit_any W r hs (by omega))
    have e2 : lk s 40 i = 0 := rfl
    rw [e2] at HE
    have e3 : isDg 0 = false := by decide
    rw [e3] at HE
    clear hd e2 e3
    go_enter Tryd.func62, Tryd.ntmps62
    go_wp2_with fail
    refine HP.out.mono ?_
    rintro e w1 ⟨rfl, d⟩
    have R1 := Lib.hid (H.out.dr d)
    clear d
    go_wp2_with fail
    refine (rfail_ok 40 _ R1.out.1).mono ?_
    rintro e w2 ⟨rfl, r2, f2⟩
    have R2 := Lib.hid (And.intro r2 (R1.out.2.trans f2))
    clear r2 f2
    go_wp2_with fail
    refine wp_loop_rounds 1 ?_
    rw [rounds_succ]
    go_wp2_with fail
    refine (HE.out _ R2.out.1).mono ?_
    rintro e w3 ⟨rfl, d⟩
    have R3 := Lib.hid (And.intro (R2.out.1.dr d).1 (R2.out.2.trans (R2.out.1.dr d).2))
    clear d
    go_wp2_with fail
    go_end0
    exact ⟨rfl, i, hi, R3.out.1, R3.out.2⟩
  | true =>
    have hne : ¬ dg s i = i := by rw [dg_step hd]; have := dg_ge s (i + 1); omega
    rw [if_neg hne]
    rw [hd] at HP
    clear hd hne
    go_enter Tryd.func62, Tryd.ntmps62
    go_wp2_with fail
    refine HP.out.mono ?_
    rintro e w1 ⟨rfl, d⟩
    have R1 := Lib.hid (H.out.dr d)
    clear d
    go_wp2_with fail
    go_loopg [7, 8] (s.size + 1) (fun f _ _ wr => ∃ j : Nat, s.size + 1 - j ≤ f ∧ j ≤ s.size ∧ Hid (dg s i = dg s j) ∧ Hid (RfB wr p s j v L 0 ∧ Fr p v v w wr))
    case atStart => exact ⟨i, by omega, hi, Lib.hid rfl, R1⟩
    case round =>
      obtain ⟨j, hf, hj, HE, HR⟩ := hrel
      have HQ := Lib.hid (rdigit_any wr HR.out.1 hs (by omega))
      have e1 : lk s 0 j = byt s j := rfl
      rw [e1] at HQ
      have hji : (j : Int) ≤ 1000000 := by omega
      cases hd : isDg (byt s j) with
      | true =>
        have hjs : j < s.size := byt_in (by intro e'; rw [e'] at hd; cases hd)
        have HN : Hid (dg s i = dg s (j + 1)) := Lib.hid (by rw [HE.out]; exact dg_step hd)
        rw [hd] at HQ
        clear hd e1 HE
        go_wp2_with fail
        refine HQ.out.mono ?_
        rintro e w2 ⟨rfl, d⟩
        have R2 := Lib.hid (And.intro (HR.out.1.dr d).1 (HR.out.2.trans (HR.out.1.dr d).2))
        clear d
        have c1 := R2.out.1.c1
        have z1 := R2.out.1.z 1
        have RN := Lib.hid (And.intro (R2.out.1.at_ (j + 1) ((j : Int) + 1) (by omega)).1 (R2.out.2.trans (R2.out.1.at_ (j + 1) ((j : Int) + 1) (by omega)).2))
        go_wp2_with fail
        go_roundg (gk - 1)
        case rel => exact ⟨j + 1, by omega, by omega, HN, RN⟩
        case measure => omega
      | false =>
        have HN : Hid (dg s i = j) := Lib.hid (by rw [HE.out]; exact dg_stop hd)
        rw [hd] at HQ
        clear hd e1 HE
        go_wp2_with fail
        refine HQ.out.mono ?_
        rintro e w2 ⟨rfl, d⟩
        have R2 := Lib.hid (And.intro (HR.out.1.dr d).1 (HR.out.2.trans (HR.out.1.dr d).2))
        clear d
        go_wp2_with fail
        go_end0
        rw [HN.out]
        exact ⟨rfl, R2.out.1, R2.out.2⟩
end Go.Proofs.YtoicmcjpaodgpaaDoor

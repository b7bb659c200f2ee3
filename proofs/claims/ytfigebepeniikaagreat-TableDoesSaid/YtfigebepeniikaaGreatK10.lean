import Derived.Test.YtfigebepeniikaaGreatK9
import Derived.Deep.RegionLaw
import Derived.ChangeArms
import Derived.Below
import Derived.WalkKit
import Derived.Outline
import Derived.Test.YtfigebepeniikaaGreatK4
/- Layer 27: Drop: its rows. -/
namespace Go.Proofs.YtfigebepeniikaaGreat
open Go.RowKit Go.Maps Go.Shelf
theorem drop_at {L : List RC} {s : ByteArray} {k : Nat} (hc : Ord.chE (idsR L) = 0) (h : Ord.At (idsR L) s k true) : L.filter (fun w => decide (w.id ≠ s)) = L.take k ++ L.drop (k + 1) := by
  obtain ⟨_, _, h3, _⟩ := h
  obtain ⟨h4, h5⟩ := h3 rfl
  rw [idsR_len] at h4
  have e : L = L.take k ++ L[k] :: L.drop (k + 1) := by
    rw [← List.drop_eq_getElem_cons h4, List.take_append_drop]
  rw [idsR_nth L k h4] at h5
  have hne : ∀ j (hj : j < L.length), j ≠ k → (L[j]).id ≠ s := fun j hj hjk e2 => hjk (Ord.rises_inj (L := idsR L) hc (by rw [idsR_len]; exact hj) (by rw [idsR_len]; exact h4) (by rw [idsR_nth L j hj, idsR_nth L k h4, e2, h5]))
  have f1 : (L.take k).filter (fun w => decide (w.id ≠ s)) = L.take k := by
    rw [List.filter_eq_self]
    intro w hw
    obtain ⟨j, hj, rfl⟩ := List.getElem_of_mem hw
    rw [List.length_take] at hj
    rw [List.getElem_take]
    exact decide_eq_true (hne j (by omega) (by omega))
  have f2 : (L.drop (k + 1)).filter (fun w => decide (w.id ≠ s)) = L.drop (k + 1) := by
    rw [List.filter_eq_self]
    intro w hw
    obtain ⟨j, hj, rfl⟩ := List.getElem_of_mem hw
    rw [List.length_drop] at hj
    rw [List.getElem_drop]
    exact decide_eq_true (hne _ (by omega) (by omega))
  have hk : decide ((L[k]).id ≠ s) = false := decide_eq_false (fun h => h h5)
  calc L.filter (fun w => decide (w.id ≠ s)) = (L.take k ++ L[k] :: L.drop (k + 1)).filter (fun w => decide (w.id ≠ s)) := by rw [← e]
    _ = L.take k ++ L.drop (k + 1) := by rw [List.filter_append, List.filter_cons, hk, f1, f2]; rfl
theorem dropT_bad {T : TM} {s : ByteArray} (h : tabOk T = false) : dropT T s = (zT, 8) := by unfold dropT; rw [if_pos h]
theorem dropT_no {T : TM} {s : ByteArray} (h : tabOk T = true) (k : ¬ s ∈ idsR T.rows) : dropT T s = (zT, 270) := by unfold dropT; rw [if_neg (by rw [h]; decide), if_pos k]
theorem dropT_mk {T : TM} {s : ByteArray} {k : Nat} (h : tabOk T = true) (ha : Ord.At (idsR T.rows) s k true) : dropT T s = ({ T with rows := T.rows.take k ++ T.rows.drop (k + 1) }, 0) := by
  have hm : s ∈ idsR T.rows := by
    have := at_mem ha
    simpa using this.symm
  unfold dropT
  rw [if_neg (by rw [h]; decide), if_neg (by simpa using hm), drop_at (tabOk_iff.1 h).up ha]
theorem zip_del (R : List RC) (qs : List Nat) (k : Nat) (hl : qs.length = R.length) : (R.take k ++ R.drop (k + 1)).zip (qs.take k ++ qs.drop (k + 1)) = (R.zip qs).take k ++ (R.zip qs).drop (k + 1) := by
  rw [List.zip_append (by simp [hl]), (zip_td R qs k).1, (zip_td R qs (k + 1)).2]
theorem del_rows {B : Nat} {w w' : World} {R : List RC} {qs : List Nat} {g k : Nat} {v : Value} (h : OwnR B w (.slice (some ⟨g, 0, none⟩) R.length R.length) R qs) (hl : qs.length = R.length) (hk : k < R.length)
    (ho : w'.ownsRow B 28 2 v (R.length - 1) ((rwR R qs).take (k * 2) ++ (rwR R qs).drop ((k + 1) * 2))) (hg : w.grownBy w' (some g)) :
    OwnR B w' v (R.take k ++ R.drop (k + 1)) (qs.take k ++ qs.drop (k + 1)) ∧ (qs.take k ++ qs.drop (k + 1)).length = (R.take k ++ R.drop (k + 1)).length := by
  have hll : (qs.take k ++ qs.drop (k + 1)).length = (R.take k ++ R.drop (k + 1)).length := by simp [hl]
  have hlen : (R.take k ++ R.drop (k + 1)).length = R.length - 1 := by simp; omega
  obtain ⟨_, cur, hc⟩ := h.cur
  refine ⟨ownR_mk hll ?_ fun p hp => ?_, hll⟩
  · rw [zip_del R qs k hl, hlen, List.flatMap_append]
    rw [rwR_zip R qs hl] at ho
    obtain ⟨e1, _⟩ := fm_take rc2 (fun _ => rfl) (R.zip qs) k
    obtain ⟨_, e2⟩ := fm_take rc2 (fun _ => rfl) (R.zip qs) (k + 1)
    rw [e1, e2] at ho
    exact ho
  · rw [zip_del R qs k hl] at hp
    rcases List.mem_append.1 hp with hp | hp
    · obtain ⟨a, b⟩ := ownR_zip h hl p (List.mem_of_mem_take hp)
      exact ⟨a, b.grown hc hg⟩
    · obtain ⟨a, b⟩ := ownR_zip h hl p (List.mem_of_mem_drop hp)
      exact ⟨a, b.grown hc hg⟩
/-- What lies in boxes all the while. -/
structure PD (w W : World) (y0 y1 y2 y3 : Value) : Prop where
  bl : Below w.heap.size w W
  b1 : Bx4 W w.heap.size 25 y0 y1 y2 y3
  b3 : Bx4 W (w.heap.size + 1) 25 (.string ⟨#[]⟩) (.int .i64 0) (.slice none 0 0) (.slice none 0 0)
theorem PD.up {w W W' : World} {y0 y1 y2 y3 : Value} (h : PD w W y0 y1 y2 y3) (k : Below W.heap.size W W') : PD w W' y0 y1 y2 y3 := ⟨h.bl.trans (k.mono h.bl.size), h.b1.up k, h.b3.up k⟩
theorem pd_new (w : World) (y0 y1 y2 y3 : Value) : PD w ((w.alloc (.cells #[y0, y1, y2, y3] 25)).alloc (.cells #[.string ⟨#[]⟩, .int .i64 0, .slice none 0 0, .slice none 0 0] 25)) y0 y1 y2 y3 := by
  refine ⟨((Below.refl _ _).alloc (Nat.le_refl _) _).alloc (by simp) _, (bx4_new w _ _ _ _ _).up ((Below.refl _ _).alloc (Nat.le_refl _) _), ?_⟩
  have h := bx4_new (w.alloc (.cells #[y0, y1, y2, y3] 25)) 25 (.string ⟨#[]⟩) (.int .i64 0) (.slice none 0 0) (.slice none 0 0)
  simpa using h
theorem PD.zero {w W : World} {y0 y1 y2 y3 : Value} (h : PD w W y0 y1 y2 y3) (err : Int) : TabPost w zT err (.returned (.tuple #[.agg #[.string ⟨#[]⟩, .int .i64 0, .slice none 0 0, .slice none 0 0], .int .i64 err])) (W4 W (w.heap.size + 1) (.string ⟨#[]⟩) (.int .i64 0) (.slice none 0 0) (.slice none 0 0)) :=
  ⟨_, rfl, ownV_z _ _, w4_below h.bl (by omega) _ _ _ _⟩
end Go.Proofs.YtfigebepeniikaaGreat
/- Layer 27: Set: its rows. -/
namespace Go.Proofs.YtfigebepeniikaaGreat
open Go.RowKit Go.Maps Go.Shelf
theorem rep_at {L : List RC} {r : RC} {k : Nat} (hc : Ord.chE (idsR L) = 0) (h : Ord.At (idsR L) r.id k true) : L.map (repR r) = L.take k ++ r :: L.drop (k + 1) := by
  obtain ⟨_, _, h3, _⟩ := h
  obtain ⟨h4, h5⟩ := h3 rfl
  rw [idsR_len] at h4
  rw [idsR_nth L k h4] at h5
  have hne : ∀ j (hj : j < L.length), j ≠ k → (L[j]).id ≠ r.id := fun j hj hjk e2 => hjk (Ord.rises_inj (L := idsR L) hc (by rw [idsR_len]; exact hj) (by rw [idsR_len]; exact h4) (by rw [idsR_nth L j hj, idsR_nth L k h4, e2, h5]))
  apply List.ext_getElem
  · simp; omega
  · intro i hi hi2
    rw [List.length_map] at hi
    rw [List.getElem_map]
    by_cases e : i = k
    · subst e
      unfold repR
      rw [if_pos h5, List.getElem_append_right (by rw [List.length_take]; omega)]
      simp [Nat.min_eq_left (Nat.le_of_lt h4)]
    · unfold repR
      rw [if_neg (hne i hi e)]
      by_cases hlt : i < k
      · rw [List.getElem_append_left (by rw [List.length_take]; omega), List.getElem_take]
      · rw [List.getElem_append_right (by rw [List.length_take]; omega)]
        have e2 : i - (L.take k).length = (i - k - 1) + 1 := by rw [List.length_take]; omega
        simp only [e2, List.getElem_cons_succ, List.getElem_drop]
        congr 1
        omega
theorem setT_bad {T : TM} {r : RC} (h : (tabOk T && recOk r) = false) : setT T r = (zT, 8) := by unfold setT; rw [if_pos h]
theorem setT_no {T : TM} {r : RC} (h1 : tabOk T = true) (h2 : recOk r = true) (k : ¬ r.id ∈ idsR T.rows) : setT T r = (zT, 270) := by unfold setT; rw [if_neg (by rw [h1, h2]; decide), if_pos k]
theorem at_in {T : TM} {s : ByteArray} {k : Nat} (ha : Ord.At (idsR T.rows) s k true) : s ∈ idsR T.rows := by
  have := at_mem ha
  simpa using this.symm
theorem setT_cl {T : TM} {r : RC} {k : Nat} (h1 : tabOk T = true) (h2 : recOk r = true) (ha : Ord.At (idsR T.rows) r.id k true) (h : clT T r = true) : setT T r = (zT, 271) := by
  unfold setT
  rw [if_neg (by rw [h1, h2]; decide), if_neg (by simpa using at_in ha), if_pos h]
theorem setT_mk {T : TM} {r : RC} {k : Nat} (h1 : tabOk T = true) (h2 : recOk r = true) (ha : Ord.At (idsR T.rows) r.id k true) (h : clT T r = false) : setT T r = ({ T with rows := T.rows.take k ++ r :: T.rows.drop (k + 1) }, 0) := by
  unfold setT
  rw [if_neg (by rw [h1, h2]; decide), if_neg (by simpa using at_in ha), if_neg (by rw [h]; decide), rep_at (tabOk_iff.1 h1).up ha]
theorem zip_rep (R : List RC) (qs : List Nat) (r : RC) (q k : Nat) (hl : qs.length = R.length) : (R.take k ++ r :: R.drop (k + 1)).zip (qs.take k ++ q :: qs.drop (k + 1)) = (R.zip qs).take k ++ (r, q) :: (R.zip qs).drop (k + 1) := by
  rw [List.zip_append (by simp [hl]), List.zip_cons_cons, (zip_td R qs k).1, (zip_td R qs (k + 1)).2]
theorem rep_rows {B : Nat} {w w' : World} {R : List RC} {qs : List Nat} {g k q : Nat} {r : RC} {v : Value} (h : OwnR B w (.slice (some ⟨g, 0, none⟩) R.length R.length) R qs) (hl : qs.length = R.length) (hk : k < R.length) (hq : OwnD w q r.d) (hB : B ≤ q)
    (ho : w'.ownsRow B 28 2 v R.length ((rwR R qs).take (k * 2) ++ rcell r q ++ (rwR R qs).drop ((k + 1) * 2))) (hg : w.grownBy w' (some g)) :
    OwnR B w' v (R.take k ++ r :: R.drop (k + 1)) (qs.take k ++ q :: qs.drop (k + 1)) ∧ (qs.take k ++ q :: qs.drop (k + 1)).length = (R.take k ++ r :: R.drop (k + 1)).length := by
  have hll : (qs.take k ++ q :: qs.drop (k + 1)).length = (R.take k ++ r :: R.drop (k + 1)).length := by simp [hl]
  have hlen : (R.take k ++ r :: R.drop (k + 1)).length = R.length := by simp; omega
  obtain ⟨_, cur, hc⟩ := h.cur
  refine ⟨ownR_mk hll ?_ fun p hp => ?_, hll⟩
  · rw [zip_rep R qs r q k hl, hlen, List.flatMap_append, List.flatMap_cons]
    rw [rwR_zip R qs hl] at ho
    obtain ⟨e1, _⟩ := fm_take rc2 (fun _ => rfl) (R.zip qs) k
    obtain ⟨_, e2⟩ := fm_take rc2 (fun _ => rfl) (R.zip qs) (k + 1)
    rw [e1, e2, List.append_assoc] at ho
    exact ho
  · rw [zip_rep R qs r q k hl] at hp
    rcases List.mem_append.1 hp with hp | hp
    · obtain ⟨a, b⟩ := ownR_zip h hl p (List.mem_of_mem_take hp)
      exact ⟨a, b.grown hc hg⟩
    · rcases List.mem_cons.1 hp with rfl | hp
      · exact ⟨hB, hq.grown hc hg⟩
      · obtain ⟨a, b⟩ := ownR_zip h hl p (List.mem_of_mem_drop hp)
        exact ⟨a, b.grown hc hg⟩
theorem setC_grown (w : World) (g k : Nat) (v : Value) : w.grownBy (w.setCell ⟨g, k, none⟩ v) (some g) :=
  ⟨rfl, rfl, rfl, by simp [World.setCell], fun i _ hne => RowKit.Below.heap_setCell _ _ _ _ (fun e => hne (by rw [e]))⟩
/-- Two cells of one's own row, set. -/
theorem own_two {w : World} {B e g n k : Nat} {xs : List Value} {v0 v1 : Value} (h : w.ownsRow B e 2 (.slice (some ⟨g, 0, none⟩) n n) n xs) (hk : k < n) : ((w.setCell ⟨g, k * 2, none⟩ v0).setCell ⟨g, k * 2 + 1, none⟩ v1).ownsRow B e 2 (.slice (some ⟨g, 0, none⟩) n n) n (xs.take (k * 2) ++ [v0, v1] ++ xs.drop ((k + 1) * 2)) := by
  have hx := h.1
  rcases h.2 with ⟨h, _⟩ | ⟨g', cap', cur, hq, hg, hgg, h1, h2, h3, h4⟩
  · cases h
  · simp only [Value.slice.injEq, Option.some.injEq, Addr.mk.injEq, and_true, true_and] at hq
    obtain ⟨rfl, rfl⟩ := hq
    have a := set_heap w g (k * 2) v0 _ _ hgg
    have b := set_heap _ g (k * 2 + 1) v1 _ _ a
    refine ⟨by simp; omega, .inr ⟨g, n, _, rfl, hg, b, h1, h2, by simp [h3], ?_⟩⟩
    have hcl : cur.toList.length = n * 2 := by simpa using h3
    have hcx : cur.toList = xs := by rw [← h4, List.take_of_length_le (by omega)]
    rw [Array.toList_setIfInBounds, Array.toList_setIfInBounds, hcx, List.take_of_length_le (by simp; omega)]
    apply List.ext_getElem
    · simp; omega
    · intro i hi hi2
      simp only [List.length_set] at hi
      rw [List.getElem_set, List.getElem_set]
      by_cases e0 : k * 2 = i
      · subst e0
        rw [if_neg (by omega), if_pos rfl, List.getElem_append_left (by simp; omega), List.getElem_append_right (by simp; omega)]
        simp [Nat.min_eq_left (show k * 2 ≤ xs.length by omega)]
      · by_cases e1 : k * 2 + 1 = i
        · subst e1
          rw [if_pos rfl, List.getElem_append_left (by simp; omega), List.getElem_append_right (by simp; omega)]
          simp [Nat.min_eq_left (show k * 2 ≤ xs.length by omega)]
        · rw [if_neg e1, if_neg e0]
          by_cases hlt : i < k * 2
          · rw [List.getElem_append_left (by simp; omega), List.getElem_append_left (by simp; omega), List.getElem_take]
          · rw [List.getElem_append_right (by simp; omega), List.getElem_drop]
            congr 1
            simp
            omega
end Go.Proofs.YtfigebepeniikaaGreat
/- Layer 27: Set, walked. -/
namespace Go.Proofs.YtfigebepeniikaaGreat
open Go.RowKit Go.Maps Go.Shelf
theorem own_cells {w : World} {B e g n k : Nat} {xs : List Value} (h : w.ownsRow B e 2 (.slice (some ⟨g, 0, none⟩) n n) n xs) (hk : k < n) : ∃ v0 v1, w.cell? ⟨g, k * 2, none⟩ = some v0 ∧ w.cell? ⟨g, k * 2 + 1, none⟩ = some v1 ∧ w.frozen? ⟨g, k * 2, none⟩ = false ∧ w.frozen? ⟨g, k * 2 + 1, none⟩ = false := by
  have hx := h.1
  refine ⟨xs[k * 2], xs[k * 2 + 1], by rw [h.cellAt _ (by omega), List.getElem?_eq_getElem (by omega)], by rw [h.cellAt _ (by omega), List.getElem?_eq_getElem (by omega)], ?_, ?_⟩
  · rcases h.2 with ⟨h, _⟩ | ⟨g', cap', cur, hq, hg, hgg, _⟩
    · cases h
    · simp only [Value.slice.injEq, Option.some.injEq, Addr.mk.injEq, and_true, true_and] at hq
      obtain ⟨rfl, rfl⟩ := hq
      simp [World.frozen?, hgg]
  · rcases h.2 with ⟨h, _⟩ | ⟨g', cap', cur, hq, hg, hgg, _⟩
    · cases h
    · simp only [Value.slice.injEq, Option.some.injEq, Addr.mk.injEq, and_true, true_and] at hq
      obtain ⟨rfl, rfl⟩ := hq
      simp [World.frozen?, hgg]
set_option maxRecDepth 20000 in
set_option maxHeartbeats 4000000 in
theorem tSet_any (B B' : Nat) (T : TM) (a1 a2 : Option Addr) (c1 c2 : Nat) (r : RC) (ad : Option Addr) (cp : Nat) (w : World) (hv : TVs B w T a1 c1 a2 c2) (hs : SmT T) (hd : DV B' w ad cp r.d) (hr : SmR r) : Calls Tryz.prog 11 #[tv T a1 c1 a2 c2, rv r ad cp] w (TabPost w (setT T r).1 (setT T r).2) := by
  obtain ⟨Q, hQ⟩ : ∃ Q, Q = TabPost w (setT T r).1 (setT T r).2 := ⟨_, rfl⟩
  have HLM : Hid (∀ r ∈ T.rows, r.d.length ≤ maxLen) := Lib.hid (fun r hr => by have := (hs.each r hr).2.1; unfold maxLen; omega)
  have HCK := Lib.hid (fun W (k : Below w.heap.size w W) => tCheck_any B T a1 a2 c1 c2 W (hv.below k) hs)
  have HRC := Lib.hid (fun W (k : Below w.heap.size w W) => rec_any B' r ad cp W (hd.below k) hr)
  have HTR := Lib.hid (fun W (k : Below w.heap.size w W) => twinR_any B' r ad cp W (hd.below k) (by have := hr.2.1; omega))
  have HOP := Lib.hid (fun (h : tabOk T = true) W (k : Below w.heap.size w W) => open_any B T a1 a2 c1 c2 r.id W (hv.below k) hs (tabOk_iff.1 h).up)
  have HCL := Lib.hid (fun (h1 : tabOk T = true) (h2 : recOk r = true) W p b1 k1 g qs B2 x0 x1 (k : Below w.heap.size w W) (hb : Bx4 W p 53 x0 x1 (.slice b1 T.uq.length k1) (.slice (some ⟨g, 0, none⟩) T.rows.length T.rows.length)) (ho : OwnT B2 W T b1 k1 g qs) =>
    clashes_any r ad cp p x0 x1 b1 (some ⟨g, 0, none⟩) k1 T.rows.length T.uq T.rows W hb (ho.tvs HLM.out).u (by have := hs.uq; omega) ((ho.tvs HLM.out).r.mono (Nat.zero_le _)) (by have := hs.rows; omega) ((hd.below k).mono (Nat.zero_le _)) (rec_ck h2) (fun a ha => rec_ck ((tabOk_iff.1 h1).rcs a ha)))
  have HE8 : Hid ((tabOk T && recOk r) = false → ∀ W y0 y1 y2 y3 z0 z1, PF w W y0 y1 y2 y3 z0 z1 → Q (.returned (.tuple #[.agg #[.string ⟨#[]⟩, .int .i64 0, .slice none 0 0, .slice none 0 0], .int .i64 8])) (W4 W (w.heap.size + 1 + 1) (.string ⟨#[]⟩) (.int .i64 0) (.slice none 0 0) (.slice none 0 0))) := Lib.hid (fun h W y0 y1 y2 y3 z0 z1 hp => by rw [hQ, setT_bad h]; exact hp.zero 8)
  have HE7 : Hid (tabOk T = true → recOk r = true → ¬ r.id ∈ idsR T.rows → ∀ W y0 y1 y2 y3 z0 z1, PF w W y0 y1 y2 y3 z0 z1 → Q (.returned (.tuple #[.agg #[.string ⟨#[]⟩, .int .i64 0, .slice none 0 0, .slice none 0 0], .int .i64 270])) (W4 W (w.heap.size + 1 + 1) (.string ⟨#[]⟩) (.int .i64 0) (.slice none 0 0) (.slice none 0 0))) := Lib.hid (fun h1 h2 h W y0 y1 y2 y3 z0 z1 hp => by rw [hQ, setT_no h1 h2 h]; exact hp.zero 270)
  have HE1 : Hid (tabOk T = true → recOk r = true → ∀ k, Ord.At (idsR T.rows) r.id k true → clT T r = true → ∀ W y0 y1 y2 y3 z0 z1, PF w W y0 y1 y2 y3 z0 z1 → Q (.returned (.tuple #[.agg #[.string ⟨#[]⟩, .int .i64 0, .slice none 0 0, .slice none 0 0], .int .i64 271])) (W4 W (w.heap.size + 1 + 1) (.string ⟨#[]⟩) (.int .i64 0) (.slice none 0 0) (.slice none 0 0))) := Lib.hid (fun h1 h2 k hat h W y0 y1 y2 y3 z0 z1 hp => by rw [hQ, setT_cl h1 h2 hat h]; exact hp.zero 271)
  have HE0 : Hid (tabOk T = true → recOk r = true → ∀ k, Ord.At (idsR T.rows) r.id k true → clT T r = false → ∀ W b1 k1 v qs, Below w.heap.size w W → W.ownsRow w.heap.size 9 1 (.slice b1 T.uq.length k1) T.uq.length (T.uq.map Value.string) → OwnR w.heap.size W v (T.rows.take k ++ r :: T.rows.drop (k + 1)) qs ∧ qs.length = (T.rows.take k ++ r :: T.rows.drop (k + 1)).length → Q (.returned (.tuple #[.agg #[.string T.name, .int .i64 T.most, .slice b1 T.uq.length k1, v], .int .i64 0])) W) := Lib.hid (fun h1 h2 k hat h W b1 k1 v qs hb hu ho => by
    rw [hQ, setT_mk h1 h2 hat h]
    exact ⟨_, rfl, ⟨b1, k1, v, qs, rfl, hu, ho.1, ho.2⟩, hb⟩)
  rw [← hQ]
  obtain ⟨X, hX⟩ : ∃ X, X = ((w.alloc (.cells #[.string T.name, .int .i64 T.most, .slice a1 T.uq.length c1, .slice a2 T.rows.length c2] 25)).alloc (.cells #[.string r.id, .slice ad r.d.length cp] 28)).alloc (.cells #[.string ⟨#[]⟩, .int .i64 0, .slice none 0 0, .slice none 0 0] 25) := ⟨_, rfl⟩
  have PX : Hid (PF w X (.string T.name) (.int .i64 T.most) (.slice a1 T.uq.length c1) (.slice a2 T.rows.length c2) (.string r.id) (.slice ad r.d.length cp)) := Lib.hid (by rw [hX]; exact pf_new _ _ _ _ _ _ _)
  have HIR := Lib.hid (fun W W' (qs : List Nat) g k q v (h : OwnR w.heap.size W (.slice (some ⟨g, 0, none⟩) T.rows.length T.rows.length) T.rows qs) (hl : qs.length = T.rows.length) (hk : k < T.rows.length) (hq : OwnD W q r.d) (hB : w.heap.size ≤ q) (ho : W'.ownsRow w.heap.size 28 2 v T.rows.length ((rwR T.rows qs).take (k * 2) ++ rcell r q ++ (rwR T.rows qs).drop ((k + 1) * 2))) (hg : W.grownBy W' (some g)) => rep_rows h hl hk hq hB ho hg)
  have HOT : Hid (∀ B2 W b1 k1 g qs, OwnT B2 W T b1 k1 g qs → OwnR B2 W (.slice (some ⟨g, 0, none⟩) T.rows.length T.rows.length) T.rows qs ∧ qs.length = T.rows.length ∧ W.ownsRow B2 9 1 (.slice b1 T.uq.length k1) T.uq.length (T.uq.map Value.string) ∧ W.ownsRow B2 28 2 (.slice (some ⟨g, 0, none⟩) T.rows.length T.rows.length) T.rows.length (rwR T.rows qs) ∧ ∀ u ∈ rwR T.rows qs, u.oneCell' = true) := Lib.hid (fun B2 W b1 k1 g qs h => ⟨h.r, h.l, h.u, by have := h.r.row; rwa [h.l] at this, by rw [rwR_zip _ _ h.l]; exact fm_one _⟩)
  have HAT : Hid (∀ k is, Ord.At (idsR T.rows) r.id k is → (is = true → k < T.rows.length) ∧ (is = false → ¬ r.id ∈ idsR T.rows)) := Lib.hid (fun k is h => by
    refine ⟨fun h' => ?_, fun h' => ?_⟩
    · have := (h.2.2.1 h').1
      rwa [idsR_len] at this
    · have e := at_mem h
      rw [h'] at e
      simpa using e.symm)
  unfold tv rv rcell rq at *
  unfold OpPost at HOP
  rw [clT_eq] at HCL
  have hRl : T.rows.length ≤ 1000 := hs.rows
  clear hv hs hd hr hQ HLM
  generalize T.name = nm at *
  generalize T.most = m at *
  generalize T.uq.length = nu at *
  generalize T.rows.length = n at *
  generalize r.id = id at *
  generalize r.d.length = l at *
  generalize tabOk T = tk at *
  generalize recOk r = rk at *
  generalize clT T r = ck at *
  go_enter Tryz.func11, Tryz.ntmps11
  go_wp2_with fail
  rw [← hX]
  clear hX
  refine (HCK.out X PX.out.bl).mono ?_
  rintro e w1 ⟨rfl, b1⟩
  have P1 := Lib.hid (PX.out.up b1)
  clear b1 PX
  cases tk with
  | false =>
    have z0 := P1.out.b3.c0
    have z1 := P1.out.b3.c1
    have z2 := P1.out.b3.c2
    have z3 := P1.out.b3.c3
    have f0 := P1.out.b3.fz 0
    have f1 := P1.out.b3.fz 1
    have f2 := P1.out.b3.fz 2
    have f3 := P1.out.b3.fz 3
    have HE := Lib.hid (HE8.out (by first | rfl | trivial))
    go_wp2_with fail
    exact ret_tt Tryz.results11 rfl rfl (P1.out.b3.set4 _ _ _ _) (HE.out _ _ _ _ _ _ _ P1.out)
  | true =>
    have r0 := P1.out.b2.c0
    have r1 := P1.out.b2.c1
    go_wp2_with fail
    refine (HRC.out w1 P1.out.bl).mono ?_
    rintro e w2 ⟨rfl, b2⟩
    have P2 := Lib.hid (P1.out.up b2)
    clear b2 r0 r1 P1
    cases rk with
    | false =>
      have z0 := P2.out.b3.c0
      have z1 := P2.out.b3.c1
      have z2 := P2.out.b3.c2
      have z3 := P2.out.b3.c3
      have f0 := P2.out.b3.fz 0
      have f1 := P2.out.b3.fz 1
      have f2 := P2.out.b3.fz 2
      have f3 := P2.out.b3.fz 3
      have HE := Lib.hid (HE8.out (by first | rfl | trivial))
      go_wp2_with fail
      exact ret_tt Tryz.results11 rfl rfl (P2.out.b3.set4 _ _ _ _) (HE.out _ _ _ _ _ _ _ P2.out)
    | true =>
      have y0 := P2.out.b1.c0
      have y1 := P2.out.b1.c1
      have y2 := P2.out.b1.c2
      have y3 := P2.out.b1.c3
      have r0 := P2.out.b2.c0
      go_wp2_with fail
      refine (HOP.out (by first | rfl | trivial) w2 P2.out.bl).mono ?_
      rintro e w3 ⟨p, k, is, b1, k1, g, qs, rfl, hat, hp, hbx, hot, b3⟩
      have P3 := Lib.hid (P2.out.up b3)
      have HP : Hid (w.heap.size + 1 + 1 < p) := Lib.hid (Nat.lt_of_lt_of_le P2.out.b3.lt hp)
      have HT3 := Lib.hid (hot.mono P2.out.bl.size)
      have U3 := Lib.hid hbx
      have HA := Lib.hid hat
      have HK := Lib.hid (HAT.out k is hat)
      clear y0 y1 y2 y3 r0 b3 hp hbx hot hat P2 HOP
      cases is with
      | false =>
        have z0 := P3.out.b3.c0
        have z1 := P3.out.b3.c1
        have z2 := P3.out.b3.c2
        have z3 := P3.out.b3.c3
        have f0 := P3.out.b3.fz 0
        have f1 := P3.out.b3.fz 1
        have f2 := P3.out.b3.fz 2
        have f3 := P3.out.b3.fz 3
        have HE := Lib.hid (HE7.out (by first | rfl | trivial) (by first | rfl | trivial) (HK.out.2 (by first | rfl | trivial)))
        go_wp2_with fail
        exact ret_tt Tryz.results11 rfl rfl (P3.out.b3.set4 _ _ _ _) (HE.out _ _ _ _ _ _ _ P3.out)
      | true =>
        have HKN := Lib.hid (HK.out.1 (by first | rfl | trivial))
        have r0 := P3.out.b2.c0
        have r1 := P3.out.b2.c1
        go_wp2_with fail
        refine (HCL.out (by first | rfl | trivial) (by first | rfl | trivial) w3 p b1 k1 g qs _ _ _ P3.out.bl U3.out HT3.out).mono ?_
        rintro e w4 ⟨rfl, b4⟩
        have P4 := Lib.hid (P3.out.up b4)
        have U4 := Lib.hid (U3.out.up b4)
        have HT4 := Lib.hid (HT3.out.up b4)
        clear b4 r0 r1 P3 U3 HT3 HCL HK
        cases ck with
        | true =>
          have z0 := P4.out.b3.c0
          have z1 := P4.out.b3.c1
          have z2 := P4.out.b3.c2
          have z3 := P4.out.b3.c3
          have f0 := P4.out.b3.fz 0
          have f1 := P4.out.b3.fz 1
          have f2 := P4.out.b3.fz 2
          have f3 := P4.out.b3.fz 3
          have HE := Lib.hid (HE1.out (by first | rfl | trivial) (by first | rfl | trivial) k HA.out (by first | rfl | trivial))
          go_wp2_with fail
          exact ret_tt Tryz.results11 rfl rfl (P4.out.b3.set4 _ _ _ _) (HE.out _ _ _ _ _ _ _ P4.out)
        | false =>
          have HE := Lib.hid (HE0.out (by first | rfl | trivial) (by first | rfl | trivial) k HA.out (by first | rfl | trivial))
          have P6 := Lib.hid (P4.out.up (Below.refl w4.heap.size w4).drew)
          have U6 := Lib.hid (U4.out.up (Below.refl w4.heap.size w4).drew)
          have HT6 := Lib.hid (HT4.out.up (Below.refl w4.heap.size w4).drew)
          have u3 := U6.out.c3
          have r0 := P6.out.b2.c0
          have r1 := P6.out.b2.c1
          have hk1 : (k : Int) < n := by have := HKN.out; omega
          have hk0 : (0 : Int) ≤ (k : Int) := by omega
          clear P4 U4 HT4 HE0 HE1 HE7 HE8
          go_wp2_with fail
          go_region_law (first
            | (go_simp; go_at_call 25; refine (HTR.out w4.drew P6.out.bl).mono ?_; rintro e w5 ⟨q, rfl, hq0, hod, b5⟩; have P7 := Lib.hid (P6.out.up b5); have U7 := Lib.hid (U6.out.up b5); have T7 := Lib.hid (HOT.out _ _ _ _ _ _ (HT6.out.up b5)); have D7 := Lib.hid hod; have Q7 : Hid (w.heap.size ≤ q) := Lib.hid (Nat.le_trans P6.out.bl.size hq0); have y3 := U7.out.c3; obtain ⟨v0, v1, i0, i1, i2, i3⟩ := own_cells T7.out.2.2.2.1 HKN.out; clear hq0 hod b5))
          all_goals have OW := Lib.hid (own_two (v0 := .string id) (v1 := .slice (some ⟨q, 0, none⟩) l l) T7.out.2.2.2.1 HKN.out)
          all_goals have C7 := Lib.hid T7.out.1.cur
          all_goals have HG : Hid (w5.grownBy ((w5.setCell ⟨g, k * 2, none⟩ (.string id)).setCell ⟨g, k * 2 + 1, none⟩ (.slice (some ⟨q, 0, none⟩) l l)) (some g)) := Lib.hid (grown_two (setC_grown _ _ _ _) (setC_grown _ _ _ _))
          all_goals have UV : Hid (Bx4 ((w5.setCell ⟨g, k * 2, none⟩ (.string id)).setCell ⟨g, k * 2 + 1, none⟩ (.slice (some ⟨q, 0, none⟩) l l)) p 53 (.string nm) (.int .i64 m) (.slice b1 nu k1) (.slice (some ⟨g, 0, none⟩) n n)) := Lib.hid (by obtain ⟨_, cur, hc⟩ := C7.out; exact U7.out.grown hc (by decide) HG.out)
          all_goals have PV : Hid (Bx4 ((w5.setCell ⟨g, k * 2, none⟩ (.string id)).setCell ⟨g, k * 2 + 1, none⟩ (.slice (some ⟨q, 0, none⟩) l l)) (w.heap.size + 1 + 1) 25 (.string ⟨#[]⟩) (.int .i64 0) (.slice none 0 0) (.slice none 0 0)) := Lib.hid (by obtain ⟨_, cur, hc⟩ := C7.out; exact P7.out.b3.grown hc (by decide) HG.out)
          all_goals have OV : Hid (((w5.setCell ⟨g, k * 2, none⟩ (.string id)).setCell ⟨g, k * 2 + 1, none⟩ (.slice (some ⟨q, 0, none⟩) l l)).ownsRow w.heap.size 9 1 (.slice b1 nu k1) nu (T.uq.map Value.string)) := Lib.hid (by obtain ⟨_, cur, hc⟩ := C7.out; exact own_other T7.out.2.2.1 hc (by decide) HG.out)
          all_goals have RV := Lib.hid (HIR.out _ _ qs g k q _ T7.out.1 T7.out.2.1 HKN.out D7.out Q7.out OW.out HG.out)
          all_goals have BV : Hid (Below w.heap.size w ((w5.setCell ⟨g, k * 2, none⟩ (.string id)).setCell ⟨g, k * 2 + 1, none⟩ (.slice (some ⟨q, 0, none⟩) l l))) := Lib.hid (by obtain ⟨hg0, _⟩ := C7.out; exact P7.out.bl.grown HG.out P7.out.bl.size (fun q hq => by cases hq; exact hg0))
          all_goals clear y3 i0 i1 i2 i3 OW C7 HG U7 P7 T7 D7
          all_goals generalize ((w5.setCell ⟨g, k * 2, none⟩ (.string id)).setCell ⟨g, k * 2 + 1, none⟩ (.slice (some ⟨q, 0, none⟩) l l)) = V at UV PV OV RV BV ⊢
          all_goals have x0 := UV.out.c0
          all_goals have x1 := UV.out.c1
          all_goals have x2 := UV.out.c2
          all_goals have x3 := UV.out.c3
          all_goals have z0 := PV.out.c0
          all_goals have z1 := PV.out.c1
          all_goals have z2 := PV.out.c2
          all_goals have z3 := PV.out.c3
          all_goals have f0 := PV.out.fz 0
          all_goals have f1 := PV.out.fz 1
          all_goals have f2 := PV.out.fz 2
          all_goals have f3 := PV.out.fz 3
          all_goals have HF := Lib.hid (HE.out (W4 V (w.heap.size + 1 + 1) (.string nm) (.int .i64 m) (.slice b1 nu k1) (.slice (some ⟨g, 0, none⟩) n n)) b1 k1 (.slice (some ⟨g, 0, none⟩) n n) (qs.take k ++ q :: qs.drop (k + 1)) (w4_below BV.out (by omega) _ _ _ _) (own_setB4 OV.out PV.out (by decide) _ _ _ _) ⟨RV.out.1.setB4 PV.out (by decide) (by decide) _ _ _ _, RV.out.2⟩)
          all_goals (go_wp2_with fail)
          all_goals exact ret_tt Tryz.results11 rfl rfl (PV.out.set4 _ _ _ _) HF.out
end Go.Proofs.YtfigebepeniikaaGreat
/- Layer 27: Drop, walked. -/
namespace Go.Proofs.YtfigebepeniikaaGreat
open Go.RowKit Go.Maps Go.Shelf
set_option maxRecDepth 20000 in
set_option maxHeartbeats 4000000 in
theorem tDrop_any (B : Nat) (T : TM) (a1 a2 : Option Addr) (c1 c2 : Nat) (s : ByteArray) (w : World) (hv : TVs B w T a1 c1 a2 c2) (hs : SmT T) : Calls Tryz.prog 13 #[tv T a1 c1 a2 c2, .string s] w (TabPost w (dropT T s).1 (dropT T s).2) := by
  obtain ⟨Q, hQ⟩ : ∃ Q, Q = TabPost w (dropT T s).1 (dropT T s).2 := ⟨_, rfl⟩
  have HCK := Lib.hid (fun W (k : Below w.heap.size w W) => tCheck_any B T a1 a2 c1 c2 W (hv.below k) hs)
  have HOP := Lib.hid (fun (h : tabOk T = true) W (k : Below w.heap.size w W) => open_any B T a1 a2 c1 c2 s W (hv.below k) hs (tabOk_iff.1 h).up)
  have HDL : Hid (∀ (k m : Nat) (qs : List Nat) W g (jv : Int), T.rows.length = m + 1 → jv = ((k + 1 : Nat) : Int) → k < m + 1 → OwnR w.heap.size W (.slice (some ⟨g, 0, none⟩) T.rows.length T.rows.length) T.rows qs → qs.length = T.rows.length → Calls Tryz.prog 35 #[.slice (some ⟨g, 0, none⟩) T.rows.length T.rows.length, .int .i64 (k : Nat), .int .i64 jv] W (fun e W' => e = .returned (.slice (some ⟨g, 0, none⟩) m T.rows.length) ∧ (OwnR w.heap.size W' (.slice (some ⟨g, 0, none⟩) m T.rows.length) (T.rows.take k ++ T.rows.drop (k + 1)) (qs.take k ++ qs.drop (k + 1)) ∧ (qs.take k ++ qs.drop (k + 1)).length = (T.rows.take k ++ T.rows.drop (k + 1)).length) ∧ W.grownBy W' (some g))) := Lib.hid (fun k m qs W g jv hm hj hk ho hl => by
    have hrow : W.ownsRow w.heap.size 28 2 (.slice (some ⟨g, 0, none⟩) (m + 1) (m + 1)) (m + 1) (rwR T.rows qs) := by
      have := ho.row
      rwa [hl, hm] at this
    have h1 : ∀ u ∈ rwR T.rows qs, u.oneCell' = true := by rw [rwR_zip _ _ hl]; exact fm_one _
    have h := del_any w.heap.size g m k jv hj (rwR T.rows qs) W hrow (by have := hs.rows; omega) hk h1
    rw [hm]
    refine h.mono ?_
    rintro e W' ⟨rfl, h2, h3⟩
    have hd := del_rows (k := k) (v := .slice (some ⟨g, 0, none⟩) m (m + 1)) ho hl (by omega) (by rw [hm]; exact h2) h3
    exact ⟨rfl, hd, h3⟩)
  have HE8 : Hid (tabOk T = false → ∀ W y0 y1 y2 y3, PD w W y0 y1 y2 y3 → Q (.returned (.tuple #[.agg #[.string ⟨#[]⟩, .int .i64 0, .slice none 0 0, .slice none 0 0], .int .i64 8])) (W4 W (w.heap.size + 1) (.string ⟨#[]⟩) (.int .i64 0) (.slice none 0 0) (.slice none 0 0))) := Lib.hid (fun h W y0 y1 y2 y3 hp => by rw [hQ, dropT_bad h]; exact hp.zero 8)
  have HE1 : Hid (tabOk T = true → ¬ s ∈ idsR T.rows → ∀ W y0 y1 y2 y3, PD w W y0 y1 y2 y3 → Q (.returned (.tuple #[.agg #[.string ⟨#[]⟩, .int .i64 0, .slice none 0 0, .slice none 0 0], .int .i64 270])) (W4 W (w.heap.size + 1) (.string ⟨#[]⟩) (.int .i64 0) (.slice none 0 0) (.slice none 0 0))) := Lib.hid (fun h1 h W y0 y1 y2 y3 hp => by rw [hQ, dropT_no h1 h]; exact hp.zero 270)
  have HE0 : Hid (tabOk T = true → ∀ k, Ord.At (idsR T.rows) s k true → ∀ W b1 k1 v qs, Below w.heap.size w W → W.ownsRow w.heap.size 9 1 (.slice b1 T.uq.length k1) T.uq.length (T.uq.map Value.string) → OwnR w.heap.size W v (T.rows.take k ++ T.rows.drop (k + 1)) qs ∧ qs.length = (T.rows.take k ++ T.rows.drop (k + 1)).length → Q (.returned (.tuple #[.agg #[.string T.name, .int .i64 T.most, .slice b1 T.uq.length k1, v], .int .i64 0])) W) := Lib.hid (fun h1 k hat W b1 k1 v qs hb hu ho => by
    rw [hQ, dropT_mk h1 hat]
    exact ⟨_, rfl, ⟨b1, k1, v, qs, rfl, hu, ho.1, ho.2⟩, hb⟩)
  have HAT : Hid (∀ k is, Ord.At (idsR T.rows) s k is → (is = true → k < T.rows.length) ∧ (is = false → ¬ s ∈ idsR T.rows)) := Lib.hid (fun k is h => by
    refine ⟨fun h' => ?_, fun h' => ?_⟩
    · have := (h.2.2.1 h').1
      rwa [idsR_len] at this
    · have e := at_mem h
      rw [h'] at e
      simpa using e.symm)
  have HOT : Hid (∀ B2 W b1 k1 g qs, OwnT B2 W T b1 k1 g qs → OwnR B2 W (.slice (some ⟨g, 0, none⟩) T.rows.length T.rows.length) T.rows qs ∧ qs.length = T.rows.length ∧ W.ownsRow B2 9 1 (.slice b1 T.uq.length k1) T.uq.length (T.uq.map Value.string)) := Lib.hid (fun B2 W b1 k1 g qs h => ⟨h.r, h.l, h.u⟩)
  have HMX : Hid (T.rows.length ≤ 1000) := Lib.hid hs.rows
  rw [← hQ]
  obtain ⟨X, hX⟩ : ∃ X, X = (w.alloc (.cells #[.string T.name, .int .i64 T.most, .slice a1 T.uq.length c1, .slice a2 T.rows.length c2] 25)).alloc (.cells #[.string ⟨#[]⟩, .int .i64 0, .slice none 0 0, .slice none 0 0] 25) := ⟨_, rfl⟩
  have PX : Hid (PD w X (.string T.name) (.int .i64 T.most) (.slice a1 T.uq.length c1) (.slice a2 T.rows.length c2)) := Lib.hid (by rw [hX]; exact pd_new _ _ _ _ _)
  unfold tv at *
  unfold OpPost at HOP
  clear hv hs hQ
  generalize T.name = nm at *
  generalize T.most = m at *
  generalize T.uq.length = nu at *
  generalize T.rows.length = n at *
  generalize tabOk T = tk at *
  go_enter Tryz.func13, Tryz.ntmps13
  have y0 := PX.out.b1.c0
  have y1 := PX.out.b1.c1
  have y2 := PX.out.b1.c2
  have y3 := PX.out.b1.c3
  go_wp2_with fail
  rw [← hX]
  clear hX
  refine (HCK.out X PX.out.bl).mono ?_
  rintro e w1 ⟨rfl, b1⟩
  have P1 := Lib.hid (PX.out.up b1)
  clear b1 PX y0 y1 y2 y3
  cases tk with
  | false =>
    have z0 := P1.out.b3.c0
    have z1 := P1.out.b3.c1
    have z2 := P1.out.b3.c2
    have z3 := P1.out.b3.c3
    have f0 := P1.out.b3.fz 0
    have f1 := P1.out.b3.fz 1
    have f2 := P1.out.b3.fz 2
    have f3 := P1.out.b3.fz 3
    have HE := Lib.hid (HE8.out (by first | rfl | trivial))
    go_wp2_with fail
    exact ret_tt Tryz.results13 rfl rfl (P1.out.b3.set4 _ _ _ _) (HE.out _ _ _ _ _ P1.out)
  | true =>
    have y0 := P1.out.b1.c0
    have y1 := P1.out.b1.c1
    have y2 := P1.out.b1.c2
    have y3 := P1.out.b1.c3
    go_wp2_with fail
    refine (HOP.out (by first | rfl | trivial) w1 P1.out.bl).mono ?_
    rintro e w3 ⟨p, k, is, b1, k1, g, qs, rfl, hat, hp, hbx, hot, b3⟩
    have P3 := Lib.hid (P1.out.up b3)
    have HP : Hid (w.heap.size + 1 < p) := Lib.hid (Nat.lt_of_lt_of_le P1.out.b3.lt hp)
    have HT3 := Lib.hid (hot.mono P1.out.bl.size)
    have U3 := Lib.hid hbx
    have HA := Lib.hid hat
    have HK := Lib.hid (HAT.out k is hat)
    clear y0 y1 y2 y3 b3 hp hbx hot hat P1 HOP
    cases is with
    | false =>
      have z0 := P3.out.b3.c0
      have z1 := P3.out.b3.c1
      have z2 := P3.out.b3.c2
      have z3 := P3.out.b3.c3
      have f0 := P3.out.b3.fz 0
      have f1 := P3.out.b3.fz 1
      have f2 := P3.out.b3.fz 2
      have f3 := P3.out.b3.fz 3
      have HE := Lib.hid (HE1.out (by first | rfl | trivial) (HK.out.2 (by first | rfl | trivial)))
      go_wp2_with fail
      exact ret_tt Tryz.results13 rfl rfl (P3.out.b3.set4 _ _ _ _) (HE.out _ _ _ _ _ P3.out)
    | true =>
      have HKN := Lib.hid (HK.out.1 (by first | rfl | trivial))
      have HE := Lib.hid (HE0.out (by first | rfl | trivial) k HA.out)
      have x3 := U3.out.c3
      have T3 := Lib.hid (HOT.out _ _ _ _ _ _ HT3.out)
      have hkm : (k : Int) + 1 ≤ 1000 := by have := HKN.out; have := HMX.out; omega
      obtain ⟨j, hj⟩ : ∃ j, n = j + 1 := ⟨n - 1, by have := HKN.out; omega⟩
      replace hj := Lib.hid hj
      have hw : wrap64 ((k : Int) + 1) = ((k + 1 : Nat) : Int) := by
        unfold wrap64
        omega
      have HD := Lib.hid (HDL.out k j qs w3 g _ hj.out hw (by have := HKN.out; have := hj.out; omega) T3.out.1 T3.out.2.1)
      clear hw HT3 HDL HAT HK HA HOT hkm
      go_wp2_with fail
      refine HD.out.mono ?_
      rintro e w4 ⟨rfl, hr, hg⟩
      have C := Lib.hid T3.out.1.cur
      have HR := Lib.hid hr
      have HG := Lib.hid hg
      have U4 : Hid (Bx4 w4 p 53 (.string nm) (.int .i64 m) (.slice b1 nu k1) (.slice (some ⟨g, 0, none⟩) n n)) := Lib.hid (by obtain ⟨_, cur, hc⟩ := C.out; exact U3.out.grown hc (by decide) hg)
      have P4 : Hid (Bx4 w4 (w.heap.size + 1) 25 (.string ⟨#[]⟩) (.int .i64 0) (.slice none 0 0) (.slice none 0 0)) := Lib.hid (by obtain ⟨_, cur, hc⟩ := C.out; exact P3.out.b3.grown hc (by decide) hg)
      have y8 := U4.out.c3
      have f8 := U4.out.fz 3
      have UV := Lib.hid (U4.out.set3 (.slice (some ⟨g, 0, none⟩) j n))
      have PV := Lib.hid (P4.out.other (k := 3) (Nat.ne_of_gt HP.out) (.slice (some ⟨g, 0, none⟩) j n))
      have OV : Hid ((w4.setCell ⟨p, 3, none⟩ (.slice (some ⟨g, 0, none⟩) j n)).ownsRow w.heap.size 9 1 (.slice b1 nu k1) nu (T.uq.map Value.string)) := Lib.hid (by
        obtain ⟨_, cur, hc⟩ := C.out
        exact own_setB (own_other T3.out.2.2 hc (by decide) HG.out) U4.out (by decide))
      have RV : Hid (OwnR w.heap.size (w4.setCell ⟨p, 3, none⟩ (.slice (some ⟨g, 0, none⟩) j n)) (.slice (some ⟨g, 0, none⟩) j n) (T.rows.take k ++ T.rows.drop (k + 1)) (qs.take k ++ qs.drop (k + 1)) ∧ (qs.take k ++ qs.drop (k + 1)).length = (T.rows.take k ++ T.rows.drop (k + 1)).length) := Lib.hid ⟨HR.out.1.setB U4.out (by decide) (by decide), HR.out.2⟩
      have BV : Hid (Below w.heap.size w (w4.setCell ⟨p, 3, none⟩ (.slice (some ⟨g, 0, none⟩) j n))) := Lib.hid (by
        obtain ⟨hg0, _⟩ := C.out
        exact (P3.out.bl.grown HG.out P3.out.bl.size (fun q hq => by cases hq; exact hg0)).setCell (by have := HP.out; show w.heap.size ≤ p; omega) _)
      have x0 := UV.out.c0
      have x1 := UV.out.c1
      have x2 := UV.out.c2
      have x4 := UV.out.c3
      have z0 := PV.out.c0
      have z1 := PV.out.c1
      have z2 := PV.out.c2
      have z3 := PV.out.c3
      have f0 := PV.out.fz 0
      have f1 := PV.out.fz 1
      have f2 := PV.out.fz 2
      have f3 := PV.out.fz 3
      have HF := Lib.hid (HE.out (W4 (w4.setCell ⟨p, 3, none⟩ (.slice (some ⟨g, 0, none⟩) j n)) (w.heap.size + 1) (.string nm) (.int .i64 m) (.slice b1 nu k1) (.slice (some ⟨g, 0, none⟩) j n)) b1 k1 (.slice (some ⟨g, 0, none⟩) j n) (qs.take k ++ qs.drop (k + 1)) (w4_below BV.out (by omega) _ _ _ _) (own_setB4 OV.out PV.out (by decide) _ _ _ _) ⟨RV.out.1.setB4 PV.out (by decide) (by decide) _ _ _ _, RV.out.2⟩)
      clear hr hg x3 P3 U3 T3 HE HD C
      go_wp2_with fail
      exact ret_tt Tryz.results13 rfl rfl (PV.out.set4 _ _ _ _) HF.out
end Go.Proofs.YtfigebepeniikaaGreat
/- Views of what came in, of whatever depth: put together of views of parts. No program in sight. -/
namespace Go.Proofs.YtfigebepeniikaaGreat
open Go.RowKit
/-- How values of a type stand in memory: data, cells, and what they mean. -/
structure Vw : Type 1 where
  D : Type
  size : Nat
  rd : World → D → List Value → Prop
def vInt (k : IntKind) : Vw := ⟨Int, 1, fun _ n cs => cs = [.int k n] ∧ (Lit.int k n).wf = true⟩
def vBool : Vw := ⟨Bool, 1, fun _ b cs => cs = [.bool b]⟩
def vStr : Vw := ⟨ByteArray, 1, fun _ s cs => cs = [.string s] ∧ s.size ≤ maxLen⟩
/-- What stands at a place, a part behind the other. -/
def rowAt (V : Vw) (w : World) (a : Option Addr) (ds : List V.D) : Prop :=
  ∀ i (h : i < ds.length), ∃ b off, a = some ⟨b, off, none⟩ ∧ b < w.heap.size ∧ ∃ es, es.length = V.size ∧ (∀ j, j < V.size → w.cell? ⟨b, off + i * V.size + j, none⟩ = es[j]?) ∧ V.rd w (ds[i]'h) es
def vSlice (V : Vw) : Vw := ⟨List V.D, 1, fun w ds cs => ∃ a c, cs = [.slice a ds.length c] ∧ ds.length ≤ c ∧ c ≤ maxLen ∧ (a = none → ds.length = 0 ∧ c = 0) ∧ rowAt V w a ds⟩
def vNil : Vw := ⟨Unit, 0, fun _ _ cs => cs = []⟩
def vCons (f r : Vw) : Vw := ⟨f.D × r.D, f.size + r.size, fun w d cs => ∃ c1 c2, cs = c1 ++ c2 ∧ c1.length = f.size ∧ c2.length = r.size ∧ f.rd w d.1 c1 ∧ r.rd w d.2 c2⟩
/-- It stays, whatever is done to other memory. -/
def Keeps (V : Vw) : Prop := ∀ {w w' : World} {d : V.D} {cs : List Value}, V.rd w d cs → Below w.heap.size w w' → V.rd w' d cs
theorem keeps_int (k : IntKind) : Keeps (vInt k) := fun h _ => h
theorem keeps_bool : Keeps vBool := fun h _ => h
theorem keeps_str : Keeps vStr := fun h _ => h
theorem keeps_nil : Keeps vNil := fun h _ => h
theorem rowAt_below {V : Vw} (hV : Keeps V) {w w' : World} {a : Option Addr} {ds : List V.D} (h : rowAt V w a ds) (k : Below w.heap.size w w') : rowAt V w' a ds := fun i hi => by
  obtain ⟨b, off, e, hb, es, h1, h2, h3⟩ := h i hi
  exact ⟨b, off, e, Nat.lt_of_lt_of_le hb k.size, es, h1, fun j hj => (k.cell (p := ⟨b, _, none⟩) hb).trans (h2 j hj), hV h3 k⟩
theorem keeps_slice {V : Vw} (hV : Keeps V) : Keeps (vSlice V) := fun {w w' d cs} h k => by
  obtain ⟨a, c, e, h1, h2, h3, h4⟩ := h
  exact ⟨a, c, e, h1, h2, h3, rowAt_below hV h4 k⟩
theorem keeps_cons {f r : Vw} (hf : Keeps f) (hr : Keeps r) : Keeps (vCons f r) := fun {w w' d cs} h k => by
  obtain ⟨c1, c2, e, h1, h2, h3, h4⟩ := h
  exact ⟨c1, c2, e, h1, h2, hf h3 k, hr h4 k⟩
/-- What came in as a value of the type has the view. -/
def Opens (P : Program) (V : Vw) (t : TypeId) : Prop :=
  P.cellsOf t = V.size ∧ ∀ {H : Type} {enc : TypeId × Value → H} {W : World} {base : Nat} {sp : Nat → Bool} {held : Bool} {fuel : Nat} {cs : List Value} {x : DataW H × List MemPlace}, DataW.trod enc P W base sp held fuel t cs = some x → ∃ d, V.rd W d cs
theorem opens_int {P : Program} {t : TypeId} {k : IntKind} (h : P.underlying t = some (.int k)) (hc : P.cellsOf t = 1) : Opens P (vInt k) t := ⟨hc, fun {H enc W base sp held fuel cs x} hx => by
  obtain ⟨n, e, _, hw⟩ := DataW.trod_int h hx
  exact ⟨n, e, hw⟩⟩
theorem opens_bool {P : Program} {t : TypeId} (h : P.underlying t = some .bool) (hc : P.cellsOf t = 1) : Opens P vBool t := ⟨hc, fun {H enc W base sp held fuel cs x} hx => by
  obtain ⟨b, e, _⟩ := DataW.trod_bool h hx
  exact ⟨b, e⟩⟩
theorem opens_str {P : Program} {t : TypeId} (h : P.underlying t = some .string) (hc : P.cellsOf t = 1) : Opens P vStr t := ⟨hc, fun {H enc W base sp held fuel cs x} hx => by
  obtain ⟨s, e, _, hl⟩ := DataW.trod_string h hx
  exact ⟨s, e, hl⟩⟩
theorem cells_spot {W : World} {base n j : Nat} {a : Addr} {cs : List Value} (hj : j = 0) (h : W.cells? base (a.add (j * n)) n = some cs) (hn : 0 < n) : a.spot = none := by
  subst hj
  obtain ⟨_, hl, hcell⟩ := World.cells?_some h
  have c := hcell 0 hn
  rw [List.getElem?_eq_getElem (by omega)] at c
  simpa [Addr.add] using World.cell?_spot c
theorem list_of {α : Type} {Q : Nat → α → Prop} : ∀ l : Nat, (∀ i, i < l → ∃ d, Q i d) → ∃ ds : List α, ds.length = l ∧ ∀ i (h : i < ds.length), Q i (ds[i]'h)
  | 0, _ => ⟨[], rfl, fun i h => absurd h (Nat.not_lt_zero i)⟩
  | l + 1, h => by
    obtain ⟨ds, h1, h2⟩ := list_of l (fun i hi => h i (by omega))
    obtain ⟨d, hd⟩ := h l (by omega)
    refine ⟨ds ++ [d], by simp [h1], fun i hi => ?_⟩
    by_cases e : i < ds.length
    · rw [List.getElem_append_left e]
      exact h2 i e
    · have e2 : i = l := by simp at hi; omega
      subst e2
      have e3 : (ds ++ [d])[i]'hi = d := by
        rw [List.getElem_append_right (by omega)]
        simp [h1]
      rw [e3]
      exact hd
theorem opens_slice {P : Program} {V : Vw} {t e : TypeId} (h : P.underlying t = some (.slice e)) (hc : P.cellsOf t = 1) (hV : Opens P V e) (hs : 0 < V.size) : Opens P (vSlice V) t := ⟨hc, fun {H enc W base sp held fuel cs x} hx => by
  rcases DataW.trod_slice h hx with ⟨hcs, _⟩ | ⟨a, l, c, elems, rest, n, _, hcs, _, _, hlc, hcm, hlen, hel, _, _⟩
  · exact ⟨[], none, 0, hcs, Nat.le_refl _, Nat.zero_le _, fun _ => ⟨rfl, rfl⟩, fun i hi => absurd hi (Nat.not_lt_zero i)⟩
  · have hne : ∀ i, i < l → ∃ d : V.D, ∃ b off, some a = some (⟨b, off, none⟩ : Addr) ∧ b < W.heap.size ∧ ∃ es, es.length = V.size ∧ (∀ j, j < V.size → W.cell? ⟨b, off + i * V.size + j, none⟩ = es[j]?) ∧ V.rd W d es := fun i hi => by
      have e1 := hel i hi
      rw [List.getElem?_eq_getElem (by omega), Option.bind_eq_some_iff, hV.1] at e1
      obtain ⟨es, hcells, hx⟩ := e1
      have e0 := hel 0 (by omega)
      rw [List.getElem?_eq_getElem (by omega), Option.bind_eq_some_iff, hV.1] at e0
      obtain ⟨_, hcells0, _⟩ := e0
      obtain ⟨j, hj⟩ : ∃ j : Nat, j = 0 := ⟨0, rfl⟩
      rw [← hj] at hcells0
      have hspot := cells_spot hj hcells0 hs
      obtain ⟨d, hd⟩ := hV.2 hx
      obtain ⟨_, h2, h3⟩ := World.cells?_some hcells
      obtain ⟨b, off, spot⟩ := a
      have hspot' : spot = none := hspot
      subst hspot'
      have hb : b < W.heap.size := by
        have c0 := h3 0 hs
        rw [List.getElem?_eq_getElem (by omega), Addr.add_lit, Addr.add_lit] at c0
        exact World.block_lt_of_cell? _ _ c0
      exact ⟨d, b, off, rfl, hb, es, h2, fun j hj => by have := h3 j hj; rwa [Addr.add_lit, Addr.add_lit] at this, hd⟩
    obtain ⟨ds, h1, h2⟩ := list_of l hne
    subst h1
    exact ⟨ds, some a, c, hcs, hlc, hcm, (fun e => by cases e), h2⟩⟩
/-- The fields of a struct from an offset on have the view. -/
def FOpens (P : Program) (V : Vw) (fs : List Field) (off : Nat) : Prop :=
  ∀ {H : Type} {enc : TypeId × Value → H} {W : World} {base : Nat} {sp : Nat → Bool} {held : Bool} {n : Nat} {cs : List Value} {xs : List (DataW H × List MemPlace)},
    (∀ (i : Nat) (f : Field), fs[i]? = some f → DataW.trod enc P W base sp held n f.type ((cs.drop f.offset).take (P.cellsOf f.type)) = xs[i]?) → fs.length ≤ xs.length → cs.length = off + V.size → ∃ d, V.rd W d (cs.drop off)
theorem fopens_nil (P : Program) (off : Nat) : FOpens P vNil [] off := fun {H enc W base sp held n cs xs} _ _ hl => ⟨(), List.drop_eq_nil_of_le (by rw [hl]; exact Nat.le_refl _)⟩
theorem fopens_cons {P : Program} {V R : Vw} {f : Field} {fs : List Field} {off : Nat} (ho : f.offset = off) (hV : Opens P V f.type) (hR : FOpens P R fs (off + V.size)) : FOpens P (vCons V R) (f :: fs) off := fun {H enc W base sp held n cs xs} hx hxl hl => by
  have hl' : cs.length = off + (V.size + R.size) := hl
  cases xs with
  | nil => simp at hxl
  | cons y ys =>
    have h0 := hx 0 f rfl
    rw [ho, hV.1] at h0
    obtain ⟨d1, hd1⟩ := hV.2 (x := y) h0
    obtain ⟨d2, hd2⟩ := hR (xs := ys) (fun i g hg => hx (i + 1) g hg) (by simpa using hxl) (by omega)
    refine ⟨(d1, d2), (cs.drop off).take V.size, cs.drop (off + V.size), ?_, ?_, ?_, hd1, hd2⟩
    · rw [← List.drop_drop, List.take_append_drop]
    · rw [List.length_take, List.length_drop]; omega
    · rw [List.length_drop]; omega
theorem opens_struct {P : Program} {V : Vw} {t : TypeId} {fs : Array Field} (h : P.underlying t = some (.struct fs)) (hc : P.cellsOf t = V.size) (hV : FOpens P V fs.toList 0) : Opens P V t := ⟨hc, fun {H enc W base sp held fuel cs x} hx => by
  obtain ⟨xs, n, _, _, hl, hn, hf⟩ := DataW.trod_struct h hx
  have := hV (xs := xs) (fun i f hi => hf i f (by simpa using hi)) (by simp [hn]) (by omega)
  simpa using this⟩
/-! ### Its words, where a walk asks for cells -/
theorem rd_slice {V : Vw} {w : World} {ds : List V.D} {cs : List Value} (h : (vSlice V).rd w ds cs) : ∃ a c, cs = [.slice a ds.length c] ∧ ds.length ≤ c ∧ c ≤ maxLen ∧ (a = none → ds.length = 0 ∧ c = 0) ∧ rowAt V w a ds := h
theorem rd_one {V : Vw} {w : World} {d : V.D} {es : List Value} (h : V.rd w d es) : V.rd w d es := h
end Go.Proofs.YtfigebepeniikaaGreat
/- Layer 27: Same of Uniques, Great and Same of records. -/
namespace Go.Proofs.YtfigebepeniikaaGreat
open Go.RowKit Go.Maps
theorem sv_addr {w : World} {a : Option Addr} {n : Nat} {L : List ByteArray} (h : Ord.SView w a n L) (h0 : 0 < n) : ∃ b off, a = some ⟨b, off, none⟩ := by
  obtain ⟨b, off, e, _⟩ := h.2 0 h0
  exact ⟨b, off, e⟩
theorem sv_at {w : World} {b off n : Nat} {L : List ByteArray} (h : Ord.SView w (some ⟨b, off, none⟩) n L) {i : Nat} (hi : i < n) : b < w.heap.size ∧ w.cell? ⟨b, off + i, none⟩ = some (.string (Ord.nth L i)) := by
  obtain ⟨b', off', e, h1, h2⟩ := h.2 i hi
  simp only [Option.some.injEq, Addr.mk.injEq, and_true] at e
  obtain ⟨rfl, rfl⟩ := e
  exact ⟨h1, h2⟩
theorem nth_ext {L M : List ByteArray} {n : Nat} (h1 : L.length = n) (h2 : M.length = n) (h : ∀ j, j < n → Ord.nth L j = Ord.nth M j) : L = M := by
  apply List.ext_getElem (by omega)
  intro i hi hj
  have := h i (by omega)
  unfold Ord.nth at this
  rw [List.getD_eq_getElem?_getD, List.getD_eq_getElem?_getD, List.getElem?_eq_getElem hi, List.getElem?_eq_getElem hj] at this
  exact this
set_option maxRecDepth 20000 in
theorem strs_any (a1 a2 : Option Addr) (c1 c2 : Nat) (L M : List ByteArray) (w : World) (h1 : Ord.SView w a1 L.length L) (h2 : Ord.SView w a2 M.length M) (hm : L.length ≤ maxLen) : Calls Tryz.prog 38 #[.slice a1 L.length c1, .slice a2 M.length c2] w fun e w' => e = .returned (.bool (decide (L = M))) ∧ Below w.heap.size w w' := by
  unfold maxLen at hm
  obtain ⟨x, hx⟩ : ∃ x, x = decide (L = M) := ⟨_, rfl⟩
  rw [← hx]
  replace hx := Lib.hid hx
  obtain ⟨n1, hn1⟩ : ∃ n, n = L.length := ⟨_, rfl⟩
  obtain ⟨n2, hn2⟩ : ∃ n, n = M.length := ⟨_, rfl⟩
  rw [← hn1] at h1 hm ⊢
  rw [← hn2] at h2 ⊢
  have V1 := Lib.hid h1
  have V2 := Lib.hid h2
  have HN1 := Lib.hid hn1.symm
  have HN2 := Lib.hid hn2.symm
  clear h1 h2 hn1 hn2
  by_cases hne : n1 = n2
  · subst hne
    have hd : ((n1 : Int) != n1) = false := by simp
    go_enter Tryz.func38, Tryz.ntmps38
    go_wp2_with fail
    go_loopw [5] (fun v wr => ∃ i : Nat, i ≤ n1 ∧ v = .int .i64 i ∧ Hid (∀ j, j < i → Ord.nth L j = Ord.nth M j) ∧ Hid (Below w.heap.size w wr)) (fun v _ => n1 - (intOf v).toNat)
    case atStart => exact ⟨0, Nat.zero_le _, rfl, Lib.hid (fun j hj => by omega), Lib.hid (Below.refl _ _)⟩
    case round =>
      obtain ⟨i, hi, rfl, HQ, HB⟩ := hrel
      by_cases hlt : i < n1
      · obtain ⟨b, off, rfl⟩ := sv_addr V1.out (by omega)
        obtain ⟨b2, off2, rfl⟩ := sv_addr V2.out (by omega)
        obtain ⟨_, k1⟩ := sv_at (V1.out.below HB.out) hlt
        obtain ⟨_, k2⟩ := sv_at (V2.out.below HB.out) hlt
        have hg1 : (i : Int) < n1 := by omega
        have hg0 : (0 : Int) ≤ i := by omega
        obtain ⟨p, hp⟩ : ∃ x, x = Ord.nth L i := ⟨_, rfl⟩
        obtain ⟨q, hq⟩ : ∃ y, y = Ord.nth M i := ⟨_, rfl⟩
        rw [← hp] at k1
        rw [← hq] at k2
        by_cases hxy : p = q
        · have HQ2 : Hid (∀ j, j < i + 1 → Ord.nth L j = Ord.nth M j) := Lib.hid (fun j hj => by
            by_cases e : j = i
            · subst e; rw [← hp, ← hq]; exact hxy
            · exact HQ.out j (by omega))
          clear HQ hp hq
          subst hxy
          go_wp2_with fail
          go_quiet (fail)
          go_wp2_with fail
          go_roundw
          case rel => exact ⟨i + 1, by omega, by go_num, HQ2, Lib.hid (below_drewN0 HB.out _)⟩
          case measure => simp [intOf]; omega
        · have HX : Hid (x = false) := Lib.hid (by rw [hx.out]; exact decide_eq_false (fun e => hxy (by rw [hp, hq, e])))
          have he2 : (p.toList == q.toList) = false := by rw [str_is]; simpa using hxy
          have he3 : (p.toList != q.toList) = true := by rw [bne, he2]; rfl
          clear HQ hp hq hxy
          go_wp2_with fail
          go_quiet (fail)
          go_wp2_with fail
          go_ret
          exact ⟨ret_bool HX.out.symm, below_drewN0 HB.out _⟩
      · have e1 : i = n1 := by omega
        subst e1
        have HX : Hid (x = true) := Lib.hid (by rw [hx.out]; exact decide_eq_true (nth_ext HN1.out HN2.out HQ.out))
        have hg1 : ¬ (i : Int) < i := by omega
        clear HQ
        go_wp2_with fail
        go_ret
        exact ⟨ret_bool HX.out.symm, HB.out⟩
  · have HX : Hid (x = false) := Lib.hid (by rw [hx.out]; exact decide_eq_false (fun e => hne (by rw [← HN1.out, ← HN2.out, e])))
    have hd : ((n1 : Int) != n2) = true := by simp; omega
    clear hne
    go_enter Tryz.func38, Tryz.ntmps38
    go_wp2_with fail
    go_ret
    exact ⟨ret_bool HX.out.symm, Below.refl _ _⟩
/-- Is a record too large for the law? -/
def grR (r : RC) : Bool := decide (300 < (r.id.size : Int)) || grP (gl r.d) r.d.length 60
set_option maxRecDepth 20000 in
theorem greatR_any (B : Nat) (r : RC) (ad : Option Addr) (cp : Nat) (w : World) (hd : DV B w ad cp r.d) (hn : r.d.length ≤ maxLen) : Calls Tryz.prog 5 #[rv r ad cp] w fun e w' => e = .returned (.bool (grR r)) ∧ Below w.heap.size w w' := by
  obtain ⟨id, d⟩ := r
  show Calls Tryz.prog 5 #[.agg #[.string id, .slice ad d.length cp]] w fun e w' => e = .returned (.bool (decide (300 < (id.size : Int)) || grP (gl d) d.length 60)) ∧ Below w.heap.size w w'
  have HG := Lib.hid (fun W (k : Below w.heap.size w W) => great_any ad d.length cp 60 60 rfl (gl d) W (hd.1.below k) hn (by omega))
  have HB : Hid (Below w.heap.size w (w.alloc (.cells #[.string id, .slice ad d.length cp] 28))) := Lib.hid ((Below.refl _ _).alloc (Nat.le_refl _) _)
  obtain ⟨x, hx⟩ : ∃ x, x = grP (gl d) d.length 60 := ⟨_, rfl⟩
  rw [← hx] at HG ⊢
  obtain ⟨n, hn'⟩ : ∃ n, n = d.length := ⟨_, rfl⟩
  rw [← hn'] at HG HB
  rw [← hn']
  clear hx hn' hd hn
  by_cases h1 : 300 < (id.size : Int)
  · have e1 : decide (300 < (id.size : Int)) = true := decide_eq_true h1
    rw [e1, Bool.true_or]
    go_enter Tryz.func5, Tryz.ntmps5
    go_wp2_with fail
    go_ret
    exact ⟨rfl, HB.out⟩
  · have e1 : decide (300 < (id.size : Int)) = false := decide_eq_false h1
    rw [e1, Bool.false_or]
    go_enter Tryz.func5, Tryz.ntmps5
    go_wp2_with fail
    refine (HG.out _ HB.out).mono ?_
    rintro e w' ⟨rfl, rfl⟩
    go_wp2_with fail
    go_ret
    exact ⟨rfl, HB.out⟩
set_option maxRecDepth 20000 in
theorem sameR_any (B B' : Nat) (r s : RC) (ad ae : Option Addr) (cp ce : Nat) (w : World) (hd : DV B w ad cp r.d) (he : DV B' w ae ce s.d) (hn : r.d.length ≤ maxLen) : Calls Tryz.prog 15 #[rv r ad cp, rv s ae ce] w fun e w' => e = .returned (.bool (decide (r = s))) ∧ Below w.heap.size w w' := by
  obtain ⟨id, d⟩ := r
  obtain ⟨jd, f⟩ := s
  show Calls Tryz.prog 15 #[.agg #[.string id, .slice ad d.length cp], .agg #[.string jd, .slice ae f.length ce]] w fun e w' => e = .returned (.bool (decide (RC.mk id d = RC.mk jd f))) ∧ Below w.heap.size w w'
  have HS := Lib.hid (fun W (k : Below w.heap.size w W) => rsame_any ad ae d.length f.length cp ce (gl d) (gl f) W (hd.1.below k) (he.1.below k) hn)
  have HB : Hid (Below w.heap.size w ((w.alloc (.cells #[.string id, .slice ad d.length cp] 28)).alloc (.cells #[.string jd, .slice ae f.length ce] 28))) := Lib.hid (((Below.refl _ _).alloc (Nat.le_refl _) _).alloc (by simp) _)
  have HX : Hid (decide (RC.mk id d = RC.mk jd f) = (decide (id = jd) && smB (gl d) d.length (gl f) f.length)) := Lib.hid (by
    rw [sm_dec, Bool.eq_iff_iff, Bool.and_eq_true, decide_eq_true_eq, decide_eq_true_eq, decide_eq_true_eq, RC.mk.injEq])
  obtain ⟨x, hx⟩ : ∃ x, x = smB (gl d) d.length (gl f) f.length := ⟨_, rfl⟩
  rw [← hx] at HS HX
  rw [HX.out]
  obtain ⟨n, hn'⟩ : ∃ n, n = d.length := ⟨_, rfl⟩
  obtain ⟨m, hm'⟩ : ∃ n, n = f.length := ⟨_, rfl⟩
  rw [← hn', ← hm'] at HS HB
  rw [← hn', ← hm']
  clear hx hn' hm' hd hn he HX
  by_cases h1 : id = jd
  · rw [decide_eq_true h1, Bool.true_and]
    subst h1
    go_enter Tryz.func15, Tryz.ntmps15
    go_wp2_with fail
    refine (HS.out _ HB.out).mono ?_
    rintro e w' ⟨rfl, b⟩
    have B1 := Lib.hid (HB.out.trans (b.mono HB.out.size))
    clear b
    go_wp2_with fail
    go_ret
    exact ⟨rfl, B1.out⟩
  · rw [decide_eq_false h1, Bool.false_and]
    have he2 : (id.toList == jd.toList) = false := by rw [str_is]; simpa using h1
    clear h1
    go_enter Tryz.func15, Tryz.ntmps15
    go_wp2_with fail
    go_ret
    exact ⟨rfl, HB.out⟩
end Go.Proofs.YtfigebepeniikaaGreat

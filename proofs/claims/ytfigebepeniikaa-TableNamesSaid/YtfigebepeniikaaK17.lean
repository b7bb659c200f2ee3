import Derived.Test.YtfigebepeniikaaK16
import Derived.Deep.RegionLaw
/- Layer 27: Set: its rows. -/
namespace Go.Proofs.Ytfigebepeniikaa
open Go.RowKit Go.Maps Go.Shelf
theorem rep_at {L : List RC} {r : RC} {k : Nat} (hc : Ord.chE (idsR L) = 0) (h : Ord.At (idsR L) r.id k true) : L.map (repR r) = L.take k ++ r :: L.drop (k + 1) := by
  obtain ⟨_, _, h3, _⟩ := h
  obtain ⟨h4, h5⟩ := h3 rfl
  rw [idsR_len] at h4
  rw [idsR_nth L k h4] at h5
  have hne : ∀ j (hj : j < L.length), j ≠ k → (L[j]).id ≠ r.id := fun j hj hjk e2 => hjk (Ord.rises_inj (L := idsR L) hc (by rw [idsR_len]; exact hj) (by rw [idsR_len]; exact h4) (by rw [idsR_nth L j hj, idsR_nth L k h4, e2, h5]))
  apply List.ext_getElem
  · simp; omega
  · intro i hi hi2
    rw [List.length_map] at hi
    rw [List.getElem_map]
    by_cases e : i = k
    · subst e
      unfold repR
      rw [if_pos h5, List.getElem_append_right (by rw [List.length_take]; omega)]
      simp [Nat.min_eq_left (Nat.le_of_lt h4)]
    · unfold repR
      rw [if_neg (hne i hi e)]
      by_cases hlt : i < k
      · rw [List.getElem_append_left (by rw [List.length_take]; omega), List.getElem_take]
      · rw [List.getElem_append_right (by rw [List.length_take]; omega)]
        have e2 : i - (L.take k).length = (i - k - 1) + 1 := by rw [List.length_take]; omega
        simp only [e2, List.getElem_cons_succ, List.getElem_drop]
        congr 1
        omega
theorem setT_bad {T : TM} {r : RC} (h : (tabOk T && recOk r) = false) : setT T r = (zT, 8) := by unfold setT; rw [if_pos h]
theorem setT_no {T : TM} {r : RC} (h1 : tabOk T = true) (h2 : recOk r = true) (k : ¬ r.id ∈ idsR T.rows) : setT T r = (zT, 270) := by unfold setT; rw [if_neg (by rw [h1, h2]; decide), if_pos k]
theorem at_in {T : TM} {s : ByteArray} {k : Nat} (ha : Ord.At (idsR T.rows) s k true) : s ∈ idsR T.rows := by
  have := at_mem ha
  simpa using this.symm
theorem setT_cl {T : TM} {r : RC} {k : Nat} (h1 : tabOk T = true) (h2 : recOk r = true) (ha : Ord.At (idsR T.rows) r.id k true) (h : clT T r = true) : setT T r = (zT, 271) := by
  unfold setT
  rw [if_neg (by rw [h1, h2]; decide), if_neg (by simpa using at_in ha), if_pos h]
theorem setT_mk {T : TM} {r : RC} {k : Nat} (h1 : tabOk T = true) (h2 : recOk r = true) (ha : Ord.At (idsR T.rows) r.id k true) (h : clT T r = false) : setT T r = ({ T with rows := T.rows.take k ++ r :: T.rows.drop (k + 1) }, 0) := by
  unfold setT
  rw [if_neg (by rw [h1, h2]; decide), if_neg (by simpa using at_in ha), if_neg (by rw [h]; decide), rep_at (tabOk_iff.1 h1).up ha]
theorem zip_rep (R : List RC) (qs : List Nat) (r : RC) (q k : Nat) (hl : qs.length = R.length) : (R.take k ++ r :: R.drop (k + 1)).zip (qs.take k ++ q :: qs.drop (k + 1)) = (R.zip qs).take k ++ (r, q) :: (R.zip qs).drop (k + 1) := by
  rw [List.zip_append (by simp [hl]), List.zip_cons_cons, (zip_td R qs k).1, (zip_td R qs (k + 1)).2]
theorem rep_rows {B : Nat} {w w' : World} {R : List RC} {qs : List Nat} {g k q : Nat} {r : RC} {v : Value} (h : OwnR B w (.slice (some ⟨g, 0, none⟩) R.length R.length) R qs) (hl : qs.length = R.length) (hk : k < R.length) (hq : OwnD w q r.d) (hB : B ≤ q)
    (ho : w'.ownsRow B 32 2 v R.length ((rwR R qs).take (k * 2) ++ rcell r q ++ (rwR R qs).drop ((k + 1) * 2))) (hg : w.grownBy w' (some g)) :
    OwnR B w' v (R.take k ++ r :: R.drop (k + 1)) (qs.take k ++ q :: qs.drop (k + 1)) ∧ (qs.take k ++ q :: qs.drop (k + 1)).length = (R.take k ++ r :: R.drop (k + 1)).length := by
  have hll : (qs.take k ++ q :: qs.drop (k + 1)).length = (R.take k ++ r :: R.drop (k + 1)).length := by simp [hl]
  have hlen : (R.take k ++ r :: R.drop (k + 1)).length = R.length := by simp; omega
  obtain ⟨_, cur, hc⟩ := h.cur
  refine ⟨ownR_mk hll ?_ fun p hp => ?_, hll⟩
  · rw [zip_rep R qs r q k hl, hlen, List.flatMap_append, List.flatMap_cons]
    rw [rwR_zip R qs hl] at ho
    obtain ⟨e1, _⟩ := fm_take rc2 (fun _ => rfl) (R.zip qs) k
    obtain ⟨_, e2⟩ := fm_take rc2 (fun _ => rfl) (R.zip qs) (k + 1)
    rw [e1, e2, List.append_assoc] at ho
    exact ho
  · rw [zip_rep R qs r q k hl] at hp
    rcases List.mem_append.1 hp with hp | hp
    · obtain ⟨a, b⟩ := ownR_zip h hl p (List.mem_of_mem_take hp)
      exact ⟨a, b.grown hc hg⟩
    · rcases List.mem_cons.1 hp with rfl | hp
      · exact ⟨hB, hq.grown hc hg⟩
      · obtain ⟨a, b⟩ := ownR_zip h hl p (List.mem_of_mem_drop hp)
        exact ⟨a, b.grown hc hg⟩
theorem setC_grown (w : World) (g k : Nat) (v : Value) : w.grownBy (w.setCell ⟨g, k, none⟩ v) (some g) :=
  ⟨rfl, rfl, rfl, by simp [World.setCell], fun i _ hne => RowKit.Below.heap_setCell _ _ _ _ (fun e => hne (by rw [e]))⟩
/-- Two cells of one's own row, set. -/
theorem own_two {w : World} {B e g n k : Nat} {xs : List Value} {v0 v1 : Value} (h : w.ownsRow B e 2 (.slice (some ⟨g, 0, none⟩) n n) n xs) (hk : k < n) : ((w.setCell ⟨g, k * 2, none⟩ v0).setCell ⟨g, k * 2 + 1, none⟩ v1).ownsRow B e 2 (.slice (some ⟨g, 0, none⟩) n n) n (xs.take (k * 2) ++ [v0, v1] ++ xs.drop ((k + 1) * 2)) := by
  have hx := h.1
  rcases h.2 with ⟨h, _⟩ | ⟨g', cap', cur, hq, hg, hgg, h1, h2, h3, h4⟩
  · cases h
  · simp only [Value.slice.injEq, Option.some.injEq, Addr.mk.injEq, and_true, true_and] at hq
    obtain ⟨rfl, rfl⟩ := hq
    have a := set_heap w g (k * 2) v0 _ _ hgg
    have b := set_heap _ g (k * 2 + 1) v1 _ _ a
    refine ⟨by simp; omega, .inr ⟨g, n, _, rfl, hg, b, h1, h2, by simp [h3], ?_⟩⟩
    have hcl : cur.toList.length = n * 2 := by simpa using h3
    have hcx : cur.toList = xs := by rw [← h4, List.take_of_length_le (by omega)]
    rw [Array.toList_setIfInBounds, Array.toList_setIfInBounds, hcx, List.take_of_length_le (by simp; omega)]
    apply List.ext_getElem
    · simp; omega
    · intro i hi hi2
      simp only [List.length_set] at hi
      rw [List.getElem_set, List.getElem_set]
      by_cases e0 : k * 2 = i
      · subst e0
        rw [if_neg (by omega), if_pos rfl, List.getElem_append_left (by simp; omega), List.getElem_append_right (by simp; omega)]
        simp [Nat.min_eq_left (show k * 2 ≤ xs.length by omega)]
      · by_cases e1 : k * 2 + 1 = i
        · subst e1
          rw [if_pos rfl, List.getElem_append_left (by simp; omega), List.getElem_append_right (by simp; omega)]
          simp [Nat.min_eq_left (show k * 2 ≤ xs.length by omega)]
        · rw [if_neg e1, if_neg e0]
          by_cases hlt : i < k * 2
          · rw [List.getElem_append_left (by simp; omega), List.getElem_append_left (by simp; omega), List.getElem_take]
          · rw [List.getElem_append_right (by simp; omega), List.getElem_drop]
            congr 1
            simp
            omega
end Go.Proofs.Ytfigebepeniikaa
/- Layer 27: Set, walked. -/
namespace Go.Proofs.Ytfigebepeniikaa
open Go.RowKit Go.Maps Go.Shelf
theorem own_cells {w : World} {B e g n k : Nat} {xs : List Value} (h : w.ownsRow B e 2 (.slice (some ⟨g, 0, none⟩) n n) n xs) (hk : k < n) : ∃ v0 v1, w.cell? ⟨g, k * 2, none⟩ = some v0 ∧ w.cell? ⟨g, k * 2 + 1, none⟩ = some v1 ∧ w.frozen? ⟨g, k * 2, none⟩ = false ∧ w.frozen? ⟨g, k * 2 + 1, none⟩ = false := by
  have hx := h.1
  refine ⟨xs[k * 2], xs[k * 2 + 1], by rw [h.cellAt _ (by omega), List.getElem?_eq_getElem (by omega)], by rw [h.cellAt _ (by omega), List.getElem?_eq_getElem (by omega)], ?_, ?_⟩
  · rcases h.2 with ⟨h, _⟩ | ⟨g', cap', cur, hq, hg, hgg, _⟩
    · cases h
    · simp only [Value.slice.injEq, Option.some.injEq, Addr.mk.injEq, and_true, true_and] at hq
      obtain ⟨rfl, rfl⟩ := hq
      simp [World.frozen?, hgg]
  · rcases h.2 with ⟨h, _⟩ | ⟨g', cap', cur, hq, hg, hgg, _⟩
    · cases h
    · simp only [Value.slice.injEq, Option.some.injEq, Addr.mk.injEq, and_true, true_and] at hq
      obtain ⟨rfl, rfl⟩ := hq
      simp [World.frozen?, hgg]
set_option maxRecDepth 20000 in
set_option maxHeartbeats 4000000 in
theorem tSet_any (B B' : Nat) (T : TM) (a1 a2 : Option Addr) (c1 c2 : Nat) (r : RC) (ad : Option Addr) (cp : Nat) (w : World) (hv : TVs B w T a1 c1 a2 c2) (hs : SmT T) (hd : DV B' w ad cp r.d) (hr : SmR r) : Calls Try.prog 10 #[tv T a1 c1 a2 c2, rv r ad cp] w (TabPost w (setT T r).1 (setT T r).2) := by
  obtain ⟨Q, hQ⟩ : ∃ Q, Q = TabPost w (setT T r).1 (setT T r).2 := ⟨_, rfl⟩
  have HLM : Hid (∀ r ∈ T.rows, r.d.length ≤ maxLen) := Lib.hid (fun r hr => by have := (hs.each r hr).2.1; unfold maxLen; omega)
  have HCK := Lib.hid (fun W (k : Below w.heap.size w W) => tCheck_any B T a1 a2 c1 c2 W (hv.below k) hs)
  have HRC := Lib.hid (fun W (k : Below w.heap.size w W) => rec_any B' r ad cp W (hd.below k) hr)
  have HTR := Lib.hid (fun W (k : Below w.heap.size w W) => twinR_any B' r ad cp W (hd.below k) (by have := hr.2.1; omega))
  have HOP := Lib.hid (fun (h : tabOk T = true) W (k : Below w.heap.size w W) => open_any B T a1 a2 c1 c2 r.id W (hv.below k) hs (tabOk_iff.1 h).up)
  have HCL := Lib.hid (fun (h1 : tabOk T = true) (h2 : recOk r = true) W p b1 k1 g qs B2 x0 x1 (k : Below w.heap.size w W) (hb : Bx4 W p 49 x0 x1 (.slice b1 T.uq.length k1) (.slice (some ⟨g, 0, none⟩) T.rows.length T.rows.length)) (ho : OwnT B2 W T b1 k1 g qs) =>
    clashes_any r ad cp p x0 x1 b1 (some ⟨g, 0, none⟩) k1 T.rows.length T.uq T.rows W hb (ho.tvs HLM.out).u (by have := hs.uq; omega) ((ho.tvs HLM.out).r.mono (Nat.zero_le _)) (by have := hs.rows; omega) ((hd.below k).mono (Nat.zero_le _)) (rec_ck h2) (fun a ha => rec_ck ((tabOk_iff.1 h1).rcs a ha)))
  have HE8 : Hid ((tabOk T && recOk r) = false → ∀ W y0 y1 y2 y3 z0 z1, PF w W y0 y1 y2 y3 z0 z1 → Q (.returned (.tuple #[.agg #[.string ⟨#[]⟩, .int .i64 0, .slice none 0 0, .slice none 0 0], .int .i64 8])) (W4 W (w.heap.size + 1 + 1) (.string ⟨#[]⟩) (.int .i64 0) (.slice none 0 0) (.slice none 0 0))) := Lib.hid (fun h W y0 y1 y2 y3 z0 z1 hp => by rw [hQ, setT_bad h]; exact hp.zero 8)
  have HE7 : Hid (tabOk T = true → recOk r = true → ¬ r.id ∈ idsR T.rows → ∀ W y0 y1 y2 y3 z0 z1, PF w W y0 y1 y2 y3 z0 z1 → Q (.returned (.tuple #[.agg #[.string ⟨#[]⟩, .int .i64 0, .slice none 0 0, .slice none 0 0], .int .i64 270])) (W4 W (w.heap.size + 1 + 1) (.string ⟨#[]⟩) (.int .i64 0) (.slice none 0 0) (.slice none 0 0))) := Lib.hid (fun h1 h2 h W y0 y1 y2 y3 z0 z1 hp => by rw [hQ, setT_no h1 h2 h]; exact hp.zero 270)
  have HE1 : Hid (tabOk T = true → recOk r = true → ∀ k, Ord.At (idsR T.rows) r.id k true → clT T r = true → ∀ W y0 y1 y2 y3 z0 z1, PF w W y0 y1 y2 y3 z0 z1 → Q (.returned (.tuple #[.agg #[.string ⟨#[]⟩, .int .i64 0, .slice none 0 0, .slice none 0 0], .int .i64 271])) (W4 W (w.heap.size + 1 + 1) (.string ⟨#[]⟩) (.int .i64 0) (.slice none 0 0) (.slice none 0 0))) := Lib.hid (fun h1 h2 k hat h W y0 y1 y2 y3 z0 z1 hp => by rw [hQ, setT_cl h1 h2 hat h]; exact hp.zero 271)
  have HE0 : Hid (tabOk T = true → recOk r = true → ∀ k, Ord.At (idsR T.rows) r.id k true → clT T r = false → ∀ W b1 k1 v qs, Below w.heap.size w W → W.ownsRow w.heap.size 9 1 (.slice b1 T.uq.length k1) T.uq.length (T.uq.map Value.string) → OwnR w.heap.size W v (T.rows.take k ++ r :: T.rows.drop (k + 1)) qs ∧ qs.length = (T.rows.take k ++ r :: T.rows.drop (k + 1)).length → Q (.returned (.tuple #[.agg #[.string T.name, .int .i64 T.most, .slice b1 T.uq.length k1, v], .int .i64 0])) W) := Lib.hid (fun h1 h2 k hat h W b1 k1 v qs hb hu ho => by
    rw [hQ, setT_mk h1 h2 hat h]
    exact ⟨_, rfl, ⟨b1, k1, v, qs, rfl, hu, ho.1, ho.2⟩, hb⟩)
  rw [← hQ]
  obtain ⟨X, hX⟩ : ∃ X, X = ((w.alloc (.cells #[.string T.name, .int .i64 T.most, .slice a1 T.uq.length c1, .slice a2 T.rows.length c2] 25)).alloc (.cells #[.string r.id, .slice ad r.d.length cp] 32)).alloc (.cells #[.string ⟨#[]⟩, .int .i64 0, .slice none 0 0, .slice none 0 0] 25) := ⟨_, rfl⟩
  have PX : Hid (PF w X (.string T.name) (.int .i64 T.most) (.slice a1 T.uq.length c1) (.slice a2 T.rows.length c2) (.string r.id) (.slice ad r.d.length cp)) := Lib.hid (by rw [hX]; exact pf_new _ _ _ _ _ _ _)
  have HIR := Lib.hid (fun W W' (qs : List Nat) g k q v (h : OwnR w.heap.size W (.slice (some ⟨g, 0, none⟩) T.rows.length T.rows.length) T.rows qs) (hl : qs.length = T.rows.length) (hk : k < T.rows.length) (hq : OwnD W q r.d) (hB : w.heap.size ≤ q) (ho : W'.ownsRow w.heap.size 32 2 v T.rows.length ((rwR T.rows qs).take (k * 2) ++ rcell r q ++ (rwR T.rows qs).drop ((k + 1) * 2))) (hg : W.grownBy W' (some g)) => rep_rows h hl hk hq hB ho hg)
  have HOT : Hid (∀ B2 W b1 k1 g qs, OwnT B2 W T b1 k1 g qs → OwnR B2 W (.slice (some ⟨g, 0, none⟩) T.rows.length T.rows.length) T.rows qs ∧ qs.length = T.rows.length ∧ W.ownsRow B2 9 1 (.slice b1 T.uq.length k1) T.uq.length (T.uq.map Value.string) ∧ W.ownsRow B2 32 2 (.slice (some ⟨g, 0, none⟩) T.rows.length T.rows.length) T.rows.length (rwR T.rows qs) ∧ ∀ u ∈ rwR T.rows qs, u.oneCell' = true) := Lib.hid (fun B2 W b1 k1 g qs h => ⟨h.r, h.l, h.u, by have := h.r.row; rwa [h.l] at this, by rw [rwR_zip _ _ h.l]; exact fm_one _⟩)
  have HAT : Hid (∀ k is, Ord.At (idsR T.rows) r.id k is → (is = true → k < T.rows.length) ∧ (is = false → ¬ r.id ∈ idsR T.rows)) := Lib.hid (fun k is h => by
    refine ⟨fun h' => ?_, fun h' => ?_⟩
    · have := (h.2.2.1 h').1
      rwa [idsR_len] at this
    · have e := at_mem h
      rw [h'] at e
      simpa using e.symm)
  unfold tv rv rcell rq at *
  unfold OpPost at HOP
  rw [clT_eq] at HCL
  have hRl : T.rows.length ≤ 1000 := hs.rows
  clear hv hs hd hr hQ HLM
  generalize T.name = nm at *
  generalize T.most = m at *
  generalize T.uq.length = nu at *
  generalize T.rows.length = n at *
  generalize r.id = id at *
  generalize r.d.length = l at *
  generalize tabOk T = tk at *
  generalize recOk r = rk at *
  generalize clT T r = ck at *
  go_enter Try.func10, Try.ntmps10
  go_wp2_with fail
  rw [← hX]
  clear hX
  refine (HCK.out X PX.out.bl).mono ?_
  rintro e w1 ⟨rfl, b1⟩
  have P1 := Lib.hid (PX.out.up b1)
  clear b1 PX
  cases tk with
  | false =>
    have z0 := P1.out.b3.c0
    have z1 := P1.out.b3.c1
    have z2 := P1.out.b3.c2
    have z3 := P1.out.b3.c3
    have f0 := P1.out.b3.fz 0
    have f1 := P1.out.b3.fz 1
    have f2 := P1.out.b3.fz 2
    have f3 := P1.out.b3.fz 3
    have HE := Lib.hid (HE8.out (by first | rfl | trivial))
    go_wp2_with fail
    exact ret_tt Try.results10 rfl rfl (P1.out.b3.set4 _ _ _ _) (HE.out _ _ _ _ _ _ _ P1.out)
  | true =>
    have r0 := P1.out.b2.c0
    have r1 := P1.out.b2.c1
    go_wp2_with fail
    refine (HRC.out w1 P1.out.bl).mono ?_
    rintro e w2 ⟨rfl, b2⟩
    have P2 := Lib.hid (P1.out.up b2)
    clear b2 r0 r1 P1
    cases rk with
    | false =>
      have z0 := P2.out.b3.c0
      have z1 := P2.out.b3.c1
      have z2 := P2.out.b3.c2
      have z3 := P2.out.b3.c3
      have f0 := P2.out.b3.fz 0
      have f1 := P2.out.b3.fz 1
      have f2 := P2.out.b3.fz 2
      have f3 := P2.out.b3.fz 3
      have HE := Lib.hid (HE8.out (by first | rfl | trivial))
      go_wp2_with fail
      exact ret_tt Try.results10 rfl rfl (P2.out.b3.set4 _ _ _ _) (HE.out _ _ _ _ _ _ _ P2.out)
    | true =>
      have y0 := P2.out.b1.c0
      have y1 := P2.out.b1.c1
      have y2 := P2.out.b1.c2
      have y3 := P2.out.b1.c3
      have r0 := P2.out.b2.c0
      go_wp2_with fail
      refine (HOP.out (by first | rfl | trivial) w2 P2.out.bl).mono ?_
      rintro e w3 ⟨p, k, is, b1, k1, g, qs, rfl, hat, hp, hbx, hot, b3⟩
      have P3 := Lib.hid (P2.out.up b3)
      have HP : Hid (w.heap.size + 1 + 1 < p) := Lib.hid (Nat.lt_of_lt_of_le P2.out.b3.lt hp)
      have HT3 := Lib.hid (hot.mono P2.out.bl.size)
      have U3 := Lib.hid hbx
      have HA := Lib.hid hat
      have HK := Lib.hid (HAT.out k is hat)
      clear y0 y1 y2 y3 r0 b3 hp hbx hot hat P2 HOP
      cases is with
      | false =>
        have z0 := P3.out.b3.c0
        have z1 := P3.out.b3.c1
        have z2 := P3.out.b3.c2
        have z3 := P3.out.b3.c3
        have f0 := P3.out.b3.fz 0
        have f1 := P3.out.b3.fz 1
        have f2 := P3.out.b3.fz 2
        have f3 := P3.out.b3.fz 3
        have HE := Lib.hid (HE7.out (by first | rfl | trivial) (by first | rfl | trivial) (HK.out.2 (by first | rfl | trivial)))
        go_wp2_with fail
        exact ret_tt Try.results10 rfl rfl (P3.out.b3.set4 _ _ _ _) (HE.out _ _ _ _ _ _ _ P3.out)
      | true =>
        have HKN := Lib.hid (HK.out.1 (by first | rfl | trivial))
        have r0 := P3.out.b2.c0
        have r1 := P3.out.b2.c1
        go_wp2_with fail
        refine (HCL.out (by first | rfl | trivial) (by first | rfl | trivial) w3 p b1 k1 g qs _ _ _ P3.out.bl U3.out HT3.out).mono ?_
        rintro e w4 ⟨rfl, b4⟩
        have P4 := Lib.hid (P3.out.up b4)
        have U4 := Lib.hid (U3.out.up b4)
        have HT4 := Lib.hid (HT3.out.up b4)
        clear b4 r0 r1 P3 U3 HT3 HCL HK
        cases ck with
        | true =>
          have z0 := P4.out.b3.c0
          have z1 := P4.out.b3.c1
          have z2 := P4.out.b3.c2
          have z3 := P4.out.b3.c3
          have f0 := P4.out.b3.fz 0
          have f1 := P4.out.b3.fz 1
          have f2 := P4.out.b3.fz 2
          have f3 := P4.out.b3.fz 3
          have HE := Lib.hid (HE1.out (by first | rfl | trivial) (by first | rfl | trivial) k HA.out (by first | rfl | trivial))
          go_wp2_with fail
          exact ret_tt Try.results10 rfl rfl (P4.out.b3.set4 _ _ _ _) (HE.out _ _ _ _ _ _ _ P4.out)
        | false =>
          have HE := Lib.hid (HE0.out (by first | rfl | trivial) (by first | rfl | trivial) k HA.out (by first | rfl | trivial))
          have P6 := Lib.hid (P4.out.up (Below.refl w4.heap.size w4).drew)
          have U6 := Lib.hid (U4.out.up (Below.refl w4.heap.size w4).drew)
          have HT6 := Lib.hid (HT4.out.up (Below.refl w4.heap.size w4).drew)
          have u3 := U6.out.c3
          have r0 := P6.out.b2.c0
          have r1 := P6.out.b2.c1
          have hk1 : (k : Int) < n := by have := HKN.out; omega
          have hk0 : (0 : Int) ≤ (k : Int) := by omega
          clear P4 U4 HT4 HE0 HE1 HE7 HE8
          go_wp2_with fail
          go_region_law (first
            | (go_simp; go_at_call 23; refine (HTR.out w4.drew P6.out.bl).mono ?_; rintro e w5 ⟨q, rfl, hq0, hod, b5⟩; have P7 := Lib.hid (P6.out.up b5); have U7 := Lib.hid (U6.out.up b5); have T7 := Lib.hid (HOT.out _ _ _ _ _ _ (HT6.out.up b5)); have D7 := Lib.hid hod; have Q7 : Hid (w.heap.size ≤ q) := Lib.hid (Nat.le_trans P6.out.bl.size hq0); have y3 := U7.out.c3; obtain ⟨v0, v1, i0, i1, i2, i3⟩ := own_cells T7.out.2.2.2.1 HKN.out; clear hq0 hod b5))
          all_goals have OW := Lib.hid (own_two (v0 := .string id) (v1 := .slice (some ⟨q, 0, none⟩) l l) T7.out.2.2.2.1 HKN.out)
          all_goals have C7 := Lib.hid T7.out.1.cur
          all_goals have HG : Hid (w5.grownBy ((w5.setCell ⟨g, k * 2, none⟩ (.string id)).setCell ⟨g, k * 2 + 1, none⟩ (.slice (some ⟨q, 0, none⟩) l l)) (some g)) := Lib.hid (grown_two (setC_grown _ _ _ _) (setC_grown _ _ _ _))
          all_goals have UV : Hid (Bx4 ((w5.setCell ⟨g, k * 2, none⟩ (.string id)).setCell ⟨g, k * 2 + 1, none⟩ (.slice (some ⟨q, 0, none⟩) l l)) p 49 (.string nm) (.int .i64 m) (.slice b1 nu k1) (.slice (some ⟨g, 0, none⟩) n n)) := Lib.hid (by obtain ⟨_, cur, hc⟩ := C7.out; exact U7.out.grown hc (by decide) HG.out)
          all_goals have PV : Hid (Bx4 ((w5.setCell ⟨g, k * 2, none⟩ (.string id)).setCell ⟨g, k * 2 + 1, none⟩ (.slice (some ⟨q, 0, none⟩) l l)) (w.heap.size + 1 + 1) 25 (.string ⟨#[]⟩) (.int .i64 0) (.slice none 0 0) (.slice none 0 0)) := Lib.hid (by obtain ⟨_, cur, hc⟩ := C7.out; exact P7.out.b3.grown hc (by decide) HG.out)
          all_goals have OV : Hid (((w5.setCell ⟨g, k * 2, none⟩ (.string id)).setCell ⟨g, k * 2 + 1, none⟩ (.slice (some ⟨q, 0, none⟩) l l)).ownsRow w.heap.size 9 1 (.slice b1 nu k1) nu (T.uq.map Value.string)) := Lib.hid (by obtain ⟨_, cur, hc⟩ := C7.out; exact own_other T7.out.2.2.1 hc (by decide) HG.out)
          all_goals have RV := Lib.hid (HIR.out _ _ qs g k q _ T7.out.1 T7.out.2.1 HKN.out D7.out Q7.out OW.out HG.out)
          all_goals have BV : Hid (Below w.heap.size w ((w5.setCell ⟨g, k * 2, none⟩ (.string id)).setCell ⟨g, k * 2 + 1, none⟩ (.slice (some ⟨q, 0, none⟩) l l))) := Lib.hid (by obtain ⟨hg0, _⟩ := C7.out; exact P7.out.bl.grown HG.out P7.out.bl.size (fun q hq => by cases hq; exact hg0))
          all_goals clear y3 i0 i1 i2 i3 OW C7 HG U7 P7 T7 D7
          all_goals generalize ((w5.setCell ⟨g, k * 2, none⟩ (.string id)).setCell ⟨g, k * 2 + 1, none⟩ (.slice (some ⟨q, 0, none⟩) l l)) = V at UV PV OV RV BV ⊢
          all_goals have x0 := UV.out.c0
          all_goals have x1 := UV.out.c1
          all_goals have x2 := UV.out.c2
          all_goals have x3 := UV.out.c3
          all_goals have z0 := PV.out.c0
          all_goals have z1 := PV.out.c1
          all_goals have z2 := PV.out.c2
          all_goals have z3 := PV.out.c3
          all_goals have f0 := PV.out.fz 0
          all_goals have f1 := PV.out.fz 1
          all_goals have f2 := PV.out.fz 2
          all_goals have f3 := PV.out.fz 3
          all_goals have HF := Lib.hid (HE.out (W4 V (w.heap.size + 1 + 1) (.string nm) (.int .i64 m) (.slice b1 nu k1) (.slice (some ⟨g, 0, none⟩) n n)) b1 k1 (.slice (some ⟨g, 0, none⟩) n n) (qs.take k ++ q :: qs.drop (k + 1)) (w4_below BV.out (by omega) _ _ _ _) (own_setB4 OV.out PV.out (by decide) _ _ _ _) ⟨RV.out.1.setB4 PV.out (by decide) (by decide) _ _ _ _, RV.out.2⟩)
          all_goals (go_wp2_with fail)
          all_goals exact ret_tt Try.results10 rfl rfl (PV.out.set4 _ _ _ _) HF.out
end Go.Proofs.Ytfigebepeniikaa
/- Layer 27: TableSets, walked. -/
namespace Go.Proofs.Ytfigebepeniikaa
open Go.RowKit Go.Maps
theorem set_two (T : TM) (r : RC) : (setT T r).1 = zT ∨ (setT T r).1 = { T with rows := T.rows.map (repR r) } := by
  unfold setT
  split
  · exact .inl rfl
  · split
    · exact .inl rfl
    · split
      · exact .inl rfl
      · exact .inr rfl
theorem SmN.set {k : Nat} {T : TM} {r : RC} (h : SmN k T) (hr : SmR r) : SmN k (setT T r).1 := by
  rcases set_two T r with e | e
  · rw [e]; exact smN_z _
  · rw [e]
    refine ⟨?_, h.uq, fun w hw => ?_, h.us⟩
    · show (T.rows.map (repR r)).length ≤ k
      rw [List.length_map]; exact h.rows
    · obtain ⟨x, hx, rfl⟩ := List.mem_map.1 hw
      unfold repR
      split
      · exact hr
      · exact h.each x hx
theorem smR_z : SmR zC := ⟨fun i hi => absurd hi (Nat.not_lt_zero i), Nat.zero_le _, Nat.zero_le _⟩
theorem get_sm {T : TM} {s : ByteArray} {k : Nat} (hs : SmN k T) : SmR ((getT T s).getD zC) := by
  cases h : getT T s with
  | none => exact smR_z
  | some r => exact hs.each r (getT_mem h)
theorem setMN {k : Nat} {T X : TM} {r : RC} {e : Int} (hX : setT T r = (X, e)) (hs : SmN k T) (hr : SmR r) : SmN k X := by
  have h := hs.set hr
  rw [hX] at h
  exact h
theorem set_pt {k B B' : Nat} {T X : TM} {r : RC} {e : Int} (hX : setT T r = (X, e)) (hk : k ≤ 1000) (hs : SmN k T) (hr : SmR r) : ∀ (W : World) (a1 a2 : Option Addr) (c1 c2 : Nat) (ad : Option Addr) (cp : Nat), TVs B W T a1 c1 a2 c2 → DV B' W ad cp r.d → Calls Try.prog 10 #[.agg #[.string T.name, .int .i64 T.most, .slice a1 T.uq.length c1, .slice a2 T.rows.length c2], .agg #[.string r.id, .slice ad r.d.length cp]] W (PT W X e) := fun W a1 a2 c1 c2 ad cp hv hd => by
  have h := tSet_any B B' T a1 a2 c1 c2 r ad cp W hv (hs.smT hk) hd hr
  rw [hX] at h
  refine h.mono ?_
  rintro e w' ⟨val, rfl, ho, hb⟩
  obtain ⟨e1, f1, e2, f2, rfl, h⟩ := ho.tv (setMN hX hs hr).len
  exact ⟨e1, f1, e2, f2, rfl, h, hb⟩
theorem sets_nums (T : TM) (a : RC) (s : ByteArray) (X D : TM) (e d : Int) (hX : setT T a = (X, e)) (hD : setT X ((getT T a.id).getD zC) = (D, d)) : (e = 0 → tabOk X = true ∧ (getT X a.id).getD zC = a ∧ (getT X a.id).isSome = true ∧ d = 0 ∧ D = T ∧ (getT T a.id).isSome = true ∧ (s ≠ a.id → getT X s = getT T s) ∧ X.rows.length = T.rows.length) ∧ (e ≠ 0 → X.rows.length = 0 ∧ X.most = 0) := by
  constructor
  · rintro rfl
    obtain ⟨h1, h2, h3, ⟨old, h4, h5⟩, h6⟩ := sets_law hX
    rw [h4] at hD
    rw [show (some old).getD zC = old from rfl, h5, Prod.mk.injEq] at hD
    exact ⟨h1, by rw [h3]; rfl, by rw [h3]; rfl, hD.2.symm, hD.1.symm, by rw [h4]; rfl, h6 s, h2⟩
  · intro he
    have := set_err T a (by rw [hX]; exact he)
    rw [hX] at this
    dsimp only at this
    subst this
    exact ⟨rfl, rfl⟩
set_option maxRecDepth 20000 in
set_option maxHeartbeats 4000000 in
theorem sets_walk (T : TM) (a1 : Option Addr) (c1 : Nat) (a2 : Option Addr) (c2 : Nat) (a : RC) (ad : Option Addr) (cp : Nat) (s : ByteArray) (w : World) (hv : TVs 0 w T a1 c1 a2 c2) (hkT : ∀ r ∈ T.rows, KR r ∧ r.d.length ≤ maxLen) (hda : DV 0 w ad cp a.d) (hka : KR a ∧ a.d.length ≤ maxLen) (_ : s.size ≤ maxLen) : Calls Try.prog 5 #[tv T a1 c1 a2 c2, rv a ad cp, .string s] w fun e w' => e = .returned (.bool true) ∧ Below w.heap.size w w' := by
  have HA := Lib.hid (fun W => alive_any W)
  have HG := Lib.hid (fun W (k : Below w.heap.size w W) => greatT_any 0 T a1 a2 c1 c2 W (hv.below k) (fun r hr => (hkT r hr).2))
  have HGa := Lib.hid (fun W (k : Below w.heap.size w W) => greatR_any 0 a ad cp W (hda.below k) hka.2)
  obtain ⟨X, e, hX⟩ : ∃ X e, setT T a = (X, e) := ⟨_, _, rfl⟩
  obtain ⟨D, d, hD⟩ : ∃ D d, setT X ((getT T a.id).getD zC) = (D, d) := ⟨_, _, rfl⟩
  have HL := Lib.hid (sets_nums T a s X D e d hX hD)
  have HST := Lib.hid (fun (h1 : grT T = false) => smN_gr (fun r hr => (hkT r hr).1) h1)
  have HSA := Lib.hid (fun (h2 : grR a = false) => smR_gr hka.1 h2)
  have HSX := Lib.hid (fun (h1 : grT T = false) (h2 : grR a = false) => setMN hX (HST.out h1) (HSA.out h2))
  have HPX := Lib.hid (fun (h1 : grT T = false) (h2 : grR a = false) => set_pt (B := 0) (B' := 0) (k := 12) hX (by decide) (HST.out h1) (HSA.out h2))
  have HDX := Lib.hid (fun (h1 : grT T = false) (h2 : grR a = false) => set_pt (B := 0) (B' := 0) (k := 12) hD (by decide) (HSX.out h1 h2) (get_sm (HST.out h1)))
  have HGX := Lib.hid (fun (h1 : grT T = false) (h2 : grR a = false) => get_gt (B := 0) (k := 12) (T := X) (HSX.out h1 h2) (by decide))
  have HGT := Lib.hid (fun (h1 : grT T = false) => get_gt (B := 0) (k := 12) (T := T) (HST.out h1) (by decide))
  have HCX := Lib.hid (fun (h1 : grT T = false) (h2 : grR a = false) W y1 y2 d1 d2 (u : TVs 0 W X y1 d1 y2 d2) => tCheck_any 0 X y1 y2 d1 d2 W u ((HSX.out h1 h2).smT (by decide)))
  have HSD := Lib.hid (fun (h1 : grT T = false) (h2 : grR a = false) W y1 y2 x1 x2 d1 d2 k1 k2 (u : TVs 0 W D y1 d1 y2 d2) (v : TVs 0 W T x1 k1 x2 k2) => sameT_any 0 0 D T y1 y2 x1 x2 d1 d2 k1 k2 W u v (setMN hD (HSX.out h1 h2) (get_sm (HST.out h1))).len)
  have HL1 := Lib.hid (fun (h1 : grT T = false) (h2 : grR a = false) => get_len (T := X) (s := a.id) (HSX.out h1 h2))
  have HL2 := Lib.hid (fun (h1 : grT T = false) => get_len (T := T) (s := s) (HST.out h1))
  have HSR := Lib.hid (fun (r t : RC) (ar at_ : Option Addr) (cr ct : Nat) W (u : DV 0 W ar cr r.d) (v : DV 0 W at_ ct t.d) (hl : r.d.length ≤ maxLen) => sameR_any 0 0 r t ar at_ cr ct W u v hl)
  have HVT := Lib.hid (fun W (k : Below w.heap.size w W) => hv.below k)
  have HDA := Lib.hid (fun W (k : Below w.heap.size w W) => hda.below k)
  obtain ⟨W0, hW0⟩ : ∃ W, W = (w.alloc (.cells #[.string T.name, .int .i64 T.most, .slice a1 T.uq.length c1, .slice a2 T.rows.length c2] 25)).alloc (.cells #[.string a.id, .slice ad a.d.length cp] 32) := ⟨_, rfl⟩
  have P0 : Hid (PB w W0 (.string T.name) (.int .i64 T.most) (.slice a1 T.uq.length c1) (.slice a2 T.rows.length c2) (.string a.id) (.slice ad a.d.length cp)) := Lib.hid (by rw [hW0]; exact pb_new _ _ _ _ _ _ _)
  unfold tv at HG HSD HCX ⊢
  unfold rv at HGa HSR ⊢
  clear hX hD hv hkT hda hka HST HSA HSX
  generalize ho1 : getT T a.id = o1 at *
  generalize ho2 : getT X a.id = o2 at *
  generalize ho3 : getT T s = o3 at *
  generalize ho4 : getT X s = o4 at *
  have HO1 := Lib.hid ho1
  have HO2 := Lib.hid ho2
  have HO3 := Lib.hid ho3
  have HO4 := Lib.hid ho4
  clear ho1 ho2 ho3 ho4
  generalize grT T = gt at *
  generalize grR a = ga at *
  go_enter Try.func5, Try.ntmps5
  go_wp2_with fail
  rw [← hW0]
  clear hW0
  refine (HA.out W0).mono ?_
  rintro e' w1 ⟨rfl, b1⟩
  have P1 := Lib.hid (P0.out.up b1)
  have y0 := P1.out.b1.c0
  have y1 := P1.out.b1.c1
  have y2 := P1.out.b1.c2
  have y3 := P1.out.b1.c3
  clear b1 P0 HA
  go_wp2_with fail
  refine (HG.out w1 P1.out.bl).mono ?_
  rintro e' w2 ⟨rfl, b2⟩
  have P2 := Lib.hid (P1.out.up b2)
  clear b2 P1 y0 y1 y2 y3 HG
  cases gt with
  | true =>
    go_wp2_with fail
    go_ret
    exact ⟨rfl, P2.out.bl⟩
  | false =>
    have z0 := P2.out.b2.c0
    have z1 := P2.out.b2.c1
    go_wp2_with fail
    refine (HGa.out w2 P2.out.bl).mono ?_
    rintro e' w3 ⟨rfl, b3⟩
    have P3 := Lib.hid (P2.out.up b3)
    clear b3 P2 z0 z1 HGa
    cases ga with
    | true =>
      go_wp2_with fail
      go_ret
      exact ⟨rfl, P3.out.bl⟩
    | false =>
      by_cases hs3 : 300 < (s.size : Int)
      · go_wp2_with fail
        go_ret
        exact ⟨rfl, P3.out.bl⟩
      · have y0 := P3.out.b1.c0
        have y1 := P3.out.b1.c1
        have y2 := P3.out.b1.c2
        have y3 := P3.out.b1.c3
        have z0 := P3.out.b2.c0
        have z1 := P3.out.b2.c1
        go_wp2_with fail
        refine (HPX.out (by first | rfl | trivial) (by first | rfl | trivial) w3 _ _ _ _ _ _ (HVT.out _ P3.out.bl) (HDA.out _ P3.out.bl)).mono ?_
        rintro e' w5 ⟨e15, f15, e25, f25, rfl, v5, b5⟩
        have P5 := Lib.hid ((P3.out.up b5).up ((Below.refl _ _).alloc (Nat.le_refl _) (.cells #[.string X.name, .int .i64 X.most, .slice e15 X.uq.length f15, .slice e25 X.rows.length f25] 25)))
        have V5 := Lib.hid ((v5.mono (Nat.zero_le _)).below ((Below.refl _ _).alloc (Nat.le_refl _) (.cells #[.string X.name, .int .i64 X.most, .slice e15 X.uq.length f15, .slice e25 X.rows.length f25] 25)))
        have Q5 := Lib.hid (bx4_new w5 25 (.string X.name) (.int .i64 X.most) (.slice e15 X.uq.length f15) (.slice e25 X.rows.length f25))
        have q0 := Q5.out.c0
        have q1 := Q5.out.c1
        have q2 := Q5.out.c2
        have q3 := Q5.out.c3
        clear v5 b5 P3 y0 y1 y2 y3 z0 z1 HPX
        by_cases he : e = 0
        case neg =>
          have HN := Lib.hid (HL.out.2 he)
          have he2 : (e != 0) = true := by simpa using he
          have hl0 : ((X.rows.length : Int) == 0) = true := by rw [HN.out.1]; rfl
          have hl1 : (X.most == 0) = true := by rw [HN.out.2]; rfl
          clear he HN HL
          go_wp2_with fail
          go_ret
          exact ⟨rfl, P5.out.bl⟩
        have HN := Lib.hid (HL.out.1 he)
        have he2 : (e != 0) = false := by rw [he]; rfl
        have u0 := P5.out.b2.c0
        have y0 := P5.out.b1.c0
        have y1 := P5.out.b1.c1
        have y2 := P5.out.b1.c2
        have y3 := P5.out.b1.c3
        clear he HL
        go_wp2_with fail
        refine (HGT.out (by first | rfl | trivial) a.id _ _ _ _ _ (HVT.out _ P5.out.bl)).mono ?_
        rw [HO1.out]
        rintro e' w6 ⟨ad6, cp6, rfl, d6, b6⟩
        have P6 := Lib.hid ((P5.out.up b6).up ((Below.refl _ _).alloc (Nat.le_refl _) (.cells #[.string (o1.getD zC).id, .slice ad6 (o1.getD zC).d.length cp6] 32)))
        have V6 := Lib.hid ((V5.out.below b6).below ((Below.refl _ _).alloc (Nat.le_refl _) (.cells #[.string (o1.getD zC).id, .slice ad6 (o1.getD zC).d.length cp6] 32)))
        have Q6 := Lib.hid ((Q5.out.up b6).up ((Below.refl _ _).alloc (Nat.le_refl _) (.cells #[.string (o1.getD zC).id, .slice ad6 (o1.getD zC).d.length cp6] 32)))
        have D6 := Lib.hid (d6.below ((Below.refl _ _).alloc (Nat.le_refl _) (.cells #[.string (o1.getD zC).id, .slice ad6 (o1.getD zC).d.length cp6] 32)))
        have R6 := Lib.hid (bx2_new w6 (.string (o1.getD zC).id) (.slice ad6 (o1.getD zC).d.length cp6))
        have r0 := Q6.out.c0
        have r1 := Q6.out.c1
        have r2 := Q6.out.c2
        have r3 := Q6.out.c3
        have z0 := P6.out.b2.c0
        clear d6 b6 P5 V5 Q5 q0 q1 q2 q3 u0 y0 y1 y2 y3
        go_wp2_with fail
        refine (HGX.out (by first | rfl | trivial) (by first | rfl | trivial) a.id _ _ _ _ _ V6.out).mono ?_
        rw [HO2.out]
        rintro e' w7 ⟨ad7, cp7, rfl, d7, b7⟩
        have P7 := Lib.hid ((P6.out.up b7).up ((Below.refl _ _).alloc (Nat.le_refl _) (.cells #[.string (o2.getD zC).id, .slice ad7 (o2.getD zC).d.length cp7] 32)))
        have V7 := Lib.hid ((V6.out.below b7).below ((Below.refl _ _).alloc (Nat.le_refl _) (.cells #[.string (o2.getD zC).id, .slice ad7 (o2.getD zC).d.length cp7] 32)))
        have Q7 := Lib.hid ((Q6.out.up b7).up ((Below.refl _ _).alloc (Nat.le_refl _) (.cells #[.string (o2.getD zC).id, .slice ad7 (o2.getD zC).d.length cp7] 32)))
        have D67 := Lib.hid ((D6.out.below b7).below ((Below.refl _ _).alloc (Nat.le_refl _) (.cells #[.string (o2.getD zC).id, .slice ad7 (o2.getD zC).d.length cp7] 32)))
        have D7 := Lib.hid (d7.below ((Below.refl _ _).alloc (Nat.le_refl _) (.cells #[.string (o2.getD zC).id, .slice ad7 (o2.getD zC).d.length cp7] 32)))
        have R67 := Lib.hid ((R6.out.up b7).up ((Below.refl _ _).alloc (Nat.le_refl _) (.cells #[.string (o2.getD zC).id, .slice ad7 (o2.getD zC).d.length cp7] 32)))
        have R7 := Lib.hid (bx2_new w7 (.string (o2.getD zC).id) (.slice ad7 (o2.getD zC).d.length cp7))
        have q0 := Q7.out.c0
        have q1 := Q7.out.c1
        have q2 := Q7.out.c2
        have q3 := Q7.out.c3
        have x0 := R67.out.c0
        have x1 := R67.out.c1
        clear d7 b7 P6 V6 Q6 D6 R6 r0 r1 r2 r3 z0
        go_wp2_with fail
        refine (HDX.out (by first | rfl | trivial) (by first | rfl | trivial) _ _ _ _ _ _ _ V7.out D67.out).mono ?_
        rintro e' w8 ⟨e18, f18, e28, f28, rfl, v8, b8⟩
        have P8 := Lib.hid ((P7.out.up b8).up ((Below.refl _ _).alloc (Nat.le_refl _) (.cells #[.string D.name, .int .i64 D.most, .slice e18 D.uq.length f18, .slice e28 D.rows.length f28] 25)))
        have VX8 := Lib.hid ((V7.out.below b8).below ((Below.refl _ _).alloc (Nat.le_refl _) (.cells #[.string D.name, .int .i64 D.most, .slice e18 D.uq.length f18, .slice e28 D.rows.length f28] 25)))
        have V8 := Lib.hid ((v8.mono (Nat.zero_le _)).below ((Below.refl _ _).alloc (Nat.le_refl _) (.cells #[.string D.name, .int .i64 D.most, .slice e18 D.uq.length f18, .slice e28 D.rows.length f28] 25)))
        have Q8 := Lib.hid ((Q7.out.up b8).up ((Below.refl _ _).alloc (Nat.le_refl _) (.cells #[.string D.name, .int .i64 D.most, .slice e18 D.uq.length f18, .slice e28 D.rows.length f28] 25)))
        have D78 := Lib.hid ((D7.out.below b8).below ((Below.refl _ _).alloc (Nat.le_refl _) (.cells #[.string D.name, .int .i64 D.most, .slice e18 D.uq.length f18, .slice e28 D.rows.length f28] 25)))
        have R78 := Lib.hid ((R7.out.up b8).up ((Below.refl _ _).alloc (Nat.le_refl _) (.cells #[.string D.name, .int .i64 D.most, .slice e18 D.uq.length f18, .slice e28 D.rows.length f28] 25)))
        have S8 := Lib.hid (bx4_new w8 25 (.string D.name) (.int .i64 D.most) (.slice e18 D.uq.length f18) (.slice e28 D.rows.length f28))
        have y0 := P8.out.b1.c0
        have y1 := P8.out.b1.c1
        have y2 := P8.out.b1.c2
        have y3 := P8.out.b1.c3
        clear v8 b8 P7 V7 Q7 D7 R7 R67 D67 q0 q1 q2 q3 x0 x1
        go_wp2_with fail
        refine (HGT.out (by first | rfl | trivial) s _ _ _ _ _ (HVT.out _ P8.out.bl)).mono ?_
        rw [HO3.out]
        rintro e' w9 ⟨ad9, cp9, rfl, d9, b9⟩
        have P9 := Lib.hid ((P8.out.up b9).up ((Below.refl _ _).alloc (Nat.le_refl _) (.cells #[.string (o3.getD zC).id, .slice ad9 (o3.getD zC).d.length cp9] 32)))
        have VX9 := Lib.hid ((VX8.out.below b9).below ((Below.refl _ _).alloc (Nat.le_refl _) (.cells #[.string (o3.getD zC).id, .slice ad9 (o3.getD zC).d.length cp9] 32)))
        have V9 := Lib.hid ((V8.out.below b9).below ((Below.refl _ _).alloc (Nat.le_refl _) (.cells #[.string (o3.getD zC).id, .slice ad9 (o3.getD zC).d.length cp9] 32)))
        have Q9 := Lib.hid ((Q8.out.up b9).up ((Below.refl _ _).alloc (Nat.le_refl _) (.cells #[.string (o3.getD zC).id, .slice ad9 (o3.getD zC).d.length cp9] 32)))
        have D79 := Lib.hid ((D78.out.below b9).below ((Below.refl _ _).alloc (Nat.le_refl _) (.cells #[.string (o3.getD zC).id, .slice ad9 (o3.getD zC).d.length cp9] 32)))
        have D9 := Lib.hid (d9.below ((Below.refl _ _).alloc (Nat.le_refl _) (.cells #[.string (o3.getD zC).id, .slice ad9 (o3.getD zC).d.length cp9] 32)))
        have R79 := Lib.hid ((R78.out.up b9).up ((Below.refl _ _).alloc (Nat.le_refl _) (.cells #[.string (o3.getD zC).id, .slice ad9 (o3.getD zC).d.length cp9] 32)))
        have S9 := Lib.hid ((S8.out.up b9).up ((Below.refl _ _).alloc (Nat.le_refl _) (.cells #[.string (o3.getD zC).id, .slice ad9 (o3.getD zC).d.length cp9] 32)))
        have R9 := Lib.hid (bx2_new w9 (.string (o3.getD zC).id) (.slice ad9 (o3.getD zC).d.length cp9))
        have q0 := Q9.out.c0
        have q1 := Q9.out.c1
        have q2 := Q9.out.c2
        have q3 := Q9.out.c3
        clear d9 b9 P8 VX8 V8 Q8 D78 R78 S8 y0 y1 y2 y3
        go_wp2_with fail
        refine (HGX.out (by first | rfl | trivial) (by first | rfl | trivial) s _ _ _ _ _ VX9.out).mono ?_
        rw [HO4.out]
        rintro e' wA ⟨adA, cpA, rfl, dA, bA⟩
        have PA := Lib.hid ((P9.out.up bA).up ((Below.refl _ _).alloc (Nat.le_refl _) (.cells #[.string (o4.getD zC).id, .slice adA (o4.getD zC).d.length cpA] 32)))
        have VXA := Lib.hid ((VX9.out.below bA).below ((Below.refl _ _).alloc (Nat.le_refl _) (.cells #[.string (o4.getD zC).id, .slice adA (o4.getD zC).d.length cpA] 32)))
        have VDA := Lib.hid ((V9.out.below bA).below ((Below.refl _ _).alloc (Nat.le_refl _) (.cells #[.string (o4.getD zC).id, .slice adA (o4.getD zC).d.length cpA] 32)))
        have QA := Lib.hid ((Q9.out.up bA).up ((Below.refl _ _).alloc (Nat.le_refl _) (.cells #[.string (o4.getD zC).id, .slice adA (o4.getD zC).d.length cpA] 32)))
        have D6A := Lib.hid ((D79.out.below bA).below ((Below.refl _ _).alloc (Nat.le_refl _) (.cells #[.string (o4.getD zC).id, .slice adA (o4.getD zC).d.length cpA] 32)))
        have D7A := Lib.hid ((D9.out.below bA).below ((Below.refl _ _).alloc (Nat.le_refl _) (.cells #[.string (o4.getD zC).id, .slice adA (o4.getD zC).d.length cpA] 32)))
        have D8A := Lib.hid (dA.below ((Below.refl _ _).alloc (Nat.le_refl _) (.cells #[.string (o4.getD zC).id, .slice adA (o4.getD zC).d.length cpA] 32)))
        have R6A := Lib.hid ((R79.out.up bA).up ((Below.refl _ _).alloc (Nat.le_refl _) (.cells #[.string (o4.getD zC).id, .slice adA (o4.getD zC).d.length cpA] 32)))
        have R7A := Lib.hid ((R9.out.up bA).up ((Below.refl _ _).alloc (Nat.le_refl _) (.cells #[.string (o4.getD zC).id, .slice adA (o4.getD zC).d.length cpA] 32)))
        have SA := Lib.hid ((S9.out.up bA).up ((Below.refl _ _).alloc (Nat.le_refl _) (.cells #[.string (o4.getD zC).id, .slice adA (o4.getD zC).d.length cpA] 32)))
        have R8A := Lib.hid (bx2_new wA (.string (o4.getD zC).id) (.slice adA (o4.getD zC).d.length cpA))
        have y0 := QA.out.c0
        have y1 := QA.out.c1
        have y2 := QA.out.c2
        have y3 := QA.out.c3
        clear dA bA P9 VX9 V9 Q9 D79 D9 R79 R9 S9 q0 q1 q2 q3
        go_wp2_with fail
        refine (HCX.out (by first | rfl | trivial) (by first | rfl | trivial) _ _ _ _ _ VXA.out).mono ?_
        rw [HN.out.1]
        rintro e' wB ⟨rfl, bB⟩
        have r0 := (R6A.out.up bB).c0
        have r1 := (R6A.out.up bB).c1
        have z0 := (PA.out.up bB).b2.c0
        have z1 := (PA.out.up bB).b2.c1
        have PBB := Lib.hid (PA.out.up bB)
        have BB := Lib.hid bB
        have his : o2.isSome = true := HN.out.2.2.1
        have his1 : o1.isSome = true := HN.out.2.2.2.2.2.1
        have hrl : ((X.rows.length : Int) != T.rows.length) = false := by rw [HN.out.2.2.2.2.2.2.2]; simp
        have hd0 : (d != 0) = false := by rw [HN.out.2.2.2.1]; rfl
        have HC1 := Lib.hid (HSR.out (o2.getD zC) a ad7 ad cp7 cp wB (D6A.out.below bB) (HDA.out _ PBB.out.bl) (HL1.out (by first | rfl | trivial) (by first | rfl | trivial)))
        rw [decide_eq_true HN.out.2.1] at HC1
        clear bB y0 y1 y2 y3 PA
        go_wp2_with fail
        refine HC1.out.mono ?_
        rintro e' wC ⟨rfl, bC⟩
        have BC := Lib.hid (BB.out.trans (bC.mono BB.out.size))
        have PC := Lib.hid (PBB.out.up bC)
        have q0 := (SA.out.up BC.out).c0
        have q1 := (SA.out.up BC.out).c1
        have q2 := (SA.out.up BC.out).c2
        have q3 := (SA.out.up BC.out).c3
        have y0 := PC.out.b1.c0
        have y1 := PC.out.b1.c1
        have y2 := PC.out.b1.c2
        have y3 := PC.out.b1.c3
        have HC2 := Lib.hid (HSD.out (by first | rfl | trivial) (by first | rfl | trivial) wC _ _ _ _ _ _ _ _ (VDA.out.below BC.out) (HVT.out _ PC.out.bl))
        rw [decide_eq_true HN.out.2.2.2.2.1] at HC2
        clear bC BB PBB r0 r1 z0 z1 HC1
        go_wp2_with fail
        refine HC2.out.mono ?_
        rintro e' wD ⟨rfl, bD⟩
        have BD := Lib.hid (BC.out.trans (bD.mono BC.out.size))
        have PD' := Lib.hid (PC.out.up bD)
        have z0 := PD'.out.b2.c0
        have k3 := PD'.out.b1.c3
        have j3 := (QA.out.up BD.out).c3
        clear bD BC PC q0 q1 q2 q3 y0 y1 y2 y3 HC2
        by_cases hsa : s = a.id
        · have hs1 : (s.toList == a.id.toList) = true := by rw [str_is]; simpa using hsa
          clear hsa HN
          go_wp2_with fail
          go_ret
          exact ⟨rfl, PD'.out.bl⟩
        · have hs1 : (s.toList == a.id.toList) = false := by rw [str_is]; simpa using hsa
          have HO : Hid (o4 = o3) := Lib.hid (HN.out.2.2.2.2.2.2.1 hsa)
          have hoo : (o3.isSome == o4.isSome) = true := by rw [HO.out]; simp
          have r0 := (R7A.out.up BD.out).c0
          have r1 := (R7A.out.up BD.out).c1
          have x0 := (R8A.out.up BD.out).c0
          have x1 := (R8A.out.up BD.out).c1
          have HC3 := Lib.hid (HSR.out (o3.getD zC) (o4.getD zC) ad9 adA cp9 cpA wD (D7A.out.below BD.out) (D8A.out.below BD.out) (HL2.out (by first | rfl | trivial)))
          rw [decide_eq_true (show o3.getD zC = o4.getD zC by rw [HO.out])] at HC3
          clear hsa HN HO
          go_wp2_with fail
          refine HC3.out.mono ?_
          rintro e' wE ⟨rfl, bE⟩
          have PE := Lib.hid (PD'.out.up bE)
          clear bE
          go_wp2_with fail
          go_ret
          exact ⟨rfl, PE.out.bl⟩
end Go.Proofs.Ytfigebepeniikaa

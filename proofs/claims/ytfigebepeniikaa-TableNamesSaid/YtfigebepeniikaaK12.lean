import Derived.Test.YtfigebepeniikaaK11
import Derived.Deep.RegionLaw
import Derived.Test.YtfigebepeniikaaK5
/- Layer 27: Put, walked. -/
namespace Go.Proofs.Ytfigebepeniikaa
open Go.RowKit Go.Maps Go.Shelf
set_option maxRecDepth 20000 in
set_option maxHeartbeats 4000000 in
theorem tPut_any (B B' : Nat) (T : TM) (a1 a2 : Option Addr) (c1 c2 : Nat) (r : RC) (ad : Option Addr) (cp : Nat) (w : World) (hv : TVs B w T a1 c1 a2 c2) (hs : SmT T) (hd : DV B' w ad cp r.d) (hr : SmR r) : Calls Try.prog 7 #[tv T a1 c1 a2 c2, rv r ad cp] w (TabPost w (putT T r).1 (putT T r).2) := by
  obtain ⟨Q, hQ⟩ : ∃ Q, Q = TabPost w (putT T r).1 (putT T r).2 := ⟨_, rfl⟩
  have HLM : Hid (∀ r ∈ T.rows, r.d.length ≤ maxLen) := Lib.hid (fun r hr => by have := (hs.each r hr).2.1; unfold maxLen; omega)
  have HCK := Lib.hid (fun W (k : Below w.heap.size w W) => tCheck_any B T a1 a2 c1 c2 W (hv.below k) hs)
  have HRC := Lib.hid (fun W (k : Below w.heap.size w W) => rec_any B' r ad cp W (hd.below k) hr)
  have HTR := Lib.hid (fun W (k : Below w.heap.size w W) => twinR_any B' r ad cp W (hd.below k) (by have := hr.2.1; omega))
  have HOP := Lib.hid (fun (h : tabOk T = true) W (k : Below w.heap.size w W) => open_any B T a1 a2 c1 c2 r.id W (hv.below k) hs (tabOk_iff.1 h).up)
  have HCL := Lib.hid (fun (h1 : tabOk T = true) (h2 : recOk r = true) W p b1 k1 g qs B2 x0 x1 (k : Below w.heap.size w W) (hb : Bx4 W p 49 x0 x1 (.slice b1 T.uq.length k1) (.slice (some ⟨g, 0, none⟩) T.rows.length T.rows.length)) (ho : OwnT B2 W T b1 k1 g qs) =>
    clashes_any r ad cp p x0 x1 b1 (some ⟨g, 0, none⟩) k1 T.rows.length T.uq T.rows W hb (ho.tvs HLM.out).u (by have := hs.uq; omega) ((ho.tvs HLM.out).r.mono (Nat.zero_le _)) (by have := hs.rows; omega) ((hd.below k).mono (Nat.zero_le _)) (rec_ck h2) (fun a ha => rec_ck ((tabOk_iff.1 h1).rcs a ha)))
  have HIN := Lib.hid (fun W B2 g vb k xs x0 x1 (hown : W.ownsRow B2 32 2 (.slice (some ⟨g, 0, none⟩) T.rows.length T.rows.length) T.rows.length xs) (hk : k ≤ T.rows.length) (h1x : ∀ u ∈ xs, u.oneCell' = true) (hv0 : W.cell? ⟨vb, 0, none⟩ = some x0) (hv1 : W.cell? ⟨vb, 1, none⟩ = some x1) (h1n : ∀ u ∈ [x0, x1], u.oneCell' = true) (hB : B2 ≤ W.heap.size) => ins_any B2 g T.rows.length k vb xs x0 x1 W hown hs.rows hk h1x hv0 hv1 h1n hB)
  have HE8 : Hid ((tabOk T && recOk r) = false → ∀ W y0 y1 y2 y3 z0 z1, PF w W y0 y1 y2 y3 z0 z1 → Q (.returned (.tuple #[.agg #[.string ⟨#[]⟩, .int .i64 0, .slice none 0 0, .slice none 0 0], .int .i64 8])) (W4 W (w.heap.size + 1 + 1) (.string ⟨#[]⟩) (.int .i64 0) (.slice none 0 0) (.slice none 0 0))) := Lib.hid (fun h W y0 y1 y2 y3 z0 z1 hp => by rw [hQ, put_bad h]; exact hp.zero 8)
  have HE1 : Hid (tabOk T = true → recOk r = true → (r.id ∈ idsR T.rows ∨ clT T r = true) → ∀ W y0 y1 y2 y3 z0 z1, PF w W y0 y1 y2 y3 z0 z1 → Q (.returned (.tuple #[.agg #[.string ⟨#[]⟩, .int .i64 0, .slice none 0 0, .slice none 0 0], .int .i64 271])) (W4 W (w.heap.size + 1 + 1) (.string ⟨#[]⟩) (.int .i64 0) (.slice none 0 0) (.slice none 0 0))) := Lib.hid (fun h1 h2 h W y0 y1 y2 y3 z0 z1 hp => by
    rw [hQ]
    rcases h with h | h
    · rw [put_in h1 h2 h]; exact hp.zero 271
    · rw [put_cl h1 h2 h]; exact hp.zero 271)
  have HE2 : Hid (tabOk T = true → recOk r = true → ¬ r.id ∈ idsR T.rows → clT T r = false → (T.rows.length : Int) = T.most → ∀ W y0 y1 y2 y3 z0 z1, PF w W y0 y1 y2 y3 z0 z1 → Q (.returned (.tuple #[.agg #[.string ⟨#[]⟩, .int .i64 0, .slice none 0 0, .slice none 0 0], .int .i64 272])) (W4 W (w.heap.size + 1 + 1) (.string ⟨#[]⟩) (.int .i64 0) (.slice none 0 0) (.slice none 0 0))) := Lib.hid (fun h1 h2 h3 h4 h5 W y0 y1 y2 y3 z0 z1 hp => by rw [hQ, put_full h1 h2 h3 h4 h5]; exact hp.zero 272)
  have HE0 : Hid (tabOk T = true → recOk r = true → ¬ r.id ∈ idsR T.rows → clT T r = false → (T.rows.length : Int) ≠ T.most → ∀ k is, Ord.At (idsR T.rows) r.id k is → ∀ W b1 k1 v qs q, w.heap.size ≤ q → Below w.heap.size w W → W.ownsRow w.heap.size 9 1 (.slice b1 T.uq.length k1) T.uq.length (T.uq.map Value.string) → OwnR w.heap.size W v (T.rows.take k ++ r :: T.rows.drop k) qs ∧ qs.length = (T.rows.take k ++ r :: T.rows.drop k).length → Q (.returned (.tuple #[.agg #[.string T.name, .int .i64 T.most, .slice b1 T.uq.length k1, v], .int .i64 0])) W) := Lib.hid (fun h1 h2 h3 h4 h5 k is hat W b1 k1 v qs q hq hb hu ho => by
    rw [hQ, put_mk (tabOk_iff.1 h1) h2 h3 h4 h5]
    refine ⟨_, rfl, ⟨b1, k1, v, qs, rfl, hu, ?_, ?_⟩, hb⟩
    · show OwnR w.heap.size W v (insR T.rows r) qs
      rw [insR_at hat]; exact ho.1
    · show qs.length = (insR T.rows r).length
      rw [insR_at hat]; exact ho.2)
  rw [← hQ]
  obtain ⟨X, hX⟩ : ∃ X, X = ((w.alloc (.cells #[.string T.name, .int .i64 T.most, .slice a1 T.uq.length c1, .slice a2 T.rows.length c2] 25)).alloc (.cells #[.string r.id, .slice ad r.d.length cp] 32)).alloc (.cells #[.string ⟨#[]⟩, .int .i64 0, .slice none 0 0, .slice none 0 0] 25) := ⟨_, rfl⟩
  have PX : Hid (PF w X (.string T.name) (.int .i64 T.most) (.slice a1 T.uq.length c1) (.slice a2 T.rows.length c2) (.string r.id) (.slice ad r.d.length cp)) := Lib.hid (by rw [hX]; exact pf_new _ _ _ _ _ _ _)
  have HIR := Lib.hid (fun W W' (qs : List Nat) g k q v (h : OwnR w.heap.size W (.slice (some ⟨g, 0, none⟩) T.rows.length T.rows.length) T.rows qs) (hl : qs.length = T.rows.length) (hk : k ≤ T.rows.length) (hq : OwnD W q r.d) (hB : w.heap.size ≤ q) (ho : W'.ownsRow w.heap.size 32 2 v (T.rows.length + 1) ((rwR T.rows qs).take (k * 2) ++ rcell r q ++ (rwR T.rows qs).drop (k * 2))) (hg : W.grownBy W' (some g)) => ins_rows h hl hk hq hB ho hg)
  have HOT : Hid (∀ B2 W b1 k1 g qs, OwnT B2 W T b1 k1 g qs → OwnR B2 W (.slice (some ⟨g, 0, none⟩) T.rows.length T.rows.length) T.rows qs ∧ qs.length = T.rows.length ∧ W.ownsRow B2 9 1 (.slice b1 T.uq.length k1) T.uq.length (T.uq.map Value.string) ∧ W.ownsRow B2 32 2 (.slice (some ⟨g, 0, none⟩) T.rows.length T.rows.length) T.rows.length (rwR T.rows qs) ∧ ∀ u ∈ rwR T.rows qs, u.oneCell' = true) := Lib.hid (fun B2 W b1 k1 g qs h => ⟨h.r, h.l, h.u, by have := h.r.row; rwa [h.l] at this, by rw [rwR_zip _ _ h.l]; exact fm_one _⟩)
  have HR1 := Lib.hid (rc_one r)
  have HAT : Hid (∀ k is, Ord.At (idsR T.rows) r.id k is → k ≤ T.rows.length ∧ (is = true → r.id ∈ idsR T.rows) ∧ (is = false → ¬ r.id ∈ idsR T.rows)) := Lib.hid (fun k is h => by
    have e := at_mem h
    refine ⟨by have := h.1; rwa [idsR_len] at this, fun h => ?_, fun h => ?_⟩
    · rw [h] at e; simpa using e.symm
    · rw [h] at e; simpa using e.symm)
  unfold tv rv rcell rq at *
  unfold OpPost at HOP
  rw [clT_eq] at HCL
  have hRl : T.rows.length ≤ 1000 := hs.rows
  clear hv hs hd hr hQ HLM
  generalize T.name = nm at *
  generalize T.most = m at *
  generalize T.uq.length = nu at *
  generalize T.rows.length = n at *
  generalize r.id = id at *
  generalize r.d.length = l at *
  generalize tabOk T = tk at *
  generalize recOk r = rk at *
  generalize clT T r = ck at *
  go_enter Try.func7, Try.ntmps7
  go_wp2_with fail
  rw [← hX]
  clear hX
  refine (HCK.out X PX.out.bl).mono ?_
  rintro e w1 ⟨rfl, b1⟩
  have P1 := Lib.hid (PX.out.up b1)
  clear b1 PX
  cases tk with
  | false =>
    have z0 := P1.out.b3.c0
    have z1 := P1.out.b3.c1
    have z2 := P1.out.b3.c2
    have z3 := P1.out.b3.c3
    have f0 := P1.out.b3.fz 0
    have f1 := P1.out.b3.fz 1
    have f2 := P1.out.b3.fz 2
    have f3 := P1.out.b3.fz 3
    have HE := Lib.hid (HE8.out (by first | rfl | trivial))
    go_wp2_with fail
    exact ret_tt Try.results7 rfl rfl (P1.out.b3.set4 _ _ _ _) (HE.out _ _ _ _ _ _ _ P1.out)
  | true =>
    have r0 := P1.out.b2.c0
    have r1 := P1.out.b2.c1
    go_wp2_with fail
    refine (HRC.out w1 P1.out.bl).mono ?_
    rintro e w2 ⟨rfl, b2⟩
    have P2 := Lib.hid (P1.out.up b2)
    clear b2 r0 r1 P1
    cases rk with
    | false =>
      have z0 := P2.out.b3.c0
      have z1 := P2.out.b3.c1
      have z2 := P2.out.b3.c2
      have z3 := P2.out.b3.c3
      have f0 := P2.out.b3.fz 0
      have f1 := P2.out.b3.fz 1
      have f2 := P2.out.b3.fz 2
      have f3 := P2.out.b3.fz 3
      have HE := Lib.hid (HE8.out (by first | rfl | trivial))
      go_wp2_with fail
      exact ret_tt Try.results7 rfl rfl (P2.out.b3.set4 _ _ _ _) (HE.out _ _ _ _ _ _ _ P2.out)
    | true =>
      have y0 := P2.out.b1.c0
      have y1 := P2.out.b1.c1
      have y2 := P2.out.b1.c2
      have y3 := P2.out.b1.c3
      have r0 := P2.out.b2.c0
      go_wp2_with fail
      refine (HOP.out (by first | rfl | trivial) w2 P2.out.bl).mono ?_
      rintro e w3 ⟨p, k, is, b1, k1, g, qs, rfl, hat, hp, hbx, hot, b3⟩
      have P3 := Lib.hid (P2.out.up b3)
      have HP : Hid (w.heap.size + 1 + 1 < p) := Lib.hid (Nat.lt_of_lt_of_le P2.out.b3.lt hp)
      have HT3 := Lib.hid (hot.mono P2.out.bl.size)
      have U3 := Lib.hid hbx
      have HA := Lib.hid hat
      have HK := Lib.hid (HAT.out k is hat)
      clear y0 y1 y2 y3 r0 b3 hp hbx hot hat P2 HOP
      cases is with
      | true =>
        have z0 := P3.out.b3.c0
        have z1 := P3.out.b3.c1
        have z2 := P3.out.b3.c2
        have z3 := P3.out.b3.c3
        have f0 := P3.out.b3.fz 0
        have f1 := P3.out.b3.fz 1
        have f2 := P3.out.b3.fz 2
        have f3 := P3.out.b3.fz 3
        have HE := Lib.hid (HE1.out (by first | rfl | trivial) (by first | rfl | trivial) (.inl (HK.out.2.1 (by first | rfl | trivial))))
        go_wp2_with fail
        exact ret_tt Try.results7 rfl rfl (P3.out.b3.set4 _ _ _ _) (HE.out _ _ _ _ _ _ _ P3.out)
      | false =>
        have HNI := Lib.hid (HK.out.2.2 (by first | rfl | trivial))
        have HKN := Lib.hid HK.out.1
        have r0 := P3.out.b2.c0
        have r1 := P3.out.b2.c1
        go_wp2_with fail
        refine (HCL.out (by first | rfl | trivial) (by first | rfl | trivial) w3 p b1 k1 g qs _ _ _ P3.out.bl U3.out HT3.out).mono ?_
        rintro e w4 ⟨rfl, b4⟩
        have P4 := Lib.hid (P3.out.up b4)
        have U4 := Lib.hid (U3.out.up b4)
        have HT4 := Lib.hid (HT3.out.up b4)
        clear b4 r0 r1 P3 U3 HT3 HCL HK
        cases ck with
        | true =>
          have z0 := P4.out.b3.c0
          have z1 := P4.out.b3.c1
          have z2 := P4.out.b3.c2
          have z3 := P4.out.b3.c3
          have f0 := P4.out.b3.fz 0
          have f1 := P4.out.b3.fz 1
          have f2 := P4.out.b3.fz 2
          have f3 := P4.out.b3.fz 3
          have HE := Lib.hid (HE1.out (by first | rfl | trivial) (by first | rfl | trivial) (.inr (by first | rfl | trivial)))
          go_wp2_with fail
          exact ret_tt Try.results7 rfl rfl (P4.out.b3.set4 _ _ _ _) (HE.out _ _ _ _ _ _ _ P4.out)
        | false =>
          have u1 := U4.out.c1
          have u3 := U4.out.c3
          have PD := Lib.hid (fun q => P4.out.up (below_drewN0 (Below.refl w4.heap.size w4) q))
          have UD := Lib.hid (fun q => U4.out.up (below_drewN0 (Below.refl w4.heap.size w4) q))
          have HTD := Lib.hid (fun q => HT4.out.up (below_drewN0 (Below.refl w4.heap.size w4) q))
          have hni := HNI.out
          have hat := HA.out
          by_cases hfull : (n : Int) = m
          · have HE := Lib.hid (HE2.out (by first | rfl | trivial) (by first | rfl | trivial) hni (by first | rfl | trivial) hfull)
            have hb : ((n : Int) == m) = true := by simpa using hfull
            clear HE0 HE1 HE2 HE8 hni hat hfull
            go_wp2_with fail
            go_quiet (fail)
            have P5 := Lib.hid (PD.out nq)
            clear u1 u3 PD UD HTD P4 U4 HT4
            generalize w4.drewN nq = Y at P5 ⊢
            have z0 := P5.out.b3.c0
            have z1 := P5.out.b3.c1
            have z2 := P5.out.b3.c2
            have z3 := P5.out.b3.c3
            have f0 := P5.out.b3.fz 0
            have f1 := P5.out.b3.fz 1
            have f2 := P5.out.b3.fz 2
            have f3 := P5.out.b3.fz 3
            go_wp2_with fail
            exact ret_tt Try.results7 rfl rfl (P5.out.b3.set4 _ _ _ _) (HE.out _ _ _ _ _ _ _ P5.out)
          · have HE := Lib.hid (HE0.out (by first | rfl | trivial) (by first | rfl | trivial) hni (by first | rfl | trivial) hfull k false hat)
            have hb : ((n : Int) == m) = false := by simpa using hfull
            clear HE0 HE1 HE2 HE8 hni hat hfull
            go_wp2_with fail
            go_quiet (fail)
            have P5 := Lib.hid (PD.out nq)
            have U5 := Lib.hid (UD.out nq)
            have HT5 := Lib.hid (HTD.out nq)
            clear u1 u3 PD UD HTD P4 U4 HT4
            generalize w4.drewN nq = Y at P5 U5 HT5 ⊢
            have P6 := Lib.hid (P5.out.up (Below.refl Y.heap.size Y).drew)
            have U6 := Lib.hid (U5.out.up (Below.refl Y.heap.size Y).drew)
            have HT6 := Lib.hid (HT5.out.up (Below.refl Y.heap.size Y).drew)
            have u3 := U6.out.c3
            have r0 := P6.out.b2.c0
            have r1 := P6.out.b2.c1
            clear P5 U5 HT5
            go_wp2_with fail
            go_region_law (first
              | (go_simp; go_at_call 23; refine (HTR.out Y.drew P6.out.bl).mono ?_; rintro e w5 ⟨q, rfl, hq0, hod, b5⟩; have ZB : Hid (Below Y.drew.heap.size Y.drew (w5.alloc (.cells #[.string id, .slice (some ⟨q, 0, none⟩) l l] 32))) := Lib.hid (b5.trans (((Below.refl w5.heap.size w5).alloc (Nat.le_refl _) _).mono b5.size)); have P7 := Lib.hid (P6.out.up ZB.out); have U7 := Lib.hid (U6.out.up ZB.out); have T7 := Lib.hid (HOT.out _ _ _ _ _ _ (HT6.out.up ZB.out)); have D7 := Lib.hid (hod.up ((Below.refl w5.heap.size w5).alloc (Nat.le_refl _) (.cells #[.string id, .slice (some ⟨q, 0, none⟩) l l] 32))); have Q7 : Hid (w.heap.size ≤ q) := Lib.hid (Nat.le_trans P6.out.bl.size hq0); have V7 : Hid (Bx2 (w5.alloc (.cells #[.string id, .slice (some ⟨q, 0, none⟩) l l] 32)) w5.heap.size (.string id) (.slice (some ⟨q, 0, none⟩) l l)) := Lib.hid (bx2_new w5 _ _); have y3 := (U6.out.up b5).c3; have z3 := U7.out.c3; clear hq0 hod b5 ZB)
              | (go_simp; go_at_call 22; refine (HIN.out _ w.heap.size g w5.heap.size k (rwR T.rows qs) (.string id) (.slice (some ⟨q, 0, none⟩) l l) T7.out.2.2.2.1 HKN.out T7.out.2.2.2.2 V7.out.c0 V7.out.c1 (HR1.out q) P7.out.bl.size).mono ?_; rintro e w6 ⟨v6, rfl, ho6, hg6⟩; obtain ⟨ad6, cp6, rfl⟩ := own_slice ho6; have HO6 := Lib.hid ho6; have HG6 := Lib.hid hg6; have C7 := Lib.hid T7.out.1.cur; have U8 : Hid (Bx4 w6 p 49 (.string nm) (.int .i64 m) (.slice b1 nu k1) (.slice (some ⟨g, 0, none⟩) n n)) := Lib.hid (by obtain ⟨_, cur, hc⟩ := C7.out; exact U7.out.grown hc (by decide) HG6.out); have P8 : Hid (Bx4 w6 (w.heap.size + 1 + 1) 25 (.string ⟨#[]⟩) (.int .i64 0) (.slice none 0 0) (.slice none 0 0)) := Lib.hid (by obtain ⟨_, cur, hc⟩ := C7.out; exact P7.out.b3.grown hc (by decide) HG6.out); have y8 := U8.out.c3; have f8 := U8.out.fz 3; clear ho6 hg6))
            all_goals have UV := Lib.hid (U8.out.set3 (.slice ad6 (n + 1) cp6))
            all_goals have PV := Lib.hid (P8.out.other (k := 3) (Nat.ne_of_gt HP.out) (.slice ad6 (n + 1) cp6))
            all_goals have OV : Hid ((w6.setCell ⟨p, 3, none⟩ (.slice ad6 (n + 1) cp6)).ownsRow w.heap.size 9 1 (.slice b1 nu k1) nu (T.uq.map Value.string)) := Lib.hid (by
              obtain ⟨_, cur, hc⟩ := C7.out
              exact own_setB (own_other T7.out.2.2.1 hc (by decide) HG6.out) U8.out (by decide))
            all_goals have RV : Hid (OwnR w.heap.size (w6.setCell ⟨p, 3, none⟩ (.slice ad6 (n + 1) cp6)) (.slice ad6 (n + 1) cp6) (T.rows.take k ++ r :: T.rows.drop k) (qs.take k ++ q :: qs.drop k) ∧ (qs.take k ++ q :: qs.drop k).length = (T.rows.take k ++ r :: T.rows.drop k).length) := Lib.hid (by
              obtain ⟨h1, h2⟩ := HIR.out _ _ qs g k q _ T7.out.1 T7.out.2.1 HKN.out D7.out Q7.out HO6.out HG6.out
              exact ⟨h1.setB U8.out (by decide) (by decide), h2⟩)
            all_goals have BV : Hid (Below w.heap.size w (w6.setCell ⟨p, 3, none⟩ (.slice ad6 (n + 1) cp6))) := Lib.hid (by
              obtain ⟨hg0, _⟩ := C7.out
              exact (P7.out.bl.grown HG6.out P7.out.bl.size (fun q hq => by cases hq; exact hg0)).setCell (by have := HP.out; show w.heap.size ≤ p; omega) _)
            all_goals clear y8 f8 U8 P8 HO6 HG6 C7
            all_goals generalize w6.setCell ⟨p, 3, none⟩ (.slice ad6 (n + 1) cp6) = V at UV PV OV RV BV ⊢
            all_goals have x0 := UV.out.c0
            all_goals have x1 := UV.out.c1
            all_goals have x2 := UV.out.c2
            all_goals have x3 := UV.out.c3
            all_goals have z0 := PV.out.c0
            all_goals have z1 := PV.out.c1
            all_goals have z2 := PV.out.c2
            all_goals have z3 := PV.out.c3
            all_goals have f0 := PV.out.fz 0
            all_goals have f1 := PV.out.fz 1
            all_goals have f2 := PV.out.fz 2
            all_goals have f3 := PV.out.fz 3
            all_goals have HF := Lib.hid (HE.out (W4 V (w.heap.size + 1 + 1) (.string nm) (.int .i64 m) (.slice b1 nu k1) (.slice ad6 (n + 1) cp6)) b1 k1 (.slice ad6 (n + 1) cp6) (qs.take k ++ q :: qs.drop k) q Q7.out (w4_below BV.out (by omega) _ _ _ _) (own_setB4 OV.out PV.out (by decide) _ _ _ _) ⟨RV.out.1.setB4 PV.out (by decide) (by decide) _ _ _ _, RV.out.2⟩)
            all_goals (go_wp2_with fail)
            all_goals exact ret_tt Try.results7 rfl rfl (PV.out.set4 _ _ _ _) HF.out
end Go.Proofs.Ytfigebepeniikaa
/- Layer 27: Same of Uniques, Great and Same of records. -/
namespace Go.Proofs.Ytfigebepeniikaa
open Go.RowKit Go.Maps
theorem sv_addr {w : World} {a : Option Addr} {n : Nat} {L : List ByteArray} (h : Ord.SView w a n L) (h0 : 0 < n) : ∃ b off, a = some ⟨b, off, none⟩ := by
  obtain ⟨b, off, e, _⟩ := h.2 0 h0
  exact ⟨b, off, e⟩
theorem sv_at {w : World} {b off n : Nat} {L : List ByteArray} (h : Ord.SView w (some ⟨b, off, none⟩) n L) {i : Nat} (hi : i < n) : b < w.heap.size ∧ w.cell? ⟨b, off + i, none⟩ = some (.string (Ord.nth L i)) := by
  obtain ⟨b', off', e, h1, h2⟩ := h.2 i hi
  simp only [Option.some.injEq, Addr.mk.injEq, and_true] at e
  obtain ⟨rfl, rfl⟩ := e
  exact ⟨h1, h2⟩
theorem nth_ext {L M : List ByteArray} {n : Nat} (h1 : L.length = n) (h2 : M.length = n) (h : ∀ j, j < n → Ord.nth L j = Ord.nth M j) : L = M := by
  apply List.ext_getElem (by omega)
  intro i hi hj
  have := h i (by omega)
  unfold Ord.nth at this
  rw [List.getD_eq_getElem?_getD, List.getD_eq_getElem?_getD, List.getElem?_eq_getElem hi, List.getElem?_eq_getElem hj] at this
  exact this
set_option maxRecDepth 20000 in
theorem strs_any (a1 a2 : Option Addr) (c1 c2 : Nat) (L M : List ByteArray) (w : World) (h1 : Ord.SView w a1 L.length L) (h2 : Ord.SView w a2 M.length M) (hm : L.length ≤ maxLen) : Calls Try.prog 32 #[.slice a1 L.length c1, .slice a2 M.length c2] w fun e w' => e = .returned (.bool (decide (L = M))) ∧ Below w.heap.size w w' := by
  unfold maxLen at hm
  obtain ⟨x, hx⟩ : ∃ x, x = decide (L = M) := ⟨_, rfl⟩
  rw [← hx]
  replace hx := Lib.hid hx
  obtain ⟨n1, hn1⟩ : ∃ n, n = L.length := ⟨_, rfl⟩
  obtain ⟨n2, hn2⟩ : ∃ n, n = M.length := ⟨_, rfl⟩
  rw [← hn1] at h1 hm ⊢
  rw [← hn2] at h2 ⊢
  have V1 := Lib.hid h1
  have V2 := Lib.hid h2
  have HN1 := Lib.hid hn1.symm
  have HN2 := Lib.hid hn2.symm
  clear h1 h2 hn1 hn2
  by_cases hne : n1 = n2
  · subst hne
    have hd : ((n1 : Int) != n1) = false := by simp
    go_enter Try.func32, Try.ntmps32
    go_wp2_with fail
    go_loopw [5] (fun v wr => ∃ i : Nat, i ≤ n1 ∧ v = .int .i64 i ∧ Hid (∀ j, j < i → Ord.nth L j = Ord.nth M j) ∧ Hid (Below w.heap.size w wr)) (fun v _ => n1 - (intOf v).toNat)
    case atStart => exact ⟨0, Nat.zero_le _, rfl, Lib.hid (fun j hj => by omega), Lib.hid (Below.refl _ _)⟩
    case round =>
      obtain ⟨i, hi, rfl, HQ, HB⟩ := hrel
      by_cases hlt : i < n1
      · obtain ⟨b, off, rfl⟩ := sv_addr V1.out (by omega)
        obtain ⟨b2, off2, rfl⟩ := sv_addr V2.out (by omega)
        obtain ⟨_, k1⟩ := sv_at (V1.out.below HB.out) hlt
        obtain ⟨_, k2⟩ := sv_at (V2.out.below HB.out) hlt
        have hg1 : (i : Int) < n1 := by omega
        have hg0 : (0 : Int) ≤ i := by omega
        obtain ⟨p, hp⟩ : ∃ x, x = Ord.nth L i := ⟨_, rfl⟩
        obtain ⟨q, hq⟩ : ∃ y, y = Ord.nth M i := ⟨_, rfl⟩
        rw [← hp] at k1
        rw [← hq] at k2
        by_cases hxy : p = q
        · have HQ2 : Hid (∀ j, j < i + 1 → Ord.nth L j = Ord.nth M j) := Lib.hid (fun j hj => by
            by_cases e : j = i
            · subst e; rw [← hp, ← hq]; exact hxy
            · exact HQ.out j (by omega))
          clear HQ hp hq
          subst hxy
          go_wp2_with fail
          go_quiet (fail)
          go_wp2_with fail
          go_roundw
          case rel => exact ⟨i + 1, by omega, by go_num, HQ2, Lib.hid (below_drewN0 HB.out _)⟩
          case measure => simp [intOf]; omega
        · have HX : Hid (x = false) := Lib.hid (by rw [hx.out]; exact decide_eq_false (fun e => hxy (by rw [hp, hq, e])))
          have he2 : (p.toList == q.toList) = false := by rw [str_is]; simpa using hxy
          have he3 : (p.toList != q.toList) = true := by rw [bne, he2]; rfl
          clear HQ hp hq hxy
          go_wp2_with fail
          go_quiet (fail)
          go_wp2_with fail
          go_ret
          exact ⟨ret_bool HX.out.symm, below_drewN0 HB.out _⟩
      · have e1 : i = n1 := by omega
        subst e1
        have HX : Hid (x = true) := Lib.hid (by rw [hx.out]; exact decide_eq_true (nth_ext HN1.out HN2.out HQ.out))
        have hg1 : ¬ (i : Int) < i := by omega
        clear HQ
        go_wp2_with fail
        go_ret
        exact ⟨ret_bool HX.out.symm, HB.out⟩
  · have HX : Hid (x = false) := Lib.hid (by rw [hx.out]; exact decide_eq_false (fun e => hne (by rw [← HN1.out, ← HN2.out, e])))
    have hd : ((n1 : Int) != n2) = true := by simp; omega
    clear hne
    go_enter Try.func32, Try.ntmps32
    go_wp2_with fail
    go_ret
    exact ⟨ret_bool HX.out.symm, Below.refl _ _⟩
/-- Is a record too large for the law? -/
def grR (r : RC) : Bool := decide (300 < (r.id.size : Int)) || grP (gl r.d) r.d.length 60
set_option maxRecDepth 20000 in
theorem greatR_any (B : Nat) (r : RC) (ad : Option Addr) (cp : Nat) (w : World) (hd : DV B w ad cp r.d) (hn : r.d.length ≤ maxLen) : Calls Try.prog 15 #[rv r ad cp] w fun e w' => e = .returned (.bool (grR r)) ∧ Below w.heap.size w w' := by
  obtain ⟨id, d⟩ := r
  show Calls Try.prog 15 #[.agg #[.string id, .slice ad d.length cp]] w fun e w' => e = .returned (.bool (decide (300 < (id.size : Int)) || grP (gl d) d.length 60)) ∧ Below w.heap.size w w'
  have HG := Lib.hid (fun W (k : Below w.heap.size w W) => great_any ad d.length cp 60 60 rfl (gl d) W (hd.1.below k) hn (by omega))
  have HB : Hid (Below w.heap.size w (w.alloc (.cells #[.string id, .slice ad d.length cp] 32))) := Lib.hid ((Below.refl _ _).alloc (Nat.le_refl _) _)
  obtain ⟨x, hx⟩ : ∃ x, x = grP (gl d) d.length 60 := ⟨_, rfl⟩
  rw [← hx] at HG ⊢
  obtain ⟨n, hn'⟩ : ∃ n, n = d.length := ⟨_, rfl⟩
  rw [← hn'] at HG HB
  rw [← hn']
  clear hx hn' hd hn
  by_cases h1 : 300 < (id.size : Int)
  · have e1 : decide (300 < (id.size : Int)) = true := decide_eq_true h1
    rw [e1, Bool.true_or]
    go_enter Try.func15, Try.ntmps15
    go_wp2_with fail
    go_ret
    exact ⟨rfl, HB.out⟩
  · have e1 : decide (300 < (id.size : Int)) = false := decide_eq_false h1
    rw [e1, Bool.false_or]
    go_enter Try.func15, Try.ntmps15
    go_wp2_with fail
    refine (HG.out _ HB.out).mono ?_
    rintro e w' ⟨rfl, rfl⟩
    go_wp2_with fail
    go_ret
    exact ⟨rfl, HB.out⟩
set_option maxRecDepth 20000 in
theorem sameR_any (B B' : Nat) (r s : RC) (ad ae : Option Addr) (cp ce : Nat) (w : World) (hd : DV B w ad cp r.d) (he : DV B' w ae ce s.d) (hn : r.d.length ≤ maxLen) : Calls Try.prog 13 #[rv r ad cp, rv s ae ce] w fun e w' => e = .returned (.bool (decide (r = s))) ∧ Below w.heap.size w w' := by
  obtain ⟨id, d⟩ := r
  obtain ⟨jd, f⟩ := s
  show Calls Try.prog 13 #[.agg #[.string id, .slice ad d.length cp], .agg #[.string jd, .slice ae f.length ce]] w fun e w' => e = .returned (.bool (decide (RC.mk id d = RC.mk jd f))) ∧ Below w.heap.size w w'
  have HS := Lib.hid (fun W (k : Below w.heap.size w W) => rsame_any ad ae d.length f.length cp ce (gl d) (gl f) W (hd.1.below k) (he.1.below k) hn)
  have HB : Hid (Below w.heap.size w ((w.alloc (.cells #[.string id, .slice ad d.length cp] 32)).alloc (.cells #[.string jd, .slice ae f.length ce] 32))) := Lib.hid (((Below.refl _ _).alloc (Nat.le_refl _) _).alloc (by simp) _)
  have HX : Hid (decide (RC.mk id d = RC.mk jd f) = (decide (id = jd) && smB (gl d) d.length (gl f) f.length)) := Lib.hid (by
    rw [sm_dec, Bool.eq_iff_iff, Bool.and_eq_true, decide_eq_true_eq, decide_eq_true_eq, decide_eq_true_eq, RC.mk.injEq])
  obtain ⟨x, hx⟩ : ∃ x, x = smB (gl d) d.length (gl f) f.length := ⟨_, rfl⟩
  rw [← hx] at HS HX
  rw [HX.out]
  obtain ⟨n, hn'⟩ : ∃ n, n = d.length := ⟨_, rfl⟩
  obtain ⟨m, hm'⟩ : ∃ n, n = f.length := ⟨_, rfl⟩
  rw [← hn', ← hm'] at HS HB
  rw [← hn', ← hm']
  clear hx hn' hm' hd hn he HX
  by_cases h1 : id = jd
  · rw [decide_eq_true h1, Bool.true_and]
    subst h1
    go_enter Try.func13, Try.ntmps13
    go_wp2_with fail
    refine (HS.out _ HB.out).mono ?_
    rintro e w' ⟨rfl, b⟩
    have B1 := Lib.hid (HB.out.trans (b.mono HB.out.size))
    clear b
    go_wp2_with fail
    go_ret
    exact ⟨rfl, B1.out⟩
  · rw [decide_eq_false h1, Bool.false_and]
    have he2 : (id.toList == jd.toList) = false := by rw [str_is]; simpa using h1
    clear h1
    go_enter Try.func13, Try.ntmps13
    go_wp2_with fail
    go_ret
    exact ⟨rfl, HB.out⟩
end Go.Proofs.Ytfigebepeniikaa
/- Layer 27: Great of tables. -/
namespace Go.Proofs.Ytfigebepeniikaa
open Go.RowKit Go.Maps
def bigS (s : ByteArray) : Bool := decide (300 < (s.size : Int))
/-- Is a table too large for the law? -/
def grT (T : TM) : Bool := T.rows.any grR || T.uq.any bigS || (decide (12 < (T.rows.length : Int)) || decide (10 < (T.uq.length : Int)) || decide (300 < (T.name.size : Int)))
theorem grT_row {T : TM} {i : Nat} (hi : i < T.rows.length) (h : grR (rl T.rows i) = true) : grT T = true := by
  have : T.rows.any grR = true := List.any_eq_true.2 ⟨_, rl_mem hi, h⟩
  unfold grT
  rw [this]; rfl
theorem nth_mem {L : List ByteArray} {i : Nat} (h : i < L.length) : Ord.nth L i ∈ L := by
  unfold Ord.nth
  rw [List.getD_eq_getElem?_getD, List.getElem?_eq_getElem h]
  exact List.getElem_mem h
theorem grT_uq {T : TM} {i : Nat} (hi : i < T.uq.length) (h : bigS (Ord.nth T.uq i) = true) : grT T = true := by
  have : T.uq.any bigS = true := List.any_eq_true.2 ⟨_, nth_mem hi, h⟩
  unfold grT
  rw [this, Bool.or_true]; rfl
theorem grT_end {T : TM} {i j : Nat} (h1 : ∀ k, k < i → grR (rl T.rows k) = false) (hi : ¬ i < T.rows.length ∨ (i = 20 ∧ i ≤ T.rows.length)) (h2 : ∀ k, k < j → bigS (Ord.nth T.uq k) = false) (hj : ¬ j < T.uq.length ∨ (j = 20 ∧ j ≤ T.uq.length)) : grT T = (decide (12 < (T.rows.length : Int)) || decide (10 < (T.uq.length : Int)) || decide (300 < (T.name.size : Int))) := by
  unfold grT
  by_cases g1 : 12 < (T.rows.length : Int)
  · simp [g1]
  · by_cases g2 : 10 < (T.uq.length : Int)
    · simp [g2]
    · have e1 : T.rows.any grR = false := by
        rw [List.any_eq_false]
        intro r hr
        obtain ⟨k, hk, rfl⟩ := List.getElem_of_mem hr
        have := h1 k (by omega)
        rw [rl_get hk] at this
        simp [this]
      have e2 : T.uq.any bigS = false := by
        rw [List.any_eq_false]
        intro r hr
        obtain ⟨k, hk, rfl⟩ := List.getElem_of_mem hr
        have := h2 k (by omega)
        unfold Ord.nth at this
        rw [List.getD_eq_getElem?_getD, List.getElem?_eq_getElem hk] at this
        simpa using this
      rw [e1, e2, Bool.false_or, Bool.false_or]
theorem grT_no {T : TM} (h : grT T = false) : T.rows.length ≤ 12 ∧ T.uq.length ≤ 10 ∧ T.name.size ≤ 300 ∧ (∀ r ∈ T.rows, grR r = false) ∧ ∀ s ∈ T.uq, s.size ≤ 300 := by
  unfold grT at h
  simp only [Bool.or_eq_false_iff, decide_eq_false_iff_not, List.any_eq_false] at h
  obtain ⟨⟨h1, h2⟩, ⟨h3, h4⟩, h5⟩ := h
  refine ⟨by omega, by omega, by omega, fun r hr => by simpa using h1 r hr, fun s hs => ?_⟩
  have := h2 s hs
  unfold bigS at this
  simp only [decide_eq_true_eq] at this
  omega
set_option maxRecDepth 20000 in
set_option maxHeartbeats 2000000 in
theorem greatT_any (B : Nat) (T : TM) (a1 a2 : Option Addr) (c1 c2 : Nat) (w : World) (hv : TVs B w T a1 c1 a2 c2) (hd : ∀ r ∈ T.rows, r.d.length ≤ maxLen) : Calls Try.prog 14 #[tv T a1 c1 a2 c2] w fun e w' => e = .returned (.bool (grT T)) ∧ Below w.heap.size w w' := by
  obtain ⟨x, hx⟩ : ∃ x, x = grT T := ⟨_, rfl⟩
  rw [← hx]
  have HT := Lib.hid (fun i (hi : i < T.rows.length) (h : grR (rl T.rows i) = true) => hx.trans (grT_row hi h))
  have HU := Lib.hid (fun i (hi : i < T.uq.length) (h : bigS (Ord.nth T.uq i) = true) => hx.trans (grT_uq hi h))
  have HE := Lib.hid (fun i j h1 hi h2 hj => hx.trans (grT_end (T := T) (i := i) (j := j) h1 hi h2 hj))
  have HV := Lib.hid hv.r
  have HS := Lib.hid hv.u
  have HR := Lib.hid (fun i (hi : i < T.rows.length) B ad cp W (h : DV B W ad cp (rl T.rows i).d) => greatR_any B (rl T.rows i) ad cp W h (hd _ (rl_mem hi)))
  unfold rv at HR
  unfold tv
  clear hv hd hx
  obtain ⟨w0, hw0⟩ : ∃ W, W = w.alloc (.cells #[.string T.name, .int .i64 T.most, .slice a1 T.uq.length c1, .slice a2 T.rows.length c2] 25) := ⟨_, rfl⟩
  have HB0 : Hid (Below w.heap.size w w0) := Lib.hid (by rw [hw0]; exact (Below.refl _ _).alloc (Nat.le_refl _) _)
  have HX : Hid (Bx4 w0 w.heap.size 25 (.string T.name) (.int .i64 T.most) (.slice a1 T.uq.length c1) (.slice a2 T.rows.length c2)) := Lib.hid (by rw [hw0]; exact bx4_new w _ _ _ _ _)
  generalize T.name = nm at *
  generalize T.most = m at *
  obtain ⟨nu, hnu⟩ : ∃ n, n = T.uq.length := ⟨_, rfl⟩
  obtain ⟨n, hn⟩ : ∃ n, n = T.rows.length := ⟨_, rfl⟩
  rw [← hnu] at HU HE hw0 HX HS ⊢
  rw [← hn] at HT HE HR hw0 HX ⊢
  have HN := Lib.hid hn
  clear hnu hn
  go_enter Try.func14, Try.ntmps14
  go_wp2_with fail
  rw [← hw0]
  clear hw0
  go_loopw [3] (fun v wr => ∃ i : Nat, i ≤ n ∧ i ≤ 20 ∧ v = .int .i64 i ∧ Hid (∀ k, k < i → grR (rl T.rows k) = false) ∧ Hid (Below w0.heap.size w0 wr)) (fun v _ => n - (intOf v).toNat)
  case atStart => exact ⟨0, Nat.zero_le _, Nat.zero_le _, rfl, Lib.hid (fun j hj => by omega), Lib.hid (Below.refl _ _)⟩
  case round =>
    obtain ⟨i, hi, hi2, rfl, HQ, HB⟩ := hrel
    have x3 := (HX.out.up HB.out).c3
    by_cases hlt : i < n
    · have hg1 : (i : Int) < n := by omega
      by_cases hl2 : i < 20
      · have hg2 : (i : Int) < 20 := by omega
        have hg0 : (0 : Int) ≤ i := by omega
        obtain ⟨b, off, rfl⟩ := HV.out.addr (by rw [← HN.out]; omega)
        obtain ⟨ad, cp, _, _, r0, r1, dv⟩ := ((HV.out.below HB0.out).below HB.out).at_ (i := i) (by rw [← HN.out]; exact hlt)
        have HC := Lib.hid (HR.out i hlt _ ad cp wr dv)
        have HTi := Lib.hid (HT.out i hlt)
        obtain ⟨r, hr⟩ : ∃ r, r = rl T.rows i := ⟨_, rfl⟩
        have HQ2 : Hid (grR r = false → ∀ k, k < i + 1 → grR (rl T.rows k) = false) := Lib.hid (fun h k hk => by
          by_cases e : k = i
          · subst e; rw [← hr]; exact h
          · exact HQ.out k (by omega))
        rw [← hr] at r0 r1 HC HTi
        clear dv hr HQ
        generalize r.id = id at *
        generalize r.d.length = l at *
        go_wp2_with fail
        refine HC.out.mono ?_
        rintro e w' ⟨rfl, b1⟩
        have HB2 := Lib.hid (HB.out.trans (b1.mono HB.out.size))
        clear b1 HB
        cases hgr : grR r with
        | true =>
          have HX1 := Lib.hid (HTi.out hgr)
          clear hgr HQ2
          go_wp2_with fail
          go_ret
          exact ⟨ret_bool HX1.out.symm, HB0.out.trans (HB2.out.mono HB0.out.size)⟩
        | false =>
          have HQ3 := Lib.hid (HQ2.out hgr)
          clear hgr HQ2
          go_wp2_with fail
          go_roundw
          case rel => exact ⟨i + 1, by omega, by omega, by go_num, HQ3, HB2⟩
          case measure => simp [intOf]; omega
      · have hg2 : ¬ (i : Int) < 20 := by omega
        have HI : Hid (¬ i < n ∨ (i = 20 ∧ i ≤ n)) := Lib.hid (by omega)
        go_wp2_with fail
        go_loopw [4] (fun v wr => ∃ j : Nat, j ≤ nu ∧ j ≤ 20 ∧ v = .int .i64 j ∧ Hid (∀ k, k < j → bigS (Ord.nth T.uq k) = false) ∧ Hid (Below w0.heap.size w0 wr)) (fun v _ => nu - (intOf v).toNat)
        case atStart => exact ⟨0, Nat.zero_le _, Nat.zero_le _, rfl, Lib.hid (fun j hj => by omega), HB⟩
        case round =>
          obtain ⟨j, hj, hj2, rfl, HP, HC⟩ := hrel
          have x2 := (HX.out.up HC.out).c2
          by_cases hlt2 : j < nu
          · have hg3 : (j : Int) < nu := by omega
            by_cases hl3 : j < 20
            · have hg4 : (j : Int) < 20 := by omega
              have hg5 : (0 : Int) ≤ j := by omega
              obtain ⟨b, off, rfl⟩ := sv_addr HS.out (by omega)
              obtain ⟨_, k1⟩ := sv_at ((HS.out.below HB0.out).below HC.out) hlt2
              have HUj := Lib.hid (HU.out j hlt2)
              obtain ⟨s, hs⟩ : ∃ s, s = Ord.nth T.uq j := ⟨_, rfl⟩
              have HP2 : Hid (bigS s = false → ∀ k, k < j + 1 → bigS (Ord.nth T.uq k) = false) := Lib.hid (fun h k hk => by
                by_cases e : k = j
                · subst e; rw [← hs]; exact h
                · exact HP.out k (by omega))
              rw [← hs] at k1 HUj
              clear hs HP
              by_cases hb : 300 < (s.size : Int)
              · have HX1 : Hid (x = true) := Lib.hid (HUj.out (decide_eq_true hb))
                clear HP2
                go_wp2_with fail
                go_ret
                exact ⟨ret_bool HX1.out.symm, HB0.out.trans (HC.out.mono HB0.out.size)⟩
              · have HP3 := Lib.hid (HP2.out (decide_eq_false hb))
                clear HP2
                go_wp2_with fail
                go_roundw
                case rel => exact ⟨j + 1, by omega, by omega, by go_num, HP3, HC⟩
                case measure => simp [intOf]; omega
            · have hg4 : ¬ (j : Int) < 20 := by omega
              have HJ : Hid (¬ j < nu ∨ (j = 20 ∧ j ≤ nu)) := Lib.hid (by omega)
              have HXe := Lib.hid (HE.out i j HQ.out HI.out HP.out HJ.out)
              have y0 := (HX.out.up HC.out).c0
              have y3 := (HX.out.up HC.out).c3
              have HW := Lib.hid (HB0.out.trans (HC.out.mono HB0.out.size))
              clear HQ HI HP HJ HX HE HU HS HB0
              by_cases g1 : 12 < (n : Int)
              · first
                | (exfalso; omega)
                | have HXz : Hid (x = true) := Lib.hid (by rw [HXe.out, decide_eq_true g1]; rfl)
                  clear HXe
                  go_wp2_with fail
                  go_ret
                  exact ⟨ret_bool HXz.out.symm, HW.out⟩
              · by_cases g2 : 10 < (nu : Int)
                · first
                  | (exfalso; omega)
                  | have HXz : Hid (x = true) := Lib.hid (by rw [HXe.out, decide_eq_true g2, Bool.or_true]; rfl)
                    clear HXe
                    go_wp2_with fail
                    go_ret
                    exact ⟨ret_bool HXz.out.symm, HW.out⟩
                · first
                  | (exfalso; omega)
                  | have HXz : Hid (x = decide (300 < (nm.size : Int))) := Lib.hid (by rw [HXe.out, decide_eq_false g1, decide_eq_false g2]; rfl)
                    clear HXe
                    go_wp2_with fail
                    go_ret
                    exact ⟨ret_bool HXz.out.symm, HW.out⟩
          · have hg3 : ¬ (j : Int) < nu := by omega
            have HJ : Hid (¬ j < nu ∨ (j = 20 ∧ j ≤ nu)) := Lib.hid (by omega)
            have HXe := Lib.hid (HE.out i j HQ.out HI.out HP.out HJ.out)
            have y0 := (HX.out.up HC.out).c0
            have y3 := (HX.out.up HC.out).c3
            have HW := Lib.hid (HB0.out.trans (HC.out.mono HB0.out.size))
            clear HQ HI HP HJ HX HE HU HS HB0
            by_cases g1 : 12 < (n : Int)
            · first
              | (exfalso; omega)
              | have HXz : Hid (x = true) := Lib.hid (by rw [HXe.out, decide_eq_true g1]; rfl)
                clear HXe
                go_wp2_with fail
                go_ret
                exact ⟨ret_bool HXz.out.symm, HW.out⟩
            · by_cases g2 : 10 < (nu : Int)
              · first
                | (exfalso; omega)
                | have HXz : Hid (x = true) := Lib.hid (by rw [HXe.out, decide_eq_true g2, Bool.or_true]; rfl)
                  clear HXe
                  go_wp2_with fail
                  go_ret
                  exact ⟨ret_bool HXz.out.symm, HW.out⟩
              · first
                | (exfalso; omega)
                | have HXz : Hid (x = decide (300 < (nm.size : Int))) := Lib.hid (by rw [HXe.out, decide_eq_false g1, decide_eq_false g2]; rfl)
                  clear HXe
                  go_wp2_with fail
                  go_ret
                  exact ⟨ret_bool HXz.out.symm, HW.out⟩
    · have hg1 : ¬ (i : Int) < n := by omega
      have HI : Hid (¬ i < n ∨ (i = 20 ∧ i ≤ n)) := Lib.hid (by omega)
      go_wp2_with fail
      go_loopw [4] (fun v wr => ∃ j : Nat, j ≤ nu ∧ j ≤ 20 ∧ v = .int .i64 j ∧ Hid (∀ k, k < j → bigS (Ord.nth T.uq k) = false) ∧ Hid (Below w0.heap.size w0 wr)) (fun v _ => nu - (intOf v).toNat)
      case atStart => exact ⟨0, Nat.zero_le _, Nat.zero_le _, rfl, Lib.hid (fun j hj => by omega), HB⟩
      case round =>
        obtain ⟨j, hj, hj2, rfl, HP, HC⟩ := hrel
        have x2 := (HX.out.up HC.out).c2
        by_cases hlt2 : j < nu
        · have hg3 : (j : Int) < nu := by omega
          by_cases hl3 : j < 20
          · have hg4 : (j : Int) < 20 := by omega
            have hg5 : (0 : Int) ≤ j := by omega
            obtain ⟨b, off, rfl⟩ := sv_addr HS.out (by omega)
            obtain ⟨_, k1⟩ := sv_at ((HS.out.below HB0.out).below HC.out) hlt2
            have HUj := Lib.hid (HU.out j hlt2)
            obtain ⟨s, hs⟩ : ∃ s, s = Ord.nth T.uq j := ⟨_, rfl⟩
            have HP2 : Hid (bigS s = false → ∀ k, k < j + 1 → bigS (Ord.nth T.uq k) = false) := Lib.hid (fun h k hk => by
              by_cases e : k = j
              · subst e; rw [← hs]; exact h
              · exact HP.out k (by omega))
            rw [← hs] at k1 HUj
            clear hs HP
            by_cases hb : 300 < (s.size : Int)
            · have HX1 : Hid (x = true) := Lib.hid (HUj.out (decide_eq_true hb))
              clear HP2
              go_wp2_with fail
              go_ret
              exact ⟨ret_bool HX1.out.symm, HB0.out.trans (HC.out.mono HB0.out.size)⟩
            · have HP3 := Lib.hid (HP2.out (decide_eq_false hb))
              clear HP2
              go_wp2_with fail
              go_roundw
              case rel => exact ⟨j + 1, by omega, by omega, by go_num, HP3, HC⟩
              case measure => simp [intOf]; omega
          · have hg4 : ¬ (j : Int) < 20 := by omega
            have HJ : Hid (¬ j < nu ∨ (j = 20 ∧ j ≤ nu)) := Lib.hid (by omega)
            have HXe := Lib.hid (HE.out i j HQ.out HI.out HP.out HJ.out)
            have y0 := (HX.out.up HC.out).c0
            have y3 := (HX.out.up HC.out).c3
            have HW := Lib.hid (HB0.out.trans (HC.out.mono HB0.out.size))
            clear HQ HI HP HJ HX HE HU HS HB0
            by_cases g1 : 12 < (n : Int)
            · first
              | (exfalso; omega)
              | have HXz : Hid (x = true) := Lib.hid (by rw [HXe.out, decide_eq_true g1]; rfl)
                clear HXe
                go_wp2_with fail
                go_ret
                exact ⟨ret_bool HXz.out.symm, HW.out⟩
            · by_cases g2 : 10 < (nu : Int)
              · first
                | (exfalso; omega)
                | have HXz : Hid (x = true) := Lib.hid (by rw [HXe.out, decide_eq_true g2, Bool.or_true]; rfl)
                  clear HXe
                  go_wp2_with fail
                  go_ret
                  exact ⟨ret_bool HXz.out.symm, HW.out⟩
              · first
                | (exfalso; omega)
                | have HXz : Hid (x = decide (300 < (nm.size : Int))) := Lib.hid (by rw [HXe.out, decide_eq_false g1, decide_eq_false g2]; rfl)
                  clear HXe
                  go_wp2_with fail
                  go_ret
                  exact ⟨ret_bool HXz.out.symm, HW.out⟩
        · have hg3 : ¬ (j : Int) < nu := by omega
          have HJ : Hid (¬ j < nu ∨ (j = 20 ∧ j ≤ nu)) := Lib.hid (by omega)
          have HXe := Lib.hid (HE.out i j HQ.out HI.out HP.out HJ.out)
          have y0 := (HX.out.up HC.out).c0
          have y3 := (HX.out.up HC.out).c3
          have HW := Lib.hid (HB0.out.trans (HC.out.mono HB0.out.size))
          clear HQ HI HP HJ HX HE HU HS HB0
          by_cases g1 : 12 < (n : Int)
          · first
            | (exfalso; omega)
            | have HXz : Hid (x = true) := Lib.hid (by rw [HXe.out, decide_eq_true g1]; rfl)
              clear HXe
              go_wp2_with fail
              go_ret
              exact ⟨ret_bool HXz.out.symm, HW.out⟩
          · by_cases g2 : 10 < (nu : Int)
            · first
              | (exfalso; omega)
              | have HXz : Hid (x = true) := Lib.hid (by rw [HXe.out, decide_eq_true g2, Bool.or_true]; rfl)
                clear HXe
                go_wp2_with fail
                go_ret
                exact ⟨ret_bool HXz.out.symm, HW.out⟩
            · first
              | (exfalso; omega)
              | have HXz : Hid (x = decide (300 < (nm.size : Int))) := Lib.hid (by rw [HXe.out, decide_eq_false g1, decide_eq_false g2]; rfl)
                clear HXe
                go_wp2_with fail
                go_ret
                exact ⟨ret_bool HXz.out.symm, HW.out⟩
end Go.Proofs.Ytfigebepeniikaa
/- Layer 27: Same of tables. -/
namespace Go.Proofs.Ytfigebepeniikaa
open Go.RowKit Go.Maps
theorem rows_all {R S : List RC} {n : Nat} (h1 : R.length = n) (h2 : S.length = n) (h : ∀ j, j < n → rl R j = rl S j) : R = S := by
  apply List.ext_getElem (by omega)
  intro i hi hj
  have := h i (by omega)
  rwa [rl_get hi, rl_get hj] at this
set_option maxRecDepth 20000 in
set_option maxHeartbeats 2000000 in
theorem sameT_any (B B' : Nat) (T U : TM) (a1 a2 e1 e2 : Option Addr) (c1 c2 f1 f2 : Nat) (w : World) (hv : TVs B w T a1 c1 a2 c2) (hu : TVs B' w U e1 f1 e2 f2) (hd : ∀ r ∈ T.rows, r.d.length ≤ maxLen) : Calls Try.prog 18 #[tv T a1 c1 a2 c2, tv U e1 f1 e2 f2] w fun e w' => e = .returned (.bool (decide (T = U))) ∧ Below w.heap.size w w' := by
  obtain ⟨x, hx⟩ : ∃ x, x = decide (T = U) := ⟨_, rfl⟩
  rw [← hx]
  have HX1 : Hid (T.name ≠ U.name → x = false) := Lib.hid (fun h => by rw [hx]; exact decide_eq_false (fun e => h (by rw [e])))
  have HX2 : Hid (T.most ≠ U.most → x = false) := Lib.hid (fun h => by rw [hx]; exact decide_eq_false (fun e => h (by rw [e])))
  have HX3 : Hid (decide (T.uq = U.uq) = false → x = false) := Lib.hid (fun h => by rw [hx]; exact decide_eq_false (fun e => (of_decide_eq_false h) (by rw [e])))
  have HX4 : Hid (T.rows.length ≠ U.rows.length → x = false) := Lib.hid (fun h => by rw [hx]; exact decide_eq_false (fun e => h (by rw [e])))
  have HX5 : Hid (∀ i, decide (rl T.rows i = rl U.rows i) = false → x = false) := Lib.hid (fun i h => by rw [hx]; exact decide_eq_false (fun e => (of_decide_eq_false h) (by rw [e])))
  have HX6 : Hid (T.name = U.name → T.most = U.most → decide (T.uq = U.uq) = true → ∀ n, T.rows.length = n → U.rows.length = n → (∀ j, j < n → rl T.rows j = rl U.rows j) → x = true) := Lib.hid (fun h1 h2 h3 n h4 h5 h6 => by
    rw [hx]
    obtain ⟨a, b, c, d⟩ := T
    obtain ⟨a', b', c', d'⟩ := U
    have h7 := rows_all h4 h5 h6
    have h3' := of_decide_eq_true h3
    dsimp only at h1 h2 h3' h7
    subst h1; subst h2; subst h3'; subst h7
    exact decide_eq_true rfl)
  have HV := Lib.hid (fun W (k : Below w.heap.size w W) => hv.r.below k)
  have HU := Lib.hid (fun W (k : Below w.heap.size w W) => hu.r.below k)
  have HS := Lib.hid (fun W (k : Below w.heap.size w W) => strs_any a1 e1 c1 f1 T.uq U.uq W (hv.u.below k) (hu.u.below k) (Nat.le_trans hv.u1 hv.u2))
  have HR := Lib.hid (fun i (hi : i < T.rows.length) B B' ad ae cp ce W (h : DV B W ad cp (rl T.rows i).d) (h' : DV B' W ae ce (rl U.rows i).d) => sameR_any B B' (rl T.rows i) (rl U.rows i) ad ae cp ce W h h' (hd _ (rl_mem hi)))
  have hmx := Nat.le_trans hv.r1 hv.r2
  unfold maxLen at hmx
  unfold rv at HR
  unfold tv
  clear hv hu hd hx
  obtain ⟨w0, hw0⟩ : ∃ W, W = (w.alloc (.cells #[.string T.name, .int .i64 T.most, .slice a1 T.uq.length c1, .slice a2 T.rows.length c2] 25)).alloc (.cells #[.string U.name, .int .i64 U.most, .slice e1 U.uq.length f1, .slice e2 U.rows.length f2] 25) := ⟨_, rfl⟩
  have HB0 : Hid (Below w.heap.size w w0) := Lib.hid (by rw [hw0]; exact ((Below.refl _ _).alloc (Nat.le_refl _) _).alloc (by simp) _)
  have HT : Hid (Bx4 w0 w.heap.size 25 (.string T.name) (.int .i64 T.most) (.slice a1 T.uq.length c1) (.slice a2 T.rows.length c2)) := Lib.hid (by rw [hw0]; exact (bx4_new w _ _ _ _ _).up ((Below.refl _ _).alloc (Nat.le_refl _) _))
  have HZ : Hid (Bx4 w0 (w.heap.size + 1) 25 (.string U.name) (.int .i64 U.most) (.slice e1 U.uq.length f1) (.slice e2 U.rows.length f2)) := Lib.hid (by
    rw [hw0]
    have h := bx4_new (w.alloc (.cells #[.string T.name, .int .i64 T.most, .slice a1 T.uq.length c1, .slice a2 T.rows.length c2] 25)) 25 (.string U.name) (.int .i64 U.most) (.slice e1 U.uq.length f1) (.slice e2 U.rows.length f2)
    simpa using h)
  generalize T.name = nm at *
  generalize T.most = m at *
  generalize U.name = nm' at *
  generalize U.most = m' at *
  generalize decide (T.uq = U.uq) = uqs at *
  generalize T.uq.length = nu at *
  generalize U.uq.length = nu' at *
  obtain ⟨n, hn⟩ : ∃ n, n = T.rows.length := ⟨_, rfl⟩
  obtain ⟨n', hn'⟩ : ∃ n, n = U.rows.length := ⟨_, rfl⟩
  rw [← hn] at HX4 HR HT hw0 hmx ⊢
  rw [← hn'] at HX4 HZ hw0 ⊢
  have HN := Lib.hid hn.symm
  have HN' := Lib.hid hn'.symm
  clear hn hn'
  have x0 := HT.out.c0
  have z0 := HZ.out.c0
  by_cases q1 : nm = nm'
  case neg =>
    have he2 : (nm.toList == nm'.toList) = false := by rw [str_is]; simpa using q1
    have he3 : (nm.toList != nm'.toList) = true := by rw [bne, he2]; rfl
    have HF := Lib.hid (HX1.out q1)
    clear q1
    go_enter Try.func18, Try.ntmps18
    go_wp2_with fail
    rw [← hw0]
    clear hw0
    go_wp2_with fail
    go_ret
    exact ⟨ret_bool HF.out.symm, HB0.out⟩
  subst q1
  have x1 := HT.out.c1
  have z1 := HZ.out.c1
  by_cases q2 : m = m'
  case neg =>
    have he3 : (m != m') = true := by simpa using q2
    have HF := Lib.hid (HX2.out q2)
    clear q2
    go_enter Try.func18, Try.ntmps18
    go_wp2_with fail
    rw [← hw0]
    clear hw0
    go_wp2_with fail
    go_ret
    exact ⟨ret_bool HF.out.symm, HB0.out⟩
  subst q2
  have x2 := HT.out.c2
  have z2 := HZ.out.c2
  go_enter Try.func18, Try.ntmps18
  go_wp2_with fail
  rw [← hw0]
  clear hw0
  go_wp2_with fail
  refine (HS.out w0 HB0.out).mono ?_
  rintro e w1 ⟨rfl, b1⟩
  have HT1 := Lib.hid (HT.out.up b1)
  have HZ1 := Lib.hid (HZ.out.up b1)
  have HB1 := Lib.hid (HB0.out.trans (b1.mono HB0.out.size))
  clear b1 HT HZ HB0 x0 x1 x2 z0 z1 z2
  cases uqs with
  | false =>
    have HF := Lib.hid (HX3.out (by first | rfl | trivial))
    go_wp2_with fail
    go_ret
    exact ⟨ret_bool HF.out.symm, HB1.out⟩
  | true =>
    have x3 := HT1.out.c3
    have z3 := HZ1.out.c3
    by_cases q4 : n = n'
    case neg =>
      have he3 : ((n : Int) != n') = true := by simp; omega
      have HF := Lib.hid (HX4.out q4)
      clear q4
      go_wp2_with fail
      go_ret
      exact ⟨ret_bool HF.out.symm, HB1.out⟩
    subst q4
    have hd4 : ((n : Int) != n) = false := by simp
    have HE := Lib.hid (HX6.out (by first | rfl | trivial) (by first | rfl | trivial) (by first | rfl | trivial) n HN.out HN'.out)
    go_wp2_with fail
    clear x3 z3
    go_loopw [5] (fun v wr => ∃ i : Nat, i ≤ n ∧ v = .int .i64 i ∧ Hid (∀ k, k < i → rl T.rows k = rl U.rows k) ∧ Hid (Below w1.heap.size w1 wr)) (fun v _ => n - (intOf v).toNat)
    case atStart => exact ⟨0, Nat.zero_le _, rfl, Lib.hid (fun j hj => by omega), Lib.hid (Below.refl _ _)⟩
    case round =>
      obtain ⟨i, hi, rfl, HQ, HB⟩ := hrel
      have x3 := (HT1.out.up HB.out).c3
      have z3 := (HZ1.out.up HB.out).c3
      have HBW := Lib.hid (HB1.out.trans (HB.out.mono HB1.out.size))
      by_cases hlt : i < n
      · have hg1 : (i : Int) < n := by omega
        have hg0 : (0 : Int) ≤ i := by omega
        obtain ⟨b, off, rfl⟩ := (HV.out _ HB1.out).addr (by rw [HN.out]; omega)
        obtain ⟨b', off', rfl⟩ := (HU.out _ HB1.out).addr (by rw [HN'.out]; omega)
        obtain ⟨ad, cp, _, hb, r0, r1, dv⟩ := (HV.out _ HBW.out).at_ (i := i) (by rw [HN.out]; exact hlt)
        obtain ⟨ae, ce, _, hb', s0, s1, dw⟩ := (HU.out _ HBW.out).at_ (i := i) (by rw [HN'.out]; exact hlt)
        have HC := Lib.hid (HR.out i hlt _ _ ad ae cp ce wr.drew (dv.below (Below.refl _ _).drew) (dw.below (Below.refl _ _).drew))
        have HD1 := Lib.hid (HX5.out i)
        have HQ2 : Hid (rl T.rows i = rl U.rows i → ∀ k, k < i + 1 → rl T.rows k = rl U.rows k) := Lib.hid (fun h k hk => by
          by_cases e : k = i
          · subst e; exact h
          · exact HQ.out k (by omega))
        have HD2 : Hid (decide (rl T.rows i = rl U.rows i) = true → ∀ k, k < i + 1 → rl T.rows k = rl U.rows k) := Lib.hid (fun h => HQ2.out (of_decide_eq_true h))
        clear dv dw HQ HQ2
        generalize decide (rl T.rows i = rl U.rows i) = dd at *
        generalize (rl T.rows i).id = id at *
        generalize (rl T.rows i).d.length = l at *
        generalize (rl U.rows i).id = jd at *
        generalize (rl U.rows i).d.length = l' at *
        go_wp2_with fail
        go_region_law (first
          | (go_simp; refine HC.out.mono ?_; rintro e w5 ⟨rfl, b5⟩; have HB5 := Lib.hid (HB.out.drew.trans (b5.mono HB.out.size)); clear b5))
        all_goals cases dd with
          | false =>
            have HF := Lib.hid (HD1.out (by first | rfl | trivial))
            clear HD1 HD2
            go_wp2_with fail
            go_ret
            exact ⟨ret_bool HF.out.symm, HB1.out.trans (HB5.out.mono HB1.out.size)⟩
          | true =>
            have HF := Lib.hid (HD2.out (by first | rfl | trivial))
            clear HD1 HD2
            go_wp2_with fail
            go_roundw
            case rel => exact ⟨i + 1, by omega, by go_num, HF, HB5⟩
            case measure => simp [intOf]; omega
      · have e1 : i = n := by omega
        subst e1
        have hg1 : ¬ (i : Int) < i := by omega
        have HF := Lib.hid (HE.out HQ.out)
        clear HQ
        go_wp2_with fail
        go_ret
        exact ⟨ret_bool HF.out.symm, HBW.out⟩
end Go.Proofs.Ytfigebepeniikaa
/- Layer 27: the law's own record and table. -/
namespace Go.Proofs.Ytfigebepeniikaa
open Go.RowKit Go.Maps
def tC (id : ByteArray) : CR := ⟨3, ⟨#[]⟩, id, 0, 0⟩
def nC (n : Int) : CR := ⟨2, ⟨#[]⟩, ⟨#[]⟩, n, 0⟩
def nS : ByteArray := ⟨#[110]⟩
def sN (i : Nat) : ByteArray := if i = 0 then idS else nS
def gN (id : ByteArray) (n : Int) (i _j : Nat) : CR := if i = 0 then tC id else nC n
def dR (id : ByteArray) (n : Int) : List CR := preL 7 2 sN (fun _ => 1) (gN id n) 2
theorem dR_eq (id : ByteArray) (n : Int) : dR id n = [⟨7, ⟨#[]⟩, ⟨#[]⟩, 0, 2⟩, ⟨3, idS, id, 0, 0⟩, ⟨2, nS, ⟨#[]⟩, n, 0⟩] := rfl
theorem dR_len (id : ByteArray) (n : Int) : (dR id n).length = 3 := rfl
theorem own_dv {w : World} {B n : Nat} {v : Value} {L : List CR} (hl : L.length = n) (h : w.ownsRow B 53 5 v n (rw5 L)) : ∃ ad cap, v = .slice ad L.length cap ∧ DV B w ad cap L := by
  subst hl
  rcases h.2 with ⟨rfl, hn⟩ | ⟨q, cap, cur, rfl, hg, hgg, h1, h2, h3, h4⟩
  · exact ⟨none, 0, by rw [hn], fun i hi => by omega, by omega, Nat.zero_le _, fun _ => ⟨hn, rfl⟩, fun b off e => by cases e⟩
  · exact ⟨some ⟨q, 0, none⟩, cap, rfl, cv_of rfl (Array.getElem?_eq_some_iff.1 hgg).1 (fun j hj => h.cellAt j hj), h1, h2, fun e => (by cases e), fun b off e => (by cases e; exact hg)⟩
theorem own_setL {w : World} {B n e size p k : Nat} {v u : Value} {xs : List Value} (ho : w.ownsRow B e size v n xs) (hp : p < B) : (w.setCell ⟨p, k, none⟩ u).ownsRow B e size v n xs := by
  refine World.ownsRow.kept ho (row := some p) ⟨rfl, rfl, rfl, by simp [World.setCell], fun i _ hne => RowKit.Below.heap_setCell _ _ _ _ (fun e => hne (by rw [e]))⟩ ?_
  rcases ho.2 with ⟨rfl, _⟩ | ⟨g', cap, cur, rfl, hg, hgg, _⟩
  · exact .inl rfl
  · refine .inr fun ee => ?_
    simp only [Value.ownBlock, Option.some.injEq] at ee
    subst ee
    omega
theorem al_at (w : World) (b) {k : Nat} (hk : w.heap.size = k) : (w.alloc b).heap[k]? = some b := by subst hk; exact heap_alloc_new w b
theorem al_old (w : World) (b) {k : Nat} {x} (h : w.heap[k]? = some x) : (w.alloc b).heap[k]? = some x := by
  rw [((Below.refl w.heap.size w).alloc (Nat.le_refl _) b).block k (Array.getElem?_eq_some_iff.1 h).1]; exact h
theorem ret_rc {R : Ending → World → Prop} {fn : Func} {tmps : Array Value} {w : World} {p g : Nat} {x0 x1 : Value} (hr : fn.results = #[.cell p 32]) (h2 : tmps.getD p undef = .pointer (some ⟨g, 0, none⟩)) (hg : Bx2 w g x0 x1)
    (hR : R (.returned (.agg #[x0, x1])) w) : bodyPost Try.prog fn R .ret ⟨tmps, []⟩ w := by
  refine bodyPost_ret (v := .agg #[x0, x1]) ?_ rfl hR
  exact results_cell_row hr tmps w g 32 #[x0, x1] (0, 0) _ h2 hg Try.underlying32 rfl (by rw [infoRk]; rfl)
set_option maxRecDepth 20000 in
set_option maxHeartbeats 1000000 in
theorem record_any (id : ByteArray) (n : Int) (h0 : 0 ≤ n) (hid : id.size ≤ 1000000) (hE : mE 2 2 sN (fun _ => 1) (gN id n) = 0) (w : World) : Calls Try.prog 9 #[.string id, .int .i64 n] w fun e w' => ∃ v, e = .returned (.agg #[.string id, v]) ∧ w'.ownsRow w.heap.size 53 5 v (dR id n).length (rw5 (dR id n)) ∧ Below w.heap.size w w' := by
  have hcw : ∀ i, i < 2 → CW 1 (gN id n i) := fun i hi j hj => by
    unfold gN tC nC
    split
    · exact ⟨by show (3 : Nat) < 256; decide, Nat.zero_le _, hid, by show (-9223372036854775808 : Int) ≤ 0; decide, by show (0 : Int) ≤ 9223372036854775807; decide⟩
    · exact ⟨by show (2 : Nat) < 256; decide, Nat.zero_le _, Nat.zero_le _, by show (-9223372036854775808 : Int) ≤ 0; decide, by show (0 : Int) ≤ 9223372036854775807; decide⟩
  have HM := Lib.hid (fun (W : World) (la na : Option Addr) (lc nc : Nat) ad cp (h : LIn W la 2 ad (fun _ => 1) cp (gN id n)) (hn : NV W na 2 sN) => members_any na la 2 nc 2 lc sN ad (fun _ => 1) cp (gN id n) W h hcw hn (fun i hi => by unfold sN; split <;> decide))
  rw [hE, show preL 7 2 sN (fun _ => 1) (gN id n) 2 = dR id n from rfl] at HM
  obtain ⟨W, hW⟩ : ∃ W, W = ((((w.alloc (.cells #[.string ⟨#[]⟩, .slice none 0 0] 32)).alloc (.cells #[.int .u8 2, .string ⟨#[]⟩, .string ⟨#[]⟩, .int .i64 n, .int .i64 0] 53)).alloc (.cells #[.string ⟨#[105, 100]⟩, .string ⟨#[110]⟩] 9)).alloc (.cells #[.int .u8 3, .string ⟨#[]⟩, .string id, .int .i64 0, .int .i64 0] 53)).alloc (.cells #[.slice (some ⟨w.heap.size + 3, 0, none⟩) 1 1, .slice (some ⟨w.heap.size + 1, 0, none⟩) 1 1] 30) := ⟨_, rfl⟩
  have HB : Hid (Below w.heap.size w W) := Lib.hid (by rw [hW]; exact (((((Below.refl _ _).alloc (Nat.le_refl _) _).alloc (by simp) _).alloc (by simp; omega) _).alloc (by simp; omega) _).alloc (by simp; omega) _)
  have HX : Hid (Bx2 W w.heap.size (.string ⟨#[]⟩) (.slice none 0 0)) := Lib.hid (by
    rw [hW]
    refine Bx2.up (bx2_new w _ _) ?_
    exact ((((Below.refl _ _).alloc (Nat.le_refl _) _).alloc (by simp) _).alloc (by simp) _).alloc (by simp) _)
  have c1 : W.heap[w.heap.size + 1]? = some (.cells #[.int .u8 2, .string ⟨#[]⟩, .string ⟨#[]⟩, .int .i64 n, .int .i64 0] 53) := by rw [hW]; exact al_old _ _ (al_old _ _ (al_old _ _ (al_at _ _ (by simp))))
  have c2 : W.heap[w.heap.size + 2]? = some (.cells #[.string ⟨#[105, 100]⟩, .string ⟨#[110]⟩] 9) := by rw [hW]; exact al_old _ _ (al_old _ _ (al_at _ _ (by simp)))
  have c3 : W.heap[w.heap.size + 3]? = some (.cells #[.int .u8 3, .string ⟨#[]⟩, .string id, .int .i64 0, .int .i64 0] 53) := by rw [hW]; exact al_old _ _ (al_at _ _ (by simp))
  have c4 : W.heap[w.heap.size + 4]? = some (.cells #[.slice (some ⟨w.heap.size + 3, 0, none⟩) 1 1, .slice (some ⟨w.heap.size + 1, 0, none⟩) 1 1] 30) := by rw [hW]; exact al_at _ _ (by simp)
  have HL : Hid (LIn W (some ⟨w.heap.size + 4, 0, none⟩) 2 (fun i => if i = 0 then some ⟨w.heap.size + 3, 0, none⟩ else some ⟨w.heap.size + 1, 0, none⟩) (fun _ => 1) (fun _ => 1) (gN id n)) := Lib.hid (by
    refine ⟨fun i hi => ⟨w.heap.size + 4, 0, rfl, (Array.getElem?_eq_some_iff.1 c4).1, ?_⟩, fun i hi => ?_⟩
    · rcases (show i = 0 ∨ i = 1 by omega) with rfl | rfl <;> simp [World.cell?, c4]
    · rcases (show i = 0 ∨ i = 1 by omega) with rfl | rfl
      · intro j hj
        obtain rfl : j = 0 := by omega
        exact cv_block (L := [tC id]) c3 rfl 0 Nat.one_pos
      · intro j hj
        obtain rfl : j = 0 := by omega
        exact cv_block (L := [nC n]) c1 rfl 0 Nat.one_pos)
  have HN : Hid (NV W (some ⟨w.heap.size + 2, 0, none⟩) 2 sN) := Lib.hid (fun i hi => ⟨w.heap.size + 2, 0, rfl, (Array.getElem?_eq_some_iff.1 c2).1, by
    rcases (show i = 0 ∨ i = 1 by omega) with rfl | rfl <;> simp [World.cell?, c2, sN, idS, nS]⟩)
  have hn0 : ¬ n < 0 := by omega
  have HLT : Hid (w.heap.size < W.heap.size) := Lib.hid (Nat.lt_of_le_of_lt (Nat.le_add_right _ _) (Array.getElem?_eq_some_iff.1 c1).1)
  clear c1 c2 c3 c4 hE hcw hid h0
  generalize dR id n = D at HM ⊢
  go_enter Try.func9, Try.ntmps9
  go_wp2_with fail
  rw [← hW]
  clear hW
  refine (HM.out W _ _ _ _ _ _ HL.out HN.out).mono ?_
  rintro e w1 ⟨v, rfl, _, hown, b1⟩
  have HX1 := Lib.hid (HX.out.up b1)
  have HB1 := Lib.hid (HB.out.trans (b1.mono HB.out.size))
  obtain ⟨ad, cap, rfl⟩ := own_slice (hown rfl)
  have HO : Hid (∀ u0 u1, ((w1.setCell ⟨w.heap.size, 0, none⟩ u0).setCell ⟨w.heap.size, 1, none⟩ u1).ownsRow w.heap.size 53 5 (.slice ad D.length cap) D.length (rw5 D)) := Lib.hid (fun u0 u1 => ownsRow_mono (own_setL (own_setL (hown rfl) HLT.out) HLT.out) HB.out.size)
  have f0 := HX1.out.fz 0
  have f1 := HX1.out.fz 1
  have x0 := HX1.out.c0
  have x1 := HX1.out.c1
  clear hown b1 HL HN HM HX
  go_wp2_with fail
  refine ret_rc Try.results9 rfl (HX1.out.set _ _) ⟨_, rfl, ?_, set2_below HB1.out _ (Nat.le_refl _) _ _⟩
  exact HO.out _ _
end Go.Proofs.Ytfigebepeniikaa

import Derived.Test.YtolegmlfmlfbhaaDoorK7
/- Layer 31, ServeWrites: the items of a value, by the program. -/
namespace Go.Proofs.YtolegmlfmlfbhaaDoor
open Go.RowKit Go.Maps
theorem app_assoc3 (a b c : ByteArray) : a ++ b ++ c = a ++ (b ++ c) := by
  apply ByteArray.ext
  simp
set_option maxRecDepth 20000 in
set_option maxHeartbeats 4000000 in
theorem sall_any (w : World) (a : Option Addr) (n cap : Nat) (g : Nat → CR) (hg : SmW g n) (hn : n ≤ 1000) (hv : CV w a n g) (f : Nat) (hf : ∀ q, n - q ≤ f → q < n → 0 < f) (IH : VC w a n cap g f) : AC w a n cap g f := by
  intro obj m o c p s W hfu hpn ho hc hD hsz
  obtain ⟨K, hK⟩ : ∃ K, K = kidW (valW g n f) g n obj m f 0 p ⟨#[]⟩ := ⟨_, rfl⟩
  have HK := Lib.hid hK.symm
  rw [← hK]
  clear hK
  have HIH := Lib.hid IH
  have HVO := Lib.hid (fun q (hq : q < n) (hf0 : 0 < f) => valW_ok hg f q hf0 hq)
  have HF0 := Lib.hid hf
  have HSM := Lib.hid (fun q (hq : q < n) => hg q hq)
  have HCV := Lib.hid hv
  have HQA := Lib.hid (fun q (hq : q < n) V => squote_any (g q).nm V (by have := (hg q hq).1; omega))
  have HD := Lib.hid hD
  have HFU := Lib.hid hfu
  have HPN := Lib.hid hpn
  have HSZ := Lib.hid hsz
  have HOC : Hid (o.size = 1 ∧ c.size = 1) := Lib.hid ⟨ho, hc⟩
  clear hf hv hg IH hD hfu hpn hsz ho hc
  go_enter Tryd.func22, Tryd.ntmps22
  go_wp2_with fail
  refine (wstr o HD.out.out (by have := HSZ.out; have := HOC.out; omega)).mono ?_
  rintro e w1 ⟨rfl, h1, b1, k1⟩
  have HD1 : Hid (DS w a n cap (s ++ o) p w1) := Lib.hid (HD.out.wrote h1 b1 k1)
  clear h1 b1 k1
  go_wp2_with fail
  go_loopw [12] (fun v12 wr => ∃ (i q fu : Nat) (acc : ByteArray), v12 = .int .i64 i ∧ Hid (DS w a n cap (s ++ o ++ acc) q wr) ∧ Hid (kidW (valW g n f) g n obj m fu i q acc = K) ∧ Hid (p ≤ q ∧ q ≤ n ∧ n - q ≤ fu ∧ i ≤ q) ∧ Hid (acc.size + 40000 * (n - q) ≤ 40000 * (n - p))) (fun v12 _ => n - (intOf v12).toNat)
  case atStart => exact ⟨0, p, f, ⟨#[]⟩, rfl, Lib.hid (by rw [show s ++ o ++ (⟨#[]⟩ : ByteArray) = s ++ o from ByteArray.append_empty]; exact HD1.out), HK, Lib.hid ⟨Nat.le_refl _, HPN.out, HFU.out, Nat.zero_le _⟩, Lib.hid (by show 0 + _ ≤ _; omega)⟩
  case round =>
    obtain ⟨i, q, fu, acc, rfl, HDr, HKK, HRG, HAZ⟩ := hrel
    obtain ⟨x0, x1, x2, _⟩ := HDr.out.cells
    unfold valueF at x2
    have hq0 : (0 : Int) ≤ q := by omega
    have hiq : i ≤ 1000 := by have := HRG.out; omega
    have HT : Hid (s.size + acc.size ≤ 200000000) := Lib.hid (by have := HAZ.out; have := HSZ.out; omega)
    by_cases hm : (i : Int) < m
    · by_cases hqq : q < n
      · have hqi : (q : Int) < n := by omega
        have HQN := Lib.hid hqq
        obtain ⟨fu', hfu⟩ : ∃ x, fu = x + 1 := ⟨fu - 1, by have := HRG.out.2.2; omega⟩
        subst hfu
        have hkk := HKK.out
        unfold kidW at hkk
        rw [if_pos ⟨hm, hqq⟩] at hkk
        have HVq := Lib.hid (HVO.out q hqq (HF0.out q (by have := HRG.out; have := HFU.out; omega) hqq))
        obtain ⟨X, hX⟩ : ∃ X, X = valW g n f q := ⟨_, rfl⟩
        have HX := Lib.hid hX
        rw [← hX] at hkk HVq
        have HKN := Lib.hid hkk
        clear hkk HKK hX
        obtain ⟨bk, off, hbk⟩ := HCV.out.addr (by omega)
        subst hbk
        have d1 := ((HCV.out.below HDr.out.low).at_ hqq).2.2.1
        obtain ⟨nq, hnq⟩ : ∃ x, x = (g q).nm := ⟨_, rfl⟩
        have HQ0 := HQA.out q hqq
        have hqsz := sqT_size (g q).nm
        have hqsm := (HSM.out q hqq).1
        rw [← hnq] at d1 HQ0 HKN hqsz hqsm
        have HNQ := Lib.hid hnq
        clear hnq
        obtain ⟨Q, hQ⟩ : ∃ Q : ByteArray, Q = sqT nq := ⟨_, rfl⟩
        rw [← hQ] at HQ0 HKN hqsz
        have HQ1 := Lib.hid HQ0
        have HQ2 : Hid (Q.size ≤ 18002) := Lib.hid (by omega)
        clear hQ HQ0 hqsz hqsm
        have hl3 : ¬ 9223372036854775807 < Q.size + 1 := by have := HQ2.out; omega
        cases obj with
        | false =>
          clear d1 HQ1
          rcases Nat.eq_zero_or_pos i with hi0 | hi0
          · subst hi0
            have hi1 : ¬ (0 : Int) < ((0 : Nat) : Int) := by decide
            have HK2 := Lib.hid (by have h := HKN.out; simp only [Nat.lt_irrefl, if_true, if_false, Bool.false_eq_true, ↓reduceIte] at h; exact h)
            clear HKN
            go_wp2_with fail
            have HSQ : Hid ((s ++ o ++ acc).size + 40000 * (n - q) ≤ 100000000 ∧ (acc).size ≤ acc.size + 18004) := Lib.hid (by have h1 := HSZ.out; have h2 := HAZ.out; have h3 := HOC.out; have h4 := HPN.out; have e : acc.size = acc.size + 0 := (by rfl); rw [app_size, app_size, e]; omega)
            refine (HIH.out q _ _ (by have := HRG.out; have := HFU.out; omega) hqq HDr.out HSQ.out.1).mono ?_
            rintro e wd ⟨rfl, hd⟩
            rw [← HX.out, app_assoc3] at hd
            have HDd := Lib.hid hd
            clear hd
            go_wp2_with fail
            go_roundw
            case rel => exact ⟨0 + 1, X.2, fu', acc ++ X.1, by go_num, HDd, HK2, Lib.hid (by have h1 := HVq.out; have h2 := HRG.out; omega), Lib.hid (by have h1 := HVq.out; have h2 := HAZ.out; have h3 := HSQ.out; have h4 := HQN.out; rw [app_size]; omega)⟩
            case measure => (have h1 := HRG.out; simp [intOf]; omega)
          · have hi1 : (0 : Int) < (i : Int) := by omega
            have HK2 := Lib.hid (by have h := HKN.out; simp only [hi0, if_true, if_false, Bool.false_eq_true, ↓reduceIte] at h; exact h)
            clear HKN
            go_wp2_with fail
            refine (wbyte 44 44 rfl HDr.out.out (by have := HT.out; rw [app_size, app_size]; have := HOC.out; omega)).mono ?_
            rintro e wa ⟨rfl, h1, b1, k1⟩
            have HDa : Hid (DS w _ n cap (s ++ o ++ (acc ++ ⟨#[44]⟩)) q wa) := Lib.hid (by rw [← app_assoc3]; exact HDr.out.wrote h1 b1 k1)
            clear h1 b1 k1
            obtain ⟨y0, y1, y2, _⟩ := HDa.out.cells
            unfold valueF at y2
            clear x0 x1 x2
            go_wp2_with fail
            have HSQ : Hid ((s ++ o ++ (acc ++ (⟨#[44]⟩ : ByteArray))).size + 40000 * (n - q) ≤ 100000000 ∧ ((acc ++ (⟨#[44]⟩ : ByteArray))).size ≤ acc.size + 18004) := Lib.hid (by have h1 := HSZ.out; have h2 := HAZ.out; have h3 := HOC.out; have h4 := HPN.out; have e : (acc ++ (⟨#[44]⟩ : ByteArray)).size = acc.size + 1 := (by rw [app_size]; rfl); rw [app_size, app_size, e]; omega)
            refine (HIH.out q _ _ (by have := HRG.out; have := HFU.out; omega) hqq HDa.out HSQ.out.1).mono ?_
            rintro e wd ⟨rfl, hd⟩
            rw [← HX.out, app_assoc3] at hd
            have HDd := Lib.hid hd
            clear hd
            go_wp2_with fail
            go_roundw
            case rel => exact ⟨i + 1, X.2, fu', (acc ++ (⟨#[44]⟩ : ByteArray)) ++ X.1, by go_num, HDd, HK2, Lib.hid (by have h1 := HVq.out; have h2 := HRG.out; omega), Lib.hid (by have h1 := HVq.out; have h2 := HAZ.out; have h3 := HSQ.out; have h4 := HQN.out; rw [app_size]; omega)⟩
            case measure => (have h1 := HRG.out; simp [intOf]; omega)
        | true =>
          rcases Nat.eq_zero_or_pos i with hi0 | hi0
          · subst hi0
            have hi1 : ¬ (0 : Int) < ((0 : Nat) : Int) := by decide
            have HK2 := Lib.hid (by have h := HKN.out; simp only [Nat.lt_irrefl, if_true, if_false, Bool.false_eq_true, ↓reduceIte] at h; exact h)
            clear HKN
            go_wp2_with fail
            refine (HQ1.out _).mono ?_
            rintro e wb ⟨rfl, b1⟩
            have HDb := Lib.hid (HDr.out.up b1)
            clear b1
            go_wp2_with fail
            refine (wstr (Q ++ (⟨#[58]⟩ : ByteArray)) HDb.out.out (by have := HT.out; have := HOC.out; have := HQ2.out; rw [app_size, app_size, app_size]; show s.size + o.size + acc.size + (Q.size + 1) ≤ _; omega)).mono ?_
            rintro e wc ⟨rfl, h1, b1, k1⟩
            have HDc : Hid (DS w _ n cap (s ++ o ++ (acc ++ (Q ++ (⟨#[58]⟩ : ByteArray)))) q wc) := Lib.hid (by rw [← app_assoc3]; exact HDb.out.wrote h1 b1 k1)
            clear h1 b1 k1
            obtain ⟨_, _, u2, _⟩ := HDc.out.cells
            unfold valueF at u2
            go_wp2_with fail
            have HSQ : Hid ((s ++ o ++ (acc ++ (Q ++ (⟨#[58]⟩ : ByteArray)))).size + 40000 * (n - q) ≤ 100000000 ∧ ((acc ++ (Q ++ (⟨#[58]⟩ : ByteArray)))).size ≤ acc.size + 18004) := Lib.hid (by have h1 := HSZ.out; have h2 := HAZ.out; have h3 := HOC.out; have h4 := HPN.out; have h5 := HQ2.out; have e : (acc ++ (Q ++ (⟨#[58]⟩ : ByteArray))).size = acc.size + (Q.size + 1) := (by rw [app_size, app_size]; rfl); rw [app_size, app_size, e]; omega)
            refine (HIH.out q _ _ (by have := HRG.out; have := HFU.out; omega) hqq HDc.out HSQ.out.1).mono ?_
            rintro e wd ⟨rfl, hd⟩
            rw [← HX.out, app_assoc3] at hd
            have HDd := Lib.hid hd
            clear hd
            go_wp2_with fail
            go_roundw
            case rel => exact ⟨0 + 1, X.2, fu', (acc ++ (Q ++ (⟨#[58]⟩ : ByteArray))) ++ X.1, by go_num, HDd, HK2, Lib.hid (by have h1 := HVq.out; have h2 := HRG.out; omega), Lib.hid (by have h1 := HVq.out; have h2 := HAZ.out; have h3 := HSQ.out; have h4 := HQN.out; rw [app_size]; omega)⟩
            case measure => (have h1 := HRG.out; simp [intOf]; omega)
          · have hi1 : (0 : Int) < (i : Int) := by omega
            clear d1
            have HK2 := Lib.hid (by have h := HKN.out; simp only [hi0, if_true, if_false, Bool.false_eq_true, ↓reduceIte] at h; exact h)
            clear HKN
            go_wp2_with fail
            refine (wbyte 44 44 rfl HDr.out.out (by have := HT.out; rw [app_size, app_size]; have := HOC.out; omega)).mono ?_
            rintro e wa ⟨rfl, h1, b1, k1⟩
            have HDa : Hid (DS w _ n cap (s ++ o ++ (acc ++ ⟨#[44]⟩)) q wa) := Lib.hid (by rw [← app_assoc3]; exact HDr.out.wrote h1 b1 k1)
            clear h1 b1 k1
            obtain ⟨y0, y1, y2, _⟩ := HDa.out.cells
            unfold valueF at y2
            clear x0 x1 x2
            have d1 : wa.cell? _ = _ := ((HCV.out.below HDa.out.low).at_ hqq).2.2.1
            rw [← HNQ.out] at d1
            go_wp2_with fail
            refine (HQ1.out _).mono ?_
            rintro e wb ⟨rfl, b1⟩
            have HDb := Lib.hid (HDa.out.up b1)
            clear b1
            go_wp2_with fail
            refine (wstr (Q ++ (⟨#[58]⟩ : ByteArray)) HDb.out.out (by have := HT.out; have := HOC.out; have := HQ2.out; rw [app_size, app_size, app_size, app_size]; show s.size + o.size + (acc.size + 1) + (Q.size + 1) ≤ _; omega)).mono ?_
            rintro e wc ⟨rfl, h1, b1, k1⟩
            have HDc : Hid (DS w _ n cap (s ++ o ++ ((acc ++ (⟨#[44]⟩ : ByteArray)) ++ (Q ++ (⟨#[58]⟩ : ByteArray)))) q wc) := Lib.hid (by rw [← app_assoc3]; exact HDb.out.wrote h1 b1 k1)
            clear h1 b1 k1
            obtain ⟨_, _, u2, _⟩ := HDc.out.cells
            unfold valueF at u2
            go_wp2_with fail
            have HSQ : Hid ((s ++ o ++ ((acc ++ (⟨#[44]⟩ : ByteArray)) ++ (Q ++ (⟨#[58]⟩ : ByteArray)))).size + 40000 * (n - q) ≤ 100000000 ∧ (((acc ++ (⟨#[44]⟩ : ByteArray)) ++ (Q ++ (⟨#[58]⟩ : ByteArray)))).size ≤ acc.size + 18004) := Lib.hid (by have h1 := HSZ.out; have h2 := HAZ.out; have h3 := HOC.out; have h4 := HPN.out; have h5 := HQ2.out; have e : ((acc ++ (⟨#[44]⟩ : ByteArray)) ++ (Q ++ (⟨#[58]⟩ : ByteArray))).size = acc.size + (1 + (Q.size + 1)) := (by rw [app_size, app_size, app_size]; show acc.size + 1 + (Q.size + 1) = _; omega); rw [app_size, app_size, e]; omega)
            refine (HIH.out q _ _ (by have := HRG.out; have := HFU.out; omega) hqq HDc.out HSQ.out.1).mono ?_
            rintro e wd ⟨rfl, hd⟩
            rw [← HX.out, app_assoc3] at hd
            have HDd := Lib.hid hd
            clear hd
            go_wp2_with fail
            go_roundw
            case rel => exact ⟨i + 1, X.2, fu', ((acc ++ (⟨#[44]⟩ : ByteArray)) ++ (Q ++ (⟨#[58]⟩ : ByteArray))) ++ X.1, by go_num, HDd, HK2, Lib.hid (by have h1 := HVq.out; have h2 := HRG.out; omega), Lib.hid (by have h1 := HVq.out; have h2 := HAZ.out; have h3 := HSQ.out; have h4 := HQN.out; rw [app_size]; omega)⟩
            case measure => (have h1 := HRG.out; simp [intOf]; omega)
      · have hqe : q = n := by have := HRG.out; omega
        subst hqe
        have hz : ¬ ((q : Int) < (q : Int)) := by omega
        have hke : K = (acc, q) := by rw [← HKK.out]; exact kidW_stop (by omega)
        have HKE := Lib.hid hke
        clear HKK hke
        go_wp2_with fail
        refine (wstr c HDr.out.out (by have := HT.out; have := HOC.out; rw [app_size, app_size]; omega)).mono ?_
        rintro e w2 ⟨rfl, h1, b1, k1⟩
        have HD2 : Hid (DS w _ _ cap (s ++ (o ++ acc ++ c)) q w2) := Lib.hid (by rw [← app_assoc3, ← app_assoc3]; exact HDr.out.wrote h1 b1 k1)
        clear h1 b1 k1
        go_wp2_with fail
        go_end0
        exact ⟨rfl, by rw [HKE.out]; exact HD2.out⟩
    · have hke : K = (acc, q) := by rw [← HKK.out]; exact kidW_stop (by omega)
      have HKE := Lib.hid hke
      clear HKK hke
      go_wp2_with fail
      refine (wstr c HDr.out.out (by have := HT.out; have := HOC.out; rw [app_size, app_size]; omega)).mono ?_
      rintro e w2 ⟨rfl, h1, b1, k1⟩
      have HD2 : Hid (DS w _ _ cap (s ++ (o ++ acc ++ c)) q w2) := Lib.hid (by rw [← app_assoc3, ← app_assoc3]; exact HDr.out.wrote h1 b1 k1)
      clear h1 b1 k1
      go_wp2_with fail
      go_end0
      exact ⟨rfl, by rw [HKE.out]; exact HD2.out⟩
end Go.Proofs.YtolegmlfmlfbhaaDoor
/- Layer 31, ServeWrites: a value, by the program. -/
namespace Go.Proofs.YtolegmlfmlfbhaaDoor
open Go.RowKit Go.Maps
set_option maxRecDepth 20000 in
set_option maxHeartbeats 4000000 in
theorem svalue_any (w : World) (t : Tabs w) (a : Option Addr) (n cap : Nat) (g : Nat → CR) (hg : SmW g n) (hn : n ≤ 1000) (hv : CV w a n g) (f : Nat) (IH : AC w a n cap g f) : VC w a n cap g (f + 1) := by
  intro p s W hfu hpn hD hsz
  obtain ⟨b, off, rfl⟩ := hv.addr (by omega)
  obtain ⟨R, hR⟩ : ∃ R, R = valW g n (f + 1) p := ⟨_, rfl⟩
  rw [← hR]
  unfold valW at hR
  have HR := Lib.hid hR
  have HT : Hid (∀ V, Below w.heap.size w V → Tabs V) := Lib.hid (fun V k => t.later k)
  have HIH := Lib.hid IH
  have HFU : Hid (n - (p + 1) ≤ f) := Lib.hid (by omega)
  have HPN : Hid (p + 1 ≤ n) := Lib.hid (by omega)
  have HSZ : Hid (s.size + 40000 * (n - (p + 1)) + 40000 ≤ 100000000) := Lib.hid (by omega)
  have HSM := Lib.hid (hg p hpn)
  obtain ⟨_, c0, c1, c2, c3, c4⟩ := (hv.below hD.low).at_ hpn
  obtain ⟨x0, x1, _, x3⟩ := hD.cells
  have xf := hD.soft
  have hp0 : (0 : Int) ≤ p := by omega
  have hp1 : (p : Int) < n := by omega
  have hn1 : (n : Int) ≤ 1000 := by omega
  obtain ⟨kk, hkk⟩ : ∃ kk, kk = (g p).k := ⟨_, rfl⟩
  obtain ⟨nn, hnn⟩ : ∃ x, x = (g p).n := ⟨_, rfl⟩
  obtain ⟨mm, hmm⟩ : ∃ x, x = (g p).m := ⟨_, rfl⟩
  obtain ⟨tt, htt⟩ : ∃ x, x = (g p).tx := ⟨_, rfl⟩
  obtain ⟨ss, hss⟩ : ∃ x, x = (g p).nm := ⟨_, rfl⟩
  rw [← hkk] at c0
  rw [← hss] at c1
  rw [← htt] at c2
  rw [← hnn] at c3
  rw [← hmm] at c4
  rw [← hkk, ← hnn, ← hmm, ← htt] at HR
  rw [← hss, ← htt, ← hnn] at HSM
  clear hkk hnn hmm htt hss hR
  obtain ⟨W1, hW1⟩ : ∃ V, V = W.alloc (.cells #[.int .u8 kk, .string ss, .string tt, .int .i64 nn, .int .i64 mm] 34) := ⟨_, rfl⟩
  have HD1 : Hid (DS w (some ⟨b, off, none⟩) n cap s p W1) := Lib.hid (by rw [hW1]; exact hD.alloc _)
  obtain ⟨W2, hW2⟩ : ∃ V, V = W1.setCell ⟨w.heap.size + 2, 0, none⟩ (.int .i64 ((p : Int) + 1)) := ⟨_, rfl⟩
  have HD2 : Hid (DS w (some ⟨b, off, none⟩) n cap s (p + 1) W2) := Lib.hid (by rw [hW2]; exact HD1.out.next _)
  have hblk : W2.heap[W.heap.size]? = some (.cells #[.int .u8 kk, .string ss, .string tt, .int .i64 nn, .int .i64 mm] 34) := by
    have hlt := hD.lt
    rw [hW2, Below.heap_setCell _ _ _ _ (by show W.heap.size ≠ w.heap.size + 2; omega), hW1]
    exact heap_alloc_new W _
  have e0 : W2.cell? ⟨W.heap.size, 0, none⟩ = some (.int .u8 kk) := by simp [World.cell?, hblk]
  have e2 : W2.cell? ⟨W.heap.size, 2, none⟩ = some (.string tt) := by simp [World.cell?, hblk]
  have e3 : W2.cell? ⟨W.heap.size, 3, none⟩ = some (.int .i64 nn) := by simp [World.cell?, hblk]
  have e4 : W2.cell? ⟨W.heap.size, 4, none⟩ = some (.int .i64 mm) := by simp [World.cell?, hblk]
  obtain ⟨_, _, _, y3⟩ := HD2.out.cells
  unfold allF at y3
  have x1' := HD1.out.cells.2.1
  have xa : (W.alloc (.cells #[.int .u8 kk, .string ss, .string tt, .int .i64 nn, .int .i64 mm] 34)).heap.size = W.heap.size + 1 := by simp
  clear xa
  have xf' := HD1.out.soft
  have hw1 : IntKind.i64.wrap ((p : Int) + 1) = ((p + 1 : Nat) : Int) := by rw [IntKind.wrap_i64] <;> omega
  have HB := HD2.out.low
  have HTW := Lib.hid (HT.out _ HB)
  clear hblk hD hv hg IH hsz hfu HB HT
  go_enter Tryd.func24, Tryd.ntmps24
  go_upto_region 1 with fail
  rw [← hW1]
  clear c0 c1 c2 c3 c4 x0 x1 xf hW1
  go_upto_region 2 with fail
  rw [← hW2]
  clear x1' xf' hw1 hW2 x3
  by_cases k1 : kk = 1
  · subst k1
    by_cases hz : nn = 0
    · subst hz
      have HE : Hid (R = ((⟨#[102, 97, 108, 115, 101]⟩ : ByteArray), p + 1)) := HR
      clear HR
      go_wp2_with fail
      refine (wstr (⟨#[102, 97, 108, 115, 101]⟩ : ByteArray) HD2.out.out (by have := HSZ.out; show s.size + 5 ≤ _; omega)).mono ?_
      rintro e w2 ⟨rfl, h1, b1, k1⟩
      have HD3 := Lib.hid (HD2.out.wrote h1 b1 k1)
      clear h1 b1 k1
      go_wp2_with fail
      go_end0
      exact ⟨rfl, by rw [HE.out]; exact HD3.out⟩
    · have HE : Hid (R = ((⟨#[116, 114, 117, 101]⟩ : ByteArray), p + 1)) := Lib.hid (by rw [HR.out, if_pos rfl, if_pos hz])
      have g0 : (nn == 0) = false := by rw [beq_eq_false_iff_ne]; exact hz
      clear hz HR
      go_wp2_with fail
      refine (wstr (⟨#[116, 114, 117, 101]⟩ : ByteArray) HD2.out.out (by have := HSZ.out; show s.size + 4 ≤ _; omega)).mono ?_
      rintro e w2 ⟨rfl, h1, b1, k1⟩
      have HD3 := Lib.hid (HD2.out.wrote h1 b1 k1)
      clear h1 b1 k1
      go_wp2_with fail
      go_end0
      exact ⟨rfl, by rw [HE.out]; exact HD3.out⟩
  have q1 : ((kk : Int) == 1) = false := by rw [beq_eq_false_iff_ne]; omega
  rw [if_neg k1] at HR
  by_cases k2 : kk = 2
  · subst k2
    have HE : Hid (R = (itT nn, p + 1)) := HR
    have HC := Lib.hid (fun V (h : Below W2.heap.size W2 V) => swrite_any nn V (HTW.out.later h) HSM.out.2.2)
    have hzz := itT_size (i := nn) HSM.out.2.2
    obtain ⟨T, hT⟩ : ∃ T, T = itT nn := ⟨_, rfl⟩
    rw [← hT] at HE HC hzz
    have HZ := Lib.hid hzz
    clear k1 HR hT hzz
    go_wp2_with fail
    refine (HC.out _ (Below.refl _ _)).mono ?_
    rintro e w1 ⟨rfl, b1⟩
    have HD4 := Lib.hid (HD2.out.up b1)
    clear b1 HD2
    have HD2 := HD4
    go_wp2_with fail
    refine (wstr T HD2.out.out (by have := HSZ.out; have := HZ.out; omega)).mono ?_
    rintro e w2 ⟨rfl, h1, b1, k1⟩
    have HD3 := Lib.hid (HD2.out.wrote h1 b1 k1)
    clear h1 b1 k1
    go_wp2_with fail
    go_end0
    exact ⟨rfl, by rw [HE.out]; exact HD3.out⟩
  have q2 : ((kk : Int) == 2) = false := by rw [beq_eq_false_iff_ne]; omega
  rw [if_neg k2] at HR
  by_cases k3 : kk = 3 ∨ kk = 4
  · have HE : Hid (R = (sqT tt, p + 1)) := Lib.hid (by rw [HR.out, if_pos k3])
    have HC := Lib.hid (fun V => squote_any tt V (by have := HSM.out.2.1; omega))
    have hzz := sqT_size tt
    have hz2 := HSM.out.2.1
    obtain ⟨T, hT⟩ : ∃ T, T = sqT tt := ⟨_, rfl⟩
    rw [← hT] at HE HC hzz
    have HZ : Hid (T.size ≤ 20000) := Lib.hid (by omega)
    clear k1 k2 HR hT hzz hz2
    rcases k3 with rfl | rfl
    all_goals
      go_wp2_with fail
      refine (HC.out _).mono ?_
      rintro e w1 ⟨rfl, b1⟩
      have HD4 := Lib.hid (HD2.out.up b1)
      clear b1 HD2
      have HD2 := HD4
      go_wp2_with fail
      refine (wstr T HD2.out.out (by have := HSZ.out; have := HZ.out; omega)).mono ?_
      rintro e w2 ⟨rfl, h1, b1, k1⟩
      have HD3 := Lib.hid (HD2.out.wrote h1 b1 k1)
      clear h1 b1 k1
      go_wp2_with fail
      go_end0
      exact ⟨rfl, by rw [HE.out]; exact HD3.out⟩
  have q3 : ((kk : Int) == 3) = false := by rw [beq_eq_false_iff_ne]; omega
  have q4 : ((kk : Int) == 4) = false := by rw [beq_eq_false_iff_ne]; omega
  rw [if_neg k3] at HR
  by_cases k6 : kk = 6
  · subst k6
    clear k1 k2 k3
    have HE : Hid (R = ((⟨#[91]⟩ : ByteArray) ++ (kidW (valW g n f) g n false mm f 0 (p + 1) ⟨#[]⟩).1 ++ (⟨#[93]⟩ : ByteArray), (kidW (valW g n f) g n false mm f 0 (p + 1) ⟨#[]⟩).2)) := Lib.hid (by rw [HR.out] <;> rfl)
    have HC := Lib.hid (HIH.out false mm (⟨#[91]⟩ : ByteArray) (⟨#[93]⟩ : ByteArray) (p + 1) s W2 HFU.out HPN.out rfl rfl HD2.out HSZ.out)
    clear HR
    go_wp2_with fail
    refine HC.out.mono ?_
    rintro e w2 ⟨rfl, h2⟩
    have HD3 := Lib.hid h2
    clear h2
    go_wp2_with fail
    go_end0
    exact ⟨rfl, by rw [HE.out]; exact HD3.out⟩
  have q6 : ((kk : Int) == 6) = false := by rw [beq_eq_false_iff_ne]; omega
  rw [if_neg k6] at HR
  by_cases k7 : kk = 7
  · subst k7
    clear k1 k2 k3 k6
    have HE : Hid (R = ((⟨#[123]⟩ : ByteArray) ++ (kidW (valW g n f) g n true mm f 0 (p + 1) ⟨#[]⟩).1 ++ (⟨#[125]⟩ : ByteArray), (kidW (valW g n f) g n true mm f 0 (p + 1) ⟨#[]⟩).2)) := Lib.hid (by rw [HR.out] <;> rfl)
    have HC := Lib.hid (HIH.out true mm (⟨#[123]⟩ : ByteArray) (⟨#[125]⟩ : ByteArray) (p + 1) s W2 HFU.out HPN.out rfl rfl HD2.out HSZ.out)
    clear HR
    go_wp2_with fail
    refine HC.out.mono ?_
    rintro e w2 ⟨rfl, h2⟩
    have HD3 := Lib.hid h2
    clear h2
    go_wp2_with fail
    go_end0
    exact ⟨rfl, by rw [HE.out]; exact HD3.out⟩
  have q7 : ((kk : Int) == 7) = false := by rw [beq_eq_false_iff_ne]; omega
  rw [if_neg k7] at HR
  clear k1 k2 k3 k6 k7
  have HE := HR
  go_wp2_with fail
  refine (wstr (⟨#[110, 117, 108, 108]⟩ : ByteArray) HD2.out.out (by have := HSZ.out; show s.size + 4 ≤ _; omega)).mono ?_
  rintro e w2 ⟨rfl, h1, b1, k1⟩
  have HD3 := Lib.hid (HD2.out.wrote h1 b1 k1)
  clear h1 b1 k1
  go_wp2_with fail
  go_end0
  exact ⟨rfl, by rw [HE.out]; exact HD3.out⟩
end Go.Proofs.YtolegmlfmlfbhaaDoor
/- Layer 31, ServeWrites: the program's data text. -/
namespace Go.Proofs.YtolegmlfmlfbhaaDoor
open Go.RowKit Go.Maps
theorem vc_all (w : World) (t : Tabs w) (a : Option Addr) (n cap : Nat) (g : Nat → CR) (hg : SmW g n) (hn : n ≤ 1000) (hv : CV w a n g) : ∀ f, VC w a n cap g f
  | 0 => fun p s W h1 h2 => by omega
  | f + 1 => svalue_any w t a n cap g hg hn hv f (sall_any w a n cap g hg hn hv f (fun q h1 h2 => by omega) (vc_all w t a n cap g hg hn hv f))
theorem ds_new (w : World) (a : Option Addr) (n cap : Nat) : DS w a n cap ⟨#[]⟩ 0 (((((w.alloc (.cells #[.slice a n cap] 22)).alloc (.cells #[.pointer none, .slice none 0 0] 50)).alloc (.cells #[.int .i64 0] 3)).alloc (.cells #[valueF w.heap.size] 1)).alloc (.cells #[allF w.heap.size] 58)) := by
  obtain ⟨w1, h1⟩ : ∃ x, x = w.alloc (.cells #[.slice a n cap] 22) := ⟨_, rfl⟩
  have z1 : w1.heap.size = w.heap.size + 1 := by rw [h1]; simp
  have y1 : w1.heap[w.heap.size]? = some (.cells #[.slice a n cap] 22) := by rw [h1]; exact heap_alloc_new w _
  rw [← h1]
  obtain ⟨w2, h2⟩ : ∃ x, x = w1.alloc (.cells #[.pointer none, .slice none 0 0] 50) := ⟨_, rfl⟩
  have z2 : w2.heap.size = w.heap.size + 2 := by rw [h2]; simp [z1]
  have y2 : OB (w.heap.size + 1) (w.heap.size + 1) ⟨#[]⟩ w2 := by rw [h2, ← z1]; exact OB.new w1
  rw [← h2]
  obtain ⟨w3, h3⟩ : ∃ x, x = w2.alloc (.cells #[.int .i64 0] 3) := ⟨_, rfl⟩
  have z3 : w3.heap.size = w.heap.size + 3 := by rw [h3]; simp [z2]
  have y3 : w3.heap[w.heap.size + 2]? = some (.cells #[.int .i64 0] 3) := by rw [h3, ← z2]; exact heap_alloc_new w2 _
  rw [← h3]
  obtain ⟨w4, h4⟩ : ∃ x, x = w3.alloc (.cells #[valueF w.heap.size] 1) := ⟨_, rfl⟩
  have z4 : w4.heap.size = w.heap.size + 4 := by rw [h4]; simp [z3]
  have y4 : w4.heap[w.heap.size + 3]? = some (.cells #[valueF w.heap.size] 1) := by rw [h4, ← z3]; exact heap_alloc_new w3 _
  rw [← h4]
  have y5 : (w4.alloc (.cells #[allF w.heap.size] 58)).heap[w.heap.size + 4]? = some (.cells #[allF w.heap.size] 58) := by rw [← z4]; exact heap_alloc_new w4 _
  have b1 : Below w.heap.size w w1 := by rw [h1]; exact (Below.refl _ _).alloc (Nat.le_refl _) _
  have b2 : Below w1.heap.size w1 w2 := by rw [h2]; exact (Below.refl _ _).alloc (Nat.le_refl _) _
  have b3 : Below w2.heap.size w2 w3 := by rw [h3]; exact (Below.refl _ _).alloc (Nat.le_refl _) _
  have b4 : Below w3.heap.size w3 w4 := by rw [h4]; exact (Below.refl _ _).alloc (Nat.le_refl _) _
  have b5 : Below w4.heap.size w4 (w4.alloc (.cells #[allF w.heap.size] 58)) := (Below.refl _ _).alloc (Nat.le_refl _) _
  have b35 := b4.trans (b5.mono b4.size)
  have b25 := b3.trans (b35.mono b3.size)
  have b15 := b2.trans (b25.mono b2.size)
  exact ⟨y2.up b25, (b15.block _ (by omega)).trans y1, (b35.block _ (by omega)).trans y3, (b5.block _ (by omega)).trans y4, y5, b1.trans (b15.mono b1.size)⟩
set_option maxRecDepth 20000 in
set_option maxHeartbeats 4000000 in
theorem sdata_any (w : World) (t : Tabs w) (a : Option Addr) (n cap : Nat) (g : Nat → CR) (hg : SmW g n) (hn : n ≤ 1000) (h0 : 0 < n) (hv : CV w a n g) : Calls Tryd.prog 11 #[.slice a n cap] w fun e w' => e = .returned (.string (valW g n n 0).1) ∧ Below w.heap.size w w' := by
  have HV := Lib.hid (vc_all w t a n cap g hg hn hv n 0 ⟨#[]⟩)
  have HN := Lib.hid hn
  clear hv hg t
  go_enter Tryd.func11, Tryd.ntmps11
  go_upto_region 6 with fail
  have HD := Lib.hid (ds_new w a n cap)
  obtain ⟨W, hW⟩ : ∃ x, x = ((((w.alloc (.cells #[.slice a n cap] 22)).alloc (.cells #[.pointer none, .slice none 0 0] 50)).alloc (.cells #[.int .i64 0] 3)).alloc (.cells #[valueF w.heap.size] 1)).alloc (.cells #[allF w.heap.size] 58) := ⟨_, rfl⟩
  rw [← hW] at HD
  have hW2 := hW
  unfold valueF allF at hW2
  rw [← hW2]
  clear hW hW2
  obtain ⟨_, _, x2, _⟩ := HD.out.cells
  unfold valueF at x2
  go_wp2_with fail
  refine (HV.out W (by omega) h0 HD.out (by have := HN.out; show 0 + 40000 * (n - 0) ≤ _; omega)).mono ?_
  rintro e w1 ⟨rfl, h1⟩
  have HD1 := Lib.hid h1
  clear h1 x2
  go_wp2_with fail
  refine (wfin HD1.out.out).mono ?_
  rintro e w2 ⟨rfl, b2⟩
  have B2 := Lib.hid (HD1.out.low.trans (b2.mono (Nat.le_succ _)))
  clear b2
  go_wp2_with fail
  go_ret
  exact ⟨by rw [show (⟨#[]⟩ : ByteArray) ++ (valW g n n 0).1 = (valW g n n 0).1 from ByteArray.empty_append] <;> rfl, B2.out⟩
end Go.Proofs.YtolegmlfmlfbhaaDoor
/- Layer 31, ServeWrites: a response, as the program writes it. -/
namespace Go.Proofs.YtolegmlfmlfbhaaDoor
open Go.RowKit Go.Maps
def errsL (fs : Nat → FtR) : Nat → List ByteArray
  | 0 => []
  | k + 1 => errsL fs k ++ [fltW (fs k)]
theorem errsL_len (fs : Nat → FtR) (k : Nat) : (errsL fs k).length = k := by
  induction k with
  | zero => rfl
  | succ k ih => unfold errsL; rw [List.length_append, ih]; rfl
theorem errsL_jn (fs : Nat → FtR) (k : Nat) : jnT (errsL fs k) = errW fs k := by
  induction k with
  | zero => rfl
  | succ k ih => unfold errsL; rw [jnT_cat, errsL_len, ih]; rfl
theorem sq_errors : sqT (⟨#[101, 114, 114, 111, 114, 115]⟩ : ByteArray) = ⟨#[34, 101, 114, 114, 111, 114, 115, 34]⟩ := by decide +kernel
theorem sq_data : sqT (⟨#[100, 97, 116, 97]⟩ : ByteArray) = ⟨#[34, 100, 97, 116, 97, 34]⟩ := by decide +kernel
def mL1 (fs : Nat → FtR) (m : Nat) : List ByteArray := if 0 < m then [memT ⟨#[101, 114, 114, 111, 114, 115]⟩ (⟨#[91]⟩ ++ errW fs m ++ ⟨#[93]⟩)] else []
def mL2 (g : Nat → CR) (n : Nat) (fs : Nat → FtR) (m : Nat) : List ByteArray := if 0 < n then mL1 fs m ++ [memT ⟨#[100, 97, 116, 97]⟩ (valW g n n 0).1] else mL1 fs m
theorem mL_jn (g : Nat → CR) (n : Nat) (fs : Nat → FtR) (m : Nat) : jnT (mL2 g n fs m) = rs2 g n fs m := by
  have e1 : jnT (mL1 fs m) = rs1 fs m := by
    unfold mL1 rs1
    split
    · rw [jnT_one]
      unfold memT
      rw [sq_errors]
      apply ByteArray.ext
      apply Array.toList_inj.1
      simp
    · rfl
  unfold mL2 rs2
  split
  · rw [jnT_cat, e1]
    have e3 : memT ⟨#[100, 97, 116, 97]⟩ (valW g n n 0).1 = (⟨#[34, 100, 97, 116, 97, 34, 58]⟩ : ByteArray) ++ (valW g n n 0).1 := by
      unfold memT
      rw [sq_data]
      apply ByteArray.ext
      apply Array.toList_inj.1
      simp
    rw [e3]
    congr 1
    unfold mL1
    by_cases h : 0 < m
    · rw [if_pos h, if_pos h]; rfl
    · rw [if_neg h, if_neg h]; rfl
  · exact e1
theorem mL_text (g : Nat → CR) (n : Nat) (fs : Nat → FtR) (m : Nat) : (⟨#[123]⟩ : ByteArray) ++ jnT (mL2 g n fs m) ++ ⟨#[125]⟩ = resW g n fs m := by
  unfold resW
  rw [mL_jn]
theorem SO.none {B : Nat} {w : World} (h : B ≤ w.heap.size) : SO B w (.slice none 0 0) [] := ⟨World.ownsRow_nil _ _ _ _, h⟩
set_option maxRecDepth 20000 in
set_option maxHeartbeats 4000000 in
theorem sWrite_any (a : Option Addr) (n cap : Nat) (g : Nat → CR) (l : Option Addr) (m cp : Nat) (fs : Nat → FtR) (w : World) (t : Tabs w) (hg : SmW g n) (hn : n ≤ 1000) (hm : m ≤ 1000) (hf : SmE fs m) (hv : CV w a n g) (hl : FtV w l m fs) : Calls Tryd.prog 6 #[.slice a n cap, .slice l m cp] w fun e w' => e = .returned (.string (resW g n fs m)) ∧ Below w.heap.size w w' := by
  have HT := Lib.hid (fun V (k : Below w.heap.size w V) => t.later k)
  have HL := Lib.hid (fun V (k : Below w.heap.size w V) => hl.below k)
  have HAD := Lib.hid (fun (h0 : 0 < m) => hl.addr h0)
  have HF := Lib.hid hf
  have HSZ := Lib.hid (errW_size m hf)
  have HVA := Lib.hid (fun V (k : Below w.heap.size w V) (h0 : 0 < n) => sdata_any V (t.later k) a n cap g hg hn h0 (hv.below k))
  have HVO := Lib.hid (fun (h0 : 0 < n) => valW_ok hg n 0 h0 h0)
  have HE := Lib.hid (mL_text g n fs m)
  have HJ := Lib.hid (errsL_jn fs m)
  have HLN := Lib.hid (errsL_len fs)
  have HM1 : Hid (mL1 fs m = if 0 < m then [memT ⟨#[101, 114, 114, 111, 114, 115]⟩ (⟨#[91]⟩ ++ errW fs m ++ ⟨#[93]⟩)] else []) := Lib.hid rfl
  have HM2 : Hid (mL2 g n fs m = if 0 < n then mL1 fs m ++ [memT ⟨#[100, 97, 116, 97]⟩ (valW g n n 0).1] else mL1 fs m) := Lib.hid rfl
  have HR : Hid ((jnT (mL2 g n fs m)).size ≤ 100000000000) := Lib.hid (by
    have h1 := rs1_size hf hm
    rw [mL_jn]
    unfold rs2
    split
    · rename_i h0
      have h2 := valW_ok hg n 0 h0 h0
      rw [app_size, app_size]
      show _ + (7 + _) ≤ _
      split
      · rw [app_size]
        show _ + 1 + _ ≤ _
        omega
      · omega
    · omega)
  clear hv hl hf hg t
  obtain ⟨L1, hL1⟩ : ∃ L, L = mL1 fs m := ⟨_, rfl⟩
  obtain ⟨L2, hL2⟩ : ∃ L, L = mL2 g n fs m := ⟨_, rfl⟩
  rw [← hL1] at HM1 HM2
  rw [← hL2] at HM2 HE HR
  clear hL1 hL2
  obtain ⟨EW, hEW⟩ : ∃ x, x = errW fs m := ⟨_, rfl⟩
  rw [← hEW] at HJ HM1 HSZ
  clear hEW
  obtain ⟨DT, hDT⟩ : ∃ x, x = valW g n n 0 := ⟨_, rfl⟩
  rw [← hDT] at HM2 HVA HVO
  clear hDT
  have HL1 : Hid (L1.length ≤ 1) := Lib.hid (by rw [HM1.out]; split <;> simp)
  have HL2 : Hid (L2.length ≤ 2) := Lib.hid (by have := HL1.out; rw [HM2.out]; split <;> (try rw [List.length_append, List.length_singleton]) <;> omega)
  have HMB := Lib.hid (fun V => smember_any ⟨#[101, 114, 114, 111, 114, 115]⟩ (⟨#[91]⟩ ++ EW ++ ⟨#[93]⟩) V (by decide) (by have := HSZ.out; rw [app_size, app_size]; show 1 + EW.size + 1 ≤ _; omega))
  have HMD := Lib.hid (fun V (h0 : 0 < n) => smember_any ⟨#[100, 97, 116, 97]⟩ DT.1 V (by decide) (by have := HVO.out h0; omega))
  obtain ⟨M1, hM1⟩ : ∃ x, x = memT ⟨#[101, 114, 114, 111, 114, 115]⟩ (⟨#[91]⟩ ++ EW ++ ⟨#[93]⟩) := ⟨_, rfl⟩
  obtain ⟨M2, hM2⟩ : ∃ x, x = memT ⟨#[100, 97, 116, 97]⟩ DT.1 := ⟨_, rfl⟩
  rw [← hM1] at HM1 HMB
  rw [← hM2] at HM2 HMD
  clear hM1 hM2
  go_enter Tryd.func6, Tryd.ntmps6
  go_upto_if 11 with fail
  go_cut [5] (fun v wx => Hid (SO w.heap.size wx v L1) ∧ Hid (Below w.heap.size w wx))
  case first =>
    by_cases hm0 : 0 < m
    · have hmi : (0 : Int) < (m : Int) := by omega
      obtain ⟨b, off, rfl⟩ := HAD.out hm0
      rw [if_pos hm0] at HM1
      go_wp2_with fail
      rw [decide_eq_true hm0]
      go_loopw [6, 8, 14] (fun v6 _ v14 wr => ∃ (i : Nat) (v : Value), i ≤ m ∧ v14 = .int .i64 i ∧ v = v6 ∧ Hid (SO w.heap.size wr v (errsL fs i)) ∧ Hid (Below w.heap.size w wr)) (fun _ _ v14 _ => m - (intOf v14).toNat)
      case atStart => exact ⟨0, _, Nat.zero_le _, rfl, rfl, Lib.hid (SO.nil w), Lib.hid (Below.refl _ _)⟩
      case round =>
        obtain ⟨i, v, hi, rfl, rfl, HO, HB⟩ := hrel
        by_cases him : i < m
        · have hii : (i : Int) < m := by omega
          have hi0 : (0 : Int) ≤ i := by omega
          obtain ⟨pa, pc, _, d0, d1, d2, d3, d4, d5, d6⟩ := (HL.out _ HB.out).at_ him
          have hsm := HF.out i him
          have HLi := Lib.hid (HLN.out i)
          obtain ⟨X, hX⟩ : ∃ X, X = fs i := ⟨_, rfl⟩
          have HN : Hid (errsL fs (i + 1) = errsL fs i ++ [fltW X]) := Lib.hid (by rw [hX]; rfl)
          rw [← hX] at d0 d1 d2 d3 d4 d5 d6 hsm
          clear hX
          obtain ⟨W, hW⟩ : ∃ W, W = wr.alloc (.cells #[.string X.code, .slice pa X.np pc, .string X.dir, .int .i64 X.rule, .int .i64 X.line, .int .i64 X.col] 27) := ⟨_, rfl⟩
          have hwr : Below wr.heap.size wr W := by rw [hW]; exact (Below.refl _ _).alloc (Nat.le_refl _) _
          have HW : Hid (Below w.heap.size w W) := Lib.hid (HB.out.trans (hwr.mono HB.out.size))
          have HOW : Hid (SO w.heap.size W v (errsL fs i)) := Lib.hid (HO.out.up hwr)
          have HC0 := sfault_any X pa pc W (HT.out W HW.out) hsm (d0.below hwr)
          obtain ⟨Q, hQ⟩ : ∃ Q, Q = fltW X := ⟨_, rfl⟩
          rw [← hQ] at HC0 HN
          have HC := Lib.hid HC0
          clear hQ HC0 d0 hwr hsm
          go_wp2_with fail
          rw [← hW]
          refine HC.out.mono ?_
          rintro e w1 ⟨rfl, b1⟩
          have HB1 := Lib.hid (HW.out.trans (b1.mono HW.out.size))
          have HO1 := Lib.hid (HOW.out.up b1)
          clear b1
          go_wp2_with (at_builtin; refine app_str rfl (.tmp 18) (.tmp 21) rfl v (errsL fs i) [Q] w1.heap.size (by simp [Act.eval, Act.put]) (by simp [Act.eval, Act.put]) (HO1.out.alloc _) (heap_alloc_new _ _) (by have := HLi.out; simp; omega) ?_; intro v2 w2 o2 g2; have B2 := Lib.hid ((HB1.out.alloc HB1.out.size _).trans ((HO1.out.alloc _).below g2)); rw [← HN.out] at o2; have O2 := Lib.hid o2; clear o2 g2)
          go_roundw
          case rel => exact ⟨i + 1, _, by omega, by go_num, rfl, O2, B2⟩
          case measure => (simp [intOf]; omega)
        · have hie : i = m := by omega
          subst hie
          have hz : ¬ ((i : Int) < (i : Int)) := by omega
          have HC := Lib.hid (join_any HO.out (by have := HLN.out i; omega) (by rw [HJ.out]; have := HSZ.out; omega))
          rw [HJ.out] at HC
          have hl2 : ¬ 9223372036854775807 < 1 + EW.size := by have := HSZ.out; omega
          have hl3 : ¬ 9223372036854775807 < 1 + EW.size + 1 := by have := HSZ.out; omega
          go_wp2_with fail
          refine HC.out.mono ?_
          rintro e w1 ⟨rfl, b1⟩
          have HB1 := Lib.hid (HB.out.trans (b1.mono HB.out.size))
          clear b1
          go_wp2_with fail
          refine (HMB.out _).mono ?_
          rintro e w2 ⟨rfl, b2⟩
          have HB2 := Lib.hid (HB1.out.trans (b2.mono HB1.out.size))
          have HO2 : Hid (SO w.heap.size w2 (.slice none 0 0) []) := Lib.hid (SO.none HB2.out.size)
          clear b2
          go_wp2_with (at_builtin; refine app_str rfl (.tmp 24) (.tmp 30) rfl (.slice none 0 0) [] [M1] w2.heap.size (by simp [Act.eval, Act.put]) (by simp [Act.eval, Act.put]) (HO2.out.alloc _) (heap_alloc_new _ _) (by simp) ?_; intro v2 w3 o2 g2; have B3 := Lib.hid ((HB2.out.alloc HB2.out.size _).trans ((HO2.out.alloc _).below g2)); rw [List.nil_append, ← HM1.out] at o2; have O3 := Lib.hid o2; clear o2 g2)
          go_meet
          exact ⟨O3, B3⟩
    · have hmi : ¬ (0 : Int) < (m : Int) := by omega
      rw [if_neg hm0] at HM1
      go_wp2_with fail
      go_meet
      exact ⟨Lib.hid (by rw [HM1.out]; exact SO.nil w), Lib.hid (Below.refl _ _)⟩
  case rest =>
    obtain ⟨HO, HB⟩ := hcut
    go_upto_if 34 with fail
    go_cut [5] (fun v wx => Hid (SO w.heap.size wx v L2) ∧ Hid (Below w.heap.size w wx))
    case first =>
      by_cases hn0 : 0 < n
      · have hni : (0 : Int) < (n : Int) := by omega
        have HD := Lib.hid (HVA.out _ HB.out hn0)
        have HMD2 := Lib.hid (fun V => HMD.out V hn0)
        rw [if_pos hn0] at HM2
        go_wp2_with fail
        refine HD.out.mono ?_
        rintro e w1 ⟨rfl, b1⟩
        have HB1 := Lib.hid (HB.out.trans (b1.mono HB.out.size))
        have HO1 := Lib.hid (HO.out.up b1)
        clear b1
        go_wp2_with fail
        refine (HMD2.out _).mono ?_
        rintro e w2 ⟨rfl, b2⟩
        have HB2 := Lib.hid (HB1.out.trans (b2.mono HB1.out.size))
        have HO2 := Lib.hid (HO1.out.up b2)
        clear b2
        go_wp2_with (at_builtin; refine app_str rfl (.tmp 35) (.tmp 39) rfl u5 L1 [M2] w2.heap.size (by simp [Act.eval, Act.put]) (by simp [Act.eval, Act.put]) (HO2.out.alloc _) (heap_alloc_new _ _) (by have := HL1.out; simp; omega) ?_; intro v2 w3 o2 g2; have B3 := Lib.hid ((HB2.out.alloc HB2.out.size _).trans ((HO2.out.alloc _).below g2)); rw [← HM2.out] at o2; have O3 := Lib.hid o2; clear o2 g2)
        go_meet
        exact ⟨O3, B3⟩
      · have hni : ¬ (0 : Int) < (n : Int) := by omega
        rw [if_neg hn0] at HM2
        go_wp2_with fail
        go_meet
        exact ⟨Lib.hid (by rw [HM2.out]; exact HO.out), HB⟩
    case rest =>
      clear HO HB
      obtain ⟨HO, HB⟩ := hcut
      have HC := Lib.hid (join_any HO.out (by have := HL2.out; omega) (by have := HR.out; omega))
      obtain ⟨J, hJ⟩ : ∃ J, J = jnT L2 := ⟨_, rfl⟩
      rw [← hJ] at HC HE HR
      have hl1 : ¬ 9223372036854775807 < 1 + J.size := by have := HR.out; omega
      have hl2 : ¬ 9223372036854775807 < 1 + J.size + 1 := by have := HR.out; omega
      clear hJ
      go_wp2_with fail
      refine HC.out.mono ?_
      rintro e w1 ⟨rfl, b1⟩
      have HB1 := Lib.hid (HB.out.trans (b1.mono HB.out.size))
      clear b1
      go_wp2_with fail
      go_ret
      exact ⟨by rw [← HE.out] <;> rfl, HB1.out⟩
end Go.Proofs.YtolegmlfmlfbhaaDoor
/- Layer 31, ServeWrites: how large the errors are. -/
namespace Go.Proofs.YtolegmlfmlfbhaaDoor
open Go.RowKit Go.Maps
set_option maxRecDepth 20000 in
theorem rsame_nil (a : Option Addr) (n cap : Nat) (w : World) : Calls Tryd.prog 5 #[.slice a n cap, .slice none 0 0] w fun e w' => e = .returned (.bool (decide ((n : Int) = 0))) ∧ w' = w := by
  rcases Nat.eq_zero_or_pos n with h0 | h0
  · subst h0
    go_enter Tryd.func5, Tryd.ntmps5
    go_wp2_with fail
    refine wp_loop_rounds 1 ?_
    rw [rounds_succ]
    go_wp2_with fail
    go_ret
    exact ⟨rfl, rfl⟩
  · have h1 : ((n : Int) != 0) = true := by simp; omega
    have h2 : decide ((n : Int) = 0) = false := by simp; omega
    rw [h2]
    go_enter Tryd.func5, Tryd.ntmps5
    go_wp2_with fail
    go_ret
    exact ⟨rfl, rfl⟩
/-- What the statement lets go by of an error. -/
def okF (x : FtR) : Prop := x.np ≤ 20 ∧ x.code.size + x.dir.size ≤ 3000 ∧ ∀ k, k < x.np → (x.st k).nm.size ≤ 3000
end Go.Proofs.YtolegmlfmlfbhaaDoor

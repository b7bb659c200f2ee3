import Derived.Test.YtfphejndbnmfeaaDoorD11
namespace Go.Proofs.YtfphejndbnmfeaaDoor
open Go.RowKit

theorem text_bad (s n : Int) (w : World) (hm : may s n = false) :
    Calls Tryd.prog 15 #[.agg #[.int .i64 s, .int .i64 n]] w fun e w' => e = .returned (.tuple #[.string ⟨#[]⟩, .int .i64 120]) ∧ Below w.heap.size w w' := by
  have HD := Lib.hid (fun W => date_bad s n W hm)
  clear hm
  go_enter Tryd.func15, Tryd.ntmps15
  go_wp2_with fail
  refine (HD.out _).mono ?_
  rintro e w1 ⟨rfl, b1⟩
  have B1 : Hid (Below w.heap.size w w1) := Lib.hid (((Below.refl _ w).alloc (Nat.le_refl _) _).trans (b1.mono (by simp)))
  clear b1
  go_wp2_with fail
  go_ret2
  exact ⟨rfl, B1.out⟩
theorem trim_snoc (l : List UInt8) : Lib.trimRightB (l ++ [48]) 48 = Lib.trimRightB l 48 := by
  unfold Lib.trimRightB
  rw [List.reverse_append, List.reverse_singleton, List.singleton_append, List.dropWhile_cons_of_pos (by decide)]
theorem trim_stop (l : List UInt8) (c : UInt8) (h : c ≠ 48) : Lib.trimRightB (l ++ [c]) 48 = l ++ [c] := by
  unfold Lib.trimRightB
  rw [List.reverse_append, List.reverse_singleton, List.singleton_append, List.dropWhile_cons_of_neg (by simpa using h)]
  simp
theorem last_split (f : ByteArray) (q : Nat) (h : f.size = q + 1) (hq : q < f.size) : f.data.toList = (f.extract 0 q).data.toList ++ [f[q]] := by
  have e := Lib.extract_upto f q
  rw [e]
  have hl : f.data.toList.length = q + 1 := h
  have hq' : q < f.data.toList.length := by omega
  have : f.data.toList = f.data.toList.take (q + 1) := by rw [List.take_of_length_le (by omega)]
  conv => lhs; rw [this]
  rw [List.take_succ_eq_append_getElem hq']
  rfl
theorem str_eq (x y : ByteArray) : (x.toList == y.toList) = decide (x = y) := by
  rw [ByteArray.toList_eq, ByteArray.toList_eq, Bool.eq_iff_iff]
  simp only [beq_iff_eq, decide_eq_true_eq]
  exact ⟨fun h => ByteArray.ext (Array.toList_inj.1 h), fun h => by rw [h]⟩
theorem nonempty_list {f : ByteArray} (h : 0 < f.size) : f.toList.isEmpty = false := by
  rw [ByteArray.toList_eq]
  have h2 : 0 < f.data.toList.length := h
  cases he : f.data.toList with
  | nil => rw [he] at h2; cases h2
  | cons a l => rfl
set_option maxRecDepth 10000 in
theorem of_any (S n : Nat) (w : World) (hm : may S n = true) :
    Calls Tryd.prog 50 #[.agg #[.int .i64 S, .int .i64 n]] w fun e w' => (∃ s : ByteArray, e = .returned (.string s) ∧ TextOf S n s.data.toList) ∧ Below w.heap.size w w' := by
  obtain ⟨-, hS, -, hn⟩ := (may_iff _ _).1 hm
  clear hm
  go_enter Tryd.func50, Tryd.ntmps50
  go_wp2_with fail
  obtain ⟨w0, hw0⟩ : ∃ w0, w0 = w.alloc (.cells #[.int .i64 S, .int .i64 n] 23) := ⟨_, rfl⟩
  have hc0 : w0.cell? ⟨w.heap.size, 0, none⟩ = some (.int .i64 S) := by rw [hw0]; simp only [World.cell?, heap_alloc_new]; rfl
  have hc1 : w0.cell? ⟨w.heap.size, 1, none⟩ = some (.int .i64 n) := by rw [hw0]; simp only [World.cell?, heap_alloc_new]; rfl
  have hsz : w.heap.size < w0.heap.size := by rw [hw0]; simp
  have HSZ := Lib.hid hsz
  have B0 : Hid (Below w.heap.size w w0) := Lib.hid (by rw [hw0]; exact (Below.refl _ w).alloc (Nat.le_refl _) _)
  have HC0 := Lib.hid hc0
  have HC1 := Lib.hid hc1
  rw [← hw0]
  clear hw0 hc0 hc1 hsz
  refine (on_any S n w0 (by omega)).mono ?_
  rintro e w1 ⟨⟨y, r, m, d, rfl, hY, hM⟩, b1⟩
  have HY := Lib.hid hY
  have HMo := Lib.hid hM
  have hy : y < 10000 := year_lt (by have := hY.1; omega) (show S / 86400 ≤ 3652424 by omega)
  have hm12 : m < 12 := month_lt hY.2 (by have := hM.1; omega)
  have hd31 : d < 31 := by have := (dim_two y m hm12).2; have := hM.2; omega
  have C1 := Lib.hid b1
  have hc0 : w1.cell? ⟨w.heap.size, 0, none⟩ = some (.int .i64 S) := by
    rw [C1.out.cell (p := ⟨w.heap.size, 0, none⟩) HSZ.out]; exact HC0.out
  clear b1 hY hM
  obtain ⟨t, ht⟩ : ∃ t, t = S % 86400 := ⟨_, rfl⟩
  have gt : (S : Int) % 86400 = t := by omega
  have ht2 : t < 86400 := by omega
  obtain ⟨hh, hhe⟩ : ∃ h, h = t / 3600 := ⟨_, rfl⟩
  obtain ⟨mi, hmi⟩ : ∃ h, h = t / 60 % 60 := ⟨_, rfl⟩
  obtain ⟨se, hse⟩ : ∃ h, h = t % 60 := ⟨_, rfl⟩
  have q1 : (t : Int) / 3600 = hh := by omega
  have q2 : (t : Int) / 60 % 60 = mi := by omega
  have q3 : (t : Int) % 60 = se := by omega
  have hh2 : hh < 24 := by omega
  have mi2 : mi < 60 := by omega
  have se2 : se < 60 := by omega
  have HTE := Lib.hid ht
  have HHE := Lib.hid hhe
  have HMI := Lib.hid hmi
  have HSE := Lib.hid hse
  obtain ⟨s0, hs0, hl0, hz0⟩ := pack (dgs 4 (y))
  rw [dgs_length] at hz0
  have HL0 := Lib.hid hl0
  have D0 := Lib.hid (fun W => rdigits_any (y) 4 W (by omega) (by omega))
  rw [← hs0] at D0
  have z0 : s0.size ≤ 4 := by omega
  obtain ⟨s1, hs1, hl1, hz1⟩ := pack (dgs 2 (m + 1))
  rw [dgs_length] at hz1
  have HL1 := Lib.hid hl1
  have D1 := Lib.hid (fun W => rdigits_any (m + 1) 2 W (by omega) (by omega))
  rw [← hs1] at D1
  have z1 : s1.size ≤ 2 := by omega
  obtain ⟨s2, hs2, hl2, hz2⟩ := pack (dgs 2 (d + 1))
  rw [dgs_length] at hz2
  have HL2 := Lib.hid hl2
  have D2 := Lib.hid (fun W => rdigits_any (d + 1) 2 W (by omega) (by omega))
  rw [← hs2] at D2
  have z2 : s2.size ≤ 2 := by omega
  obtain ⟨s3, hs3, hl3, hz3⟩ := pack (dgs 2 (hh))
  rw [dgs_length] at hz3
  have HL3 := Lib.hid hl3
  have D3 := Lib.hid (fun W => rdigits_any (hh) 2 W (by omega) (by omega))
  rw [← hs3] at D3
  have z3 : s3.size ≤ 2 := by omega
  obtain ⟨s4, hs4, hl4, hz4⟩ := pack (dgs 2 (mi))
  rw [dgs_length] at hz4
  have HL4 := Lib.hid hl4
  have D4 := Lib.hid (fun W => rdigits_any (mi) 2 W (by omega) (by omega))
  rw [← hs4] at D4
  have z4 : s4.size ≤ 2 := by omega
  obtain ⟨s5, hs5, hl5, hz5⟩ := pack (dgs 2 (se))
  rw [dgs_length] at hz5
  have HL5 := Lib.hid hl5
  have D5 := Lib.hid (fun W => rdigits_any (se) 2 W (by omega) (by omega))
  rw [← hs5] at D5
  have z5 : s5.size ≤ 2 := by omega
  obtain ⟨sn, hsn, hln, hzn⟩ := pack (dgs 9 n)
  have Dn := Lib.hid (fun W => rdigits_any n 9 W (by omega) (by omega))
  rw [← hsn] at Dn
  rw [dgs_length] at hzn
  have zn : sn.size ≤ 9 := by omega
  have HLN := Lib.hid hln
  clear hsn hln hzn ht hhe hmi hse hs0 hs1 hs2 hs3 hs4 hs5 hl0 hl1 hl2 hl3 hl4 hl5 hz0 hz1 hz2 hz3 hz4 hz5
  go_wp2_with fail
  refine (D0.out _).mono ?_
  rintro e w2 ⟨rfl, b⟩
  have C2 : Hid (Below w0.heap.size w0 w2) := Lib.hid (C1.out.trans (b.mono C1.out.size))
  clear b
  go_wp2_with fail
  refine (D1.out _).mono ?_
  rintro e w3 ⟨rfl, b⟩
  have C3 : Hid (Below w0.heap.size w0 w3) := Lib.hid (C2.out.trans (b.mono C2.out.size))
  clear b
  go_wp2_with fail
  refine (D2.out _).mono ?_
  rintro e w4 ⟨rfl, b⟩
  have C4 : Hid (Below w0.heap.size w0 w4) := Lib.hid (C3.out.trans (b.mono C3.out.size))
  clear b
  go_wp2_with fail
  refine (D3.out _).mono ?_
  rintro e w5 ⟨rfl, b⟩
  have C5 : Hid (Below w0.heap.size w0 w5) := Lib.hid (C4.out.trans (b.mono C4.out.size))
  clear b
  go_wp2_with fail
  refine (D4.out _).mono ?_
  rintro e w6 ⟨rfl, b⟩
  have C6 : Hid (Below w0.heap.size w0 w6) := Lib.hid (C5.out.trans (b.mono C5.out.size))
  clear b
  go_wp2_with fail
  refine (D5.out _).mono ?_
  rintro e w7 ⟨rfl, b⟩
  have C7 : Hid (Below w0.heap.size w0 w7) := Lib.hid (C6.out.trans (b.mono C6.out.size))
  clear b
  have hc1 : w7.cell? ⟨w.heap.size, 1, none⟩ = some (.int .i64 n) := by
    rw [C7.out.cell (p := ⟨w.heap.size, 1, none⟩) HSZ.out]; exact HC1.out
  have HEND : Hid (∀ W, Below w0.heap.size w0 W → Below w.heap.size w W) := Lib.hid (fun W hW => B0.out.trans (hW.mono B0.out.size))
  go_wp2_with fail
  refine (Dn.out _).mono ?_
  rintro e w8 ⟨rfl, b⟩
  have C8 : Hid (Below w0.heap.size w0 w8) := Lib.hid (C7.out.trans (b.mono C7.out.size))
  clear b hc0 hc1 gt q1 q2 q3
  go_wp2_with fail
  go_loop [8] (fun fv => ∃ f : ByteArray, fv = .string f ∧ f.size ≤ 9 ∧ Lib.trimRightB f.data.toList 48 = Lib.trimRightB (dgs 9 n) 48) (fun fv => Lib.strSize fv)
  case atStart => exact ⟨sn, rfl, zn, by rw [HLN.out]⟩
  case round =>
    obtain ⟨f, rfl, hf9, htr⟩ := hrel
    have HTR := Lib.hid htr
    clear htr
    by_cases h0 : f.size = 0
    · obtain rfl : f = ⟨#[]⟩ := by
        apply ByteArray.ext
        exact Array.eq_empty_of_size_eq_zero h0
      have HZ : Hid (n = 0) := Lib.hid (by
        by_cases hn0 : n = 0
        · exact hn0
        · exact absurd HTR.out.symm (trim_dgs_ne 9 n hn0 (by omega)))
      clear h0
      go_wp2_with fail
      go_ret
      refine ⟨⟨_, rfl, y, r, m, d, HY.out, HMo.out, ?_⟩, HEND.out _ C8.out⟩
      rw [← HTE.out, HZ.out]
      exact join_z HL0.out HL1.out HL2.out HL3.out HL4.out HL5.out HHE.out HMI.out HSE.out
    · obtain ⟨q, hq⟩ : ∃ q, f.size = q + 1 := ⟨f.size - 1, by omega⟩
      have hq9 : q < 9 := by omega
      have hqf : q < f.size := by omega
      have HSP := Lib.hid (last_split f q hq hqf)
      obtain ⟨c, hc⟩ : ∃ c, c = f[q] := ⟨_, rfl⟩
      rw [← hc] at HSP
      have hce : ∀ h : q < f.size, f[q] = c := fun h => hc.symm
      have hemp : f.toList.isEmpty = false := nonempty_list (by omega)
      have hemp2 : (!f.toList.isEmpty) = true := by rw [hemp]; rfl
      clear h0 hc
      by_cases h48 : c = 48
      · subst h48
        have HEX : Hid ((f.extract 0 q).size ≤ 8) := Lib.hid (by rw [ByteArray.size_extract]; omega)
        have HEX2 : Hid ((f.extract 0 q).size < f.size) := Lib.hid (by rw [ByteArray.size_extract]; omega)
        obtain ⟨g, hg⟩ : ∃ g, g = f.extract 0 q := ⟨_, rfl⟩
        rw [← hg] at HEX HEX2 HSP
        have hg' : f.extract 0 q = g := hg.symm
        clear hg
        go_wp2_with fail
        go_round
        case rel => exact ⟨g, rfl, by have := HEX.out; omega, by rw [← HTR.out, HSP.out, trim_snoc]⟩
        case measure => show g.size < f.size; have := HEX2.out; omega
      · have h48' : ((c.toNat : Int) == 48) = false := by
          have : ¬ (c.toNat : Int) = 48 := fun h => h48 (UInt8.toNat_inj.1 (show c.toNat = 48 by omega))
          simpa using this
        have HF : Hid (f.data.toList = Lib.trimRightB (dgs 9 n) 48) := Lib.hid (by rw [← HTR.out, HSP.out, trim_stop _ _ h48])
        have HN0 : Hid (¬ n = 0) := Lib.hid (fun h => by
          have := HF.out
          rw [h, trim_zero] at this
          have h2 : f.data.toList.length = q + 1 := hq
          rw [this] at h2; simp at h2)
        clear h48
        go_wp2_with fail
        go_ret
        refine ⟨⟨_, rfl, y, r, m, d, HY.out, HMo.out, ?_⟩, HEND.out _ C8.out⟩
        rw [← HTE.out]
        exact join_n HL0.out HL1.out HL2.out HL3.out HL4.out HL5.out HHE.out HMI.out HSE.out HF.out HN0.out
end Go.Proofs.YtfphejndbnmfeaaDoor

import Derived.Test.YtfphejndbnmfeaaDoorD10
import Derived.Lib.SmallJoins
namespace Go.Proofs.YtfphejndbnmfeaaDoor
open Go.RowKit

theorem g10 : Tryd.prog.globalNamed "internal/strconv.uint64pow10" = some 3 := by kernel_rfl
theorem P10.stay {w w1 : World} {B : Nat} (h : P10 w) (hb : Below B w w1) (hB : w.heap.size ≤ B) : P10 w1 := Go.Joins.tab_stays g10 h hb hB
def TextOf (S n : Nat) (L : List UInt8) : Prop := ∃ y r m d : Nat, OnYear (S / 86400) y r ∧ OnMonth y r m d ∧ L = dtext y (m + 1) (d + 1) (S % 86400) n
theorem TextOf.uniq {S n : Nat} {L M : List UInt8} (h : TextOf S n L) (h' : TextOf S n M) : L = M := by
  obtain ⟨y, r, m, d, h1, h2, h3⟩ := h
  obtain ⟨y', r', m', d', g1, g2, g3⟩ := h'
  obtain ⟨rfl, rfl⟩ := year_uniq h1 g1
  obtain ⟨rfl, rfl⟩ := month_uniq h2 g2
  rw [h3, g3]
theorem pack (l : List UInt8) : ∃ s : ByteArray, s = ⟨l.toArray⟩ ∧ s.data.toList = l ∧ s.size = l.length := ⟨_, rfl, rfl, Lib.size_mk l⟩
theorem trim_le (l : List UInt8) : (Lib.trimRightB l 48).length ≤ l.length := by
  obtain ⟨j, hj⟩ := trim_split l
  have := congrArg List.length hj
  simp at this; omega
theorem app_list (a b : ByteArray) : (a ++ b).data.toList = a.data.toList ++ b.data.toList := by rw [ByteArray.data_append]; simp
theorem join_z {s0 s1 s2 s3 s4 s5 : ByteArray} {y m d t a b c : Nat} (h0 : s0.data.toList = dgs 4 y) (h1 : s1.data.toList = dgs 2 m) (h2 : s2.data.toList = dgs 2 d) (h3 : s3.data.toList = dgs 2 a) (h4 : s4.data.toList = dgs 2 b) (h5 : s5.data.toList = dgs 2 c) (ha : a = t / 3600) (hb : b = t / 60 % 60) (hc : c = t % 60) :
    (s0 ++ ⟨#[45]⟩ ++ s1 ++ ⟨#[45]⟩ ++ s2 ++ ⟨#[84]⟩ ++ s3 ++ ⟨#[58]⟩ ++ s4 ++ ⟨#[58]⟩ ++ s5 ++ ⟨#[90]⟩ : ByteArray).data.toList = dtext y m d t 0 := by
  simp only [app_list]
  rw [h0, h1, h2, h3, h4, h5, ha, hb, hc]
  unfold dtext frac
  rw [if_pos rfl, List.append_nil]
theorem join_n {s0 s1 s2 s3 s4 s5 sf : ByteArray} {y m d t a b c n : Nat} (h0 : s0.data.toList = dgs 4 y) (h1 : s1.data.toList = dgs 2 m) (h2 : s2.data.toList = dgs 2 d) (h3 : s3.data.toList = dgs 2 a) (h4 : s4.data.toList = dgs 2 b) (h5 : s5.data.toList = dgs 2 c) (ha : a = t / 3600) (hb : b = t / 60 % 60) (hc : c = t % 60) (hf : sf.data.toList = Lib.trimRightB (dgs 9 n) 48) (hn : ¬ n = 0) :
    (s0 ++ ⟨#[45]⟩ ++ s1 ++ ⟨#[45]⟩ ++ s2 ++ ⟨#[84]⟩ ++ s3 ++ ⟨#[58]⟩ ++ s4 ++ ⟨#[58]⟩ ++ s5 ++ (⟨#[46]⟩ ++ sf) ++ ⟨#[90]⟩ : ByteArray).data.toList = dtext y m d t n := by
  simp only [app_list]
  rw [h0, h1, h2, h3, h4, h5, ha, hb, hc, hf]
  unfold dtext frac
  rw [if_neg hn]
theorem ret_two_tmp {fn : Func} {t u : Tmp} (h : fn.results = #[.tmp t, .tmp u]) (tmps : Array Value) (P : Program) (w : World) :
    (results fn tmps).run P w = .ok (.tuple #[tmps.getD t undef, tmps.getD u undef]) w := by
  simp [results, h]
set_option maxRecDepth 10000 in
theorem text_ok (S n : Nat) (w : World) (hT : MD w) (hP : P10 w) (hm : may S n = true) :
    Calls Tryd.prog 15 #[.agg #[.int .i64 S, .int .i64 n]] w fun e w' => (∃ s : ByteArray, e = .returned (.tuple #[.string s, .int .i64 0]) ∧ TextOf S n s.data.toList) ∧ Below w.heap.size w w' := by
  obtain ⟨-, hS, -, hn⟩ := (may_iff _ _).1 hm
  have HM := Lib.hid hm
  have HT := Lib.hid hT
  have HP := Lib.hid hP
  have H1 : Hid (1 < w.heap.size) := Lib.hid hT.1
  clear hm hT hP
  go_enter Tryd.func15, Tryd.ntmps15
  go_wp2_with fail
  obtain ⟨w0, hw0⟩ : ∃ w0, w0 = w.alloc (.cells #[.int .i64 S, .int .i64 n] 23) := ⟨_, rfl⟩
  have hc0 : w0.cell? ⟨w.heap.size, 0, none⟩ = some (.int .i64 S) := by rw [hw0]; simp only [World.cell?, heap_alloc_new]; rfl
  have hc1 : w0.cell? ⟨w.heap.size, 1, none⟩ = some (.int .i64 n) := by rw [hw0]; simp only [World.cell?, heap_alloc_new]; rfl
  have hsz : w.heap.size < w0.heap.size := by rw [hw0]; simp
  have HSZ := Lib.hid hsz
  have B0 : Hid (Below w.heap.size w w0) := Lib.hid (by rw [hw0]; exact (Below.refl _ w).alloc (Nat.le_refl _) _)
  have HT0 : Hid (MD w0) := Lib.hid (HT.out.below B0.out H1.out)
  have HP0 : Hid (P10 w0) := Lib.hid (HP.out.stay B0.out (Nat.le_refl _))
  have HC0 := Lib.hid hc0
  have HC1 := Lib.hid hc1
  rw [← hw0]
  clear hw0 hc0 hc1 hsz
  refine (date_ok S n w0 HT0.out HM.out).mono ?_
  rintro e w1 ⟨⟨y, r, m, d, rfl, hY, hM⟩, b1⟩
  have HY := Lib.hid hY
  have HMo := Lib.hid hM
  have hy : y < 10000 := year_lt (by have := hY.1; omega) (show S / 86400 ≤ 3652424 by omega)
  have hm12 : m < 12 := month_lt hY.2 (by have := hM.1; omega)
  have hd31 : d < 31 := by have := (dim_two y m hm12).2; have := hM.2; omega
  have C1 := Lib.hid b1
  have hc0 : w1.cell? ⟨w.heap.size, 0, none⟩ = some (.int .i64 S) := by
    rw [C1.out.cell (p := ⟨w.heap.size, 0, none⟩) HSZ.out]; exact HC0.out
  have HPW : Hid (∀ W, Below w0.heap.size w0 W → P10 W) := Lib.hid (fun W hW => HP0.out.stay hW (Nat.le_refl _))
  clear b1 hY hM
  obtain ⟨t, ht⟩ : ∃ t, t = S % 86400 := ⟨_, rfl⟩
  have gt : (S : Int) % 86400 = t := by omega
  have ht2 : t < 86400 := by omega
  obtain ⟨hh, hhe⟩ : ∃ h, h = t / 3600 := ⟨_, rfl⟩
  obtain ⟨mi, hmi⟩ : ∃ h, h = t / 60 % 60 := ⟨_, rfl⟩
  obtain ⟨se, hse⟩ : ∃ h, h = t % 60 := ⟨_, rfl⟩
  have q1 : (t : Int) / 3600 = hh := by omega
  have q2 : (t : Int) / 60 % 60 = mi := by omega
  have q3 : (t : Int) % 60 = se := by omega
  have hh2 : hh < 24 := by omega
  have mi2 : mi < 60 := by omega
  have se2 : se < 60 := by omega
  have HTE := Lib.hid ht
  have HHE := Lib.hid hhe
  have HMI := Lib.hid hmi
  have HSE := Lib.hid hse
  obtain ⟨s0, hs0, hl0, hz0⟩ := pack (dgs 4 (y))
  rw [dgs_length] at hz0
  have HL0 := Lib.hid hl0
  have D0 := Lib.hid (fun W (h : Below w0.heap.size w0 W) => digits_any (y) 3 W (by omega) (by omega) (HPW.out W h))
  rw [← hs0] at D0
  have z0 : s0.size ≤ 4 := by omega
  obtain ⟨s1, hs1, hl1, hz1⟩ := pack (dgs 2 (m + 1))
  rw [dgs_length] at hz1
  have HL1 := Lib.hid hl1
  have D1 := Lib.hid (fun W (h : Below w0.heap.size w0 W) => digits_any (m + 1) 1 W (by omega) (by omega) (HPW.out W h))
  rw [← hs1] at D1
  have z1 : s1.size ≤ 2 := by omega
  obtain ⟨s2, hs2, hl2, hz2⟩ := pack (dgs 2 (d + 1))
  rw [dgs_length] at hz2
  have HL2 := Lib.hid hl2
  have D2 := Lib.hid (fun W (h : Below w0.heap.size w0 W) => digits_any (d + 1) 1 W (by omega) (by omega) (HPW.out W h))
  rw [← hs2] at D2
  have z2 : s2.size ≤ 2 := by omega
  obtain ⟨s3, hs3, hl3, hz3⟩ := pack (dgs 2 (hh))
  rw [dgs_length] at hz3
  have HL3 := Lib.hid hl3
  have D3 := Lib.hid (fun W (h : Below w0.heap.size w0 W) => digits_any (hh) 1 W (by omega) (by omega) (HPW.out W h))
  rw [← hs3] at D3
  have z3 : s3.size ≤ 2 := by omega
  obtain ⟨s4, hs4, hl4, hz4⟩ := pack (dgs 2 (mi))
  rw [dgs_length] at hz4
  have HL4 := Lib.hid hl4
  have D4 := Lib.hid (fun W (h : Below w0.heap.size w0 W) => digits_any (mi) 1 W (by omega) (by omega) (HPW.out W h))
  rw [← hs4] at D4
  have z4 : s4.size ≤ 2 := by omega
  obtain ⟨s5, hs5, hl5, hz5⟩ := pack (dgs 2 (se))
  rw [dgs_length] at hz5
  have HL5 := Lib.hid hl5
  have D5 := Lib.hid (fun W (h : Below w0.heap.size w0 W) => digits_any (se) 1 W (by omega) (by omega) (HPW.out W h))
  rw [← hs5] at D5
  have z5 : s5.size ≤ 2 := by omega
  obtain ⟨sn, hsn, hln, hzn⟩ := pack (dgs 9 n)
  obtain ⟨sf, hsf, hlf, hzf⟩ := pack (Lib.trimRightB (dgs 9 n) 48)
  have HLF := Lib.hid hlf
  have Dn := Lib.hid (fun W (h : Below w0.heap.size w0 W) => digits_any n 8 W (by omega) (by omega) (HPW.out W h))
  rw [← hsn] at Dn
  have Df := Lib.hid (fun W => Tryd.strings_TrimRight_one sn 48 (by decide) W (by rw [hzn, dgs_length]; omega))
  rw [hln, ← hsf] at Df
  have zf : sf.size ≤ 9 := by rw [hzf]; have := trim_le (dgs 9 n); rw [dgs_length] at this; exact this
  clear hsn hln hzn hsf hlf hzf ht hhe hmi hse hs0 hs1 hs2 hs3 hs4 hs5 hl0 hl1 hl2 hl3 hl4 hl5 hz0 hz1 hz2 hz3 hz4 hz5
  go_wp2_with fail
  refine (D0.out _ C1.out).mono ?_
  rintro e w2 ⟨rfl, b⟩
  have C2 : Hid (Below w0.heap.size w0 w2) := Lib.hid (C1.out.trans (b.mono C1.out.size))
  clear b
  go_wp2_with fail
  refine (D1.out _ C2.out).mono ?_
  rintro e w3 ⟨rfl, b⟩
  have C3 : Hid (Below w0.heap.size w0 w3) := Lib.hid (C2.out.trans (b.mono C2.out.size))
  clear b
  go_wp2_with fail
  refine (D2.out _ C3.out).mono ?_
  rintro e w4 ⟨rfl, b⟩
  have C4 : Hid (Below w0.heap.size w0 w4) := Lib.hid (C3.out.trans (b.mono C3.out.size))
  clear b
  go_wp2_with fail
  refine (D3.out _ C4.out).mono ?_
  rintro e w5 ⟨rfl, b⟩
  have C5 : Hid (Below w0.heap.size w0 w5) := Lib.hid (C4.out.trans (b.mono C4.out.size))
  clear b
  go_wp2_with fail
  refine (D4.out _ C5.out).mono ?_
  rintro e w6 ⟨rfl, b⟩
  have C6 : Hid (Below w0.heap.size w0 w6) := Lib.hid (C5.out.trans (b.mono C5.out.size))
  clear b
  go_wp2_with fail
  refine (D5.out _ C6.out).mono ?_
  rintro e w7 ⟨rfl, b⟩
  have C7 : Hid (Below w0.heap.size w0 w7) := Lib.hid (C6.out.trans (b.mono C6.out.size))
  clear b
  have hc1 : w7.cell? ⟨w.heap.size, 1, none⟩ = some (.int .i64 n) := by
    rw [C7.out.cell (p := ⟨w.heap.size, 1, none⟩) HSZ.out]; exact HC1.out
  have HEND : Hid (∀ W, Below w0.heap.size w0 W → Below w.heap.size w W) := Lib.hid (fun W hW => B0.out.trans (hW.mono B0.out.size))
  by_cases h0 : n = 0
  · subst h0
    clear HC1
    go_wp2_with fail
    go_ret2
    refine ⟨⟨_, rfl, y, r, m, d, HY.out, HMo.out, ?_⟩, HEND.out _ C7.out⟩
    rw [← HTE.out]
    exact join_z HL0.out HL1.out HL2.out HL3.out HL4.out HL5.out HHE.out HMI.out HSE.out
  · have hn0 : ((n : Int) == 0) = false := by simp; omega
    have hn1 : ((n : Int) != 0) = true := by simp; omega
    have HN0 := Lib.hid h0
    clear h0
    go_wp2_with fail
    refine (Dn.out _ C7.out).mono ?_
    rintro e w8 ⟨rfl, b⟩
    have C8 : Hid (Below w0.heap.size w0 w8) := Lib.hid (C7.out.trans (b.mono C7.out.size))
    clear b
    go_wp2_with fail
    refine (Df.out _).mono ?_
    rintro e w9 ⟨rfl, rfl⟩
    go_wp2_with fail
    go_ret2
    refine ⟨⟨_, rfl, y, r, m, d, HY.out, HMo.out, ?_⟩, HEND.out _ C8.out⟩
    rw [← HTE.out]
    exact join_n HL0.out HL1.out HL2.out HL3.out HL4.out HL5.out HHE.out HMI.out HSE.out HLF.out HN0.out
end Go.Proofs.YtfphejndbnmfeaaDoor

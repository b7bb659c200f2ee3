/- Layer 6: the document's sets of classes (Set). -/
import Derived.Test.YtlngdohkoeognaaBH
import Derived.Test.YtlngdohkoeognaaB9
import Derived.IntWalk
namespace Go.Proofs.Ytlngdohkoeognaa
open Go.RowKit Go.Maps
/-- Where class i ends. -/
def endP (l : List Int) (i : Nat) : Int := if i + 1 < l.length then gI l (i + 1) - 1 else 1114111
/-- The classes ahead, put together; the last range first. -/
def acA (l : List Int) (f : Int → Bool) : Nat → List Rg
  | 0 => []
  | i + 1 => clsP (acA l f i) (gI l i) (endP l i) (f (gI l i))
theorem dropI {l : List Int} {k : Nat} (h : k < l.length) : l.drop k = gI l k :: l.drop (k + 1) := by
  rw [List.drop_eq_getElem_cons h]
  have g := gI_get h
  rw [List.getElem?_eq_getElem h] at g
  simp only [Option.some.injEq] at g
  rw [g]
theorem setF_step (l : List Int) (f : Int → Bool) : ∀ i, i ≤ l.length → setF f (acA l f i) (l.drop i) = setF f [] l
  | 0, _ => rfl
  | i + 1, h => by
    rw [← setF_step l f i (by omega)]
    rw [dropI (k := i) (by omega)]
    by_cases h1 : i + 1 < l.length
    · rw [dropI h1]
      show setF f (clsP (acA l f i) (gI l i) (endP l i) (f (gI l i))) _ = setF f (clsP (acA l f i) (gI l i) (gI l (i + 1) - 1) (f (gI l i))) _
      rw [show endP l i = gI l (i + 1) - 1 from if_pos h1]
    · rw [List.drop_eq_nil_of_le (by omega)]
      show clsP (acA l f i) (gI l i) (endP l i) (f (gI l i)) = clsP (acA l f i) (gI l i) 1114111 (f (gI l i))
      rw [show endP l i = 1114111 from if_neg h1]
theorem setF_all (l : List Int) (f : Int → Bool) : acA l f l.length = setF f [] l := by
  have h := setF_step l f l.length (Nat.le_refl _)
  rw [List.drop_length] at h
  exact h
theorem cls_len (acc : List Rg) (p e : Int) (b : Bool) : (clsP acc p e b).length ≤ acc.length + 1 := by
  unfold clsP
  cases b with
  | false => simp
  | true =>
    cases acc with
    | nil => simp
    | cons m t => simp only [if_true]; split <;> simp
theorem up_at {l : List Int} (h : l.Pairwise (· < ·)) {i : Nat} (hi : i + 1 < l.length) : gI l i < gI l (i + 1) := by
  have hp := List.pairwise_iff_getElem.1 h i (i + 1) (by omega) hi (by omega)
  have g1 := gI_get (L := l) (i := i) (by omega)
  have g2 := gI_get (L := l) (i := i + 1) hi
  rw [List.getElem?_eq_getElem (by omega)] at g1
  rw [List.getElem?_eq_getElem hi] at g2
  simp only [Option.some.injEq] at g1 g2
  rw [g1, g2] at hp
  exact hp
theorem acA_ok {l : List Int} (f : Int → Bool) (hp : l.Pairwise (· < ·)) (hr : ∀ x ∈ l, 0 ≤ x ∧ x ≤ 1114111) : ∀ i, i ≤ l.length → CnR (acA l f i) ∧ (∀ m, (acA l f i).head? = some m → i < l.length → m.2 < gI l i) ∧ (acA l f i).length ≤ i
  | 0, _ => ⟨trivial, (fun m h _ => by cases h), Nat.le_refl _⟩
  | i + 1, h => by
    obtain ⟨a, b, c⟩ := acA_ok f hp hr i (by omega)
    have hlt : i < l.length := h
    have h0 := hr _ (gI_mem hlt)
    have he : gI l i ≤ endP l i ∧ endP l i ≤ 1114111 := by
      unfold endP
      split
      · rename_i h1
        have := up_at hp h1
        have := hr _ (gI_mem h1)
        omega
      · omega
    obtain ⟨k1, k2, _⟩ := cls_ok (f (gI l i)) a h0.1 he.1 he.2 (fun m hm => b m hm hlt)
    refine ⟨k1, fun m hm hi => ?_, ?_⟩
    · have := k2 m hm
      rw [show endP l i = gI l (i + 1) - 1 from if_pos hi] at this
      omega
    · have := cls_len (acA l f i) (gI l i) (endP l i) (f (gI l i))
      show (clsP (acA l f i) (gI l i) (endP l i) (f (gI l i))).length ≤ i + 1
      omega
theorem clsP_no (acc : List Rg) (p e : Int) : clsP acc p e false = acc := rfl
theorem clsP_nil (p e : Int) : clsP [] p e true = [(p, e)] := rfl
theorem clsP_eq {m : Rg} {t : List Rg} {p e : Int} (h : m.2 = p - 1) : clsP (m :: t) p e true = (m.1, e) :: t := if_pos h
theorem clsP_ne {m : Rg} {t : List Rg} {p e : Int} (h : ¬ m.2 = p - 1) : clsP (m :: t) p e true = (p, e) :: m :: t := if_neg h
set_option maxRecDepth 20000 in
set_option maxHeartbeats 2000000 in
theorem rset_any (a : Option Addr) (cp g og cg : Nat) (l : List Int) (f : Int → Bool) (w : World) (hv : IV w a l) (hbv : ∀ j, j < l.length → w.cell? ⟨g, og + j, none⟩ = some (.bool (f (gI l j)))) (hg : g < w.heap.size) (hp : l.Pairwise (· < ·)) (hr : ∀ x ∈ l, 0 ≤ x ∧ x ≤ 1114111) (hn : l.length ≤ 100000) :
    Calls Try.prog 75 #[.slice a l.length cp, .slice (some ⟨g, og, none⟩) l.length cg] w (ConcatPost w (setF f [] l).reverse) := by
  obtain ⟨i0, hi, hz0, hz1, hz2⟩ := infoR
  have HAC := Lib.hid (acA_ok f hp hr)
  have HFIN := Lib.hid (setF_all l f)
  have HRNG : Hid (∀ i, i < l.length → 0 ≤ gI l i ∧ gI l i ≤ 1114111) := Lib.hid (fun i hi => hr _ (gI_mem hi))
  obtain ⟨N, hN⟩ : ∃ N, N = l.length := ⟨_, rfl⟩
  rw [← hN] at hn HAC HRNG hbv ⊢
  have HN := Lib.hid hN
  have HV := Lib.hid hv
  have HBV := Lib.hid hbv
  have hNi : (N : Int) ≤ 100000 := by omega
  clear hv hbv hp hr hN
  go_enter Try.func75, Try.ntmps75
  go_wp2_with fail
  go_loopg [5, 6] N (fun k u v wr => ∃ (i : Nat) (z : Value), v = .int .i64 (i : Nat) ∧ i ≤ N ∧ N - i ≤ k ∧ z = u ∧ Own wr w.heap.size z (acA l f i).reverse ∧ Below w.heap.size w wr)
  case atStart => exact ⟨0, _, rfl, by omega, by omega, rfl, Own.nil _ _, Below.refl _ _⟩
  case round =>
    obtain ⟨i, z, rfl, hiN, hf, rfl, ho, hb⟩ := hrel
    have HO := Lib.hid ho
    have HB := Lib.hid hb
    have HF := Lib.hid hf
    by_cases hlt : i < N
    · have HLT := Lib.hid hlt
      obtain ⟨b, off, rfl, hbb, c0⟩ := (HV.out.below hb) i (by rw [← HN.out]; exact hlt)
      obtain ⟨p, hpp⟩ : ∃ x, x = gI l i := ⟨_, rfl⟩
      rw [← hpp] at c0
      have cb : wr.cell? ⟨g, og + i, none⟩ = some (.bool (f p)) := by rw [hpp]; exact (hb.cell (p := ⟨g, _, none⟩) hg).trans (HBV.out i hlt)
      have hp0 := HRNG.out i hlt
      rw [← hpp] at hp0
      obtain ⟨hp0, hp1⟩ := hp0
      have hlt' : (i : Int) < (N : Int) := by omega
      have hi0 : (0 : Int) ≤ (i : Int) := by omega
      have hi1 : (0 : Int) ≤ (i : Int) + 1 := by omega
      have htn : ((i : Int) + 1).toNat = i + 1 := by omega
      have hiw : IntKind.i64.wrap ((i : Int) + 1) = (i : Int) + 1 := IntWalk.i64_in _ (by omega)
      have hpw : IntKind.i64.wrap (p - 1) = p - 1 := IntWalk.i64_in _ (by omega)
      obtain ⟨ac1, ac2, ac3⟩ := HAC.out i (by omega)
      have hal : (acA l f i).length ≤ 100000 := by omega
      have ac2' : ∀ m, (acA l f i).head? = some m → m.2 < p := fun m hm => by rw [hpp]; exact ac2 m hm hlt
      have HSTEP : Hid (acA l f (i + 1) = clsP (acA l f i) p (endP l i) (f p)) := Lib.hid (by rw [hpp]; rfl)
      obtain ⟨acc, hacc⟩ : ∃ acc, acc = acA l f i := ⟨_, rfl⟩
      rw [← hacc] at ac1 ac2' hal HSTEP HO
      have HAC1 := Lib.hid ac1
      have HAC2 := Lib.hid ac2'
      have HAL := Lib.hid hal
      by_cases hl1 : i + 1 < N
      · obtain ⟨_, cq⟩ := (HV.out.below hb).at_ (i := i + 1) (by rw [← HN.out]; exact hl1)
        obtain ⟨q, hq⟩ : ∃ x, x = gI l (i + 1) := ⟨_, rfl⟩
        rw [← hq] at cq
        have cq' : wr.cell? ⟨b, off + i + 1, none⟩ = some (.int .i64 q) := cq
        have hq0 := HRNG.out (i + 1) hl1
        rw [← hq] at hq0
        obtain ⟨hq0, hq1⟩ := hq0
        have hqw : IntKind.i64.wrap (q - 1) = q - 1 := IntWalk.i64_in _ (by omega)
        have hl2 : (i : Int) + 1 < (N : Int) := by omega
        obtain ⟨e, he⟩ : ∃ e, e = q - 1 := ⟨_, rfl⟩
        have HE : Hid (endP l i = e) := Lib.hid (by rw [he, hq]; exact if_pos (by rw [← HN.out]; exact hl1))
        have hqe : q - 1 = e := he.symm
        rw [hqe] at hqw
        clear hiN hf ho hb hpp hlt hl1 hq he ac1 ac2 ac2' ac3 hal hacc hbb
        cases hfp : f p with
        | false =>
          have HX : Hid (acA l f (i + 1) = acc) := Lib.hid (by rw [HSTEP.out, hfp]; rfl)
          rw [hfp] at cb
          go_wp2_with fail
          go_roundg (gk - 1)
          case measure => have := HF.out; have := HLT.out; omega
          case rel => exact ⟨i + 1, _, by rw [show ((i + 1 : Nat) : Int) = (i : Int) + 1 by omega], by have := HLT.out; omega, by have := HF.out; omega, rfl, by rw [HX.out]; exact HO.out, HB.out⟩
        | true =>
          rw [hfp] at cb
          cases acc with
          | nil =>
            have HX : Hid (acA l f (i + 1) = [(p, e)]) := Lib.hid (by rw [HSTEP.out, hfp, HE.out]; rfl)
            obtain ⟨ad, cap, rfl, _, _, _⟩ := HO.out.view
            rw [show ([] : List Rg).reverse.length = 0 from rfl] at *
            go_upto_region 9 with fail
            go_quiet (fail)
            go_upto_region 11 with fail
            generalize hW2 : wr.drewN nq = W2
            have cp2 : W2.cell? ⟨b, off + i, none⟩ = some (.int .i64 p) := by rw [← hW2]; exact c0
            have B2 : Hid (Below w.heap.size w W2) := Lib.hid (by rw [← hW2]; exact below_drewN0 HB.out _)
            have OW2 : Hid (W2.ownsRow w.heap.size 48 2 (.slice ad 0 cap) 0 []) := Lib.hid (by rw [← hW2]; exact HO.out)
            clear hW2 c0 cb
            have HOW : Hid ((W2.alloc (.cells #[.int .i64 p, .int .i64 e] 48)).ownsRow w.heap.size 48 2 (.slice ad 0 cap) 0 []) := Lib.hid (World.ownsRow.alloc (w := W2) OW2.out _)
            have HNW : Hid (∀ j u, ([.int .i64 p, .int .i64 e] : List Value)[j]? = some u → (W2.alloc (.cells #[.int .i64 p, .int .i64 e] 48)).cell? ((⟨W2.heap.size, 0, none⟩ : Addr).add j) = some u) := Lib.hid (news_at W2 #[.int .i64 p, .int .i64 e] 48 [.int .i64 p, .int .i64 e] rfl)
            have HBW : Hid (Below w.heap.size w (W2.alloc (.cells #[.int .i64 p, .int .i64 e] 48))) := Lib.hid (B2.out.alloc B2.out.size _)
            have H1 := Lib.hid (one2 p e)
            have hsz : w.heap.size ≤ W2.heap.size := B2.out.size
            go_wp2_with (at_builtin; refine wpList_append_own _ rfl _ _ 22 rfl w.heap.size 48 i0 (.agg #[.int .i64 0, .int .i64 0]) 2 16 Try.underlying22 hi hz0 hz1 hz2 rfl (by decide) (.slice ad 0 cap) 0 [] rfl HOW.out ⟨W2.heap.size, 0, none⟩ 1 1 [.int .i64 p, .int .i64 e] rfl rfl HNW.out H1.out (by unfold maxLen; omega) (by omega) (by simp; omega) ?_; intro v1 w1 ho1 hg1 _; have HO1 := Lib.hid ho1; have HB1 := Lib.hid (grown_below HBW.out HOW.out hg1); clear ho1 hg1)
            go_roundg (gk - 1)
            case measure => have := HF.out; have := HLT.out; omega
            case rel => exact ⟨i + 1, _, by rw [show ((i + 1 : Nat) : Int) = (i : Int) + 1 by omega], by have := HLT.out; omega, by have := HF.out; omega, rfl, by rw [HX.out]; exact HO1.out, HB1.out⟩
          | cons m t =>
            obtain ⟨qq, cap, rfl, hB, hqq, hcm, hcp, hcell, hfr⟩ := own_cons HO.out
            obtain ⟨zz, hzz⟩ : ∃ z, z = m.2 := ⟨_, rfl⟩
            rw [← hzz] at hcell
            have HZ := Lib.hid hzz
            have hz0' : 0 ≤ zz := by have := HAC1.out.1; have := HAC1.out.2.1; omega
            have hz1' : zz ≤ 1114111 := by have := HAC1.out.2.2.1; omega
            obtain ⟨k, hk⟩ : ∃ k, k = t.length := ⟨_, rfl⟩
            rw [← hk] at hcell hcp hfr ⊢
            have HK := Lib.hid hk
            have hk4 : k ≤ 100000 := by have := HAL.out; simp at this; omega
            have hk1 : ((k : Nat) : Int) + 1 - 1 = (k : Nat) := by omega
            have hk0 : decide ((0 : Int) < ((k : Nat) : Int) + 1) = true := decide_eq_true (by omega)
            have hk2 : ((k : Nat) : Int) < ((k : Nat) : Int) + 1 := by omega
            have hk3 : (0 : Int) ≤ ((k : Nat) : Int) := by omega
            clear hzz hk
            by_cases heq : zz = p - 1
            · have HX : Hid (acA l f (i + 1) = (m.1, e) :: t) := Lib.hid (by rw [HSTEP.out, hfp, HE.out]; exact clsP_eq (by rw [← HZ.out]; exact heq))
              have heq2 : (zz == p - 1) = true := by simp [heq]
              have HEQ := Lib.hid heq
              clear heq
              go_upto_region 9 with fail
              go_quiet (fail)
              go_upto_region 10 with fail
              generalize hW2 : wr.drewN nq = W2
              have cp2 : W2.cell? ⟨b, off + i, none⟩ = some (.int .i64 p) := by rw [← hW2]; exact c0
              have B2 : Hid (Below w.heap.size w W2) := Lib.hid (by rw [← hW2]; exact below_drewN0 HB.out _)
              have cz2 : W2.cell? ⟨qq, k * 2 + 1, none⟩ = some (.int .i64 zz) := by rw [← hW2]; exact hcell
              have fr2 : W2.frozen? ⟨qq, k * 2 + 1, none⟩ = false := by rw [← hW2]; exact hfr
              have V2 : Hid (Own W2 w.heap.size (.slice (some ⟨qq, 0, none⟩) (k + 1) cap) (m :: t).reverse) := Lib.hid (by rw [← hW2, HK.out]; exact HO.out)
              clear hW2 c0 cb hcell hfr heq2
              have HP : Hid (Own (W2.setCell ⟨qq, k * 2 + 1, none⟩ (.int .i64 e)) w.heap.size (.slice (some ⟨qq, 0, none⟩) (k + 1) cap) (acA l f (i + 1)).reverse ∧ Below w.heap.size w (W2.setCell ⟨qq, k * 2 + 1, none⟩ (.int .i64 e))) := Lib.hid (by
                rw [HX.out]
                have h := V2.out
                rw [HK.out] at h ⊢
                exact own_put h B2.out _)
              go_wp2_with fail
              go_roundg (gk - 1)
              case measure => have := HF.out; have := HLT.out; omega
              case rel => exact ⟨i + 1, _, by rw [show ((i + 1 : Nat) : Int) = (i : Int) + 1 by omega], by have := HLT.out; omega, by have := HF.out; omega, rfl, HP.out.1, HP.out.2⟩
            · have HX : Hid (acA l f (i + 1) = (p, e) :: m :: t) := Lib.hid (by rw [HSTEP.out, hfp, HE.out]; exact clsP_ne (by rw [← HZ.out]; exact heq))
              have heq2 : (zz == p - 1) = false := by simp [heq]
              clear heq
              go_upto_region 9 with fail
              go_quiet (fail)
              go_upto_region 11 with fail
              generalize hW2 : wr.drewN nq = W2
              have cp2 : W2.cell? ⟨b, off + i, none⟩ = some (.int .i64 p) := by rw [← hW2]; exact c0
              have B2 : Hid (Below w.heap.size w W2) := Lib.hid (by rw [← hW2]; exact below_drewN0 HB.out _)
              obtain ⟨xs, hxs⟩ : ∃ xs, xs = rw2 (m :: t).reverse := ⟨_, rfl⟩
              have HXS := Lib.hid hxs
              have OW2 : Hid (W2.ownsRow w.heap.size 48 2 (.slice (some ⟨qq, 0, none⟩) (k + 1) cap) (k + 1) xs) := Lib.hid (by
                have h := HO.out
                unfold Own at h
                rw [rev_cons_len, ← HK.out, ← hxs] at h
                rw [← hW2]
                exact h)
              clear hW2 c0 cb hcell hfr heq2 hxs
              have HOW : Hid ((W2.alloc (.cells #[.int .i64 p, .int .i64 e] 48)).ownsRow w.heap.size 48 2 (.slice (some ⟨qq, 0, none⟩) (k + 1) cap) (k + 1) xs) := Lib.hid (World.ownsRow.alloc (w := W2) OW2.out _)
              have HNW : Hid (∀ j u, ([.int .i64 p, .int .i64 e] : List Value)[j]? = some u → (W2.alloc (.cells #[.int .i64 p, .int .i64 e] 48)).cell? ((⟨W2.heap.size, 0, none⟩ : Addr).add j) = some u) := Lib.hid (news_at W2 #[.int .i64 p, .int .i64 e] 48 [.int .i64 p, .int .i64 e] rfl)
              have HBW : Hid (Below w.heap.size w (W2.alloc (.cells #[.int .i64 p, .int .i64 e] 48))) := Lib.hid (B2.out.alloc B2.out.size _)
              have H1 := Lib.hid (one2 p e)
              have hsz : w.heap.size ≤ W2.heap.size := B2.out.size
              go_wp2_with (at_builtin; refine wpList_append_own _ rfl _ _ 22 rfl w.heap.size 48 i0 (.agg #[.int .i64 0, .int .i64 0]) 2 16 Try.underlying22 hi hz0 hz1 hz2 rfl (by decide) (.slice (some ⟨qq, 0, none⟩) (k + 1) cap) (k + 1) xs rfl HOW.out ⟨W2.heap.size, 0, none⟩ 1 1 [.int .i64 p, .int .i64 e] rfl rfl HNW.out H1.out (by unfold maxLen; omega) (by omega) (by simp; omega) ?_; intro v1 w1 ho1 hg1 _; have HO1 := Lib.hid ho1; have HB1 := Lib.hid (grown_below HBW.out HOW.out hg1); clear ho1 hg1)
              go_roundg (gk - 1)
              case measure => have := HF.out; have := HLT.out; omega
              case rel => exact ⟨i + 1, _, by rw [show ((i + 1 : Nat) : Int) = (i : Int) + 1 by omega], by have := HLT.out; omega, by have := HF.out; omega, rfl, by rw [HX.out]; unfold Own; rw [rev_cons_len, rw2_last, List.length_cons, ← HK.out, ← HXS.out]; exact HO1.out, HB1.out⟩
      · have hl2 : ¬ (i : Int) + 1 < (N : Int) := by omega
        obtain ⟨e, he⟩ : ∃ e : Int, e = 1114111 := ⟨_, rfl⟩
        have HE : Hid (endP l i = 1114111) := Lib.hid (if_neg (by rw [← HN.out]; exact hl1))
        clear e he
        clear hiN hf ho hb hpp hlt hl1 ac1 ac2 ac2' ac3 hal hacc hbb
        cases hfp : f p with
        | false =>
          have HX : Hid (acA l f (i + 1) = acc) := Lib.hid (by rw [HSTEP.out, hfp]; rfl)
          rw [hfp] at cb
          go_wp2_with fail
          go_roundg (gk - 1)
          case measure => have := HF.out; have := HLT.out; omega
          case rel => exact ⟨i + 1, _, by rw [show ((i + 1 : Nat) : Int) = (i : Int) + 1 by omega], by have := HLT.out; omega, by have := HF.out; omega, rfl, by rw [HX.out]; exact HO.out, HB.out⟩
        | true =>
          rw [hfp] at cb
          cases acc with
          | nil =>
            have HX : Hid (acA l f (i + 1) = [(p, 1114111)]) := Lib.hid (by rw [HSTEP.out, hfp, HE.out]; rfl)
            obtain ⟨ad, cap, rfl, _, _, _⟩ := HO.out.view
            rw [show ([] : List Rg).reverse.length = 0 from rfl] at *
            go_upto_region 9 with fail
            go_quiet (fail)
            go_upto_region 11 with fail
            generalize hW2 : wr.drewN nq = W2
            have cp2 : W2.cell? ⟨b, off + i, none⟩ = some (.int .i64 p) := by rw [← hW2]; exact c0
            have B2 : Hid (Below w.heap.size w W2) := Lib.hid (by rw [← hW2]; exact below_drewN0 HB.out _)
            have OW2 : Hid (W2.ownsRow w.heap.size 48 2 (.slice ad 0 cap) 0 []) := Lib.hid (by rw [← hW2]; exact HO.out)
            clear hW2 c0 cb
            have HOW : Hid ((W2.alloc (.cells #[.int .i64 p, .int .i64 1114111] 48)).ownsRow w.heap.size 48 2 (.slice ad 0 cap) 0 []) := Lib.hid (World.ownsRow.alloc (w := W2) OW2.out _)
            have HNW : Hid (∀ j u, ([.int .i64 p, .int .i64 1114111] : List Value)[j]? = some u → (W2.alloc (.cells #[.int .i64 p, .int .i64 1114111] 48)).cell? ((⟨W2.heap.size, 0, none⟩ : Addr).add j) = some u) := Lib.hid (news_at W2 #[.int .i64 p, .int .i64 1114111] 48 [.int .i64 p, .int .i64 1114111] rfl)
            have HBW : Hid (Below w.heap.size w (W2.alloc (.cells #[.int .i64 p, .int .i64 1114111] 48))) := Lib.hid (B2.out.alloc B2.out.size _)
            have H1 := Lib.hid (one2 p 1114111)
            have hsz : w.heap.size ≤ W2.heap.size := B2.out.size
            go_wp2_with (at_builtin; refine wpList_append_own _ rfl _ _ 22 rfl w.heap.size 48 i0 (.agg #[.int .i64 0, .int .i64 0]) 2 16 Try.underlying22 hi hz0 hz1 hz2 rfl (by decide) (.slice ad 0 cap) 0 [] rfl HOW.out ⟨W2.heap.size, 0, none⟩ 1 1 [.int .i64 p, .int .i64 1114111] rfl rfl HNW.out H1.out (by unfold maxLen; omega) (by omega) (by simp; omega) ?_; intro v1 w1 ho1 hg1 _; have HO1 := Lib.hid ho1; have HB1 := Lib.hid (grown_below HBW.out HOW.out hg1); clear ho1 hg1)
            go_roundg (gk - 1)
            case measure => have := HF.out; have := HLT.out; omega
            case rel => exact ⟨i + 1, _, by rw [show ((i + 1 : Nat) : Int) = (i : Int) + 1 by omega], by have := HLT.out; omega, by have := HF.out; omega, rfl, by rw [HX.out]; exact HO1.out, HB1.out⟩
          | cons m t =>
            obtain ⟨qq, cap, rfl, hB, hqq, hcm, hcp, hcell, hfr⟩ := own_cons HO.out
            obtain ⟨zz, hzz⟩ : ∃ z, z = m.2 := ⟨_, rfl⟩
            rw [← hzz] at hcell
            have HZ := Lib.hid hzz
            have hz0' : 0 ≤ zz := by have := HAC1.out.1; have := HAC1.out.2.1; omega
            have hz1' : zz ≤ 1114111 := by have := HAC1.out.2.2.1; omega
            obtain ⟨k, hk⟩ : ∃ k, k = t.length := ⟨_, rfl⟩
            rw [← hk] at hcell hcp hfr ⊢
            have HK := Lib.hid hk
            have hk4 : k ≤ 100000 := by have := HAL.out; simp at this; omega
            have hk1 : ((k : Nat) : Int) + 1 - 1 = (k : Nat) := by omega
            have hk0 : decide ((0 : Int) < ((k : Nat) : Int) + 1) = true := decide_eq_true (by omega)
            have hk2 : ((k : Nat) : Int) < ((k : Nat) : Int) + 1 := by omega
            have hk3 : (0 : Int) ≤ ((k : Nat) : Int) := by omega
            clear hzz hk
            by_cases heq : zz = p - 1
            · have HX : Hid (acA l f (i + 1) = (m.1, 1114111) :: t) := Lib.hid (by rw [HSTEP.out, hfp, HE.out]; exact clsP_eq (by rw [← HZ.out]; exact heq))
              have heq2 : (zz == p - 1) = true := by simp [heq]
              have HEQ := Lib.hid heq
              clear heq
              go_upto_region 9 with fail
              go_quiet (fail)
              go_upto_region 10 with fail
              generalize hW2 : wr.drewN nq = W2
              have cp2 : W2.cell? ⟨b, off + i, none⟩ = some (.int .i64 p) := by rw [← hW2]; exact c0
              have B2 : Hid (Below w.heap.size w W2) := Lib.hid (by rw [← hW2]; exact below_drewN0 HB.out _)
              have cz2 : W2.cell? ⟨qq, k * 2 + 1, none⟩ = some (.int .i64 zz) := by rw [← hW2]; exact hcell
              have fr2 : W2.frozen? ⟨qq, k * 2 + 1, none⟩ = false := by rw [← hW2]; exact hfr
              have V2 : Hid (Own W2 w.heap.size (.slice (some ⟨qq, 0, none⟩) (k + 1) cap) (m :: t).reverse) := Lib.hid (by rw [← hW2, HK.out]; exact HO.out)
              clear hW2 c0 cb hcell hfr heq2
              have HP : Hid (Own (W2.setCell ⟨qq, k * 2 + 1, none⟩ (.int .i64 1114111)) w.heap.size (.slice (some ⟨qq, 0, none⟩) (k + 1) cap) (acA l f (i + 1)).reverse ∧ Below w.heap.size w (W2.setCell ⟨qq, k * 2 + 1, none⟩ (.int .i64 1114111))) := Lib.hid (by
                rw [HX.out]
                have h := V2.out
                rw [HK.out] at h ⊢
                exact own_put h B2.out _)
              go_wp2_with fail
              go_roundg (gk - 1)
              case measure => have := HF.out; have := HLT.out; omega
              case rel => exact ⟨i + 1, _, by rw [show ((i + 1 : Nat) : Int) = (i : Int) + 1 by omega], by have := HLT.out; omega, by have := HF.out; omega, rfl, HP.out.1, HP.out.2⟩
            · have HX : Hid (acA l f (i + 1) = (p, 1114111) :: m :: t) := Lib.hid (by rw [HSTEP.out, hfp, HE.out]; exact clsP_ne (by rw [← HZ.out]; exact heq))
              have heq2 : (zz == p - 1) = false := by simp [heq]
              clear heq
              go_upto_region 9 with fail
              go_quiet (fail)
              go_upto_region 11 with fail
              generalize hW2 : wr.drewN nq = W2
              have cp2 : W2.cell? ⟨b, off + i, none⟩ = some (.int .i64 p) := by rw [← hW2]; exact c0
              have B2 : Hid (Below w.heap.size w W2) := Lib.hid (by rw [← hW2]; exact below_drewN0 HB.out _)
              obtain ⟨xs, hxs⟩ : ∃ xs, xs = rw2 (m :: t).reverse := ⟨_, rfl⟩
              have HXS := Lib.hid hxs
              have OW2 : Hid (W2.ownsRow w.heap.size 48 2 (.slice (some ⟨qq, 0, none⟩) (k + 1) cap) (k + 1) xs) := Lib.hid (by
                have h := HO.out
                unfold Own at h
                rw [rev_cons_len, ← HK.out, ← hxs] at h
                rw [← hW2]
                exact h)
              clear hW2 c0 cb hcell hfr heq2 hxs
              have HOW : Hid ((W2.alloc (.cells #[.int .i64 p, .int .i64 1114111] 48)).ownsRow w.heap.size 48 2 (.slice (some ⟨qq, 0, none⟩) (k + 1) cap) (k + 1) xs) := Lib.hid (World.ownsRow.alloc (w := W2) OW2.out _)
              have HNW : Hid (∀ j u, ([.int .i64 p, .int .i64 1114111] : List Value)[j]? = some u → (W2.alloc (.cells #[.int .i64 p, .int .i64 1114111] 48)).cell? ((⟨W2.heap.size, 0, none⟩ : Addr).add j) = some u) := Lib.hid (news_at W2 #[.int .i64 p, .int .i64 1114111] 48 [.int .i64 p, .int .i64 1114111] rfl)
              have HBW : Hid (Below w.heap.size w (W2.alloc (.cells #[.int .i64 p, .int .i64 1114111] 48))) := Lib.hid (B2.out.alloc B2.out.size _)
              have H1 := Lib.hid (one2 p 1114111)
              have hsz : w.heap.size ≤ W2.heap.size := B2.out.size
              go_wp2_with (at_builtin; refine wpList_append_own _ rfl _ _ 22 rfl w.heap.size 48 i0 (.agg #[.int .i64 0, .int .i64 0]) 2 16 Try.underlying22 hi hz0 hz1 hz2 rfl (by decide) (.slice (some ⟨qq, 0, none⟩) (k + 1) cap) (k + 1) xs rfl HOW.out ⟨W2.heap.size, 0, none⟩ 1 1 [.int .i64 p, .int .i64 1114111] rfl rfl HNW.out H1.out (by unfold maxLen; omega) (by omega) (by simp; omega) ?_; intro v1 w1 ho1 hg1 _; have HO1 := Lib.hid ho1; have HB1 := Lib.hid (grown_below HBW.out HOW.out hg1); clear ho1 hg1)
              go_roundg (gk - 1)
              case measure => have := HF.out; have := HLT.out; omega
              case rel => exact ⟨i + 1, _, by rw [show ((i + 1 : Nat) : Int) = (i : Int) + 1 by omega], by have := HLT.out; omega, by have := HF.out; omega, rfl, by rw [HX.out]; unfold Own; rw [rev_cons_len, rw2_last, List.length_cons, ← HK.out, ← HXS.out]; exact HO1.out, HB1.out⟩
    · have e9 : i = N := by omega
      subst e9
      have HX : Hid (acA l f i = setF f [] l) := Lib.hid (by rw [← HFIN.out, ← HN.out])
      clear hiN hf ho hb hlt
      go_wp2_with fail
      go_ret
      exact ⟨_, rfl, by rw [← HX.out]; exact HO.out, HB.out⟩
end Go.Proofs.Ytlngdohkoeognaa

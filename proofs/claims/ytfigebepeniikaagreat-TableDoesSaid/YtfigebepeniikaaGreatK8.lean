import Derived.Test.YtfigebepeniikaaGreatK7
import Derived.Laws.CopyRow
import Derived.Laws.CopyOwn
import Derived.Laws.ResultCell
import Derived.OwnWalk
import Derived.Deep.RegionLaw
/- Layer 27: whether a table may be. -/
namespace Go.Proofs.YtfigebepeniikaaGreat
open Go.RowKit Go.Maps Go.WideMaps
theorem take_nth {L : List ByteArray} {i : Nat} (h : i < L.length) : L.take (i + 1) = L.take i ++ [Ord.nth L i] := by
  rw [List.take_succ_eq_append_getElem h]
  unfold Ord.nth
  rw [List.getD_eq_getElem?_getD, List.getElem?_eq_getElem h]
  rfl
theorem rev_nth {L : List ByteArray} {i : Nat} (h : i < L.length) : (L.take (i + 1)).reverse = Ord.nth L i :: (L.take i).reverse := by
  rw [take_nth h, List.reverse_append]; rfl
theorem nd_yes {L : List ByteArray} {i : Nat} (h : i < L.length) (hn : (L.take i).Nodup) (ht : ((L.take i).reverse.any fun x => decide (x = Ord.nth L i)) = false) : (L.take (i + 1)).Nodup := by
  rw [take_nth h, List.nodup_append]
  refine ⟨hn, by simp, fun a ha b hb e => ?_⟩
  simp only [List.mem_singleton] at hb
  rw [List.any_eq_false] at ht
  exact ht a (List.mem_reverse.2 ha) (by simpa using e.trans hb)
theorem nd_no {L : List ByteArray} {i : Nat} (h : i < L.length) (ht : ((L.take i).reverse.any fun x => decide (x = Ord.nth L i)) = true) : ¬ L.Nodup := by
  intro hn
  obtain ⟨x, hx, e⟩ := List.any_eq_true.1 ht
  have hn2 := List.Nodup.sublist (List.take_sublist (i + 1) L) hn
  rw [take_nth h, List.nodup_append] at hn2
  exact hn2.2.2 x (List.mem_reverse.1 hx) (Ord.nth L i) (by simp) (by simpa using e)
/-- What holds while the Uniques are gone through. -/
structure Uq (w W : World) (x0 x1 x2 x3 : Value) (mb i : Nat) (L : List ByteArray) : Prop where
  us : Us w W x0 x1 x2 x3
  me : Met W mb i (L.take i).reverse
  lt : w.heap.size + 1 < mb
theorem Uq.bx {w W : World} {x0 x1 x2 x3 : Value} {mb i : Nat} {L : List ByteArray} (h : Uq w W x0 x1 x2 x3 mb i L) : Bx4 W (w.heap.size + 1) 53 x0 x1 x2 x3 := h.us.bx
theorem us_grown {w W W' : World} {x0 x1 x2 x3 : Value} {mb : Nat} (h : Us w W x0 x1 x2 x3) (hl : w.heap.size + 1 < mb) (k : W.grownBy W' (some mb)) : Us w W' x0 x1 x2 x3 := by
  refine ⟨h.bl.grown k h.bl.size (fun q hq => by cases hq; omega), ?_⟩
  unfold Bx4
  rw [k.block _ h.bx.lt (fun e => by cases e; omega)]
  exact h.bx
set_option maxRecDepth 20000 in
set_option maxHeartbeats 4000000 in
theorem ck_rest (T : TM) (a1 a2 : Option Addr) (c1 c2 : Nat) (w : World) (hv : TVs 0 w T a1 c1 a2 c2) (hs : SmT T) (h1 : 1 ≤ T.most) (h2 : T.most ≤ 64) (h3 : (T.rows.length : Int) ≤ T.most) (hc : Ord.chE (idsR T.rows) = 0) : Calls Tryz.prog 17 #[tv T a1 c1 a2 c2] w fun e w' => e = .returned (.int .i64 (eC (tabOk T))) ∧ Below w.heap.size w w' := by
  have hXd : ¬ T.uq.Nodup → tabOk T = false := fun h => tab_no fun k => h k.uq
  have hXr : ∀ i, i < T.rows.length → recOk (rl T.rows i) = false → tabOk T = false := fun i hi h => tab_no fun k => by have := k.rcs _ (rl_mem hi); rw [h] at this; cases this
  have hXe : T.uq.Nodup → (∀ i, i < T.rows.length → recOk (rl T.rows i) = true) → tabOk T = !(T.rows.any (clT T)) := fun hn hr => by
    unfold tabOk
    rw [decide_eq_true h1, decide_eq_true h2, decide_eq_true h3, decide_eq_true hc, decide_eq_true hn]
    rw [show T.rows.all recOk = true from List.all_eq_true.2 fun r hr' => by
      obtain ⟨i, hi, rfl⟩ := List.getElem_of_mem hr'
      rw [← rl_get hi]; exact hr i hi]
    simp
  have hcl : ∀ i, clT T (rl T.rows i) = (T.rows.any fun a => decide (a.id ≠ (rl T.rows i).id) && T.uq.any fun s => clash a (rl T.rows i) s) := fun i => rfl
  obtain ⟨any0, hany⟩ : ∃ b, b = T.rows.any (clT T) := ⟨_, rfl⟩
  have hany2 : ((List.range T.rows.length).any fun i => clT T (rl T.rows i)) = any0 := by rw [hany]; exact any_range T.rows (clT T) _ (fun i hi => rfl)
  rw [← hany] at hXe
  obtain ⟨x, hx⟩ : ∃ x, x = tabOk T := ⟨_, rfl⟩
  rw [← hx] at hXd hXr hXe ⊢
  have hrec : ∀ i, i < T.rows.length → recOk (rl T.rows i) = true → ckL (rl T.rows i).d = true := fun i _ h => by
    unfold recOk at h
    simp only [Bool.and_eq_true] at h
    exact h.1.1.2
  obtain ⟨nm, m, uq, R⟩ := T
  have hr : RV 0 w a2 R := hv.r
  have hu : Ord.SView w a1 uq.length uq := hv.u
  have hRn : R.length ≤ 1000 := hs.rows
  have hUn : uq.length ≤ 1000 := hs.uq
  dsimp only at h1 h2 h3 hc hXd hXr hXe hany2 hrec
  show Calls Tryz.prog 17 #[.agg #[.string nm, .int .i64 m, .slice a1 uq.length c1, .slice a2 R.length c2]] w fun e w' => e = .returned (.int .i64 (eC x)) ∧ Below w.heap.size w w'
  have HU := Lib.hid (us_new w (.string nm) (.int .i64 m) (.slice a1 uq.length c1) (.slice a2 R.length c2))
  have HI := Lib.hid (fun W (h : Us w W (.string nm) (.int .i64 m) (.slice a1 uq.length c1) (.slice a2 R.length c2)) => ids_any 0 (w.heap.size + 1) _ _ _ a2 c2 R W h.bx (hr.below h.bl) hRn)
  have HO := Lib.hid (fun ad cap W (h : Ord.SView W ad (idsR R).length (idsR R)) => Ord.check_any ad (idsR R).length cap (idsR R) W h)
  rw [hc] at HO
  have HN : Hid ((idsR R).length = R.length) := Lib.hid (idsR_len R)
  have HSU := Lib.hid (fun W (k : Below w.heap.size w W) => hu.below k)
  have HRV := Lib.hid (fun W (k : Below w.heap.size w W) => hr.below k)
  have HSZ : Hid (∀ i, i < uq.length → (Ord.nth uq i).size ≤ maxLen) := Lib.hid (fun i hi => by
    have h := hs.us (Ord.nth uq i) (by
      unfold Ord.nth
      rw [List.getD_eq_getElem?_getD, List.getElem?_eq_getElem hi]
      exact List.getElem_mem hi)
    unfold maxLen; omega)
  have HRC := Lib.hid (fun i (hi : i < R.length) ad cp W (hd : DV 0 W ad cp (rl R i).d) => rec_any 0 (rl R i) ad cp W hd (hs.each _ (rl_mem hi)))
  have HCF : Hid ((∀ i, i < R.length → recOk (rl R i) = true) → ∀ W, Us w W (.string nm) (.int .i64 m) (.slice a1 uq.length c1) (.slice a2 R.length c2) → Calls Tryz.prog 41 #[.slice a2 R.length c2, .func (.func 30) #[.pointer (some ⟨w.heap.size + 1, 0, none⟩)] #[]] W fun e w' => e = .returned (.bool any0) ∧ Below W.heap.size W w') := Lib.hid (fun hall W h => by
    have K := cf_self 0 a2 c2 R (w.heap.size + 1) (fun i => clT ⟨nm, m, uq, R⟩ (rl R i)) W (hr.below h.bl) (by omega) (fun i ai ci W' hi k dv => by
      have hu2 := h.up k
      have KK := clashes_any (rl R i) ai ci (w.heap.size + 1) _ _ a1 a2 c1 c2 uq R W' hu2.bx (hu.below hu2.bl) (by omega) (hr.below hu2.bl) (by omega) dv (hrec i hi (hall i hi)) (fun a ha => by
        obtain ⟨j, hj, rfl⟩ := List.getElem_of_mem ha
        rw [← rl_get hj]; exact hrec j hj (hall j hj))
      exact KK)
    rw [hany2] at K
    exact K)
  obtain ⟨nu, hnu⟩ : ∃ n, n = uq.length := ⟨_, rfl⟩
  obtain ⟨n, hn⟩ : ∃ n, n = R.length := ⟨_, rfl⟩
  have p1 := HU.out.bx.c1
  have p3 := HU.out.bx.c3
  rw [← hn] at h3 hRn hXr hXe HU HI HN HRC HCF p3 p1 ⊢
  rw [← hnu] at HU HI HCF HSU HSZ p3 p1 hUn ⊢
  have HND : Hid (uq.take nu = uq) := Lib.hid (by rw [hnu]; exact List.take_length)
  have HNTH : Hid (∀ i, i < nu → (uq.take (i + 1)).reverse = Ord.nth uq i :: (uq.take i).reverse) := Lib.hid (fun i hi => rev_nth (by omega))
  have HNY : Hid (∀ i, i < nu → (uq.take i).Nodup → ((uq.take i).reverse.any fun x => decide (x = Ord.nth uq i)) = false → (uq.take (i + 1)).Nodup) := Lib.hid (fun i hi h ht => nd_yes (by omega) h ht)
  have HNN : Hid (∀ i, i < nu → ((uq.take i).reverse.any fun x => decide (x = Ord.nth uq i)) = true → x = false) := Lib.hid (fun i hi ht => hXd (nd_no (by omega) ht))
  have HXR := Lib.hid hXr
  have HXE := Lib.hid hXe
  have HRn := Lib.hid hn
  obtain ⟨I, hI⟩ : ∃ I, I = idsR R := ⟨_, rfl⟩
  rw [← hI] at HI HO HN
  have hmk := @run_makeMap Tryz.prog
  clear hnu hn hI hv hr hu hs hc hXd hXr hXe hany hany2 hx hrec hcl
  go_enter Tryz.func17, Tryz.ntmps17
  go_wp2_with fail
  have e1 : decide (m < 1) = false := decide_eq_false (by omega)
  have e2 : decide (64 < m) = false := decide_eq_false (by omega)
  have e3 : decide (m < (n : Int)) = false := decide_eq_false (by omega)
  have h1' : ¬ m < 1 := by omega
  have h2' : ¬ 64 < m := by omega
  have h3' : ¬ m < (n : Int) := by omega
  obtain ⟨W, hW⟩ : ∃ W, W = (w.alloc (.cells #[.string nm, .int .i64 m, .slice a1 nu c1, .slice a2 n c2] 25)).alloc (.cells #[.string nm, .int .i64 m, .slice a1 nu c1, .slice a2 n c2] 53) := ⟨_, rfl⟩
  rw [← hW] at p1 p3 HU ⊢
  clear hW
  have HUD := Lib.hid HU.out.drew
  go_still_tail 30, (by kernel_rfl)
  change wpList _ _ _ _ _ W.drew
  generalize W.drew = X at HUD ⊢
  clear p1 p3 HU h1 h2 h3 e1 e2 e3 h1' h2' h3'
  go_wp2_with fail
  refine (HI.out X HUD.out).mono ?_
  rintro e w1 ⟨v, rfl, ho, b1⟩
  rw [← HN.out] at ho
  obtain ⟨ad, cap, rfl, _, _, sv, _, _⟩ := sview_own ho
  have HS := Lib.hid sv
  have U1 := Lib.hid (HUD.out.up b1)
  clear ho sv b1
  go_wp2_with fail
  refine (HO.out ad cap w1 HS.out).mono ?_
  rintro e w2 ⟨rfl, b2⟩
  have U2 := Lib.hid (U1.out.up b2)
  have UM := Lib.hid (U2.out.up ((Below.refl w2.heap.size w2).alloc (Nat.le_refl _) (.map #[] 0)))
  have p2 := UM.out.bx.c2
  have HM0 : Hid (Uq w (w2.alloc (.map #[] 0)) (.string nm) (.int .i64 m) (.slice a1 nu c1) (.slice a2 n c2) w2.heap.size 0 uq) := Lib.hid ⟨UM.out, World.ownsMap_made _ _ _ _, by have := U2.out.bx.lt; exact this⟩
  obtain ⟨mb, hmb⟩ : ∃ mb, mb = w2.heap.size := ⟨_, rfl⟩
  rw [← hmb] at HM0
  clear b2 U1 HS HO HI HUD U2
  go_wp2_with fail
  clear p2 UM
  rw [← hmb]
  clear hmb
  generalize w2.alloc (.map #[] 0) = Y at HM0 ⊢
  have hU1 : (nu : Int) ≤ 1000 := by omega
  have hR1 : (n : Int) ≤ 1000 := by omega
  go_loopw [6, 7, 8, 55] (fun _ _ _ v55 wr => ∃ i : Nat, i ≤ nu ∧ v55 = .int .i64 i ∧ Hid ((uq.take i).Nodup) ∧ Hid (Uq w wr (.string nm) (.int .i64 m) (.slice a1 nu c1) (.slice a2 n c2) mb i uq)) (fun _ _ _ v55 _ => nu - (intOf v55).toNat)
  case atStart => exact ⟨0, Nat.zero_le _, rfl, Lib.hid (by simp), HM0⟩
  case round =>
    obtain ⟨i, hi, rfl, HD, HQ⟩ := hrel
    by_cases hlt : i < nu
    · have hlt' : (i : Int) < nu := by omega
      have hge : (0 : Int) ≤ i := by omega
      have HSW := Lib.hid (HSU.out wr HQ.out.us.bl)
      obtain ⟨b, off, rfl, hb0, d0⟩ := HSW.out.2 i hlt
      obtain ⟨s, hs⟩ : ∃ s, s = Ord.nth uq i := ⟨_, rfl⟩
      rw [← hs] at d0
      have hsz := HSZ.out i hlt
      rw [← hs] at hsz
      have HKEY : Hid (keyOf Tryz.prog 9 (.string s) = some (keyL s)) := Lib.hid (keyOf_string_mk Tryz.underlying9 hsz)
      have HHAS := Lib.hid (has_setN (uq.take i).reverse s)
      have HYES := Lib.hid (HNY.out i hlt HD.out)
      have HNO := Lib.hid (HNN.out i hlt)
      have HNX := Lib.hid (HNTH.out i hlt)
      rw [← hs] at HYES HNO HNX
      obtain ⟨t, ht⟩ : ∃ t, t = (uq.take i).reverse.any fun x => decide (x = s) := ⟨_, rfl⟩
      rw [← ht] at HHAS HYES HNO
      have HOWN := Lib.hid HQ.out.me
      clear hs hsz ht HD
      cases t with
      | true =>
        have HX := Lib.hid (HNO.out rfl)
        have HBL := Lib.hid HQ.out.us.bl
        clear HYES HNO
        go_wp2_with (first
          | (at_lookup; refine wpList_lookup_own_unit _ rfl _ _ 66 rfl 9 67 law9 Tryz.underlying66 (zeroU _) mb i _ rfl HOWN.out _ _ rfl HKEY.out ?_; rw [HHAS.out]))
        go_ret
        exact ⟨by rw [HX.out]; rfl, HBL.out.alloc HBL.out.size _⟩
      | false =>
        have HD2 := Lib.hid (HYES.out rfl)
        have HMET : Hid (∀ V : World, V.ownsMap Tryz.prog 9 (unitElem (H := Unit)) mb (i + 1) ((setN (uq.take i).reverse).put (keyL s) (.agg [])) → Met V mb (i + 1) (uq.take (i + 1)).reverse) := Lib.hid (fun V h => by rw [HNX.out]; unfold Met; rw [setN_cons]; exact h)
        have HLT := Lib.hid HQ.out.lt
        have HUA := Lib.hid (HQ.out.us.up ((Below.refl wr.heap.size wr).alloc (Nat.le_refl _) (.cells #[] 67)))
        clear HYES HNO HNX HSW
        go_wp2_with (first
          | (at_lookup; refine wpList_lookup_own_unit _ rfl _ _ 66 rfl 9 67 law9 Tryz.underlying66 (zeroU _) mb i _ rfl HOWN.out _ _ rfl HKEY.out ?_; rw [HHAS.out])
          | (at_mapUpdate; refine wpList_mapUpdate_own _ rfl _ _ _ 66 rfl 9 67 law9 Tryz.underlying66 (unitElem (H := Unit)) mb i _ rfl (HOWN.out.alloc _) (by unfold maxLen; omega) _ _ _ rfl rfl HKEY.out _ [] unitElem_mk ?_; intro w3 hown3 hg3; have M3 := Lib.hid (HMET.out _ hown3); have U3 := Lib.hid (us_grown HUA.out HLT.out hg3); clear hown3 hg3))
        go_roundw
        case rel => exact ⟨i + 1, by omega, by go_num, HD2, Lib.hid ⟨U3.out, M3.out, HLT.out⟩⟩
        case measure => simp [intOf]; omega
    · have him : i = nu := by omega
      subst him
      have hge : ¬ (i : Int) < i := by omega
      have HNU : Hid (uq.Nodup) := Lib.hid (by have h := HD.out; rw [HND.out] at h; exact h)
      have HUS := Lib.hid HQ.out.us
      have p3 := HUS.out.bx.c3
      have HXE2 := Lib.hid (HXE.out HNU.out)
      clear HD HQ HNTH HNY HNN HXE HSZ HSU HND
      go_wp2_with fail
      clear p3
      go_loopw [10, 76] (fun _ v76 wr => ∃ j : Nat, j ≤ n ∧ v76 = .int .i64 j ∧ Hid (∀ k, k < j → recOk (rl R k) = true) ∧ Hid (Us w wr (.string nm) (.int .i64 m) (.slice a1 i c1) (.slice a2 n c2))) (fun _ v76 _ => n - (intOf v76).toNat)
      case atStart => exact ⟨0, Nat.zero_le _, rfl, Lib.hid (fun k hk => by omega), HUS⟩
      case round =>
        obtain ⟨j, hj, rfl, HRK, HUJ⟩ := hrel
        by_cases hlt2 : j < n
        · have hlt2' : (j : Int) < n := by omega
          have hge2 : (0 : Int) ≤ j := by omega
          have HRW := Lib.hid (HRV.out wr HUJ.out.bl)
          have hjR : j < R.length := by rw [← HRn.out]; exact hlt2
          obtain ⟨b, off, rfl⟩ := HRW.out.addr (by omega)
          obtain ⟨ai, ci, _, _, d0, d1, dv⟩ := HRW.out.at_ hjR
          have HRC2 := Lib.hid (fun V (k : Below wr.heap.size wr V) => HRC.out j hlt2 ai ci V (dv.below k))
          have HX0 := Lib.hid (HXR.out j hlt2)
          have HRK2 : Hid (recOk (rl R j) = true → ∀ k, k < j + 1 → recOk (rl R k) = true) := Lib.hid (fun h k hk => by
            by_cases e : k = j
            · subst e; exact h
            · exact HRK.out k (by omega))
          unfold rv at HRC2
          obtain ⟨q, hq⟩ : ∃ q, q = recOk (rl R j) := ⟨_, rfl⟩
          rw [← hq] at HRC2 HX0 HRK2
          obtain ⟨id, hid⟩ : ∃ q, q = (rl R j).id := ⟨_, rfl⟩
          obtain ⟨l, hl⟩ : ∃ q, q = (rl R j).d.length := ⟨_, rfl⟩
          rw [← hid] at d0 HRC2
          rw [← hl] at d1 HRC2
          have BA : Hid (Below wr.heap.size wr (wr.alloc (.cells #[.string id, .slice ai l ci] 28))) := Lib.hid ((Below.refl _ _).alloc (Nat.le_refl _) _)
          clear hq hid hl dv HRW HRK hjR
          cases q with
          | true =>
            have HRK3 := Lib.hid (HRK2.out rfl)
            go_wp2_with fail
            refine (HRC2.out _ BA.out).mono ?_
            rintro e w4 ⟨rfl, b4⟩
            have U4 := Lib.hid ((HUJ.out.up BA.out).up b4)
            clear b4
            go_wp2_with fail
            go_roundw
            case rel => exact ⟨j + 1, by omega, by go_num, HRK3, U4⟩
            case measure => simp [intOf]; omega
          | false =>
            have HX := Lib.hid (HX0.out rfl)
            go_wp2_with fail
            refine (HRC2.out _ BA.out).mono ?_
            rintro e w4 ⟨rfl, b4⟩
            have U4 := Lib.hid ((HUJ.out.up BA.out).up b4)
            clear b4
            go_wp2_with fail
            go_ret
            exact ⟨by rw [HX.out]; rfl, U4.out.bl⟩
        · have hjn : j = n := by omega
          subst hjn
          have hge2 : ¬ (j : Int) < j := by omega
          have HX := Lib.hid (HXE2.out HRK.out)
          have HCC := Lib.hid (HCF.out HRK.out)
          have p3 := HUJ.out.bx.c3
          clear HRK HXE2 HCF HXR HRC
          cases any0 with
          | true =>
            go_wp2_with fail
            refine (HCC.out _ HUJ.out).mono ?_
            rintro e w4 ⟨rfl, b4⟩
            have U4 := Lib.hid (HUJ.out.up b4)
            clear b4
            go_wp2_with fail
            go_ret
            exact ⟨by rw [HX.out]; rfl, U4.out.bl⟩
          | false =>
            go_wp2_with fail
            refine (HCC.out _ HUJ.out).mono ?_
            rintro e w4 ⟨rfl, b4⟩
            have U4 := Lib.hid (HUJ.out.up b4)
            clear b4
            go_wp2_with fail
            go_ret
            exact ⟨by rw [HX.out]; rfl, U4.out.bl⟩
/-- Check. -/
theorem tCheck_any (B : Nat) (T : TM) (a1 a2 : Option Addr) (c1 c2 : Nat) (w : World) (hv : TVs B w T a1 c1 a2 c2) (hs : SmT T) : Calls Tryz.prog 17 #[tv T a1 c1 a2 c2] w fun e w' => e = .returned (.int .i64 (eC (tabOk T))) ∧ Below w.heap.size w w' := by
  by_cases h1 : 1 ≤ T.most
  · by_cases h2 : T.most ≤ 64
    · by_cases h3 : (T.rows.length : Int) ≤ T.most
      · by_cases hc : Ord.chE (idsR T.rows) = 0
        · exact ck_rest T a1 a2 c1 c2 w (hv.mono (Nat.zero_le _)) hs h1 h2 h3 hc
        · rw [tab_no fun k => hc k.up]
          exact ck_ids T a1 a2 c1 c2 w (hv.mono (Nat.zero_le _)) hs h1 h2 h3 hc
      · rw [tab_no fun k => h3 k.len]
        exact ck_most T a1 a2 c1 c2 w (.inr (.inr (by omega)))
    · rw [tab_no fun k => h2 k.m2]
      exact ck_most T a1 a2 c1 c2 w (.inr (.inl (by omega)))
  · rw [tab_no fun k => h1 k.m1]
    exact ck_most T a1 a2 c1 c2 w (.inl (by omega))
end Go.Proofs.YtfigebepeniikaaGreat
/- Layer 27: a record in new memory. -/
namespace Go.Proofs.YtfigebepeniikaaGreat
open Go.RowKit Go.Maps
section
variable {P : Program}
/-- copy of so many elements of k cells, from one row to the head of another one of the same length. -/
theorem run_copy_all (k : Nat) (w : World) (dT sT ty elem : TypeId) (g n dCap : Nat) (sp : Option Addr) (sCap : Nat) (cur : Array Value) (t : TypeId) (cs : List Value)
    (hu : P.underlying dT = some (.slice elem)) (hs : (P.info? elem).map (·.size) = some k) (hg : w.heap[g]? = some (.cells cur t (0, 0))) (hn : cs.length = n * k) (hsize : cur.size = n * k)
    (hsp : sp = none → n = 0) (hsrc : ∀ a, sp = some a → ∀ j v, cs[j]? = some v → w.cell? (a.add j) = some v) (h1 : ∀ v ∈ cs, v.oneCell' = true) :
    (Builtin.copy_ #[dT, sT] ty #[.slice (some ⟨g, 0, none⟩) n dCap, .slice sp n sCap]).run P w = .ok (goInt n) (w.setRow g cs.toArray) := by
  cases hq : P.info? elem with
  | none => simp [hq] at hs
  | some i =>
    have hi : i.size = k := by simpa [hq] using hs
    have hst := run_storeCells_at P g 0 t cs 0 cur w hg (by omega) h1
    have e : (cur.toList.take (0 + 0) ++ cs ++ cur.toList.drop (0 + 0 + cs.length)).toArray = cs.toArray := by
      rw [List.drop_eq_nil_of_le (by simp; omega)]; simp
    rw [e] at hst
    cases sp with
    | none =>
      have h0 := hsp rfl
      subst h0
      have : cs = [] := List.length_eq_zero_iff.1 (by omega)
      subst this
      have hc : cur = #[] := Array.eq_empty_of_size_eq_zero (by omega)
      subst hc
      rw [show ([] : List Value).toArray = #[] from rfl, setRow_self w g #[] t (0, 0) hg]
      simp [Builtin.copy_, run_underlying hu, Builtin.lenOf, Builtin.firstCells, sizeOf, typeInfo, hq, hi, storeCells]
    | some a =>
      have hl := run_loadCells_list (P := P) w a cs (hsrc a rfl)
      rw [hn] at hl
      simp [Builtin.copy_, run_underlying hu, Builtin.lenOf, Builtin.firstCells, sizeOf, typeInfo, hq, hi, hl, hst]
theorem wpList_copy_all (k : Nat) {w : World} {ops : Array Oper} {rest : List Oper} {o : Oper} {a : Act} {Q : Exit → Act → World → Prop} (hgd : o.guard = none) (d s : Operand) (dT sT : TypeId)
    (ho : o.op = .call { callee := .builtin .copy, args := #[d, s], argTypes := #[dT, sT] }) (elem : TypeId) (hu : P.underlying dT = some (.slice elem)) (hsz : (P.info? elem).map (·.size) = some k)
    (g n dCap : Nat) (sp : Option Addr) (sCap : Nat) (hd : a.eval d = .slice (some ⟨g, 0, none⟩) n dCap) (hs : a.eval s = .slice sp n sCap)
    (cur : Array Value) (t : TypeId) (cs : List Value) (hg : w.heap[g]? = some (.cells cur t (0, 0))) (hn : cs.length = n * k) (hsize : cur.size = n * k)
    (hsp : sp = none → n = 0) (hsrc : ∀ a, sp = some a → ∀ j v, cs[j]? = some v → w.cell? (a.add j) = some v) (h1 : ∀ v ∈ cs, v.oneCell' = true)
    (h : wpList P ops Q rest (a.put o.dst (goInt n)) (w.setRow g cs.toArray)) : wpList P ops Q (o :: rest) a w := by
  refine wpList_plain hgd fun K hK => ?_
  have hrun := run_copy_all (P := P) k w dT sT o.type elem g n dCap sp sCap cur t cs hu hsz hg hn hsize hsp hsrc h1
  unfold Oper.wp
  simp [execOp, ho, resolve, invoke, builtin, hd, hs, hrun, Result.andThen]
  exact hK _ _ h
end
theorem infoCk : (Tryz.prog.info? 47).map (·.size) = some 5 := by
  obtain ⟨i, h, _, hs, _⟩ := infoC
  rw [h]; simp [hs]
theorem infoRk : (Tryz.prog.info? 28).map (·.size) = some 2 := by
  obtain ⟨i, h, _, hs, _⟩ := infoR
  rw [h]; simp [hs]
theorem ret_rec {R : Ending → World → Prop} {fn : Func} {tmps : Array Value} {w : World} {g : Nat} {cs : Array Value} (hr : fn.results = #[.cell 2 28]) (h2 : tmps.getD 2 undef = .pointer (some ⟨g, 0, none⟩)) (hg : w.heap[g]? = some (.cells cs 28)) (hs : cs.size = 2)
    (hR : R (.returned (.agg cs)) w) : bodyPost Tryz.prog fn R .ret ⟨tmps, []⟩ w := by
  refine bodyPost_ret (v := .agg cs) ?_ rfl hR
  exact results_cell_row hr tmps w g 28 cs (0, 0) _ h2 hg Tryz.underlying28 rfl (by rw [infoRk, hs])
/-- A record in memory of its own. -/
def OwnD (w : World) (q : Nat) (d : List CR) : Prop := w.heap[q]? = some (.cells (rw5 d).toArray 47)
theorem OwnD.up {w w' : World} {q : Nat} {d : List CR} (h : OwnD w q d) (k : Below w.heap.size w w') : OwnD w' q d := by
  unfold OwnD at h ⊢
  rw [k.block q (Array.getElem?_eq_some_iff.1 h).1]; exact h
theorem OwnD.lt {w : World} {q : Nat} {d : List CR} (h : OwnD w q d) : q < w.heap.size := (Array.getElem?_eq_some_iff.1 h).1
theorem OwnD.dv {B : Nat} {w : World} {q : Nat} {d : List CR} (h : OwnD w q d) (hb : B ≤ q) (hl : d.length ≤ maxLen) : DV B w (some ⟨q, 0, none⟩) d.length d :=
  ⟨cv_block h rfl, Nat.le_refl _, hl, fun e => (by cases e), fun b off e => (by cases e; exact hb)⟩
theorem Bx2.set {w : World} {q : Nat} {x0 x1 : Value} (h : Bx2 w q x0 x1) (v0 v1 : Value) : Bx2 ((w.setCell ⟨q, 0, none⟩ v0).setCell ⟨q, 1, none⟩ v1) q v0 v1 := by
  have a := set_heap w q 0 v0 _ _ h
  have b := set_heap _ q 1 v1 _ _ a
  simpa [Bx2] using b
theorem Bx2.fz {w : World} {q : Nat} {x0 x1 : Value} (h : Bx2 w q x0 x1) (i : Nat) : w.frozen? ⟨q, i, none⟩ = false := by unfold Bx2 at h; simp [World.frozen?, h]
theorem set2_below {B : Nat} {w0 w : World} (h : Below B w0 w) (q : Nat) (hq : B ≤ q) (v0 v1 : Value) : Below B w0 ((w.setCell ⟨q, 0, none⟩ v0).setCell ⟨q, 1, none⟩ v1) := (h.setCell hq v0).setCell hq v1
theorem OwnD.set2 {w : World} {g q : Nat} {d : List CR} (h : OwnD w g d) (hne : q ≠ g) (v0 v1 : Value) : OwnD ((w.setCell ⟨q, 0, none⟩ v0).setCell ⟨q, 1, none⟩ v1) g d := by
  unfold OwnD at h ⊢
  rw [RowKit.Below.heap_setCell _ _ _ _ (fun e => hne e.symm), RowKit.Below.heap_setCell _ _ _ _ (fun e => hne e.symm)]; exact h
def rq (r : RC) (q : Nat) : Value := .agg #[.string r.id, .slice (some ⟨q, 0, none⟩) r.d.length r.d.length]
set_option maxRecDepth 20000 in
set_option maxHeartbeats 1000000 in
theorem twinR_any (B : Nat) (r : RC) (ad : Option Addr) (cp : Nat) (w : World) (hd : DV B w ad cp r.d) (hl : r.d.length ≤ 1000000) : Calls Tryz.prog 25 #[rv r ad cp] w fun e w' => ∃ q, e = .returned (rq r q) ∧ w.heap.size ≤ q ∧ OwnD w' q r.d ∧ Below w.heap.size w w' := by
  obtain ⟨i0, hi, hz0, hz1, hz2⟩ := infoC
  obtain ⟨id, d⟩ := r
  replace hd : DV B w ad cp d := hd
  replace hl : d.length ≤ 1000000 := hl
  show Calls Tryz.prog 25 #[.agg #[.string id, .slice ad d.length cp]] w fun e w' => ∃ q, e = .returned (.agg #[.string id, .slice (some ⟨q, 0, none⟩) d.length d.length]) ∧ w.heap.size ≤ q ∧ OwnD w' q d ∧ Below w.heap.size w w'
  have HNEW : Hid (∀ W, Below w.heap.size w W → ∀ a, ad = some a → ∀ j v, (rw5 d)[j]? = some v → W.cell? (a.add j) = some v) := Lib.hid (fun W k a e j v hj => by
    have hjl := (List.getElem?_eq_some_iff.1 hj).1
    rw [rw5_len] at hjl
    have hV := (hd.below k).1
    obtain ⟨b, off, rfl⟩ := hV.addr (by omega)
    cases e
    refine cv_news hV j v ?_
    have e2 : cut (gl d) 0 d.length = d := by
      refine gl_ext (by rw [cut_len]; omega) (fun i hi => ?_)
      rw [cut_len] at hi
      rw [cut_at _ _ _ _ hi, Nat.zero_add]
    rw [e2]; exact hj)
  have HONE := Lib.hid (rw5_one d)
  have HLEN := Lib.hid (rw5_len d)
  have HNIL : Hid (ad = none → d.length = 0) := Lib.hid (fun e => (hd.2.2.2.1 e).1)
  have HOWN : Hid (∀ (W : World) q, W.heap[q]? = some (.cells (rw5 d).toArray 47) → OwnD W q d) := Lib.hid (fun W q h => h)
  obtain ⟨L, hL⟩ : ∃ L, L = rw5 d := ⟨_, rfl⟩
  rw [← hL] at HNEW HONE HLEN HOWN
  obtain ⟨n, hn⟩ : ∃ n, n = d.length := ⟨_, rfl⟩
  rw [← hn] at hl HLEN HNIL ⊢
  clear hL hn hd
  have hb2 : i0.bytes * n ≤ 281474976710656 := by rw [hz2]; omega
  have hbm : n ≤ maxLen := by unfold maxLen; omega
  go_enter Tryz.func25, Tryz.ntmps25
  have HX1 : Hid (Below w.heap.size w ((w.alloc (.cells #[.string id, .slice ad n cp] 28)).alloc (.cells #[.string ⟨#[]⟩, .slice none 0 0] 28))) := Lib.hid (((Below.refl _ _).alloc (Nat.le_refl _) _).alloc (by simp) _)
  have HA : Hid (Bx2 ((w.alloc (.cells #[.string id, .slice ad n cp] 28)).alloc (.cells #[.string ⟨#[]⟩, .slice none 0 0] 28)) w.heap.size (.string id) (.slice ad n cp)) := Lib.hid ((bx2_new w _ _).up ((Below.refl _ _).alloc (Nat.le_refl _) _))
  have HB : Hid (Bx2 ((w.alloc (.cells #[.string id, .slice ad n cp] 28)).alloc (.cells #[.string ⟨#[]⟩, .slice none 0 0] 28)) (w.heap.size + 1) (.string ⟨#[]⟩) (.slice none 0 0)) := Lib.hid (by
    have h := bx2_new (w.alloc (.cells #[.string id, .slice ad n cp] 28)) (.string ⟨#[]⟩) (.slice none 0 0)
    simpa using h)
  have HGR : Hid (∀ w3 : World, ((w.alloc (.cells #[.string id, .slice ad n cp] 28)).alloc (.cells #[.string ⟨#[]⟩, .slice none 0 0] 28)).grownBy w3 none → Below ((w.alloc (.cells #[.string id, .slice ad n cp] 28)).alloc (.cells #[.string ⟨#[]⟩, .slice none 0 0] 28)).heap.size ((w.alloc (.cells #[.string id, .slice ad n cp] 28)).alloc (.cells #[.string ⟨#[]⟩, .slice none 0 0] 28)) w3) := Lib.hid (fun w3 hg3 => (Below.refl _ _).grown hg3 (Nat.le_refl _) (fun k hk => by cases hk))
  have HCU : Hid (∀ (w3 : World) (xs : List Value), w3.ownsRow w.heap.size 47 5 (.slice (some ⟨((w.alloc (.cells #[.string id, .slice ad n cp] 28)).alloc (.cells #[.string ⟨#[]⟩, .slice none 0 0] 28)).heap.size, 0, none⟩) n n) n xs → ∃ cur : Array Value, w3.heap[w.heap.size + 1 + 1]? = some (.cells cur 47) ∧ cur.size = n * 5) := Lib.hid (fun w3 xs ho => by
    have e0 : ((w.alloc (.cells #[.string id, .slice ad n cp] 28)).alloc (.cells #[.string ⟨#[]⟩, .slice none 0 0] 28)).heap.size = w.heap.size + 1 + 1 := by simp
    rw [e0] at ho
    rcases ho.2 with ⟨h, _⟩ | ⟨g', cap', cur, e, _, h1, h2, h3, h4, h5⟩
    · cases h
    · simp only [Value.slice.injEq, Option.some.injEq, Addr.mk.injEq, and_true, true_and] at e
      obtain ⟨rfl, rfl⟩ := e
      exact ⟨cur, h1, h4⟩)
  have HDIF : Hid (∀ (W : World) v0 v1, OwnD W (w.heap.size + 1 + 1) d → OwnD ((W.setCell ⟨w.heap.size + 1, 0, none⟩ v0).setCell ⟨w.heap.size + 1, 1, none⟩ v1) (w.heap.size + 1 + 1) d) := Lib.hid (fun W v0 v1 h => h.set2 (by omega) v0 v1)
  have HSR : Hid (∀ (W : World) cur, W.heap[w.heap.size + 1 + 1]? = some (.cells cur 47) → OwnD (W.setRow (w.heap.size + 1 + 1) L.toArray) (w.heap.size + 1 + 1) d) := Lib.hid (fun W cur h => HOWN.out _ _ (setRow_heap W _ cur _ _ (0, 0) h))
  have HSB : Hid (∀ (W : World) p x0 x1, p < w.heap.size + 1 + 1 → Bx2 W p x0 x1 → Bx2 (W.setRow (w.heap.size + 1 + 1) L.toArray) p x0 x1) := Lib.hid (fun W p x0 x1 hp h => by
    unfold Bx2 at h ⊢
    rw [setRow_other W _ _ _ (by omega)]; exact h)
  have HSW : Hid (∀ (W : World), Below w.heap.size w W → Below w.heap.size w (W.setRow (w.heap.size + 1 + 1) L.toArray)) := Lib.hid (fun W h => below_setRow h (by omega) _)
  go_wp2_with (first
    | (at_make; refine wpList_make_full _ rfl _ _ 26 rfl w.heap.size 47 i0 (.agg #[.int .u8 0, .string ⟨#[]⟩, .string ⟨#[]⟩, .int .i64 0, .int .i64 0]) 5 Tryz.underlying26 hi hz0 hz1 .i64 .i64 n n n rfl rfl rfl rfl hb2 hbm (by simp; omega) ?_; intro w3 ho3 hg3; have BX := Lib.hid (HGR.out w3 hg3); have B3 : Hid (Below w.heap.size w w3) := Lib.hid (HX1.out.trans (BX.out.mono HX1.out.size)); have HA3 := Lib.hid (HA.out.up BX.out); have HB3 := Lib.hid (HB.out.up BX.out); obtain ⟨cur, hcur, hcs⟩ := HCU.out w3 _ ho3; have HCUR := Lib.hid hcur; clear ho3 hg3 hcur; have a1 := HA3.out.c1)
    | (with_reducible refine wpList_copy_all 5 rfl _ _ 26 26 rfl 47 Tryz.underlying26 infoCk (w.heap.size + 1 + 1) n n ad cp rfl rfl cur 47 L HCUR.out HLEN.out hcs HNIL.out (HNEW.out _ B3.out) HONE.out ?_; have D4 := Lib.hid (HSR.out w3 cur HCUR.out); have HA4 := Lib.hid (HSB.out w3 _ _ _ (by omega) HA3.out); have HB4 := Lib.hid (HSB.out w3 _ _ _ (by omega) HB3.out); have B4 := Lib.hid (HSW.out w3 B3.out); clear a1; generalize w3.setRow (w.heap.size + 1 + 1) L.toArray = w4 at D4 HA4 HB4 B4 ⊢; have a0 := HA4.out.c0; have b0 := HB4.out.c0; have b1 := HB4.out.c1; have f0 := HB4.out.fz 0; have f1 := HB4.out.fz 1))
  exact ret_rec Tryz.results25 rfl (HB4.out.set _ _) rfl ⟨w.heap.size + 1 + 1, rfl, by omega, HDIF.out _ _ _ D4.out, set2_below B4.out _ (by omega) _ _⟩
end Go.Proofs.YtfigebepeniikaaGreat
/- Layer 27: a table in new memory: what it is made in. -/
namespace Go.Proofs.YtfigebepeniikaaGreat
open Go.RowKit Go.Maps Go.Shelf
theorem clone_any (a : Option Addr) (c : Nat) (L : List ByteArray) (w : World) (hv : Ord.SView w a L.length L) (hn : L.length ≤ 1000000) (h0 : a = none → L.length = 0 ∧ c = 0) : Calls Tryz.prog 46 #[.slice a L.length c] w fun e w' => ∃ v, e = .returned v ∧ w'.ownsRow w.heap.size 9 1 v L.length (L.map Value.string) ∧ Below w.heap.size w w' := by
  cases a with
  | none =>
    obtain ⟨e1, rfl⟩ := h0 rfl
    have e2 : L = [] := List.length_eq_zero_iff.1 e1
    subst e2
    refine (Any.slices_Clone_string_nil Tryz.cloneS _ _ w).mono ?_
    rintro e w' ⟨rfl, rfl⟩
    exact ⟨_, rfl, World.ownsRow_nil _ _ _ _, Below.refl _ _⟩
  | some ad =>
    by_cases hz : L.length = 0
    · have e2 : L = [] := List.length_eq_zero_iff.1 hz
      subst e2
      refine (Any.slices_Clone_string_zero Tryz.cloneS ad c w).mono ?_
      rintro e w' ⟨v, rfl, ho, _, hb⟩
      exact ⟨v, rfl, ho, hb⟩
    · obtain ⟨b, off, e, _, _⟩ := hv.2 0 (by omega)
      cases e
      refine (Any.slices_Clone_string Tryz.cloneS b off L.length c L w (Nat.le_refl _) (by omega) (fun j hj => ?_)).mono ?_
      · obtain ⟨b', off', e, _, hc⟩ := hv.2 j hj
        cases e
        exact hc
      · rintro e w' ⟨v, rfl, ho, _, hb⟩
        rw [List.take_length] at ho
        exact ⟨v, rfl, ho, hb⟩
/-- What two cells a record stands in. -/
def rcell (r : RC) (q : Nat) : List Value := [.string r.id, .slice (some ⟨q, 0, none⟩) r.d.length r.d.length]
def rwR (R : List RC) (qs : List Nat) : List Value := (List.range qs.length).flatMap fun j => rcell (rl R j) (qs.getD j 0)
theorem rwR_snoc (R : List RC) (qs : List Nat) (q : Nat) : rwR R (qs ++ [q]) = rwR R qs ++ rcell (rl R qs.length) q := by
  unfold rwR
  rw [List.length_append, List.length_singleton, List.range_succ, List.flatMap_append]
  congr 1
  · rw [List.flatMap_def, List.flatMap_def]
    refine congrArg List.flatten (List.map_congr_left fun j hj => ?_)
    have hj := List.mem_range.1 hj
    show rcell _ ((qs ++ [q]).getD j 0) = rcell _ (qs.getD j 0)
    rw [List.getD_eq_getElem?_getD, List.getElem?_append_left hj, ← List.getD_eq_getElem?_getD]
  · rw [List.flatMap_singleton, List.getD_eq_getElem?_getD, List.getElem?_append_right (Nat.le_refl _)]
    simp
theorem flat2_len (f : Nat → List Value) (hf : ∀ j, (f j).length = 2) : ∀ n, ((List.range n).flatMap f).length = n * 2
  | 0 => rfl
  | n + 1 => by
    rw [List.range_succ, List.flatMap_append, List.length_append, flat2_len f hf n, List.flatMap_singleton, hf]
    omega
theorem flat2_at (f : Nat → List Value) (hf : ∀ j, (f j).length = 2) : ∀ n i, i < n → ((List.range n).flatMap f)[i * 2]? = (f i)[0]? ∧ ((List.range n).flatMap f)[i * 2 + 1]? = (f i)[1]?
  | n + 1, i, hi => by
    have hl := flat2_len f hf n
    rw [List.range_succ, List.flatMap_append, List.flatMap_singleton]
    by_cases e : i = n
    · subst e
      rw [List.getElem?_append_right (by omega), List.getElem?_append_right (by omega), hl]
      rw [show i * 2 - i * 2 = 0 by omega, show i * 2 + 1 - i * 2 = 1 by omega]
      exact ⟨rfl, rfl⟩
    · rw [List.getElem?_append_left (by omega), List.getElem?_append_left (by omega)]
      exact flat2_at f hf n i (by omega)
theorem rwR_len (R : List RC) (qs : List Nat) : (rwR R qs).length = qs.length * 2 := flat2_len _ (fun _ => rfl) _
theorem rwR_at (R : List RC) (qs : List Nat) (i : Nat) (hi : i < qs.length) : (rwR R qs)[i * 2]? = some (.string (rl R i).id) ∧ (rwR R qs)[i * 2 + 1]? = some (.slice (some ⟨qs.getD i 0, 0, none⟩) (rl R i).d.length (rl R i).d.length) := flat2_at _ (fun _ => rfl) _ i hi
/-- Rows of records, all in memory of their own. -/
structure OwnR (B : Nat) (w : World) (v : Value) (R : List RC) (qs : List Nat) : Prop where
  row : w.ownsRow B 28 2 v qs.length (rwR R qs)
  each : ∀ j, j < qs.length → B ≤ qs.getD j 0 ∧ OwnD w (qs.getD j 0) (rl R j).d
theorem OwnR.up {B : Nat} {w w' : World} {v : Value} {R : List RC} {qs : List Nat} (h : OwnR B w v R qs) (k : Below w.heap.size w w') : OwnR B w' v R qs := by
  refine ⟨?_, fun j hj => ⟨(h.each j hj).1, (h.each j hj).2.up k⟩⟩
  refine World.ownsRow.kept (row := none) h.row ⟨k.os, k.tape, k.output, k.size, fun i hi _ => k.block i hi⟩ ?_
  rcases h.row.2 with ⟨e, _⟩ | ⟨g, cap, cur, e, _⟩
  · exact .inl (by rw [e]; rfl)
  · refine .inr (by rw [e]; simp [Value.ownBlock])
theorem OwnD.grown {w w' : World} {q g : Nat} {d : List CR} {cur : Array Value} (h : OwnD w q d) (hg : w.heap[g]? = some (.cells cur 28)) (k : w.grownBy w' (some g)) : OwnD w' q d := by
  unfold OwnD at h ⊢
  rw [k.block q (Array.getElem?_eq_some_iff.1 h).1 ?_]
  · exact h
  · intro e
    simp only [Option.some.injEq] at e
    subst e
    rw [hg] at h
    simp only [Option.some.injEq, Obj.cells.injEq] at h
    exact absurd h.2.1 (by decide)
theorem OwnD.setB {w : World} {q p k : Nat} {d : List CR} {t : TypeId} {x0 x1 x2 x3 : Value} (h : OwnD w q d) (hp : Bx4 w p t x0 x1 x2 x3) (ht : t ≠ 47) (v : Value) : OwnD (w.setCell ⟨p, k, none⟩ v) q d := by
  unfold OwnD at h ⊢
  rw [RowKit.Below.heap_setCell _ _ _ _ ?_]
  · exact h
  · intro e
    subst e
    unfold Bx4 at hp
    rw [hp] at h
    simp only [Option.some.injEq, Obj.cells.injEq] at h
    exact ht h.2.1
theorem own_setB {w : World} {B n e size p k : Nat} {v u : Value} {xs : List Value} {t : TypeId} {x0 x1 x2 x3 : Value} (ho : w.ownsRow B e size v n xs) (hp : Bx4 w p t x0 x1 x2 x3) (ht : t ≠ e) : (w.setCell ⟨p, k, none⟩ u).ownsRow B e size v n xs := by
  refine World.ownsRow.kept ho (row := some p) ⟨rfl, rfl, rfl, by simp [World.setCell], fun i _ hne => RowKit.Below.heap_setCell _ _ _ _ (fun e => hne (by rw [e]))⟩ ?_
  rcases ho.2 with ⟨rfl, _⟩ | ⟨g', cap, cur, rfl, _, hgg, _⟩
  · exact .inl rfl
  · refine .inr fun ee => ?_
    simp only [Value.ownBlock, Option.some.injEq] at ee
    subst ee
    unfold Bx4 at hp
    rw [hgg] at hp
    simp only [Option.some.injEq, Obj.cells.injEq] at hp
    exact ht hp.2.1.symm
theorem OwnR.setB {B : Nat} {w : World} {v : Value} {R : List RC} {qs : List Nat} {p k : Nat} {t : TypeId} {x0 x1 x2 x3 u : Value} (h : OwnR B w v R qs) (hp : Bx4 w p t x0 x1 x2 x3) (ht : t ≠ 28) (ht2 : t ≠ 47) : OwnR B (w.setCell ⟨p, k, none⟩ u) v R qs :=
  ⟨own_setB h.row hp ht, fun j hj => ⟨(h.each j hj).1, (h.each j hj).2.setB hp ht2 u⟩⟩
theorem OwnR.rv {B : Nat} {w : World} {v : Value} {R : List RC} {qs : List Nat} (h : OwnR B w v R qs) (hl : qs.length = R.length) (hm : ∀ r ∈ R, r.d.length ≤ maxLen) : ∃ ad cap, v = .slice ad R.length cap ∧ R.length ≤ cap ∧ cap ≤ maxLen ∧ RV B w ad R ∧ (ad = none → R.length = 0 ∧ cap = 0) := by
  rcases h.row.2 with ⟨rfl, hn⟩ | ⟨g, cap, cur, rfl, hg, hgg, h1, h2, h3, h4⟩
  · rw [hl] at hn
    refine ⟨none, 0, by rw [hn], by omega, Nat.zero_le _, fun i hi => by omega, fun _ => ⟨hn, rfl⟩⟩
  · refine ⟨some ⟨g, 0, none⟩, cap, by rw [hl], by rw [← hl]; exact h1, h2, fun i hi => ?_, fun e => (by cases e)⟩
    obtain ⟨c0, c1⟩ := rwR_at R qs i (by omega)
    obtain ⟨e1, e2⟩ := h.each i (by omega)
    have k0 := h.row.cellAt (i * 2) (by omega)
    have k1 := h.row.cellAt (i * 2 + 1) (by omega)
    exact ⟨g, 0, _, _, rfl, hg, (Array.getElem?_eq_some_iff.1 hgg).1, by rw [Nat.zero_add, k0]; exact c0, by rw [Nat.zero_add, k1]; exact c1, e2.dv e1 (hm _ (rl_mem hi))⟩
theorem ret_tab {R : Ending → World → Prop} {fn : Func} {tmps : Array Value} {w : World} {g : Nat} {cs : Array Value} (hr : fn.results = #[.cell 2 25]) (h2 : tmps.getD 2 undef = .pointer (some ⟨g, 0, none⟩)) (hg : w.heap[g]? = some (.cells cs 25)) (hs : cs.size = 4)
    (hR : R (.returned (.agg cs)) w) : bodyPost Tryz.prog fn R .ret ⟨tmps, []⟩ w := by
  refine bodyPost_ret (v := .agg cs) ?_ rfl hR
  have hi : (Tryz.prog.info? 25).map (·.size) = some 4 := by kernel_rfl
  exact results_cell_row hr tmps w g 25 cs (0, 0) _ h2 hg Tryz.underlying25 rfl (by rw [hi, hs])
/-- A table in memory of its own. -/
structure OwnT (B : Nat) (w : World) (T : TM) (a1 : Option Addr) (c1 g : Nat) (qs : List Nat) : Prop where
  u : w.ownsRow B 9 1 (.slice a1 T.uq.length c1) T.uq.length (T.uq.map Value.string)
  r : OwnR B w (.slice (some ⟨g, 0, none⟩) T.rows.length T.rows.length) T.rows qs
  l : qs.length = T.rows.length
theorem own_up {B e size n : Nat} {w w' : World} {v : Value} {xs : List Value} (h : w.ownsRow B e size v n xs) (k : Below w.heap.size w w') : w'.ownsRow B e size v n xs := by
  refine World.ownsRow.kept (row := none) h ⟨k.os, k.tape, k.output, k.size, fun i hi _ => k.block i hi⟩ ?_
  rcases h.2 with ⟨e, _⟩ | ⟨g, cap, cur, e, _⟩
  · exact .inl (by rw [e]; rfl)
  · refine .inr (by rw [e]; simp [Value.ownBlock])
theorem OwnT.up {B : Nat} {w w' : World} {T : TM} {a1 : Option Addr} {c1 g : Nat} {qs : List Nat} (h : OwnT B w T a1 c1 g qs) (k : Below w.heap.size w w') : OwnT B w' T a1 c1 g qs := ⟨own_up h.u k, h.r.up k, h.l⟩
theorem OwnT.tvs {B : Nat} {w : World} {T : TM} {a1 : Option Addr} {c1 g : Nat} {qs : List Nat} (h : OwnT B w T a1 c1 g qs) (hm : ∀ r ∈ T.rows, r.d.length ≤ maxLen) : TVs B w T a1 c1 (some ⟨g, 0, none⟩) T.rows.length := by
  obtain ⟨ad, cap, e, h1, h2, h3, h4, h5⟩ := sview_own h.u
  simp only [Value.slice.injEq, true_and] at e
  obtain ⟨rfl, rfl⟩ := e
  obtain ⟨ad, cap, e, k1, k2, k3, k4⟩ := h.r.rv h.l hm
  simp only [Value.slice.injEq, true_and] at e
  obtain ⟨rfl, rfl⟩ := e
  exact ⟨h3, h1, h2, h4, h5, k3, k1, k2, fun e => by cases e⟩
end Go.Proofs.YtfigebepeniikaaGreat
/- Layer 27: Twin. -/
namespace Go.Proofs.YtfigebepeniikaaGreat
open Go.RowKit Go.Maps Go.Shelf
theorem Bx4.set0 {w : World} {q t : Nat} {x0 x1 x2 x3 : Value} (h : Bx4 w q t x0 x1 x2 x3) (v : Value) : Bx4 (w.setCell ⟨q, 0, none⟩ v) q t v x1 x2 x3 := by
  have := set_heap w q 0 v _ _ h
  simpa [Bx4] using this
theorem Bx4.set1 {w : World} {q t : Nat} {x0 x1 x2 x3 : Value} (h : Bx4 w q t x0 x1 x2 x3) (v : Value) : Bx4 (w.setCell ⟨q, 1, none⟩ v) q t x0 v x2 x3 := by
  have := set_heap w q 1 v _ _ h
  simpa [Bx4] using this
def W4 (w : World) (q : Nat) (v0 v1 v2 v3 : Value) : World := (((w.setCell ⟨q, 0, none⟩ v0).setCell ⟨q, 1, none⟩ v1).setCell ⟨q, 2, none⟩ v2).setCell ⟨q, 3, none⟩ v3
theorem Bx4.set4 {w : World} {q t : Nat} {x0 x1 x2 x3 : Value} (h : Bx4 w q t x0 x1 x2 x3) (v0 v1 v2 v3 : Value) : Bx4 (W4 w q v0 v1 v2 v3) q t v0 v1 v2 v3 := (((h.set0 v0).set1 v1).set2 v2).set3 v3
theorem w4_below {B q : Nat} {w0 w : World} (h : Below B w0 w) (hq : B ≤ q) (v0 v1 v2 v3 : Value) : Below B w0 (W4 w q v0 v1 v2 v3) := (((h.setCell hq v0).setCell hq v1).setCell hq v2).setCell hq v3
theorem OwnT.setB {B : Nat} {w : World} {T : TM} {a1 : Option Addr} {c1 g : Nat} {qs : List Nat} {p k : Nat} {t : TypeId} {x0 x1 x2 x3 : Value} (h : OwnT B w T a1 c1 g qs) (hp : Bx4 w p t x0 x1 x2 x3) (h1 : t ≠ 9) (h2 : t ≠ 28) (h3 : t ≠ 47) (u : Value) : OwnT B (w.setCell ⟨p, k, none⟩ u) T a1 c1 g qs := ⟨own_setB h.u hp h1, h.r.setB hp h2 h3, h.l⟩
theorem OwnT.set4 {B : Nat} {w : World} {T : TM} {a1 : Option Addr} {c1 g : Nat} {qs : List Nat} {p : Nat} {t : TypeId} {x0 x1 x2 x3 : Value} (h : OwnT B w T a1 c1 g qs) (hp : Bx4 w p t x0 x1 x2 x3) (h1 : t ≠ 9) (h2 : t ≠ 28) (h3 : t ≠ 47) (v0 v1 v2 v3 : Value) : OwnT B (W4 w p v0 v1 v2 v3) T a1 c1 g qs :=
  (((h.setB hp h1 h2 h3 v0).setB (hp.set0 v0) h1 h2 h3 v1).setB ((hp.set0 v0).set1 v1) h1 h2 h3 v2).setB (((hp.set0 v0).set1 v1).set2 v2) h1 h2 h3 v3
theorem ownsRow_mono {w : World} {B B' e size n : Nat} {v : Value} {xs : List Value} (h : w.ownsRow B e size v n xs) (hb : B' ≤ B) : w.ownsRow B' e size v n xs := by
  refine ⟨h.1, ?_⟩
  rcases h.2 with e | ⟨g, cap, cur, e, h0, h1⟩
  · exact .inl e
  · exact .inr ⟨g, cap, cur, e, Nat.le_trans hb h0, h1⟩
theorem step_fits {P : Program} {ops : Array Oper} {o : Oper} {a : Act} {w : World} {K : Act → World → Prop} {Q : Exit → Act → World → Prop} {E : Prop}
    (hg : o.guard = none) (s x : Operand) (t : TypeId) (hop : o.op = Op.call { callee := Callee.builtin Builtin.append, args := #[s, x], argTypes := #[t, t] })
    (base : Nat) (e : TypeId) (i : TypeInfo) (size : Nat) (h1 : P.underlying t = some (.slice e)) (h2 : P.info? e = some i) (h4 : i.size = size)
    (g k cap : Nat) (xs : List Value) (hs : a.eval s = .slice (some ⟨g, 0, none⟩) k cap) (hown : w.ownsRow base e size (.slice (some ⟨g, 0, none⟩) k cap) k xs) (ad : Addr) (m c : Nat) (news : List Value) (hx : a.eval x = .slice (some ad) m c) (hn : news.length = m * size)
    (hc : ∀ j u, news[j]? = some u → w.cell? (ad.add j) = some u) (h1c : ∀ u ∈ news, u.oneCell' = true) (b1 : k + m ≤ cap)
    (hK : ∀ w', w'.ownsRow base e size (.slice (some ⟨g, 0, none⟩) (k + m) cap) (k + m) (xs ++ news) → w.grownBy w' (some g) → K (a.put o.dst (.slice (some ⟨g, 0, none⟩) (k + m) cap)) w') :
    if Region.wanted o (yielded ops a.tmps) = true then Oper.wp P o a w K Q else E := by
  have hw : Region.wanted o (yielded ops a.tmps) = true := by simp [Region.wanted, hg]
  rw [if_pos hw]
  obtain ⟨w', hrun, r1, r2⟩ := run_append_fits (P := P) w base t o.type e i size h1 h2 h4 g k cap xs hown ad m c news hn hc h1c b1
  unfold Oper.wp
  simp [execOp, hop, resolve, invoke, builtin, hs, hx, hrun, Result.andThen]
  exact hK w' r1 r2
/-- What holds while a twin is made. -/
structure TwS (w W : World) (nm : ByteArray) (m : Int) (v1 : Value) (L : List ByteArray) (R : List RC) (g n : Nat) (qs : List Nat) : Prop where
  bl : Below w.heap.size w W
  b2 : Bx4 W (w.heap.size + 1) 25 (.string ⟨#[]⟩) (.int .i64 0) (.slice none 0 0) (.slice none 0 0)
  b3 : Bx4 W (w.heap.size + 1 + 1) 53 (.string nm) (.int .i64 m) v1 (.slice (some ⟨g, 0, none⟩) qs.length n)
  u : W.ownsRow w.heap.size 9 1 v1 L.length (L.map Value.string)
  r : OwnR w.heap.size W (.slice (some ⟨g, 0, none⟩) qs.length n) R qs
theorem TwS.up {w W W' : World} {nm : ByteArray} {m : Int} {v1 : Value} {L : List ByteArray} {R : List RC} {g n : Nat} {qs : List Nat} (h : TwS w W nm m v1 L R g n qs) (k : Below W.heap.size W W') : TwS w W' nm m v1 L R g n qs :=
  ⟨h.bl.trans (k.mono h.bl.size), h.b2.up k, h.b3.up k, own_up h.u k, h.r.up k⟩
theorem OwnR.cur {B g k n : Nat} {w : World} {R : List RC} {qs : List Nat} (h : OwnR B w (.slice (some ⟨g, 0, none⟩) k n) R qs) : B ≤ g ∧ ∃ cur, w.heap[g]? = some (.cells cur 28) := by
  rcases h.row.2 with ⟨e, _⟩ | ⟨g', cap, cur, e, h0, h1, _⟩
  · cases e
  · simp only [Value.slice.injEq, Option.some.injEq, Addr.mk.injEq, and_true] at e
    obtain ⟨rfl, _⟩ := e
    exact ⟨h0, cur, h1⟩
theorem Bx4.grown {w w' : World} {q g : Nat} {t : TypeId} {x0 x1 x2 x3 : Value} {cur : Array Value} (h : Bx4 w q t x0 x1 x2 x3) (hg : w.heap[g]? = some (.cells cur 28)) (ht : t ≠ 28) (k : w.grownBy w' (some g)) : Bx4 w' q t x0 x1 x2 x3 := by
  unfold Bx4 at h ⊢
  rw [k.block q (Array.getElem?_eq_some_iff.1 h).1 ?_]
  · exact h
  · intro e
    simp only [Option.some.injEq] at e
    subst e
    rw [hg] at h
    simp only [Option.some.injEq, Obj.cells.injEq] at h
    exact ht h.2.1.symm
theorem own_other {w w' : World} {B n e size g : Nat} {v : Value} {xs : List Value} {cur : Array Value} (ho : w.ownsRow B e size v n xs) (hg : w.heap[g]? = some (.cells cur 28)) (he : e ≠ 28) (k : w.grownBy w' (some g)) : w'.ownsRow B e size v n xs := by
  refine World.ownsRow.kept ho k ?_
  rcases ho.2 with ⟨rfl, _⟩ | ⟨g', cap, cur', rfl, _, hgg, _⟩
  · exact .inl rfl
  · refine .inr fun ee => ?_
    simp only [Value.ownBlock, Option.some.injEq] at ee
    subst ee
    rw [hgg] at hg
    simp only [Option.some.injEq, Obj.cells.injEq] at hg
    exact he hg.2.1
theorem TwS.next {w W W' : World} {nm : ByteArray} {m : Int} {v1 : Value} {L : List ByteArray} {R : List RC} {g n q : Nat} {qs : List Nat} (h : TwS w W nm m v1 L R g n qs) (hq : OwnD W q (rl R qs.length).d) (hb : w.heap.size ≤ q) (k : W.grownBy W' (some g)) (ho : W'.ownsRow w.heap.size 28 2 (.slice (some ⟨g, 0, none⟩) (qs.length + 1) n) (qs.length + 1) (rwR R qs ++ rcell (rl R qs.length) q)) :
    TwS w (W'.setCell ⟨w.heap.size + 1 + 1, 3, none⟩ (.slice (some ⟨g, 0, none⟩) (qs.length + 1) n)) nm m v1 L R g n (qs ++ [q]) := by
  obtain ⟨hg0, cur, hg⟩ := h.r.cur
  have b3 := h.b3.grown hg (by decide) k
  have r1 : OwnR w.heap.size W' (.slice (some ⟨g, 0, none⟩) (qs ++ [q]).length n) R (qs ++ [q]) := by
    refine ⟨?_, fun j hj => ?_⟩
    · rw [rwR_snoc, List.length_append, List.length_singleton]; exact ho
    · by_cases e : j = qs.length
      · subst e
        rw [List.getD_eq_getElem?_getD, List.getElem?_append_right (Nat.le_refl _)]
        simp only [Nat.sub_self, List.getElem?_cons_zero, Option.getD_some]
        exact ⟨hb, hq.grown hg k⟩
      · have hj' : j < qs.length := by simp at hj; omega
        rw [List.getD_eq_getElem?_getD, List.getElem?_append_left hj', ← List.getD_eq_getElem?_getD]
        exact ⟨(h.r.each j hj').1, (h.r.each j hj').2.grown hg k⟩
  refine ⟨(h.bl.grown k h.bl.size (fun q hq => by cases hq; exact hg0)).setCell (by show w.heap.size ≤ w.heap.size + 1 + 1; omega) _, (h.b2.grown hg (by decide) k).other (by omega) _, ?_, own_setB (own_other h.u hg (by decide) k) b3 (by decide), r1.setB b3 (by decide) (by decide)⟩
  have e := b3.set3 (.slice (some ⟨g, 0, none⟩) (qs.length + 1) n)
  rw [List.length_append, List.length_singleton]
  exact e
theorem TwS.fin {w W : World} {nm : ByteArray} {m : Int} {a1 : Option Addr} {c1 : Nat} {L : List ByteArray} {R : List RC} {g : Nat} {qs : List Nat} (h : TwS w W nm m (.slice a1 L.length c1) L R g R.length qs) (hl : qs.length = R.length) : OwnT w.heap.size W ⟨nm, m, L, R⟩ a1 c1 g qs := by
  refine ⟨h.u, ?_, hl⟩
  have r := h.r
  rw [hl] at r
  exact r
end Go.Proofs.YtfigebepeniikaaGreat
/- Layer 27: Twin, walked. -/
namespace Go.Proofs.YtfigebepeniikaaGreat
open Go.RowKit Go.Maps Go.Shelf
/-- What Twin tells. -/
def TwPost (w : World) (T : TM) (e : Ending) (w' : World) : Prop := ∃ b1 k1 g qs, e = .returned (tv T b1 k1 (some ⟨g, 0, none⟩) T.rows.length) ∧ OwnT w.heap.size w' T b1 k1 g qs ∧ Below w.heap.size w w'
set_option maxRecDepth 20000 in
set_option maxHeartbeats 2000000 in
theorem tTwin_any (B : Nat) (T : TM) (a1 a2 : Option Addr) (c1 c2 : Nat) (w : World) (hv : TVs B w T a1 c1 a2 c2) (hs : SmT T) : Calls Tryz.prog 20 #[tv T a1 c1 a2 c2] w (TwPost w T) := by
  obtain ⟨i0, hI0, hz0, hz1, hz2⟩ := infoR
  obtain ⟨nm, m, uq, R⟩ := T
  have hr : RV B w a2 R := hv.r
  have hu : Ord.SView w a1 uq.length uq := hv.u
  have hun : a1 = none → uq.length = 0 ∧ c1 = 0 := hv.un
  have hRn : R.length ≤ 1000 := hs.rows
  have hUn : uq.length ≤ 1000 := hs.uq
  show Calls Tryz.prog 20 #[.agg #[.string nm, .int .i64 m, .slice a1 uq.length c1, .slice a2 R.length c2]] w (TwPost w ⟨nm, m, uq, R⟩)
  have HCL := Lib.hid (fun W (k : Below w.heap.size w W) => clone_any a1 c1 uq W (hu.below k) (by omega) hun)
  have HRV := Lib.hid (fun W (k : Below w.heap.size w W) => hr.below k)
  have HTW := Lib.hid (fun i (hi : i < R.length) ad cp W (hd : DV B W ad cp (rl R i).d) => twinR_any B (rl R i) ad cp W hd (by have h : (rl R i).d.length ≤ 100000 := (hs.each (rl R i) (rl_mem hi)).2.1; omega))
  obtain ⟨nu, hnu⟩ : ∃ n, n = uq.length := ⟨_, rfl⟩
  obtain ⟨n, hn⟩ : ∃ n, n = R.length := ⟨_, rfl⟩
  have HFIN : Hid (∀ W g qs b1 k1, TwS w W nm m (.slice b1 nu k1) uq R g n qs → qs.length = n → OwnT w.heap.size W ⟨nm, m, uq, R⟩ b1 k1 g qs) := Lib.hid (fun W g qs b1 k1 h hl => by
    rw [hn] at h hl
    rw [hnu] at h
    exact h.fin hl)
  have HRn := Lib.hid hn
  have HUu := Lib.hid hnu
  have HPO : Hid (∀ b1 k1 g qs W, OwnT w.heap.size W ⟨nm, m, uq, R⟩ b1 k1 g qs → Below w.heap.size w W → TwPost w ⟨nm, m, uq, R⟩ (.returned (.agg #[.string nm, .int .i64 m, .slice b1 uq.length k1, .slice (some ⟨g, 0, none⟩) R.length R.length])) W) := Lib.hid (fun b1 k1 g qs W h1 h2 => ⟨b1, k1, g, qs, rfl, h1, h2⟩)
  rw [← hnu] at HCL HPO ⊢
  rw [← hn] at HTW hRn HPO ⊢
  obtain ⟨W3, hW3⟩ : ∃ W, W = ((w.alloc (.cells #[.string nm, .int .i64 m, .slice a1 nu c1, .slice a2 n c2] 25)).alloc (.cells #[.string ⟨#[]⟩, .int .i64 0, .slice none 0 0, .slice none 0 0] 25)).alloc (.cells #[.string nm, .int .i64 m, .slice a1 nu c1, .slice a2 n c2] 53) := ⟨_, rfl⟩
  have HB3 : Hid (Below w.heap.size w W3) := Lib.hid (by rw [hW3]; exact (((Below.refl _ _).alloc (Nat.le_refl _) _).alloc (by simp) _).alloc (by simp; omega) _)
  have HQ1 : Hid (Bx4 W3 w.heap.size 25 (.string nm) (.int .i64 m) (.slice a1 nu c1) (.slice a2 n c2)) := Lib.hid (by
    rw [hW3]
    exact ((bx4_new w _ _ _ _ _).up ((Below.refl _ _).alloc (Nat.le_refl _) _)).up ((Below.refl _ _).alloc (Nat.le_refl _) _))
  have HQ2 : Hid (Bx4 W3 (w.heap.size + 1) 25 (.string ⟨#[]⟩) (.int .i64 0) (.slice none 0 0) (.slice none 0 0)) := Lib.hid (by
    rw [hW3]
    have h := (bx4_new (w.alloc (.cells #[.string nm, .int .i64 m, .slice a1 nu c1, .slice a2 n c2] 25)) 25 (.string ⟨#[]⟩) (.int .i64 0) (.slice none 0 0) (.slice none 0 0)).up ((Below.refl _ _).alloc (Nat.le_refl _) (.cells #[.string nm, .int .i64 m, .slice a1 nu c1, .slice a2 n c2] 53))
    simpa using h)
  have HQ3 : Hid (Bx4 W3 (w.heap.size + 1 + 1) 53 (.string nm) (.int .i64 m) (.slice a1 nu c1) (.slice a2 n c2)) := Lib.hid (by
    rw [hW3]
    have h := bx4_new ((w.alloc (.cells #[.string nm, .int .i64 m, .slice a1 nu c1, .slice a2 n c2] 25)).alloc (.cells #[.string ⟨#[]⟩, .int .i64 0, .slice none 0 0, .slice none 0 0] 25)) 53 (.string nm) (.int .i64 m) (.slice a1 nu c1) (.slice a2 n c2)
    simpa using h)
  have hb16 : i0.bytes * n ≤ 281474976710656 := by rw [hz2]; omega
  have hR1 : (n : Int) ≤ 1000 := by omega
  clear hv hs hr hu hun hn hnu hUn
  go_enter Tryz.func20, Tryz.ntmps20
  go_wp2_with fail
  rw [← hW3]
  clear hW3
  refine (HCL.out W3 HB3.out).mono ?_
  rintro e w1 ⟨v, rfl, ho, b1⟩
  rw [HUu.out] at ho
  obtain ⟨ad1, k1, rfl, _⟩ := sview_own ho
  have B1 := Lib.hid (HB3.out.trans (b1.mono HB3.out.size))
  have O1 : Hid (w1.ownsRow w.heap.size 9 1 (.slice ad1 uq.length k1) uq.length (uq.map Value.string)) := Lib.hid (ownsRow_mono ho HB3.out.size)
  rw [← HUu.out] at O1
  have Q1 := Lib.hid (HQ1.out.up b1)
  have Q2 := Lib.hid (HQ2.out.up b1)
  have Q3 := Lib.hid (HQ3.out.up b1)
  clear ho b1 HQ1 HQ2 HQ3 HB3 HCL
  rw [← HUu.out]
  have x2 := Q3.out.c2
  have y2 := Q3.out.fz 2
  have B2 : Hid (Below w.heap.size w (w1.setCell ⟨w.heap.size + 1 + 1, 2, none⟩ (.slice ad1 nu k1))) := Lib.hid (B1.out.setCell (by show w.heap.size ≤ w.heap.size + 1 + 1; omega) _)
  have O2 : Hid ((w1.setCell ⟨w.heap.size + 1 + 1, 2, none⟩ (.slice ad1 nu k1)).ownsRow w.heap.size 9 1 (.slice ad1 nu k1) nu (uq.map Value.string)) := Lib.hid (own_setB O1.out Q3.out (by decide))
  have P1 : Hid (Bx4 (w1.setCell ⟨w.heap.size + 1 + 1, 2, none⟩ (.slice ad1 nu k1)) w.heap.size 25 (.string nm) (.int .i64 m) (.slice a1 nu c1) (.slice a2 n c2)) := Lib.hid (Q1.out.other (by omega) _)
  have P2 : Hid (Bx4 (w1.setCell ⟨w.heap.size + 1 + 1, 2, none⟩ (.slice ad1 nu k1)) (w.heap.size + 1) 25 (.string ⟨#[]⟩) (.int .i64 0) (.slice none 0 0) (.slice none 0 0)) := Lib.hid (Q2.out.other (by omega) _)
  have P3 : Hid (Bx4 (w1.setCell ⟨w.heap.size + 1 + 1, 2, none⟩ (.slice ad1 nu k1)) (w.heap.size + 1 + 1) 53 (.string nm) (.int .i64 m) (.slice ad1 nu k1) (.slice a2 n c2)) := Lib.hid (Q3.out.set2 _)
  clear O1 Q1 Q2 Q3 B1
  have x3 := P1.out.c3
  have HGR : Hid (∀ w3 : World, (w1.setCell ⟨w.heap.size + 1 + 1, 2, none⟩ (.slice ad1 nu k1)).grownBy w3 none → Below (w1.setCell ⟨w.heap.size + 1 + 1, 2, none⟩ (.slice ad1 nu k1)).heap.size (w1.setCell ⟨w.heap.size + 1 + 1, 2, none⟩ (.slice ad1 nu k1)) w3) := Lib.hid (fun w3 hg3 => (Below.refl _ _).grown hg3 (Nat.le_refl _) (fun k hk => by cases hk))
  go_wp2_with (at_make; refine wpList_make_own _ rfl _ _ 23 rfl w.heap.size 28 i0 (.agg #[.string ⟨#[]⟩, .slice none 0 0]) 2 Tryz.underlying23 hI0 hz0 hz1 .i64 .i64 n n rfl rfl rfl hb16 (by unfold maxLen; omega) (by have := B2.out.size; exact this) ?_; intro w3 ho3 hg3; have BX := Lib.hid (HGR.out w3 hg3); have R3 := Lib.hid ho3; have S1 := Lib.hid (P1.out.up BX.out); have S2 := Lib.hid (P2.out.up BX.out); have S3 := Lib.hid (P3.out.up BX.out); have U3 := Lib.hid (own_up O2.out BX.out); have B3 := Lib.hid (B2.out.trans (BX.out.mono B2.out.size)); clear ho3 hg3 x2 y2; have z3 := S3.out.c3; have f3 := S3.out.fz 3; have x4 := S1.out.c3)
  have HT0 : Hid (TwS w (w3.setCell ⟨w.heap.size + 1 + 1, 3, none⟩ (.slice (some ⟨w1.heap.size, 0, none⟩) 0 n)) nm m (.slice ad1 nu k1) uq R w1.heap.size n []) := Lib.hid (by
    have hu := U3.out
    have hr := R3.out
    have e0 : (w1.setCell ⟨w.heap.size + 1 + 1, 2, none⟩ (.slice ad1 nu k1)).heap.size = w1.heap.size := by simp [World.setCell]
    rw [e0] at hr
    refine ⟨B3.out.setCell (by show w.heap.size ≤ w.heap.size + 1 + 1; omega) _, S2.out.other (by omega) _, S3.out.set3 _, ?_, ⟨own_setB hr S3.out (by decide), fun j hj => absurd hj (Nat.not_lt_zero j)⟩⟩
    rw [HUu.out] at hu ⊢
    exact own_setB hu S3.out (by decide))
  clear HGR U3 R3 S1 S2 S3 P1 P2 P3 B2 B3 O2 x3 x4 z3 f3 BX
  generalize w3.setCell ⟨w.heap.size + 1 + 1, 3, none⟩ (.slice (some ⟨w1.heap.size, 0, none⟩) 0 n) = W5 at HT0 ⊢
  obtain ⟨g, hg⟩ : ∃ g, g = w1.heap.size := ⟨_, rfl⟩
  rw [← hg] at HT0 ⊢
  clear hg
  go_loopw [5, 22] (fun _ v22 wr => ∃ i : Nat, i ≤ n ∧ v22 = .int .i64 i ∧ Hid (∃ qs, qs.length = i ∧ TwS w wr nm m (.slice ad1 nu k1) uq R g n qs)) (fun _ v22 _ => n - (intOf v22).toNat)
  case atStart => exact ⟨0, Nat.zero_le _, rfl, Lib.hid ⟨[], rfl, HT0.out⟩⟩
  case round =>
    obtain ⟨i, hi, rfl, HQ⟩ := hrel
    obtain ⟨qs, hql, hts⟩ := HQ.out
    have HT := Lib.hid hts
    have HQL := Lib.hid hql
    clear HQ hts hql
    by_cases hlt : i < n
    · have hlt' : (i : Int) < n := by omega
      have hge : (0 : Int) ≤ i := by omega
      have HRW := Lib.hid (HRV.out wr HT.out.bl)
      have hiR : i < R.length := by rw [← HRn.out]; exact hlt
      obtain ⟨b, off, rfl⟩ := HRW.out.addr (by omega)
      obtain ⟨ai, ci, _, _, d0, d1, dv⟩ := HRW.out.at_ hiR
      have HDV := Lib.hid dv
      have HTC := Lib.hid (fun V (k : Below wr.heap.size wr V) => HTW.out i hlt ai ci V (dv.below k))
      unfold rv rq at HTC
      have HNX : Hid (∀ V V' q, TwS w V nm m (.slice ad1 nu k1) uq R g n qs → OwnD V q (rl R i).d → w.heap.size ≤ q → V.grownBy V' (some g) → V'.ownsRow w.heap.size 28 2 (.slice (some ⟨g, 0, none⟩) (i + 1) n) (i + 1) (rwR R qs ++ rcell (rl R i) q) → TwS w (V'.setCell ⟨w.heap.size + 1 + 1, 3, none⟩ (.slice (some ⟨g, 0, none⟩) (i + 1) n)) nm m (.slice ad1 nu k1) uq R g n (qs ++ [q])) := Lib.hid (fun V V' q h1 h2 h3 h4 h5 => by
        rw [← HQL.out] at h2 h5 ⊢
        exact h1.next h2 h3 h4 h5)
      unfold rcell at HNX
      obtain ⟨id, hid⟩ : ∃ x, x = (rl R i).id := ⟨_, rfl⟩
      obtain ⟨l, hl⟩ : ∃ x, x = (rl R i).d.length := ⟨_, rfl⟩
      obtain ⟨dd, hdd⟩ : ∃ x, x = (rl R i).d := ⟨_, rfl⟩
      rw [← hid] at d0 HTC HNX
      rw [← hl] at d1 HTC HNX
      rw [← hdd] at HTC HNX
      obtain ⟨X, hX⟩ : ∃ X, X = wr.alloc (.cells #[.string id, .slice ai l ci] 28) := ⟨_, rfl⟩
      have BX : Hid (Below wr.heap.size wr X) := Lib.hid (by rw [hX]; exact (Below.refl _ _).alloc (Nat.le_refl _) _)
      have QX : Hid (Bx2 X wr.heap.size (.string id) (.slice ai l ci)) := Lib.hid (by rw [hX]; exact bx2_new wr _ _)
      have TX := Lib.hid (HT.out.up BX.out)
      have TD := Lib.hid (TX.out.up (Below.refl X.heap.size X).drew)
      have BD := Lib.hid (BX.out.trans ((Below.refl X.heap.size X).drew.mono BX.out.size))
      have y0 := QX.out.c0
      have y1 := QX.out.c1
      have y3 := TX.out.b3.c3
      rw [HQL.out] at y3
      clear hid hl hdd dv HRW hiR
      go_wp2_with fail
      rw [← hX]
      clear hX
      have y0' := (QX.out.up (Below.refl X.heap.size X).drew).c0
      have y1' := (QX.out.up (Below.refl X.heap.size X).drew).c1
      have yd := TD.out.b3.c3
      rw [HQL.out] at yd
      clear QX TX BX
      go_region_law (first
        | (refine step_fits rfl (.tmp 28) (.tmp 31) 23 rfl w.heap.size 28 i0 2 Tryz.underlying23 hI0 hz1 g i n (rwR R qs) (by simp [Act.eval, Act.put]) R5.out ⟨w5.heap.size, 0, none⟩ 1 1 [.string id, .slice (some ⟨q, 0, none⟩) l l] (by simp [Act.eval, Act.put]) rfl (news_at _ _ _ _ rfl) (by intro u hu; simp at hu; rcases hu with rfl | rfl <;> rfl) (by omega) ?_; intro w6 ho6 hg6; have T6 := Lib.hid (HNX.out _ w6 q T5.out D5.out Q0.out hg6 ho6); have G6 := Lib.hid (T5.out.r.cur); have b36 : Hid (Bx4 w6 (w.heap.size + 1 + 1) 53 (.string nm) (.int .i64 m) (.slice ad1 nu k1) (.slice (some ⟨g, 0, none⟩) qs.length n)) := Lib.hid (by obtain ⟨_, cur, hc⟩ := G6.out; exact T5.out.b3.grown hc (by decide) hg6); have z3 := b36.out.c3; have f3 := b36.out.fz 3; clear ho6 hg6)
        | (go_simp; go_at_call 25; refine (HTC.out X.drew BD.out).mono ?_; rintro e w5 ⟨q, rfl, hq0, hod, b5⟩; have T5 := Lib.hid ((TD.out.up b5).up ((Below.refl w5.heap.size w5).alloc (Nat.le_refl _) (.cells #[.string id, .slice (some ⟨q, 0, none⟩) l l] 28))); have D5 := Lib.hid (hod.up ((Below.refl w5.heap.size w5).alloc (Nat.le_refl _) (.cells #[.string id, .slice (some ⟨q, 0, none⟩) l l] 28))); have Q0 : Hid (w.heap.size ≤ q) := Lib.hid (Nat.le_trans TD.out.bl.size hq0); have R5 : Hid ((w5.alloc (.cells #[.string id, .slice (some ⟨q, 0, none⟩) l l] 28)).ownsRow w.heap.size 28 2 (.slice (some ⟨g, 0, none⟩) i n) i (rwR R qs)) := Lib.hid (by have h := T5.out.r.row; rw [HQL.out] at h; exact h); have y5 := (TD.out.up b5).b3.c3; rw [HQL.out] at y5; have y6 := T5.out.b3.c3; rw [HQL.out] at y6; clear hq0 hod b5))
      all_goals (go_wp2_with fail)
      all_goals exact ⟨⟨i + 1, by omega, by go_num, Lib.hid ⟨qs ++ [q], by rw [List.length_append, HQL.out]; rfl, T6.out⟩⟩, by simp [intOf]; omega⟩
    · have him : i = n := by omega
      subst him
      have hge : ¬ (i : Int) < i := by omega
      have y0 := HT.out.b3.c0
      have y1 := HT.out.b3.c1
      have y2 := HT.out.b3.c2
      have y3 := HT.out.b3.c3
      rw [HQL.out] at y3
      have z0 := HT.out.b2.c0
      have z1 := HT.out.b2.c1
      have z2 := HT.out.b2.c2
      have z3 := HT.out.b2.c3
      have f0 := HT.out.b2.fz 0
      have f1 := HT.out.b2.fz 1
      have f2 := HT.out.b2.fz 2
      have f3 := HT.out.b2.fz 3
      go_wp2_with fail
      exact ret_tab Tryz.results20 rfl (HT.out.b2.set4 _ _ _ _) rfl (HPO.out ad1 k1 g qs _ ((HFIN.out wr g qs ad1 k1 HT.out HQL.out).set4 HT.out.b2 (by decide) (by decide) (by decide) _ _ _ _) (w4_below HT.out.bl (by omega) _ _ _ _))
end Go.Proofs.YtfigebepeniikaaGreat
/- Layer 27: open, Get. -/
namespace Go.Proofs.YtfigebepeniikaaGreat
open Go.RowKit Go.Maps Go.Shelf
/-- What open tells of a table whose Ids rise. -/
def OpPost (w : World) (T : TM) (s : ByteArray) (e : Ending) (w' : World) : Prop := ∃ p k is b1 k1 g qs, e = .returned (.tuple #[.pointer (some ⟨p, 0, none⟩), .int .i64 ((k : Nat) : Int), .bool is]) ∧ Ord.At (idsR T.rows) s k is ∧ w.heap.size ≤ p ∧ Bx4 w' p 53 (.string T.name) (.int .i64 T.most) (.slice b1 T.uq.length k1) (.slice (some ⟨g, 0, none⟩) T.rows.length T.rows.length) ∧ OwnT w.heap.size w' T b1 k1 g qs ∧ Below w.heap.size w w'
set_option maxRecDepth 20000 in
set_option maxHeartbeats 1000000 in
theorem open_any (B : Nat) (T : TM) (a1 a2 : Option Addr) (c1 c2 : Nat) (s : ByteArray) (w : World) (hv : TVs B w T a1 c1 a2 c2) (hs : SmT T) (hc : Ord.chE (idsR T.rows) = 0) : Calls Tryz.prog 29 #[tv T a1 c1 a2 c2, .string s] w (OpPost w T s) := by
  have HLM : Hid (∀ r ∈ T.rows, r.d.length ≤ maxLen) := Lib.hid (fun r hr => by have := (hs.each r hr).2.1; unfold maxLen; omega)
  have HTW := Lib.hid (fun W (k : Below w.heap.size w W) => tTwin_any B T a1 a2 c1 c2 W (hv.below k) hs)
  have HFI := Lib.hid (fun p x0 x1 x2 a2 c2 W (hb : Bx4 W p 53 x0 x1 x2 (.slice a2 T.rows.length c2)) (hr : RV 0 W a2 T.rows) => find_ok 0 p x0 x1 x2 a2 c2 T.rows s W hb hr hs.rows hc)
  have HPO : Hid (∀ p k is b1 k1 g qs W, Ord.At (idsR T.rows) s k is → w.heap.size ≤ p → Bx4 W p 53 (.string T.name) (.int .i64 T.most) (.slice b1 T.uq.length k1) (.slice (some ⟨g, 0, none⟩) T.rows.length T.rows.length) → OwnT w.heap.size W T b1 k1 g qs → Below w.heap.size w W → OpPost w T s (.returned (.tuple #[.pointer (some ⟨p, 0, none⟩), .int .i64 ((k : Nat) : Int), .bool is])) W) := Lib.hid (fun p k is b1 k1 g qs W h1 h2 h3 h4 h5 => ⟨p, k, is, b1, k1, g, qs, rfl, h1, h2, h3, h4, h5⟩)
  have HOT : Hid (∀ B W b1 k1 g qs, OwnT B W T b1 k1 g qs → RV 0 W (some ⟨g, 0, none⟩) T.rows) := Lib.hid (fun B W b1 k1 g qs h => (h.tvs HLM.out).r.mono (Nat.zero_le _))
  obtain ⟨X, hX⟩ : ∃ X, X = w.alloc (.cells #[.string T.name, .int .i64 T.most, .slice a1 T.uq.length c1, .slice a2 T.rows.length c2] 25) := ⟨_, rfl⟩
  have BX : Hid (Below w.heap.size w X) := Lib.hid (by rw [hX]; exact (Below.refl _ _).alloc (Nat.le_refl _) _)
  have QX : Hid (Bx4 X w.heap.size 25 (.string T.name) (.int .i64 T.most) (.slice a1 T.uq.length c1) (.slice a2 T.rows.length c2)) := Lib.hid (by rw [hX]; exact bx4_new w _ _ _ _ _)
  have HTX : Hid (Calls Tryz.prog 20 #[tv T a1 c1 a2 c2] X fun e w' => (∃ b1 k1 g qs, e = .returned (tv T b1 k1 (some ⟨g, 0, none⟩) T.rows.length) ∧ OwnT w.heap.size w' T b1 k1 g qs) ∧ Below X.heap.size X w') := Lib.hid ((HTW.out X BX.out).mono (by
    rintro e w' ⟨b1, k1, g, qs, he, ho, hb⟩
    exact ⟨⟨b1, k1, g, qs, he, ⟨ownsRow_mono ho.u BX.out.size, ⟨ownsRow_mono ho.r.row BX.out.size, fun j hj => ⟨Nat.le_trans BX.out.size (ho.r.each j hj).1, (ho.r.each j hj).2⟩⟩, ho.l⟩⟩, hb⟩))
  unfold tv at HTX ⊢
  obtain ⟨nm, hnm⟩ : ∃ x, x = T.name := ⟨_, rfl⟩
  obtain ⟨m, hm⟩ : ∃ x, x = T.most := ⟨_, rfl⟩
  obtain ⟨nu, hnu⟩ : ∃ x, x = T.uq.length := ⟨_, rfl⟩
  obtain ⟨n, hn⟩ : ∃ x, x = T.rows.length := ⟨_, rfl⟩
  rw [← hnm, ← hm, ← hnu, ← hn] at HTX HPO QX hX ⊢
  rw [← hn] at HFI
  clear hv hs hc hnm hm hnu hn HTW HLM
  go_enter Tryz.func29, Tryz.ntmps29
  go_wp2_with fail
  rw [← hX]
  clear hX
  refine HTX.out.mono ?_
  rintro e w1 ⟨⟨b1, k1, g, qs, rfl, ho⟩, hb⟩
  have B1 := Lib.hid (BX.out.trans (hb.mono BX.out.size))
  obtain ⟨Y, hY⟩ : ∃ Y, Y = w1.alloc (.cells #[.string nm, .int .i64 m, .slice b1 nu k1, .slice (some ⟨g, 0, none⟩) n n] 53) := ⟨_, rfl⟩
  have BA : Hid (Below w1.heap.size w1 Y) := Lib.hid (by rw [hY]; exact (Below.refl _ _).alloc (Nat.le_refl _) _)
  have QY : Hid (Bx4 Y w1.heap.size 53 (.string nm) (.int .i64 m) (.slice b1 nu k1) (.slice (some ⟨g, 0, none⟩) n n)) := Lib.hid (by rw [hY]; exact bx4_new w1 _ _ _ _ _)
  have OY := Lib.hid (ho.up BA.out)
  have BY := Lib.hid (B1.out.trans (BA.out.mono B1.out.size))
  have HP := Lib.hid B1.out.size
  clear ho hb QX
  go_wp2_with fail
  rw [← hY]
  clear hY
  refine (HFI.out w1.heap.size _ _ _ _ _ Y QY.out (HOT.out _ _ _ _ _ _ OY.out)).mono ?_
  rintro e w2 ⟨⟨k, is, rfl, hat⟩, b2⟩
  have HF := Lib.hid (HPO.out w1.heap.size k is b1 k1 g qs w2 hat HP.out (QY.out.up b2) (OY.out.up b2) (BY.out.trans (b2.mono BY.out.size)))
  clear hat b2
  go_wp2_with fail
  go_ret3
  exact HF.out
end Go.Proofs.YtfigebepeniikaaGreat

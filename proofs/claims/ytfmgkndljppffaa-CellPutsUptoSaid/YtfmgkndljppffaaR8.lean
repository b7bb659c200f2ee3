/- Layer 3: the document's Check, asked, End, Under, Kids. -/
import Derived.Test.YtfmgkndljppffaaR7
namespace Go.Proofs.Ytfmgkndljppffaa
open Go.RowKit Go.Maps
/-- Cells that are small enough. -/
structure Sm (n : Nat) (g : Nat → CR) : Prop where
  cw : CW n g
  nz : ∀ i, i < n → (g i).nm.size ≤ 2000000
  le : n ≤ maxLen
set_option maxRecDepth 20000 in
theorem rcheck_any (a : Option Addr) (n cap : Nat) (g : Nat → CR) (w : World) (hv : CV w a n g) (hs : Sm n g) : Calls Try.prog 22 #[.slice a n cap] w fun e w' => e = .returned (.int .i64 (eC (ckC g n))) ∧ Below w.heap.size w w' := by
  have HM := Lib.hid (rmay_any a n cap g w hv hs.cw hs.nz hs.le)
  cases h : ckC g n with
  | true =>
    rw [h] at HM
    clear h hv hs
    go_enter Try.func22, Try.ntmps22
    go_wp2_with fail
    with_reducible refine HM.out.mono ?_
    rintro e w1 ⟨rfl, b1⟩
    have B1 := Lib.hid b1
    clear b1 HM
    go_wp2_with fail
    go_ret
    exact ⟨rfl, B1.out⟩
  | false =>
    rw [h] at HM
    clear h hv hs
    go_enter Try.func22, Try.ntmps22
    go_wp2_with fail
    with_reducible refine HM.out.mono ?_
    rintro e w1 ⟨rfl, b1⟩
    have B1 := Lib.hid b1
    clear b1 HM
    go_wp2_with fail
    go_ret
    exact ⟨rfl, B1.out⟩
set_option maxRecDepth 20000 in
theorem rasked_any (a : Option Addr) (n cap : Nat) (g : Nat → CR) (p : Int) (w : World) (hv : CV w a n g) (hs : Sm n g) : Calls Try.prog 41 #[.slice a n cap, .int .i64 p] w fun e w' => e = .returned (.int .i64 (plE g n p)) ∧ Below w.heap.size w w' := by
  have HM := Lib.hid (rmay_any a n cap g w hv hs.cw hs.nz hs.le)
  have hnm := hs.le
  unfold maxLen at hnm
  obtain ⟨z, hz⟩ : ∃ z, z = plE g n p := ⟨_, rfl⟩
  rw [← hz]
  unfold plE at hz
  cases h : ckC g n with
  | true =>
    rw [h] at HM hz
    rw [if_pos rfl] at hz
    by_cases h0 : p < 0
    · have HZ : Hid (z = 2) := Lib.hid (by rw [hz, if_neg (by omega)])
      clear h hv hs hz
      go_enter Try.func41, Try.ntmps41
      go_wp2_with fail
      with_reducible refine HM.out.mono ?_
      rintro e w1 ⟨rfl, b1⟩
      have B1 := Lib.hid b1
      clear b1 HM
      go_wp2_with fail
      go_ret
      exact ⟨ret_int HZ.out.symm, B1.out⟩
    · by_cases h1 : (n : Int) ≤ p
      · have HZ : Hid (z = 2) := Lib.hid (by rw [hz, if_neg (by omega)])
        clear h hv hs hz
        go_enter Try.func41, Try.ntmps41
        go_wp2_with fail
        with_reducible refine HM.out.mono ?_
        rintro e w1 ⟨rfl, b1⟩
        have B1 := Lib.hid b1
        clear b1 HM
        go_wp2_with fail
        go_ret
        exact ⟨ret_int HZ.out.symm, B1.out⟩
      · have HZ : Hid (z = 0) := Lib.hid (by rw [hz, if_pos (by omega)])
        clear h hv hs hz
        go_enter Try.func41, Try.ntmps41
        go_wp2_with fail
        with_reducible refine HM.out.mono ?_
        rintro e w1 ⟨rfl, b1⟩
        have B1 := Lib.hid b1
        clear b1 HM
        go_wp2_with fail
        go_ret
        exact ⟨ret_int HZ.out.symm, B1.out⟩
  | false =>
    rw [h] at HM hz
    have HZ : Hid (z = 8) := Lib.hid (by rw [hz, if_neg (by decide)])
    clear h hv hs hz
    go_enter Try.func41, Try.ntmps41
    go_wp2_with fail
    with_reducible refine HM.out.mono ?_
    rintro e w1 ⟨rfl, b1⟩
    have B1 := Lib.hid b1
    clear b1 HM
    go_wp2_with fail
    go_ret
    exact ⟨ret_int HZ.out.symm, B1.out⟩
/-- What End tells. -/
def enI (g : Nat → CR) (n : Nat) (p : Int) : Int := if plE g n p = 0 then (nx g n p.toNat : Nat) else 0
def EPost (W : World) (g : Nat → CR) (n : Nat) (p : Int) (r : Ending) (w' : World) : Prop := r = .returned (.tuple #[.int .i64 (enI g n p), .int .i64 (plE g n p)]) ∧ Below W.heap.size W w'
theorem EPost.bad {W w' : World} {g : Nat → CR} {n : Nat} {p z : Int} (hz : z = plE g n p) (h : z ≠ 0) (b : Below W.heap.size W w') : EPost W g n p (.returned (.tuple #[.int .i64 0, .int .i64 z])) w' := by
  subst hz; refine ⟨?_, b⟩; unfold enI; rw [if_neg h]
theorem EPost.good {W w' : World} {g : Nat → CR} {n p e : Nat} (h : plE g n (p : Nat) = 0) (he : nx g n p = e) (b : Below W.heap.size W w') : EPost W g n (p : Nat) (.returned (.tuple #[.int .i64 (e : Nat), .int .i64 0])) w' := by
  subst he; refine ⟨?_, b⟩; unfold enI; rw [if_pos h, h, Int.toNat_natCast]
theorem end_both (a : Option Addr) (n cap : Nat) (g : Nat → CR) (p : Int) (w : World) (hv : CV w a n g) (hs : Sm n g) : Calls Try.prog 15 #[.slice a n cap, .int .i64 p] w (EPost w g n p) := by
  by_cases h : plE g n p = 0
  · obtain ⟨hc, h0, h1⟩ := pl_zero h
    obtain ⟨q, rfl⟩ : ∃ q : Nat, p = q := ⟨p.toNat, by omega⟩
    exact (end_ok a n cap g q w hv hs.cw hc (by omega)).mono fun e w' ⟨h2, h3⟩ => by rw [h2]; exact EPost.good h rfl h3
  · exact (end_bad a n cap g p w hv hs.cw h).mono fun e w' ⟨h2, h3⟩ => by rw [h2]; exact EPost.bad rfl h h3
set_option maxRecDepth 20000 in
theorem rend_both (a : Option Addr) (n cap : Nat) (g : Nat → CR) (p : Int) (w : World) (hv : CV w a n g) (hs : Sm n g) : Calls Try.prog 16 #[.slice a n cap, .int .i64 p] w (EPost w g n p) := by
  have HA := Lib.hid (rasked_any a n cap g p w hv hs)
  by_cases h : plE g n p = 0
  · obtain ⟨hc, h0, h1⟩ := pl_zero h
    obtain ⟨q, rfl⟩ : ∃ q : Nat, p = q := ⟨p.toNat, by omega⟩
    have HB := Lib.hid (fun W (hV : CV W a n g) => behind_top (cap := cap) hs.cw hs.nz (ckC_parts hc).2.1 q W hV (by omega))
    rw [(ck_at hc (by omega)).1] at HB
    unfold wkI at HB
    rw [h] at HA
    have HV := Lib.hid hv
    have HG := Lib.hid h
    obtain ⟨e, he⟩ : ∃ e, e = nx g n q := ⟨_, rfl⟩
    rw [← he] at HB
    have HE := Lib.hid he.symm
    clear hv hs hc h he h0 h1
    go_enter Try.func16, Try.ntmps16
    go_wp2_with fail
    with_reducible refine HA.out.mono ?_
    rintro e w1 ⟨rfl, b1⟩
    have B1 := Lib.hid b1
    clear b1 HA
    go_wp2_with fail
    with_reducible refine (HB.out w1 (HV.out.below B1.out)).mono ?_
    rintro e w2 ⟨rfl, b2⟩
    have B2 := Lib.hid (B1.out.trans (b2.mono B1.out.size))
    clear b2 HB
    go_wp2_with fail
    go_ret2
    exact EPost.good HG.out HE.out B2.out
  · obtain ⟨z, hz⟩ : ∃ z, z = plE g n p := ⟨_, rfl⟩
    rw [← hz] at HA h
    have hz0 : (z != 0) = true := by simpa using h
    have HH := Lib.hid h
    have HZ := Lib.hid hz
    clear hv hs h hz
    go_enter Try.func16, Try.ntmps16
    go_wp2_with fail
    with_reducible refine HA.out.mono ?_
    rintro e w1 ⟨rfl, b1⟩
    have B1 := Lib.hid b1
    clear b1 HA
    go_wp2_with fail
    go_ret2
    exact EPost.bad HZ.out HH.out B1.out
def UPost (W : World) (g : Nat → CR) (n p : Nat) (r : Ending) (w' : World) : Prop := ∃ v, r = .returned v ∧ w'.ownsRow W.heap.size 3 1 v (g p).m.toNat (bdL g n (p + 1) (g p).m.toNat) ∧ Below W.heap.size W w'
set_option maxRecDepth 20000 in
set_option maxHeartbeats 2000000 in
theorem runder_any (a : Option Addr) (n cap : Nat) (g : Nat → CR) (p e : Nat) (W : World) (hv : CV W a n g) (hs : Sm n g) (hn : n ≤ 2048) (h : wk g n 16 p = some e) : Calls Try.prog 43 #[.slice a n cap, .int .i64 (p : Nat)] W (UPost W g n p) := by
  obtain ⟨i0, hi, hz0, hz1, hz2⟩ := infoI
  obtain ⟨k1, _, k3, k4⟩ := wk_open (Nat.le_refl _) h
  have k5 := Chain.le _ _ _ k4
  have k6 := wk_lt _ _ _ h
  have HB := Lib.hid (bd_chain _ _ _ k4).1
  obtain ⟨b, off, rfl, hb, c0, c1, c2, c3, c4⟩ := hv p k1
  have HV := Lib.hid hv
  obtain ⟨m, hm⟩ : ∃ m : Nat, (g p).m = m := ⟨(g p).m.toNat, by omega⟩
  obtain ⟨m', hm'⟩ : ∃ m' : Nat, m' = (g p).m.toNat := ⟨_, rfl⟩
  have hmm : m' = m := by omega
  subst hmm
  have HUP : Hid (∀ r w', (∃ v, r = .returned v ∧ w'.ownsRow W.heap.size 3 1 v m' (bdL g n (p + 1) m') ∧ Below W.heap.size W w') → UPost W g n p r w') := Lib.hid (fun r w' h => by unfold UPost; rw [← hm']; exact h)
  rw [← hm'] at HB k5
  have hp0 : (0 : Int) ≤ p := by omega
  have hp1 : (p : Int) < n := by omega
  have hb0 : (n : Int) ≤ 2048 := by omega
  have hmn : m' ≤ 2048 := by omega
  have HSK := Lib.hid (fun i (hi : i < m') W (hv : CV W (some ⟨b, off, none⟩) n g) => by
    have hh := behind_top (cap := cap) hs.cw hs.nz hn (bd g n (p + 1) i) W hv (by have := wk_lt _ _ _ (HB.out i hi); omega)
    rw [HB.out i hi] at hh
    unfold wkI at hh
    exact hh)
  have HBN := Lib.hid (fun i (hi : i < m') => wk_lt _ _ _ (HB.out i hi))
  obtain ⟨c, hc⟩ : ∃ c, c = g p := ⟨_, rfl⟩
  rw [← hc] at c0 c1 c2 c3 c4 hm
  rw [hm] at c4
  obtain ⟨f, hf⟩ : ∃ f, f = bd g n (p + 1) := ⟨_, rfl⟩
  have HL : Hid (∀ i, bdL g n (p + 1) (i + 1) = bdL g n (p + 1) i ++ [.int .i64 (f i : Nat)]) := Lib.hid (fun i => by rw [hf]; exact bdL_succ _ _ _ _)
  have HL0 : Hid (bdL g n (p + 1) 0 = []) := Lib.hid rfl
  obtain ⟨L, hL⟩ : ∃ L, L = bdL g n (p + 1) := ⟨_, rfl⟩
  rw [← hL] at HL HL0 HUP
  rw [← hf] at HSK HBN
  have hf0 : Hid (p + 1 = f 0) := Lib.hid (by rw [hf]; rfl)
  clear hv h k4 k3 k6 k5 hm HB hL hf hs hc hm' k1
  go_enter Try.func43, Try.ntmps43
  go_wp2_with fail
  obtain ⟨w2, hw2⟩ : ∃ x, x = W.alloc (.cells #[.int .u8 c.k, .string c.nm, .string c.tx, .int .i64 c.n, .int .i64 m'] 32) := ⟨_, rfl⟩
  have e4 : w2.cell? ⟨W.heap.size, 4, none⟩ = some (.int .i64 m') := by rw [hw2]; simp
  have B2 : Hid (Below W.heap.size W w2) := Lib.hid (by rw [hw2]; exact (Below.refl _ _).alloc (Nat.le_refl _) _)
  rw [← hw2]
  clear hw2 c0 c1 c2 c3 c4
  obtain ⟨BX, hBX⟩ : ∃ x, x = W.heap.size := ⟨_, rfl⟩
  rw [← hBX] at e4 ⊢
  clear hBX
  go_loopw [1, 5, 7] (fun v1 v5 v7 wr => ∃ i : Nat, i ≤ m' ∧ v7 = .int .i64 i ∧ v1 = .int .i64 (f i : Nat) ∧ Hid (wr.ownsRow w2.heap.size 3 1 v5 i (L i)) ∧ Hid (Below w2.heap.size w2 wr)) (fun _ _ v7 _ => m' - (intOf v7).toNat)
  case atStart => exact ⟨0, Nat.zero_le _, rfl, by rw [← hf0.out]; go_num, Lib.hid (by rw [HL0.out]; exact World.ownsRow_nil _ _ _ _), Lib.hid (Below.refl _ _)⟩
  case round =>
    obtain ⟨i, hi1, rfl, rfl, HO, HBw⟩ := hrel
    have f4 := (HBw.out.cell (World.block_lt_of_cell? _ _ e4)).trans e4
    clear e4
    by_cases hlt : i < m'
    · have hlt' : (i : Int) < m' := by omega
      have hs1 := HBw.out.size
      have hs3 : w2.heap.size ≤ wr.heap.size + 1 := by omega
      have HK := Lib.hid (HSK.out i hlt)
      obtain ⟨x, hx⟩ : ∃ x : Nat, x = f i := ⟨_, rfl⟩
      obtain ⟨y, hy⟩ : ∃ y : Nat, y = f (i + 1) := ⟨_, rfl⟩
      rw [← hx, ← hy] at HK
      rw [← hx]
      have HLi : Hid (L (i + 1) = L i ++ [.int .i64 (x : Nat)]) := Lib.hid (by rw [HL.out, hx])
      have HY := Lib.hid hy
      clear hx hs1 hy
      go_wp2_with (at_builtin; refine wpList_append_own _ rfl _ _ 22 rfl w2.heap.size 3 i0 (.int .i64 0) 1 8 Try.underlying22 hi hz0 hz1 hz2 rfl (by decide) _ _ _ rfl (HO.out.alloc _) ⟨wr.heap.size, 0, none⟩ 1 1 [.int .i64 (x : Nat)] rfl rfl (news_at _ _ _ _ rfl) (by intro u hu; simp at hu; subst hu; rfl) (by unfold maxLen; omega) (by omega) (by simpa using hs3) ?_; intro v1 w3 ho1 hg1 _)
      have B3 : Hid (Below w2.heap.size w2 w3) := Lib.hid ((HBw.out.alloc HBw.out.size _).grown hg1 (by have := HBw.out.size; show w2.heap.size ≤ (wr.heap.push _).size; simp; omega) (fun q hq => (HO.out.lt q hq).1))
      have O3 := Lib.hid ho1
      clear ho1 hg1
      with_reducible refine (HK.out w3 (HV.out.below (B2.out.trans (B3.out.mono B2.out.size)))).mono ?_
      rintro e w4 ⟨rfl, b4⟩
      have B4 := Lib.hid (B3.out.trans (b4.mono B3.out.size))
      have O4 := Lib.hid (own_below O3.out b4)
      clear b4
      go_wp2_with fail
      go_roundw
      case rel => exact ⟨i + 1, by omega, by go_num, by rw [HY.out], Lib.hid (by rw [HLi.out]; exact O4.out), B4⟩
      case measure => simp [intOf]; omega
    · have him : i = m' := by omega
      subst him
      have hge : ¬ (i : Int) < i := by omega
      go_wp2_with fail
      go_ret
      exact HUP.out _ _ ⟨_, rfl, own_base HO.out B2.out.size, B2.out.trans (HBw.out.mono B2.out.size)⟩
end Go.Proofs.Ytfmgkndljppffaa

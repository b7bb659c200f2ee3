import Derived.Test.YtfigebepeniikaaGreatK15
import Derived.Test.YtfigebepeniikaaGreatK11
import Derived.Deep.QuietTactic
import Derived.Deep.RegionLaw
/- Layer 3: the document's Behind and May, whole; Check, End, Kids, Member, Sub of values by it. -/
namespace Go.Proofs.YtfigebepeniikaaGreat.Rf
open Go.RowKit Go.Maps
theorem rbehind_any {a : Option Addr} {n cap : Nat} {g : Nat → CR} (hcw : CW n g) (hnz : ∀ i, i < n → (g i).nm.size ≤ 2000000) (hn : n ≤ 2048) : ∀ (r : Nat), r ≤ 16 → ∀ (dv : Int), dv = r → ∀ (p : Nat) (W : World), CV W a n g → p ≤ n →
    Calls Tryz.prog 76 #[.slice a n cap, .int .i64 (p : Nat), .int .i64 dv] W (BPost W (wk g n r p)) := by
  intro r
  induction r with
  | zero =>
    intro _ dv hd p W hv hp
    by_cases h : n ≤ p
    · exact beh_end a n cap g hcw hn 0 dv p W hv h (by omega)
    · cases ho : oneP (g p) with
      | false => exact beh_misfit a n cap g hcw hn 0 dv p W hv (by omega) ho
      | true =>
        cases hh : headP (g p) with
        | false => exact beh_leaf a n cap g hcw hn 0 dv p W hv (by omega) ho hh
        | true => exact beh_deep a n cap g hcw hn 0 dv p W hv (by omega) ho hh rfl hd
  | succ r ih =>
    intro hr dv hd p W hv hp
    by_cases h : n ≤ p
    · exact beh_end a n cap g hcw hn _ dv p W hv h (by omega)
    · cases ho : oneP (g p) with
      | false => exact beh_misfit a n cap g hcw hn _ dv p W hv (by omega) ho
      | true =>
        cases hh : headP (g p) with
        | false => exact beh_leaf a n cap g hcw hn _ dv p W hv (by omega) ho hh
        | true =>
          rcases (one_head ho hh).2.2.2 with hk | hk
          · exact beh_kids6 a n cap g hcw hn _ dv p W hv hnz (by omega) ho hk r rfl hd (by omega) (fun dv' hd' q W' hv' hq => ih (by omega) dv' hd' q W' hv' hq)
          · exact beh_kids7 a n cap g hcw hn _ dv p W hv hnz (by omega) ho hk r rfl hd (by omega) (fun dv' hd' q W' hv' hq => ih (by omega) dv' hd' q W' hv' hq)
theorem behind_top {a : Option Addr} {n cap : Nat} {g : Nat → CR} (hcw : CW n g) (hnz : ∀ i, i < n → (g i).nm.size ≤ 2000000) (hn : n ≤ 2048) (p : Nat) (W : World) (hv : CV W a n g) (hp : p ≤ n) :
    Calls Tryz.prog 76 #[.slice a n cap, .int .i64 (p : Nat), .int .i64 16] W fun e w' => e = .returned (.int .i64 (wkI (wk g n 16 p))) ∧ Below W.heap.size W w' :=
  rbehind_any hcw hnz hn 16 (Nat.le_refl _) 16 rfl p W hv hp
set_option maxRecDepth 20000 in
theorem rmay_any (a : Option Addr) (n cap : Nat) (g : Nat → CR) (w : World) (hv : CV w a n g) (hcw : CW n g) (hnz : ∀ i, i < n → (g i).nm.size ≤ 2000000) (hnm : n ≤ maxLen) : Calls Tryz.prog 61 #[.slice a n cap] w fun e w' => e = .returned (.bool (ckC g n)) ∧ Below w.heap.size w w' := by
  obtain ⟨z, hz⟩ : ∃ z, z = ckC g n := ⟨_, rfl⟩
  rw [← hz]
  unfold maxLen at hnm
  by_cases h0 : n = 0
  · have HZ : Hid (z = false) := Lib.hid (by rw [hz]; unfold ckC; simp [h0])
    subst h0
    clear hz hv hcw hnz hnm
    go_enter Tryz.func61, Tryz.ntmps61
    go_wp2_with fail
    go_ret
    exact ⟨ret_bool HZ.out.symm, Below.refl _ _⟩
  have g1 : (0 : Int) < (n : Int) := by omega
  by_cases h1 : 2048 < n
  · have HZ : Hid (z = false) := Lib.hid (by rw [hz]; unfold ckC; simp; omega)
    have g2 : ¬ (n : Int) ≤ 2048 := by omega
    clear hz hv hcw hnz h0 h1
    go_enter Tryz.func61, Tryz.ntmps61
    go_wp2_with fail
    go_ret
    exact ⟨ret_bool HZ.out.symm, Below.refl _ _⟩
  have g2 : (n : Int) ≤ 2048 := by omega
  obtain ⟨b, off, rfl, _, _, c1, _, _, _⟩ := hv 0 (by omega)
  rw [show off + 0 * 5 + 1 = off + 1 by omega] at c1
  cases he : em (g 0).nm with
  | false =>
    have HZ : Hid (z = false) := Lib.hid (by rw [hz]; unfold ckC; rw [he]; simp)
    have ge := em_no he
    obtain ⟨nm, hnme⟩ : ∃ nm, nm = (g 0).nm := ⟨_, rfl⟩
    rw [← hnme] at ge c1
    clear hz hv hcw hnz h0 h1 he hnme
    go_enter Tryz.func61, Tryz.ntmps61
    go_wp2_with fail
    go_ret
    exact ⟨ret_bool HZ.out.symm, Below.refl _ _⟩
  | true =>
    rw [em_yes he] at c1
    have HB : Hid (Calls Tryz.prog 76 #[.slice (some ⟨b, off, none⟩) n cap, .int .i64 0, .int .i64 16] w fun e w' => e = .returned (.int .i64 (wkI (wk g n 16 0))) ∧ Below w.heap.size w w') := Lib.hid (behind_top (cap := cap) hcw hnz (by omega) 0 w hv (Nat.zero_le _))
    cases hw : wk g n 16 0 with
    | none =>
      rw [hw] at HB
      have HZ : Hid (z = false) := Lib.hid (by rw [hz]; unfold ckC; rw [hw]; simp)
      have g3 : ((-1 : Int) == n) = false := by rw [beq_eq_false_iff_ne]; omega
      clear hz hv hcw hnz h0 h1 he hw
      go_enter Tryz.func61, Tryz.ntmps61
      go_wp2_with fail
      with_reducible refine HB.out.mono ?_
      rintro e w1 ⟨rfl, b1⟩
      unfold wkI
      have B1 := Lib.hid b1
      clear b1 HB
      go_wp2_with fail
      go_ret
      exact ⟨ret_bool HZ.out.symm, B1.out⟩
    | some e0 =>
      rw [hw] at HB
      by_cases hen : e0 = n
      · have HZ : Hid (z = true) := Lib.hid (by rw [hz]; exact ckC_mk (by omega) (by omega) he (by rw [hw, hen]))
        have g3 : ((n : Int) == n) = true := by simp
        subst hen
        clear hz hv hcw hnz h0 h1 he hw
        go_enter Tryz.func61, Tryz.ntmps61
        go_wp2_with fail
        with_reducible refine HB.out.mono ?_
        rintro e w1 ⟨rfl, b1⟩
        unfold wkI
        have B1 := Lib.hid b1
        clear b1 HB
        go_wp2_with fail
        go_ret
        exact ⟨ret_bool HZ.out.symm, B1.out⟩
      · have HZ : Hid (z = false) := Lib.hid (by rw [hz]; unfold ckC; rw [hw]; simp [hen])
        have g3 : ((e0 : Int) == n) = false := by rw [beq_eq_false_iff_ne]; omega
        clear hz hv hcw hnz h0 h1 he hw hen
        go_enter Tryz.func61, Tryz.ntmps61
        go_wp2_with fail
        with_reducible refine HB.out.mono ?_
        rintro e w1 ⟨rfl, b1⟩
        unfold wkI
        have B1 := Lib.hid b1
        clear b1 HB
        go_wp2_with fail
        go_ret
        exact ⟨ret_bool HZ.out.symm, B1.out⟩
end Go.Proofs.YtfigebepeniikaaGreat.Rf
/- Layer 3: the document's Check, asked, End, Under, Kids. -/
namespace Go.Proofs.YtfigebepeniikaaGreat.Rf
open Go.RowKit Go.Maps
/-- Cells that are small enough. -/
structure Sm (n : Nat) (g : Nat → CR) : Prop where
  cw : CW n g
  nz : ∀ i, i < n → (g i).nm.size ≤ 2000000
  le : n ≤ maxLen
/-- What End tells. -/
def enI (g : Nat → CR) (n : Nat) (p : Int) : Int := if plE g n p = 0 then (nx g n p.toNat : Nat) else 0
def EPost (W : World) (g : Nat → CR) (n : Nat) (p : Int) (r : Ending) (w' : World) : Prop := r = .returned (.tuple #[.int .i64 (enI g n p), .int .i64 (plE g n p)]) ∧ Below W.heap.size W w'
theorem EPost.bad {W w' : World} {g : Nat → CR} {n : Nat} {p z : Int} (hz : z = plE g n p) (h : z ≠ 0) (b : Below W.heap.size W w') : EPost W g n p (.returned (.tuple #[.int .i64 0, .int .i64 z])) w' := by
  subst hz; refine ⟨?_, b⟩; unfold enI; rw [if_neg h]
theorem EPost.good {W w' : World} {g : Nat → CR} {n p e : Nat} (h : plE g n (p : Nat) = 0) (he : nx g n p = e) (b : Below W.heap.size W w') : EPost W g n (p : Nat) (.returned (.tuple #[.int .i64 (e : Nat), .int .i64 0])) w' := by
  subst he; refine ⟨?_, b⟩; unfold enI; rw [if_pos h, h, Int.toNat_natCast]
def UPost (W : World) (g : Nat → CR) (n p : Nat) (r : Ending) (w' : World) : Prop := ∃ v, r = .returned v ∧ w'.ownsRow W.heap.size 3 1 v (g p).m.toNat (bdL g n (p + 1) (g p).m.toNat) ∧ Below W.heap.size W w'
set_option maxRecDepth 20000 in
set_option maxHeartbeats 2000000 in
theorem runder_any (a : Option Addr) (n cap : Nat) (g : Nat → CR) (p e : Nat) (W : World) (hv : CV W a n g) (hs : Sm n g) (hn : n ≤ 2048) (h : wk g n 16 p = some e) : Calls Tryz.prog 77 #[.slice a n cap, .int .i64 (p : Nat)] W (UPost W g n p) := by
  obtain ⟨i0, hi, hz0, hz1, hz2⟩ := infoI
  obtain ⟨k1, _, k3, k4⟩ := wk_open (Nat.le_refl _) h
  have k5 := Chain.le _ _ _ k4
  have k6 := wk_lt _ _ _ h
  have HB := Lib.hid (bd_chain _ _ _ k4).1
  obtain ⟨b, off, rfl, hb, c0, c1, c2, c3, c4⟩ := hv p k1
  have HV := Lib.hid hv
  obtain ⟨m, hm⟩ : ∃ m : Nat, (g p).m = m := ⟨(g p).m.toNat, by omega⟩
  obtain ⟨m', hm'⟩ : ∃ m' : Nat, m' = (g p).m.toNat := ⟨_, rfl⟩
  have hmm : m' = m := by omega
  subst hmm
  have HUP : Hid (∀ r w', (∃ v, r = .returned v ∧ w'.ownsRow W.heap.size 3 1 v m' (bdL g n (p + 1) m') ∧ Below W.heap.size W w') → UPost W g n p r w') := Lib.hid (fun r w' h => by unfold UPost; rw [← hm']; exact h)
  rw [← hm'] at HB k5
  have hp0 : (0 : Int) ≤ p := by omega
  have hp1 : (p : Int) < n := by omega
  have hb0 : (n : Int) ≤ 2048 := by omega
  have hmn : m' ≤ 2048 := by omega
  have HSK := Lib.hid (fun i (hi : i < m') W (hv : CV W (some ⟨b, off, none⟩) n g) => by
    have hh := behind_top (cap := cap) hs.cw hs.nz hn (bd g n (p + 1) i) W hv (by have := wk_lt _ _ _ (HB.out i hi); omega)
    rw [HB.out i hi] at hh
    unfold wkI at hh
    exact hh)
  have HBN := Lib.hid (fun i (hi : i < m') => wk_lt _ _ _ (HB.out i hi))
  obtain ⟨c, hc⟩ : ∃ c, c = g p := ⟨_, rfl⟩
  rw [← hc] at c0 c1 c2 c3 c4 hm
  rw [hm] at c4
  obtain ⟨f, hf⟩ : ∃ f, f = bd g n (p + 1) := ⟨_, rfl⟩
  have HL : Hid (∀ i, bdL g n (p + 1) (i + 1) = bdL g n (p + 1) i ++ [.int .i64 (f i : Nat)]) := Lib.hid (fun i => by rw [hf]; exact bdL_succ _ _ _ _)
  have HL0 : Hid (bdL g n (p + 1) 0 = []) := Lib.hid rfl
  obtain ⟨L, hL⟩ : ∃ L, L = bdL g n (p + 1) := ⟨_, rfl⟩
  rw [← hL] at HL HL0 HUP
  rw [← hf] at HSK HBN
  have hf0 : Hid (p + 1 = f 0) := Lib.hid (by rw [hf]; rfl)
  clear hv h k4 k3 k6 k5 hm HB hL hf hs hc hm' k1
  go_enter Tryz.func77, Tryz.ntmps77
  go_wp2_with fail
  obtain ⟨w2, hw2⟩ : ∃ x, x = W.alloc (.cells #[.int .u8 c.k, .string c.nm, .string c.tx, .int .i64 c.n, .int .i64 m'] 47) := ⟨_, rfl⟩
  have e4 : w2.cell? ⟨W.heap.size, 4, none⟩ = some (.int .i64 m') := by rw [hw2]; simp
  have B2 : Hid (Below W.heap.size W w2) := Lib.hid (by rw [hw2]; exact (Below.refl _ _).alloc (Nat.le_refl _) _)
  rw [← hw2]
  clear hw2 c0 c1 c2 c3 c4
  obtain ⟨BX, hBX⟩ : ∃ x, x = W.heap.size := ⟨_, rfl⟩
  rw [← hBX] at e4 ⊢
  clear hBX
  go_loopw [1, 5, 7] (fun v1 v5 v7 wr => ∃ i : Nat, i ≤ m' ∧ v7 = .int .i64 i ∧ v1 = .int .i64 (f i : Nat) ∧ Hid (wr.ownsRow w2.heap.size 3 1 v5 i (L i)) ∧ Hid (Below w2.heap.size w2 wr)) (fun _ _ v7 _ => m' - (intOf v7).toNat)
  case atStart => exact ⟨0, Nat.zero_le _, rfl, by rw [← hf0.out]; go_num, Lib.hid (by rw [HL0.out]; exact World.ownsRow_nil _ _ _ _), Lib.hid (Below.refl _ _)⟩
  case round =>
    obtain ⟨i, hi1, rfl, rfl, HO, HBw⟩ := hrel
    have f4 := (HBw.out.cell (World.block_lt_of_cell? _ _ e4)).trans e4
    clear e4
    by_cases hlt : i < m'
    · have hlt' : (i : Int) < m' := by omega
      have hs1 := HBw.out.size
      have hs3 : w2.heap.size ≤ wr.heap.size + 1 := by omega
      have HK := Lib.hid (HSK.out i hlt)
      obtain ⟨x, hx⟩ : ∃ x : Nat, x = f i := ⟨_, rfl⟩
      obtain ⟨y, hy⟩ : ∃ y : Nat, y = f (i + 1) := ⟨_, rfl⟩
      rw [← hx, ← hy] at HK
      rw [← hx]
      have HLi : Hid (L (i + 1) = L i ++ [.int .i64 (x : Nat)]) := Lib.hid (by rw [HL.out, hx])
      have HY := Lib.hid hy
      clear hx hs1 hy
      go_wp2_with (at_builtin; refine wpList_append_own _ rfl _ _ 101 rfl w2.heap.size 3 i0 (.int .i64 0) 1 8 Tryz.underlying101 hi hz0 hz1 hz2 rfl (by decide) _ _ _ rfl (HO.out.alloc _) ⟨wr.heap.size, 0, none⟩ 1 1 [.int .i64 (x : Nat)] rfl rfl (news_at _ _ _ _ rfl) (by intro u hu; simp at hu; subst hu; rfl) (by unfold maxLen; omega) (by omega) (by simpa using hs3) ?_; intro v1 w3 ho1 hg1 _)
      have B3 : Hid (Below w2.heap.size w2 w3) := Lib.hid ((HBw.out.alloc HBw.out.size _).grown hg1 (by have := HBw.out.size; show w2.heap.size ≤ (wr.heap.push _).size; simp; omega) (fun q hq => (HO.out.lt q hq).1))
      have O3 := Lib.hid ho1
      clear ho1 hg1
      with_reducible refine (HK.out w3 (HV.out.below (B2.out.trans (B3.out.mono B2.out.size)))).mono ?_
      rintro e w4 ⟨rfl, b4⟩
      have B4 := Lib.hid (B3.out.trans (b4.mono B3.out.size))
      have O4 := Lib.hid (own_below O3.out b4)
      clear b4
      go_wp2_with fail
      go_roundw
      case rel => exact ⟨i + 1, by omega, by go_num, by rw [HY.out], Lib.hid (by rw [HLi.out]; exact O4.out), B4⟩
      case measure => simp [intOf]; omega
    · have him : i = m' := by omega
      subst him
      have hge : ¬ (i : Int) < i := by omega
      go_wp2_with fail
      go_ret
      exact HUP.out _ _ ⟨_, rfl, own_base HO.out B2.out.size, B2.out.trans (HBw.out.mono B2.out.size)⟩
end Go.Proofs.YtfigebepeniikaaGreat.Rf
/- Layer 3: Kids, Member, Sub of both. -/
namespace Go.Proofs.YtfigebepeniikaaGreat.Rf
open Go.RowKit Go.Maps
def knN (g : Nat → CR) (n : Nat) (p : Int) : Nat := if plE g n p = 0 then (g p.toNat).m.toNat else 0
def KPost (W : World) (g : Nat → CR) (n : Nat) (p : Int) (r : Ending) (w' : World) : Prop := ∃ ad c, r = .returned (.tuple #[.slice ad (knN g n p) c, .int .i64 (plE g n p)]) ∧ IV w' ad (knN g n p) (bd g n (p.toNat + 1)) ∧ Below W.heap.size W w'
theorem KPost.bad {W w' : World} {g : Nat → CR} {n : Nat} {p z : Int} (hz : z = plE g n p) (h : z ≠ 0) (b : Below W.heap.size W w') : KPost W g n p (.returned (.tuple #[.slice none 0 0, .int .i64 z])) w' := by
  subst hz
  have e : knN g n p = 0 := by unfold knN; rw [if_neg h]
  exact ⟨none, 0, by rw [e], fun i hi => by rw [e] at hi; omega, b⟩
theorem KPost.good {W w' : World} {g : Nat → CR} {n p : Nat} {v : Value} {B : Nat} (h : plE g n (p : Nat) = 0) (ho : w'.ownsRow B 3 1 v (g p).m.toNat (bdL g n (p + 1) (g p).m.toNat)) (b : Below W.heap.size W w') : KPost W g n (p : Nat) (.returned (.tuple #[v, .int .i64 0])) w' := by
  obtain ⟨ad, c, rfl, iv, _⟩ := own_iv ho
  have e : knN g n (p : Nat) = (g p).m.toNat := by unfold knN; rw [if_pos h, Int.toNat_natCast]
  exact ⟨ad, c, by rw [e, h], by rw [e, Int.toNat_natCast]; exact iv, b⟩
def ofO (g : Nat → CR) (n p : Nat) (s : ByteArray) : Option Nat := if (g p).k = 7 then mbF g s (bd g n (p + 1)) (g p).m.toNat else none
set_option maxRecDepth 20000 in
set_option maxHeartbeats 2000000 in
theorem rof_any (a : Option Addr) (n cap : Nat) (g : Nat → CR) (p : Nat) (s : ByteArray) (w : World) (hv : CV w a n g) (hs : Sm n g) (hc : ckC g n = true) (hp : p < n) : Calls Tryz.prog 62 #[.slice a n cap, .int .i64 (p : Nat), .string s] w fun r w' => r = .returned (.int .i64 (wkI (ofO g n p s))) ∧ Below w.heap.size w w' := by
  have hn := (ckC_parts hc).2.1
  have HU := Lib.hid (fun W (hV : CV W a n g) => runder_any a n cap g p _ W hV hs hn (ck_at hc hp).1)
  have HV := Lib.hid hv
  obtain ⟨b, off, rfl⟩ := hv.addr (by omega)
  have HBD := Lib.hid (fun i hi => wk_lt _ _ _ ((bd_chain _ _ _ (wk_open (Nat.le_refl _) (ck_at hc hp).1).2.2.2).1 i hi))
  have hmn : Hid ((g p).m.toNat ≤ 2048) := Lib.hid (by have h1 := Chain.le _ _ _ (wk_open (Nat.le_refl _) (ck_at hc hp).1).2.2.2; have h3 := (ck_at hc hp).2; omega)
  have hp0 : (0 : Int) ≤ p := by omega
  have hp1 : (p : Int) < n := by omega
  have hn2 : (n : Int) ≤ 2048 := by omega
  obtain ⟨x, hx⟩ : ∃ x, x = ofO g n p s := ⟨_, rfl⟩
  rw [← hx]
  replace hx := Lib.hid hx
  clear hc hv hs hn
  go_enter Tryz.func62, Tryz.ntmps62
  go_wp2_with fail
  with_reducible refine (HU.out w HV.out).mono ?_
  rintro e w2 ⟨v, rfl, o2, b2⟩
  obtain ⟨ad, c, rfl, iv, _⟩ := own_iv o2
  have B2 := Lib.hid b2
  have IV2 := Lib.hid iv
  have V2 := Lib.hid (HV.out.below b2)
  have k0 := (V2.out.at_ hp).2.1
  clear b2 iv o2 HU HV
  obtain ⟨m, hm⟩ : ∃ m, m = (g p).m.toNat := ⟨_, rfl⟩
  obtain ⟨f, hf⟩ : ∃ f, f = bd g n (p + 1) := ⟨_, rfl⟩
  rw [← hm, ← hf] at IV2 HBD
  have hx2 := hx.out
  unfold ofO at hx2
  rw [← hm, ← hf] at hx2
  rw [← hm] at hmn ⊢
  obtain ⟨kk, hkk⟩ : ∃ kk : Nat, kk = (g p).k := ⟨_, rfl⟩
  rw [← hkk] at hx2 k0
  have HX2 := Lib.hid hx2
  clear hm hf hkk hx hx2
  have hm1 : (m : Int) ≤ 2048 := by have := hmn.out; omega
  by_cases h7 : kk = 7
  · have g7 : ((kk : Int) == 7) = true := by rw [beq_iff_eq]; omega
    have HX3 : Hid (x = mbF g s f m) := Lib.hid (by rw [HX2.out, if_pos h7])
    clear HX2 h7
    by_cases h0 : m = 0
    · subst h0
      have HX : Hid (x = none) := Lib.hid (by rw [HX3.out]; exact mbF_none (fun j hj => by omega))
      go_wp2_with fail
      refine wp_loop_rounds 1 ?_
      rw [rounds_succ]
      go_wp2_with fail
      go_ret
      exact ⟨by rw [HX.out]; rfl, B2.out⟩
    · obtain ⟨b2, o2, rfl, _, _⟩ := IV2.out 0 (by omega)
      go_wp2_with fail
      go_loop [8] (fun v8 => ∃ i : Nat, i ≤ m ∧ v8 = .int .i64 i ∧ Hid (∀ j, j < i → (g (f j)).nm ≠ s)) (fun v8 => m - (intOf v8).toNat)
      case atStart => exact ⟨0, Nat.zero_le _, rfl, Lib.hid (fun j hj => by omega)⟩
      case round =>
        obtain ⟨i, hi, rfl, HN⟩ := hrel
        by_cases hlt : i < m
        · obtain ⟨b3, o3, e3, _, ci⟩ := IV2.out i hlt
          cases e3
          have hq := (HBD.out i hlt)
          have hfn : f i < n := by omega
          have cn := (V2.out.at_ hfn).2.2.1
          have hi0 : (0 : Int) ≤ i := by omega
          have hi1 : (i : Int) < m := by omega
          obtain ⟨y, hy⟩ : ∃ y, y = f i := ⟨_, rfl⟩
          obtain ⟨nm, hnm⟩ : ∃ nm, nm = (g (f i)).nm := ⟨_, rfl⟩
          rw [← hnm, ← hy] at cn
          rw [← hy] at ci
          have hy0 : (0 : Int) ≤ y := by omega
          have hy1 : (y : Int) < n := by omega
          by_cases he : nm = s
          · have HX : Hid (x = some y) := Lib.hid (by rw [HX3.out, hy]; exact mbF_some hlt HN.out (by rw [← hnm]; exact he))
            subst he
            clear hq hfn hy hnm HN HX3
            go_wp2_with fail
            go_ret
            exact ⟨by rw [HX.out]; rfl, B2.out⟩
          · have HN2 : Hid (∀ j, j < i + 1 → (g (f j)).nm ≠ s) := Lib.hid (fun j hj => by
              by_cases e : j = i
              · subst e; rw [← hnm]; exact he
              · exact HN.out j (by omega))
            have he2 : (nm.toList == s.toList) = false := by rw [str_is]; simpa using he
            clear hq hfn hy hnm HN he
            go_wp2_with fail
            go_round
            case rel => exact ⟨i + 1, by omega, by go_num, HN2⟩
            case measure => simp [intOf]; omega
        · have him : i = m := by omega
          subst him
          have HX : Hid (x = none) := Lib.hid (by rw [HX3.out]; exact mbF_none HN.out)
          have hge : ¬ ((i : Int) < i) := by omega
          clear HN HX3
          go_wp2_with fail
          go_ret
          exact ⟨by rw [HX.out]; rfl, B2.out⟩
  · have g7 : ((kk : Int) == 7) = false := by rw [beq_eq_false_iff_ne]; omega
    have HX : Hid (x = none) := Lib.hid (by rw [HX2.out, if_neg h7])
    clear HX2 h7
    by_cases h0 : m = 0
    · subst h0
      go_wp2_with fail
      refine wp_loop_rounds 1 ?_
      rw [rounds_succ]
      go_wp2_with fail
      go_ret
      exact ⟨by rw [HX.out]; rfl, B2.out⟩
    · have hi1 : (0 : Int) < m := by omega
      go_wp2_with fail
      refine wp_loop_rounds 1 ?_
      rw [rounds_succ]
      go_wp2_with fail
      go_ret
      exact ⟨by rw [HX.out]; rfl, B2.out⟩
/-- What Sub tells. -/
def suL (g : Nat → CR) (n : Nat) (p : Int) : List CR := if plE g n p = 0 then ren ⟨#[]⟩ (cut g p.toNat (nx g n p.toNat)) else []
def SPost (W : World) (g : Nat → CR) (n : Nat) (p : Int) (r : Ending) (w' : World) : Prop := ∃ v, r = .returned (.tuple #[v, .int .i64 (plE g n p)]) ∧ w'.ownsRow W.heap.size 47 5 v (suL g n p).length (rw5 (suL g n p)) ∧ Below W.heap.size W w'
theorem SPost.bad {W w' : World} {g : Nat → CR} {n : Nat} {p z : Int} (hz : z = plE g n p) (h : z ≠ 0) (b : Below W.heap.size W w') : SPost W g n p (.returned (.tuple #[.slice none 0 0, .int .i64 z])) w' := by
  subst hz
  have e : suL g n p = [] := by unfold suL; rw [if_neg h]
  exact ⟨_, rfl, by rw [e]; exact World.ownsRow_nil _ _ _ _, b⟩
theorem SPost.good {W w' : World} {g : Nat → CR} {n p : Nat} {v : Value} (h : plE g n (p : Nat) = 0) (ho : w'.ownsRow W.heap.size 47 5 v (nx g n p - p) (rw5 (ren ⟨#[]⟩ (cut g p (nx g n p))))) (b : Below W.heap.size W w') : SPost W g n (p : Nat) (.returned (.tuple #[v, .int .i64 0])) w' := by
  have e : suL g n (p : Nat) = ren ⟨#[]⟩ (cut g p (nx g n p)) := by unfold suL; rw [if_pos h, Int.toNat_natCast]
  exact ⟨v, by rw [h], by rw [e, ren_len, cut_len]; exact ho, b⟩
set_option maxRecDepth 20000 in
theorem rcut_any (a : Option Addr) (n cap : Nat) (g : Nat → CR) (p : Nat) (w : World) (hv : CV w a n g) (hs : Sm n g) (hc : ckC g n = true) (hp : p < n) (hcap : n ≤ cap) : Calls Tryz.prog 79 #[.slice a n cap, .int .i64 (p : Nat)] w fun r w' => ∃ v, r = .returned v ∧ w'.ownsRow w.heap.size 47 5 v (nx g n p - p) (rw5 (ren ⟨#[]⟩ (cut g p (nx g n p)))) ∧ Below w.heap.size w w' := by
  have hlt := wk_lt _ _ _ (ck_at hc hp).1
  have hn := (ckC_parts hc).2.1
  have HS := Lib.hid (fun W (hV : CV W a n g) => behind_top (cap := cap) hs.cw hs.nz hn p W hV (by omega))
  rw [(ck_at hc hp).1] at HS
  unfold wkI at HS
  have HV := Lib.hid hv
  obtain ⟨b, off, rfl⟩ := hv.addr (by omega)
  have HT := Lib.hid (fun w1 (hv1 : CV w1 (some ⟨b, off, none⟩) n g) => rtwin_any (some ⟨b, off + p * 5, none⟩) (nx g n p - p) (cap - p) (fun i => g (p + i)) w1 (hv1.part p _ hlt.2) (by omega) (fun e => by cases e))
  unfold TwinPost at HT
  rw [cut_part g p (nx g n p)] at HT
  have HL : Hid ((cut g p (nx g n p)).length = nx g n p - p) := Lib.hid (by rw [cut_len])
  obtain ⟨x, hx⟩ : ∃ x, x = nx g n p := ⟨_, rfl⟩
  rw [← hx] at HS HT hlt HL ⊢
  have hi0 : (0 : Int) ≤ p := by omega
  have hi1 : (p : Int) ≤ x := by omega
  have hi2 : (x : Int) ≤ cap := by omega
  have hi3 : (0 : Int) ≤ x := by omega
  have hxp : 0 < x - p := by omega
  have hi4 : (0 : Int) < ((x - p : Nat) : Int) := by omega
  clear hx hc hp hv hs hlt hn
  go_enter Tryz.func79, Tryz.ntmps79
  go_wp2_with fail
  with_reducible refine (HS.out w HV.out).mono ?_
  rintro e w1 ⟨rfl, b1⟩
  have B1 := Lib.hid b1
  clear b1
  go_wp2_with fail
  with_reducible refine (HT.out w1 (HV.out.below B1.out)).mono ?_
  rintro e w3 ⟨v, rfl, o3, b3⟩
  obtain ⟨q, c3, rfl, hq, hq2⟩ := own_addr o3 hxp
  have k3 := own_cellq o3 hxp HL.out
  rw [Nat.zero_mul, Nat.zero_add] at k3
  obtain ⟨k4, k5⟩ := k3
  have O4 := Lib.hid (own_set o3 HL.out hxp ⟨#[]⟩)
  rw [Nat.zero_mul, Nat.zero_add, setNm_zero] at O4
  have B3 := Lib.hid (B1.out.trans (b3.mono B1.out.size))
  have HQ := Lib.hid (Nat.le_trans B1.out.size hq)
  clear b3 o3 hq HT HS
  go_wp2_with fail
  go_ret
  exact ⟨_, rfl, own_base O4.out B1.out.size, B3.out.setCell HQ.out _⟩
end Go.Proofs.YtfigebepeniikaaGreat.Rf
/- Layer 27: the document's One and Value. -/
namespace Go.Proofs.YtfigebepeniikaaGreat
open Go.RowKit Go.Maps
/-- Names that are not too long for the document's own answer. -/
def NZ (r : RC) : Prop := ∀ i, i < r.d.length → (gl r.d i).nm.size ≤ 2000000
theorem gl_mem {d : List CR} {i : Nat} (h : i < d.length) : gl d i ∈ d := by
  unfold gl; rw [List.getD_eq_getElem?_getD, List.getElem?_eq_getElem h]; exact List.getElem_mem h
theorem recOk_ck {r : RC} (h : ckL r.d = false) : recOk r = false := by unfold recOk; simp [h]
theorem recOk_kind {r : RC} (h : (gl r.d 0).k ≠ 7) : recOk r = false := by unfold recOk; simp [h]
theorem recOk_var {r : RC} {j : Nat} (hj : j < r.d.length) (h : (gl r.d j).k = 5) : recOk r = false := by
  have : hasVar r.d = true := List.any_eq_true.2 ⟨_, gl_mem hj, by simp [h]⟩
  unfold recOk; simp [this]
theorem recOk_fin {r : RC} (h1 : ckL r.d = true) (h2 : (gl r.d 0).k = 7) (h3 : ∀ j, j < r.d.length → (gl r.d j).k ≠ 5) : recOk r = idOk r := by
  have : hasVar r.d = false := List.any_eq_false.2 (fun c hc => by
    obtain ⟨j, hj, rfl⟩ := List.mem_iff_getElem.1 hc
    have := h3 j hj
    unfold gl at this
    rw [List.getD_eq_getElem?_getD, List.getElem?_eq_getElem hj] at this
    simpa using this)
  unfold recOk; simp [this, h1, h2]
theorem recOk_parts {r : RC} (h : recOk r = true) : ckL r.d = true ∧ (gl r.d 0).k = 7 ∧ (∀ j, j < r.d.length → (gl r.d j).k ≠ 5) ∧ idOk r = true := by
  unfold recOk at h
  simp only [Bool.and_eq_true, decide_eq_true_eq, Bool.not_eq_true'] at h
  refine ⟨h.1.1.2, h.1.2, fun j hj e => ?_, h.2⟩
  have : hasVar r.d = true := List.any_eq_true.2 ⟨_, gl_mem hj, by simp [e]⟩
  rw [this] at h; simp at h
theorem ofO_mI {d : List CR} {s : ByteArray} (h7 : (gl d 0).k = 7) : Rf.ofO (gl d) d.length 0 s = mI d s := by unfold Rf.ofO; rw [if_pos h7]; rfl
theorem idOk_no {r : RC} (h : mI r.d idS = none) : idOk r = false := by unfold idOk; rw [h]
theorem idOk_at {r : RC} {p : Nat} (h : mI r.d idS = some p) : idOk r = (decide ((gl r.d p).k = 3) && decide ((gl r.d p).tx = r.id)) := by unfold idOk; rw [h]
set_option maxRecDepth 20000 in
set_option maxHeartbeats 2000000 in
theorem rOne_any (B : Nat) (r : RC) (ad : Option Addr) (cp : Nat) (w : World) (hd : DV B w ad cp r.d) (hs : SmR r) (hz : NZ r) : Calls Tryz.prog 32 #[rv r ad cp] w fun e w' => e = .returned (.bool (recOk r)) ∧ Below w.heap.size w w' := by
  obtain ⟨x, hx⟩ : ∃ x, x = recOk r := ⟨_, rfl⟩
  have HX1 : Hid (ckL r.d = false → x = false) := Lib.hid (fun h => hx.trans (recOk_ck h))
  have HX2 : Hid ((gl r.d 0).k ≠ 7 → x = false) := Lib.hid (fun h => hx.trans (recOk_kind h))
  have HX3 : Hid (∀ j, j < r.d.length → (gl r.d j).k = 5 → x = false) := Lib.hid (fun j hj h => hx.trans (recOk_var hj h))
  have HX4 : Hid (ckL r.d = true → (gl r.d 0).k = 7 → (∀ j, j < r.d.length → (gl r.d j).k ≠ 5) → x = idOk r) := Lib.hid (fun h1 h2 h3 => hx.trans (recOk_fin h1 h2 h3))
  rw [← hx]
  clear hx
  obtain ⟨hcw, hn, hid⟩ := hs
  have hnz : ∀ i, i < r.d.length → (gl r.d i).nm.size ≤ 2000000 := hz
  have HI : Hid (∀ s, idOk r = s → idOk r = s) := Lib.hid (fun _ h => h)
  have HI1 : Hid (mI r.d idS = none → idOk r = false) := Lib.hid idOk_no
  have HI2 : Hid (∀ p, mI r.d idS = some p → idOk r = (decide ((gl r.d p).k = 3) && decide ((gl r.d p).tx = r.id))) := Lib.hid (fun p => idOk_at)
  obtain ⟨id, d⟩ := r
  show Calls Tryz.prog 32 #[.agg #[.string id, .slice ad d.length cp]] w fun e w' => e = .returned (.bool x) ∧ Below w.heap.size w w'
  dsimp only at *
  obtain ⟨hv, hl1, hl2, _, hbb⟩ := hd
  have HM := Lib.hid (fun W (h : CV W ad d.length (gl d)) => Rf.rmay_any ad d.length cp (gl d) W h hcw hnz (by unfold maxLen; omega))
  have HO := Lib.hid (fun W (h : CV W ad d.length (gl d)) (hc : ckC (gl d) d.length = true) (hp : 0 < d.length) => Rf.rof_any ad d.length cp (gl d) 0 idS W h ⟨hcw, hnz, by unfold maxLen; omega⟩ hc hp)
  have HQ := Lib.hid (bx2_new w (.string id) (.slice ad d.length cp))
  have HBL : Hid (Below w.heap.size w (w.alloc (.cells #[.string id, .slice ad d.length cp] 28))) := Lib.hid ((Below.refl _ _).alloc (Nat.le_refl _) _)
  have HV := Lib.hid (hv.below HBL.out)
  obtain ⟨W, hW⟩ : ∃ W, W = w.alloc (.cells #[.string id, .slice ad d.length cp] 28) := ⟨_, rfl⟩
  rw [← hW] at HQ HBL HV
  obtain ⟨z, hz2⟩ : ∃ z, z = ckC (gl d) d.length := ⟨_, rfl⟩
  have HZ := Lib.hid hz2
  have HKP : Hid (z = true → 0 < d.length ∧ d.length ≤ 2048) := Lib.hid (fun h => by rw [hz2] at h; exact ⟨(ckC_parts h).1, (ckC_parts h).2.1⟩)
  rw [← hz2] at HM
  have HX1' : Hid (z = false → x = false) := Lib.hid (fun h => HX1.out (by rw [hz2] at h; exact h))
  clear hv hbb hcw hnz hn hid hz HX1 hz2
  go_enter Tryz.func32, Tryz.ntmps32
  go_wp2_with fail
  rw [← hW]
  clear hW
  have q1 := HQ.out.c1
  go_wp2_with fail
  with_reducible refine (HM.out W HV.out).mono ?_
  rintro e w1 ⟨rfl, b1⟩
  have HQ1 := Lib.hid (HQ.out.up b1)
  have B1 := Lib.hid (HBL.out.trans (b1.mono HBL.out.size))
  have V1 := Lib.hid (HV.out.below b1)
  have q1 := HQ1.out.c1
  have q0 := HQ1.out.c0
  clear b1 HQ HBL HV HM
  cases z with
  | false =>
    have e1 := HX1'.out rfl
    subst e1
    go_wp2_with fail
    go_ret
    exact ⟨rfl, B1.out⟩
  | true =>
    obtain ⟨n0, n1⟩ := HKP.out rfl
    obtain ⟨b, off, rfl⟩ := V1.out.addr n0
    have i0 : (0 : Int) < d.length := by omega
    have i1 : (d.length : Int) ≤ 2048 := by omega
    have ck0 := (V1.out.at_ n0).2.1
    rw [Nat.zero_mul, Nat.add_zero] at ck0
    by_cases h7 : (gl d 0).k = 7
    · have g7 : (((gl d 0).k : Int) != 7) = false := by rw [h7]; rfl
      clear HX2 HX1' HKP
      go_wp2_with fail
      clear ck0
      go_loop [3] (fun v3 => ∃ i : Nat, i ≤ d.length ∧ v3 = .int .i64 i ∧ Hid (∀ j, j < i → (gl d j).k ≠ 5)) (fun v3 => d.length - (intOf v3).toNat)
      case atStart => exact ⟨0, Nat.zero_le _, rfl, Lib.hid (fun j hj => by omega)⟩
      case round =>
        obtain ⟨i, hi, rfl, HN⟩ := hrel
        have hge : (0 : Int) ≤ i := by omega
        by_cases hlt : i < d.length
        · have hlt' : (i : Int) < d.length := by omega
          have ci := (V1.out.at_ hlt).2.1
          by_cases h5 : (gl d i).k = 5
          · have e1 := HX3.out i hlt h5
            subst e1
            have g5 : (((gl d i).k : Int) == 5) = true := by rw [h5]; rfl
            go_wp2_with fail
            go_ret
            exact ⟨rfl, B1.out⟩
          · have g5 : (((gl d i).k : Int) == 5) = false := by rw [beq_eq_false_iff_ne]; omega
            have HN2 : Hid (∀ j, j < i + 1 → (gl d j).k ≠ 5) := Lib.hid (fun j hj => by
              by_cases e : j = i
              · subst e; exact h5
              · exact HN.out j (by omega))
            clear h5
            go_wp2_with fail
            go_round
            case rel => exact ⟨i + 1, by omega, by go_num, HN2⟩
            case measure => simp [intOf]; omega
        · have him : i = d.length := by omega
          subst him
          have hge2 : ¬ ((d.length : Int) < d.length) := by omega
          have hxi := HX4.out HZ.out.symm h7 HN.out
          have HOF := Lib.hid (ofO_mI (s := idS) h7)
          rw [HOF.out] at HO
          obtain ⟨o, ho⟩ : ∃ o, o = mI d idS := ⟨_, rfl⟩
          rw [← ho] at HO HI1 HI2
          have HLT : Hid (∀ p, o = some p → p < d.length) := Lib.hid (fun p h => (mI_lt HZ.out.symm (ho.symm.trans h)).1)
          have HXI := Lib.hid hxi
          have HOC := Lib.hid (HO.out w1 V1.out HZ.out.symm n0)
          clear HX3 HX4 HN HO ho hxi HOF g7 HZ HI
          go_wp2_with fail
          refine HOC.out.mono ?_
          rintro e w2 ⟨rfl, b2⟩
          have B2 := Lib.hid (B1.out.trans (b2.mono B1.out.size))
          have V2 := Lib.hid (V1.out.below b2)
          have HQ2 := Lib.hid (HQ1.out.up b2)
          have q0 := HQ2.out.c0
          have q1 := HQ2.out.c1
          clear b2 B1 V1 HQ1 HOC
          cases o with
          | none =>
            have e1 : x = false := HXI.out.trans (HI1.out rfl)
            subst e1
            unfold Rf.wkI
            go_wp2_with fail
            go_quiet (fail)
            go_wp2_with fail
            go_ret
            exact ⟨rfl, below_drewN0 B2.out _⟩
          | some p =>
            have hp := HLT.out p rfl
            have hp0 : (0 : Int) ≤ p := by omega
            have hp1 : (p : Int) < d.length := by omega
            have e1 := HXI.out.trans (HI2.out p rfl)
            have HE := Lib.hid e1
            obtain ⟨_, ck, _, ct, _⟩ := V2.out.at_ hp
            unfold Rf.wkI
            clear e1 HXI HI1 HI2 HLT
            obtain ⟨kk, hkk⟩ : ∃ kk, kk = (gl d p).k := ⟨_, rfl⟩
            obtain ⟨tt, htt⟩ : ∃ tt, tt = (gl d p).tx := ⟨_, rfl⟩
            rw [← hkk] at ck HE
            rw [← htt] at ct HE
            by_cases h3 : kk = 3
            · have g3 : ((kk : Int) == 3) = true := by rw [h3]; rfl
              have HST : Hid (x = decide (tt = id)) := Lib.hid (by rw [HE.out, decide_eq_true h3, Bool.true_and])
              have HSE := Lib.hid (str_is (x := tt) (y := id))
              clear HE h3 hkk htt
              go_wp2_with fail
              go_quiet (fail)
              go_wp2_with fail
              go_ret
              exact ⟨by rw [HST.out, ← HSE.out]; rfl, below_drewN0 B2.out _⟩
            · have g3 : ((kk : Int) == 3) = false := by rw [beq_eq_false_iff_ne]; omega
              have HST : Hid (x = false) := Lib.hid (by rw [HE.out, decide_eq_false h3, Bool.false_and])
              clear HE h3 hkk htt
              go_wp2_with fail
              go_quiet (fail)
              go_wp2_with fail
              go_ret
              exact ⟨by rw [HST.out]; rfl, below_drewN0 B2.out _⟩
    · have e1 := HX2.out h7
      subst e1
      have g7 : (((gl d 0).k : Int) != 7) = true := by simp; omega
      clear h7
      go_wp2_with fail
      go_ret
      exact ⟨rfl, B1.out⟩
end Go.Proofs.YtfigebepeniikaaGreat
/- Layer 27: the document's Value and clash. -/
namespace Go.Proofs.YtfigebepeniikaaGreat
open Go.RowKit Go.Maps
def VP (w : World) (o : Option (List CR)) (v : Value) (b : Bool) : Prop := (o = none ∧ b = false ∧ v = .slice none 0 0) ∨ ∃ y a c, o = some y ∧ b = true ∧ v = .slice a y.length c ∧ CV w a y.length (gl y)
theorem VP.up {w w' : World} {o : Option (List CR)} {v : Value} {b : Bool} (h : VP w o v b) (k : Below w.heap.size w w') : VP w' o v b := by
  rcases h with h | ⟨y, a, c, h1, h2, h3, h4⟩
  · exact .inl h
  · exact .inr ⟨y, a, c, h1, h2, h3, h4.below k⟩
set_option maxRecDepth 20000 in
set_option maxHeartbeats 2000000 in
theorem rValue_any (B : Nat) (r : RC) (ad : Option Addr) (cp : Nat) (s : ByteArray) (w : World) (hd : DV B w ad cp r.d) (hs : SmR r) (hz : NZ r) (hc : ckL r.d = true) (h7 : (gl r.d 0).k = 7) : Calls Tryz.prog 68 #[rv r ad cp, .string s] w fun e w' => (∃ v b, e = .returned (.tuple #[v, .bool b]) ∧ VP w' (vV r.d s) v b) ∧ Below w.heap.size w w' := by
  obtain ⟨hcw, hn, hid⟩ := hs
  have hnz : ∀ i, i < r.d.length → (gl r.d i).nm.size ≤ 2000000 := hz
  obtain ⟨id, d⟩ := r
  show Calls Tryz.prog 68 #[.agg #[.string id, .slice ad d.length cp], .string s] w fun e w' => (∃ v b, e = .returned (.tuple #[v, .bool b]) ∧ VP w' (vV d s) v b) ∧ Below w.heap.size w w'
  dsimp only at *
  obtain ⟨hv, hl1, hl2, _, hbb⟩ := hd
  have hsm : Rf.Sm d.length (gl d) := ⟨hcw, hnz, by unfold maxLen; omega⟩
  have n0 := (ckC_parts hc).1
  have n1 := (ckC_parts hc).2.1
  have HO := Lib.hid (fun W (h : CV W ad d.length (gl d)) => Rf.rof_any ad d.length cp (gl d) 0 s W h hsm hc n0)
  have HC := Lib.hid (fun p (hp : p < d.length) W (h : CV W ad d.length (gl d)) => Rf.rcut_any ad d.length cp (gl d) p W h hsm hc hp hl1)
  rw [ofO_mI h7] at HO
  have HQ := Lib.hid (bx2_new w (.string id) (.slice ad d.length cp))
  have HBL : Hid (Below w.heap.size w (w.alloc (.cells #[.string id, .slice ad d.length cp] 28))) := Lib.hid ((Below.refl _ _).alloc (Nat.le_refl _) _)
  have HV := Lib.hid (hv.below HBL.out)
  obtain ⟨W, hW⟩ : ∃ W, W = w.alloc (.cells #[.string id, .slice ad d.length cp] 28) := ⟨_, rfl⟩
  rw [← hW] at HQ HBL HV
  obtain ⟨o, ho⟩ : ∃ o, o = mI d s := ⟨_, rfl⟩
  obtain ⟨y, hy⟩ : ∃ y, y = vV d s := ⟨_, rfl⟩
  have H1 : Hid (o = none → y = none) := Lib.hid (fun h => hy.trans (vV_no (ho.symm.trans h)))
  have H2 : Hid (∀ p, o = some p → p < d.length ∧ ((gl d p).k = 0 → y = none) ∧ ((gl d p).k ≠ 0 → y = some (ren ⟨#[]⟩ (cut (gl d) p (nx (gl d) d.length p))))) := Lib.hid (fun p h => ⟨(mI_lt hc (ho.symm.trans h)).1, fun k => hy.trans (vV_null (ho.symm.trans h) k), fun k => hy.trans (vV_some (ho.symm.trans h) k)⟩)
  rw [← ho] at HO
  rw [← hy]
  have HOC := Lib.hid (HO.out W HV.out)
  obtain ⟨b, off, rfl⟩ := HV.out.addr n0
  clear hv hbb hcw hnz hn hid hz HO ho hy hsm hc h7
  go_enter Tryz.func68, Tryz.ntmps68
  go_wp2_with fail
  rw [← hW]
  clear hW
  have q1 := HQ.out.c1
  go_wp2_with fail
  refine HOC.out.mono ?_
  rintro e w1 ⟨rfl, b1⟩
  have HQ1 := Lib.hid (HQ.out.up b1)
  have B1 := Lib.hid (HBL.out.trans (b1.mono HBL.out.size))
  have V1 := Lib.hid (HV.out.below b1)
  have q1 := HQ1.out.c1
  clear b1 HQ HBL HV HOC
  cases o with
  | none =>
    have e1 := H1.out rfl
    subst e1
    unfold Rf.wkI
    go_wp2_with fail
    go_ret2
    exact ⟨⟨_, _, rfl, .inl ⟨rfl, rfl, rfl⟩⟩, B1.out⟩
  | some p =>
    obtain ⟨hp, hk0, hk1⟩ := H2.out p rfl
    have hp0 : (0 : Int) ≤ p := by omega
    have hp1 : (p : Int) < d.length := by omega
    have ck := (V1.out.at_ hp).2.1
    unfold Rf.wkI
    by_cases h0 : (gl d p).k = 0
    · have e1 := hk0 h0
      subst e1
      rw [h0] at ck
      clear hk0 hk1 h0 H1 H2
      go_wp2_with fail
      go_ret2
      exact ⟨⟨_, _, rfl, .inl ⟨rfl, rfl, rfl⟩⟩, B1.out⟩
    · have e1 := hk1 h0
      have g0 : (((gl d p).k : Int) == 0) = false := by rw [beq_eq_false_iff_ne]; omega
      have HCC := Lib.hid (HC.out p hp w1 V1.out)
      have HL : Hid ((ren ⟨#[]⟩ (cut (gl d) p (nx (gl d) d.length p))).length = nx (gl d) d.length p - p) := Lib.hid (by rw [ren_len, cut_len])
      obtain ⟨z, hz⟩ : ∃ z, z = ren ⟨#[]⟩ (cut (gl d) p (nx (gl d) d.length p)) := ⟨_, rfl⟩
      rw [← hz] at HCC e1 HL
      have HE := Lib.hid e1
      generalize nx (gl d) d.length p - p = m at HCC HL
      generalize (gl d p).k = kk at ck g0
      clear hk0 hk1 h0 H1 H2 HC e1 hz
      go_wp2_with fail
      refine HCC.out.mono ?_
      rintro e w2 ⟨v, rfl, o2, b2⟩
      obtain ⟨a2, c2, rfl, dv2⟩ := own_dv HL.out o2
      have HD := Lib.hid dv2
      have B2 := Lib.hid (B1.out.trans (b2.mono B1.out.size))
      clear o2 dv2 b2 B1 HCC
      go_wp2_with fail
      go_ret2
      exact ⟨⟨_, _, rfl, .inr ⟨z, a2, c2, HE.out, rfl, rfl, HD.out.1⟩⟩, B2.out⟩
theorem vV_len {d : List CR} {s : ByteArray} {y : List CR} (hc : ckL d = true) (h : vV d s = some y) : y.length ≤ 2048 := by
  unfold vV at h
  split at h
  · rename_i p hp
    split at h
    · cases h
    · cases h
      rw [ren_len, cut_len]
      have := (nx_lt hc (mI_lt hc hp).1).2
      have := (ckC_parts hc).2.1
      omega
  · cases h
theorem clP (a b : RC) (s : ByteArray) (ha : ckL a.d = true) (hb : ckL b.d = true) {w : World} {v1 v2 : Value} {b1 b2 : Bool} (h1 : VP w (vV a.d s) v1 b1) (h2 : VP w (vV b.d s) v2 b2) : (b1 = false ∧ clash a b s = false) ∨ (b1 = true ∧ b2 = false ∧ clash a b s = false) ∨ (b1 = true ∧ b2 = true ∧ ∃ x a1 c1 y a2 c2, v1 = .slice a1 x.length c1 ∧ v2 = .slice a2 y.length c2 ∧ CV w a1 x.length (gl x) ∧ CV w a2 y.length (gl y) ∧ x.length ≤ 2048 ∧ clash a b s = decide (x = y)) := by
  have hc := clash_vV (s := s) ha hb
  rcases h1 with ⟨e1, e2, e3⟩ | ⟨x, a1, c1, e1, e2, e3, e4⟩
  · rw [e1] at hc
    exact .inl ⟨e2, hc⟩
  · rcases h2 with ⟨f1, f2, f3⟩ | ⟨y, a2, c2, f1, f2, f3, f4⟩
    · rw [e1, f1] at hc
      exact .inr (.inl ⟨e2, f2, hc⟩)
    · rw [e1, f1] at hc
      exact .inr (.inr ⟨e2, f2, x, a1, c1, y, a2, c2, e3, f3, e4, f4, vV_len ha e1, hc⟩)
set_option maxRecDepth 20000 in
set_option maxHeartbeats 2000000 in
theorem rclash_any (B B' : Nat) (a b : RC) (aa ab na : Option Addr) (ca cb nc : Nat) (L : List ByteArray) (w : World) (hL : Ord.SView w na L.length L) (hl : L.length ≤ 1000000) (ha : DV B w aa ca a.d) (hb : DV B' w ab cb b.d) (sa : SmR a) (sb : SmR b) (za : NZ a) (zb : NZ b) (ka : recOk a = true) (kb : recOk b = true) : Calls Tryz.prog 50 #[.slice na L.length nc, rv a aa ca, rv b ab cb] w fun e w' => e = .returned (.bool (L.any fun s => clash a b s)) ∧ Below w.heap.size w w' := by
  obtain ⟨pa, pa7, _, _⟩ := recOk_parts ka
  obtain ⟨pb, pb7, _, _⟩ := recOk_parts kb
  have HVA := Lib.hid (fun s W (k : Below w.heap.size w W) => rValue_any B a aa ca s W (ha.below k) sa za pa pa7)
  have HVB := Lib.hid (fun s W (k : Below w.heap.size w W) => rValue_any B' b ab cb s W (hb.below k) sb zb pb pb7)
  have HCP := Lib.hid (fun s (W : World) v1 b1 v2 b2 (h1 : VP W (vV a.d s) v1 b1) (h2 : VP W (vV b.d s) v2 b2) => clP a b s pa pb h1 h2)
  obtain ⟨x, hx⟩ : ∃ x, x = L.any fun s => clash a b s := ⟨_, rfl⟩
  have HX1 : Hid (∀ i, i < L.length → clash a b (Ord.nth L i) = true → x = true) := Lib.hid (fun i hi h => hx.trans (List.any_eq_true.2 ⟨_, nth_mem hi, h⟩))
  have HX2 : Hid ((∀ i, i < L.length → clash a b (Ord.nth L i) = false) → x = false) := Lib.hid (fun h => hx.trans (List.any_eq_false.2 (fun s hs => by
    obtain ⟨i, hi, rfl⟩ := List.mem_iff_getElem.1 hs
    have := h i hi
    rw [nth_in hi] at this
    simpa using this)))
  rw [← hx]
  clear hx
  unfold rv at HVA HVB ⊢
  obtain ⟨la, hla⟩ : ∃ m, m = a.d.length := ⟨_, rfl⟩
  obtain ⟨lb, hlb⟩ : ∃ m, m = b.d.length := ⟨_, rfl⟩
  obtain ⟨ia, hia⟩ : ∃ m, m = a.id := ⟨_, rfl⟩
  obtain ⟨ib, hib⟩ : ∃ m, m = b.id := ⟨_, rfl⟩
  rw [← hla, ← hia] at HVA ⊢
  rw [← hlb, ← hib] at HVB ⊢
  clear hla hlb hia hib ha hb sa sb za zb ka kb pa pb pa7 pb7
  obtain ⟨W, hW⟩ : ∃ W, W = (w.alloc (.cells #[.string ia, .slice aa la ca] 28)).alloc (.cells #[.string ib, .slice ab lb cb] 28) := ⟨_, rfl⟩
  have HW : Hid (Below w.heap.size w W) := Lib.hid (by rw [hW]; exact ((Below.refl _ _).alloc (Nat.le_refl _) _).alloc (by simp) _)
  have HQA : Hid (Bx2 W w.heap.size (.string ia) (.slice aa la ca)) := Lib.hid (by rw [hW]; exact (bx2_new w _ _).up ((Below.refl _ _).alloc (Nat.le_refl _) _))
  have HQB : Hid (Bx2 W (w.heap.size + 1) (.string ib) (.slice ab lb cb)) := Lib.hid (by
    rw [hW]
    have h := bx2_new (w.alloc (.cells #[.string ia, .slice aa la ca] 28)) (.string ib) (.slice ab lb cb)
    simpa using h)
  have HL : Hid (Ord.SView W na L.length L) := Lib.hid (hL.below HW.out)
  clear hL
  go_enter Tryz.func50, Tryz.ntmps50
  go_wp2_with fail
  rw [← hW]
  clear hW
  have hl1 : (L.length : Int) ≤ 1000000 := by omega
  by_cases h0 : L.length = 0
  · have e1 := HX2.out (fun i hi => by omega)
    subst e1
    have hz : ¬ ((0 : Int) < (L.length : Int)) := by omega
    refine wp_loop_rounds 1 ?_
    rw [rounds_succ]
    go_wp2_with fail
    go_ret
    exact ⟨rfl, HW.out⟩
  obtain ⟨nb, off, rfl⟩ := sv_addr HL.out (by omega)
  go_loopw [7] (fun v7 wr => ∃ i : Nat, i ≤ L.length ∧ v7 = .int .i64 i ∧ Hid (Below W.heap.size W wr) ∧ Hid (∀ j, j < i → clash a b (Ord.nth L j) = false)) (fun v7 _ => L.length - (intOf v7).toNat)
  case atStart => exact ⟨0, Nat.zero_le _, rfl, Lib.hid (Below.refl _ _), Lib.hid (fun j hj => by omega)⟩
  case round =>
    obtain ⟨i, hi, rfl, HB, HN⟩ := hrel
    by_cases hlt : i < L.length
    · have hlt' : (i : Int) < L.length := by omega
      have hge : (0 : Int) ≤ i := by omega
      have ci := (sv_at (HL.out.below HB.out) hlt).2
      have HLr := Lib.hid (HL.out.below HB.out)
      have QA := Lib.hid (HQA.out.up HB.out)
      have QB := Lib.hid (HQB.out.up HB.out)
      have x0 := QA.out.c0
      have x1 := QA.out.c1
      have HBw := Lib.hid (HW.out.trans (HB.out.mono HW.out.size))
      have HX1i := Lib.hid (HX1.out i hlt)
      have HN2 : Hid (clash a b (Ord.nth L i) = false → ∀ j, j < i + 1 → clash a b (Ord.nth L j) = false) := Lib.hid (fun h j hj => by
        by_cases e : j = i
        · subst e; exact h
        · exact HN.out j (by omega))
      obtain ⟨s, hs⟩ : ∃ s, s = Ord.nth L i := ⟨_, rfl⟩
      rw [← hs] at ci HX1i HN2
      have HCI := Lib.hid hs
      have HVAC := Lib.hid (HVA.out s wr.drew HBw.out.drew)
      have HVB2 := Lib.hid (fun V (k : Below wr.heap.size wr V) => HVB.out s V.drew (HBw.out.trans (k.drew.mono HBw.out.size)))
      have HCPs := Lib.hid (HCP.out s)
      clear hs HN HVA HVB HCP HX1 HX2
      go_wp2_with fail
      go_region_law (first
        | (go_simp; refine HVAC.out.mono ?_; rintro e w4 ⟨⟨v1, b1, rfl, p1⟩, k1⟩; have P1 := Lib.hid p1; have K1 := Lib.hid ((Below.refl wr.heap.size wr).drew.trans k1); clear p1 k1))
      all_goals have ci4 := (sv_at (HLr.out.below K1.out) hlt).2
      all_goals rw [← HCI.out] at ci4
      all_goals have QB4 := Lib.hid (QB.out.up K1.out)
      all_goals have y0 := QB4.out.c0
      all_goals have y1 := QB4.out.c1
      all_goals have HVBC := Lib.hid (HVB2.out _ K1.out)
      all_goals clear HVB2 HVAC QA QB x0 x1 ci
      all_goals go_wp2_with fail
      all_goals go_region_law (first
        | (go_simp; refine HVBC.out.mono ?_; rintro e w5 ⟨⟨v2, b2, rfl, p2⟩, k2⟩; have P2 := Lib.hid p2; have K2 := Lib.hid (K1.out.trans ((Below.refl w4.heap.size w4).drew.trans k2 |>.mono K1.out.size)); have P1' := Lib.hid (P1.out.up ((Below.refl w4.heap.size w4).drew.trans k2)); clear p2 k2))
      all_goals have HB5 := Lib.hid (HB.out.trans (K2.out.mono HB.out.size))
      all_goals have hcases := HCPs.out _ _ _ _ _ P1'.out P2.out
      all_goals clear P1 P2 P1' HVBC QB4 y0 y1 ci4 HCPs K1 HLr HCI
      all_goals
        rcases hcases with ⟨rfl, hc⟩ | ⟨rfl, rfl, hc⟩ | ⟨rfl, rfl, xx, a1, c1, yy, a2, c2, rfl, rfl, cv1, cv2, hxl, hc⟩
        · have HR := Lib.hid (HN2.out hc)
          clear hc HN2 HX1i
          go_wp2_with fail
          go_roundw
          case rel => exact ⟨i + 1, by omega, by go_num, HB5, HR⟩
          case measure => simp [intOf]; omega
        · have HR := Lib.hid (HN2.out hc)
          clear hc HN2 HX1i
          go_wp2_with fail
          go_roundw
          case rel => exact ⟨i + 1, by omega, by go_num, HB5, HR⟩
          case measure => simp [intOf]; omega
        · have HSC := Lib.hid (rsame_any a1 a2 xx.length yy.length c1 c2 (gl xx) (gl yy) _ cv1 cv2 (by unfold maxLen; omega))
          rw [sm_dec, ← hc] at HSC
          clear cv1 cv2 hxl hc
          obtain ⟨cc, hcc⟩ : ∃ c, c = clash a b s := ⟨_, rfl⟩
          rw [← hcc] at HSC HN2 HX1i
          clear hcc
          go_wp2_with fail
          refine HSC.out.mono ?_
          rintro e w6 ⟨rfl, k3⟩
          have HB6 := Lib.hid (HB5.out.trans (k3.mono HB5.out.size))
          clear k3 HB5 HSC
          cases cc with
          | true =>
            have e1 := HX1i.out rfl
            subst e1
            go_wp2_with fail
            go_ret
            exact ⟨rfl, HW.out.trans (HB6.out.mono HW.out.size)⟩
          | false =>
            have HR := Lib.hid (HN2.out rfl)
            clear HN2 HX1i
            go_wp2_with fail
            go_roundw
            case rel => exact ⟨i + 1, by omega, by go_num, HB6, HR⟩
            case measure => simp [intOf]; omega
    · have him : i = L.length := by omega
      subst him
      have e1 := HX2.out HN.out
      subst e1
      have hz : ¬ ((L.length : Int) < (L.length : Int)) := by omega
      go_wp2_with fail
      go_ret
      exact ⟨rfl, HW.out.trans (HB.out.mono HW.out.size)⟩
end Go.Proofs.YtfigebepeniikaaGreat

/- Layer 3: kids, Kids, Member. -/
import Derived.Test.YtfmgkndljppffaaC9
import Derived.OwnWalk
namespace Go.Proofs.Ytfmgkndljppffaa
open Go.RowKit Go.Maps
theorem infoI : ∃ i, Try.prog.info? 3 = some i ∧ i.zero = some (.int .i64 0) ∧ i.size = 1 ∧ i.bytes = 8 := by
  have h := Try.typeInfo3 default
  unfold typeInfo at h
  cases hq : Try.prog.info? 3 with
  | none => simp [hq] at h
  | some i =>
    simp [hq] at h
    exact ⟨i, rfl, by rw [h]; rfl, by rw [h]; rfl, by rw [h]; rfl⟩
theorem news_at (w : World) (cs : Array Value) (t : TypeId) (L : List Value) (h : cs.toList = L) : ∀ j u, L[j]? = some u → (w.alloc (.cells cs t)).cell? ((⟨w.heap.size, 0, none⟩ : Addr).add j) = some u := by
  subst h
  intro j u hj
  simp only [Addr.add_lit, Nat.zero_add, World.cell?, heap_alloc_new]
  simpa using hj
def bdL (g : Nat → CR) (n a m : Nat) : List Value := (List.range m).map fun i => .int .i64 (bd g n a i : Nat)
theorem bdL_succ (g : Nat → CR) (n a m : Nat) : bdL g n a (m + 1) = bdL g n a m ++ [.int .i64 (bd g n a m : Nat)] := by unfold bdL; rw [List.range_succ, List.map_append]; rfl
theorem bdL_len (g : Nat → CR) (n a m : Nat) : (bdL g n a m).length = m := by simp [bdL]
set_option maxRecDepth 20000 in
set_option maxHeartbeats 2000000 in
theorem kids_any (a : Option Addr) (n cap : Nat) (g : Nat → CR) (p e : Nat) (w : World) (hv : CV w a n g) (hn : n ≤ 2048) (h : wk g n 16 p = some e) : Calls Try.prog 34 #[.slice a n cap, .int .i64 (p : Nat)] w fun r w' => ∃ v, r = .returned v ∧ w'.ownsRow w.heap.size 3 1 v (g p).m.toNat (bdL g n (p + 1) (g p).m.toNat) ∧ Below w.heap.size w w' := by
  obtain ⟨i0, hi, hz0, hz1, hz2⟩ := infoI
  obtain ⟨k1, _, k3, k4⟩ := wk_open (Nat.le_refl _) h
  have k5 := Chain.le _ _ _ k4
  have k6 := wk_lt _ _ _ h
  have HB := Lib.hid (bd_chain _ _ _ k4).1
  obtain ⟨b, off, rfl⟩ := hv.addr (by omega)
  have HV := Lib.hid hv
  obtain ⟨_, _, _, _, _, c4⟩ := hv.at_ k1
  obtain ⟨m, hm⟩ : ∃ m : Nat, (g p).m = m := ⟨(g p).m.toNat, by omega⟩
  rw [hm] at c4 k5 HB ⊢
  rw [Int.toNat_natCast] at k5 HB ⊢
  have hp0 : (0 : Int) ≤ p := by omega
  have hp1 : (p : Int) < n := by omega
  have hb0 : (n : Int) ≤ 2048 := by omega
  have hmn : m ≤ 2048 := by omega
  have HSK := Lib.hid (fun i (hi : i < m) W (hv : CV W (some ⟨b, off, none⟩) n g) => skip_any (some ⟨b, off, none⟩) n cap g (bd g n (p + 1) i) _ W hv hn (HB.out i hi))
  have HBN := Lib.hid (fun i (hi : i < m) => wk_lt _ _ _ (HB.out i hi))
  obtain ⟨f, hf⟩ : ∃ f, f = bd g n (p + 1) := ⟨_, rfl⟩
  have HL : Hid (∀ i, bdL g n (p + 1) (i + 1) = bdL g n (p + 1) i ++ [.int .i64 (f i : Nat)]) := Lib.hid (fun i => by rw [hf]; exact bdL_succ _ _ _ _)
  have HL0 : Hid (bdL g n (p + 1) 0 = []) := Lib.hid rfl
  obtain ⟨L, hL⟩ : ∃ L, L = bdL g n (p + 1) := ⟨_, rfl⟩
  rw [← hL] at HL HL0 ⊢
  rw [← hf] at HSK HBN
  have hf0 : p + 1 = f 0 := by rw [hf]; rfl
  clear hv h k4 k3 k6 k5 hm HB hL hf
  go_enter Try.func34, Try.ntmps34
  go_wp2_with fail
  have hf1 : ((p : Int) + 1) = (f 0 : Nat) := by omega
  rw [hf1]
  clear hf0 hf1 c4
  go_loopw [5, 6, 14] (fun v5 v6 v14 wr => ∃ i : Nat, i ≤ m ∧ v14 = .int .i64 i ∧ v6 = .int .i64 (f i : Nat) ∧ Hid (wr.ownsRow w.heap.size 3 1 v5 i (L i)) ∧ Hid (Below w.heap.size w wr)) (fun _ _ v14 _ => m - (intOf v14).toNat)
  case atStart => exact ⟨0, Nat.zero_le _, rfl, rfl, Lib.hid (by rw [HL0.out]; exact World.ownsRow_nil _ _ _ _), Lib.hid (Below.refl _ _)⟩
  case round =>
    obtain ⟨i, hi1, rfl, rfl, HO, HBw⟩ := hrel
    by_cases hlt : i < m
    · have hlt' : (i : Int) < m := by omega
      have hs1 := HBw.out.size
      have hs3 : w.heap.size ≤ wr.heap.size + 1 := by omega
      have hfn := (HBN.out i hlt)
      obtain ⟨x, hx⟩ : ∃ x : Nat, x = f i := ⟨_, rfl⟩
      obtain ⟨y, hy⟩ : ∃ y : Nat, y = f (i + 1) := ⟨_, rfl⟩
      have HK := Lib.hid (HSK.out i hlt)
      rw [← hx, ← hy] at HK
      rw [← hx]
      have HLi : Hid (L (i + 1) = L i ++ [.int .i64 (x : Nat)]) := Lib.hid (by rw [HL.out, hx])
      have HY := Lib.hid hy
      clear hx hfn hs1 hy
      go_wp2_with (at_builtin; refine wpList_append_own _ rfl _ _ 22 rfl w.heap.size 3 i0 (.int .i64 0) 1 8 Try.underlying22 hi hz0 hz1 hz2 rfl (by decide) _ _ _ rfl (HO.out.alloc _) ⟨wr.heap.size, 0, none⟩ 1 1 [.int .i64 (x : Nat)] rfl rfl (news_at _ _ _ _ rfl) (by intro u hu; simp at hu; subst hu; rfl) (by unfold maxLen; omega) (by omega) (by simpa using hs3) ?_; intro v1 w3 ho1 hg1 _)
      have B3 : Hid (Below w.heap.size w w3) := Lib.hid ((HBw.out.alloc HBw.out.size _).grown hg1 (by have := HBw.out.size; show w.heap.size ≤ (wr.heap.push _).size; simp; omega) (fun q hq => (HO.out.lt q hq).1))
      have O3 := Lib.hid ho1
      clear ho1 hg1
      with_reducible refine (HK.out w3 (HV.out.below B3.out)).mono ?_
      rintro e w4 ⟨rfl, hq1⟩
      have hq2 := hq1.symm
      clear hq1
      subst hq2
      go_wp2_with fail
      go_roundw
      case rel => exact ⟨i + 1, by omega, by go_num, by rw [HY.out], Lib.hid (by rw [HLi.out]; exact O3.out), B3⟩
      case measure => simp [intOf]; omega
    · have him : i = m := by omega
      subst him
      have hge : ¬ (i : Int) < i := by omega
      go_wp2_with fail
      go_ret
      exact ⟨_, rfl, HO.out, HBw.out⟩
/-- A row of places. -/
def IV (w : World) (a : Option Addr) (m : Nat) (f : Nat → Nat) : Prop := ∀ i, i < m → ∃ b off, a = some ⟨b, off, none⟩ ∧ b < w.heap.size ∧ w.cell? ⟨b, off + i, none⟩ = some (.int .i64 (f i : Nat))
theorem IV.below {w w' : World} {a : Option Addr} {m : Nat} {f : Nat → Nat} (h : IV w a m f) (hb : Below w.heap.size w w') : IV w' a m f := fun i hi => by
  obtain ⟨b, off, e, h1, h2⟩ := h i hi
  exact ⟨b, off, e, Nat.lt_of_lt_of_le h1 hb.size, (hb.cell (p := ⟨b, _, none⟩) h1).trans h2⟩
theorem own_iv {w : World} {B m : Nat} {v : Value} {g : Nat → CR} {n a : Nat} (h : w.ownsRow B 3 1 v m (bdL g n a m)) : ∃ ad cap, v = .slice ad m cap ∧ IV w ad m (bd g n a) ∧ (∀ b off, ad = some ⟨b, off, none⟩ → B ≤ b) := by
  rcases h.2 with ⟨rfl, hn⟩ | ⟨q, cap, cur, rfl, hg, hgg, h1, h2, h3, h4⟩
  · subst hn
    exact ⟨none, 0, rfl, fun i hi => by omega, fun b off e => by cases e⟩
  · refine ⟨some ⟨q, 0, none⟩, cap, rfl, fun k hk => ⟨q, 0, rfl, (Array.getElem?_eq_some_iff.1 hgg).1, ?_⟩, fun b off e => by cases e; exact hg⟩
    rw [Nat.zero_add, h.cellAt k (by omega)]
    unfold bdL
    rw [List.getElem?_map, List.getElem?_range hk]
    rfl
set_option maxRecDepth 20000 in
theorem kids_bad (a : Option Addr) (n cap : Nat) (g : Nat → CR) (p : Int) (w : World) (hv : CV w a n g) (hcw : CW n g) (hb : plE g n p ≠ 0) : Calls Try.prog 8 #[.slice a n cap, .int .i64 p] w fun r w' => r = .returned (.tuple #[.slice none 0 0, .int .i64 (plE g n p)]) ∧ Below w.heap.size w w' := by
  have HC := Lib.hid (place_any a n cap g p w hv hcw)
  obtain ⟨z, hz⟩ : ∃ z, z = plE g n p := ⟨_, rfl⟩
  rw [← hz] at HC hb ⊢
  have hz0 : (z == 0) = false := by rw [beq_eq_false_iff_ne]; exact hb
  clear hz hb hv hcw
  go_enter Try.func8, Try.ntmps8
  go_wp2_with fail
  with_reducible refine HC.out.mono ?_
  rintro e w1 ⟨rfl, b1⟩
  have B1 := Lib.hid b1
  clear b1
  go_wp2_with fail
  go_ret2
  exact ⟨rfl, B1.out⟩
set_option maxRecDepth 20000 in
theorem kids_ok (a : Option Addr) (n cap : Nat) (g : Nat → CR) (p : Nat) (w : World) (hv : CV w a n g) (hcw : CW n g) (hc : ckC g n = true) (hp : p < n) : Calls Try.prog 8 #[.slice a n cap, .int .i64 (p : Nat)] w fun r w' => ∃ ad c, r = .returned (.tuple #[.slice ad (g p).m.toNat c, .int .i64 0]) ∧ IV w' ad (g p).m.toNat (bd g n (p + 1)) ∧ (∀ b off, ad = some ⟨b, off, none⟩ → w.heap.size ≤ b) ∧ Below w.heap.size w w' := by
  have HC := Lib.hid (place_any a n cap g p w hv hcw)
  rw [pl_ok hc hp] at HC
  have HS := Lib.hid (fun w1 (hv1 : CV w1 a n g) => kids_any a n cap g p _ w1 hv1 (ckC_parts hc).2.1 (ck_at hc hp).1)
  have HV := Lib.hid hv
  clear hc hp hv hcw
  go_enter Try.func8, Try.ntmps8
  go_wp2_with fail
  with_reducible refine HC.out.mono ?_
  rintro e w1 ⟨rfl, b1⟩
  have B1 := Lib.hid b1
  clear b1
  go_wp2_with fail
  with_reducible refine (HS.out w1 (HV.out.below B1.out)).mono ?_
  rintro e w2 ⟨v, rfl, o2, b2⟩
  obtain ⟨ad, c, rfl, iv, hlo⟩ := own_iv o2
  have B2 := Lib.hid (B1.out.trans (b2.mono B1.out.size))
  have IV2 := Lib.hid iv
  have HLO := Lib.hid (fun b off e => Nat.le_trans B1.out.size (hlo b off e))
  clear b2 iv hlo o2
  go_wp2_with fail
  go_ret2
  exact ⟨_, _, rfl, IV2.out, HLO.out, B2.out⟩
/-- The first of some places whose cell has that name. -/
def mbF (g : Nat → CR) (s : ByteArray) (f : Nat → Nat) (m : Nat) : Option Nat := ((List.range m).map f).find? fun q => decide ((g q).nm = s)
theorem mbF_none {g : Nat → CR} {s : ByteArray} {f : Nat → Nat} {m : Nat} (h : ∀ j, j < m → (g (f j)).nm ≠ s) : mbF g s f m = none := by
  unfold mbF
  rw [List.find?_eq_none]
  intro q hq
  obtain ⟨j, hj, rfl⟩ := List.mem_map.1 hq
  simpa using h j (List.mem_range.1 hj)
theorem mbF_some {g : Nat → CR} {s : ByteArray} {f : Nat → Nat} {m i : Nat} (hi : i < m) (h : ∀ j, j < i → (g (f j)).nm ≠ s) (hs : (g (f i)).nm = s) : mbF g s f m = some (f i) := by
  unfold mbF
  have e : List.range m = List.range i ++ (i :: (List.range (m - (i + 1))).map (fun x => i + 1 + x)) := by
    apply List.ext_getElem (by simp; omega)
    intro k h1 h2
    rw [List.getElem_range]
    by_cases hk : k < i
    · rw [List.getElem_append_left (by simpa using hk)]; simp
    · rw [List.getElem_append_right (by simpa using hk)]
      by_cases e : k = i
      · subst e; simp
      · simp only [List.length_range]
        rw [List.getElem_cons]
        rw [dif_neg (by omega)]
        simp; omega
  rw [e, List.map_append, List.find?_append]
  rw [show ((List.range i).map f).find? (fun q => decide ((g q).nm = s)) = none from mbF_none h]
  simp [hs]
theorem str_is {x y : ByteArray} : (x.toList == y.toList) = decide (x = y) := by
  rw [Bool.eq_iff_iff, beq_iff_eq, decide_eq_true_eq, ByteArray.toList_eq, ByteArray.toList_eq, Array.toList_inj]
  exact ⟨fun h => ByteArray.ext h, fun h => by rw [h]⟩
/-- What Member finds. -/
def memP (g : Nat → CR) (n : Nat) (p : Int) (s : ByteArray) : Option Nat := if plE g n p = 0 ∧ (g p.toNat).k = 7 then mbF g s (bd g n (p.toNat + 1)) (g p.toNat).m.toNat else none
theorem ret_mb {x y : Nat} {b c : Bool} (h : x = y) (k : b = c) : Ending.returned (.tuple #[.int .i64 (x : Nat), .bool b]) = .returned (.tuple #[.int .i64 (y : Nat), .bool c]) := by rw [h, k]
set_option maxRecDepth 20000 in
theorem member_bad (a : Option Addr) (n cap : Nat) (g : Nat → CR) (p : Int) (s : ByteArray) (w : World) (hv : CV w a n g) (hcw : CW n g) (hb : plE g n p ≠ 0) : Calls Try.prog 10 #[.slice a n cap, .int .i64 p, .string s] w fun r w' => r = .returned (.tuple #[.int .i64 0, .bool false]) ∧ Below w.heap.size w w' := by
  have HC := Lib.hid (place_any a n cap g p w hv hcw)
  obtain ⟨z, hz⟩ : ∃ z, z = plE g n p := ⟨_, rfl⟩
  rw [← hz] at HC hb
  have hz0 : (z != 0) = true := by simpa using hb
  have hz1 : (z == 0) = false := by rw [beq_eq_false_iff_ne]; exact hb
  clear hz hb hv hcw
  go_enter Try.func10, Try.ntmps10
  go_wp2_with fail
  with_reducible refine HC.out.mono ?_
  rintro e w1 ⟨rfl, b1⟩
  have B1 := Lib.hid b1
  clear b1
  go_wp2_with fail
  go_ret2
  exact ⟨rfl, B1.out⟩
set_option maxRecDepth 20000 in
theorem member_no (a : Option Addr) (n cap : Nat) (g : Nat → CR) (p : Nat) (s : ByteArray) (w : World) (hv : CV w a n g) (hcw : CW n g) (hc : ckC g n = true) (hp : p < n) (hk : (g p).k ≠ 7) : Calls Try.prog 10 #[.slice a n cap, .int .i64 (p : Nat), .string s] w fun r w' => r = .returned (.tuple #[.int .i64 0, .bool false]) ∧ Below w.heap.size w w' := by
  have HC := Lib.hid (place_any a n cap g p w hv hcw)
  rw [pl_ok hc hp] at HC
  have HV := Lib.hid hv
  obtain ⟨b, off, rfl⟩ := hv.addr (by omega)
  have hp0 : (0 : Int) ≤ p := by omega
  have hp1 : (p : Int) < n := by omega
  have hk1 : (((g p).k : Int) != 7) = true := by simp; omega
  have hk2 : (((g p).k : Int) == 7) = false := by rw [beq_eq_false_iff_ne]; omega
  clear hc hv hcw hk
  go_enter Try.func10, Try.ntmps10
  go_wp2_with fail
  with_reducible refine HC.out.mono ?_
  rintro e w1 ⟨rfl, b1⟩
  have c0 := ((HV.out.below b1).at_ hp).2.1
  have B1 := Lib.hid b1
  clear b1
  go_wp2_with fail
  go_ret2
  exact ⟨rfl, B1.out⟩
set_option maxRecDepth 20000 in
set_option maxHeartbeats 1000000 in
theorem member_ok (a : Option Addr) (n cap : Nat) (g : Nat → CR) (p : Nat) (s : ByteArray) (w : World) (hv : CV w a n g) (hcw : CW n g) (hc : ckC g n = true) (hp : p < n) (hk : (g p).k = 7) : Calls Try.prog 10 #[.slice a n cap, .int .i64 (p : Nat), .string s] w fun r w' => r = .returned (.tuple #[.int .i64 ((mbF g s (bd g n (p + 1)) (g p).m.toNat).getD 0 : Nat), .bool (mbF g s (bd g n (p + 1)) (g p).m.toNat).isSome]) ∧ Below w.heap.size w w' := by
  have HC := Lib.hid (place_any a n cap g p w hv hcw)
  rw [pl_ok hc hp] at HC
  have HV := Lib.hid hv
  obtain ⟨b, off, rfl⟩ := hv.addr (by omega)
  have HS := Lib.hid (fun w1 (hv1 : CV w1 (some ⟨b, off, none⟩) n g) => kids_any (some ⟨b, off, none⟩) n cap g p _ w1 hv1 (ckC_parts hc).2.1 (ck_at hc hp).1)
  have HBD := Lib.hid (fun i hi => wk_lt _ _ _ ((bd_chain _ _ _ (wk_open (Nat.le_refl _) (ck_at hc hp).1).2.2.2).1 i hi))
  have hmn : Hid ((g p).m.toNat ≤ 2048) := Lib.hid (by have h1 := Chain.le _ _ _ (wk_open (Nat.le_refl _) (ck_at hc hp).1).2.2.2; have h2 := (ckC_parts hc).2.1; have h3 := (ck_at hc hp).2; omega)
  have hp0 : (0 : Int) ≤ p := by omega
  have hp1 : (p : Int) < n := by omega
  have hn : (n : Int) ≤ 2048 := by have := (ckC_parts hc).2.1; omega
  obtain ⟨kk, hkk⟩ : ∃ kk : Int, kk = (g p).k := ⟨_, rfl⟩
  have hk1 : kk = 7 := by omega
  obtain ⟨x, hx⟩ : ∃ x, x = mbF g s (bd g n (p + 1)) (g p).m.toNat := ⟨_, rfl⟩
  rw [← hx]
  replace hx := Lib.hid hx
  clear hc hv hcw hk
  go_enter Try.func10, Try.ntmps10
  go_wp2_with fail
  with_reducible refine HC.out.mono ?_
  rintro e w1 ⟨rfl, b1⟩
  have c0 := ((HV.out.below b1).at_ hp).2.1
  rw [← hkk, hk1] at c0
  have B1 := Lib.hid b1
  clear b1 hkk hk1
  go_wp2_with fail
  with_reducible refine (HS.out w1 (HV.out.below B1.out)).mono ?_
  rintro e w2 ⟨v, rfl, o2, b2⟩
  obtain ⟨ad, c, rfl, iv, _⟩ := own_iv o2
  have B2 := Lib.hid (B1.out.trans (b2.mono B1.out.size))
  have IV2 := Lib.hid iv
  have V2 := Lib.hid (HV.out.below B2.out)
  clear b2 iv o2 c0 HC HS B1
  obtain ⟨m, hm⟩ : ∃ m, m = (g p).m.toNat := ⟨_, rfl⟩
  obtain ⟨f, hf⟩ : ∃ f, f = bd g n (p + 1) := ⟨_, rfl⟩
  rw [← hm, ← hf] at IV2 HBD
  rw [← hm, ← hf] at hx
  rw [← hm] at hmn ⊢
  clear hm hf
  by_cases h0 : m = 0
  · subst h0
    have HX : Hid (x = none) := Lib.hid (by rw [hx.out]; exact mbF_none (fun j hj => by omega))
    go_wp2_with fail
    refine wp_loop_rounds 1 ?_
    rw [rounds_succ]
    go_wp2_with fail
    go_ret2
    exact ⟨by rw [HX.out]; rfl, B2.out⟩
  · obtain ⟨b2, o2, rfl, _, _⟩ := IV2.out 0 (by omega)
    have hm1 : (m : Int) ≤ 2048 := by have := hmn.out; omega
    go_wp2_with fail
    go_loop [9, 26] (fun _ v26 => ∃ i : Nat, i ≤ m ∧ v26 = .int .i64 i ∧ Hid (∀ j, j < i → (g (f j)).nm ≠ s)) (fun _ v26 => m - (intOf v26).toNat)
    case atStart => exact ⟨0, Nat.zero_le _, rfl, Lib.hid (fun j hj => by omega)⟩
    case round =>
      obtain ⟨i, hi, rfl, HN⟩ := hrel
      by_cases hlt : i < m
      · obtain ⟨b3, o3, e3, _, ci⟩ := IV2.out i hlt
        cases e3
        have hq := (HBD.out i hlt)
        have hfn : f i < n := by omega
        have cn := (V2.out.at_ hfn).2.2.1
        have hi0 : (0 : Int) ≤ i := by omega
        have hi1 : (i : Int) < m := by omega
        obtain ⟨y, hy⟩ : ∃ y, y = f i := ⟨_, rfl⟩
        obtain ⟨nm, hnm⟩ : ∃ nm, nm = (g (f i)).nm := ⟨_, rfl⟩
        rw [← hnm, ← hy] at cn
        rw [← hy] at ci
        have hy0 : (0 : Int) ≤ y := by omega
        have hy1 : (y : Int) < n := by omega
        by_cases he : nm = s
        · have HX : Hid (x = some y) := Lib.hid (by rw [hx.out, hy]; exact mbF_some hlt HN.out (by rw [← hnm]; exact he))
          subst he
          clear hq hfn hy hnm HN
          go_wp2_with fail
          go_ret2
          exact ⟨by rw [HX.out]; rfl, B2.out⟩
        · have HN2 : Hid (∀ j, j < i + 1 → (g (f j)).nm ≠ s) := Lib.hid (fun j hj => by
            by_cases e : j = i
            · subst e; rw [← hnm]; exact he
            · exact HN.out j (by omega))
          have he2 : (nm.toList == s.toList) = false := by rw [str_is]; simpa using he
          clear hq hfn hy hnm HN he
          go_wp2_with fail
          go_round
          case rel => exact ⟨i + 1, by omega, by go_num, HN2⟩
          case measure => simp [intOf]; omega
      · have him : i = m := by omega
        subst him
        have HX : Hid (x = none) := Lib.hid (by rw [hx.out]; exact mbF_none HN.out)
        clear HN
        go_wp2_with fail
        go_ret2
        exact ⟨by rw [HX.out]; rfl, B2.out⟩
theorem member_any (a : Option Addr) (n cap : Nat) (g : Nat → CR) (p : Int) (s : ByteArray) (w : World) (hv : CV w a n g) (hcw : CW n g) : Calls Try.prog 10 #[.slice a n cap, .int .i64 p, .string s] w fun r w' => r = .returned (.tuple #[.int .i64 ((memP g n p s).getD 0 : Nat), .bool (memP g n p s).isSome]) ∧ Below w.heap.size w w' := by
  by_cases hb : plE g n p = 0
  · have hc : ckC g n = true := by
      cases h : ckC g n with
      | true => rfl
      | false => unfold plE at hb; rw [h] at hb; simp at hb
    have hp : 0 ≤ p ∧ p < n := by
      unfold plE at hb
      rw [if_pos hc] at hb
      by_cases h : 0 ≤ p ∧ p < n
      · exact h
      · rw [if_neg h] at hb; cases hb
    obtain ⟨q, rfl⟩ : ∃ q : Nat, p = q := ⟨p.toNat, by omega⟩
    unfold memP
    rw [Int.toNat_natCast]
    by_cases hk : (g q).k = 7
    · rw [if_pos ⟨hb, hk⟩]
      exact member_ok a n cap g q s w hv hcw hc (by omega) hk
    · rw [if_neg (fun h => hk h.2)]
      exact member_no a n cap g q s w hv hcw hc (by omega) hk
  · unfold memP
    rw [if_neg (fun h => hb h.1)]
    exact member_bad a n cap g p s w hv hcw hb
end Go.Proofs.Ytfmgkndljppffaa

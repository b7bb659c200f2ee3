import Derived.Test.YtfigebepeniikaaGreatK5
/- Layer 27: the Ids of rows; where an Id is. -/
namespace Go.Proofs.YtfigebepeniikaaGreat
open Go.RowKit Go.Maps
set_option maxRecDepth 20000 in
set_option maxHeartbeats 2000000 in
theorem ids_any (B p : Nat) (x0 x1 x2 : Value) (a2 : Option Addr) (c2 : Nat) (R : List RC) (w : World) (hb : Bx4 w p 53 x0 x1 x2 (.slice a2 R.length c2)) (hv : RV B w a2 R) (hn : R.length ≤ 1000) : Calls Tryz.prog 40 #[.pointer (some ⟨p, 0, none⟩)] w fun e w' => ∃ v, e = .returned v ∧ w'.ownsRow w.heap.size 9 1 v R.length ((idsR R).map .string) ∧ Below w.heap.size w w' := by
  obtain ⟨i0, hi, hz0, hz1, hz2⟩ := infoN
  have HV := Lib.hid hv
  have h3 := hb.c3
  obtain ⟨f, hf⟩ : ∃ f : Nat → ByteArray, f = fun i => (rl R i).id := ⟨_, rfl⟩
  obtain ⟨L, hL⟩ : ∃ L : Nat → List Value, L = fun i => ((idsR R).take i).map Value.string := ⟨_, rfl⟩
  have HF : Hid (∀ i, f i = (rl R i).id) := Lib.hid (fun i => by rw [hf])
  have HL0 : Hid (L 0 = []) := Lib.hid (by rw [hL]; rfl)
  have HLn : Hid (L R.length = (idsR R).map Value.string) := Lib.hid (by rw [hL]; show ((idsR R).take R.length).map _ = _; rw [← idsR_len R, List.take_length])
  have HLs : Hid (∀ i, i < R.length → L (i + 1) = L i ++ [.string (f i)]) := Lib.hid (fun i hi => by
    rw [hL, hf]
    show ((idsR R).take (i + 1)).map _ = ((idsR R).take i).map _ ++ _
    have h : i < (idsR R).length := by rw [idsR_len]; exact hi
    rw [List.take_succ_eq_append_getElem h, List.map_append]
    have e : (idsR R)[i] = (rl R i).id := by rw [rl_get hi]; simp [idsR]
    rw [e]
    rfl)
  rw [← HLn.out]
  clear hb hv hf hL
  obtain ⟨n, hnn⟩ : ∃ n, n = R.length := ⟨_, rfl⟩
  rw [← hnn] at h3 hn HLs ⊢
  have HN := Lib.hid hnn
  clear hnn HLn
  have hn' : (n : Int) ≤ 1000 := by omega
  go_enter Tryz.func40, Tryz.ntmps40
  go_wp2_with fail
  go_loopw [3, 5, 12] (fun v3 _ v12 wr => ∃ i : Nat, i ≤ n ∧ v12 = .int .i64 i ∧ Hid (wr.ownsRow w.heap.size 9 1 v3 i (L i)) ∧ Hid (Below w.heap.size w wr)) (fun _ _ v12 _ => n - (intOf v12).toNat)
  case atStart => exact ⟨0, Nat.zero_le _, rfl, Lib.hid (by rw [HL0.out]; exact World.ownsRow_nil _ _ _ _), Lib.hid (Below.refl _ _)⟩
  case round =>
    obtain ⟨i, hi1, rfl, HO, HBw⟩ := hrel
    by_cases hlt : i < n
    · have hlt' : (i : Int) < n := by omega
      have hge : (0 : Int) ≤ i := by omega
      obtain ⟨b, off, rfl⟩ := HV.out.addr (by rw [← HN.out]; omega)
      obtain ⟨ad, cp, _, _, d0, d1, _⟩ := (HV.out.below HBw.out).at_ (i := i) (by rw [← HN.out]; exact hlt)
      obtain ⟨x, hx⟩ : ∃ x, x = (rl R i).id := ⟨_, rfl⟩
      obtain ⟨y, hy⟩ : ∃ y, y = (rl R i).d.length := ⟨_, rfl⟩
      rw [← hx] at d0
      rw [← hy] at d1
      have HLi : Hid (L (i + 1) = L i ++ [.string x]) := Lib.hid (by rw [HLs.out i hlt, HF.out, hx])
      clear hx hy
      have hs3 : w.heap.size ≤ wr.heap.size + 1 + 1 := by have := HBw.out.size; omega
      go_wp2_with (at_builtin; refine wpList_append_own _ rfl _ _ 22 rfl w.heap.size 9 i0 (.string ⟨#[]⟩) 1 16 Tryz.underlying22 hi hz0 hz1 hz2 rfl (by decide) _ _ _ rfl ((HO.out.alloc _).alloc _) ⟨wr.heap.size + 1, 0, none⟩ 1 1 [.string x] rfl rfl (by have h := news_at (wr.alloc (.cells #[.string x, .slice ad y cp] 28)) #[.string x] 9 [.string x] rfl; simpa using h) (by intro u hu; simp at hu; subst hu; rfl) (by unfold maxLen; omega) (by omega) (by simpa using hs3) ?_; intro v1 w3 ho1 hg1 _)
      have B3 : Hid (Below w.heap.size w w3) := Lib.hid (((HBw.out.alloc HBw.out.size _).alloc (by have := HBw.out.size; simp; omega) _).grown hg1 (by have := HBw.out.size; simp; omega) (fun q hq => (HO.out.lt q hq).1))
      have O3 := Lib.hid ho1
      clear ho1 hg1
      go_wp2_with fail
      go_roundw
      case rel => exact ⟨i + 1, by omega, by go_num, Lib.hid (by rw [HLi.out]; exact O3.out), B3⟩
      case measure => simp [intOf]; omega
    · have him : i = n := by omega
      subst him
      have hge : ¬ (i : Int) < i := by omega
      go_wp2_with fail
      go_ret
      exact ⟨_, rfl, HO.out, HBw.out⟩
/-- find, of rows whose Ids rise. -/
theorem find_ok (B p : Nat) (x0 x1 x2 : Value) (a2 : Option Addr) (c2 : Nat) (R : List RC) (s : ByteArray) (w : World) (hb : Bx4 w p 53 x0 x1 x2 (.slice a2 R.length c2)) (hv : RV B w a2 R) (hn : R.length ≤ 1000) (hc : Ord.chE (idsR R) = 0) : Calls Tryz.prog 24 #[.pointer (some ⟨p, 0, none⟩), .string s] w fun e w' => (∃ (k : Nat) (is : Bool), e = .returned (.tuple #[.int .i64 (k : Int), .bool is]) ∧ Ord.At (idsR R) s k is) ∧ Below w.heap.size w w' := by
  have K := Lib.hid (ids_any B p x0 x1 x2 a2 c2 R w hb hv hn)
  have HC := Lib.hid hc
  have HN : Hid ((idsR R).length = R.length) := Lib.hid (idsR_len R)
  clear hb hv hc
  go_enter Tryz.func24, Tryz.ntmps24
  go_wp2_with fail
  refine K.out.mono ?_
  rintro e w1 ⟨v, rfl, ho, b1⟩
  rw [← HN.out] at ho
  obtain ⟨ad, cap, rfl, _, _, sv, _, _⟩ := sview_own ho
  have HS := Lib.hid sv
  have HB := Lib.hid b1
  clear ho sv b1
  go_wp2_with fail
  refine (Ord.findOf_any ad _ cap (idsR R) s w1 HS.out HC.out).mono ?_
  rintro e w2 ⟨⟨k, is, rfl, hat⟩, b2⟩
  have HA := Lib.hid hat
  have B2 := Lib.hid (HB.out.trans (b2.mono HB.out.size))
  clear hat b2
  go_wp2_with fail
  go_ret2
  exact ⟨⟨k, is, rfl, HA.out⟩, B2.out⟩
end Go.Proofs.YtfigebepeniikaaGreat
/- Layer 27: a member of a record. -/
namespace Go.Proofs.YtfigebepeniikaaGreat
open Go.RowKit Go.Maps
theorem cv_sub {w : World} {b off n p e : Nat} {g : Nat → CR} (h : CV w (some ⟨b, off, none⟩) n g) (he : e ≤ n) : CV w (some ⟨b, off + p * 5, none⟩) (e - p) (gl (cut g p e)) := fun i hi => by
  obtain ⟨h0, h1, h2, h3, h4, h5⟩ := h.at_ (i := p + i) (by omega)
  rw [cut_at g p e i hi]
  have e0 : off + p * 5 + i * 5 = off + (p + i) * 5 := by omega
  exact ⟨b, off + p * 5, rfl, h0, by rw [e0]; exact h1, by rw [e0]; exact h2, by rw [e0]; exact h3, by rw [e0]; exact h4, by rw [e0]; exact h5⟩
def MPost (B : Nat) (x : Option (List CR)) (e : Ending) (w' : World) : Prop := match x with
  | none => e = .returned (.tuple #[.slice none 0 0, .bool false])
  | some d => ∃ a c, e = .returned (.tuple #[.slice a d.length c, .bool true]) ∧ DV B w' a c d ∧ 0 < d.length
theorem mI_mbF (d : List CR) (s : ByteArray) : mI d s = mbF (gl d) s (bd (gl d) d.length 1) (gl d 0).m.toNat := rfl
set_option maxRecDepth 20000 in
set_option maxHeartbeats 2000000 in
theorem tmember_any (B : Nat) (r : RC) (ad : Option Addr) (cp : Nat) (s : ByteArray) (w : World) (hd : DV B w ad cp r.d) (hc : ckL r.d = true) : Calls Tryz.prog 54 #[rv r ad cp, .string s] w fun e w' => MPost B (mV r.d s) e w' ∧ Below w.heap.size w w' := by
  obtain ⟨id, d⟩ := r
  show Calls Tryz.prog 54 #[.agg #[.string id, .slice ad d.length cp], .string s] w fun e w' => MPost B (mV d s) e w' ∧ Below w.heap.size w w'
  replace hd : DV B w ad cp d := hd
  replace hc : ckL d = true := hc
  obtain ⟨hv, hl1, hl2, _, hbb⟩ := hd
  obtain ⟨k1, k2, _, k4⟩ := ckC_parts hc
  obtain ⟨b, off, rfl⟩ := hv.addr k1
  have hB := hbb b off rfl
  obtain ⟨_, _, j3, j4⟩ := wk_open (Nat.le_refl _) k4
  have j5 := Chain.le _ _ _ j4
  have HBD := Lib.hid (bd_chain _ _ _ j4).1
  have HBN : Hid (∀ i, i < (gl d 0).m.toNat → bd (gl d) d.length 1 i < bd (gl d) d.length 1 (i + 1) ∧ bd (gl d) d.length 1 (i + 1) ≤ d.length) := Lib.hid (fun i hi => wk_lt _ _ _ (HBD.out i hi))
  have hx0 : mV d s = (mbF (gl d) s (bd (gl d) d.length 1) (gl d 0).m.toNat).map fun p => cut (gl d) p (nx (gl d) d.length p) := rfl
  obtain ⟨m, hm⟩ : ∃ m : Nat, (gl d 0).m = m := ⟨(gl d 0).m.toNat, by omega⟩
  have cm := (hv.at_ k1).2.2.2.2.2
  rw [hm] at cm j5 HBD HBN hx0
  rw [Int.toNat_natCast] at j5 HBD HBN hx0
  obtain ⟨f, hf⟩ : ∃ f, f = bd (gl d) d.length 1 := ⟨_, rfl⟩
  rw [← hf] at HBD HBN hx0
  have hf0 : f 0 = 1 := by rw [hf]; rfl
  obtain ⟨x, hx⟩ : ∃ x, x = mV d s := ⟨_, rfl⟩
  rw [← hx] at hx0 ⊢
  have HXN : Hid ((∀ j, j < m → (gl d (f j)).nm ≠ s) → x = none) := Lib.hid (fun h => by rw [hx0, mbF_none h]; rfl)
  have HXS : Hid (∀ i, i < m → (∀ j, j < i → (gl d (f j)).nm ≠ s) → (gl d (f i)).nm = s → x = some (cut (gl d) (f i) (f (i + 1)))) := Lib.hid (fun i hi h1 h2 => by rw [hx0, mbF_some hi h1 h2, hf]; rfl)
  have hS : Hid (CV (w.alloc (.cells #[.string id, .slice (some ⟨b, off, none⟩) d.length cp] 28)) (some ⟨b, off, none⟩) d.length (gl d)) := Lib.hid (hv.below ((Below.refl _ _).alloc (Nat.le_refl _) _))
  have hM := (hS.out.at_ k1).2.2.2.2.2
  rw [hm, Nat.zero_mul, Nat.add_zero] at hM
  have hQ := Lib.hid (bx2_new w (.string id) (.slice (some ⟨b, off, none⟩) d.length cp))
  have HBL : Hid (Below w.heap.size w (w.alloc (.cells #[.string id, .slice (some ⟨b, off, none⟩) d.length cp] 28))) := Lib.hid ((Below.refl _ _).alloc (Nat.le_refl _) _)
  obtain ⟨g, hg⟩ : ∃ g, g = gl d := ⟨_, rfl⟩
  rw [← hg] at HBD HXN HXS hS
  obtain ⟨n, hn⟩ : ∃ n, n = d.length := ⟨_, rfl⟩
  rw [← hn] at k1 k2 hl1 j5 HBD HBN hS hQ HBL hM ⊢
  have hn0 : (0 : Int) < n := by omega
  have hn1 : (n : Int) ≤ 2048 := by omega
  have hm1 : (m : Int) ≤ 2048 := by omega
  have hcp : (n : Int) ≤ cp := by omega
  have hcp2 : (cp : Int) ≤ 9223372036854775807 := by unfold maxLen at hl2; omega
  clear hx hx0 hm hg hn hv cm j3 j4 hf hc k4 hbb
  go_enter Tryz.func54, Tryz.ntmps54
  go_wp2_with fail
  obtain ⟨W, hW⟩ : ∃ W, W = w.alloc (.cells #[.string id, .slice (some ⟨b, off, none⟩) n cp] 28) := ⟨_, rfl⟩
  rw [← hW] at hS hM hQ HBL ⊢
  have q1 := hQ.out.c1
  clear hW
  go_loop [6, 7, 8, 14] (fun v6 _ _ v14 => ∃ i : Nat, i ≤ m ∧ v14 = .int .i64 i ∧ v6 = .int .i64 (f i : Nat) ∧ Hid (∀ j, j < i → (g (f j)).nm ≠ s)) (fun _ _ _ v14 => m - (intOf v14).toNat)
  case atStart => exact ⟨0, Nat.zero_le _, rfl, by rw [hf0]; rfl, Lib.hid (fun j hj => by omega)⟩
  case round =>
    obtain ⟨i, hi, rfl, rfl, HN⟩ := hrel
    by_cases hlt : i < m
    · have hi1 : (i : Int) < m := by omega
      have hfi := HBN.out i hlt
      have hfn : f i < n := by omega
      have H1 : Hid (Chain g n 1 (f i) (f (i + 1))) := Lib.hid ⟨_, HBD.out i hlt, rfl⟩
      obtain ⟨y, hy⟩ : ∃ y, y = f i := ⟨_, rfl⟩
      obtain ⟨z, hz⟩ : ∃ z, z = f (i + 1) := ⟨_, rfl⟩
      have HZ := Lib.hid hz
      have cn := (hS.out.at_ hfn).2.2.1
      have HX1 := Lib.hid (HXS.out i hlt HN.out)
      rw [← hy, ← hz] at H1 hfi HX1
      rw [← hy] at cn hfn ⊢
      have HN2 : Hid ((g y).nm ≠ s → ∀ j, j < i + 1 → (g (f j)).nm ≠ s) := Lib.hid (fun h j hj => by
        by_cases e : j = i
        · subst e; rw [← hy]; exact h
        · exact HN.out j (by omega))
      obtain ⟨nm, hnm⟩ : ∃ nm, nm = (g y).nm := ⟨_, rfl⟩
      rw [← hnm] at cn HX1 HN2
      have hy0 : (0 : Int) ≤ y := by omega
      have hy1 : (y : Int) < n := by omega
      have hyz : (y : Int) < z := by omega
      have hzn : (z : Int) ≤ n := by omega
      clear hy hz hnm HN hfi hfn
      go_wp2_with fail
      go_loop [7, 8] (fun v7 v8 => ∃ p o : Nat, v7 = .int .i64 p ∧ v8 = .int .i64 o ∧ Hid (Chain g n o p z)) (fun v7 _ => n - (intOf v7).toNat)
      case atStart => exact ⟨y, 1, rfl, rfl, H1⟩
      case round =>
        obtain ⟨p, o, rfl, rfl, HC⟩ := hrel
        cases o with
        | zero =>
          have hpz : p = z := HC.out
          subst hpz
          clear HC H1
          by_cases he : nm = s
          · have HX : Hid (x = some (cut g y p)) := Lib.hid (HX1.out he)
            have HD : Hid (DV B W (some ⟨b, off + y * 5, none⟩) (cp - y) (cut g y p)) := Lib.hid ⟨by rw [cut_len]; exact cv_sub hS.out (by omega), by rw [cut_len]; omega, by omega, fun e => (by cases e), fun b' off' e => (by cases e; exact hB)⟩
            have HLn : Hid ((cut g y p).length = p - y) := Lib.hid (cut_len _ _ _)
            have hs0 : ((p : Int) - y) = ((p - y : Nat) : Int) := by omega
            subst he
            go_wp2_with fail
            go_ret2
            refine ⟨?_, HBL.out⟩
            rw [HX.out]
            exact ⟨some ⟨b, off + y * 5, none⟩, cp - y, by rw [HLn.out]; rfl, HD.out, by rw [HLn.out]; omega⟩
          · have he2 : (nm.toList == s.toList) = false := by rw [str_is]; simpa using he
            have HN3 := Lib.hid (HN2.out he)
            clear he
            go_wp2_with fail
            go_round
            case rel => exact ⟨i + 1, by omega, by go_num, by rw [HZ.out], HN3⟩
            case measure => simp [intOf]; omega
        | succ o =>
          obtain ⟨h1, h2, h3, h4⟩ := HC.out.step
          obtain ⟨_, _, _, _, _, c4⟩ := hS.out.at_ h1
          obtain ⟨mm, hmm⟩ : ∃ mm : Nat, (g p).m = mm := ⟨(g p).m.toNat, by omega⟩
          rw [hmm] at c4 h4
          rw [Int.toNat_natCast] at h4
          have h5 := Chain.le _ _ _ h4
          have K4 := Lib.hid h4
          have hq0 : (0 : Int) ≤ p := by omega
          have hq1 : (p : Int) < n := by omega
          have hb0 : (p : Int) ≤ 2048 := by omega
          have hb1 : (mm : Int) ≤ 2048 := by omega
          have hb2 : (o : Int) ≤ 2048 := by omega
          have hb3 : (0 : Int) ≤ mm := by omega
          have hb4 : (0 : Int) ≤ o := by omega
          have hgt : (0 : Int) < ((o + 1 : Nat) : Int) := by omega
          clear HC h3 h4 h5 hmm cn
          go_wp2_with fail
          go_round
          case rel => exact ⟨p + 1, o + mm, by go_num, by first | go_num | (congr 1; omega), K4⟩
          case measure => simp [intOf]; omega
    · have him : i = m := by omega
      subst him
      have HX : Hid (x = none) := Lib.hid (HXN.out HN.out)
      have hge : ¬ (i : Int) < i := by omega
      clear HN
      go_wp2_with fail
      go_ret2
      exact ⟨by rw [HX.out]; rfl, HBL.out⟩
end Go.Proofs.YtfigebepeniikaaGreat
/- Layer 3: the program's Same (as in the texts of layer 3). -/
namespace Go.Proofs.YtfigebepeniikaaGreat
open Go.RowKit Go.Maps
theorem below_drewN0 {w w' : World} (h : Below w.heap.size w w') (n : Nat) : Below w.heap.size w (w'.drewN n) := ⟨h.os, h.tape, h.output, h.size, h.block⟩
set_option maxRecDepth 20000 in
set_option maxHeartbeats 2000000 in
theorem csame_any (a1 a2 : Option Addr) (n1 n2 cp1 cp2 : Nat) (g1 g2 : Nat → CR) (w : World) (hv1 : CV w a1 n1 g1) (hv2 : CV w a2 n2 g2) (hn : n1 ≤ maxLen) : Calls Tryz.prog 43 #[.slice a1 n1 cp1, .slice a2 n2 cp2] w fun r w' => r = .returned (.bool (smB g1 n1 g2 n2)) ∧ Below w.heap.size w w' := by
  unfold maxLen at hn
  obtain ⟨x, hx⟩ : ∃ x, x = smB g1 n1 g2 n2 := ⟨_, rfl⟩
  rw [← hx]
  replace hx := Lib.hid hx
  by_cases he : n1 = n2
  · subst he
    have HV1 := Lib.hid hv1
    have HV2 := Lib.hid hv2
    clear hv1 hv2
    have hn' : (n1 : Int) ≤ 9223372036854775807 := by omega
    have hne : ((n1 : Int) != n1) = false := by simp
    go_enter Tryz.func43, Tryz.ntmps43
    go_wp2_with fail
    go_loopw [14] (fun v14 wr => ∃ i : Nat, i ≤ n1 ∧ v14 = .int .i64 i ∧ Hid (∀ j, j < i → g1 j = g2 j) ∧ Hid (Below w.heap.size w wr)) (fun v14 _ => n1 - (intOf v14).toNat)
    case atStart => exact ⟨0, Nat.zero_le _, rfl, Lib.hid (fun j hj => by omega), Lib.hid (Below.refl _ _)⟩
    case round =>
      obtain ⟨i, hi, rfl, HN, HB⟩ := hrel
      by_cases h1 : i < n1
      · obtain ⟨b, off, rfl⟩ := HV1.out.addr (by omega)
        obtain ⟨b', off', rfl⟩ := HV2.out.addr (by omega)
        obtain ⟨_, d0, d1, d2, d3, d4⟩ := (HV1.out.below HB.out).at_ h1
        have hg1 : (i : Int) < n1 := by omega
        have hg0 : (0 : Int) ≤ i := by omega
        obtain ⟨c, hc⟩ : ∃ c, c = g1 i := ⟨_, rfl⟩
        obtain ⟨d, hd⟩ : ∃ d, d = g2 i := ⟨_, rfl⟩
        rw [← hc] at d0 d1 d2 d3 d4
        have hq := neq_cell c d
        unfold cv at hq
        have hgd : ∀ (op : BinOp) (x y : Operand) (xs ys : Array Value) (W : World), (eqGuard op 47 x y (.agg xs) (.agg ys)).run Tryz.prog W = .ok () W := fun op x y xs ys W => run_eqGuard_agg W op _ x y xs ys (by kernel_rfl)
        by_cases hcd : c = d
        · have HN2 : Hid (∀ j, j < i + 1 → g1 j = g2 j) := Lib.hid (fun j hj => by
            by_cases e : j = i
            · subst e; rw [← hc, ← hd]; exact hcd
            · exact HN.out j (by omega))
          rw [decide_eq_true hcd] at hq
          have Hq := Lib.hid hq
          clear HN hc hcd hq
          go_wp2_with fail
          obtain ⟨w1, hw1⟩ : ∃ y, y = wr.alloc (.cells #[.int .u8 c.k, .string c.nm, .string c.tx, .int .i64 c.n, .int .i64 c.m] 47) := ⟨_, rfl⟩
          have x0 : w1.cell? ⟨wr.heap.size, 0, none⟩ = some (.int .u8 c.k) := by rw [hw1]; simp
          have x1 : w1.cell? ⟨wr.heap.size, 1, none⟩ = some (.string c.nm) := by rw [hw1]; simp
          have x2 : w1.cell? ⟨wr.heap.size, 2, none⟩ = some (.string c.tx) := by rw [hw1]; simp
          have x3 : w1.cell? ⟨wr.heap.size, 3, none⟩ = some (.int .i64 c.n) := by rw [hw1]; simp
          have x4 : w1.cell? ⟨wr.heap.size, 4, none⟩ = some (.int .i64 c.m) := by rw [hw1]; simp
          have HB1 : Hid (Below w.heap.size w w1) := Lib.hid (by rw [hw1]; exact HB.out.alloc HB.out.size _)
          rw [← hw1]
          clear hw1 d0 d1 d2 d3 d4 HB
          obtain ⟨_, e0, e1, e2, e3, e4⟩ := (HV2.out.below HB1.out).at_ h1
          rw [← hd] at e0 e1 e2 e3 e4
          have hq := Hq.out
          clear hd
          go_quiet (fail)
          go_wp2_with fail
          go_roundw
          case rel => exact ⟨i + 1, by omega, by go_num, HN2, Lib.hid (below_drewN0 HB1.out _)⟩
          case measure => simp [intOf]; omega
        · have HX : Hid (x = false) := Lib.hid (by rw [hx.out]; exact sm_no h1 (by rw [← hc, ← hd]; exact hcd))
          rw [decide_eq_false hcd] at hq
          have Hq := Lib.hid hq
          clear HN hc hcd hq
          go_wp2_with fail
          obtain ⟨w1, hw1⟩ : ∃ y, y = wr.alloc (.cells #[.int .u8 c.k, .string c.nm, .string c.tx, .int .i64 c.n, .int .i64 c.m] 47) := ⟨_, rfl⟩
          have x0 : w1.cell? ⟨wr.heap.size, 0, none⟩ = some (.int .u8 c.k) := by rw [hw1]; simp
          have x1 : w1.cell? ⟨wr.heap.size, 1, none⟩ = some (.string c.nm) := by rw [hw1]; simp
          have x2 : w1.cell? ⟨wr.heap.size, 2, none⟩ = some (.string c.tx) := by rw [hw1]; simp
          have x3 : w1.cell? ⟨wr.heap.size, 3, none⟩ = some (.int .i64 c.n) := by rw [hw1]; simp
          have x4 : w1.cell? ⟨wr.heap.size, 4, none⟩ = some (.int .i64 c.m) := by rw [hw1]; simp
          have HB1 : Hid (Below w.heap.size w w1) := Lib.hid (by rw [hw1]; exact HB.out.alloc HB.out.size _)
          rw [← hw1]
          clear hw1 d0 d1 d2 d3 d4 HB
          obtain ⟨_, e0, e1, e2, e3, e4⟩ := (HV2.out.below HB1.out).at_ h1
          rw [← hd] at e0 e1 e2 e3 e4
          have hq := Hq.out
          clear hd
          go_quiet (fail)
          go_wp2_with fail
          go_ret
          exact ⟨ret_bool HX.out.symm, below_drewN0 HB1.out _⟩
      · have e1 : i = n1 := by omega
        subst e1
        have HX : Hid (x = true) := Lib.hid (by rw [hx.out]; exact sm_yes HN.out)
        have hg1 : ¬ (i : Int) < i := by omega
        clear HN
        go_wp2_with fail
        go_ret
        exact ⟨ret_bool HX.out.symm, HB.out⟩
  · have HX : Hid (x = false) := Lib.hid (by rw [hx.out]; unfold smB; rw [decide_eq_false he]; rfl)
    have hne : ((n1 : Int) != n2) = true := by simp; omega
    clear he
    go_enter Tryz.func43, Tryz.ntmps43
    go_wp2_with fail
    go_ret
    exact ⟨ret_bool HX.out.symm, Below.refl _ _⟩
end Go.Proofs.YtfigebepeniikaaGreat
/- Layer 27: slices.ContainsFunc over cells, names, records, at the program's own function values. -/
namespace Go.Proofs.YtfigebepeniikaaGreat
open Go.RowKit Go.Maps
theorem any_range {α : Type} [Inhabited α] (L : List α) (f : α → Bool) (p : Nat → Bool) (h : ∀ i, i < L.length → p i = f (L.getD i default)) : (List.range L.length).any p = L.any f := by
  rw [Bool.eq_iff_iff, List.any_eq_true, List.any_eq_true]
  constructor
  · rintro ⟨i, hi, hp⟩
    have hi := List.mem_range.1 hi
    rw [h i hi, List.getD_eq_getElem?_getD, List.getElem?_eq_getElem hi] at hp
    exact ⟨_, List.getElem_mem hi, hp⟩
  · rintro ⟨x, hx, hp⟩
    obtain ⟨i, hi, rfl⟩ := List.getElem_of_mem hx
    refine ⟨i, List.mem_range.2 hi, ?_⟩
    rw [h i hi, List.getD_eq_getElem?_getD, List.getElem?_eq_getElem hi]
    exact hp
theorem isVar_any (c : CR) (w : World) : Calls Tryz.prog 51 #[cv c] w fun e w' => e = .returned (.bool (decide (c.k = 5))) ∧ Below w.heap.size w w' := by
  obtain ⟨k, nm, tx, n, m⟩ := c
  show Calls Tryz.prog 51 #[.agg #[.int .u8 (k : Nat), .string nm, .string tx, .int .i64 n, .int .i64 m]] w fun e w' => e = .returned (.bool (decide (k = 5))) ∧ Below w.heap.size w w'
  have HE : Hid (decide (k = 5) = ((k : Int) == 5)) := Lib.hid (by rw [Bool.eq_iff_iff]; simp; omega)
  go_enter Tryz.func51, Tryz.ntmps51
  go_wp2_with fail
  go_ret
  exact ⟨ret_bool HE.out.symm, (Below.refl _ _).alloc (Nat.le_refl _) _⟩
set_option maxRecDepth 20000 in
set_option maxHeartbeats 1000000 in
theorem ix_cell (ad : Option Addr) (cp : Nat) (d : List CR) (p : Nat → Bool)  (w : World) (hv : CV w ad d.length (gl d)) (hn : d.length ≤ 1000000) (hK : ∀ (i : Nat) (W : World), i < d.length → Below w.heap.size w W → Calls Tryz.prog 51 #[cv (gl d i)] W fun e w' => e = .returned (.bool (p i)) ∧ Below W.heap.size W w') : Calls Tryz.prog 69 #[.slice ad d.length cp, .func (.func 51) #[] #[]] w fun e w' => ∃ z : Int, e = .returned (.int .i64 z) ∧ decide (0 ≤ z) = (List.range d.length).any p ∧ Below w.heap.size w w' := by
  obtain ⟨x, hx⟩ : ∃ x, x = (List.range d.length).any p := ⟨_, rfl⟩
  rw [← hx]
  have HX1 : Hid (∀ i, i < d.length → p i = true → x = true) := Lib.hid (fun i hi h => by rw [hx]; exact List.any_eq_true.2 ⟨i, List.mem_range.2 hi, h⟩)
  have HX0 : Hid ((∀ j, j < d.length → p j = false) → x = false) := Lib.hid (fun h => by rw [hx, List.any_eq_false]; intro i hi; rw [h i (List.mem_range.1 hi)]; simp)
  clear hx
  have HV := Lib.hid hv
  have HKK := Lib.hid hK
  obtain ⟨n, hnn⟩ : ∃ n, n = d.length := ⟨_, rfl⟩
  rw [← hnn] at hn HX1 HX0 ⊢
  have HN := Lib.hid hnn
  clear hnn hv hK
  have hn' : (n : Int) ≤ 1000000 := by omega
  go_enter Tryz.func69, Tryz.ntmps69
  go_wp2_with fail
  go_loopw [5, 8] (fun _ v8 wr => ∃ i : Nat, i ≤ n ∧ v8 = .int .i64 i ∧ Hid (∀ j, j < i → p j = false) ∧ Hid (Below w.heap.size w wr)) (fun _ v8 _ => n - (intOf v8).toNat)
  case atStart => exact ⟨0, Nat.zero_le _, rfl, Lib.hid (fun j hj => by omega), Lib.hid (Below.refl _ _)⟩
  case round =>
    obtain ⟨i, hi, rfl, HF, HB⟩ := hrel
    by_cases hlt : i < n
    · have hlt' : (i : Int) < n := by omega
      have hge : (0 : Int) ≤ i := by omega
      have hlR : i < d.length := by rw [← HN.out]; exact hlt
      obtain ⟨b, off, rfl⟩ := HV.out.addr (by omega)
      obtain ⟨_, d0, d1, d2, d3, d4⟩ := (HV.out.below HB.out).at_ hlR
      have HC := Lib.hid (HKK.out i wr hlR HB.out)
      obtain ⟨c, hc⟩ : ∃ c, c = gl d i := ⟨_, rfl⟩
      rw [← hc] at d0 d1 d2 d3 d4 HC
      unfold cv at HC
      clear hc
      have HF2 : Hid (p i = false → ∀ j, j < i + 1 → p j = false) := Lib.hid (fun h j hj => by
        by_cases e : j = i
        · subst e; exact h
        · exact HF.out j (by omega))
      have HT := Lib.hid (HX1.out i hlt)
      obtain ⟨q, hq⟩ : ∃ q, q = p i := ⟨_, rfl⟩
      rw [← hq] at HC HF2 HT
      clear hq HF hlR
      cases q with
      | true =>
        have HXX := Lib.hid (HT.out rfl)
        go_wp2_with fail
        refine HC.out.mono ?_
        rintro e w1 ⟨rfl, b1⟩
        have B1 := Lib.hid (HB.out.trans (b1.mono HB.out.size))
        clear b1
        go_wp2_with fail
        go_ret
        exact ⟨_, rfl, by rw [HXX.out]; simp, B1.out⟩
      | false =>
        have HF3 := Lib.hid (HF2.out rfl)
        go_wp2_with fail
        refine HC.out.mono ?_
        rintro e w1 ⟨rfl, b1⟩
        have B1 := Lib.hid (HB.out.trans (b1.mono HB.out.size))
        clear b1
        go_wp2_with fail
        go_roundw
        case rel => exact ⟨i + 1, by omega, by go_num, HF3, B1⟩
        case measure => simp [intOf]; omega
    · have him : i = n := by omega
      subst him
      have HXX := Lib.hid (HX0.out HF.out)
      have hge : ¬ (i : Int) < i := by omega
      clear HF
      go_wp2_with fail
      go_ret
      exact ⟨_, rfl, by rw [HXX.out]; decide, HB.out⟩
theorem cf_cell (ad : Option Addr) (cp : Nat) (d : List CR) (p : Nat → Bool)  (w : World) (hv : CV w ad d.length (gl d)) (hn : d.length ≤ 1000000) (hK : ∀ (i : Nat) (W : World), i < d.length → Below w.heap.size w W → Calls Tryz.prog 51 #[cv (gl d i)] W fun e w' => e = .returned (.bool (p i)) ∧ Below W.heap.size W w') : Calls Tryz.prog 52 #[.slice ad d.length cp, .func (.func 51) #[] #[]] w fun e w' => e = .returned (.bool ((List.range d.length).any p)) ∧ Below w.heap.size w w' := by
  have K := Lib.hid (ix_cell ad cp d p  w hv hn hK)
  obtain ⟨x, hx⟩ : ∃ x, x = (List.range d.length).any p := ⟨_, rfl⟩
  rw [← hx] at K ⊢
  clear hx hv hK
  obtain ⟨n, hnn⟩ : ∃ n, n = d.length := ⟨_, rfl⟩
  rw [← hnn] at K ⊢
  clear hnn hn
  go_enter Tryz.func52, Tryz.ntmps52
  go_wp2_with fail
  refine K.out.mono ?_
  rintro e w1 ⟨z, rfl, hz, b1⟩
  have HZ := Lib.hid hz
  have B1 := Lib.hid b1
  clear hz b1
  go_wp2_with fail
  go_ret
  exact ⟨ret_bool HZ.out, B1.out⟩
set_option maxRecDepth 20000 in
set_option maxHeartbeats 1000000 in
theorem ix_names (ad : Option Addr) (cp : Nat) (L : List ByteArray) (u v : Nat) (p : Nat → Bool)  (w : World) (hv : Ord.SView w ad L.length L) (hn : L.length ≤ 1000000) (hK : ∀ (i : Nat) (W : World), i < L.length → Below w.heap.size w W → Calls Tryz.prog 57 #[.string (Ord.nth L i), .pointer (some ⟨u, 0, none⟩), .pointer (some ⟨v, 0, none⟩)] W fun e w' => e = .returned (.bool (p i)) ∧ Below W.heap.size W w') : Calls Tryz.prog 74 #[.slice ad L.length cp, .func (.func 57) #[] #[.pointer (some ⟨u, 0, none⟩), .pointer (some ⟨v, 0, none⟩)]] w fun e w' => ∃ z : Int, e = .returned (.int .i64 z) ∧ decide (0 ≤ z) = (List.range L.length).any p ∧ Below w.heap.size w w' := by
  obtain ⟨x, hx⟩ : ∃ x, x = (List.range L.length).any p := ⟨_, rfl⟩
  rw [← hx]
  have HX1 : Hid (∀ i, i < L.length → p i = true → x = true) := Lib.hid (fun i hi h => by rw [hx]; exact List.any_eq_true.2 ⟨i, List.mem_range.2 hi, h⟩)
  have HX0 : Hid ((∀ j, j < L.length → p j = false) → x = false) := Lib.hid (fun h => by rw [hx, List.any_eq_false]; intro i hi; rw [h i (List.mem_range.1 hi)]; simp)
  clear hx
  have HV := Lib.hid hv
  have HKK := Lib.hid hK
  obtain ⟨n, hnn⟩ : ∃ n, n = L.length := ⟨_, rfl⟩
  rw [← hnn] at hn HX1 HX0 ⊢
  have HN := Lib.hid hnn
  clear hnn hv hK
  have hn' : (n : Int) ≤ 1000000 := by omega
  go_enter Tryz.func74, Tryz.ntmps74
  go_wp2_with fail
  go_loopw [5, 8] (fun _ v8 wr => ∃ i : Nat, i ≤ n ∧ v8 = .int .i64 i ∧ Hid (∀ j, j < i → p j = false) ∧ Hid (Below w.heap.size w wr)) (fun _ v8 _ => n - (intOf v8).toNat)
  case atStart => exact ⟨0, Nat.zero_le _, rfl, Lib.hid (fun j hj => by omega), Lib.hid (Below.refl _ _)⟩
  case round =>
    obtain ⟨i, hi, rfl, HF, HB⟩ := hrel
    by_cases hlt : i < n
    · have hlt' : (i : Int) < n := by omega
      have hge : (0 : Int) ≤ i := by omega
      have hlR : i < L.length := by rw [← HN.out]; exact hlt
      obtain ⟨b, off, rfl, hb0, d0⟩ := (HV.out.below HB.out).2 i hlR
      have HC := Lib.hid (HKK.out i wr hlR HB.out)
      obtain ⟨c, hc⟩ : ∃ c, c = Ord.nth L i := ⟨_, rfl⟩
      rw [← hc] at d0 HC
      clear hc
      have HF2 : Hid (p i = false → ∀ j, j < i + 1 → p j = false) := Lib.hid (fun h j hj => by
        by_cases e : j = i
        · subst e; exact h
        · exact HF.out j (by omega))
      have HT := Lib.hid (HX1.out i hlt)
      obtain ⟨q, hq⟩ : ∃ q, q = p i := ⟨_, rfl⟩
      rw [← hq] at HC HF2 HT
      clear hq HF hlR
      cases q with
      | true =>
        have HXX := Lib.hid (HT.out rfl)
        go_wp2_with fail
        refine HC.out.mono ?_
        rintro e w1 ⟨rfl, b1⟩
        have B1 := Lib.hid (HB.out.trans (b1.mono HB.out.size))
        clear b1
        go_wp2_with fail
        go_ret
        exact ⟨_, rfl, by rw [HXX.out]; simp, B1.out⟩
      | false =>
        have HF3 := Lib.hid (HF2.out rfl)
        go_wp2_with fail
        refine HC.out.mono ?_
        rintro e w1 ⟨rfl, b1⟩
        have B1 := Lib.hid (HB.out.trans (b1.mono HB.out.size))
        clear b1
        go_wp2_with fail
        go_roundw
        case rel => exact ⟨i + 1, by omega, by go_num, HF3, B1⟩
        case measure => simp [intOf]; omega
    · have him : i = n := by omega
      subst him
      have HXX := Lib.hid (HX0.out HF.out)
      have hge : ¬ (i : Int) < i := by omega
      clear HF
      go_wp2_with fail
      go_ret
      exact ⟨_, rfl, by rw [HXX.out]; decide, HB.out⟩
theorem cf_names (ad : Option Addr) (cp : Nat) (L : List ByteArray) (u v : Nat) (p : Nat → Bool)  (w : World) (hv : Ord.SView w ad L.length L) (hn : L.length ≤ 1000000) (hK : ∀ (i : Nat) (W : World), i < L.length → Below w.heap.size w W → Calls Tryz.prog 57 #[.string (Ord.nth L i), .pointer (some ⟨u, 0, none⟩), .pointer (some ⟨v, 0, none⟩)] W fun e w' => e = .returned (.bool (p i)) ∧ Below W.heap.size W w') : Calls Tryz.prog 56 #[.slice ad L.length cp, .func (.func 57) #[] #[.pointer (some ⟨u, 0, none⟩), .pointer (some ⟨v, 0, none⟩)]] w fun e w' => e = .returned (.bool ((List.range L.length).any p)) ∧ Below w.heap.size w w' := by
  have K := Lib.hid (ix_names ad cp L u v p  w hv hn hK)
  obtain ⟨x, hx⟩ : ∃ x, x = (List.range L.length).any p := ⟨_, rfl⟩
  rw [← hx] at K ⊢
  clear hx hv hK
  obtain ⟨n, hnn⟩ : ∃ n, n = L.length := ⟨_, rfl⟩
  rw [← hnn] at K ⊢
  clear hnn hn
  go_enter Tryz.func56, Tryz.ntmps56
  go_wp2_with fail
  refine K.out.mono ?_
  rintro e w1 ⟨z, rfl, hz, b1⟩
  have HZ := Lib.hid hz
  have B1 := Lib.hid b1
  clear hz b1
  go_wp2_with fail
  go_ret
  exact ⟨ret_bool HZ.out, B1.out⟩
set_option maxRecDepth 20000 in
set_option maxHeartbeats 1000000 in
theorem ix_rows (B : Nat) (ad : Option Addr) (cp : Nat) (R : List RC) (u v : Nat) (p : Nat → Bool)  (w : World) (hv : RV B w ad R) (hn : R.length ≤ 1000000) (hK : ∀ (i : Nat) (ai : Option Addr) (ci : Nat) (W : World), i < R.length → Below w.heap.size w W → DV B W ai ci (rl R i).d → Calls Tryz.prog 55 #[rv (rl R i) ai ci, .pointer (some ⟨u, 0, none⟩), .pointer (some ⟨v, 0, none⟩)] W fun e w' => e = .returned (.bool (p i)) ∧ Below W.heap.size W w') : Calls Tryz.prog 66 #[.slice ad R.length cp, .func (.func 55) #[] #[.pointer (some ⟨u, 0, none⟩), .pointer (some ⟨v, 0, none⟩)]] w fun e w' => ∃ z : Int, e = .returned (.int .i64 z) ∧ decide (0 ≤ z) = (List.range R.length).any p ∧ Below w.heap.size w w' := by
  obtain ⟨x, hx⟩ : ∃ x, x = (List.range R.length).any p := ⟨_, rfl⟩
  rw [← hx]
  have HX1 : Hid (∀ i, i < R.length → p i = true → x = true) := Lib.hid (fun i hi h => by rw [hx]; exact List.any_eq_true.2 ⟨i, List.mem_range.2 hi, h⟩)
  have HX0 : Hid ((∀ j, j < R.length → p j = false) → x = false) := Lib.hid (fun h => by rw [hx, List.any_eq_false]; intro i hi; rw [h i (List.mem_range.1 hi)]; simp)
  clear hx
  have HV := Lib.hid hv
  have HKK := Lib.hid hK
  obtain ⟨n, hnn⟩ : ∃ n, n = R.length := ⟨_, rfl⟩
  rw [← hnn] at hn HX1 HX0 ⊢
  have HN := Lib.hid hnn
  clear hnn hv hK
  have hn' : (n : Int) ≤ 1000000 := by omega
  go_enter Tryz.func66, Tryz.ntmps66
  go_wp2_with fail
  go_loopw [5, 8] (fun _ v8 wr => ∃ i : Nat, i ≤ n ∧ v8 = .int .i64 i ∧ Hid (∀ j, j < i → p j = false) ∧ Hid (Below w.heap.size w wr)) (fun _ v8 _ => n - (intOf v8).toNat)
  case atStart => exact ⟨0, Nat.zero_le _, rfl, Lib.hid (fun j hj => by omega), Lib.hid (Below.refl _ _)⟩
  case round =>
    obtain ⟨i, hi, rfl, HF, HB⟩ := hrel
    by_cases hlt : i < n
    · have hlt' : (i : Int) < n := by omega
      have hge : (0 : Int) ≤ i := by omega
      have hlR : i < R.length := by rw [← HN.out]; exact hlt
      obtain ⟨b, off, rfl⟩ := HV.out.addr (by omega)
      obtain ⟨ai, ci, _, _, d0, d1, dv⟩ := (HV.out.below HB.out).at_ hlR
      have HC := Lib.hid (HKK.out i ai ci wr hlR HB.out dv)
      obtain ⟨c, hc⟩ : ∃ c, c = rl R i := ⟨_, rfl⟩
      rw [← hc] at d0 d1 HC
      unfold rv at HC
      obtain ⟨l, hl⟩ : ∃ l, l = c.d.length := ⟨_, rfl⟩
      obtain ⟨id, hid⟩ : ∃ l, l = c.id := ⟨_, rfl⟩
      rw [← hl] at d1 HC
      rw [← hid] at d0 HC
      clear hc dv hl hid
      have HF2 : Hid (p i = false → ∀ j, j < i + 1 → p j = false) := Lib.hid (fun h j hj => by
        by_cases e : j = i
        · subst e; exact h
        · exact HF.out j (by omega))
      have HT := Lib.hid (HX1.out i hlt)
      obtain ⟨q, hq⟩ : ∃ q, q = p i := ⟨_, rfl⟩
      rw [← hq] at HC HF2 HT
      clear hq HF hlR
      cases q with
      | true =>
        have HXX := Lib.hid (HT.out rfl)
        go_wp2_with fail
        refine HC.out.mono ?_
        rintro e w1 ⟨rfl, b1⟩
        have B1 := Lib.hid (HB.out.trans (b1.mono HB.out.size))
        clear b1
        go_wp2_with fail
        go_ret
        exact ⟨_, rfl, by rw [HXX.out]; simp, B1.out⟩
      | false =>
        have HF3 := Lib.hid (HF2.out rfl)
        go_wp2_with fail
        refine HC.out.mono ?_
        rintro e w1 ⟨rfl, b1⟩
        have B1 := Lib.hid (HB.out.trans (b1.mono HB.out.size))
        clear b1
        go_wp2_with fail
        go_roundw
        case rel => exact ⟨i + 1, by omega, by go_num, HF3, B1⟩
        case measure => simp [intOf]; omega
    · have him : i = n := by omega
      subst him
      have HXX := Lib.hid (HX0.out HF.out)
      have hge : ¬ (i : Int) < i := by omega
      clear HF
      go_wp2_with fail
      go_ret
      exact ⟨_, rfl, by rw [HXX.out]; decide, HB.out⟩
theorem cf_rows (B : Nat) (ad : Option Addr) (cp : Nat) (R : List RC) (u v : Nat) (p : Nat → Bool)  (w : World) (hv : RV B w ad R) (hn : R.length ≤ 1000000) (hK : ∀ (i : Nat) (ai : Option Addr) (ci : Nat) (W : World), i < R.length → Below w.heap.size w W → DV B W ai ci (rl R i).d → Calls Tryz.prog 55 #[rv (rl R i) ai ci, .pointer (some ⟨u, 0, none⟩), .pointer (some ⟨v, 0, none⟩)] W fun e w' => e = .returned (.bool (p i)) ∧ Below W.heap.size W w') : Calls Tryz.prog 41 #[.slice ad R.length cp, .func (.func 55) #[] #[.pointer (some ⟨u, 0, none⟩), .pointer (some ⟨v, 0, none⟩)]] w fun e w' => e = .returned (.bool ((List.range R.length).any p)) ∧ Below w.heap.size w w' := by
  have K := Lib.hid (ix_rows B ad cp R u v p  w hv hn hK)
  obtain ⟨x, hx⟩ : ∃ x, x = (List.range R.length).any p := ⟨_, rfl⟩
  rw [← hx] at K ⊢
  clear hx hv hK
  obtain ⟨n, hnn⟩ : ∃ n, n = R.length := ⟨_, rfl⟩
  rw [← hnn] at K ⊢
  clear hnn hn
  go_enter Tryz.func41, Tryz.ntmps41
  go_wp2_with fail
  refine K.out.mono ?_
  rintro e w1 ⟨z, rfl, hz, b1⟩
  have HZ := Lib.hid hz
  have B1 := Lib.hid b1
  clear hz b1
  go_wp2_with fail
  go_ret
  exact ⟨ret_bool HZ.out, B1.out⟩
set_option maxRecDepth 20000 in
set_option maxHeartbeats 1000000 in
theorem ix_self (B : Nat) (ad : Option Addr) (cp : Nat) (R : List RC) (u : Nat) (p : Nat → Bool)  (w : World) (hv : RV B w ad R) (hn : R.length ≤ 1000000) (hK : ∀ (i : Nat) (ai : Option Addr) (ci : Nat) (W : World), i < R.length → Below w.heap.size w W → DV B W ai ci (rl R i).d → Calls Tryz.prog 30 #[.pointer (some ⟨u, 0, none⟩), rv (rl R i) ai ci] W fun e w' => e = .returned (.bool (p i)) ∧ Below W.heap.size W w') : Calls Tryz.prog 66 #[.slice ad R.length cp, .func (.func 30) #[.pointer (some ⟨u, 0, none⟩)] #[]] w fun e w' => ∃ z : Int, e = .returned (.int .i64 z) ∧ decide (0 ≤ z) = (List.range R.length).any p ∧ Below w.heap.size w w' := by
  obtain ⟨x, hx⟩ : ∃ x, x = (List.range R.length).any p := ⟨_, rfl⟩
  rw [← hx]
  have HX1 : Hid (∀ i, i < R.length → p i = true → x = true) := Lib.hid (fun i hi h => by rw [hx]; exact List.any_eq_true.2 ⟨i, List.mem_range.2 hi, h⟩)
  have HX0 : Hid ((∀ j, j < R.length → p j = false) → x = false) := Lib.hid (fun h => by rw [hx, List.any_eq_false]; intro i hi; rw [h i (List.mem_range.1 hi)]; simp)
  clear hx
  have HV := Lib.hid hv
  have HKK := Lib.hid hK
  obtain ⟨n, hnn⟩ : ∃ n, n = R.length := ⟨_, rfl⟩
  rw [← hnn] at hn HX1 HX0 ⊢
  have HN := Lib.hid hnn
  clear hnn hv hK
  have hn' : (n : Int) ≤ 1000000 := by omega
  go_enter Tryz.func66, Tryz.ntmps66
  go_wp2_with fail
  go_loopw [5, 8] (fun _ v8 wr => ∃ i : Nat, i ≤ n ∧ v8 = .int .i64 i ∧ Hid (∀ j, j < i → p j = false) ∧ Hid (Below w.heap.size w wr)) (fun _ v8 _ => n - (intOf v8).toNat)
  case atStart => exact ⟨0, Nat.zero_le _, rfl, Lib.hid (fun j hj => by omega), Lib.hid (Below.refl _ _)⟩
  case round =>
    obtain ⟨i, hi, rfl, HF, HB⟩ := hrel
    by_cases hlt : i < n
    · have hlt' : (i : Int) < n := by omega
      have hge : (0 : Int) ≤ i := by omega
      have hlR : i < R.length := by rw [← HN.out]; exact hlt
      obtain ⟨b, off, rfl⟩ := HV.out.addr (by omega)
      obtain ⟨ai, ci, _, _, d0, d1, dv⟩ := (HV.out.below HB.out).at_ hlR
      have HC := Lib.hid (HKK.out i ai ci wr hlR HB.out dv)
      obtain ⟨c, hc⟩ : ∃ c, c = rl R i := ⟨_, rfl⟩
      rw [← hc] at d0 d1 HC
      unfold rv at HC
      obtain ⟨l, hl⟩ : ∃ l, l = c.d.length := ⟨_, rfl⟩
      obtain ⟨id, hid⟩ : ∃ l, l = c.id := ⟨_, rfl⟩
      rw [← hl] at d1 HC
      rw [← hid] at d0 HC
      clear hc dv hl hid
      have HF2 : Hid (p i = false → ∀ j, j < i + 1 → p j = false) := Lib.hid (fun h j hj => by
        by_cases e : j = i
        · subst e; exact h
        · exact HF.out j (by omega))
      have HT := Lib.hid (HX1.out i hlt)
      obtain ⟨q, hq⟩ : ∃ q, q = p i := ⟨_, rfl⟩
      rw [← hq] at HC HF2 HT
      clear hq HF hlR
      cases q with
      | true =>
        have HXX := Lib.hid (HT.out rfl)
        go_wp2_with fail
        refine HC.out.mono ?_
        rintro e w1 ⟨rfl, b1⟩
        have B1 := Lib.hid (HB.out.trans (b1.mono HB.out.size))
        clear b1
        go_wp2_with fail
        go_ret
        exact ⟨_, rfl, by rw [HXX.out]; simp, B1.out⟩
      | false =>
        have HF3 := Lib.hid (HF2.out rfl)
        go_wp2_with fail
        refine HC.out.mono ?_
        rintro e w1 ⟨rfl, b1⟩
        have B1 := Lib.hid (HB.out.trans (b1.mono HB.out.size))
        clear b1
        go_wp2_with fail
        go_roundw
        case rel => exact ⟨i + 1, by omega, by go_num, HF3, B1⟩
        case measure => simp [intOf]; omega
    · have him : i = n := by omega
      subst him
      have HXX := Lib.hid (HX0.out HF.out)
      have hge : ¬ (i : Int) < i := by omega
      clear HF
      go_wp2_with fail
      go_ret
      exact ⟨_, rfl, by rw [HXX.out]; decide, HB.out⟩
theorem cf_self (B : Nat) (ad : Option Addr) (cp : Nat) (R : List RC) (u : Nat) (p : Nat → Bool)  (w : World) (hv : RV B w ad R) (hn : R.length ≤ 1000000) (hK : ∀ (i : Nat) (ai : Option Addr) (ci : Nat) (W : World), i < R.length → Below w.heap.size w W → DV B W ai ci (rl R i).d → Calls Tryz.prog 30 #[.pointer (some ⟨u, 0, none⟩), rv (rl R i) ai ci] W fun e w' => e = .returned (.bool (p i)) ∧ Below W.heap.size W w') : Calls Tryz.prog 41 #[.slice ad R.length cp, .func (.func 30) #[.pointer (some ⟨u, 0, none⟩)] #[]] w fun e w' => e = .returned (.bool ((List.range R.length).any p)) ∧ Below w.heap.size w w' := by
  have K := Lib.hid (ix_self B ad cp R u p  w hv hn hK)
  obtain ⟨x, hx⟩ : ∃ x, x = (List.range R.length).any p := ⟨_, rfl⟩
  rw [← hx] at K ⊢
  clear hx hv hK
  obtain ⟨n, hnn⟩ : ∃ n, n = R.length := ⟨_, rfl⟩
  rw [← hnn] at K ⊢
  clear hnn hn
  go_enter Tryz.func41, Tryz.ntmps41
  go_wp2_with fail
  refine K.out.mono ?_
  rintro e w1 ⟨z, rfl, hz, b1⟩
  have HZ := Lib.hid hz
  have B1 := Lib.hid b1
  clear hz b1
  go_wp2_with fail
  go_ret
  exact ⟨ret_bool HZ.out, B1.out⟩
end Go.Proofs.YtfigebepeniikaaGreat
/- Layer 27: whether two records clash. -/
namespace Go.Proofs.YtfigebepeniikaaGreat
open Go.RowKit Go.Maps
theorem sm_dec (x y : List CR) : smB (gl x) x.length (gl y) y.length = decide (x = y) := by
  rw [Bool.eq_iff_iff, decide_eq_true_eq]
  constructor
  · intro h
    obtain ⟨h1, h2⟩ := sm_eq h
    exact gl_ext h1 h2
  · exact sm_lists
/-- What member tells, by what there is. -/
theorem mem_none {B : Nat} {r : RC} {ad : Option Addr} {cp : Nat} {s : ByteArray} {w : World} (hd : DV B w ad cp r.d) (hc : ckL r.d = true) (hx : mV r.d s = none) : Calls Tryz.prog 54 #[rv r ad cp, .string s] w fun e w' => e = .returned (.tuple #[.slice none 0 0, .bool false]) ∧ Below w.heap.size w w' :=
  (tmember_any B r ad cp s w hd hc).mono fun e w' h => by rw [hx] at h; exact h
theorem mem_some {B : Nat} {r : RC} {ad : Option Addr} {cp : Nat} {s : ByteArray} {w : World} {x : List CR} (hd : DV B w ad cp r.d) (hc : ckL r.d = true) (hx : mV r.d s = some x) : Calls Tryz.prog 54 #[rv r ad cp, .string s] w fun e w' => (∃ b off c, e = .returned (.tuple #[.slice (some ⟨b, off, none⟩) x.length c, .bool true]) ∧ CV w' (some ⟨b, off, none⟩) x.length (gl x) ∧ 0 < x.length ∧ x.length ≤ c ∧ c ≤ maxLen ∧ DV B w' (some ⟨b, off, none⟩) c x) ∧ Below w.heap.size w w' :=
  (tmember_any B r ad cp s w hd hc).mono fun e w' h => by
    rw [hx] at h
    obtain ⟨⟨a, c, he, hv, h0⟩, hb⟩ := h
    obtain ⟨b, off, rfl⟩ := hv.1.addr h0
    exact ⟨⟨b, off, c, he, hv.1, h0, hv.2.1, hv.2.2.1, hv⟩, hb⟩
set_option maxRecDepth 20000 in
set_option maxHeartbeats 2000000 in
theorem clash_any (B : Nat) (a b : RC) (aa ab : Option Addr) (ca cb : Nat) (s : ByteArray) (w : World) (ha : DV B w aa ca a.d) (hb : DV B w ab cb b.d) (ka : ckL a.d = true) (kb : ckL b.d = true) : Calls Tryz.prog 58 #[rv a aa ca, rv b ab cb, .string s] w fun e w' => e = .returned (.bool (clash a b s)) ∧ Below w.heap.size w w' := by
  have HA := Lib.hid ha
  have HB := Lib.hid hb
  have HMA0 := Lib.hid (fun (hx : mV a.d s = none) W (k : Below w.heap.size w W) => mem_none (HA.out.below k) ka hx)
  have HMA1 := Lib.hid (fun x (hx : mV a.d s = some x) W (k : Below w.heap.size w W) => mem_some (HA.out.below k) ka hx)
  have HMB0 := Lib.hid (fun (hx : mV b.d s = none) W (k : Below w.heap.size w W) => mem_none (HB.out.below k) kb hx)
  have HMB1 := Lib.hid (fun x (hx : mV b.d s = some x) W (k : Below w.heap.size w W) => mem_some (HB.out.below k) kb hx)
  have HCL : Hid (clash a b s = match mV a.d s, mV b.d s with
    | some x, some y => decide ((gl x 0).k ≠ 0) && decide (x = y)
    | _, _ => false) := Lib.hid rfl
  obtain ⟨R, hR⟩ : ∃ R, R = clash a b s := ⟨_, rfl⟩
  rw [← hR] at HCL ⊢
  unfold rv at HMA0 HMA1 HMB0 HMB1 ⊢
  obtain ⟨ma, hma⟩ : ∃ m, m = mV a.d s := ⟨_, rfl⟩
  obtain ⟨mb, hmb⟩ : ∃ m, m = mV b.d s := ⟨_, rfl⟩
  rw [← hma] at HMA0 HMA1 HCL
  rw [← hmb] at HMB0 HMB1 HCL
  obtain ⟨la, hla⟩ : ∃ m, m = a.d.length := ⟨_, rfl⟩
  obtain ⟨lb, hlb⟩ : ∃ m, m = b.d.length := ⟨_, rfl⟩
  obtain ⟨ia, hia⟩ : ∃ m, m = a.id := ⟨_, rfl⟩
  obtain ⟨ib, hib⟩ : ∃ m, m = b.id := ⟨_, rfl⟩
  rw [← hla, ← hia] at HMA0 HMA1 ⊢
  rw [← hlb, ← hib] at HMB0 HMB1 ⊢
  have HW : Hid (Below w.heap.size w ((w.alloc (.cells #[.string ia, .slice aa la ca] 28)).alloc (.cells #[.string ib, .slice ab lb cb] 28))) := Lib.hid (((Below.refl _ _).alloc (Nat.le_refl _) _).alloc (by simp) _)
  have HQ : Hid (Bx2 ((w.alloc (.cells #[.string ia, .slice aa la ca] 28)).alloc (.cells #[.string ib, .slice ab lb cb] 28)) (w.heap.size + 1) (.string ib) (.slice ab lb cb)) := Lib.hid (by
    have h := bx2_new (w.alloc (.cells #[.string ia, .slice aa la ca] 28)) (.string ib) (.slice ab lb cb)
    simpa using h)
  clear hR hma hmb hla hlb hia hib ha hb HA HB ka kb
  cases ma with
  | none =>
    replace HCL : Hid (R = false) := HCL
    replace HMA0 := Lib.hid (HMA0.out rfl)
    cases mb with
    | none =>
      replace HMB0 := Lib.hid (HMB0.out rfl)
      clear HMA1 HMB1
      go_enter Tryz.func58, Tryz.ntmps58
      go_wp2_with fail
      refine (HMA0.out _ HW.out).mono ?_
      rintro e w1 ⟨rfl, b1⟩
      have B1 := Lib.hid (HW.out.trans (b1.mono HW.out.size))
      have q0 := (HQ.out.up b1).c0
      have q1 := (HQ.out.up b1).c1
      clear b1
      go_wp2_with fail
      refine (HMB0.out w1 B1.out).mono ?_
      rintro e w2 ⟨rfl, b2⟩
      have B2 := Lib.hid (B1.out.trans (b2.mono B1.out.size))
      clear b2 q0 q1
      go_wp2_with fail
      go_ret
      exact ⟨ret_bool HCL.out.symm, B2.out⟩
    | some y =>
      replace HMB1 := Lib.hid (HMB1.out y rfl)
      clear HMA1 HMB0
      go_enter Tryz.func58, Tryz.ntmps58
      go_wp2_with fail
      refine (HMA0.out _ HW.out).mono ?_
      rintro e w1 ⟨rfl, b1⟩
      have B1 := Lib.hid (HW.out.trans (b1.mono HW.out.size))
      have q0 := (HQ.out.up b1).c0
      have q1 := (HQ.out.up b1).c1
      clear b1
      go_wp2_with fail
      refine (HMB1.out w1 B1.out).mono ?_
      rintro e w2 ⟨⟨q, o, c, rfl, _⟩, b2⟩
      have B2 := Lib.hid (B1.out.trans (b2.mono B1.out.size))
      clear b2 q0 q1
      go_wp2_with fail
      go_ret
      exact ⟨ret_bool HCL.out.symm, B2.out⟩
  | some x =>
    replace HMA1 := Lib.hid (HMA1.out x rfl)
    cases mb with
    | none =>
      replace HCL : Hid (R = false) := HCL
      replace HMB0 := Lib.hid (HMB0.out rfl)
      clear HMA0 HMB1
      go_enter Tryz.func58, Tryz.ntmps58
      go_wp2_with fail
      refine (HMA1.out _ HW.out).mono ?_
      rintro e w1 ⟨⟨q, o, c, rfl, _⟩, b1⟩
      have B1 := Lib.hid (HW.out.trans (b1.mono HW.out.size))
      have q0 := (HQ.out.up b1).c0
      have q1 := (HQ.out.up b1).c1
      clear b1
      go_wp2_with fail
      refine (HMB0.out w1 B1.out).mono ?_
      rintro e w2 ⟨rfl, b2⟩
      have B2 := Lib.hid (B1.out.trans (b2.mono B1.out.size))
      clear b2 q0 q1
      go_wp2_with fail
      go_ret
      exact ⟨ret_bool HCL.out.symm, B2.out⟩
    | some y =>
      replace HCL : Hid (R = (decide ((gl x 0).k ≠ 0) && decide (x = y))) := HCL
      replace HMB1 := Lib.hid (HMB1.out y rfl)
      have HSM := Lib.hid (fun a1 a2 c1 c2 W (h1 : CV W a1 x.length (gl x)) (h2 : CV W a2 y.length (gl y)) (hn : x.length ≤ maxLen) => csame_any a1 a2 x.length y.length c1 c2 (gl x) (gl y) W h1 h2 hn)
      rw [sm_dec] at HSM
      obtain ⟨z, hz⟩ : ∃ z, z = decide (x = y) := ⟨_, rfl⟩
      rw [← hz] at HCL HSM
      obtain ⟨k, hk⟩ : ∃ k, k = (gl x 0).k := ⟨_, rfl⟩
      rw [← hk] at HCL
      obtain ⟨lx, hlx⟩ : ∃ k, k = x.length := ⟨_, rfl⟩
      obtain ⟨ly, hly⟩ : ∃ k, k = y.length := ⟨_, rfl⟩
      rw [← hlx] at HMA1
      rw [← hly] at HMB1
      rw [← hlx, ← hly] at HSM
      have HK := Lib.hid hk
      clear HMA0 HMB0 hz hk hlx hly
      go_enter Tryz.func58, Tryz.ntmps58
      go_wp2_with fail
      refine (HMA1.out _ HW.out).mono ?_
      rintro e w1 ⟨⟨q, o, c, rfl, v1, l0, lc, lm, _⟩, b1⟩
      have B1 := Lib.hid (HW.out.trans (b1.mono HW.out.size))
      have V1 := Lib.hid v1
      have q0 := (HQ.out.up b1).c0
      have q1 := (HQ.out.up b1).c1
      have l0' : (0 : Int) < lx := by omega
      have lm' : Hid (lx ≤ maxLen) := Lib.hid (by omega)
      clear b1 v1 l0 lc lm
      go_wp2_with fail
      refine (HMB1.out w1 B1.out).mono ?_
      rintro e w2 ⟨⟨q', o', c', rfl, v2, _, _, _, _⟩, b2⟩
      have B2 := Lib.hid (B1.out.trans (b2.mono B1.out.size))
      have V1' := Lib.hid (V1.out.below b2)
      have V2 := Lib.hid v2
      clear b2 q0 q1 v2 V1
      have d0 := (V1'.out.at_ (i := 0) (by omega)).2.1
      rw [← HK.out, Nat.zero_mul, Nat.add_zero] at d0
      by_cases hk0 : k = 0
      · have HR : Hid (R = false) := Lib.hid (by rw [HCL.out, hk0]; rfl)
        subst hk0
        go_wp2_with fail
        go_ret
        exact ⟨ret_bool HR.out.symm, B2.out⟩
      · have HR : Hid (R = z) := Lib.hid (by rw [HCL.out, decide_eq_true hk0, Bool.true_and])
        have hk1 : ((k : Int) != 0) = true := by simp; omega
        have hk2 : ((k : Int) == 0) = false := by rw [beq_eq_false_iff_ne]; omega
        clear hk0
        go_wp2_with fail
        refine (HSM.out _ _ c c' w2 V1'.out V2.out lm'.out).mono ?_
        rintro e w3 ⟨rfl, b3⟩
        have B3 := Lib.hid (B2.out.trans (b3.mono B2.out.size))
        clear b3
        go_wp2_with fail
        go_ret
        exact ⟨ret_bool HR.out.symm, B3.out⟩
end Go.Proofs.YtfigebepeniikaaGreat
/- Layer 27: whether a record clashes with rows. -/
namespace Go.Proofs.YtfigebepeniikaaGreat
open Go.RowKit Go.Maps
/-- A record in a box. -/
def RBx (w : World) (q : Nat) (r : RC) (ad : Option Addr) (cp : Nat) : Prop := Bx2 w q (.string r.id) (.slice ad r.d.length cp)
theorem RBx.up {w w' : World} {q : Nat} {r : RC} {ad : Option Addr} {cp : Nat} (h : RBx w q r ad cp) (k : Below w.heap.size w w') : RBx w' q r ad cp := Bx2.up h k
theorem rbx_new (w : World) (r : RC) (ad : Option Addr) (cp : Nat) : RBx (w.alloc (.cells #[.string r.id, .slice ad r.d.length cp] 28)) w.heap.size r ad cp := bx2_new w _ _
set_option maxRecDepth 20000 in
theorem clash1_any (a b : RC) (aa ab : Option Addr) (ca cb u v : Nat) (s : ByteArray) (w : World) (hu : RBx w u a aa ca) (hv : RBx w v b ab cb) (ha : DV 0 w aa ca a.d) (hb : DV 0 w ab cb b.d) (ka : ckL a.d = true) (kb : ckL b.d = true) : Calls Tryz.prog 57 #[.string s, .pointer (some ⟨u, 0, none⟩), .pointer (some ⟨v, 0, none⟩)] w fun e w' => e = .returned (.bool (clash a b s)) ∧ Below w.heap.size w w' := by
  have K := Lib.hid (clash_any 0 a b aa ab ca cb s w ha hb ka kb)
  unfold rv at K
  have u0 := Bx2.c0 hu
  have u1 := Bx2.c1 hu
  have v0 := Bx2.c0 hv
  have v1 := Bx2.c1 hv
  obtain ⟨R, hR⟩ : ∃ R, R = clash a b s := ⟨_, rfl⟩
  rw [← hR] at K ⊢
  obtain ⟨la, hla⟩ : ∃ m, m = a.d.length := ⟨_, rfl⟩
  obtain ⟨lb, hlb⟩ : ∃ m, m = b.d.length := ⟨_, rfl⟩
  obtain ⟨ia, hia⟩ : ∃ m, m = a.id := ⟨_, rfl⟩
  obtain ⟨ib, hib⟩ : ∃ m, m = b.id := ⟨_, rfl⟩
  rw [← hla] at u1
  rw [← hlb] at v1
  rw [← hia] at u0
  rw [← hib] at v0
  rw [← hla, ← hlb, ← hia, ← hib] at K
  clear hR hla hlb hia hib hu hv ha hb ka kb
  go_enter Tryz.func57, Tryz.ntmps57
  go_wp2_with fail
  refine K.out.mono ?_
  rintro e w1 ⟨rfl, b1⟩
  have B1 := Lib.hid b1
  clear b1
  go_wp2_with fail
  go_ret
  exact ⟨rfl, B1.out⟩
set_option maxRecDepth 20000 in
set_option maxHeartbeats 1000000 in
theorem clash2_any (a b : RC) (aa ab : Option Addr) (ca cb v u p : Nat) (x0 x1 x3 : Value) (a1 : Option Addr) (c1 : Nat) (L : List ByteArray) (w : World) (hv : RBx w v b ab cb) (hu : w.cell? ⟨u, 0, none⟩ = some (.pointer (some ⟨p, 0, none⟩))) (hp : Bx4 w p 53 x0 x1 (.slice a1 L.length c1) x3) (hL : Ord.SView w a1 L.length L) (hn : L.length ≤ 1000000) (ha : DV 0 w aa ca a.d) (hb : DV 0 w ab cb b.d) (ka : ckL a.d = true) (kb : ckL b.d = true) : Calls Tryz.prog 55 #[rv a aa ca, .pointer (some ⟨v, 0, none⟩), .pointer (some ⟨u, 0, none⟩)] w fun e w' => e = .returned (.bool (decide (a.id ≠ b.id) && L.any fun s => clash a b s)) ∧ Below w.heap.size w w' := by
  have BW : Hid (Below w.heap.size w (w.alloc (.cells #[.string a.id, .slice aa a.d.length ca] 28))) := Lib.hid ((Below.refl _ _).alloc (Nat.le_refl _) _)
  have K : Hid (Calls Tryz.prog 56 #[.slice a1 L.length c1, .func (.func 57) #[] #[.pointer (some ⟨w.heap.size, 0, none⟩), .pointer (some ⟨v, 0, none⟩)]] (w.alloc (.cells #[.string a.id, .slice aa a.d.length ca] 28)) fun e w' => e = .returned (.bool (L.any fun s => clash a b s)) ∧ Below (w.alloc (.cells #[.string a.id, .slice aa a.d.length ca] 28)).heap.size (w.alloc (.cells #[.string a.id, .slice aa a.d.length ca] 28)) w') := Lib.hid (by
    have h := cf_names a1 c1 L w.heap.size v (fun i => clash a b (Ord.nth L i)) (w.alloc (.cells #[.string a.id, .slice aa a.d.length ca] 28)) (hL.below BW.out) hn (fun i W hi k => clash1_any a b aa ab ca cb w.heap.size v (Ord.nth L i) W ((rbx_new w a aa ca).up k) ((RBx.up hv BW.out).up k) ((ha.below BW.out).below k) ((hb.below BW.out).below k) ka kb)
    rw [any_range L (fun s => clash a b s) _ (fun i hi => by show clash a b (L.getD i ⟨#[]⟩) = clash a b (L.getD i default); rfl)] at h
    exact h)
  have v0 := Bx2.c0 hv
  have p2 := hp.c2
  have HV0 : Hid ((w.alloc (.cells #[.string a.id, .slice aa a.d.length ca] 28)).cell? ⟨v, 0, none⟩ = some (.string b.id)) := Lib.hid ((BW.out.cell (p := ⟨v, 0, none⟩) (Bx2.lt hv)).trans v0)
  have HP2 : Hid ((w.alloc (.cells #[.string a.id, .slice aa a.d.length ca] 28)).cell? ⟨p, 2, none⟩ = some (.slice a1 L.length c1)) := Lib.hid ((BW.out.cell (p := ⟨p, 2, none⟩) hp.lt).trans p2)
  have HU0 : Hid ((w.alloc (.cells #[.string a.id, .slice aa a.d.length ca] 28)).cell? ⟨u, 0, none⟩ = some (.pointer (some ⟨p, 0, none⟩))) := Lib.hid ((BW.out.cell (p := ⟨u, 0, none⟩) (World.block_lt_of_cell? _ _ hu)).trans hu)
  obtain ⟨R, hR⟩ : ∃ R, R = L.any fun s => clash a b s := ⟨_, rfl⟩
  rw [← hR] at K ⊢
  unfold rv
  obtain ⟨la, hla⟩ : ∃ m, m = a.d.length := ⟨_, rfl⟩
  obtain ⟨ia, hia⟩ : ∃ m, m = a.id := ⟨_, rfl⟩
  obtain ⟨ib, hib⟩ : ∃ m, m = b.id := ⟨_, rfl⟩
  obtain ⟨n, hn'⟩ : ∃ m, m = L.length := ⟨_, rfl⟩
  rw [← hla, ← hia, ← hn'] at K HP2
  rw [← hla, ← hia, ← hib] at HV0
  rw [← hla, ← hia] at HU0 BW
  rw [← hla, ← hia, ← hib]
  clear hR hla hia hib hn' hv hp hL hn ha hb ka kb v0 p2 hu
  have v0 := HV0.out
  have p2 := HP2.out
  have u0 := HU0.out
  clear HV0 HP2 HU0
  by_cases he : ia = ib
  · subst he
    have HR : Hid ((decide (ia ≠ ia) && R) = false) := Lib.hid (by simp)
    rw [HR.out]
    clear HR
    go_enter Tryz.func55, Tryz.ntmps55
    go_wp2_with fail
    go_ret
    exact ⟨rfl, BW.out⟩
  · have HR : Hid ((decide (ia ≠ ib) && R) = R) := Lib.hid (by rw [decide_eq_true he, Bool.true_and])
    rw [HR.out]
    have he2 : (ia.toList == ib.toList) = false := by rw [str_is]; simpa using he
    clear HR he
    go_enter Tryz.func55, Tryz.ntmps55
    go_wp2_with fail
    refine K.out.mono ?_
    rintro e w1 ⟨rfl, b1⟩
    have B1 := Lib.hid (BW.out.trans (b1.mono BW.out.size))
    clear b1
    go_wp2_with fail
    go_ret
    exact ⟨rfl, B1.out⟩
set_option maxRecDepth 20000 in
set_option maxHeartbeats 1000000 in
theorem clashes_any (b : RC) (ab : Option Addr) (cb p : Nat) (x0 x1 : Value) (a1 a2 : Option Addr) (c1 c2 : Nat) (L : List ByteArray) (R : List RC) (w : World) (hp : Bx4 w p 53 x0 x1 (.slice a1 L.length c1) (.slice a2 R.length c2)) (hL : Ord.SView w a1 L.length L) (hn : L.length ≤ 1000000) (hR : RV 0 w a2 R) (hm : R.length ≤ 1000000) (hb : DV 0 w ab cb b.d) (kb : ckL b.d = true) (ka : ∀ a ∈ R, ckL a.d = true) : Calls Tryz.prog 30 #[.pointer (some ⟨p, 0, none⟩), rv b ab cb] w fun e w' => e = .returned (.bool (R.any fun a => decide (a.id ≠ b.id) && L.any fun s => clash a b s)) ∧ Below w.heap.size w w' := by
  unfold rv
  obtain ⟨W, hW⟩ : ∃ W, W = (w.alloc (.cells #[.pointer (some ⟨p, 0, none⟩)] 51)).alloc (.cells #[.string b.id, .slice ab b.d.length cb] 28) := ⟨_, rfl⟩
  have BW : Hid (Below w.heap.size w W) := Lib.hid (by rw [hW]; exact ((Below.refl _ _).alloc (Nat.le_refl _) _).alloc (by simp) _)
  have hU : W.cell? ⟨w.heap.size, 0, none⟩ = some (.pointer (some ⟨p, 0, none⟩)) := by rw [hW]; simp
  have hQ : RBx W (w.heap.size + 1) b ab cb := by
    have h := rbx_new (w.alloc (.cells #[.pointer (some ⟨p, 0, none⟩)] 51)) b ab cb
    rw [← hW] at h
    simpa using h
  have K : Hid (Calls Tryz.prog 41 #[.slice a2 R.length c2, .func (.func 55) #[] #[.pointer (some ⟨w.heap.size + 1, 0, none⟩), .pointer (some ⟨w.heap.size, 0, none⟩)]] W fun e w' => e = .returned (.bool (R.any fun a => decide (a.id ≠ b.id) && L.any fun s => clash a b s)) ∧ Below W.heap.size W w') := Lib.hid (by
    have h := cf_rows 0 a2 c2 R (w.heap.size + 1) w.heap.size (fun i => decide ((rl R i).id ≠ b.id) && L.any fun s => clash (rl R i) b s) W (hR.below BW.out) hm (fun i ai ci W' hi k dv => clash2_any (rl R i) b ai ab ci cb (w.heap.size + 1) w.heap.size p x0 x1 _ a1 c1 L W' (hQ.up k) ((k.cell (p := ⟨w.heap.size, 0, none⟩) (World.block_lt_of_cell? _ _ hU)).trans hU) ((hp.up BW.out).up k) ((hL.below BW.out).below k) hn dv ((hb.below BW.out).below k) (ka _ (rl_mem hi)) kb)
    have e : ((List.range R.length).any fun i => decide ((rl R i).id ≠ b.id) && L.any fun s => clash (rl R i) b s) = R.any fun a => decide (a.id ≠ b.id) && L.any fun s => clash a b s := any_range R (fun a => decide (a.id ≠ b.id) && L.any fun s => clash a b s) _ (fun i hi => rfl)
    rw [e] at h
    exact h)
  have p3 := (hp.up BW.out).c3
  obtain ⟨X, hX⟩ : ∃ X, X = R.any fun a => decide (a.id ≠ b.id) && L.any fun s => clash a b s := ⟨_, rfl⟩
  rw [← hX] at K ⊢
  obtain ⟨lb, hlb⟩ : ∃ m, m = b.d.length := ⟨_, rfl⟩
  obtain ⟨ib, hib⟩ : ∃ m, m = b.id := ⟨_, rfl⟩
  obtain ⟨n, hn'⟩ : ∃ m, m = R.length := ⟨_, rfl⟩
  rw [← hlb, ← hib] at hW ⊢
  rw [← hn'] at K p3
  rw [hW] at p3 K
  rw [hW] at BW
  clear hX hlb hib hn' hp hL hn hR hm hb kb ka hU hQ hW W
  go_enter Tryz.func30, Tryz.ntmps30
  go_wp2_with fail
  refine K.out.mono ?_
  rintro e w1 ⟨rfl, b1⟩
  have B1 := Lib.hid (BW.out.trans (b1.mono BW.out.size))
  clear b1
  go_wp2_with fail
  go_ret
  exact ⟨rfl, B1.out⟩
theorem clT_eq (T : TM) (b : RC) : (T.rows.any fun a => decide (a.id ≠ b.id) && T.uq.any fun s => clash a b s) = clT T b := rfl
end Go.Proofs.YtfigebepeniikaaGreat
/- Layer 27: whether a record may be. -/
namespace Go.Proofs.YtfigebepeniikaaGreat
open Go.RowKit Go.Maps
theorem mv_id {r : RC} {x : List CR} (h : mV r.d idS = some x) (h0 : 0 < x.length) : idOk r = (decide ((gl x 0).k = 3) && decide ((gl x 0).tx = r.id)) := by
  unfold mV at h
  cases hm : mI r.d idS with
  | none => rw [hm] at h; cases h
  | some p =>
    rw [hm] at h
    simp only [Option.map_some, Option.some.injEq] at h
    subst h
    rw [cut_len] at h0
    unfold idOk
    rw [hm, cut_at _ _ _ _ h0, Nat.add_zero]
theorem mv_no {r : RC} (h : mV r.d idS = none) : idOk r = false := by
  unfold mV at h
  cases hm : mI r.d idS with
  | none => unfold idOk; rw [hm]
  | some p => rw [hm] at h; cases h
set_option maxRecDepth 20000 in
set_option maxHeartbeats 2000000 in
theorem rec_any (B : Nat) (r : RC) (ad : Option Addr) (cp : Nat) (w : World) (hd : DV B w ad cp r.d) (hs : SmR r) : Calls Tryz.prog 28 #[rv r ad cp] w fun e w' => e = .returned (.bool (recOk r)) ∧ Below w.heap.size w w' := by
  have HD := Lib.hid hd
  have HW : Hid (Below w.heap.size w (w.alloc (.cells #[.string r.id, .slice ad r.d.length cp] 28))) := Lib.hid ((Below.refl _ _).alloc (Nat.le_refl _) _)
  have HQ := Lib.hid (rbx_new w r ad cp)
  have HV : Hid (Calls Tryz.prog 52 #[.slice ad r.d.length cp, .func (.func 51) #[] #[]] (w.alloc (.cells #[.string r.id, .slice ad r.d.length cp] 28)) fun e w' => e = .returned (.bool (hasVar r.d)) ∧ Below (w.alloc (.cells #[.string r.id, .slice ad r.d.length cp] 28)).heap.size (w.alloc (.cells #[.string r.id, .slice ad r.d.length cp] 28)) w') := Lib.hid (by
    have h := cf_cell ad cp r.d (fun i => decide ((gl r.d i).k = 5)) _ (HD.out.below HW.out).1 (by have := hs.2.1; omega) (fun i W hi k => isVar_any (gl r.d i) W)
    have e : ((List.range r.d.length).any fun i => decide ((gl r.d i).k = 5)) = hasVar r.d := any_range r.d (fun c => decide (c.k = 5)) _ (fun i hi => rfl)
    rw [e] at h
    exact h)
  have HK := Lib.hid (fun W (k : Below w.heap.size w W) => cCheck_any ad r.d.length cp (gl r.d) W (HD.out.below k).1 hs.1)
  have HM0 := Lib.hid (fun (kc : ckL r.d = true) (hx : mV r.d idS = none) W (k : Below w.heap.size w W) => mem_none (HD.out.below k) kc hx)
  have HM1 := Lib.hid (fun (kc : ckL r.d = true) x (hx : mV r.d idS = some x) W (k : Below w.heap.size w W) => mem_some (HD.out.below k) kc hx)
  have HVV := Lib.hid (fun W (k : Below w.heap.size w W) => (HD.out.below k).1)
  have HC7 : Hid (ckL r.d = true → 0 < r.d.length) := Lib.hid (fun h => (ckC_parts h).1)
  have HR : Hid (recOk r = (!(hasVar r.d) && ckL r.d && decide ((gl r.d 0).k = 7) && idOk r)) := Lib.hid rfl
  have HI0 := Lib.hid (mv_no (r := r))
  have HI1 := Lib.hid (fun x (hx : mV r.d idS = some x) h0 => mv_id hx h0)
  obtain ⟨R, hR⟩ : ∃ R, R = recOk r := ⟨_, rfl⟩
  rw [← hR] at HR ⊢
  unfold rv at HM0 HM1 ⊢
  unfold RBx at HQ
  obtain ⟨v, hv⟩ : ∃ m, m = hasVar r.d := ⟨_, rfl⟩
  rw [← hv] at HV HR
  have hce : ckC (gl r.d) r.d.length = ckL r.d := rfl
  rw [hce] at HK
  obtain ⟨c, hc⟩ : ∃ m, m = ckL r.d := ⟨_, rfl⟩
  rw [← hc] at HK HM0 HM1 HC7 HR
  obtain ⟨io, hio⟩ : ∃ m, m = idOk r := ⟨_, rfl⟩
  rw [← hio] at HR HI0 HI1
  obtain ⟨k, hk⟩ : ∃ m, m = (gl r.d 0).k := ⟨_, rfl⟩
  have HKK := Lib.hid hk
  rw [← hk] at HR
  obtain ⟨n, hn⟩ : ∃ m, m = r.d.length := ⟨_, rfl⟩
  obtain ⟨id, hid⟩ : ∃ m, m = r.id := ⟨_, rfl⟩
  rw [← hid, ← hn] at HV HQ HM0 HM1 HW ⊢
  rw [← hn] at HK HVV HC7
  rw [← hid] at HI1
  have hidS : idS = ⟨#[105, 100]⟩ := rfl
  rw [hidS] at HM0 HM1 HI0 HI1
  clear hR hv hc hio hk hn hid hce hd hs HD hidS
  cases v with
  | true =>
    have HX : Hid (R = false) := Lib.hid (by rw [HR.out]; rfl)
    clear HM0 HM1 HK HI0 HI1
    go_enter Tryz.func28, Tryz.ntmps28
    go_wp2_with fail
    refine HV.out.mono ?_
    rintro e w1 ⟨rfl, b1⟩
    have B1 := Lib.hid (HW.out.trans (b1.mono HW.out.size))
    clear b1
    go_wp2_with fail
    go_ret
    exact ⟨ret_bool HX.out.symm, B1.out⟩
  | false =>
    cases c with
    | false =>
      have HX : Hid (R = false) := Lib.hid (by rw [HR.out]; rfl)
      have HK2 : Hid (∀ W, Below w.heap.size w W → Calls Tryz.prog 53 #[.slice ad n cp] W fun e w' => e = .returned (.int .i64 8) ∧ Below W.heap.size W w') := Lib.hid (fun W k => HK.out W k)
      clear HM0 HM1 HI0 HI1 HK
      go_enter Tryz.func28, Tryz.ntmps28
      go_wp2_with fail
      refine HV.out.mono ?_
      rintro e w1 ⟨rfl, b1⟩
      have B1 := Lib.hid (HW.out.trans (b1.mono HW.out.size))
      have q1 := (HQ.out.up b1).c1
      clear b1
      go_wp2_with fail
      refine (HK2.out w1 B1.out).mono ?_
      rintro e w2 ⟨rfl, b2⟩
      have B2 := Lib.hid (B1.out.trans (b2.mono B1.out.size))
      clear b2 q1
      go_wp2_with fail
      go_ret
      exact ⟨ret_bool HX.out.symm, B2.out⟩
    | true =>
      have HK2 : Hid (∀ W, Below w.heap.size w W → Calls Tryz.prog 53 #[.slice ad n cp] W fun e w' => e = .returned (.int .i64 0) ∧ Below W.heap.size W w') := Lib.hid (fun W k => HK.out W k)
      have hn0 := HC7.out rfl
      have hn0' : (0 : Int) < n := by omega
      by_cases hk7 : k = 7
      · have HX : Hid (R = io) := Lib.hid (by rw [HR.out, hk7]; simp)
        subst hk7
        cases hmv : mV r.d ⟨#[105, 100]⟩ with
        | none =>
          have HY : Hid (R = false) := Lib.hid (by rw [HX.out]; exact HI0.out hmv)
          replace HM0 := Lib.hid (HM0.out rfl hmv)
          clear HM1 HI0 HI1 HK hmv
          go_enter Tryz.func28, Tryz.ntmps28
          go_wp2_with fail
          refine HV.out.mono ?_
          rintro e w1 ⟨rfl, b1⟩
          have B1 := Lib.hid (HW.out.trans (b1.mono HW.out.size))
          have Q1 := Lib.hid (HQ.out.up b1)
          have q1 := Q1.out.c1
          clear b1
          go_wp2_with fail
          refine (HK2.out w1 B1.out).mono ?_
          rintro e w2 ⟨rfl, b2⟩
          have B2 := Lib.hid (B1.out.trans (b2.mono B1.out.size))
          have Q2 := Lib.hid (Q1.out.up b2)
          clear b2 q1
          have q0 := Q2.out.c0
          have q1 := Q2.out.c1
          obtain ⟨b, off, rfl⟩ := (HVV.out w2 B2.out).addr (by omega)
          have d0 := ((HVV.out w2 B2.out).at_ (i := 0) (by omega)).2.1
          rw [← HKK.out, Nat.zero_mul, Nat.add_zero] at d0
          go_wp2_with fail
          refine (HM0.out w2 B2.out).mono ?_
          rintro e w3 ⟨rfl, b3⟩
          have B3 := Lib.hid (B2.out.trans (b3.mono B2.out.size))
          clear b3 q0 q1 d0
          go_wp2_with fail
          go_quiet (fail)
          go_wp2_with fail
          go_ret
          exact ⟨ret_bool HY.out.symm, below_drewN0 B3.out _⟩
        | some x =>
          replace HM1 := Lib.hid (HM1.out rfl x hmv)
          replace HI1 := Lib.hid (HI1.out x hmv)
          clear HM0 HI0 HK hmv
          go_enter Tryz.func28, Tryz.ntmps28
          go_wp2_with fail
          refine HV.out.mono ?_
          rintro e w1 ⟨rfl, b1⟩
          have B1 := Lib.hid (HW.out.trans (b1.mono HW.out.size))
          have Q1 := Lib.hid (HQ.out.up b1)
          have q1 := Q1.out.c1
          clear b1
          go_wp2_with fail
          refine (HK2.out w1 B1.out).mono ?_
          rintro e w2 ⟨rfl, b2⟩
          have B2 := Lib.hid (B1.out.trans (b2.mono B1.out.size))
          have Q2 := Lib.hid (Q1.out.up b2)
          clear b2 q1
          have q0 := Q2.out.c0
          have q1 := Q2.out.c1
          obtain ⟨b, off, rfl⟩ := (HVV.out w2 B2.out).addr (by omega)
          have d0 := ((HVV.out w2 B2.out).at_ (i := 0) (by omega)).2.1
          rw [← HKK.out, Nat.zero_mul, Nat.add_zero] at d0
          go_wp2_with fail
          refine (HM1.out w2 B2.out).mono ?_
          rintro e w3 ⟨⟨q, o, cx, rfl, v3, l0, _, _, _⟩, b3⟩
          have B3 := Lib.hid (B2.out.trans (b3.mono B2.out.size))
          have Q3 := Lib.hid (Q2.out.up b3)
          have HY := Lib.hid (HI1.out l0)
          have x0 := (v3.at_ l0).2.1
          have x2 := (v3.at_ l0).2.2.2.1
          rw [Nat.zero_mul, Nat.add_zero] at x0 x2
          have l0' : (0 : Int) < x.length := by omega
          obtain ⟨lx, hlx⟩ : ∃ m, m = x.length := ⟨_, rfl⟩
          obtain ⟨kx, hkx⟩ : ∃ m, m = (gl x 0).k := ⟨_, rfl⟩
          obtain ⟨tx, htx⟩ : ∃ m, m = (gl x 0).tx := ⟨_, rfl⟩
          rw [← hlx] at l0' ⊢
          rw [← hkx] at x0 HY
          rw [← htx] at x2 HY
          clear b3 q0 q1 d0 v3 hlx hkx htx HI1 l0
          have q0 := Q3.out.c0
          by_cases hk3 : kx = 3
          · subst hk3
            by_cases ht : tx = id
            · have HZ : Hid (R = true) := Lib.hid (by rw [HX.out, HY.out, ht]; simp)
              have he2 : (tx.toList == id.toList) = true := by rw [str_is]; simpa using ht
              clear ht
              go_wp2_with fail
              go_quiet (fail)
              go_wp2_with fail
              go_ret
              exact ⟨ret_bool HZ.out.symm, below_drewN0 B3.out _⟩
            · have HZ : Hid (R = false) := Lib.hid (by rw [HX.out, HY.out, decide_eq_false ht, Bool.and_false])
              have he2 : (tx.toList == id.toList) = false := by rw [str_is]; simpa using ht
              clear ht
              go_wp2_with fail
              go_quiet (fail)
              go_wp2_with fail
              go_ret
              exact ⟨ret_bool HZ.out.symm, below_drewN0 B3.out _⟩
          · have HZ : Hid (R = false) := Lib.hid (by rw [HX.out, HY.out, decide_eq_false hk3, Bool.false_and])
            have hk2 : ((kx : Int) == 3) = false := by rw [beq_eq_false_iff_ne]; omega
            clear hk3
            go_wp2_with fail
            go_quiet (fail)
            go_wp2_with fail
            go_ret
            exact ⟨ret_bool HZ.out.symm, below_drewN0 B3.out _⟩
      · have HX : Hid (R = false) := Lib.hid (by rw [HR.out, decide_eq_false hk7]; simp)
        have hk2 : ((k : Int) == 7) = false := by rw [beq_eq_false_iff_ne]; omega
        have hk4 : ((k : Int) != 7) = true := by simp; omega
        clear HM0 HM1 HI0 HI1 HK hk7
        go_enter Tryz.func28, Tryz.ntmps28
        go_wp2_with fail
        refine HV.out.mono ?_
        rintro e w1 ⟨rfl, b1⟩
        have B1 := Lib.hid (HW.out.trans (b1.mono HW.out.size))
        have Q1 := Lib.hid (HQ.out.up b1)
        have q1 := Q1.out.c1
        clear b1
        go_wp2_with fail
        refine (HK2.out w1 B1.out).mono ?_
        rintro e w2 ⟨rfl, b2⟩
        have B2 := Lib.hid (B1.out.trans (b2.mono B1.out.size))
        have Q2 := Lib.hid (Q1.out.up b2)
        clear b2 q1
        have q0 := Q2.out.c0
        have q1 := Q2.out.c1
        obtain ⟨b, off, rfl⟩ := (HVV.out w2 B2.out).addr (by omega)
        have d0 := ((HVV.out w2 B2.out).at_ (i := 0) (by omega)).2.1
        rw [← HKK.out, Nat.zero_mul, Nat.add_zero] at d0
        go_wp2_with fail
        go_ret
        exact ⟨ret_bool HX.out.symm, B2.out⟩
end Go.Proofs.YtfigebepeniikaaGreat

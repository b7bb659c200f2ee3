/- Layer 6: RangesClasses. -/
import Derived.Test.YtlngdohkoeognaaBP
import Derived.Test.YtlngdohkoeognaaBD
import Derived.IntWalk
namespace Go.Proofs.Ytlngdohkoeognaa
open Go.RowKit Go.Maps
/-- The last cut that is no greater than n, of the first i. -/
def fstK (K : List Int) (n : Int) (i : Nat) : Int := (K.take i).foldl (fun f x => if x ≤ n then x else f) 0
theorem fstK_succ {K : List Int} {n : Int} {i : Nat} (h : i < K.length) : fstK K n (i + 1) = if gI K i ≤ n then gI K i else fstK K n i := by
  unfold fstK
  rw [List.take_add_one, gI_get h, List.foldl_append]; rfl
theorem fstK_ok {K : List Int} {n : Int} (hK : K.Pairwise (· < ·)) (hn : 0 ≤ n) (h0 : ∀ x ∈ K, 0 ≤ x) : ∀ i, i ≤ K.length → fstK K n i ≤ n ∧ 0 ≤ fstK K n i ∧ (∀ j, j < i → gI K j ≤ n → gI K j ≤ fstK K n i)
  | 0, _ => ⟨hn, Int.le_refl _, fun j hj => absurd hj (Nat.not_lt_zero j)⟩
  | i + 1, hi => by
    obtain ⟨a, b, c⟩ := fstK_ok hK hn h0 i (by omega)
    have hlt : i < K.length := hi
    rw [fstK_succ hlt]
    split
    · rename_i h1
      refine ⟨h1, h0 _ (gI_mem hlt), fun j hj hj2 => ?_⟩
      by_cases e : j = i
      · subst e; exact Int.le_refl _
      · have hp := List.pairwise_iff_getElem.1 hK j i (by omega) hlt (by omega)
        have g1 := gI_get (L := K) (i := j) (by omega)
        have g2 := gI_get (L := K) (i := i) hlt
        rw [List.getElem?_eq_getElem (by omega)] at g1
        rw [List.getElem?_eq_getElem hlt] at g2
        simp only [Option.some.injEq] at g1 g2
        rw [g1, g2] at hp
        omega
    · rename_i h1
      refine ⟨a, b, fun j hj hj2 => ?_⟩
      by_cases e : j = i
      · subst e; exact absurd hj2 h1
      · exact c j (by omega) hj2
/-- What the walk asks of the cuts. -/
structure KOk (S : List (List Rg)) (K : List Int) (n : Int) : Prop where
  pos : 0 < K.length
  zero : gI K 0 = 0
  len : K.length ≤ 1000000
  turn : ∀ i, 1 ≤ i → i < K.length → tr S S.length (gI K i) = true
  up : ∀ i, 1 ≤ i → i < K.length → gI K (i - 1) < gI K i
  lo : ∀ i, i < K.length → 0 ≤ gI K i
  hi : ∀ i, i < K.length → gI K i ≤ 1114111
  still : 0 ≤ n → n ≤ 1114111 → ∀ k, k < S.length → hs (setAt S k) n = hs (setAt S k) (fstK K n K.length)
theorem k_ok {S : List (List Rg)} {n : Int} (h256 : ¬ 256 < S.length) (hS : S.length ≤ 20) (hck : S.all ckL = true) : cutR S = (trnL S, 0) ∧ KOk S (trnL S) n := by
  have hc : ∀ L ∈ S, L.length ≤ 256 ∧ Cn 0 L := fun L hL => ck_cn (List.all_eq_true.1 hck L hL)
  have hcn : ∀ L ∈ S, Cn 0 L := fun L hL => (hc L hL).2
  refine ⟨by rw [cut_same]; unfold cutD; rw [if_neg h256, if_pos hck], ?_⟩
  obtain ⟨k1, k2⟩ := trn_ok S hcn
  have hok : ∀ r ∈ S.flatten, okR r = true := fun r hr => by
    obtain ⟨L, hL, hr⟩ := List.mem_flatten.1 hr
    exact cn_ok (Int.le_refl _) (hcn L hL) r hr
  obtain ⟨l, hl⟩ := plc_zero S.flatten hok
  have hK : trnL S = 0 :: l.filter (trnB S) := by unfold trnL; rw [hl]
  have hrng : ∀ x ∈ trnL S, 0 ≤ x ∧ x ≤ 1114111 := fun x hx => by
    rcases (k2 x).1 hx with rfl | ⟨L, hL, r, hr, h⟩
    · omega
    · have := okR_iff.1 (cn_ok (Int.le_refl _) (hcn L hL) r hr)
      omega
  have hll : (trnL S).length ≤ 1000000 := by
    have h1 : (trnL S).length ≤ (plcL S.flatten).length := by
      rw [hK, hl, List.length_cons, List.length_cons]
      have := List.length_filter_le (trnB S) l
      omega
    have h2 := plc_len S.flatten
    have h3 := flatten_len S (fun L hL => (hc L hL).1)
    omega
  have htr : ∀ i, 1 ≤ i → i < (trnL S).length → tr S S.length (gI (trnL S) i) = true := fun i h1 h2 => by
    rw [tr_all]
    obtain ⟨j, rfl⟩ : ∃ j, i = j + 1 := ⟨i - 1, by omega⟩
    have hm : gI (trnL S) (j + 1) ∈ l.filter (trnB S) := by
      rw [hK] at h2 ⊢
      have : gI (0 :: l.filter (trnB S)) (j + 1) = gI (l.filter (trnB S)) j := rfl
      rw [this]
      exact gI_mem (by simpa using h2)
    exact (List.mem_filter.1 hm).2
  refine ⟨by rw [hK]; simp, by rw [hK]; rfl, hll, htr, fun i h1 h2 => ?_, fun i h => (hrng _ (gI_mem h)).1, fun i h => (hrng _ (gI_mem h)).2, fun hn0 hn1 k hk => ?_⟩
  · have hp := List.pairwise_iff_getElem.1 k1 (i - 1) i (by omega) h2 (by omega)
    have g1 := gI_get (L := trnL S) (i := i - 1) (by omega)
    have g2 := gI_get (L := trnL S) (i := i) h2
    rw [List.getElem?_eq_getElem (by omega)] at g1
    rw [List.getElem?_eq_getElem h2] at g2
    simp only [Option.some.injEq] at g1 g2
    rw [g1, g2] at hp
    exact hp
  · obtain ⟨f1, f2, f3⟩ := fstK_ok (n := n) k1 hn0 (fun x hx => (hrng x hx).1) (trnL S).length (Nat.le_refl _)
    refine hs_still f1 (fun r hr => ?_)
    have hL := set_mem hk
    have hokr := okR_iff.1 (cn_ok (Int.le_refl _) (hcn _ hL) r hr)
    have key : ∀ x, x ∈ trnL S → x ≤ n → x ≤ fstK (trnL S) n (trnL S).length := fun x hx hxn => by
      obtain ⟨j, hj, rfl⟩ := List.mem_iff_getElem.1 hx
      have g := gI_get hj
      rw [List.getElem?_eq_getElem hj] at g
      simp only [Option.some.injEq] at g
      rw [g] at hxn ⊢
      exact f3 j hj hxn
    refine ⟨fun hx => ?_, fun hx => ?_⟩
    · have := key r.1 ((k2 _).2 (.inr ⟨_, hL, r, hr, .inl rfl⟩)) hx.2
      omega
    · have := key (r.2 + 1) ((k2 _).2 (.inr ⟨_, hL, r, hr, .inr ⟨rfl, by omega⟩⟩)) hx.2
      omega
theorem k_bad {S : List (List Rg)} (h256 : ¬ 256 < S.length) (hck : S.all ckL = false) : cutR S = ([], 8) := by
  unfold cutR
  rw [if_neg h256, hck]; rfl
set_option maxRecDepth 20000 in
theorem rcl_big (a : Option Addr) (c m : Nat) (S : List (List Rg)) (n : Int) (w : World) (hsv : Hid (SV w a S)) (hml : Hid (m = S.length)) (h : (20 : Int) < (m : Int)) :
    Calls Try.prog 8 #[.slice a m c, .int .i64 n] w fun e w' => e = .returned (.bool true) ∧ Below w.heap.size w w' := by
  go_enter Try.func8, Try.ntmps8
  go_wp2_with fail
  refine (alive_any _).mono ?_
  rintro e w1 ⟨rfl, b1⟩
  have B1 := Lib.hid b1
  clear b1
  go_wp2_with fail
  go_ret
  exact ⟨rfl, B1.out⟩
set_option maxRecDepth 20000 in
theorem rcl_bad (a : Option Addr) (c m : Nat) (S : List (List Rg)) (n : Int) (w : World) (hsv : Hid (SV w a S)) (hml : Hid (m = S.length)) (h : ¬ (20 : Int) < (m : Int)) (hR : Hid (cutR S = ([], 8))) :
    Calls Try.prog 8 #[.slice a m c, .int .i64 n] w fun e w' => e = .returned (.bool true) ∧ Below w.heap.size w w' := by
  go_enter Try.func8, Try.ntmps8
  go_wp2_with fail
  refine (alive_any _).mono ?_
  rintro e w1 ⟨rfl, b1⟩
  have B1 := Lib.hid b1
  clear b1
  go_wp2_with fail
  have HC := Lib.hid (cuts_any a c S w1 (hsv.out.below B1.out) (by have := hml.out; omega))
  rw [← hml.out, hR.out] at HC
  refine HC.out.mono ?_
  rintro e w2 ⟨ad, cp, rfl, _, b2⟩
  have B2 := Lib.hid (B1.out.trans (b2.mono B1.out.size))
  rw [show ([] : List Int).length = 0 from rfl]
  clear b2
  go_wp2_with fail
  go_ret
  exact ⟨rfl, B2.out⟩
set_option maxRecDepth 20000 in
set_option maxHeartbeats 1000000 in
theorem rcl_ok (a : Option Addr) (c m : Nat) (S : List (List Rg)) (n : Int) (w : World) (hsv : Hid (SV w a S)) (hml : Hid (m = S.length)) (h : ¬ (20 : Int) < (m : Int)) (K : List Int) (hR : Hid (cutR S = (K, 0))) (hK : Hid (KOk S K n)) (hl256 : Hid (∀ L ∈ S, L.length ≤ 256)) :
    Calls Try.prog 8 #[.slice a m c, .int .i64 n] w fun e w' => e = .returned (.bool true) ∧ Below w.heap.size w w' := by
  go_enter Try.func8, Try.ntmps8
  go_wp2_with fail
  refine (alive_any _).mono ?_
  rintro e w1 ⟨rfl, b1⟩
  have B1 := Lib.hid b1
  clear b1
  go_wp2_with fail
  have HC := Lib.hid (cuts_any a c S w1 (hsv.out.below B1.out) (by have := hml.out; omega))
  rw [← hml.out, hR.out] at HC
  refine HC.out.mono ?_
  rintro e w2 ⟨adK, cpK, rfl, ivK, b2⟩
  have B2 := Lib.hid (B1.out.trans (b2.mono B1.out.size))
  have HV2 := Lib.hid ((hsv.out.below B1.out).below b2)
  clear b2 HC
  dsimp only at ivK ⊢
  obtain ⟨q, oq, rfl⟩ := ivK.addr hK.out.pos
  have IVK := Lib.hid ivK
  obtain ⟨N, hN⟩ : ∃ N, N = K.length := ⟨_, rfl⟩
  have HN := Lib.hid hN
  rw [← hN]
  have hNp : (0 : Int) < (N : Int) := by have := hK.out.pos; omega
  have hNe : ((N : Int) == 0) = false := by simp; omega
  have hNi : (N : Int) ≤ 1000000 := by have := hK.out.len; omega
  have hmi : (m : Int) ≤ 20 := by omega
  have c0 : w2.cell? ⟨q, oq, none⟩ = some (.int .i64 0) := by have h := (ivK.at_ (i := 0) hK.out.pos).2; rw [hK.out.zero] at h; exact h
  have c0' : w2.cell? ⟨q, oq + 0, none⟩ = some (.int .i64 0) := c0
  clear ivK hN
  go_wp2_with fail
  go_loopg [8, 9] N (fun f u v wr => ∃ (i : Nat) (g : Int), v = .int .i64 (i : Nat) ∧ 1 ≤ i ∧ i ≤ N ∧ N - i ≤ f ∧ u = .int .i64 g ∧ g = fstK K n i ∧ Below w2.heap.size w2 wr)
  case atStart =>
    refine ⟨1, 0, rfl, by omega, by omega, by omega, rfl, ?_, Below.refl _ _⟩
    rw [fstK_succ (K := K) (i := 0) hK.out.pos, hK.out.zero]
    unfold fstK
    simp
  case round =>
    obtain ⟨i, g, rfl, hi1, hiN, hf, rfl, hg, hb⟩ := hrel
    have HB := Lib.hid hb
    have HF := Lib.hid hf
    have HG := Lib.hid hg
    have HI1 := Lib.hid hi1
    by_cases hlt : i < N
    · obtain ⟨gg, rfl⟩ : ∃ g, g = gk := ⟨_, rfl⟩
      have HLT := Lib.hid hlt
      have HKL : Hid (i < K.length) := Lib.hid (by rw [← HN.out]; exact hlt)
      obtain ⟨hbq, cx⟩ := (IVK.out.below hb).at_ (i := i) HKL.out
      obtain ⟨_, cz⟩ := (IVK.out.below hb).at_ (i := i - 1) (by have := HKL.out; omega)
      obtain ⟨hbq0, cx0⟩ := IVK.out.at_ (i := i) HKL.out
      obtain ⟨_, cz0⟩ := IVK.out.at_ (i := i - 1) (by have := HKL.out; omega)
      obtain ⟨x, hx⟩ : ∃ x, x = gI K i := ⟨_, rfl⟩
      obtain ⟨z, hz⟩ : ∃ x, x = gI K (i - 1) := ⟨_, rfl⟩
      rw [← hx] at cx cx0
      rw [← hz] at cz cz0
      have HX := Lib.hid hx
      have HBQ := Lib.hid hbq0
      have HCX := Lib.hid cx0
      have HCZ := Lib.hid cz0
      have hx0 : 0 ≤ x := by rw [hx]; exact hK.out.lo i HKL.out
      have hx1 : x ≤ 1114111 := by rw [hx]; exact hK.out.hi i HKL.out
      have hzx : decide (x ≤ z) = false := decide_eq_false (by have := hK.out.up i hi1 HKL.out; rw [hx, hz]; omega)
      have hx2 : decide (1114111 < x) = false := decide_eq_false (by omega)
      have hlt' : (i : Int) < (N : Int) := by omega
      have hi0 : (0 : Int) ≤ (i : Int) := by omega
      have hi2 : (0 : Int) ≤ (i : Int) - 1 := by omega
      have hi3 : (i : Int) - 1 < (N : Int) := by omega
      have hi4 : ((i : Int) - 1).toNat = i - 1 := by omega
      have hi5 : (1 : Int) ≤ (i : Int) := by omega
      have hi6 : (i : Int) ≤ (N : Int) := by omega
      have hi7 : 1 ≤ i := HI1.out
      have hbig : (i : Int) + 1 ≤ 9223372036854775807 := by omega
      have hxw : IntKind.i64.wrap (x - 1) = x - 1 := IntWalk.i64_in _ (by omega)
      have hiw : IntKind.i64.wrap ((i : Int) - 1) = (i : Int) - 1 := IntWalk.i64_in _ (by omega)
      clear hi1 hiN hf hb hg hbq hbq0 hx hz hlt cx cz cx0 cz0
      go_wp2_with fail
      go_loopg [10, 11] m (fun f u v wr => ∃ k : Nat, v = .int .i64 (k : Nat) ∧ k ≤ m ∧ m - k ≤ f ∧ u = .bool (tr S k x) ∧ Below w2.heap.size w2 wr)
      case atStart => exact ⟨0, rfl, by omega, by omega, rfl, HB.out⟩
      case round =>
        obtain ⟨k, rfl, hkm, hkf, rfl, hkb⟩ := hrel
        have HBK := Lib.hid hkb
        have HKF := Lib.hid hkf
        obtain ⟨t, ht⟩ : ∃ t, t = tr S k x := ⟨_, rfl⟩
        rw [← ht]
        have HT := Lib.hid ht
        by_cases hkl : k < m
        · obtain ⟨b, off, rfl, hbb, ad, cp, c1, hcp, hcm, hrv, hnn⟩ := HV2.out.at_ (i := k) (by rw [← hml.out]; exact hkl)
          obtain ⟨P, hP⟩ : ∃ P, P = setAt S k := ⟨_, rfl⟩
          rw [← hP] at c1 hrv hcp
          have hPm : P.length ≤ maxLen := Nat.le_trans hcp hcm
          have HH : Hid (∀ W, Below w2.heap.size w2 W → ∀ z, Calls Try.prog 25 #[.slice ad P.length cp, .int .i64 z] W fun e w' => e = .returned (.bool (hs P z)) ∧ Below W.heap.size W w') := Lib.hid (fun W hW z => has_any ad cp P z W (hrv.below hW) hPm)
          obtain ⟨ln, hln⟩ : ∃ n, n = P.length := ⟨_, rfl⟩
          rw [← hln] at c1 HH
          have HS : Hid (∀ w', Below wr.heap.size wr w' → (fun w' => Below wr.heap.size wr w' ∧ w'.cell? ⟨b, off + k, none⟩ = some (.slice ad ln cp) ∧ w'.cell? ⟨q, oq + i, none⟩ = some (.int .i64 x)) w') := Lib.hid (fun w' hb => ⟨hb, ((hkb.trans (hb.mono hkb.size)).cell (p := ⟨b, _, none⟩) hbb).trans c1, ((hkb.trans (hb.mono hkb.size)).cell (p := ⟨q, _, none⟩) HBQ.out).trans HCX.out⟩)
          obtain ⟨p1, hp1⟩ : ∃ p, hs P x = p := ⟨_, rfl⟩
          obtain ⟨p2, hp2⟩ : ∃ p, hs P (x - 1) = p := ⟨_, rfl⟩
          have HX1 : Hid (∀ W, Below wr.heap.size wr W → Calls Try.prog 25 #[.slice ad ln cp, .int .i64 x] W fun e w' => e = .returned (.bool p1) ∧ Below W.heap.size W w') := Lib.hid (fun W hW => by have h := HH.out W (hkb.trans (hW.mono hkb.size)) x; rw [hp1] at h; exact h)
          have HX2 : Hid (∀ W, Below wr.heap.size wr W → Calls Try.prog 25 #[.slice ad ln cp, .int .i64 (x - 1)] W fun e w' => e = .returned (.bool p2) ∧ Below W.heap.size W w') := Lib.hid (fun W hW => by have h := HH.out W (hkb.trans (hW.mono hkb.size)) (x - 1); rw [hp2] at h; exact h)
          have hkl' : (k : Int) < (m : Int) := by omega
          have hkbig : (k : Int) + 1 ≤ 9223372036854775807 := by omega
          have HKL2 := Lib.hid hkl
          have HNXT : Hid (tr S (k + 1) x = (t || (p1 != p2))) := Lib.hid (by rw [tr_next (by rw [← hml.out]; exact hkl), ← hP, ← ht, hp1, hp2])
          clear hkm hkf hkb ht hkl hbb c1 hcp hcm hrv hnn hP hPm hln hp1 hp2 c0 c0'
          cases t with
          | true =>
            have HNX : Hid (tr S (k + 1) x = true) := Lib.hid (by rw [HNXT.out]; rfl)
            go_upto_region 17 with fail
            refine wp_region_held_drew (S := (fun w' => Below wr.heap.size wr w' ∧ w'.cell? ⟨b, off + k, none⟩ = some (.slice ad ln cp) ∧ w'.cell? ⟨q, oq + i, none⟩ = some (.int .i64 x))) (by kernel_rfl) (HS.out _ ((Below.refl _ _).drew)) (fun hHeld => ?_)
            refine wpAnyH_take (i := 0) (oi := { dst := some 53, op := Op.move (Operand.tmp 10), type := 4, pos := "outright.go:97", after := #[], guard := none }) (v := ?_) rfl (by kernel_rfl) (by kernel_rfl) (by kernel_rfl) (fun _ _ _ h => h) (Or.inl ⟨by rfl, ?_⟩) hHeld ?_
            rotate_left
            · (intro w hSw; (try dsimp only at hSw); go_simp <;> with_reducible rfl)
            try simp only [Act.put, List.setIfInBounds_toArray, List.set_cons_zero, List.set_cons_succ]
            refine wpAnyH_take (i := 1) (oi := { dst := some 54, op := Op.move (Operand.tmp 53), type := 4, pos := "outright.go:97", after := #[{ on := 0, ground := Ground.data }], guard := none }) (v := ?_) rfl (by kernel_rfl) (by kernel_rfl) (by kernel_rfl) (fun _ _ _ h => h) (Or.inl ⟨by rfl, ?_⟩) hHeld ?_
            rotate_left
            · (intro w hSw; (try dsimp only at hSw); go_simp <;> with_reducible rfl)
            try simp only [Act.put, List.setIfInBounds_toArray, List.set_cons_zero, List.set_cons_succ]
            refine wpAnyH_take (i := 2) (oi := { dst := some 55, op := Op.move (Operand.tmp 0), type := 30, pos := "outright.go:97", after := #[{ on := 1, ground := Ground.guard }], guard := some (1, false) }) (v := undef) rfl (by kernel_rfl) (by kernel_rfl) (by kernel_rfl) (fun _ _ _ h => h) (Or.inr ⟨by rfl, rfl⟩) hHeld ?_
            try simp only [Act.put, List.setIfInBounds_toArray, List.set_cons_zero, List.set_cons_succ]
            refine wpAnyH_take (i := 3) (oi := { dst := some 56, op := Op.move (Operand.tmp 11), type := 3, pos := "outright.go:97", after := #[{ on := 1, ground := Ground.guard }], guard := some (1, false) }) (v := undef) rfl (by kernel_rfl) (by kernel_rfl) (by kernel_rfl) (fun _ _ _ h => h) (Or.inr ⟨by rfl, rfl⟩) hHeld ?_
            try simp only [Act.put, List.setIfInBounds_toArray, List.set_cons_zero, List.set_cons_succ]
            refine wpAnyH_take (i := 4) (oi := { dst := some 57, op := Op.indexAddr 30 (Operand.tmp 55) (Operand.tmp 56), type := 0, pos := "outright.go:97", after := #[{ on := 2, ground := Ground.data }, { on := 3, ground := Ground.data }, { on := 1, ground := Ground.guard }], guard := some (1, false) }) (v := undef) rfl (by kernel_rfl) (by kernel_rfl) (by kernel_rfl) (fun _ _ _ h => h) (Or.inr ⟨by rfl, rfl⟩) hHeld ?_
            try simp only [Act.put, List.setIfInBounds_toArray, List.set_cons_zero, List.set_cons_succ]
            refine wpAnyH_take (i := 5) (oi := { dst := some 58, op := Op.load 22 (Operand.tmp 57), type := 22, pos := "outright.go:97", after := #[{ on := 4, ground := Ground.data }, { on := 1, ground := Ground.guard }], guard := some (1, false) }) (v := undef) rfl (by kernel_rfl) (by kernel_rfl) (by kernel_rfl) (fun _ _ _ h => h) (Or.inr ⟨by rfl, rfl⟩) hHeld ?_
            try simp only [Act.put, List.setIfInBounds_toArray, List.set_cons_zero, List.set_cons_succ]
            refine wpAnyH_take (i := 6) (oi := { dst := some 59, op := Op.move (Operand.tmp 6), type := 27, pos := "outright.go:97", after := #[{ on := 1, ground := Ground.guard }], guard := some (1, false) }) (v := undef) rfl (by kernel_rfl) (by kernel_rfl) (by kernel_rfl) (fun _ _ _ h => h) (Or.inr ⟨by rfl, rfl⟩) hHeld ?_
            try simp only [Act.put, List.setIfInBounds_toArray, List.set_cons_zero, List.set_cons_succ]
            refine wpAnyH_take (i := 7) (oi := { dst := some 60, op := Op.move (Operand.tmp 9), type := 3, pos := "outright.go:97", after := #[{ on := 1, ground := Ground.guard }], guard := some (1, false) }) (v := undef) rfl (by kernel_rfl) (by kernel_rfl) (by kernel_rfl) (fun _ _ _ h => h) (Or.inr ⟨by rfl, rfl⟩) hHeld ?_
            try simp only [Act.put, List.setIfInBounds_toArray, List.set_cons_zero, List.set_cons_succ]
            refine wpAnyH_take (i := 8) (oi := { dst := some 61, op := Op.indexAddr 27 (Operand.tmp 59) (Operand.tmp 60), type := 0, pos := "outright.go:97", after := #[{ on := 6, ground := Ground.data }, { on := 7, ground := Ground.data }, { on := 1, ground := Ground.guard }], guard := some (1, false) }) (v := undef) rfl (by kernel_rfl) (by kernel_rfl) (by kernel_rfl) (fun _ _ _ h => h) (Or.inr ⟨by rfl, rfl⟩) hHeld ?_
            try simp only [Act.put, List.setIfInBounds_toArray, List.set_cons_zero, List.set_cons_succ]
            refine wpAnyH_take (i := 9) (oi := { dst := some 62, op := Op.load 3 (Operand.tmp 61), type := 3, pos := "outright.go:97", after := #[{ on := 8, ground := Ground.data }, { on := 1, ground := Ground.guard }], guard := some (1, false) }) (v := undef) rfl (by kernel_rfl) (by kernel_rfl) (by kernel_rfl) (fun _ _ _ h => h) (Or.inr ⟨by rfl, rfl⟩) hHeld ?_
            try simp only [Act.put, List.setIfInBounds_toArray, List.set_cons_zero, List.set_cons_succ]
            refine wpAnyH_take (i := 10) (oi := { dst := some 63, op := Op.call { callee := Callee.value (Operand.func 25), args := #[Operand.tmp 58, Operand.tmp 62], argTypes := #[22, 3] }, type := 4, pos := "outright.go:97", after := #[{ on := 5, ground := Ground.data }, { on := 9, ground := Ground.data }, { on := 1, ground := Ground.chain }, { on := 1, ground := Ground.guard }], guard := some (1, false) }) (v := undef) rfl (by kernel_rfl) (by kernel_rfl) (by kernel_rfl) (fun _ _ _ h => h) (Or.inr ⟨by rfl, rfl⟩) hHeld ?_
            try simp only [Act.put, List.setIfInBounds_toArray, List.set_cons_zero, List.set_cons_succ]
            refine wpAnyH_take (i := 11) (oi := { dst := some 64, op := Op.move (Operand.tmp 0), type := 30, pos := "outright.go:97", after := #[{ on := 1, ground := Ground.guard }], guard := some (1, false) }) (v := undef) rfl (by kernel_rfl) (by kernel_rfl) (by kernel_rfl) (fun _ _ _ h => h) (Or.inr ⟨by rfl, rfl⟩) hHeld ?_
            try simp only [Act.put, List.setIfInBounds_toArray, List.set_cons_zero, List.set_cons_succ]
            refine wpAnyH_take (i := 12) (oi := { dst := some 65, op := Op.move (Operand.tmp 11), type := 3, pos := "outright.go:97", after := #[{ on := 1, ground := Ground.guard }], guard := some (1, false) }) (v := undef) rfl (by kernel_rfl) (by kernel_rfl) (by kernel_rfl) (fun _ _ _ h => h) (Or.inr ⟨by rfl, rfl⟩) hHeld ?_
            try simp only [Act.put, List.setIfInBounds_toArray, List.set_cons_zero, List.set_cons_succ]
            refine wpAnyH_take (i := 13) (oi := { dst := some 66, op := Op.indexAddr 30 (Operand.tmp 64) (Operand.tmp 65), type := 0, pos := "outright.go:97", after := #[{ on := 11, ground := Ground.data }, { on := 12, ground := Ground.data }, { on := 1, ground := Ground.guard }], guard := some (1, false) }) (v := undef) rfl (by kernel_rfl) (by kernel_rfl) (by kernel_rfl) (fun _ _ _ h => h) (Or.inr ⟨by rfl, rfl⟩) hHeld ?_
            try simp only [Act.put, List.setIfInBounds_toArray, List.set_cons_zero, List.set_cons_succ]
            refine wpAnyH_take (i := 14) (oi := { dst := some 67, op := Op.load 22 (Operand.tmp 66), type := 22, pos := "outright.go:97", after := #[{ on := 13, ground := Ground.data }, { on := 1, ground := Ground.guard }], guard := some (1, false) }) (v := undef) rfl (by kernel_rfl) (by kernel_rfl) (by kernel_rfl) (fun _ _ _ h => h) (Or.inr ⟨by rfl, rfl⟩) hHeld ?_
            try simp only [Act.put, List.setIfInBounds_toArray, List.set_cons_zero, List.set_cons_succ]
            refine wpAnyH_take (i := 15) (oi := { dst := some 68, op := Op.move (Operand.tmp 6), type := 27, pos := "outright.go:97", after := #[{ on := 1, ground := Ground.guard }], guard := some (1, false) }) (v := undef) rfl (by kernel_rfl) (by kernel_rfl) (by kernel_rfl) (fun _ _ _ h => h) (Or.inr ⟨by rfl, rfl⟩) hHeld ?_
            try simp only [Act.put, List.setIfInBounds_toArray, List.set_cons_zero, List.set_cons_succ]
            refine wpAnyH_take (i := 16) (oi := { dst := some 69, op := Op.move (Operand.tmp 9), type := 3, pos := "outright.go:97", after := #[{ on := 1, ground := Ground.guard }], guard := some (1, false) }) (v := undef) rfl (by kernel_rfl) (by kernel_rfl) (by kernel_rfl) (fun _ _ _ h => h) (Or.inr ⟨by rfl, rfl⟩) hHeld ?_
            try simp only [Act.put, List.setIfInBounds_toArray, List.set_cons_zero, List.set_cons_succ]
            refine wpAnyH_take (i := 17) (oi := { dst := some 70, op := Op.indexAddr 27 (Operand.tmp 68) (Operand.tmp 69), type := 0, pos := "outright.go:97", after := #[{ on := 15, ground := Ground.data }, { on := 16, ground := Ground.data }, { on := 1, ground := Ground.guard }], guard := some (1, false) }) (v := undef) rfl (by kernel_rfl) (by kernel_rfl) (by kernel_rfl) (fun _ _ _ h => h) (Or.inr ⟨by rfl, rfl⟩) hHeld ?_
            try simp only [Act.put, List.setIfInBounds_toArray, List.set_cons_zero, List.set_cons_succ]
            refine wpAnyH_take (i := 18) (oi := { dst := some 71, op := Op.load 3 (Operand.tmp 70), type := 3, pos := "outright.go:97", after := #[{ on := 17, ground := Ground.data }, { on := 1, ground := Ground.guard }], guard := some (1, false) }) (v := undef) rfl (by kernel_rfl) (by kernel_rfl) (by kernel_rfl) (fun _ _ _ h => h) (Or.inr ⟨by rfl, rfl⟩) hHeld ?_
            try simp only [Act.put, List.setIfInBounds_toArray, List.set_cons_zero, List.set_cons_succ]
            refine wpAnyH_take (i := 19) (oi := { dst := some 72, op := Op.binOp BinOp.sub 3 (Operand.tmp 71) (Operand.const (Value.int IntKind.i64 1)) 3, type := 3, pos := "outright.go:97", after := #[{ on := 18, ground := Ground.data }, { on := 1, ground := Ground.guard }], guard := some (1, false) }) (v := undef) rfl (by kernel_rfl) (by kernel_rfl) (by kernel_rfl) (fun _ _ _ h => h) (Or.inr ⟨by rfl, rfl⟩) hHeld ?_
            try simp only [Act.put, List.setIfInBounds_toArray, List.set_cons_zero, List.set_cons_succ]
            refine wpAnyH_take (i := 20) (oi := { dst := some 73, op := Op.call { callee := Callee.value (Operand.func 25), args := #[Operand.tmp 67, Operand.tmp 72], argTypes := #[22, 3] }, type := 4, pos := "outright.go:97", after := #[{ on := 14, ground := Ground.data }, { on := 19, ground := Ground.data }, { on := 10, ground := Ground.chain }, { on := 1, ground := Ground.guard }], guard := some (1, false) }) (v := undef) rfl (by kernel_rfl) (by kernel_rfl) (by kernel_rfl) (fun _ _ _ h => h) (Or.inr ⟨by rfl, rfl⟩) hHeld ?_
            try simp only [Act.put, List.setIfInBounds_toArray, List.set_cons_zero, List.set_cons_succ]
            refine wpAnyH_take (i := 21) (oi := { dst := some 74, op := Op.binOp BinOp.neq 4 (Operand.tmp 63) (Operand.tmp 73) 4, type := 4, pos := "outright.go:97", after := #[{ on := 10, ground := Ground.data }, { on := 20, ground := Ground.data }, { on := 1, ground := Ground.guard }], guard := some (1, false) }) (v := undef) rfl (by kernel_rfl) (by kernel_rfl) (by kernel_rfl) (fun _ _ _ h => h) (Or.inr ⟨by rfl, rfl⟩) hHeld ?_
            try simp only [Act.put, List.setIfInBounds_toArray, List.set_cons_zero, List.set_cons_succ]
            refine wpAnyH_take (i := 22) (oi := { dst := some 75, op := Op.pick (Operand.tmp 54) (Operand.const (Value.bool true)) (Operand.tmp 74), type := 4, pos := "outright.go:97", after := #[{ on := 1, ground := Ground.data }, { on := 21, ground := Ground.data }], guard := none }) (v := ?_) rfl (by kernel_rfl) (by kernel_rfl) (by kernel_rfl) (fun _ _ _ h => h) (Or.inl ⟨by rfl, ?_⟩) hHeld ?_
            rotate_left
            · (intro w hSw; (try dsimp only at hSw); go_simp <;> with_reducible rfl)
            try simp only [Act.put, List.setIfInBounds_toArray, List.set_cons_zero, List.set_cons_succ]
            refine wpAnyH_take (i := 23) (oi := { dst := some 10, op := Op.assign (Operand.tmp 75), type := 4, pos := "outright.go:97", after := #[{ on := 22, ground := Ground.data }, { on := 20, ground := Ground.chain }, { on := 0, ground := Ground.phase }, { on := 1, ground := Ground.phase }, { on := 2, ground := Ground.phase }, { on := 3, ground := Ground.phase }, { on := 4, ground := Ground.phase }, { on := 5, ground := Ground.phase }, { on := 6, ground := Ground.phase }, { on := 7, ground := Ground.phase }, { on := 8, ground := Ground.phase }, { on := 9, ground := Ground.phase }, { on := 10, ground := Ground.phase }, { on := 11, ground := Ground.phase }, { on := 12, ground := Ground.phase }, { on := 13, ground := Ground.phase }, { on := 14, ground := Ground.phase }, { on := 15, ground := Ground.phase }, { on := 16, ground := Ground.phase }, { on := 17, ground := Ground.phase }, { on := 18, ground := Ground.phase }, { on := 19, ground := Ground.phase }, { on := 20, ground := Ground.phase }, { on := 21, ground := Ground.phase }, { on := 22, ground := Ground.phase }], guard := none }) (v := ?_) rfl (by kernel_rfl) (by kernel_rfl) (by kernel_rfl) (fun _ _ _ h => h) (Or.inl ⟨by rfl, ?_⟩) hHeld ?_
            rotate_left
            · (intro w hSw; (try dsimp only at hSw); go_simp <;> with_reducible rfl)
            try simp only [Act.put, List.setIfInBounds_toArray, List.set_cons_zero, List.set_cons_succ]
            refine wpAnyH_done (by kernel_rfl) ?_ _
            have hLast := Lib.hid hHeld.1
            clear HS
            go_wp2_with fail
            go_roundg (gk - 1)
            case measure => have := HKF.out; have := HKL2.out; omega
            case rel => exact ⟨k + 1, by rw [show ((k + 1 : Nat) : Int) = (k : Int) + 1 by omega], by have := HKL2.out; omega, by have := HKF.out; omega, by rw [HNX.out], HBK.out.trans (hLast.out.mono HBK.out.size)⟩
          | false =>
            obtain ⟨d, hd⟩ : ∃ d, (p1 != p2) = d := ⟨_, rfl⟩
            have HNX : Hid (tr S (k + 1) x = d) := Lib.hid (by rw [HNXT.out, hd]; rfl)
            go_upto_region 17 with fail
            refine wp_region_held_drew (S := (fun w' => Below wr.heap.size wr w' ∧ w'.cell? ⟨b, off + k, none⟩ = some (.slice ad ln cp) ∧ w'.cell? ⟨q, oq + i, none⟩ = some (.int .i64 x))) (by kernel_rfl) (HS.out _ ((Below.refl _ _).drew)) (fun hHeld => ?_)
            refine wpAnyH_take (i := 0) (oi := { dst := some 53, op := Op.move (Operand.tmp 10), type := 4, pos := "outright.go:97", after := #[], guard := none }) (v := ?_) rfl (by kernel_rfl) (by kernel_rfl) (by kernel_rfl) (fun _ _ _ h => h) (Or.inl ⟨by rfl, ?_⟩) hHeld ?_
            rotate_left
            · (intro w hSw; (try dsimp only at hSw); go_simp <;> with_reducible rfl)
            try simp only [Act.put, List.setIfInBounds_toArray, List.set_cons_zero, List.set_cons_succ]
            refine wpAnyH_take (i := 1) (oi := { dst := some 54, op := Op.move (Operand.tmp 53), type := 4, pos := "outright.go:97", after := #[{ on := 0, ground := Ground.data }], guard := none }) (v := ?_) rfl (by kernel_rfl) (by kernel_rfl) (by kernel_rfl) (fun _ _ _ h => h) (Or.inl ⟨by rfl, ?_⟩) hHeld ?_
            rotate_left
            · (intro w hSw; (try dsimp only at hSw); go_simp <;> with_reducible rfl)
            try simp only [Act.put, List.setIfInBounds_toArray, List.set_cons_zero, List.set_cons_succ]
            refine wpAnyH_take (i := 2) (oi := { dst := some 55, op := Op.move (Operand.tmp 0), type := 30, pos := "outright.go:97", after := #[{ on := 1, ground := Ground.guard }], guard := some (1, false) }) (v := ?_) rfl (by kernel_rfl) (by kernel_rfl) (by kernel_rfl) (fun _ _ _ h => h) (Or.inl ⟨by rfl, ?_⟩) hHeld ?_
            rotate_left
            · (intro w hSw; (try dsimp only at hSw); go_simp <;> with_reducible rfl)
            try simp only [Act.put, List.setIfInBounds_toArray, List.set_cons_zero, List.set_cons_succ]
            refine wpAnyH_take (i := 3) (oi := { dst := some 56, op := Op.move (Operand.tmp 11), type := 3, pos := "outright.go:97", after := #[{ on := 1, ground := Ground.guard }], guard := some (1, false) }) (v := ?_) rfl (by kernel_rfl) (by kernel_rfl) (by kernel_rfl) (fun _ _ _ h => h) (Or.inl ⟨by rfl, ?_⟩) hHeld ?_
            rotate_left
            · (intro w hSw; (try dsimp only at hSw); go_simp <;> with_reducible rfl)
            try simp only [Act.put, List.setIfInBounds_toArray, List.set_cons_zero, List.set_cons_succ]
            refine wpAnyH_take (i := 4) (oi := { dst := some 57, op := Op.indexAddr 30 (Operand.tmp 55) (Operand.tmp 56), type := 0, pos := "outright.go:97", after := #[{ on := 2, ground := Ground.data }, { on := 3, ground := Ground.data }, { on := 1, ground := Ground.guard }], guard := some (1, false) }) (v := ?_) rfl (by kernel_rfl) (by kernel_rfl) (by kernel_rfl) (fun _ _ _ h => h) (Or.inl ⟨by rfl, ?_⟩) hHeld ?_
            rotate_left
            · (intro w hSw; (try dsimp only at hSw); go_simp <;> with_reducible rfl)
            try simp only [Act.put, List.setIfInBounds_toArray, List.set_cons_zero, List.set_cons_succ]
            refine wpAnyH_take (i := 5) (oi := { dst := some 58, op := Op.load 22 (Operand.tmp 57), type := 22, pos := "outright.go:97", after := #[{ on := 4, ground := Ground.data }, { on := 1, ground := Ground.guard }], guard := some (1, false) }) (v := ?_) rfl (by kernel_rfl) (by kernel_rfl) (by kernel_rfl) (fun _ _ _ h => h) (Or.inl ⟨by rfl, ?_⟩) hHeld ?_
            rotate_left
            · (intro w hSw; (try dsimp only at hSw); go_simp <;> with_reducible rfl)
            try simp only [Act.put, List.setIfInBounds_toArray, List.set_cons_zero, List.set_cons_succ]
            refine wpAnyH_take (i := 6) (oi := { dst := some 59, op := Op.move (Operand.tmp 6), type := 27, pos := "outright.go:97", after := #[{ on := 1, ground := Ground.guard }], guard := some (1, false) }) (v := ?_) rfl (by kernel_rfl) (by kernel_rfl) (by kernel_rfl) (fun _ _ _ h => h) (Or.inl ⟨by rfl, ?_⟩) hHeld ?_
            rotate_left
            · (intro w hSw; (try dsimp only at hSw); go_simp <;> with_reducible rfl)
            try simp only [Act.put, List.setIfInBounds_toArray, List.set_cons_zero, List.set_cons_succ]
            refine wpAnyH_take (i := 7) (oi := { dst := some 60, op := Op.move (Operand.tmp 9), type := 3, pos := "outright.go:97", after := #[{ on := 1, ground := Ground.guard }], guard := some (1, false) }) (v := ?_) rfl (by kernel_rfl) (by kernel_rfl) (by kernel_rfl) (fun _ _ _ h => h) (Or.inl ⟨by rfl, ?_⟩) hHeld ?_
            rotate_left
            · (intro w hSw; (try dsimp only at hSw); go_simp <;> with_reducible rfl)
            try simp only [Act.put, List.setIfInBounds_toArray, List.set_cons_zero, List.set_cons_succ]
            refine wpAnyH_take (i := 8) (oi := { dst := some 61, op := Op.indexAddr 27 (Operand.tmp 59) (Operand.tmp 60), type := 0, pos := "outright.go:97", after := #[{ on := 6, ground := Ground.data }, { on := 7, ground := Ground.data }, { on := 1, ground := Ground.guard }], guard := some (1, false) }) (v := ?_) rfl (by kernel_rfl) (by kernel_rfl) (by kernel_rfl) (fun _ _ _ h => h) (Or.inl ⟨by rfl, ?_⟩) hHeld ?_
            rotate_left
            · (intro w hSw; (try dsimp only at hSw); go_simp <;> with_reducible rfl)
            try simp only [Act.put, List.setIfInBounds_toArray, List.set_cons_zero, List.set_cons_succ]
            refine wpAnyH_take (i := 9) (oi := { dst := some 62, op := Op.load 3 (Operand.tmp 61), type := 3, pos := "outright.go:97", after := #[{ on := 8, ground := Ground.data }, { on := 1, ground := Ground.guard }], guard := some (1, false) }) (v := ?_) rfl (by kernel_rfl) (by kernel_rfl) (by kernel_rfl) (fun _ _ _ h => h) (Or.inl ⟨by rfl, ?_⟩) hHeld ?_
            rotate_left
            · (intro w hSw; (try dsimp only at hSw); go_simp <;> with_reducible rfl)
            try simp only [Act.put, List.setIfInBounds_toArray, List.set_cons_zero, List.set_cons_succ]
            refine wpAnyH_take (i := 11) (oi := { dst := some 64, op := Op.move (Operand.tmp 0), type := 30, pos := "outright.go:97", after := #[{ on := 1, ground := Ground.guard }], guard := some (1, false) }) (v := ?_) rfl (by kernel_rfl) (by kernel_rfl) (by kernel_rfl) (fun _ _ _ h => h) (Or.inl ⟨by rfl, ?_⟩) hHeld ?_
            rotate_left
            · (intro w hSw; (try dsimp only at hSw); go_simp <;> with_reducible rfl)
            try simp only [Act.put, List.setIfInBounds_toArray, List.set_cons_zero, List.set_cons_succ]
            refine wpAnyH_take (i := 12) (oi := { dst := some 65, op := Op.move (Operand.tmp 11), type := 3, pos := "outright.go:97", after := #[{ on := 1, ground := Ground.guard }], guard := some (1, false) }) (v := ?_) rfl (by kernel_rfl) (by kernel_rfl) (by kernel_rfl) (fun _ _ _ h => h) (Or.inl ⟨by rfl, ?_⟩) hHeld ?_
            rotate_left
            · (intro w hSw; (try dsimp only at hSw); go_simp <;> with_reducible rfl)
            try simp only [Act.put, List.setIfInBounds_toArray, List.set_cons_zero, List.set_cons_succ]
            refine wpAnyH_take (i := 13) (oi := { dst := some 66, op := Op.indexAddr 30 (Operand.tmp 64) (Operand.tmp 65), type := 0, pos := "outright.go:97", after := #[{ on := 11, ground := Ground.data }, { on := 12, ground := Ground.data }, { on := 1, ground := Ground.guard }], guard := some (1, false) }) (v := ?_) rfl (by kernel_rfl) (by kernel_rfl) (by kernel_rfl) (fun _ _ _ h => h) (Or.inl ⟨by rfl, ?_⟩) hHeld ?_
            rotate_left
            · (intro w hSw; (try dsimp only at hSw); go_simp <;> with_reducible rfl)
            try simp only [Act.put, List.setIfInBounds_toArray, List.set_cons_zero, List.set_cons_succ]
            refine wpAnyH_take (i := 14) (oi := { dst := some 67, op := Op.load 22 (Operand.tmp 66), type := 22, pos := "outright.go:97", after := #[{ on := 13, ground := Ground.data }, { on := 1, ground := Ground.guard }], guard := some (1, false) }) (v := ?_) rfl (by kernel_rfl) (by kernel_rfl) (by kernel_rfl) (fun _ _ _ h => h) (Or.inl ⟨by rfl, ?_⟩) hHeld ?_
            rotate_left
            · (intro w hSw; (try dsimp only at hSw); go_simp <;> with_reducible rfl)
            try simp only [Act.put, List.setIfInBounds_toArray, List.set_cons_zero, List.set_cons_succ]
            refine wpAnyH_take (i := 15) (oi := { dst := some 68, op := Op.move (Operand.tmp 6), type := 27, pos := "outright.go:97", after := #[{ on := 1, ground := Ground.guard }], guard := some (1, false) }) (v := ?_) rfl (by kernel_rfl) (by kernel_rfl) (by kernel_rfl) (fun _ _ _ h => h) (Or.inl ⟨by rfl, ?_⟩) hHeld ?_
            rotate_left
            · (intro w hSw; (try dsimp only at hSw); go_simp <;> with_reducible rfl)
            try simp only [Act.put, List.setIfInBounds_toArray, List.set_cons_zero, List.set_cons_succ]
            refine wpAnyH_take (i := 16) (oi := { dst := some 69, op := Op.move (Operand.tmp 9), type := 3, pos := "outright.go:97", after := #[{ on := 1, ground := Ground.guard }], guard := some (1, false) }) (v := ?_) rfl (by kernel_rfl) (by kernel_rfl) (by kernel_rfl) (fun _ _ _ h => h) (Or.inl ⟨by rfl, ?_⟩) hHeld ?_
            rotate_left
            · (intro w hSw; (try dsimp only at hSw); go_simp <;> with_reducible rfl)
            try simp only [Act.put, List.setIfInBounds_toArray, List.set_cons_zero, List.set_cons_succ]
            refine wpAnyH_take (i := 17) (oi := { dst := some 70, op := Op.indexAddr 27 (Operand.tmp 68) (Operand.tmp 69), type := 0, pos := "outright.go:97", after := #[{ on := 15, ground := Ground.data }, { on := 16, ground := Ground.data }, { on := 1, ground := Ground.guard }], guard := some (1, false) }) (v := ?_) rfl (by kernel_rfl) (by kernel_rfl) (by kernel_rfl) (fun _ _ _ h => h) (Or.inl ⟨by rfl, ?_⟩) hHeld ?_
            rotate_left
            · (intro w hSw; (try dsimp only at hSw); go_simp <;> with_reducible rfl)
            try simp only [Act.put, List.setIfInBounds_toArray, List.set_cons_zero, List.set_cons_succ]
            refine wpAnyH_take (i := 18) (oi := { dst := some 71, op := Op.load 3 (Operand.tmp 70), type := 3, pos := "outright.go:97", after := #[{ on := 17, ground := Ground.data }, { on := 1, ground := Ground.guard }], guard := some (1, false) }) (v := ?_) rfl (by kernel_rfl) (by kernel_rfl) (by kernel_rfl) (fun _ _ _ h => h) (Or.inl ⟨by rfl, ?_⟩) hHeld ?_
            rotate_left
            · (intro w hSw; (try dsimp only at hSw); go_simp <;> with_reducible rfl)
            try simp only [Act.put, List.setIfInBounds_toArray, List.set_cons_zero, List.set_cons_succ]
            refine wpAnyH_take (i := 19) (oi := { dst := some 72, op := Op.binOp BinOp.sub 3 (Operand.tmp 71) (Operand.const (Value.int IntKind.i64 1)) 3, type := 3, pos := "outright.go:97", after := #[{ on := 18, ground := Ground.data }, { on := 1, ground := Ground.guard }], guard := some (1, false) }) (v := ?_) rfl (by kernel_rfl) (by kernel_rfl) (by kernel_rfl) (fun _ _ _ h => h) (Or.inl ⟨by rfl, ?_⟩) hHeld ?_
            rotate_left
            · (intro w hSw; (try dsimp only at hSw); go_simp <;> with_reducible rfl)
            try simp only [Act.put, List.setIfInBounds_toArray, List.set_cons_zero, List.set_cons_succ]
            refine wpAnyH_ready (rs := [10]) (by kernel_rfl) (by simp) (AllReadyH.cons (o := { dst := some 63, op := Op.call { callee := Callee.value (Operand.func 25), args := #[Operand.tmp 58, Operand.tmp 62], argTypes := #[22, 3] }, type := 4, pos := "outright.go:97", after := #[{ on := 5, ground := Ground.data }, { on := 9, ground := Ground.data }, { on := 1, ground := Ground.chain }, { on := 1, ground := Ground.guard }], guard := some (1, false) }) rfl (fun K10 hK10 => ?_) AllReadyH.nil)
            go_simp
            refine (HX1.out _ hHeld.1).mono ?_
            rintro e w7 ⟨rfl, hq⟩
            refine hK10.out _ _ (HS.out _ (hHeld.1.trans (hq.mono hHeld.1.size))) (fun hH_10 => ?_)
            clear hq
            clear hK10 K10
            try simp only [Act.put, List.setIfInBounds_toArray, List.set_cons_zero, List.set_cons_succ]
            refine wpAnyH_ready (rs := [20]) (by kernel_rfl) (by simp) (AllReadyH.cons (o := { dst := some 73, op := Op.call { callee := Callee.value (Operand.func 25), args := #[Operand.tmp 67, Operand.tmp 72], argTypes := #[22, 3] }, type := 4, pos := "outright.go:97", after := #[{ on := 14, ground := Ground.data }, { on := 19, ground := Ground.data }, { on := 10, ground := Ground.chain }, { on := 1, ground := Ground.guard }], guard := some (1, false) }) rfl (fun K20 hK20 => ?_) AllReadyH.nil)
            go_simp
            refine (HX2.out _ hH_10.1).mono ?_
            rintro e w7 ⟨rfl, hq⟩
            refine hK20.out _ _ (HS.out _ (hH_10.1.trans (hq.mono hH_10.1.size))) (fun hH_20 => ?_)
            clear hq
            clear hK20 K20
            try simp only [Act.put, List.setIfInBounds_toArray, List.set_cons_zero, List.set_cons_succ]
            refine wpAnyH_take (i := 21) (oi := { dst := some 74, op := Op.binOp BinOp.neq 4 (Operand.tmp 63) (Operand.tmp 73) 4, type := 4, pos := "outright.go:97", after := #[{ on := 10, ground := Ground.data }, { on := 20, ground := Ground.data }, { on := 1, ground := Ground.guard }], guard := some (1, false) }) (v := ?_) rfl (by kernel_rfl) (by kernel_rfl) (by kernel_rfl) (fun _ _ _ h => h) (Or.inl ⟨by rfl, ?_⟩) hH_20 ?_
            rotate_left
            · (intro w hSw; (try dsimp only at hSw); go_simp <;> with_reducible rfl)
            try simp only [Act.put, List.setIfInBounds_toArray, List.set_cons_zero, List.set_cons_succ]
            refine wpAnyH_take (i := 22) (oi := { dst := some 75, op := Op.pick (Operand.tmp 54) (Operand.const (Value.bool true)) (Operand.tmp 74), type := 4, pos := "outright.go:97", after := #[{ on := 1, ground := Ground.data }, { on := 21, ground := Ground.data }], guard := none }) (v := ?_) rfl (by kernel_rfl) (by kernel_rfl) (by kernel_rfl) (fun _ _ _ h => h) (Or.inl ⟨by rfl, ?_⟩) hH_20 ?_
            rotate_left
            · (intro w hSw; (try dsimp only at hSw); go_simp <;> with_reducible rfl)
            try simp only [Act.put, List.setIfInBounds_toArray, List.set_cons_zero, List.set_cons_succ]
            refine wpAnyH_take (i := 23) (oi := { dst := some 10, op := Op.assign (Operand.tmp 75), type := 4, pos := "outright.go:97", after := #[{ on := 22, ground := Ground.data }, { on := 20, ground := Ground.chain }, { on := 0, ground := Ground.phase }, { on := 1, ground := Ground.phase }, { on := 2, ground := Ground.phase }, { on := 3, ground := Ground.phase }, { on := 4, ground := Ground.phase }, { on := 5, ground := Ground.phase }, { on := 6, ground := Ground.phase }, { on := 7, ground := Ground.phase }, { on := 8, ground := Ground.phase }, { on := 9, ground := Ground.phase }, { on := 10, ground := Ground.phase }, { on := 11, ground := Ground.phase }, { on := 12, ground := Ground.phase }, { on := 13, ground := Ground.phase }, { on := 14, ground := Ground.phase }, { on := 15, ground := Ground.phase }, { on := 16, ground := Ground.phase }, { on := 17, ground := Ground.phase }, { on := 18, ground := Ground.phase }, { on := 19, ground := Ground.phase }, { on := 20, ground := Ground.phase }, { on := 21, ground := Ground.phase }, { on := 22, ground := Ground.phase }], guard := none }) (v := ?_) rfl (by kernel_rfl) (by kernel_rfl) (by kernel_rfl) (fun _ _ _ h => h) (Or.inl ⟨by rfl, ?_⟩) hH_20 ?_
            rotate_left
            · (intro w hSw; (try dsimp only at hSw); go_simp <;> with_reducible rfl)
            try simp only [Act.put, List.setIfInBounds_toArray, List.set_cons_zero, List.set_cons_succ]
            refine wpAnyH_done (by kernel_rfl) ?_ _
            have hLast := Lib.hid hH_20.1
            clear HS
            go_wp2_with fail
            go_roundg (gk - 1)
            case measure => have := HKF.out; have := HKL2.out; omega
            case rel => exact ⟨k + 1, by rw [show ((k + 1 : Nat) : Int) = (k : Int) + 1 by omega], by have := HKL2.out; omega, by have := HKF.out; omega, by rw [HNX.out, ← hd]; cases p1 <;> cases p2 <;> rfl, HBK.out.trans (hLast.out.mono HBK.out.size)⟩
        · have e9 : k = m := by omega
          subst e9
          have HTB : Hid (t = true) := Lib.hid (by have h := hK.out.turn i HI1.out HKL.out; rw [← HX.out, ← hml.out] at h; exact ht.trans h)
          have htt := HTB.out
          subst htt
          have cx : wr.cell? ⟨q, oq + i, none⟩ = some (.int .i64 x) := (hkb.cell (p := ⟨q, _, none⟩) HBQ.out).trans HCX.out
          have cz : wr.cell? ⟨q, oq + (i - 1), none⟩ = some (.int .i64 z) := (hkb.cell (p := ⟨q, _, none⟩) HBQ.out).trans HCZ.out
          clear hkm hkf hkb ht hkl
          go_upto_region 18 with fail
          go_quiet (fail)
          clear hi2 hi3 hi4 hi5 hi6 hi7 hiw hzx hx2 hxw hx0 hx1
          go_upto_region 20 with fail
          generalize hW2 : wr.drewN nq = W2
          have cx2 : W2.cell? ⟨q, oq + i, none⟩ = some (.int .i64 x) := by rw [← hW2]; exact cx
          have BW2 : Hid (Below w2.heap.size w2 W2) := Lib.hid (by rw [← hW2]; exact below_drewN0 HBK.out _)
          clear hW2 cx cz
          by_cases hxn : x ≤ n
          · have HNX : Hid (x = fstK K n (i + 1)) := Lib.hid (by rw [fstK_succ HKL.out, ← HX.out, if_pos hxn])
            go_wp2_with fail
            go_roundg (gg - 1)
            case measure => have := HF.out; have := HLT.out; omega
            case rel => exact ⟨i + 1, x, by rw [show ((i + 1 : Nat) : Int) = (i : Int) + 1 by omega], by omega, by have := HLT.out; omega, by have := HF.out; omega, rfl, HNX.out, BW2.out⟩
          · have HNX : Hid (g = fstK K n (i + 1)) := Lib.hid (by rw [fstK_succ HKL.out, ← HX.out, if_neg hxn]; exact HG.out)
            go_wp2_with fail
            go_roundg (gg - 1)
            case measure => have := HF.out; have := HLT.out; omega
            case rel => exact ⟨i + 1, g, by rw [show ((i + 1 : Nat) : Int) = (i : Int) + 1 by omega], by omega, by have := HLT.out; omega, by have := HF.out; omega, rfl, HNX.out, BW2.out⟩
    · have e9 : i = N := by omega
      subst e9
      have HST : Hid (0 ≤ n → n ≤ 1114111 → ∀ k, k < S.length → hs (setAt S k) n = hs (setAt S k) g) := Lib.hid (by rw [hg, HN.out]; exact hK.out.still)
      clear hi1 hiN hf hb hg hlt hNp hNe c0 c0'
      go_wp2_with fail
      go_loopg [12] m (fun f v wr => ∃ k : Nat, v = .int .i64 (k : Nat) ∧ k ≤ m ∧ m - k ≤ f ∧ Below w2.heap.size w2 wr)
      case atStart => exact ⟨0, rfl, by omega, by omega, HB.out⟩
      case round =>
        obtain ⟨k, rfl, hkm, hkf, hkb⟩ := hrel
        have HBK := Lib.hid hkb
        have HKF := Lib.hid hkf
        have HEND := Lib.hid (B2.out.trans (hkb.mono B2.out.size))
        by_cases hkl : k < m
        · by_cases hn0 : 0 ≤ n
          · by_cases hn1 : n ≤ 1114111
            · obtain ⟨b, off, rfl, hbb, ad, cp, c1, hcp, hcm, hrv, hnn⟩ := HV2.out.at_ (i := k) (by rw [← hml.out]; exact hkl)
              obtain ⟨P, hP⟩ : ∃ P, P = setAt S k := ⟨_, rfl⟩
              rw [← hP] at c1 hrv hcp
              have hPm : P.length ≤ maxLen := Nat.le_trans hcp hcm
              have HH : Hid (∀ W, Below w2.heap.size w2 W → ∀ z, Calls Try.prog 25 #[.slice ad P.length cp, .int .i64 z] W fun e w' => e = .returned (.bool (hs P z)) ∧ Below W.heap.size W w') := Lib.hid (fun W hW z => has_any ad cp P z W (hrv.below hW) hPm)
              obtain ⟨ln, hln⟩ : ∃ n, n = P.length := ⟨_, rfl⟩
              rw [← hln] at c1 HH
              have HS : Hid (∀ w', Below wr.heap.size wr w' → (fun w' => Below wr.heap.size wr w' ∧ w'.cell? ⟨b, off + k, none⟩ = some (.slice ad ln cp)) w') := Lib.hid (fun w' hb => ⟨hb, ((hkb.trans (hb.mono hkb.size)).cell (p := ⟨b, _, none⟩) hbb).trans c1⟩)
              obtain ⟨p1, hp1⟩ : ∃ p, hs P n = p := ⟨_, rfl⟩
              have hp2 : hs P g = p1 := by rw [← hp1, hP]; exact (HST.out hn0 hn1 k (by rw [← hml.out]; exact hkl)).symm
              have HX1 : Hid (∀ W, Below wr.heap.size wr W → Calls Try.prog 25 #[.slice ad ln cp, .int .i64 n] W fun e w' => e = .returned (.bool p1) ∧ Below W.heap.size W w') := Lib.hid (fun W hW => by have h := HH.out W (hkb.trans (hW.mono hkb.size)) n; rw [hp1] at h; exact h)
              have HX2 : Hid (∀ W, Below wr.heap.size wr W → Calls Try.prog 25 #[.slice ad ln cp, .int .i64 g] W fun e w' => e = .returned (.bool p1) ∧ Below W.heap.size W w') := Lib.hid (fun W hW => by have h := HH.out W (hkb.trans (hW.mono hkb.size)) g; rw [hp2] at h; exact h)
              have hkl' : (k : Int) < (m : Int) := by omega
              have hkbig : (k : Int) + 1 ≤ 9223372036854775807 := by omega
              have HKL2 := Lib.hid hkl
              have hd : (p1 != p1) = false := by simp
              clear hkm hkf hkb hkl hbb c1 hcp hcm hrv hnn hP hPm hln hp1 hp2
              go_upto_region 25 with fail
              refine wp_region_held_drew (S := (fun w' => Below wr.heap.size wr w' ∧ w'.cell? ⟨b, off + k, none⟩ = some (.slice ad ln cp))) (by kernel_rfl) (HS.out _ ((Below.refl _ _).drew)) (fun hHeld => ?_)
              refine wpAnyH_take (i := 0) (oi := { dst := some 121, op := Op.move (Operand.tmp 0), type := 30, pos := "outright.go:107", after := #[], guard := none }) (v := ?_) rfl (by kernel_rfl) (by kernel_rfl) (by kernel_rfl) (fun _ _ _ h => h) (Or.inl ⟨by rfl, ?_⟩) hHeld ?_
              rotate_left
              · (intro w hSw; (try dsimp only at hSw); go_simp <;> with_reducible rfl)
              try simp only [Act.put, List.setIfInBounds_toArray, List.set_cons_zero, List.set_cons_succ]
              refine wpAnyH_take (i := 1) (oi := { dst := some 122, op := Op.move (Operand.tmp 12), type := 3, pos := "outright.go:107", after := #[], guard := none }) (v := ?_) rfl (by kernel_rfl) (by kernel_rfl) (by kernel_rfl) (fun _ _ _ h => h) (Or.inl ⟨by rfl, ?_⟩) hHeld ?_
              rotate_left
              · (intro w hSw; (try dsimp only at hSw); go_simp <;> with_reducible rfl)
              try simp only [Act.put, List.setIfInBounds_toArray, List.set_cons_zero, List.set_cons_succ]
              refine wpAnyH_take (i := 2) (oi := { dst := some 123, op := Op.indexAddr 30 (Operand.tmp 121) (Operand.tmp 122), type := 0, pos := "outright.go:107", after := #[{ on := 0, ground := Ground.data }, { on := 1, ground := Ground.data }], guard := none }) (v := ?_) rfl (by kernel_rfl) (by kernel_rfl) (by kernel_rfl) (fun _ _ _ h => h) (Or.inl ⟨by rfl, ?_⟩) hHeld ?_
              rotate_left
              · (intro w hSw; (try dsimp only at hSw); go_simp <;> with_reducible rfl)
              try simp only [Act.put, List.setIfInBounds_toArray, List.set_cons_zero, List.set_cons_succ]
              refine wpAnyH_take (i := 3) (oi := { dst := some 124, op := Op.load 22 (Operand.tmp 123), type := 22, pos := "outright.go:107", after := #[{ on := 2, ground := Ground.data }], guard := none }) (v := ?_) rfl (by kernel_rfl) (by kernel_rfl) (by kernel_rfl) (fun _ _ _ h => h) (Or.inl ⟨by rfl, ?_⟩) hHeld ?_
              rotate_left
              · (intro w hSw; (try dsimp only at hSw); go_simp <;> with_reducible rfl)
              try simp only [Act.put, List.setIfInBounds_toArray, List.set_cons_zero, List.set_cons_succ]
              refine wpAnyH_take (i := 4) (oi := { dst := some 125, op := Op.move (Operand.tmp 1), type := 3, pos := "outright.go:107", after := #[], guard := none }) (v := ?_) rfl (by kernel_rfl) (by kernel_rfl) (by kernel_rfl) (fun _ _ _ h => h) (Or.inl ⟨by rfl, ?_⟩) hHeld ?_
              rotate_left
              · (intro w hSw; (try dsimp only at hSw); go_simp <;> with_reducible rfl)
              try simp only [Act.put, List.setIfInBounds_toArray, List.set_cons_zero, List.set_cons_succ]
              refine wpAnyH_take (i := 6) (oi := { dst := some 127, op := Op.move (Operand.tmp 0), type := 30, pos := "outright.go:107", after := #[], guard := none }) (v := ?_) rfl (by kernel_rfl) (by kernel_rfl) (by kernel_rfl) (fun _ _ _ h => h) (Or.inl ⟨by rfl, ?_⟩) hHeld ?_
              rotate_left
              · (intro w hSw; (try dsimp only at hSw); go_simp <;> with_reducible rfl)
              try simp only [Act.put, List.setIfInBounds_toArray, List.set_cons_zero, List.set_cons_succ]
              refine wpAnyH_take (i := 7) (oi := { dst := some 128, op := Op.move (Operand.tmp 12), type := 3, pos := "outright.go:107", after := #[], guard := none }) (v := ?_) rfl (by kernel_rfl) (by kernel_rfl) (by kernel_rfl) (fun _ _ _ h => h) (Or.inl ⟨by rfl, ?_⟩) hHeld ?_
              rotate_left
              · (intro w hSw; (try dsimp only at hSw); go_simp <;> with_reducible rfl)
              try simp only [Act.put, List.setIfInBounds_toArray, List.set_cons_zero, List.set_cons_succ]
              refine wpAnyH_take (i := 8) (oi := { dst := some 129, op := Op.indexAddr 30 (Operand.tmp 127) (Operand.tmp 128), type := 0, pos := "outright.go:107", after := #[{ on := 6, ground := Ground.data }, { on := 7, ground := Ground.data }], guard := none }) (v := ?_) rfl (by kernel_rfl) (by kernel_rfl) (by kernel_rfl) (fun _ _ _ h => h) (Or.inl ⟨by rfl, ?_⟩) hHeld ?_
              rotate_left
              · (intro w hSw; (try dsimp only at hSw); go_simp <;> with_reducible rfl)
              try simp only [Act.put, List.setIfInBounds_toArray, List.set_cons_zero, List.set_cons_succ]
              refine wpAnyH_take (i := 9) (oi := { dst := some 130, op := Op.load 22 (Operand.tmp 129), type := 22, pos := "outright.go:107", after := #[{ on := 8, ground := Ground.data }], guard := none }) (v := ?_) rfl (by kernel_rfl) (by kernel_rfl) (by kernel_rfl) (fun _ _ _ h => h) (Or.inl ⟨by rfl, ?_⟩) hHeld ?_
              rotate_left
              · (intro w hSw; (try dsimp only at hSw); go_simp <;> with_reducible rfl)
              try simp only [Act.put, List.setIfInBounds_toArray, List.set_cons_zero, List.set_cons_succ]
              refine wpAnyH_take (i := 10) (oi := { dst := some 131, op := Op.move (Operand.tmp 8), type := 3, pos := "outright.go:107", after := #[], guard := none }) (v := ?_) rfl (by kernel_rfl) (by kernel_rfl) (by kernel_rfl) (fun _ _ _ h => h) (Or.inl ⟨by rfl, ?_⟩) hHeld ?_
              rotate_left
              · (intro w hSw; (try dsimp only at hSw); go_simp <;> with_reducible rfl)
              try simp only [Act.put, List.setIfInBounds_toArray, List.set_cons_zero, List.set_cons_succ]
              refine wpAnyH_ready (rs := [5]) (by kernel_rfl) (by simp) (AllReadyH.cons (o := { dst := some 126, op := Op.call { callee := Callee.value (Operand.func 25), args := #[Operand.tmp 124, Operand.tmp 125], argTypes := #[22, 3] }, type := 4, pos := "outright.go:107", after := #[{ on := 3, ground := Ground.data }, { on := 4, ground := Ground.data }], guard := none }) rfl (fun K5 hK5 => ?_) AllReadyH.nil)
              go_simp
              refine (HX1.out _ hHeld.1).mono ?_
              rintro e w7 ⟨rfl, hq⟩
              refine hK5.out _ _ (HS.out _ (hHeld.1.trans (hq.mono hHeld.1.size))) (fun hH_5 => ?_)
              clear hq
              clear hK5 K5
              try simp only [Act.put, List.setIfInBounds_toArray, List.set_cons_zero, List.set_cons_succ]
              refine wpAnyH_ready (rs := [11]) (by kernel_rfl) (by simp) (AllReadyH.cons (o := { dst := some 132, op := Op.call { callee := Callee.value (Operand.func 25), args := #[Operand.tmp 130, Operand.tmp 131], argTypes := #[22, 3] }, type := 4, pos := "outright.go:107", after := #[{ on := 9, ground := Ground.data }, { on := 10, ground := Ground.data }, { on := 5, ground := Ground.chain }], guard := none }) rfl (fun K11 hK11 => ?_) AllReadyH.nil)
              go_simp
              refine (HX2.out _ hH_5.1).mono ?_
              rintro e w7 ⟨rfl, hq⟩
              refine hK11.out _ _ (HS.out _ (hH_5.1.trans (hq.mono hH_5.1.size))) (fun hH_11 => ?_)
              clear hq
              clear hK11 K11
              try simp only [Act.put, List.setIfInBounds_toArray, List.set_cons_zero, List.set_cons_succ]
              refine wpAnyH_take (i := 12) (oi := { dst := some 133, op := Op.binOp BinOp.neq 4 (Operand.tmp 126) (Operand.tmp 132) 4, type := 4, pos := "outright.go:107", after := #[{ on := 5, ground := Ground.data }, { on := 11, ground := Ground.data }], guard := none }) (v := ?_) rfl (by kernel_rfl) (by kernel_rfl) (by kernel_rfl) (fun _ _ _ h => h) (Or.inl ⟨by rfl, ?_⟩) hH_11 ?_
              rotate_left
              · (intro w hSw; (try dsimp only at hSw); go_simp <;> with_reducible rfl)
              try simp only [Act.put, List.setIfInBounds_toArray, List.set_cons_zero, List.set_cons_succ]
              refine wpAnyH_done (by kernel_rfl) ?_ _
              have hLast := Lib.hid hH_11.1
              clear HS
              go_wp2_with fail
              go_roundg (gk - 1)
              case measure => have := HKF.out; have := HKL2.out; omega
              case rel => exact ⟨k + 1, by rw [show ((k + 1 : Nat) : Int) = (k : Int) + 1 by omega], by have := HKL2.out; omega, by have := HKF.out; omega, HBK.out.trans (hLast.out.mono HBK.out.size)⟩
            · have hkl' : (k : Int) < (m : Int) := by omega
              clear hkm hkf hkb hkl
              go_wp2_with fail
              go_ret
              exact ⟨rfl, HEND.out⟩
          · have hkl' : (k : Int) < (m : Int) := by omega
            clear hkm hkf hkb hkl
            go_wp2_with fail
            go_ret
            exact ⟨rfl, HEND.out⟩
        · have e9 : k = m := by omega
          subst e9
          clear hkm hkf hkb hkl
          go_wp2_with fail
          go_ret
          exact ⟨rfl, HEND.out⟩
theorem rcl_all (a : Option Addr) (c : Nat) (S : List (List Rg)) (n : Int) (w : World) (hv : SV w a S) :
    Calls Try.prog 8 #[.slice a S.length c, .int .i64 n] w fun e w' => e = .returned (.bool true) ∧ Below w.heap.size w w' := by
  by_cases h : 20 < S.length
  · exact rcl_big a c _ S n w (Lib.hid hv) (Lib.hid rfl) (by omega)
  cases hck : S.all ckL with
  | false => exact rcl_bad a c _ S n w (Lib.hid hv) (Lib.hid rfl) (by omega) (Lib.hid (k_bad (by omega) hck))
  | true =>
    obtain ⟨k1, k2⟩ := k_ok (n := n) (by omega) (by omega) hck
    exact rcl_ok a c _ S n w (Lib.hid hv) (Lib.hid rfl) (by omega) _ (Lib.hid k1) (Lib.hid k2) (Lib.hid (fun L hL => (ck_cn (List.all_eq_true.1 hck L hL)).1))
end Go.Proofs.Ytlngdohkoeognaa

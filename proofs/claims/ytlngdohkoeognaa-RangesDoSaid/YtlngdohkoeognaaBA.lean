/- Layer 6: the document's Turns. -/
import Derived.Test.YtlngdohkoeognaaB9
namespace Go.Proofs.Ytlngdohkoeognaa
open Go.RowKit Go.Maps
def tr (S : List (List Rg)) (k : Nat) (x : Int) : Bool := (S.take k).any fun L => hs L x != hs L (x - 1)
theorem tr_next {S : List (List Rg)} {k : Nat} (h : k < S.length) (x : Int) : tr S (k + 1) x = (tr S k x || (hs (setAt S k) x != hs (setAt S k) (x - 1))) := by
  unfold tr
  rw [List.take_add_one, set_get h, List.any_append]
  simp
theorem tr_all (S : List (List Rg)) (x : Int) : tr S S.length x = trnB S x := by unfold tr trnB; rw [List.take_length]
/-- What is out when i places have been looked at. -/
def outL (S : List (List Rg)) (L : List Int) (i : Nat) : List Int := 0 :: ((L.take i).drop 1).filter (trnB S)
theorem out_next {S : List (List Rg)} {L : List Int} {i : Nat} (h0 : 0 < i) (h : i < L.length) : outL S L (i + 1) = outL S L i ++ (if trnB S (gI L i) then [gI L i] else []) := by
  unfold outL
  have e : (L.take (i + 1)).drop 1 = (L.take i).drop 1 ++ [gI L i] := by
    rw [List.take_add_one, gI_get h, List.drop_append_of_le_length (by simp; omega)]
    rfl
  rw [e, List.filter_append]
  by_cases ht : trnB S (gI L i) = true
  · rw [if_pos ht]; simp [ht]
  · rw [if_neg ht]; simp [ht]
theorem out_end {S : List (List Rg)} {L l : List Int} (h : L = 0 :: l) : outL S L L.length = 0 :: l.filter (trnB S) := by
  unfold outL
  rw [List.take_length, h]
  rfl
theorem out_len (S : List (List Rg)) (L : List Int) (i : Nat) : (outL S L i).length ≤ 1 + L.length := by
  unfold outL
  have h1 := List.length_filter_le (trnB S) ((L.take i).drop 1)
  have h2 : ((L.take i).drop 1).length ≤ L.length := by simp; omega
  simp only [List.length_cons]
  omega
set_option maxRecDepth 20000 in
set_option maxHeartbeats 2000000 in
theorem turns_any (a : Option Addr) (c : Nat) (S : List (List Rg)) (w : World) (hv : SV w a S) (hS : S.length ≤ 300) (h256 : ∀ L ∈ S, L.length ≤ 256) (hcn : ∀ L ∈ S, Cn 0 L) :
    Calls Try.prog 48 #[.slice a S.length c] w (PlacePost w (trnL S)) := by
  have hrng : ∀ L ∈ S, ∀ r ∈ L, okR r = true := fun L hL => cn_ok (Int.le_refl 0) (hcn L hL)
  have HPL := Lib.hid (places_any a c S w hv hS h256 (fun L hL r hr => by have := okR_iff.1 (hrng L hL r hr); omega))
  have hflat : ∀ r ∈ S.flatten, okR r = true := fun r hr => by
    obtain ⟨L, hL, hr⟩ := List.mem_flatten.1 hr
    exact hrng L hL r hr
  obtain ⟨i0, hi, hz0, hz1, hz2⟩ := infoI
  obtain ⟨L, hL⟩ : ∃ L, L = plcL S.flatten := ⟨_, rfl⟩
  have hLl : L.length ≤ 154113 := by
    rw [hL]
    have h1 := plc_len S.flatten
    have h2 := flatten_len S h256
    omega
  obtain ⟨l, hl⟩ := plc_zero S.flatten hflat
  rw [← hL] at hl HPL
  have hTR : trnL S = 0 :: l.filter (trnB S) := by unfold trnL; rw [← hL, hl]
  have hbnd : ∀ j, j < L.length → 0 ≤ gI L j ∧ gI L j ≤ 1114111 := fun j hj => by
    have hm := gI_mem hj
    rw [hL, (plc_ok S.flatten hflat).2.1] at hm
    rw [← hL] at hm
    rcases hm with h | ⟨r, hr, h⟩
    · omega
    · have := okR_iff.1 (hflat r hr)
      omega
  obtain ⟨R, hR⟩ : ∃ R, R = trnL S := ⟨_, rfl⟩
  rw [← hR]
  have HRE : Hid (R = outL S L L.length) := Lib.hid (by rw [hR, hTR, out_end hl])
  have HBND := Lib.hid hbnd
  have HLL := Lib.hid hLl
  obtain ⟨m, hml⟩ : ∃ m, m = S.length := ⟨_, rfl⟩
  rw [← hml] at HPL ⊢
  have HM := Lib.hid hml
  have HV := Lib.hid hv
  have H256 := Lib.hid h256
  have hmi : (m : Int) ≤ 300 := by omega
  have HLN : Hid (0 < L.length) := Lib.hid (by rw [hl]; simp)
  clear hml hv h256 hS hcn hrng hflat hL hLl hl hTR hbnd hR
  go_enter Try.func48, Try.ntmps48
  go_wp2_with fail
  refine HPL.out.mono ?_
  rintro e w1 ⟨vl, rfl, ol, b1⟩
  obtain ⟨q, cap, rfl⟩ := own_slice ol HLN.out
  obtain ⟨adl, capl, e1, hlc, hiv, _⟩ := ol.view
  simp only [Value.slice.injEq, true_and] at e1
  obtain ⟨rfl, rfl⟩ := e1
  have HIV := Lib.hid hiv
  have HB1 := Lib.hid b1
  have HV1 := Lib.hid (HV.out.below b1)
  obtain ⟨N, hN⟩ : ∃ N, N = L.length := ⟨_, rfl⟩
  have HN := Lib.hid hN
  rw [← hN]
  have hNi : (N : Int) ≤ 154113 := by have := HLL.out; omega
  clear ol b1 hlc hiv hN HPL
  go_wp2_with fail
  have Z0 : Hid (OwnI (w1.alloc (.cells #[.int .i64 0] 3)) w1.heap.size (.slice (some ⟨w1.heap.size, 0, none⟩) 1 1) (outL S L 1)) := Lib.hid (by
    have e : outL S L 1 = [0] := by
      unfold outL
      rw [List.drop_eq_nil_of_le (by simp; omega)]
      rfl
    rw [e]
    exact zero_own w1)
  have B0 := Lib.hid ((Below.refl w1.heap.size w1).alloc (Nat.le_refl _) (.cells #[.int .i64 0] 3))
  go_loopg [4, 5] N (fun f u v wr => ∃ i : Nat, v = .int .i64 (i : Nat) ∧ 1 ≤ i ∧ i ≤ N ∧ N - i ≤ f ∧ OwnI wr w1.heap.size u (outL S L i) ∧ Below w1.heap.size w1 wr)
  case atStart => exact ⟨1, rfl, by omega, by have := HLN.out; have := HN.out; omega, by omega, Z0.out, B0.out⟩
  case round =>
    obtain ⟨i, rfl, hi1, hiN, hf, ho, hb⟩ := hrel
    have HO := Lib.hid ho
    have HB := Lib.hid hb
    have HF := Lib.hid hf
    have HI1 := Lib.hid hi1
    by_cases hlt : i < N
    · obtain ⟨gg, rfl⟩ : ∃ g, g = gk := ⟨_, rfl⟩
      obtain ⟨hbl, cx⟩ := HIV.out.at_ (i := i) (by rw [← HN.out]; exact hlt)
      obtain ⟨x, hx⟩ : ∃ x, x = gI L i := ⟨_, rfl⟩
      rw [← hx] at cx
      have HX := Lib.hid hx
      have HBL := Lib.hid hbl
      have HCX := Lib.hid cx
      have hxb := HBND.out i (by rw [← HN.out]; exact hlt)
      rw [← hx] at hxb
      have hx0 : 0 ≤ x := hxb.1
      have hx1 : x ≤ 1114111 := hxb.2
      have hlt' : (i : Int) < (N : Int) := by omega
      have hbig : (i : Int) + 1 ≤ 9223372036854775807 := by omega
      have HLT := Lib.hid hlt
      have hxw : IntKind.i64.wrap (x - 1) = x - 1 := IntWalk.i64_in _ (by omega)
      clear hi1 hiN hf ho hb hbl hx hxb hlt cx
      go_wp2_with fail
      go_loopg [6, 7] m (fun f u v wr => ∃ k : Nat, v = .int .i64 (k : Nat) ∧ k ≤ m ∧ m - k ≤ f ∧ u = .bool (tr S k x) ∧ OwnI wr w1.heap.size u4 (outL S L i) ∧ Below w1.heap.size w1 wr)
      case atStart => exact ⟨0, rfl, by omega, by omega, rfl, HO.out, HB.out⟩
      case round =>
        obtain ⟨k, rfl, hkm, hkf, rfl, hko, hkb⟩ := hrel
        have HOI := Lib.hid hko
        have HBK := Lib.hid hkb
        have HKF := Lib.hid hkf
        obtain ⟨t, ht⟩ : ∃ t, t = tr S k x := ⟨_, rfl⟩
        rw [← ht]
        have HT := Lib.hid ht
        by_cases hkl : k < m
        · obtain ⟨b, off, rfl, hbb, ad, cp, c0, hcp, hcm, hrv, hnn⟩ := HV1.out.at_ (i := k) (by rw [← HM.out]; exact hkl)
          obtain ⟨P, hP⟩ : ∃ P, P = setAt S k := ⟨_, rfl⟩
          rw [← hP] at c0 hrv hcp
          have hPm : P.length ≤ maxLen := Nat.le_trans hcp hcm
          have HH : Hid (∀ W, Below w1.heap.size w1 W → ∀ z, Calls Try.prog 26 #[.slice ad P.length cp, .int .i64 z] W fun e w' => e = .returned (.bool (hs P z)) ∧ W = w') := Lib.hid (fun W hW z => rhas_any ad cp P z W (hrv.below hW) hPm)
          obtain ⟨n, hn⟩ : ∃ n, n = P.length := ⟨_, rfl⟩
          rw [← hn] at c0 HH
          have HS : Hid (∀ w', Below wr.heap.size wr w' → (fun w' => Below wr.heap.size wr w' ∧ w'.cell? ⟨b, off + k, none⟩ = some (.slice ad n cp) ∧ w'.cell? ⟨q, i, none⟩ = some (.int .i64 x)) w') := Lib.hid (fun w' hb => ⟨hb, ((hkb.trans (hb.mono hkb.size)).cell (p := ⟨b, _, none⟩) hbb).trans c0, ((hkb.trans (hb.mono hkb.size)).cell (p := ⟨q, _, none⟩) HBL.out).trans (by have h := HCX.out; rwa [Nat.zero_add] at h)⟩)
          have hkl' : (k : Int) < (m : Int) := by omega
          have hkbig : (k : Int) + 1 ≤ 9223372036854775807 := by omega
          have HKL := Lib.hid hkl
          have HNXT : Hid (tr S (k + 1) x = (t || (hs P x != hs P (x - 1)))) := Lib.hid (by rw [tr_next (by rw [← HM.out]; exact hkl), hP, ht])
          clear hkm hkf hko hkb ht hkl hbb c0 hcp hcm hrv hnn hP hPm hn
          cases t with
          | true =>
            have HNX : Hid (tr S (k + 1) x = true) := Lib.hid (by rw [HNXT.out]; rfl)
            go_upto_region 10 with fail
            refine wp_region_held_drew (S := (fun w' => Below wr.heap.size wr w' ∧ w'.cell? ⟨b, off + k, none⟩ = some (.slice ad n cp) ∧ w'.cell? ⟨q, i, none⟩ = some (.int .i64 x))) (by kernel_rfl) (HS.out _ ((Below.refl _ _).drew)) (fun hHeld => ?_)
            refine wpAnyH_take (i := 0) (oi := { dst := some 23, op := Op.move (Operand.tmp 6), type := 4, pos := "ref.go:176", after := #[], guard := none }) (v := ?_) rfl (by kernel_rfl) (by kernel_rfl) (by kernel_rfl) (fun _ _ _ h => h) (Or.inl ⟨by rfl, ?_⟩) hHeld ?_
            rotate_left
            · (intro w hSw; (try dsimp only at hSw); go_simp <;> with_reducible rfl)
            try simp only [Act.put, List.setIfInBounds_toArray, List.set_cons_zero, List.set_cons_succ]
            refine wpAnyH_take (i := 1) (oi := { dst := some 24, op := Op.move (Operand.tmp 23), type := 4, pos := "ref.go:176", after := #[{ on := 0, ground := Ground.data }], guard := none }) (v := ?_) rfl (by kernel_rfl) (by kernel_rfl) (by kernel_rfl) (fun _ _ _ h => h) (Or.inl ⟨by rfl, ?_⟩) hHeld ?_
            rotate_left
            · (intro w hSw; (try dsimp only at hSw); go_simp <;> with_reducible rfl)
            try simp only [Act.put, List.setIfInBounds_toArray, List.set_cons_zero, List.set_cons_succ]
            refine wpAnyH_take (i := 2) (oi := { dst := some 25, op := Op.move (Operand.tmp 0), type := 30, pos := "ref.go:176", after := #[{ on := 1, ground := Ground.guard }], guard := some (1, false) }) (v := undef) rfl (by kernel_rfl) (by kernel_rfl) (by kernel_rfl) (fun _ _ _ h => h) (Or.inr ⟨by rfl, rfl⟩) hHeld ?_
            try simp only [Act.put, List.setIfInBounds_toArray, List.set_cons_zero, List.set_cons_succ]
            refine wpAnyH_take (i := 3) (oi := { dst := some 26, op := Op.move (Operand.tmp 7), type := 3, pos := "ref.go:176", after := #[{ on := 1, ground := Ground.guard }], guard := some (1, false) }) (v := undef) rfl (by kernel_rfl) (by kernel_rfl) (by kernel_rfl) (fun _ _ _ h => h) (Or.inr ⟨by rfl, rfl⟩) hHeld ?_
            try simp only [Act.put, List.setIfInBounds_toArray, List.set_cons_zero, List.set_cons_succ]
            refine wpAnyH_take (i := 4) (oi := { dst := some 27, op := Op.indexAddr 30 (Operand.tmp 25) (Operand.tmp 26), type := 0, pos := "ref.go:176", after := #[{ on := 2, ground := Ground.data }, { on := 3, ground := Ground.data }, { on := 1, ground := Ground.guard }], guard := some (1, false) }) (v := undef) rfl (by kernel_rfl) (by kernel_rfl) (by kernel_rfl) (fun _ _ _ h => h) (Or.inr ⟨by rfl, rfl⟩) hHeld ?_
            try simp only [Act.put, List.setIfInBounds_toArray, List.set_cons_zero, List.set_cons_succ]
            refine wpAnyH_take (i := 5) (oi := { dst := some 28, op := Op.load 22 (Operand.tmp 27), type := 22, pos := "ref.go:176", after := #[{ on := 4, ground := Ground.data }, { on := 1, ground := Ground.guard }], guard := some (1, false) }) (v := undef) rfl (by kernel_rfl) (by kernel_rfl) (by kernel_rfl) (fun _ _ _ h => h) (Or.inr ⟨by rfl, rfl⟩) hHeld ?_
            try simp only [Act.put, List.setIfInBounds_toArray, List.set_cons_zero, List.set_cons_succ]
            refine wpAnyH_take (i := 6) (oi := { dst := some 29, op := Op.move (Operand.tmp 3), type := 27, pos := "ref.go:176", after := #[{ on := 1, ground := Ground.guard }], guard := some (1, false) }) (v := undef) rfl (by kernel_rfl) (by kernel_rfl) (by kernel_rfl) (fun _ _ _ h => h) (Or.inr ⟨by rfl, rfl⟩) hHeld ?_
            try simp only [Act.put, List.setIfInBounds_toArray, List.set_cons_zero, List.set_cons_succ]
            refine wpAnyH_take (i := 7) (oi := { dst := some 30, op := Op.move (Operand.tmp 5), type := 3, pos := "ref.go:176", after := #[{ on := 1, ground := Ground.guard }], guard := some (1, false) }) (v := undef) rfl (by kernel_rfl) (by kernel_rfl) (by kernel_rfl) (fun _ _ _ h => h) (Or.inr ⟨by rfl, rfl⟩) hHeld ?_
            try simp only [Act.put, List.setIfInBounds_toArray, List.set_cons_zero, List.set_cons_succ]
            refine wpAnyH_take (i := 8) (oi := { dst := some 31, op := Op.indexAddr 27 (Operand.tmp 29) (Operand.tmp 30), type := 0, pos := "ref.go:176", after := #[{ on := 6, ground := Ground.data }, { on := 7, ground := Ground.data }, { on := 1, ground := Ground.guard }], guard := some (1, false) }) (v := undef) rfl (by kernel_rfl) (by kernel_rfl) (by kernel_rfl) (fun _ _ _ h => h) (Or.inr ⟨by rfl, rfl⟩) hHeld ?_
            try simp only [Act.put, List.setIfInBounds_toArray, List.set_cons_zero, List.set_cons_succ]
            refine wpAnyH_take (i := 9) (oi := { dst := some 32, op := Op.load 3 (Operand.tmp 31), type := 3, pos := "ref.go:176", after := #[{ on := 8, ground := Ground.data }, { on := 1, ground := Ground.guard }], guard := some (1, false) }) (v := undef) rfl (by kernel_rfl) (by kernel_rfl) (by kernel_rfl) (fun _ _ _ h => h) (Or.inr ⟨by rfl, rfl⟩) hHeld ?_
            try simp only [Act.put, List.setIfInBounds_toArray, List.set_cons_zero, List.set_cons_succ]
            refine wpAnyH_take (i := 10) (oi := { dst := some 33, op := Op.call { callee := Callee.value (Operand.func 26), args := #[Operand.tmp 28, Operand.tmp 32], argTypes := #[22, 3] }, type := 4, pos := "ref.go:176", after := #[{ on := 5, ground := Ground.data }, { on := 9, ground := Ground.data }, { on := 1, ground := Ground.chain }, { on := 1, ground := Ground.guard }], guard := some (1, false) }) (v := undef) rfl (by kernel_rfl) (by kernel_rfl) (by kernel_rfl) (fun _ _ _ h => h) (Or.inr ⟨by rfl, rfl⟩) hHeld ?_
            try simp only [Act.put, List.setIfInBounds_toArray, List.set_cons_zero, List.set_cons_succ]
            refine wpAnyH_take (i := 11) (oi := { dst := some 34, op := Op.move (Operand.tmp 0), type := 30, pos := "ref.go:176", after := #[{ on := 1, ground := Ground.guard }], guard := some (1, false) }) (v := undef) rfl (by kernel_rfl) (by kernel_rfl) (by kernel_rfl) (fun _ _ _ h => h) (Or.inr ⟨by rfl, rfl⟩) hHeld ?_
            try simp only [Act.put, List.setIfInBounds_toArray, List.set_cons_zero, List.set_cons_succ]
            refine wpAnyH_take (i := 12) (oi := { dst := some 35, op := Op.move (Operand.tmp 7), type := 3, pos := "ref.go:176", after := #[{ on := 1, ground := Ground.guard }], guard := some (1, false) }) (v := undef) rfl (by kernel_rfl) (by kernel_rfl) (by kernel_rfl) (fun _ _ _ h => h) (Or.inr ⟨by rfl, rfl⟩) hHeld ?_
            try simp only [Act.put, List.setIfInBounds_toArray, List.set_cons_zero, List.set_cons_succ]
            refine wpAnyH_take (i := 13) (oi := { dst := some 36, op := Op.indexAddr 30 (Operand.tmp 34) (Operand.tmp 35), type := 0, pos := "ref.go:176", after := #[{ on := 11, ground := Ground.data }, { on := 12, ground := Ground.data }, { on := 1, ground := Ground.guard }], guard := some (1, false) }) (v := undef) rfl (by kernel_rfl) (by kernel_rfl) (by kernel_rfl) (fun _ _ _ h => h) (Or.inr ⟨by rfl, rfl⟩) hHeld ?_
            try simp only [Act.put, List.setIfInBounds_toArray, List.set_cons_zero, List.set_cons_succ]
            refine wpAnyH_take (i := 14) (oi := { dst := some 37, op := Op.load 22 (Operand.tmp 36), type := 22, pos := "ref.go:176", after := #[{ on := 13, ground := Ground.data }, { on := 1, ground := Ground.guard }], guard := some (1, false) }) (v := undef) rfl (by kernel_rfl) (by kernel_rfl) (by kernel_rfl) (fun _ _ _ h => h) (Or.inr ⟨by rfl, rfl⟩) hHeld ?_
            try simp only [Act.put, List.setIfInBounds_toArray, List.set_cons_zero, List.set_cons_succ]
            refine wpAnyH_take (i := 15) (oi := { dst := some 38, op := Op.move (Operand.tmp 3), type := 27, pos := "ref.go:176", after := #[{ on := 1, ground := Ground.guard }], guard := some (1, false) }) (v := undef) rfl (by kernel_rfl) (by kernel_rfl) (by kernel_rfl) (fun _ _ _ h => h) (Or.inr ⟨by rfl, rfl⟩) hHeld ?_
            try simp only [Act.put, List.setIfInBounds_toArray, List.set_cons_zero, List.set_cons_succ]
            refine wpAnyH_take (i := 16) (oi := { dst := some 39, op := Op.move (Operand.tmp 5), type := 3, pos := "ref.go:176", after := #[{ on := 1, ground := Ground.guard }], guard := some (1, false) }) (v := undef) rfl (by kernel_rfl) (by kernel_rfl) (by kernel_rfl) (fun _ _ _ h => h) (Or.inr ⟨by rfl, rfl⟩) hHeld ?_
            try simp only [Act.put, List.setIfInBounds_toArray, List.set_cons_zero, List.set_cons_succ]
            refine wpAnyH_take (i := 17) (oi := { dst := some 40, op := Op.indexAddr 27 (Operand.tmp 38) (Operand.tmp 39), type := 0, pos := "ref.go:176", after := #[{ on := 15, ground := Ground.data }, { on := 16, ground := Ground.data }, { on := 1, ground := Ground.guard }], guard := some (1, false) }) (v := undef) rfl (by kernel_rfl) (by kernel_rfl) (by kernel_rfl) (fun _ _ _ h => h) (Or.inr ⟨by rfl, rfl⟩) hHeld ?_
            try simp only [Act.put, List.setIfInBounds_toArray, List.set_cons_zero, List.set_cons_succ]
            refine wpAnyH_take (i := 18) (oi := { dst := some 41, op := Op.load 3 (Operand.tmp 40), type := 3, pos := "ref.go:176", after := #[{ on := 17, ground := Ground.data }, { on := 1, ground := Ground.guard }], guard := some (1, false) }) (v := undef) rfl (by kernel_rfl) (by kernel_rfl) (by kernel_rfl) (fun _ _ _ h => h) (Or.inr ⟨by rfl, rfl⟩) hHeld ?_
            try simp only [Act.put, List.setIfInBounds_toArray, List.set_cons_zero, List.set_cons_succ]
            refine wpAnyH_take (i := 19) (oi := { dst := some 42, op := Op.binOp BinOp.sub 3 (Operand.tmp 41) (Operand.const (Value.int IntKind.i64 1)) 3, type := 3, pos := "ref.go:176", after := #[{ on := 18, ground := Ground.data }, { on := 1, ground := Ground.guard }], guard := some (1, false) }) (v := undef) rfl (by kernel_rfl) (by kernel_rfl) (by kernel_rfl) (fun _ _ _ h => h) (Or.inr ⟨by rfl, rfl⟩) hHeld ?_
            try simp only [Act.put, List.setIfInBounds_toArray, List.set_cons_zero, List.set_cons_succ]
            refine wpAnyH_take (i := 20) (oi := { dst := some 43, op := Op.call { callee := Callee.value (Operand.func 26), args := #[Operand.tmp 37, Operand.tmp 42], argTypes := #[22, 3] }, type := 4, pos := "ref.go:176", after := #[{ on := 14, ground := Ground.data }, { on := 19, ground := Ground.data }, { on := 10, ground := Ground.chain }, { on := 1, ground := Ground.guard }], guard := some (1, false) }) (v := undef) rfl (by kernel_rfl) (by kernel_rfl) (by kernel_rfl) (fun _ _ _ h => h) (Or.inr ⟨by rfl, rfl⟩) hHeld ?_
            try simp only [Act.put, List.setIfInBounds_toArray, List.set_cons_zero, List.set_cons_succ]
            refine wpAnyH_take (i := 21) (oi := { dst := some 44, op := Op.binOp BinOp.neq 4 (Operand.tmp 33) (Operand.tmp 43) 4, type := 4, pos := "ref.go:176", after := #[{ on := 10, ground := Ground.data }, { on := 20, ground := Ground.data }, { on := 1, ground := Ground.guard }], guard := some (1, false) }) (v := undef) rfl (by kernel_rfl) (by kernel_rfl) (by kernel_rfl) (fun _ _ _ h => h) (Or.inr ⟨by rfl, rfl⟩) hHeld ?_
            try simp only [Act.put, List.setIfInBounds_toArray, List.set_cons_zero, List.set_cons_succ]
            refine wpAnyH_take (i := 22) (oi := { dst := some 45, op := Op.pick (Operand.tmp 24) (Operand.const (Value.bool true)) (Operand.tmp 44), type := 4, pos := "ref.go:176", after := #[{ on := 1, ground := Ground.data }, { on := 21, ground := Ground.data }], guard := none }) (v := ?_) rfl (by kernel_rfl) (by kernel_rfl) (by kernel_rfl) (fun _ _ _ h => h) (Or.inl ⟨by rfl, ?_⟩) hHeld ?_
            rotate_left
            · (intro w hSw; (try dsimp only at hSw); go_simp <;> with_reducible rfl)
            try simp only [Act.put, List.setIfInBounds_toArray, List.set_cons_zero, List.set_cons_succ]
            refine wpAnyH_take (i := 23) (oi := { dst := some 6, op := Op.assign (Operand.tmp 45), type := 4, pos := "ref.go:176", after := #[{ on := 22, ground := Ground.data }, { on := 20, ground := Ground.chain }, { on := 0, ground := Ground.phase }, { on := 1, ground := Ground.phase }, { on := 2, ground := Ground.phase }, { on := 3, ground := Ground.phase }, { on := 4, ground := Ground.phase }, { on := 5, ground := Ground.phase }, { on := 6, ground := Ground.phase }, { on := 7, ground := Ground.phase }, { on := 8, ground := Ground.phase }, { on := 9, ground := Ground.phase }, { on := 10, ground := Ground.phase }, { on := 11, ground := Ground.phase }, { on := 12, ground := Ground.phase }, { on := 13, ground := Ground.phase }, { on := 14, ground := Ground.phase }, { on := 15, ground := Ground.phase }, { on := 16, ground := Ground.phase }, { on := 17, ground := Ground.phase }, { on := 18, ground := Ground.phase }, { on := 19, ground := Ground.phase }, { on := 20, ground := Ground.phase }, { on := 21, ground := Ground.phase }, { on := 22, ground := Ground.phase }], guard := none }) (v := ?_) rfl (by kernel_rfl) (by kernel_rfl) (by kernel_rfl) (fun _ _ _ h => h) (Or.inl ⟨by rfl, ?_⟩) hHeld ?_
            rotate_left
            · (intro w hSw; (try dsimp only at hSw); go_simp <;> with_reducible rfl)
            try simp only [Act.put, List.setIfInBounds_toArray, List.set_cons_zero, List.set_cons_succ]
            refine wpAnyH_done (by kernel_rfl) ?_ _
            have hLast := Lib.hid hHeld.1
            clear HS hHeld hxw
            go_wp2_with fail
            go_roundg (gk - 1)
            case measure => have := HKF.out; have := HKL.out; omega
            case rel => exact ⟨k + 1, by rw [show ((k + 1 : Nat) : Int) = (k : Int) + 1 by omega], by have := HKL.out; omega, by have := HKF.out; omega, by simp [HNX.out], HOI.out.below hLast.out, HBK.out.trans (hLast.out.mono HBK.out.size)⟩
          | false =>
            obtain ⟨h1, hh1⟩ : ∃ h, hs P x = h := ⟨_, rfl⟩
            obtain ⟨h2, hh2⟩ : ∃ h, hs P (x - 1) = h := ⟨_, rfl⟩
            have HE1 := Lib.hid hh1
            have HE2 := Lib.hid hh2
            have HNX : Hid (tr S (k + 1) x = (h1 != h2)) := Lib.hid (by rw [HNXT.out, hh1, hh2]; rfl)
            clear hh1 hh2
            cases h1 <;> cases h2
            all_goals
              go_upto_region 10 with fail
              refine wp_region_held_drew (S := (fun w' => Below wr.heap.size wr w' ∧ w'.cell? ⟨b, off + k, none⟩ = some (.slice ad n cp) ∧ w'.cell? ⟨q, i, none⟩ = some (.int .i64 x))) (by kernel_rfl) (HS.out _ ((Below.refl _ _).drew)) (fun hHeld => ?_)
              refine wpAnyH_take (i := 0) (oi := { dst := some 23, op := Op.move (Operand.tmp 6), type := 4, pos := "ref.go:176", after := #[], guard := none }) (v := ?_) rfl (by kernel_rfl) (by kernel_rfl) (by kernel_rfl) (fun _ _ _ h => h) (Or.inl ⟨by rfl, ?_⟩) hHeld ?_
              rotate_left
              · (intro w hSw; (try dsimp only at hSw); go_simp <;> with_reducible rfl)
              try simp only [Act.put, List.setIfInBounds_toArray, List.set_cons_zero, List.set_cons_succ]
              refine wpAnyH_take (i := 1) (oi := { dst := some 24, op := Op.move (Operand.tmp 23), type := 4, pos := "ref.go:176", after := #[{ on := 0, ground := Ground.data }], guard := none }) (v := ?_) rfl (by kernel_rfl) (by kernel_rfl) (by kernel_rfl) (fun _ _ _ h => h) (Or.inl ⟨by rfl, ?_⟩) hHeld ?_
              rotate_left
              · (intro w hSw; (try dsimp only at hSw); go_simp <;> with_reducible rfl)
              try simp only [Act.put, List.setIfInBounds_toArray, List.set_cons_zero, List.set_cons_succ]
              refine wpAnyH_take (i := 2) (oi := { dst := some 25, op := Op.move (Operand.tmp 0), type := 30, pos := "ref.go:176", after := #[{ on := 1, ground := Ground.guard }], guard := some (1, false) }) (v := ?_) rfl (by kernel_rfl) (by kernel_rfl) (by kernel_rfl) (fun _ _ _ h => h) (Or.inl ⟨by rfl, ?_⟩) hHeld ?_
              rotate_left
              · (intro w hSw; (try dsimp only at hSw); go_simp <;> with_reducible rfl)
              try simp only [Act.put, List.setIfInBounds_toArray, List.set_cons_zero, List.set_cons_succ]
              refine wpAnyH_take (i := 3) (oi := { dst := some 26, op := Op.move (Operand.tmp 7), type := 3, pos := "ref.go:176", after := #[{ on := 1, ground := Ground.guard }], guard := some (1, false) }) (v := ?_) rfl (by kernel_rfl) (by kernel_rfl) (by kernel_rfl) (fun _ _ _ h => h) (Or.inl ⟨by rfl, ?_⟩) hHeld ?_
              rotate_left
              · (intro w hSw; (try dsimp only at hSw); go_simp <;> with_reducible rfl)
              try simp only [Act.put, List.setIfInBounds_toArray, List.set_cons_zero, List.set_cons_succ]
              refine wpAnyH_take (i := 4) (oi := { dst := some 27, op := Op.indexAddr 30 (Operand.tmp 25) (Operand.tmp 26), type := 0, pos := "ref.go:176", after := #[{ on := 2, ground := Ground.data }, { on := 3, ground := Ground.data }, { on := 1, ground := Ground.guard }], guard := some (1, false) }) (v := ?_) rfl (by kernel_rfl) (by kernel_rfl) (by kernel_rfl) (fun _ _ _ h => h) (Or.inl ⟨by rfl, ?_⟩) hHeld ?_
              rotate_left
              · (intro w hSw; (try dsimp only at hSw); go_simp <;> with_reducible rfl)
              try simp only [Act.put, List.setIfInBounds_toArray, List.set_cons_zero, List.set_cons_succ]
              refine wpAnyH_take (i := 5) (oi := { dst := some 28, op := Op.load 22 (Operand.tmp 27), type := 22, pos := "ref.go:176", after := #[{ on := 4, ground := Ground.data }, { on := 1, ground := Ground.guard }], guard := some (1, false) }) (v := ?_) rfl (by kernel_rfl) (by kernel_rfl) (by kernel_rfl) (fun _ _ _ h => h) (Or.inl ⟨by rfl, ?_⟩) hHeld ?_
              rotate_left
              · (intro w hSw; (try dsimp only at hSw); go_simp <;> with_reducible rfl)
              try simp only [Act.put, List.setIfInBounds_toArray, List.set_cons_zero, List.set_cons_succ]
              refine wpAnyH_take (i := 6) (oi := { dst := some 29, op := Op.move (Operand.tmp 3), type := 27, pos := "ref.go:176", after := #[{ on := 1, ground := Ground.guard }], guard := some (1, false) }) (v := ?_) rfl (by kernel_rfl) (by kernel_rfl) (by kernel_rfl) (fun _ _ _ h => h) (Or.inl ⟨by rfl, ?_⟩) hHeld ?_
              rotate_left
              · (intro w hSw; (try dsimp only at hSw); go_simp <;> with_reducible rfl)
              try simp only [Act.put, List.setIfInBounds_toArray, List.set_cons_zero, List.set_cons_succ]
              refine wpAnyH_take (i := 7) (oi := { dst := some 30, op := Op.move (Operand.tmp 5), type := 3, pos := "ref.go:176", after := #[{ on := 1, ground := Ground.guard }], guard := some (1, false) }) (v := ?_) rfl (by kernel_rfl) (by kernel_rfl) (by kernel_rfl) (fun _ _ _ h => h) (Or.inl ⟨by rfl, ?_⟩) hHeld ?_
              rotate_left
              · (intro w hSw; (try dsimp only at hSw); go_simp <;> with_reducible rfl)
              try simp only [Act.put, List.setIfInBounds_toArray, List.set_cons_zero, List.set_cons_succ]
              refine wpAnyH_take (i := 8) (oi := { dst := some 31, op := Op.indexAddr 27 (Operand.tmp 29) (Operand.tmp 30), type := 0, pos := "ref.go:176", after := #[{ on := 6, ground := Ground.data }, { on := 7, ground := Ground.data }, { on := 1, ground := Ground.guard }], guard := some (1, false) }) (v := ?_) rfl (by kernel_rfl) (by kernel_rfl) (by kernel_rfl) (fun _ _ _ h => h) (Or.inl ⟨by rfl, ?_⟩) hHeld ?_
              rotate_left
              · (intro w hSw; (try dsimp only at hSw); go_simp <;> with_reducible rfl)
              try simp only [Act.put, List.setIfInBounds_toArray, List.set_cons_zero, List.set_cons_succ]
              refine wpAnyH_take (i := 9) (oi := { dst := some 32, op := Op.load 3 (Operand.tmp 31), type := 3, pos := "ref.go:176", after := #[{ on := 8, ground := Ground.data }, { on := 1, ground := Ground.guard }], guard := some (1, false) }) (v := ?_) rfl (by kernel_rfl) (by kernel_rfl) (by kernel_rfl) (fun _ _ _ h => h) (Or.inl ⟨by rfl, ?_⟩) hHeld ?_
              rotate_left
              · (intro w hSw; (try dsimp only at hSw); go_simp <;> with_reducible rfl)
              try simp only [Act.put, List.setIfInBounds_toArray, List.set_cons_zero, List.set_cons_succ]
              refine wpAnyH_take (i := 11) (oi := { dst := some 34, op := Op.move (Operand.tmp 0), type := 30, pos := "ref.go:176", after := #[{ on := 1, ground := Ground.guard }], guard := some (1, false) }) (v := ?_) rfl (by kernel_rfl) (by kernel_rfl) (by kernel_rfl) (fun _ _ _ h => h) (Or.inl ⟨by rfl, ?_⟩) hHeld ?_
              rotate_left
              · (intro w hSw; (try dsimp only at hSw); go_simp <;> with_reducible rfl)
              try simp only [Act.put, List.setIfInBounds_toArray, List.set_cons_zero, List.set_cons_succ]
              refine wpAnyH_take (i := 12) (oi := { dst := some 35, op := Op.move (Operand.tmp 7), type := 3, pos := "ref.go:176", after := #[{ on := 1, ground := Ground.guard }], guard := some (1, false) }) (v := ?_) rfl (by kernel_rfl) (by kernel_rfl) (by kernel_rfl) (fun _ _ _ h => h) (Or.inl ⟨by rfl, ?_⟩) hHeld ?_
              rotate_left
              · (intro w hSw; (try dsimp only at hSw); go_simp <;> with_reducible rfl)
              try simp only [Act.put, List.setIfInBounds_toArray, List.set_cons_zero, List.set_cons_succ]
              refine wpAnyH_take (i := 13) (oi := { dst := some 36, op := Op.indexAddr 30 (Operand.tmp 34) (Operand.tmp 35), type := 0, pos := "ref.go:176", after := #[{ on := 11, ground := Ground.data }, { on := 12, ground := Ground.data }, { on := 1, ground := Ground.guard }], guard := some (1, false) }) (v := ?_) rfl (by kernel_rfl) (by kernel_rfl) (by kernel_rfl) (fun _ _ _ h => h) (Or.inl ⟨by rfl, ?_⟩) hHeld ?_
              rotate_left
              · (intro w hSw; (try dsimp only at hSw); go_simp <;> with_reducible rfl)
              try simp only [Act.put, List.setIfInBounds_toArray, List.set_cons_zero, List.set_cons_succ]
              refine wpAnyH_take (i := 14) (oi := { dst := some 37, op := Op.load 22 (Operand.tmp 36), type := 22, pos := "ref.go:176", after := #[{ on := 13, ground := Ground.data }, { on := 1, ground := Ground.guard }], guard := some (1, false) }) (v := ?_) rfl (by kernel_rfl) (by kernel_rfl) (by kernel_rfl) (fun _ _ _ h => h) (Or.inl ⟨by rfl, ?_⟩) hHeld ?_
              rotate_left
              · (intro w hSw; (try dsimp only at hSw); go_simp <;> with_reducible rfl)
              try simp only [Act.put, List.setIfInBounds_toArray, List.set_cons_zero, List.set_cons_succ]
              refine wpAnyH_take (i := 15) (oi := { dst := some 38, op := Op.move (Operand.tmp 3), type := 27, pos := "ref.go:176", after := #[{ on := 1, ground := Ground.guard }], guard := some (1, false) }) (v := ?_) rfl (by kernel_rfl) (by kernel_rfl) (by kernel_rfl) (fun _ _ _ h => h) (Or.inl ⟨by rfl, ?_⟩) hHeld ?_
              rotate_left
              · (intro w hSw; (try dsimp only at hSw); go_simp <;> with_reducible rfl)
              try simp only [Act.put, List.setIfInBounds_toArray, List.set_cons_zero, List.set_cons_succ]
              refine wpAnyH_take (i := 16) (oi := { dst := some 39, op := Op.move (Operand.tmp 5), type := 3, pos := "ref.go:176", after := #[{ on := 1, ground := Ground.guard }], guard := some (1, false) }) (v := ?_) rfl (by kernel_rfl) (by kernel_rfl) (by kernel_rfl) (fun _ _ _ h => h) (Or.inl ⟨by rfl, ?_⟩) hHeld ?_
              rotate_left
              · (intro w hSw; (try dsimp only at hSw); go_simp <;> with_reducible rfl)
              try simp only [Act.put, List.setIfInBounds_toArray, List.set_cons_zero, List.set_cons_succ]
              refine wpAnyH_take (i := 17) (oi := { dst := some 40, op := Op.indexAddr 27 (Operand.tmp 38) (Operand.tmp 39), type := 0, pos := "ref.go:176", after := #[{ on := 15, ground := Ground.data }, { on := 16, ground := Ground.data }, { on := 1, ground := Ground.guard }], guard := some (1, false) }) (v := ?_) rfl (by kernel_rfl) (by kernel_rfl) (by kernel_rfl) (fun _ _ _ h => h) (Or.inl ⟨by rfl, ?_⟩) hHeld ?_
              rotate_left
              · (intro w hSw; (try dsimp only at hSw); go_simp <;> with_reducible rfl)
              try simp only [Act.put, List.setIfInBounds_toArray, List.set_cons_zero, List.set_cons_succ]
              refine wpAnyH_take (i := 18) (oi := { dst := some 41, op := Op.load 3 (Operand.tmp 40), type := 3, pos := "ref.go:176", after := #[{ on := 17, ground := Ground.data }, { on := 1, ground := Ground.guard }], guard := some (1, false) }) (v := ?_) rfl (by kernel_rfl) (by kernel_rfl) (by kernel_rfl) (fun _ _ _ h => h) (Or.inl ⟨by rfl, ?_⟩) hHeld ?_
              rotate_left
              · (intro w hSw; (try dsimp only at hSw); go_simp <;> with_reducible rfl)
              try simp only [Act.put, List.setIfInBounds_toArray, List.set_cons_zero, List.set_cons_succ]
              refine wpAnyH_take (i := 19) (oi := { dst := some 42, op := Op.binOp BinOp.sub 3 (Operand.tmp 41) (Operand.const (Value.int IntKind.i64 1)) 3, type := 3, pos := "ref.go:176", after := #[{ on := 18, ground := Ground.data }, { on := 1, ground := Ground.guard }], guard := some (1, false) }) (v := ?_) rfl (by kernel_rfl) (by kernel_rfl) (by kernel_rfl) (fun _ _ _ h => h) (Or.inl ⟨by rfl, ?_⟩) hHeld ?_
              rotate_left
              · (intro w hSw; (try dsimp only at hSw); go_simp <;> with_reducible rfl)
              try simp only [Act.put, List.setIfInBounds_toArray, List.set_cons_zero, List.set_cons_succ]
              refine wpAnyH_ready (rs := [10]) (by kernel_rfl) (by simp) (AllReadyH.cons (o := { dst := some 33, op := Op.call { callee := Callee.value (Operand.func 26), args := #[Operand.tmp 28, Operand.tmp 32], argTypes := #[22, 3] }, type := 4, pos := "ref.go:176", after := #[{ on := 5, ground := Ground.data }, { on := 9, ground := Ground.data }, { on := 1, ground := Ground.chain }, { on := 1, ground := Ground.guard }], guard := some (1, false) }) rfl (fun K10 hK10 => ?_) AllReadyH.nil)
              go_simp
              refine (HH.out _ (HBK.out.trans (hHeld.1.mono HBK.out.size)) x).mono ?_
              rintro e w2 ⟨rfl, hq⟩
              rw [HE1.out]
              refine hK10.out _ _ (HS.out _ (by rw [← hq]; exact hHeld.1)) (fun hH_10 => ?_)
              clear hq
              clear hK10 K10
              try simp only [Act.put, List.setIfInBounds_toArray, List.set_cons_zero, List.set_cons_succ]
              refine wpAnyH_ready (rs := [20]) (by kernel_rfl) (by simp) (AllReadyH.cons (o := { dst := some 43, op := Op.call { callee := Callee.value (Operand.func 26), args := #[Operand.tmp 37, Operand.tmp 42], argTypes := #[22, 3] }, type := 4, pos := "ref.go:176", after := #[{ on := 14, ground := Ground.data }, { on := 19, ground := Ground.data }, { on := 10, ground := Ground.chain }, { on := 1, ground := Ground.guard }], guard := some (1, false) }) rfl (fun K20 hK20 => ?_) AllReadyH.nil)
              go_simp
              refine (HH.out _ (HBK.out.trans (hH_10.1.mono HBK.out.size)) (x - 1)).mono ?_
              rintro e w3 ⟨rfl, hq3⟩
              rw [HE2.out]
              refine hK20.out _ _ (HS.out _ (by rw [← hq3]; exact hH_10.1)) (fun hH_20 => ?_)
              clear hq3
              clear hK20 K20
              try simp only [Act.put, List.setIfInBounds_toArray, List.set_cons_zero, List.set_cons_succ]
              refine wpAnyH_take (i := 21) (oi := { dst := some 44, op := Op.binOp BinOp.neq 4 (Operand.tmp 33) (Operand.tmp 43) 4, type := 4, pos := "ref.go:176", after := #[{ on := 10, ground := Ground.data }, { on := 20, ground := Ground.data }, { on := 1, ground := Ground.guard }], guard := some (1, false) }) (v := ?_) rfl (by kernel_rfl) (by kernel_rfl) (by kernel_rfl) (fun _ _ _ h => h) (Or.inl ⟨by rfl, ?_⟩) hH_20 ?_
              rotate_left
              · (intro w hSw; (try dsimp only at hSw); go_simp <;> with_reducible rfl)
              try simp only [Act.put, List.setIfInBounds_toArray, List.set_cons_zero, List.set_cons_succ]
              refine wpAnyH_take (i := 22) (oi := { dst := some 45, op := Op.pick (Operand.tmp 24) (Operand.const (Value.bool true)) (Operand.tmp 44), type := 4, pos := "ref.go:176", after := #[{ on := 1, ground := Ground.data }, { on := 21, ground := Ground.data }], guard := none }) (v := ?_) rfl (by kernel_rfl) (by kernel_rfl) (by kernel_rfl) (fun _ _ _ h => h) (Or.inl ⟨by rfl, ?_⟩) hH_20 ?_
              rotate_left
              · (intro w hSw; (try dsimp only at hSw); go_simp <;> with_reducible rfl)
              try simp only [Act.put, List.setIfInBounds_toArray, List.set_cons_zero, List.set_cons_succ]
              refine wpAnyH_take (i := 23) (oi := { dst := some 6, op := Op.assign (Operand.tmp 45), type := 4, pos := "ref.go:176", after := #[{ on := 22, ground := Ground.data }, { on := 20, ground := Ground.chain }, { on := 0, ground := Ground.phase }, { on := 1, ground := Ground.phase }, { on := 2, ground := Ground.phase }, { on := 3, ground := Ground.phase }, { on := 4, ground := Ground.phase }, { on := 5, ground := Ground.phase }, { on := 6, ground := Ground.phase }, { on := 7, ground := Ground.phase }, { on := 8, ground := Ground.phase }, { on := 9, ground := Ground.phase }, { on := 10, ground := Ground.phase }, { on := 11, ground := Ground.phase }, { on := 12, ground := Ground.phase }, { on := 13, ground := Ground.phase }, { on := 14, ground := Ground.phase }, { on := 15, ground := Ground.phase }, { on := 16, ground := Ground.phase }, { on := 17, ground := Ground.phase }, { on := 18, ground := Ground.phase }, { on := 19, ground := Ground.phase }, { on := 20, ground := Ground.phase }, { on := 21, ground := Ground.phase }, { on := 22, ground := Ground.phase }], guard := none }) (v := ?_) rfl (by kernel_rfl) (by kernel_rfl) (by kernel_rfl) (fun _ _ _ h => h) (Or.inl ⟨by rfl, ?_⟩) hH_20 ?_
              rotate_left
              · (intro w hSw; (try dsimp only at hSw); go_simp <;> with_reducible rfl)
              try simp only [Act.put, List.setIfInBounds_toArray, List.set_cons_zero, List.set_cons_succ]
              refine wpAnyH_done (by kernel_rfl) ?_ _
              have hLast := Lib.hid hH_20.1
              clear HS hHeld hH_10 hH_20 hxw
              go_wp2_with fail
              go_roundg (gk - 1)
              case measure => have := HKF.out; have := HKL.out; omega
              case rel => exact ⟨k + 1, by rw [show ((k + 1 : Nat) : Int) = (k : Int) + 1 by omega], by have := HKL.out; omega, by have := HKF.out; omega, by simp [HNX.out], HOI.out.below hLast.out, HBK.out.trans (hLast.out.mono HBK.out.size)⟩
        · have e9 : k = m := by omega
          subst e9
          have HTB : Hid (t = trnB S x) := Lib.hid (by rw [HT.out, HM.out]; exact tr_all S x)
          clear hkm hkf hko hkb ht hkl hxw
          cases t with
          | true =>
            have HNX : Hid (rI (outL S L (i + 1)) = rI (outL S L i) ++ [.int .i64 x] ∧ (outL S L (i + 1)).length = (outL S L i).length + 1) := Lib.hid (by
              rw [out_next HI1.out (by rw [← HN.out]; exact HLT.out), ← HX.out, if_pos HTB.out.symm, rI_app]
              exact ⟨rfl, by simp⟩)
            have HOL : Hid ((outL S L i).length ≤ 154114) := Lib.hid (by have := out_len S L i; have := HLL.out; omega)
            have HSZ := HBK.out.size
            have hol := HOL.out
            obtain ⟨no, hno⟩ : ∃ no, no = (outL S L i).length := ⟨_, rfl⟩
            obtain ⟨xs, hxs⟩ : ∃ xs, xs = rI (outL S L i) := ⟨_, rfl⟩
            have HOw : Hid ((wr.alloc (.cells #[.int .i64 x] 3)).ownsRow w1.heap.size 3 1 u4 no xs) := Lib.hid (by rw [hno, hxs]; exact HOI.out.alloc _)
            rw [← hno] at hol
            rw [← hno, ← hxs] at HNX
            have cxr : wr.cell? ⟨q, i, none⟩ = some (.int .i64 x) := (HBK.out.cell (p := ⟨q, _, none⟩) HBL.out).trans (by have h := HCX.out; rwa [Nat.zero_add] at h)
            clear hno hxs
            go_wp2_with (first
              | (at_builtin; refine wpList_append_own _ rfl _ _ 27 rfl w1.heap.size 3 i0 (.int .i64 0) 1 8 Try.underlying27 hi hz0 hz1 hz2 rfl (by decide) u4 no xs rfl HOw.out ⟨wr.heap.size, 0, none⟩ 1 1 [.int .i64 x] rfl rfl (cell_one_new _ _ _) (ints_oneCell .i64 [x]) (by unfold maxLen; omega) (by omega) (by simp; omega) ?_; intro v2 w2 ho2 hg2 _; have HO2 := Lib.hid ho2; have HB2 := Lib.hid (below_own (HBK.out.alloc HBK.out.size _) HOw.out hg2); clear ho2 hg2))
            go_roundg (gg - 1)
            case measure => have := HF.out; have := HLT.out; omega
            case rel => exact ⟨i + 1, by rw [show ((i + 1 : Nat) : Int) = (i : Int) + 1 by omega], by omega, by have := HLT.out; omega, by have := HF.out; omega, by unfold OwnI; rw [HNX.out.1, HNX.out.2]; exact HO2.out, HB2.out⟩
          | false =>
            have HNX : Hid (outL S L (i + 1) = outL S L i) := Lib.hid (by
              rw [out_next HI1.out (by rw [← HN.out]; exact HLT.out), ← HX.out, ← HTB.out]
              simp)
            go_wp2_with fail
            go_roundg (gg - 1)
            case measure => have := HF.out; have := HLT.out; omega
            case rel => exact ⟨i + 1, by rw [show ((i + 1 : Nat) : Int) = (i : Int) + 1 by omega], by omega, by have := HLT.out; omega, by have := HF.out; omega, by rw [HNX.out]; exact HOI.out, HBK.out⟩
    · have e9 : i = N := by omega
      subst e9
      clear hi1 hiN hf ho hb hlt
      go_wp2_with fail
      go_ret
      exact ⟨_, rfl, by rw [HRE.out, ← HN.out]; exact own_base HO.out HB1.out.size, HB1.out.trans (HB.out.mono HB1.out.size)⟩
end Go.Proofs.Ytlngdohkoeognaa

import Derived.Test.YtfigebepeniikaaK7
import Derived.StillTailTactics
/- Layer 27: slices.ContainsFunc over cells, names, records, at the program's own function values. -/
namespace Go.Proofs.Ytfigebepeniikaa
open Go.RowKit Go.Maps
theorem any_range {α : Type} [Inhabited α] (L : List α) (f : α → Bool) (p : Nat → Bool) (h : ∀ i, i < L.length → p i = f (L.getD i default)) : (List.range L.length).any p = L.any f := by
  rw [Bool.eq_iff_iff, List.any_eq_true, List.any_eq_true]
  constructor
  · rintro ⟨i, hi, hp⟩
    have hi := List.mem_range.1 hi
    rw [h i hi, List.getD_eq_getElem?_getD, List.getElem?_eq_getElem hi] at hp
    exact ⟨_, List.getElem_mem hi, hp⟩
  · rintro ⟨x, hx, hp⟩
    obtain ⟨i, hi, rfl⟩ := List.getElem_of_mem hx
    refine ⟨i, List.mem_range.2 hi, ?_⟩
    rw [h i hi, List.getD_eq_getElem?_getD, List.getElem?_eq_getElem hi]
    exact hp
theorem isVar_any (c : CR) (w : World) : Calls Try.prog 33 #[cv c] w fun e w' => e = .returned (.bool (decide (c.k = 5))) ∧ Below w.heap.size w w' := by
  obtain ⟨k, nm, tx, n, m⟩ := c
  show Calls Try.prog 33 #[.agg #[.int .u8 (k : Nat), .string nm, .string tx, .int .i64 n, .int .i64 m]] w fun e w' => e = .returned (.bool (decide (k = 5))) ∧ Below w.heap.size w w'
  have HE : Hid (decide (k = 5) = ((k : Int) == 5)) := Lib.hid (by rw [Bool.eq_iff_iff]; simp; omega)
  go_enter Try.func33, Try.ntmps33
  go_wp2_with fail
  go_ret
  exact ⟨ret_bool HE.out.symm, (Below.refl _ _).alloc (Nat.le_refl _) _⟩
set_option maxRecDepth 20000 in
set_option maxHeartbeats 1000000 in
theorem ix_cell (ad : Option Addr) (cp : Nat) (d : List CR) (p : Nat → Bool)  (w : World) (hv : CV w ad d.length (gl d)) (hn : d.length ≤ 1000000) (hK : ∀ (i : Nat) (W : World), i < d.length → Below w.heap.size w W → Calls Try.prog 33 #[cv (gl d i)] W fun e w' => e = .returned (.bool (p i)) ∧ Below W.heap.size W w') : Calls Try.prog 48 #[.slice ad d.length cp, .func (.func 33) #[] #[]] w fun e w' => ∃ z : Int, e = .returned (.int .i64 z) ∧ decide (0 ≤ z) = (List.range d.length).any p ∧ Below w.heap.size w w' := by
  obtain ⟨x, hx⟩ : ∃ x, x = (List.range d.length).any p := ⟨_, rfl⟩
  rw [← hx]
  have HX1 : Hid (∀ i, i < d.length → p i = true → x = true) := Lib.hid (fun i hi h => by rw [hx]; exact List.any_eq_true.2 ⟨i, List.mem_range.2 hi, h⟩)
  have HX0 : Hid ((∀ j, j < d.length → p j = false) → x = false) := Lib.hid (fun h => by rw [hx, List.any_eq_false]; intro i hi; rw [h i (List.mem_range.1 hi)]; simp)
  clear hx
  have HV := Lib.hid hv
  have HKK := Lib.hid hK
  obtain ⟨n, hnn⟩ : ∃ n, n = d.length := ⟨_, rfl⟩
  rw [← hnn] at hn HX1 HX0 ⊢
  have HN := Lib.hid hnn
  clear hnn hv hK
  have hn' : (n : Int) ≤ 1000000 := by omega
  go_enter Try.func48, Try.ntmps48
  go_wp2_with fail
  go_loopw [5, 8] (fun _ v8 wr => ∃ i : Nat, i ≤ n ∧ v8 = .int .i64 i ∧ Hid (∀ j, j < i → p j = false) ∧ Hid (Below w.heap.size w wr)) (fun _ v8 _ => n - (intOf v8).toNat)
  case atStart => exact ⟨0, Nat.zero_le _, rfl, Lib.hid (fun j hj => by omega), Lib.hid (Below.refl _ _)⟩
  case round =>
    obtain ⟨i, hi, rfl, HF, HB⟩ := hrel
    by_cases hlt : i < n
    · have hlt' : (i : Int) < n := by omega
      have hge : (0 : Int) ≤ i := by omega
      have hlR : i < d.length := by rw [← HN.out]; exact hlt
      obtain ⟨b, off, rfl⟩ := HV.out.addr (by omega)
      obtain ⟨_, d0, d1, d2, d3, d4⟩ := (HV.out.below HB.out).at_ hlR
      have HC := Lib.hid (HKK.out i wr hlR HB.out)
      obtain ⟨c, hc⟩ : ∃ c, c = gl d i := ⟨_, rfl⟩
      rw [← hc] at d0 d1 d2 d3 d4 HC
      unfold cv at HC
      clear hc
      have HF2 : Hid (p i = false → ∀ j, j < i + 1 → p j = false) := Lib.hid (fun h j hj => by
        by_cases e : j = i
        · subst e; exact h
        · exact HF.out j (by omega))
      have HT := Lib.hid (HX1.out i hlt)
      obtain ⟨q, hq⟩ : ∃ q, q = p i := ⟨_, rfl⟩
      rw [← hq] at HC HF2 HT
      clear hq HF hlR
      cases q with
      | true =>
        have HXX := Lib.hid (HT.out rfl)
        go_wp2_with fail
        refine HC.out.mono ?_
        rintro e w1 ⟨rfl, b1⟩
        have B1 := Lib.hid (HB.out.trans (b1.mono HB.out.size))
        clear b1
        go_wp2_with fail
        go_ret
        exact ⟨_, rfl, by rw [HXX.out]; simp, B1.out⟩
      | false =>
        have HF3 := Lib.hid (HF2.out rfl)
        go_wp2_with fail
        refine HC.out.mono ?_
        rintro e w1 ⟨rfl, b1⟩
        have B1 := Lib.hid (HB.out.trans (b1.mono HB.out.size))
        clear b1
        go_wp2_with fail
        go_roundw
        case rel => exact ⟨i + 1, by omega, by go_num, HF3, B1⟩
        case measure => simp [intOf]; omega
    · have him : i = n := by omega
      subst him
      have HXX := Lib.hid (HX0.out HF.out)
      have hge : ¬ (i : Int) < i := by omega
      clear HF
      go_wp2_with fail
      go_ret
      exact ⟨_, rfl, by rw [HXX.out]; decide, HB.out⟩
theorem cf_cell (ad : Option Addr) (cp : Nat) (d : List CR) (p : Nat → Bool)  (w : World) (hv : CV w ad d.length (gl d)) (hn : d.length ≤ 1000000) (hK : ∀ (i : Nat) (W : World), i < d.length → Below w.heap.size w W → Calls Try.prog 33 #[cv (gl d i)] W fun e w' => e = .returned (.bool (p i)) ∧ Below W.heap.size W w') : Calls Try.prog 34 #[.slice ad d.length cp, .func (.func 33) #[] #[]] w fun e w' => e = .returned (.bool ((List.range d.length).any p)) ∧ Below w.heap.size w w' := by
  have K := Lib.hid (ix_cell ad cp d p  w hv hn hK)
  obtain ⟨x, hx⟩ : ∃ x, x = (List.range d.length).any p := ⟨_, rfl⟩
  rw [← hx] at K ⊢
  clear hx hv hK
  obtain ⟨n, hnn⟩ : ∃ n, n = d.length := ⟨_, rfl⟩
  rw [← hnn] at K ⊢
  clear hnn hn
  go_enter Try.func34, Try.ntmps34
  go_wp2_with fail
  refine K.out.mono ?_
  rintro e w1 ⟨z, rfl, hz, b1⟩
  have HZ := Lib.hid hz
  have B1 := Lib.hid b1
  clear hz b1
  go_wp2_with fail
  go_ret
  exact ⟨ret_bool HZ.out, B1.out⟩
set_option maxRecDepth 20000 in
set_option maxHeartbeats 1000000 in
theorem ix_names (ad : Option Addr) (cp : Nat) (L : List ByteArray) (u v : Nat) (p : Nat → Bool)  (w : World) (hv : Ord.SView w ad L.length L) (hn : L.length ≤ 1000000) (hK : ∀ (i : Nat) (W : World), i < L.length → Below w.heap.size w W → Calls Try.prog 40 #[.string (Ord.nth L i), .pointer (some ⟨u, 0, none⟩), .pointer (some ⟨v, 0, none⟩)] W fun e w' => e = .returned (.bool (p i)) ∧ Below W.heap.size W w') : Calls Try.prog 54 #[.slice ad L.length cp, .func (.func 40) #[] #[.pointer (some ⟨u, 0, none⟩), .pointer (some ⟨v, 0, none⟩)]] w fun e w' => ∃ z : Int, e = .returned (.int .i64 z) ∧ decide (0 ≤ z) = (List.range L.length).any p ∧ Below w.heap.size w w' := by
  obtain ⟨x, hx⟩ : ∃ x, x = (List.range L.length).any p := ⟨_, rfl⟩
  rw [← hx]
  have HX1 : Hid (∀ i, i < L.length → p i = true → x = true) := Lib.hid (fun i hi h => by rw [hx]; exact List.any_eq_true.2 ⟨i, List.mem_range.2 hi, h⟩)
  have HX0 : Hid ((∀ j, j < L.length → p j = false) → x = false) := Lib.hid (fun h => by rw [hx, List.any_eq_false]; intro i hi; rw [h i (List.mem_range.1 hi)]; simp)
  clear hx
  have HV := Lib.hid hv
  have HKK := Lib.hid hK
  obtain ⟨n, hnn⟩ : ∃ n, n = L.length := ⟨_, rfl⟩
  rw [← hnn] at hn HX1 HX0 ⊢
  have HN := Lib.hid hnn
  clear hnn hv hK
  have hn' : (n : Int) ≤ 1000000 := by omega
  go_enter Try.func54, Try.ntmps54
  go_wp2_with fail
  go_loopw [5, 8] (fun _ v8 wr => ∃ i : Nat, i ≤ n ∧ v8 = .int .i64 i ∧ Hid (∀ j, j < i → p j = false) ∧ Hid (Below w.heap.size w wr)) (fun _ v8 _ => n - (intOf v8).toNat)
  case atStart => exact ⟨0, Nat.zero_le _, rfl, Lib.hid (fun j hj => by omega), Lib.hid (Below.refl _ _)⟩
  case round =>
    obtain ⟨i, hi, rfl, HF, HB⟩ := hrel
    by_cases hlt : i < n
    · have hlt' : (i : Int) < n := by omega
      have hge : (0 : Int) ≤ i := by omega
      have hlR : i < L.length := by rw [← HN.out]; exact hlt
      obtain ⟨b, off, rfl, hb0, d0⟩ := (HV.out.below HB.out).2 i hlR
      have HC := Lib.hid (HKK.out i wr hlR HB.out)
      obtain ⟨c, hc⟩ : ∃ c, c = Ord.nth L i := ⟨_, rfl⟩
      rw [← hc] at d0 HC
      clear hc
      have HF2 : Hid (p i = false → ∀ j, j < i + 1 → p j = false) := Lib.hid (fun h j hj => by
        by_cases e : j = i
        · subst e; exact h
        · exact HF.out j (by omega))
      have HT := Lib.hid (HX1.out i hlt)
      obtain ⟨q, hq⟩ : ∃ q, q = p i := ⟨_, rfl⟩
      rw [← hq] at HC HF2 HT
      clear hq HF hlR
      cases q with
      | true =>
        have HXX := Lib.hid (HT.out rfl)
        go_wp2_with fail
        refine HC.out.mono ?_
        rintro e w1 ⟨rfl, b1⟩
        have B1 := Lib.hid (HB.out.trans (b1.mono HB.out.size))
        clear b1
        go_wp2_with fail
        go_ret
        exact ⟨_, rfl, by rw [HXX.out]; simp, B1.out⟩
      | false =>
        have HF3 := Lib.hid (HF2.out rfl)
        go_wp2_with fail
        refine HC.out.mono ?_
        rintro e w1 ⟨rfl, b1⟩
        have B1 := Lib.hid (HB.out.trans (b1.mono HB.out.size))
        clear b1
        go_wp2_with fail
        go_roundw
        case rel => exact ⟨i + 1, by omega, by go_num, HF3, B1⟩
        case measure => simp [intOf]; omega
    · have him : i = n := by omega
      subst him
      have HXX := Lib.hid (HX0.out HF.out)
      have hge : ¬ (i : Int) < i := by omega
      clear HF
      go_wp2_with fail
      go_ret
      exact ⟨_, rfl, by rw [HXX.out]; decide, HB.out⟩
theorem cf_names (ad : Option Addr) (cp : Nat) (L : List ByteArray) (u v : Nat) (p : Nat → Bool)  (w : World) (hv : Ord.SView w ad L.length L) (hn : L.length ≤ 1000000) (hK : ∀ (i : Nat) (W : World), i < L.length → Below w.heap.size w W → Calls Try.prog 40 #[.string (Ord.nth L i), .pointer (some ⟨u, 0, none⟩), .pointer (some ⟨v, 0, none⟩)] W fun e w' => e = .returned (.bool (p i)) ∧ Below W.heap.size W w') : Calls Try.prog 39 #[.slice ad L.length cp, .func (.func 40) #[] #[.pointer (some ⟨u, 0, none⟩), .pointer (some ⟨v, 0, none⟩)]] w fun e w' => e = .returned (.bool ((List.range L.length).any p)) ∧ Below w.heap.size w w' := by
  have K := Lib.hid (ix_names ad cp L u v p  w hv hn hK)
  obtain ⟨x, hx⟩ : ∃ x, x = (List.range L.length).any p := ⟨_, rfl⟩
  rw [← hx] at K ⊢
  clear hx hv hK
  obtain ⟨n, hnn⟩ : ∃ n, n = L.length := ⟨_, rfl⟩
  rw [← hnn] at K ⊢
  clear hnn hn
  go_enter Try.func39, Try.ntmps39
  go_wp2_with fail
  refine K.out.mono ?_
  rintro e w1 ⟨z, rfl, hz, b1⟩
  have HZ := Lib.hid hz
  have B1 := Lib.hid b1
  clear hz b1
  go_wp2_with fail
  go_ret
  exact ⟨ret_bool HZ.out, B1.out⟩
set_option maxRecDepth 20000 in
set_option maxHeartbeats 1000000 in
theorem ix_rows (B : Nat) (ad : Option Addr) (cp : Nat) (R : List RC) (u v : Nat) (p : Nat → Bool)  (w : World) (hv : RV B w ad R) (hn : R.length ≤ 1000000) (hK : ∀ (i : Nat) (ai : Option Addr) (ci : Nat) (W : World), i < R.length → Below w.heap.size w W → DV B W ai ci (rl R i).d → Calls Try.prog 38 #[rv (rl R i) ai ci, .pointer (some ⟨u, 0, none⟩), .pointer (some ⟨v, 0, none⟩)] W fun e w' => e = .returned (.bool (p i)) ∧ Below W.heap.size W w') : Calls Try.prog 47 #[.slice ad R.length cp, .func (.func 38) #[] #[.pointer (some ⟨u, 0, none⟩), .pointer (some ⟨v, 0, none⟩)]] w fun e w' => ∃ z : Int, e = .returned (.int .i64 z) ∧ decide (0 ≤ z) = (List.range R.length).any p ∧ Below w.heap.size w w' := by
  obtain ⟨x, hx⟩ : ∃ x, x = (List.range R.length).any p := ⟨_, rfl⟩
  rw [← hx]
  have HX1 : Hid (∀ i, i < R.length → p i = true → x = true) := Lib.hid (fun i hi h => by rw [hx]; exact List.any_eq_true.2 ⟨i, List.mem_range.2 hi, h⟩)
  have HX0 : Hid ((∀ j, j < R.length → p j = false) → x = false) := Lib.hid (fun h => by rw [hx, List.any_eq_false]; intro i hi; rw [h i (List.mem_range.1 hi)]; simp)
  clear hx
  have HV := Lib.hid hv
  have HKK := Lib.hid hK
  obtain ⟨n, hnn⟩ : ∃ n, n = R.length := ⟨_, rfl⟩
  rw [← hnn] at hn HX1 HX0 ⊢
  have HN := Lib.hid hnn
  clear hnn hv hK
  have hn' : (n : Int) ≤ 1000000 := by omega
  go_enter Try.func47, Try.ntmps47
  go_wp2_with fail
  go_loopw [5, 8] (fun _ v8 wr => ∃ i : Nat, i ≤ n ∧ v8 = .int .i64 i ∧ Hid (∀ j, j < i → p j = false) ∧ Hid (Below w.heap.size w wr)) (fun _ v8 _ => n - (intOf v8).toNat)
  case atStart => exact ⟨0, Nat.zero_le _, rfl, Lib.hid (fun j hj => by omega), Lib.hid (Below.refl _ _)⟩
  case round =>
    obtain ⟨i, hi, rfl, HF, HB⟩ := hrel
    by_cases hlt : i < n
    · have hlt' : (i : Int) < n := by omega
      have hge : (0 : Int) ≤ i := by omega
      have hlR : i < R.length := by rw [← HN.out]; exact hlt
      obtain ⟨b, off, rfl⟩ := HV.out.addr (by omega)
      obtain ⟨ai, ci, _, _, d0, d1, dv⟩ := (HV.out.below HB.out).at_ hlR
      have HC := Lib.hid (HKK.out i ai ci wr hlR HB.out dv)
      obtain ⟨c, hc⟩ : ∃ c, c = rl R i := ⟨_, rfl⟩
      rw [← hc] at d0 d1 HC
      unfold rv at HC
      obtain ⟨l, hl⟩ : ∃ l, l = c.d.length := ⟨_, rfl⟩
      obtain ⟨id, hid⟩ : ∃ l, l = c.id := ⟨_, rfl⟩
      rw [← hl] at d1 HC
      rw [← hid] at d0 HC
      clear hc dv hl hid
      have HF2 : Hid (p i = false → ∀ j, j < i + 1 → p j = false) := Lib.hid (fun h j hj => by
        by_cases e : j = i
        · subst e; exact h
        · exact HF.out j (by omega))
      have HT := Lib.hid (HX1.out i hlt)
      obtain ⟨q, hq⟩ : ∃ q, q = p i := ⟨_, rfl⟩
      rw [← hq] at HC HF2 HT
      clear hq HF hlR
      cases q with
      | true =>
        have HXX := Lib.hid (HT.out rfl)
        go_wp2_with fail
        refine HC.out.mono ?_
        rintro e w1 ⟨rfl, b1⟩
        have B1 := Lib.hid (HB.out.trans (b1.mono HB.out.size))
        clear b1
        go_wp2_with fail
        go_ret
        exact ⟨_, rfl, by rw [HXX.out]; simp, B1.out⟩
      | false =>
        have HF3 := Lib.hid (HF2.out rfl)
        go_wp2_with fail
        refine HC.out.mono ?_
        rintro e w1 ⟨rfl, b1⟩
        have B1 := Lib.hid (HB.out.trans (b1.mono HB.out.size))
        clear b1
        go_wp2_with fail
        go_roundw
        case rel => exact ⟨i + 1, by omega, by go_num, HF3, B1⟩
        case measure => simp [intOf]; omega
    · have him : i = n := by omega
      subst him
      have HXX := Lib.hid (HX0.out HF.out)
      have hge : ¬ (i : Int) < i := by omega
      clear HF
      go_wp2_with fail
      go_ret
      exact ⟨_, rfl, by rw [HXX.out]; decide, HB.out⟩
theorem cf_rows (B : Nat) (ad : Option Addr) (cp : Nat) (R : List RC) (u v : Nat) (p : Nat → Bool)  (w : World) (hv : RV B w ad R) (hn : R.length ≤ 1000000) (hK : ∀ (i : Nat) (ai : Option Addr) (ci : Nat) (W : World), i < R.length → Below w.heap.size w W → DV B W ai ci (rl R i).d → Calls Try.prog 38 #[rv (rl R i) ai ci, .pointer (some ⟨u, 0, none⟩), .pointer (some ⟨v, 0, none⟩)] W fun e w' => e = .returned (.bool (p i)) ∧ Below W.heap.size W w') : Calls Try.prog 31 #[.slice ad R.length cp, .func (.func 38) #[] #[.pointer (some ⟨u, 0, none⟩), .pointer (some ⟨v, 0, none⟩)]] w fun e w' => e = .returned (.bool ((List.range R.length).any p)) ∧ Below w.heap.size w w' := by
  have K := Lib.hid (ix_rows B ad cp R u v p  w hv hn hK)
  obtain ⟨x, hx⟩ : ∃ x, x = (List.range R.length).any p := ⟨_, rfl⟩
  rw [← hx] at K ⊢
  clear hx hv hK
  obtain ⟨n, hnn⟩ : ∃ n, n = R.length := ⟨_, rfl⟩
  rw [← hnn] at K ⊢
  clear hnn hn
  go_enter Try.func31, Try.ntmps31
  go_wp2_with fail
  refine K.out.mono ?_
  rintro e w1 ⟨z, rfl, hz, b1⟩
  have HZ := Lib.hid hz
  have B1 := Lib.hid b1
  clear hz b1
  go_wp2_with fail
  go_ret
  exact ⟨ret_bool HZ.out, B1.out⟩
set_option maxRecDepth 20000 in
set_option maxHeartbeats 1000000 in
theorem ix_self (B : Nat) (ad : Option Addr) (cp : Nat) (R : List RC) (u : Nat) (p : Nat → Bool)  (w : World) (hv : RV B w ad R) (hn : R.length ≤ 1000000) (hK : ∀ (i : Nat) (ai : Option Addr) (ci : Nat) (W : World), i < R.length → Below w.heap.size w W → DV B W ai ci (rl R i).d → Calls Try.prog 21 #[.pointer (some ⟨u, 0, none⟩), rv (rl R i) ai ci] W fun e w' => e = .returned (.bool (p i)) ∧ Below W.heap.size W w') : Calls Try.prog 47 #[.slice ad R.length cp, .func (.func 21) #[.pointer (some ⟨u, 0, none⟩)] #[]] w fun e w' => ∃ z : Int, e = .returned (.int .i64 z) ∧ decide (0 ≤ z) = (List.range R.length).any p ∧ Below w.heap.size w w' := by
  obtain ⟨x, hx⟩ : ∃ x, x = (List.range R.length).any p := ⟨_, rfl⟩
  rw [← hx]
  have HX1 : Hid (∀ i, i < R.length → p i = true → x = true) := Lib.hid (fun i hi h => by rw [hx]; exact List.any_eq_true.2 ⟨i, List.mem_range.2 hi, h⟩)
  have HX0 : Hid ((∀ j, j < R.length → p j = false) → x = false) := Lib.hid (fun h => by rw [hx, List.any_eq_false]; intro i hi; rw [h i (List.mem_range.1 hi)]; simp)
  clear hx
  have HV := Lib.hid hv
  have HKK := Lib.hid hK
  obtain ⟨n, hnn⟩ : ∃ n, n = R.length := ⟨_, rfl⟩
  rw [← hnn] at hn HX1 HX0 ⊢
  have HN := Lib.hid hnn
  clear hnn hv hK
  have hn' : (n : Int) ≤ 1000000 := by omega
  go_enter Try.func47, Try.ntmps47
  go_wp2_with fail
  go_loopw [5, 8] (fun _ v8 wr => ∃ i : Nat, i ≤ n ∧ v8 = .int .i64 i ∧ Hid (∀ j, j < i → p j = false) ∧ Hid (Below w.heap.size w wr)) (fun _ v8 _ => n - (intOf v8).toNat)
  case atStart => exact ⟨0, Nat.zero_le _, rfl, Lib.hid (fun j hj => by omega), Lib.hid (Below.refl _ _)⟩
  case round =>
    obtain ⟨i, hi, rfl, HF, HB⟩ := hrel
    by_cases hlt : i < n
    · have hlt' : (i : Int) < n := by omega
      have hge : (0 : Int) ≤ i := by omega
      have hlR : i < R.length := by rw [← HN.out]; exact hlt
      obtain ⟨b, off, rfl⟩ := HV.out.addr (by omega)
      obtain ⟨ai, ci, _, _, d0, d1, dv⟩ := (HV.out.below HB.out).at_ hlR
      have HC := Lib.hid (HKK.out i ai ci wr hlR HB.out dv)
      obtain ⟨c, hc⟩ : ∃ c, c = rl R i := ⟨_, rfl⟩
      rw [← hc] at d0 d1 HC
      unfold rv at HC
      obtain ⟨l, hl⟩ : ∃ l, l = c.d.length := ⟨_, rfl⟩
      obtain ⟨id, hid⟩ : ∃ l, l = c.id := ⟨_, rfl⟩
      rw [← hl] at d1 HC
      rw [← hid] at d0 HC
      clear hc dv hl hid
      have HF2 : Hid (p i = false → ∀ j, j < i + 1 → p j = false) := Lib.hid (fun h j hj => by
        by_cases e : j = i
        · subst e; exact h
        · exact HF.out j (by omega))
      have HT := Lib.hid (HX1.out i hlt)
      obtain ⟨q, hq⟩ : ∃ q, q = p i := ⟨_, rfl⟩
      rw [← hq] at HC HF2 HT
      clear hq HF hlR
      cases q with
      | true =>
        have HXX := Lib.hid (HT.out rfl)
        go_wp2_with fail
        refine HC.out.mono ?_
        rintro e w1 ⟨rfl, b1⟩
        have B1 := Lib.hid (HB.out.trans (b1.mono HB.out.size))
        clear b1
        go_wp2_with fail
        go_ret
        exact ⟨_, rfl, by rw [HXX.out]; simp, B1.out⟩
      | false =>
        have HF3 := Lib.hid (HF2.out rfl)
        go_wp2_with fail
        refine HC.out.mono ?_
        rintro e w1 ⟨rfl, b1⟩
        have B1 := Lib.hid (HB.out.trans (b1.mono HB.out.size))
        clear b1
        go_wp2_with fail
        go_roundw
        case rel => exact ⟨i + 1, by omega, by go_num, HF3, B1⟩
        case measure => simp [intOf]; omega
    · have him : i = n := by omega
      subst him
      have HXX := Lib.hid (HX0.out HF.out)
      have hge : ¬ (i : Int) < i := by omega
      clear HF
      go_wp2_with fail
      go_ret
      exact ⟨_, rfl, by rw [HXX.out]; decide, HB.out⟩
theorem cf_self (B : Nat) (ad : Option Addr) (cp : Nat) (R : List RC) (u : Nat) (p : Nat → Bool)  (w : World) (hv : RV B w ad R) (hn : R.length ≤ 1000000) (hK : ∀ (i : Nat) (ai : Option Addr) (ci : Nat) (W : World), i < R.length → Below w.heap.size w W → DV B W ai ci (rl R i).d → Calls Try.prog 21 #[.pointer (some ⟨u, 0, none⟩), rv (rl R i) ai ci] W fun e w' => e = .returned (.bool (p i)) ∧ Below W.heap.size W w') : Calls Try.prog 31 #[.slice ad R.length cp, .func (.func 21) #[.pointer (some ⟨u, 0, none⟩)] #[]] w fun e w' => e = .returned (.bool ((List.range R.length).any p)) ∧ Below w.heap.size w w' := by
  have K := Lib.hid (ix_self B ad cp R u p  w hv hn hK)
  obtain ⟨x, hx⟩ : ∃ x, x = (List.range R.length).any p := ⟨_, rfl⟩
  rw [← hx] at K ⊢
  clear hx hv hK
  obtain ⟨n, hnn⟩ : ∃ n, n = R.length := ⟨_, rfl⟩
  rw [← hnn] at K ⊢
  clear hnn hn
  go_enter Try.func31, Try.ntmps31
  go_wp2_with fail
  refine K.out.mono ?_
  rintro e w1 ⟨z, rfl, hz, b1⟩
  have HZ := Lib.hid hz
  have B1 := Lib.hid b1
  clear hz b1
  go_wp2_with fail
  go_ret
  exact ⟨ret_bool HZ.out, B1.out⟩
end Go.Proofs.Ytfigebepeniikaa
/- Layer 27: whether two records clash. -/
namespace Go.Proofs.Ytfigebepeniikaa
open Go.RowKit Go.Maps
theorem sm_dec (x y : List CR) : smB (gl x) x.length (gl y) y.length = decide (x = y) := by
  rw [Bool.eq_iff_iff, decide_eq_true_eq]
  constructor
  · intro h
    obtain ⟨h1, h2⟩ := sm_eq h
    exact gl_ext h1 h2
  · exact sm_lists
/-- What member tells, by what there is. -/
theorem mem_none {B : Nat} {r : RC} {ad : Option Addr} {cp : Nat} {s : ByteArray} {w : World} (hd : DV B w ad cp r.d) (hc : ckL r.d = true) (hx : mV r.d s = none) : Calls Try.prog 36 #[rv r ad cp, .string s] w fun e w' => e = .returned (.tuple #[.slice none 0 0, .bool false]) ∧ Below w.heap.size w w' :=
  (tmember_any B r ad cp s w hd hc).mono fun e w' h => by rw [hx] at h; exact h
theorem mem_some {B : Nat} {r : RC} {ad : Option Addr} {cp : Nat} {s : ByteArray} {w : World} {x : List CR} (hd : DV B w ad cp r.d) (hc : ckL r.d = true) (hx : mV r.d s = some x) : Calls Try.prog 36 #[rv r ad cp, .string s] w fun e w' => (∃ b off c, e = .returned (.tuple #[.slice (some ⟨b, off, none⟩) x.length c, .bool true]) ∧ CV w' (some ⟨b, off, none⟩) x.length (gl x) ∧ 0 < x.length ∧ x.length ≤ c ∧ c ≤ maxLen ∧ DV B w' (some ⟨b, off, none⟩) c x) ∧ Below w.heap.size w w' :=
  (tmember_any B r ad cp s w hd hc).mono fun e w' h => by
    rw [hx] at h
    obtain ⟨⟨a, c, he, hv, h0⟩, hb⟩ := h
    obtain ⟨b, off, rfl⟩ := hv.1.addr h0
    exact ⟨⟨b, off, c, he, hv.1, h0, hv.2.1, hv.2.2.1, hv⟩, hb⟩
set_option maxRecDepth 20000 in
set_option maxHeartbeats 2000000 in
theorem clash_any (B : Nat) (a b : RC) (aa ab : Option Addr) (ca cb : Nat) (s : ByteArray) (w : World) (ha : DV B w aa ca a.d) (hb : DV B w ab cb b.d) (ka : ckL a.d = true) (kb : ckL b.d = true) : Calls Try.prog 41 #[rv a aa ca, rv b ab cb, .string s] w fun e w' => e = .returned (.bool (clash a b s)) ∧ Below w.heap.size w w' := by
  have HA := Lib.hid ha
  have HB := Lib.hid hb
  have HMA0 := Lib.hid (fun (hx : mV a.d s = none) W (k : Below w.heap.size w W) => mem_none (HA.out.below k) ka hx)
  have HMA1 := Lib.hid (fun x (hx : mV a.d s = some x) W (k : Below w.heap.size w W) => mem_some (HA.out.below k) ka hx)
  have HMB0 := Lib.hid (fun (hx : mV b.d s = none) W (k : Below w.heap.size w W) => mem_none (HB.out.below k) kb hx)
  have HMB1 := Lib.hid (fun x (hx : mV b.d s = some x) W (k : Below w.heap.size w W) => mem_some (HB.out.below k) kb hx)
  have HCL : Hid (clash a b s = match mV a.d s, mV b.d s with
    | some x, some y => decide ((gl x 0).k ≠ 0) && decide (x = y)
    | _, _ => false) := Lib.hid rfl
  obtain ⟨R, hR⟩ : ∃ R, R = clash a b s := ⟨_, rfl⟩
  rw [← hR] at HCL ⊢
  unfold rv at HMA0 HMA1 HMB0 HMB1 ⊢
  obtain ⟨ma, hma⟩ : ∃ m, m = mV a.d s := ⟨_, rfl⟩
  obtain ⟨mb, hmb⟩ : ∃ m, m = mV b.d s := ⟨_, rfl⟩
  rw [← hma] at HMA0 HMA1 HCL
  rw [← hmb] at HMB0 HMB1 HCL
  obtain ⟨la, hla⟩ : ∃ m, m = a.d.length := ⟨_, rfl⟩
  obtain ⟨lb, hlb⟩ : ∃ m, m = b.d.length := ⟨_, rfl⟩
  obtain ⟨ia, hia⟩ : ∃ m, m = a.id := ⟨_, rfl⟩
  obtain ⟨ib, hib⟩ : ∃ m, m = b.id := ⟨_, rfl⟩
  rw [← hla, ← hia] at HMA0 HMA1 ⊢
  rw [← hlb, ← hib] at HMB0 HMB1 ⊢
  have HW : Hid (Below w.heap.size w ((w.alloc (.cells #[.string ia, .slice aa la ca] 32)).alloc (.cells #[.string ib, .slice ab lb cb] 32))) := Lib.hid (((Below.refl _ _).alloc (Nat.le_refl _) _).alloc (by simp) _)
  have HQ : Hid (Bx2 ((w.alloc (.cells #[.string ia, .slice aa la ca] 32)).alloc (.cells #[.string ib, .slice ab lb cb] 32)) (w.heap.size + 1) (.string ib) (.slice ab lb cb)) := Lib.hid (by
    have h := bx2_new (w.alloc (.cells #[.string ia, .slice aa la ca] 32)) (.string ib) (.slice ab lb cb)
    simpa using h)
  clear hR hma hmb hla hlb hia hib ha hb HA HB ka kb
  cases ma with
  | none =>
    replace HCL : Hid (R = false) := HCL
    replace HMA0 := Lib.hid (HMA0.out rfl)
    cases mb with
    | none =>
      replace HMB0 := Lib.hid (HMB0.out rfl)
      clear HMA1 HMB1
      go_enter Try.func41, Try.ntmps41
      go_wp2_with fail
      refine (HMA0.out _ HW.out).mono ?_
      rintro e w1 ⟨rfl, b1⟩
      have B1 := Lib.hid (HW.out.trans (b1.mono HW.out.size))
      have q0 := (HQ.out.up b1).c0
      have q1 := (HQ.out.up b1).c1
      clear b1
      go_wp2_with fail
      refine (HMB0.out w1 B1.out).mono ?_
      rintro e w2 ⟨rfl, b2⟩
      have B2 := Lib.hid (B1.out.trans (b2.mono B1.out.size))
      clear b2 q0 q1
      go_wp2_with fail
      go_ret
      exact ⟨ret_bool HCL.out.symm, B2.out⟩
    | some y =>
      replace HMB1 := Lib.hid (HMB1.out y rfl)
      clear HMA1 HMB0
      go_enter Try.func41, Try.ntmps41
      go_wp2_with fail
      refine (HMA0.out _ HW.out).mono ?_
      rintro e w1 ⟨rfl, b1⟩
      have B1 := Lib.hid (HW.out.trans (b1.mono HW.out.size))
      have q0 := (HQ.out.up b1).c0
      have q1 := (HQ.out.up b1).c1
      clear b1
      go_wp2_with fail
      refine (HMB1.out w1 B1.out).mono ?_
      rintro e w2 ⟨⟨q, o, c, rfl, _⟩, b2⟩
      have B2 := Lib.hid (B1.out.trans (b2.mono B1.out.size))
      clear b2 q0 q1
      go_wp2_with fail
      go_ret
      exact ⟨ret_bool HCL.out.symm, B2.out⟩
  | some x =>
    replace HMA1 := Lib.hid (HMA1.out x rfl)
    cases mb with
    | none =>
      replace HCL : Hid (R = false) := HCL
      replace HMB0 := Lib.hid (HMB0.out rfl)
      clear HMA0 HMB1
      go_enter Try.func41, Try.ntmps41
      go_wp2_with fail
      refine (HMA1.out _ HW.out).mono ?_
      rintro e w1 ⟨⟨q, o, c, rfl, _⟩, b1⟩
      have B1 := Lib.hid (HW.out.trans (b1.mono HW.out.size))
      have q0 := (HQ.out.up b1).c0
      have q1 := (HQ.out.up b1).c1
      clear b1
      go_wp2_with fail
      refine (HMB0.out w1 B1.out).mono ?_
      rintro e w2 ⟨rfl, b2⟩
      have B2 := Lib.hid (B1.out.trans (b2.mono B1.out.size))
      clear b2 q0 q1
      go_wp2_with fail
      go_ret
      exact ⟨ret_bool HCL.out.symm, B2.out⟩
    | some y =>
      replace HCL : Hid (R = (decide ((gl x 0).k ≠ 0) && decide (x = y))) := HCL
      replace HMB1 := Lib.hid (HMB1.out y rfl)
      have HSM := Lib.hid (fun a1 a2 c1 c2 W (h1 : CV W a1 x.length (gl x)) (h2 : CV W a2 y.length (gl y)) (hn : x.length ≤ maxLen) => csame_any a1 a2 x.length y.length c1 c2 (gl x) (gl y) W h1 h2 hn)
      rw [sm_dec] at HSM
      obtain ⟨z, hz⟩ : ∃ z, z = decide (x = y) := ⟨_, rfl⟩
      rw [← hz] at HCL HSM
      obtain ⟨k, hk⟩ : ∃ k, k = (gl x 0).k := ⟨_, rfl⟩
      rw [← hk] at HCL
      obtain ⟨lx, hlx⟩ : ∃ k, k = x.length := ⟨_, rfl⟩
      obtain ⟨ly, hly⟩ : ∃ k, k = y.length := ⟨_, rfl⟩
      rw [← hlx] at HMA1
      rw [← hly] at HMB1
      rw [← hlx, ← hly] at HSM
      have HK := Lib.hid hk
      clear HMA0 HMB0 hz hk hlx hly
      go_enter Try.func41, Try.ntmps41
      go_wp2_with fail
      refine (HMA1.out _ HW.out).mono ?_
      rintro e w1 ⟨⟨q, o, c, rfl, v1, l0, lc, lm, _⟩, b1⟩
      have B1 := Lib.hid (HW.out.trans (b1.mono HW.out.size))
      have V1 := Lib.hid v1
      have q0 := (HQ.out.up b1).c0
      have q1 := (HQ.out.up b1).c1
      have l0' : (0 : Int) < lx := by omega
      have lm' : Hid (lx ≤ maxLen) := Lib.hid (by omega)
      clear b1 v1 l0 lc lm
      go_wp2_with fail
      refine (HMB1.out w1 B1.out).mono ?_
      rintro e w2 ⟨⟨q', o', c', rfl, v2, _, _, _, _⟩, b2⟩
      have B2 := Lib.hid (B1.out.trans (b2.mono B1.out.size))
      have V1' := Lib.hid (V1.out.below b2)
      have V2 := Lib.hid v2
      clear b2 q0 q1 v2 V1
      have d0 := (V1'.out.at_ (i := 0) (by omega)).2.1
      rw [← HK.out, Nat.zero_mul, Nat.add_zero] at d0
      by_cases hk0 : k = 0
      · have HR : Hid (R = false) := Lib.hid (by rw [HCL.out, hk0]; rfl)
        subst hk0
        go_wp2_with fail
        go_ret
        exact ⟨ret_bool HR.out.symm, B2.out⟩
      · have HR : Hid (R = z) := Lib.hid (by rw [HCL.out, decide_eq_true hk0, Bool.true_and])
        have hk1 : ((k : Int) != 0) = true := by simp; omega
        have hk2 : ((k : Int) == 0) = false := by rw [beq_eq_false_iff_ne]; omega
        clear hk0
        go_wp2_with fail
        refine (HSM.out _ _ c c' w2 V1'.out V2.out lm'.out).mono ?_
        rintro e w3 ⟨rfl, b3⟩
        have B3 := Lib.hid (B2.out.trans (b3.mono B2.out.size))
        clear b3
        go_wp2_with fail
        go_ret
        exact ⟨ret_bool HR.out.symm, B3.out⟩
end Go.Proofs.Ytfigebepeniikaa
/- Layer 27: whether a record clashes with rows. -/
namespace Go.Proofs.Ytfigebepeniikaa
open Go.RowKit Go.Maps
/-- A record in a box. -/
def RBx (w : World) (q : Nat) (r : RC) (ad : Option Addr) (cp : Nat) : Prop := Bx2 w q (.string r.id) (.slice ad r.d.length cp)
theorem RBx.up {w w' : World} {q : Nat} {r : RC} {ad : Option Addr} {cp : Nat} (h : RBx w q r ad cp) (k : Below w.heap.size w w') : RBx w' q r ad cp := Bx2.up h k
theorem rbx_new (w : World) (r : RC) (ad : Option Addr) (cp : Nat) : RBx (w.alloc (.cells #[.string r.id, .slice ad r.d.length cp] 32)) w.heap.size r ad cp := bx2_new w _ _
set_option maxRecDepth 20000 in
theorem clash1_any (a b : RC) (aa ab : Option Addr) (ca cb u v : Nat) (s : ByteArray) (w : World) (hu : RBx w u a aa ca) (hv : RBx w v b ab cb) (ha : DV 0 w aa ca a.d) (hb : DV 0 w ab cb b.d) (ka : ckL a.d = true) (kb : ckL b.d = true) : Calls Try.prog 40 #[.string s, .pointer (some ⟨u, 0, none⟩), .pointer (some ⟨v, 0, none⟩)] w fun e w' => e = .returned (.bool (clash a b s)) ∧ Below w.heap.size w w' := by
  have K := Lib.hid (clash_any 0 a b aa ab ca cb s w ha hb ka kb)
  unfold rv at K
  have u0 := Bx2.c0 hu
  have u1 := Bx2.c1 hu
  have v0 := Bx2.c0 hv
  have v1 := Bx2.c1 hv
  obtain ⟨R, hR⟩ : ∃ R, R = clash a b s := ⟨_, rfl⟩
  rw [← hR] at K ⊢
  obtain ⟨la, hla⟩ : ∃ m, m = a.d.length := ⟨_, rfl⟩
  obtain ⟨lb, hlb⟩ : ∃ m, m = b.d.length := ⟨_, rfl⟩
  obtain ⟨ia, hia⟩ : ∃ m, m = a.id := ⟨_, rfl⟩
  obtain ⟨ib, hib⟩ : ∃ m, m = b.id := ⟨_, rfl⟩
  rw [← hla] at u1
  rw [← hlb] at v1
  rw [← hia] at u0
  rw [← hib] at v0
  rw [← hla, ← hlb, ← hia, ← hib] at K
  clear hR hla hlb hia hib hu hv ha hb ka kb
  go_enter Try.func40, Try.ntmps40
  go_wp2_with fail
  refine K.out.mono ?_
  rintro e w1 ⟨rfl, b1⟩
  have B1 := Lib.hid b1
  clear b1
  go_wp2_with fail
  go_ret
  exact ⟨rfl, B1.out⟩
set_option maxRecDepth 20000 in
set_option maxHeartbeats 1000000 in
theorem clash2_any (a b : RC) (aa ab : Option Addr) (ca cb v u p : Nat) (x0 x1 x3 : Value) (a1 : Option Addr) (c1 : Nat) (L : List ByteArray) (w : World) (hv : RBx w v b ab cb) (hu : w.cell? ⟨u, 0, none⟩ = some (.pointer (some ⟨p, 0, none⟩))) (hp : Bx4 w p 49 x0 x1 (.slice a1 L.length c1) x3) (hL : Ord.SView w a1 L.length L) (hn : L.length ≤ 1000000) (ha : DV 0 w aa ca a.d) (hb : DV 0 w ab cb b.d) (ka : ckL a.d = true) (kb : ckL b.d = true) : Calls Try.prog 38 #[rv a aa ca, .pointer (some ⟨v, 0, none⟩), .pointer (some ⟨u, 0, none⟩)] w fun e w' => e = .returned (.bool (decide (a.id ≠ b.id) && L.any fun s => clash a b s)) ∧ Below w.heap.size w w' := by
  have BW : Hid (Below w.heap.size w (w.alloc (.cells #[.string a.id, .slice aa a.d.length ca] 32))) := Lib.hid ((Below.refl _ _).alloc (Nat.le_refl _) _)
  have K : Hid (Calls Try.prog 39 #[.slice a1 L.length c1, .func (.func 40) #[] #[.pointer (some ⟨w.heap.size, 0, none⟩), .pointer (some ⟨v, 0, none⟩)]] (w.alloc (.cells #[.string a.id, .slice aa a.d.length ca] 32)) fun e w' => e = .returned (.bool (L.any fun s => clash a b s)) ∧ Below (w.alloc (.cells #[.string a.id, .slice aa a.d.length ca] 32)).heap.size (w.alloc (.cells #[.string a.id, .slice aa a.d.length ca] 32)) w') := Lib.hid (by
    have h := cf_names a1 c1 L w.heap.size v (fun i => clash a b (Ord.nth L i)) (w.alloc (.cells #[.string a.id, .slice aa a.d.length ca] 32)) (hL.below BW.out) hn (fun i W hi k => clash1_any a b aa ab ca cb w.heap.size v (Ord.nth L i) W ((rbx_new w a aa ca).up k) ((RBx.up hv BW.out).up k) ((ha.below BW.out).below k) ((hb.below BW.out).below k) ka kb)
    rw [any_range L (fun s => clash a b s) _ (fun i hi => by show clash a b (L.getD i ⟨#[]⟩) = clash a b (L.getD i default); rfl)] at h
    exact h)
  have v0 := Bx2.c0 hv
  have p2 := hp.c2
  have HV0 : Hid ((w.alloc (.cells #[.string a.id, .slice aa a.d.length ca] 32)).cell? ⟨v, 0, none⟩ = some (.string b.id)) := Lib.hid ((BW.out.cell (p := ⟨v, 0, none⟩) (Bx2.lt hv)).trans v0)
  have HP2 : Hid ((w.alloc (.cells #[.string a.id, .slice aa a.d.length ca] 32)).cell? ⟨p, 2, none⟩ = some (.slice a1 L.length c1)) := Lib.hid ((BW.out.cell (p := ⟨p, 2, none⟩) hp.lt).trans p2)
  have HU0 : Hid ((w.alloc (.cells #[.string a.id, .slice aa a.d.length ca] 32)).cell? ⟨u, 0, none⟩ = some (.pointer (some ⟨p, 0, none⟩))) := Lib.hid ((BW.out.cell (p := ⟨u, 0, none⟩) (World.block_lt_of_cell? _ _ hu)).trans hu)
  obtain ⟨R, hR⟩ : ∃ R, R = L.any fun s => clash a b s := ⟨_, rfl⟩
  rw [← hR] at K ⊢
  unfold rv
  obtain ⟨la, hla⟩ : ∃ m, m = a.d.length := ⟨_, rfl⟩
  obtain ⟨ia, hia⟩ : ∃ m, m = a.id := ⟨_, rfl⟩
  obtain ⟨ib, hib⟩ : ∃ m, m = b.id := ⟨_, rfl⟩
  obtain ⟨n, hn'⟩ : ∃ m, m = L.length := ⟨_, rfl⟩
  rw [← hla, ← hia, ← hn'] at K HP2
  rw [← hla, ← hia, ← hib] at HV0
  rw [← hla, ← hia] at HU0 BW
  rw [← hla, ← hia, ← hib]
  clear hR hla hia hib hn' hv hp hL hn ha hb ka kb v0 p2 hu
  have v0 := HV0.out
  have p2 := HP2.out
  have u0 := HU0.out
  clear HV0 HP2 HU0
  by_cases he : ia = ib
  · subst he
    have HR : Hid ((decide (ia ≠ ia) && R) = false) := Lib.hid (by simp)
    rw [HR.out]
    clear HR
    go_enter Try.func38, Try.ntmps38
    go_wp2_with fail
    go_ret
    exact ⟨rfl, BW.out⟩
  · have HR : Hid ((decide (ia ≠ ib) && R) = R) := Lib.hid (by rw [decide_eq_true he, Bool.true_and])
    rw [HR.out]
    have he2 : (ia.toList == ib.toList) = false := by rw [str_is]; simpa using he
    clear HR he
    go_enter Try.func38, Try.ntmps38
    go_wp2_with fail
    refine K.out.mono ?_
    rintro e w1 ⟨rfl, b1⟩
    have B1 := Lib.hid (BW.out.trans (b1.mono BW.out.size))
    clear b1
    go_wp2_with fail
    go_ret
    exact ⟨rfl, B1.out⟩
set_option maxRecDepth 20000 in
set_option maxHeartbeats 1000000 in
theorem clashes_any (b : RC) (ab : Option Addr) (cb p : Nat) (x0 x1 : Value) (a1 a2 : Option Addr) (c1 c2 : Nat) (L : List ByteArray) (R : List RC) (w : World) (hp : Bx4 w p 49 x0 x1 (.slice a1 L.length c1) (.slice a2 R.length c2)) (hL : Ord.SView w a1 L.length L) (hn : L.length ≤ 1000000) (hR : RV 0 w a2 R) (hm : R.length ≤ 1000000) (hb : DV 0 w ab cb b.d) (kb : ckL b.d = true) (ka : ∀ a ∈ R, ckL a.d = true) : Calls Try.prog 21 #[.pointer (some ⟨p, 0, none⟩), rv b ab cb] w fun e w' => e = .returned (.bool (R.any fun a => decide (a.id ≠ b.id) && L.any fun s => clash a b s)) ∧ Below w.heap.size w w' := by
  unfold rv
  obtain ⟨W, hW⟩ : ∃ W, W = (w.alloc (.cells #[.pointer (some ⟨p, 0, none⟩)] 45)).alloc (.cells #[.string b.id, .slice ab b.d.length cb] 32) := ⟨_, rfl⟩
  have BW : Hid (Below w.heap.size w W) := Lib.hid (by rw [hW]; exact ((Below.refl _ _).alloc (Nat.le_refl _) _).alloc (by simp) _)
  have hU : W.cell? ⟨w.heap.size, 0, none⟩ = some (.pointer (some ⟨p, 0, none⟩)) := by rw [hW]; simp
  have hQ : RBx W (w.heap.size + 1) b ab cb := by
    have h := rbx_new (w.alloc (.cells #[.pointer (some ⟨p, 0, none⟩)] 45)) b ab cb
    rw [← hW] at h
    simpa using h
  have K : Hid (Calls Try.prog 31 #[.slice a2 R.length c2, .func (.func 38) #[] #[.pointer (some ⟨w.heap.size + 1, 0, none⟩), .pointer (some ⟨w.heap.size, 0, none⟩)]] W fun e w' => e = .returned (.bool (R.any fun a => decide (a.id ≠ b.id) && L.any fun s => clash a b s)) ∧ Below W.heap.size W w') := Lib.hid (by
    have h := cf_rows 0 a2 c2 R (w.heap.size + 1) w.heap.size (fun i => decide ((rl R i).id ≠ b.id) && L.any fun s => clash (rl R i) b s) W (hR.below BW.out) hm (fun i ai ci W' hi k dv => clash2_any (rl R i) b ai ab ci cb (w.heap.size + 1) w.heap.size p x0 x1 _ a1 c1 L W' (hQ.up k) ((k.cell (p := ⟨w.heap.size, 0, none⟩) (World.block_lt_of_cell? _ _ hU)).trans hU) ((hp.up BW.out).up k) ((hL.below BW.out).below k) hn dv ((hb.below BW.out).below k) (ka _ (rl_mem hi)) kb)
    have e : ((List.range R.length).any fun i => decide ((rl R i).id ≠ b.id) && L.any fun s => clash (rl R i) b s) = R.any fun a => decide (a.id ≠ b.id) && L.any fun s => clash a b s := any_range R (fun a => decide (a.id ≠ b.id) && L.any fun s => clash a b s) _ (fun i hi => rfl)
    rw [e] at h
    exact h)
  have p3 := (hp.up BW.out).c3
  obtain ⟨X, hX⟩ : ∃ X, X = R.any fun a => decide (a.id ≠ b.id) && L.any fun s => clash a b s := ⟨_, rfl⟩
  rw [← hX] at K ⊢
  obtain ⟨lb, hlb⟩ : ∃ m, m = b.d.length := ⟨_, rfl⟩
  obtain ⟨ib, hib⟩ : ∃ m, m = b.id := ⟨_, rfl⟩
  obtain ⟨n, hn'⟩ : ∃ m, m = R.length := ⟨_, rfl⟩
  rw [← hlb, ← hib] at hW ⊢
  rw [← hn'] at K p3
  rw [hW] at p3 K
  rw [hW] at BW
  clear hX hlb hib hn' hp hL hn hR hm hb kb ka hU hQ hW W
  go_enter Try.func21, Try.ntmps21
  go_wp2_with fail
  refine K.out.mono ?_
  rintro e w1 ⟨rfl, b1⟩
  have B1 := Lib.hid (BW.out.trans (b1.mono BW.out.size))
  clear b1
  go_wp2_with fail
  go_ret
  exact ⟨rfl, B1.out⟩
theorem clT_eq (T : TM) (b : RC) : (T.rows.any fun a => decide (a.id ≠ b.id) && T.uq.any fun s => clash a b s) = clT T b := rfl
end Go.Proofs.Ytfigebepeniikaa
/- Layer 27: whether a record may be. -/
namespace Go.Proofs.Ytfigebepeniikaa
open Go.RowKit Go.Maps
theorem mv_id {r : RC} {x : List CR} (h : mV r.d idS = some x) (h0 : 0 < x.length) : idOk r = (decide ((gl x 0).k = 3) && decide ((gl x 0).tx = r.id)) := by
  unfold mV at h
  cases hm : mI r.d idS with
  | none => rw [hm] at h; cases h
  | some p =>
    rw [hm] at h
    simp only [Option.map_some, Option.some.injEq] at h
    subst h
    rw [cut_len] at h0
    unfold idOk
    rw [hm, cut_at _ _ _ _ h0, Nat.add_zero]
theorem mv_no {r : RC} (h : mV r.d idS = none) : idOk r = false := by
  unfold mV at h
  cases hm : mI r.d idS with
  | none => unfold idOk; rw [hm]
  | some p => rw [hm] at h; cases h
set_option maxRecDepth 20000 in
set_option maxHeartbeats 2000000 in
theorem rec_any (B : Nat) (r : RC) (ad : Option Addr) (cp : Nat) (w : World) (hd : DV B w ad cp r.d) (hs : SmR r) : Calls Try.prog 19 #[rv r ad cp] w fun e w' => e = .returned (.bool (recOk r)) ∧ Below w.heap.size w w' := by
  have HD := Lib.hid hd
  have HW : Hid (Below w.heap.size w (w.alloc (.cells #[.string r.id, .slice ad r.d.length cp] 32))) := Lib.hid ((Below.refl _ _).alloc (Nat.le_refl _) _)
  have HQ := Lib.hid (rbx_new w r ad cp)
  have HV : Hid (Calls Try.prog 34 #[.slice ad r.d.length cp, .func (.func 33) #[] #[]] (w.alloc (.cells #[.string r.id, .slice ad r.d.length cp] 32)) fun e w' => e = .returned (.bool (hasVar r.d)) ∧ Below (w.alloc (.cells #[.string r.id, .slice ad r.d.length cp] 32)).heap.size (w.alloc (.cells #[.string r.id, .slice ad r.d.length cp] 32)) w') := Lib.hid (by
    have h := cf_cell ad cp r.d (fun i => decide ((gl r.d i).k = 5)) _ (HD.out.below HW.out).1 (by have := hs.2.1; omega) (fun i W hi k => isVar_any (gl r.d i) W)
    have e : ((List.range r.d.length).any fun i => decide ((gl r.d i).k = 5)) = hasVar r.d := any_range r.d (fun c => decide (c.k = 5)) _ (fun i hi => rfl)
    rw [e] at h
    exact h)
  have HK := Lib.hid (fun W (k : Below w.heap.size w W) => cCheck_any ad r.d.length cp (gl r.d) W (HD.out.below k).1 hs.1)
  have HM0 := Lib.hid (fun (kc : ckL r.d = true) (hx : mV r.d idS = none) W (k : Below w.heap.size w W) => mem_none (HD.out.below k) kc hx)
  have HM1 := Lib.hid (fun (kc : ckL r.d = true) x (hx : mV r.d idS = some x) W (k : Below w.heap.size w W) => mem_some (HD.out.below k) kc hx)
  have HVV := Lib.hid (fun W (k : Below w.heap.size w W) => (HD.out.below k).1)
  have HC7 : Hid (ckL r.d = true → 0 < r.d.length) := Lib.hid (fun h => (ckC_parts h).1)
  have HR : Hid (recOk r = (!(hasVar r.d) && ckL r.d && decide ((gl r.d 0).k = 7) && idOk r)) := Lib.hid rfl
  have HI0 := Lib.hid (mv_no (r := r))
  have HI1 := Lib.hid (fun x (hx : mV r.d idS = some x) h0 => mv_id hx h0)
  obtain ⟨R, hR⟩ : ∃ R, R = recOk r := ⟨_, rfl⟩
  rw [← hR] at HR ⊢
  unfold rv at HM0 HM1 ⊢
  unfold RBx at HQ
  obtain ⟨v, hv⟩ : ∃ m, m = hasVar r.d := ⟨_, rfl⟩
  rw [← hv] at HV HR
  have hce : ckC (gl r.d) r.d.length = ckL r.d := rfl
  rw [hce] at HK
  obtain ⟨c, hc⟩ : ∃ m, m = ckL r.d := ⟨_, rfl⟩
  rw [← hc] at HK HM0 HM1 HC7 HR
  obtain ⟨io, hio⟩ : ∃ m, m = idOk r := ⟨_, rfl⟩
  rw [← hio] at HR HI0 HI1
  obtain ⟨k, hk⟩ : ∃ m, m = (gl r.d 0).k := ⟨_, rfl⟩
  have HKK := Lib.hid hk
  rw [← hk] at HR
  obtain ⟨n, hn⟩ : ∃ m, m = r.d.length := ⟨_, rfl⟩
  obtain ⟨id, hid⟩ : ∃ m, m = r.id := ⟨_, rfl⟩
  rw [← hid, ← hn] at HV HQ HM0 HM1 HW ⊢
  rw [← hn] at HK HVV HC7
  rw [← hid] at HI1
  have hidS : idS = ⟨#[105, 100]⟩ := rfl
  rw [hidS] at HM0 HM1 HI0 HI1
  clear hR hv hc hio hk hn hid hce hd hs HD hidS
  cases v with
  | true =>
    have HX : Hid (R = false) := Lib.hid (by rw [HR.out]; rfl)
    clear HM0 HM1 HK HI0 HI1
    go_enter Try.func19, Try.ntmps19
    go_wp2_with fail
    refine HV.out.mono ?_
    rintro e w1 ⟨rfl, b1⟩
    have B1 := Lib.hid (HW.out.trans (b1.mono HW.out.size))
    clear b1
    go_wp2_with fail
    go_ret
    exact ⟨ret_bool HX.out.symm, B1.out⟩
  | false =>
    cases c with
    | false =>
      have HX : Hid (R = false) := Lib.hid (by rw [HR.out]; rfl)
      have HK2 : Hid (∀ W, Below w.heap.size w W → Calls Try.prog 35 #[.slice ad n cp] W fun e w' => e = .returned (.int .i64 8) ∧ Below W.heap.size W w') := Lib.hid (fun W k => HK.out W k)
      clear HM0 HM1 HI0 HI1 HK
      go_enter Try.func19, Try.ntmps19
      go_wp2_with fail
      refine HV.out.mono ?_
      rintro e w1 ⟨rfl, b1⟩
      have B1 := Lib.hid (HW.out.trans (b1.mono HW.out.size))
      have q1 := (HQ.out.up b1).c1
      clear b1
      go_wp2_with fail
      refine (HK2.out w1 B1.out).mono ?_
      rintro e w2 ⟨rfl, b2⟩
      have B2 := Lib.hid (B1.out.trans (b2.mono B1.out.size))
      clear b2 q1
      go_wp2_with fail
      go_ret
      exact ⟨ret_bool HX.out.symm, B2.out⟩
    | true =>
      have HK2 : Hid (∀ W, Below w.heap.size w W → Calls Try.prog 35 #[.slice ad n cp] W fun e w' => e = .returned (.int .i64 0) ∧ Below W.heap.size W w') := Lib.hid (fun W k => HK.out W k)
      have hn0 := HC7.out rfl
      have hn0' : (0 : Int) < n := by omega
      by_cases hk7 : k = 7
      · have HX : Hid (R = io) := Lib.hid (by rw [HR.out, hk7]; simp)
        subst hk7
        cases hmv : mV r.d ⟨#[105, 100]⟩ with
        | none =>
          have HY : Hid (R = false) := Lib.hid (by rw [HX.out]; exact HI0.out hmv)
          replace HM0 := Lib.hid (HM0.out rfl hmv)
          clear HM1 HI0 HI1 HK hmv
          go_enter Try.func19, Try.ntmps19
          go_wp2_with fail
          refine HV.out.mono ?_
          rintro e w1 ⟨rfl, b1⟩
          have B1 := Lib.hid (HW.out.trans (b1.mono HW.out.size))
          have Q1 := Lib.hid (HQ.out.up b1)
          have q1 := Q1.out.c1
          clear b1
          go_wp2_with fail
          refine (HK2.out w1 B1.out).mono ?_
          rintro e w2 ⟨rfl, b2⟩
          have B2 := Lib.hid (B1.out.trans (b2.mono B1.out.size))
          have Q2 := Lib.hid (Q1.out.up b2)
          clear b2 q1
          have q0 := Q2.out.c0
          have q1 := Q2.out.c1
          obtain ⟨b, off, rfl⟩ := (HVV.out w2 B2.out).addr (by omega)
          have d0 := ((HVV.out w2 B2.out).at_ (i := 0) (by omega)).2.1
          rw [← HKK.out, Nat.zero_mul, Nat.add_zero] at d0
          go_wp2_with fail
          refine (HM0.out w2 B2.out).mono ?_
          rintro e w3 ⟨rfl, b3⟩
          have B3 := Lib.hid (B2.out.trans (b3.mono B2.out.size))
          clear b3 q0 q1 d0
          go_wp2_with fail
          go_quiet (fail)
          go_wp2_with fail
          go_ret
          exact ⟨ret_bool HY.out.symm, below_drewN0 B3.out _⟩
        | some x =>
          replace HM1 := Lib.hid (HM1.out rfl x hmv)
          replace HI1 := Lib.hid (HI1.out x hmv)
          clear HM0 HI0 HK hmv
          go_enter Try.func19, Try.ntmps19
          go_wp2_with fail
          refine HV.out.mono ?_
          rintro e w1 ⟨rfl, b1⟩
          have B1 := Lib.hid (HW.out.trans (b1.mono HW.out.size))
          have Q1 := Lib.hid (HQ.out.up b1)
          have q1 := Q1.out.c1
          clear b1
          go_wp2_with fail
          refine (HK2.out w1 B1.out).mono ?_
          rintro e w2 ⟨rfl, b2⟩
          have B2 := Lib.hid (B1.out.trans (b2.mono B1.out.size))
          have Q2 := Lib.hid (Q1.out.up b2)
          clear b2 q1
          have q0 := Q2.out.c0
          have q1 := Q2.out.c1
          obtain ⟨b, off, rfl⟩ := (HVV.out w2 B2.out).addr (by omega)
          have d0 := ((HVV.out w2 B2.out).at_ (i := 0) (by omega)).2.1
          rw [← HKK.out, Nat.zero_mul, Nat.add_zero] at d0
          go_wp2_with fail
          refine (HM1.out w2 B2.out).mono ?_
          rintro e w3 ⟨⟨q, o, cx, rfl, v3, l0, _, _, _⟩, b3⟩
          have B3 := Lib.hid (B2.out.trans (b3.mono B2.out.size))
          have Q3 := Lib.hid (Q2.out.up b3)
          have HY := Lib.hid (HI1.out l0)
          have x0 := (v3.at_ l0).2.1
          have x2 := (v3.at_ l0).2.2.2.1
          rw [Nat.zero_mul, Nat.add_zero] at x0 x2
          have l0' : (0 : Int) < x.length := by omega
          obtain ⟨lx, hlx⟩ : ∃ m, m = x.length := ⟨_, rfl⟩
          obtain ⟨kx, hkx⟩ : ∃ m, m = (gl x 0).k := ⟨_, rfl⟩
          obtain ⟨tx, htx⟩ : ∃ m, m = (gl x 0).tx := ⟨_, rfl⟩
          rw [← hlx] at l0' ⊢
          rw [← hkx] at x0 HY
          rw [← htx] at x2 HY
          clear b3 q0 q1 d0 v3 hlx hkx htx HI1 l0
          have q0 := Q3.out.c0
          by_cases hk3 : kx = 3
          · subst hk3
            by_cases ht : tx = id
            · have HZ : Hid (R = true) := Lib.hid (by rw [HX.out, HY.out, ht]; simp)
              have he2 : (tx.toList == id.toList) = true := by rw [str_is]; simpa using ht
              clear ht
              go_wp2_with fail
              go_quiet (fail)
              go_wp2_with fail
              go_ret
              exact ⟨ret_bool HZ.out.symm, below_drewN0 B3.out _⟩
            · have HZ : Hid (R = false) := Lib.hid (by rw [HX.out, HY.out, decide_eq_false ht, Bool.and_false])
              have he2 : (tx.toList == id.toList) = false := by rw [str_is]; simpa using ht
              clear ht
              go_wp2_with fail
              go_quiet (fail)
              go_wp2_with fail
              go_ret
              exact ⟨ret_bool HZ.out.symm, below_drewN0 B3.out _⟩
          · have HZ : Hid (R = false) := Lib.hid (by rw [HX.out, HY.out, decide_eq_false hk3, Bool.false_and])
            have hk2 : ((kx : Int) == 3) = false := by rw [beq_eq_false_iff_ne]; omega
            clear hk3
            go_wp2_with fail
            go_quiet (fail)
            go_wp2_with fail
            go_ret
            exact ⟨ret_bool HZ.out.symm, below_drewN0 B3.out _⟩
      · have HX : Hid (R = false) := Lib.hid (by rw [HR.out, decide_eq_false hk7]; simp)
        have hk2 : ((k : Int) == 7) = false := by rw [beq_eq_false_iff_ne]; omega
        have hk4 : ((k : Int) != 7) = true := by simp; omega
        clear HM0 HM1 HI0 HI1 HK hk7
        go_enter Try.func19, Try.ntmps19
        go_wp2_with fail
        refine HV.out.mono ?_
        rintro e w1 ⟨rfl, b1⟩
        have B1 := Lib.hid (HW.out.trans (b1.mono HW.out.size))
        have Q1 := Lib.hid (HQ.out.up b1)
        have q1 := Q1.out.c1
        clear b1
        go_wp2_with fail
        refine (HK2.out w1 B1.out).mono ?_
        rintro e w2 ⟨rfl, b2⟩
        have B2 := Lib.hid (B1.out.trans (b2.mono B1.out.size))
        have Q2 := Lib.hid (Q1.out.up b2)
        clear b2 q1
        have q0 := Q2.out.c0
        have q1 := Q2.out.c1
        obtain ⟨b, off, rfl⟩ := (HVV.out w2 B2.out).addr (by omega)
        have d0 := ((HVV.out w2 B2.out).at_ (i := 0) (by omega)).2.1
        rw [← HKK.out, Nat.zero_mul, Nat.add_zero] at d0
        go_wp2_with fail
        go_ret
        exact ⟨ret_bool HX.out.symm, B2.out⟩
end Go.Proofs.Ytfigebepeniikaa
/- Layer 27: whether a table may be: what ends it ahead of its Uniques. -/
namespace Go.Proofs.Ytfigebepeniikaa
open Go.RowKit Go.Maps
theorem tab_no {T : TM} (h : TabOk T → False) : tabOk T = false := by
  cases e : tabOk T with
  | false => rfl
  | true => exact absurd (tabOk_iff.1 e) h
/-- The twin that is looked at. -/
structure Us (w W : World) (x0 x1 x2 x3 : Value) : Prop where
  bl : Below w.heap.size w W
  bx : Bx4 W (w.heap.size + 1) 49 x0 x1 x2 x3
theorem Us.up {w W W' : World} {x0 x1 x2 x3 : Value} (h : Us w W x0 x1 x2 x3) (k : Below W.heap.size W W') : Us w W' x0 x1 x2 x3 := ⟨h.bl.trans (k.mono h.bl.size), h.bx.up k⟩
theorem Us.drew {w W : World} {x0 x1 x2 x3 : Value} (h : Us w W x0 x1 x2 x3) : Us w W.drew x0 x1 x2 x3 := ⟨⟨h.bl.os, h.bl.tape, h.bl.output, h.bl.size, h.bl.block⟩, h.bx⟩
theorem us_new (w : World) (x0 x1 x2 x3 : Value) : Us w ((w.alloc (.cells #[x0, x1, x2, x3] 25)).alloc (.cells #[x0, x1, x2, x3] 49)) x0 x1 x2 x3 := by
  refine ⟨((Below.refl _ _).alloc (Nat.le_refl _) _).alloc (by simp) _, ?_⟩
  have h := bx4_new (w.alloc (.cells #[x0, x1, x2, x3] 25)) 49 x0 x1 x2 x3
  simpa using h
set_option maxRecDepth 20000 in
set_option maxHeartbeats 2000000 in
theorem ck_ids (T : TM) (a1 a2 : Option Addr) (c1 c2 : Nat) (w : World) (hv : TVs 0 w T a1 c1 a2 c2) (hs : SmT T) (h1 : 1 ≤ T.most) (h2 : T.most ≤ 64) (h3 : (T.rows.length : Int) ≤ T.most) (hc : Ord.chE (idsR T.rows) ≠ 0) : Calls Try.prog 17 #[tv T a1 c1 a2 c2] w fun e w' => e = .returned (.int .i64 8) ∧ Below w.heap.size w w' := by
  obtain ⟨nm, m, uq, R⟩ := T
  replace hr : RV 0 w a2 R := hv.r
  dsimp only at h1 h2 h3 hc
  show Calls Try.prog 17 #[.agg #[.string nm, .int .i64 m, .slice a1 uq.length c1, .slice a2 R.length c2]] w fun e w' => e = .returned (.int .i64 8) ∧ Below w.heap.size w w'
  have HU := Lib.hid (us_new w (.string nm) (.int .i64 m) (.slice a1 uq.length c1) (.slice a2 R.length c2))
  have hRn : R.length ≤ 1000 := hs.rows
  have HI := Lib.hid (fun W (h : Us w W (.string nm) (.int .i64 m) (.slice a1 uq.length c1) (.slice a2 R.length c2)) => ids_any 0 (w.heap.size + 1) _ _ _ a2 c2 R W h.bx (hr.below h.bl) hRn)
  have HO := Lib.hid (fun ad cap W (h : Ord.SView W ad (idsR R).length (idsR R)) => Ord.check_any ad (idsR R).length cap (idsR R) W h)
  have HN : Hid ((idsR R).length = R.length) := Lib.hid (idsR_len R)
  obtain ⟨z, hz⟩ : ∃ z, z = Ord.chE (idsR R) := ⟨_, rfl⟩
  rw [← hz] at HO hc
  have hc2 : (z == 0) = false := by rw [beq_eq_false_iff_ne]; exact hc
  have hc3 : (z != 0) = true := by simpa using hc
  have p1 := HU.out.bx.c1
  have p3 := HU.out.bx.c3
  obtain ⟨nu, hnu⟩ : ∃ n, n = uq.length := ⟨_, rfl⟩
  obtain ⟨n, hn⟩ : ∃ n, n = R.length := ⟨_, rfl⟩
  rw [← hn] at h3
  rw [← hnu, ← hn] at HU HI p1 p3 ⊢
  rw [← hn] at HN
  obtain ⟨I, hI⟩ : ∃ I, I = idsR R := ⟨_, rfl⟩
  rw [← hI] at HI HO HN
  clear hnu hn hz hI hv hr hs hc hRn
  go_enter Try.func17, Try.ntmps17
  go_wp2_with fail
  have e1 : decide (m < 1) = false := decide_eq_false (by omega)
  have e2 : decide (64 < m) = false := decide_eq_false (by omega)
  have e3 : decide (m < (n : Int)) = false := decide_eq_false (by omega)
  have h1' : ¬ m < 1 := by omega
  have h2' : ¬ 64 < m := by omega
  have h3' : ¬ m < (n : Int) := by omega
  obtain ⟨W, hW⟩ : ∃ W, W = (w.alloc (.cells #[.string nm, .int .i64 m, .slice a1 nu c1, .slice a2 n c2] 25)).alloc (.cells #[.string nm, .int .i64 m, .slice a1 nu c1, .slice a2 n c2] 49) := ⟨_, rfl⟩
  rw [← hW] at p1 p3 HU ⊢
  clear hW
  have HUD := Lib.hid HU.out.drew
  go_still_tail 30, (by kernel_rfl)
  change wpList _ _ _ _ _ W.drew
  generalize W.drew = X at HUD ⊢
  clear p1 p3 HU h1 h2 h3 e1 e2 e3 h1' h2' h3'
  go_wp2_with fail
  refine (HI.out X HUD.out).mono ?_
  rintro e w1 ⟨v, rfl, ho, b1⟩
  rw [← HN.out] at ho
  obtain ⟨ad, cap, rfl, _, _, sv, _, _⟩ := sview_own ho
  have HS := Lib.hid sv
  have B1 := Lib.hid (HUD.out.up b1).bl
  clear ho sv b1
  go_wp2_with fail
  refine (HO.out ad cap w1 HS.out).mono ?_
  rintro e w2 ⟨rfl, b2⟩
  have B2 := Lib.hid (B1.out.trans (b2.mono B1.out.size))
  clear b2
  go_wp2_with fail
  go_ret
  exact ⟨rfl, B2.out⟩
end Go.Proofs.Ytfigebepeniikaa

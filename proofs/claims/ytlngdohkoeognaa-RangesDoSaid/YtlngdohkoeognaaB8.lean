/- Layer 6: the document's 'with'. -/
import Derived.Test.YtlngdohkoeognaaB7
namespace Go.Proofs.Ytlngdohkoeognaa
open Go.RowKit Go.Maps
theorem ins_split (n : Int) : ∀ (M : List Int) (k : Nat), k ≤ M.length → (∀ j, j < k → gI M j < n) → (k < M.length → ¬ gI M k < n) →
    insL M n = if 1114111 < n ∨ (k < M.length ∧ gI M k = n) then M else M.take k ++ n :: M.drop k
  | [], k, hk, _, _ => by
    have e : k = 0 := by simpa using hk
    subst e
    unfold insL
    simp
  | x :: l, 0, _, _, h2 => by
    have h := h2 (by simp)
    have hx : gI (x :: l) 0 = x := rfl
    rw [hx] at h
    unfold insL
    rw [if_neg h, hx]
    by_cases h1 : 1114111 < n
    · rw [if_pos (.inl h1), if_pos (.inl h1)]
    · by_cases h3 : x = n
      · rw [if_pos (.inr h3), if_pos (.inr ⟨by simp, h3⟩)]
      · rw [if_neg (by simp [h1, h3]), if_neg (by simp [h1, h3])]
        simp
  | x :: l, k + 1, hk, h1, h2 => by
    have ih := ins_split n l k (by simpa using hk) (fun j hj => h1 (j + 1) (by omega)) (fun h => h2 (by simpa using h))
    have hx : x < n := h1 0 (by omega)
    have e1 : insL (x :: l) n = x :: insL l n := if_pos hx
    have e2 : gI (x :: l) (k + 1) = gI l k := rfl
    rw [e1, ih, e2]
    by_cases h3 : 1114111 < n ∨ (k < l.length ∧ gI l k = n)
    · rw [if_pos h3, if_pos (by simpa using h3)]
    · rw [if_neg h3, if_neg (by simpa using h3)]
      simp
theorem rI_take (M : List Int) (k : Nat) : rI (M.take k) = (rI M).take k := by unfold rI; rw [List.map_take]
theorem rI_drop (M : List Int) (k : Nat) : rI (M.drop k) = (rI M).drop k := by unfold rI; rw [List.map_drop]
theorem iv_news {w : World} {q : Nat} {M : List Int} (h : IV w (some ⟨q, 0, none⟩) M) (k : Nat) : ∀ j u, ((rI M).drop k)[j]? = some u → w.cell? ((⟨q, k, none⟩ : Addr).add j) = some u := by
  intro j u hj
  rw [List.getElem?_drop] at hj
  have hlt : k + j < M.length := by have := (List.getElem?_eq_some_iff.1 hj).1; rwa [rI_len] at this
  rw [rI_at M _ hlt] at hj
  obtain ⟨_, c0⟩ := h.at_ hlt
  rw [Addr.add_lit]
  show w.cell? ⟨q, k + j, none⟩ = some u
  rw [Nat.zero_add] at c0
  rw [c0]; exact hj
theorem iv_news0 {w : World} {q : Nat} {M : List Int} (h : IV w (some ⟨q, 0, none⟩) M) (k : Nat) : ∀ j u, ((rI M).take k)[j]? = some u → w.cell? ((⟨q, 0, none⟩ : Addr).add j) = some u := by
  intro j u hj
  have hj2 : (rI M)[j]? = some u := by
    rw [List.getElem?_take] at hj
    split at hj
    · exact hj
    · cases hj
  exact iv_news h 0 j u (by simpa using hj2)
theorem fin_own {w0 w w3 : World} (hb : w0.heap.size ≤ w.heap.size) {v : Value} {n : Nat} {xs : List Value} {L : List Int} (h : w3.ownsRow w.heap.size 3 1 v n xs) (hx : xs = rI L) (hn : n = L.length) : OwnI w3 w0.heap.size v L := by
  subst hx
  subst hn
  exact own_base h hb
/-- The number whose slot it is. -/
def AtPost (w0 w : World) (L : List Int) (e : Ending) (w' : World) : Prop := ∃ v', e = .returned v' ∧ AddPost w0 L v' w'
set_option maxRecDepth 20000 in
set_option maxHeartbeats 4000000 in
theorem with_any {w0 : World} (v : Value) (M : List Int) (x : Int) (w : World) (hb : Below w0.heap.size w0 w) (ho : OwnI w w0.heap.size v M) (h0 : 0 < M.length) (hm : M.length ≤ 1000000) :
    Calls Try.prog 76 #[v, .int .i64 x] w (AtPost w0 w (insL M x)) := by
  obtain ⟨i0, hi, hz0, hz1, hz2⟩ := infoI
  have HB := Lib.hid hb
  have HO := Lib.hid ho
  obtain ⟨q, cap, rfl⟩ := own_slice ho h0
  obtain ⟨ad, cap', e1, hlc, hiv, _⟩ := ho.view
  simp only [Value.slice.injEq, true_and] at e1
  obtain ⟨rfl, rfl⟩ := e1
  have HIV := Lib.hid hiv
  obtain ⟨R, hR⟩ : ∃ R, R = insL M x := ⟨_, rfl⟩
  rw [← hR]
  have HR := Lib.hid hR
  obtain ⟨n, hn⟩ : ∃ n, n = M.length := ⟨_, rfl⟩
  rw [← hn] at hm hlc h0 ⊢
  have HN := Lib.hid hn
  have HON : Hid (OwnI w w0.heap.size (.slice (some ⟨q, 0, none⟩) n cap) M) := Lib.hid (by rw [hn]; exact ho)
  have HLC := Lib.hid hlc
  have HM := Lib.hid hm
  clear hb ho hiv hR hn
  go_enter Try.func76, Try.ntmps76
  go_wp2_with fail
  go_loopg [5] n (fun f v wr => w = wr ∧ ∃ k : Nat, v = .int .i64 (k : Nat) ∧ k ≤ n ∧ n - k ≤ f ∧ (∀ j, j < k → gI M j < x))
  case atStart => exact ⟨rfl, 0, rfl, by omega, by omega, fun j hj => absurd hj (Nat.not_lt_zero j)⟩
  case round =>
    obtain ⟨rfl, k, rfl, hkn, hf, hlow⟩ := hrel
    have HLOW := Lib.hid hlow
    have HF := Lib.hid hf
    have HKN := Lib.hid hkn
    by_cases hlt : k < n
    · have hlt' : (k : Int) < (n : Int) := by omega
      obtain ⟨_, c0⟩ := HIV.out.at_ (i := k) (by rw [← HN.out]; exact hlt)
      rw [Nat.zero_add] at c0
      obtain ⟨y, hy⟩ : ∃ y, y = gI M k := ⟨_, rfl⟩
      rw [← hy] at c0
      have HY := Lib.hid hy
      have hbig : (k : Int) + 1 ≤ 9223372036854775807 := by omega
      have HLT := Lib.hid hlt
      clear hlow hf hkn hy hlt
      by_cases hyx : y < x
      · have HNX : Hid (∀ j, j < k + 1 → gI M j < x) := Lib.hid (upto_next HLOW.out (by rw [← HY.out]; exact hyx))
        go_wp2_with fail
        go_roundg (gk - 1)
        case measure => have := HF.out; have := HLT.out; omega
        case rel => exact ⟨rfl, k + 1, by rw [show ((k + 1 : Nat) : Int) = (k : Int) + 1 by omega], by have := HLT.out; omega, by have := HF.out; omega, HNX.out⟩
      · have HSP := Lib.hid (ins_split x M k (by rw [← HN.out]; exact HKN.out) HLOW.out (fun _ => by rw [← HY.out]; exact hyx))
        by_cases hbig2 : 1114111 < x
        · have HRE : Hid (R = M) := Lib.hid (by rw [HR.out, HSP.out, if_pos (.inl hbig2)])
          go_wp2_with fail
          go_ret
          exact ⟨_, rfl, by rw [HRE.out]; exact HON.out, HB.out⟩
        · by_cases hyx2 : y = x
          · have HRE : Hid (R = M) := Lib.hid (by rw [HR.out, HSP.out, if_pos (.inr ⟨by rw [← HN.out]; exact HLT.out, by rw [← HY.out]; exact hyx2⟩)])
            have hyb : (y == x) = true := by rw [beq_iff_eq]; exact hyx2
            clear hyx2
            go_wp2_with fail
            go_ret
            exact ⟨_, rfl, by rw [HRE.out]; exact HON.out, HB.out⟩
          · have HRE : Hid (R = M.take k ++ x :: M.drop k) := Lib.hid (by rw [HR.out, HSP.out, if_neg]; rintro (h | ⟨_, h⟩); exact hbig2 h; exact hyx2 (by rw [HY.out]; exact h))
            have hyb : (y == x) = false := by rw [beq_eq_false_iff_ne]; exact hyx2
            clear hyx2
            have hcap : ¬ cap = k := by have := HLC.out; have := HLT.out; omega
            have HNIL := Lib.hid (World.ownsRow_nil w w.heap.size 3 1)
            have HL1 : Hid (((rI M).take k).length = k * 1) := Lib.hid (by rw [List.length_take, rI_len]; have := HN.out; have := HKN.out; omega)
            have HNW1 := Lib.hid (iv_news0 HIV.out k)
            have HONE1 : Hid (∀ u ∈ (rI M).take k, u.oneCell' = true) := Lib.hid (fun u hu => rI_one M u (List.mem_of_mem_take hu))
            have HONE3 : Hid (∀ u ∈ (rI M).drop k, u.oneCell' = true) := Lib.hid (fun u hu => rI_one M u (List.mem_of_mem_drop hu))
            have HL3 : Hid (((rI M).drop k).length = n - k) := Lib.hid (by rw [List.length_drop, rI_len, HN.out])
            have hkc : ((k : Nat) : Int) ≤ (cap : Int) := by have := HLC.out; have := HKN.out; omega
            have hkn' : ((k : Nat) : Int) ≤ (n : Int) := by have := HKN.out; omega
            have hnc : (n : Int) ≤ (cap : Int) := by have := HLC.out; omega
            have T1 : True := trivial
            have T2 : True := trivial
            have hm1 := HM.out
            have hkm := HKN.out
            clear HLOW HF
            go_wp2_with (first
              | (have _t := T1; at_builtin; refine wpList_append_own _ rfl _ _ 27 rfl w.heap.size 3 i0 (.int .i64 0) 1 8 Try.underlying27 hi hz0 hz1 hz2 rfl (by decide) (.slice none 0 0) 0 [] rfl HNIL.out ⟨q, 0, none⟩ k cap ((rI M).take k) rfl HL1.out HNW1.out HONE1.out (by unfold maxLen; omega) (by omega) (Nat.le_refl _) ?_; clear _t; clear T1; intro v1 w1 ho1 hg1 _; have HO1 := Lib.hid ho1; have HB1 := Lib.hid (below_own (Below.refl _ _) HNIL.out hg1); clear ho1 hg1)
              | (have _t := T2; at_builtin; refine wpList_append_own _ rfl _ _ 27 rfl w.heap.size 3 i0 (.int .i64 0) 1 8 Try.underlying27 hi hz0 hz1 hz2 rfl (by decide) v1 (0 + k) ([] ++ (rI M).take k) rfl (HO1.out.alloc _) ⟨w1.heap.size, 0, none⟩ 1 1 [.int .i64 x] rfl rfl (cell_one_new _ _ _) (ints_oneCell .i64 [x]) (by unfold maxLen; omega) (by omega) (by have := HB1.out.size; simp; omega) ?_; clear _t; clear T2; intro v2 w2 ho2 hg2 _; have HO2 := Lib.hid ho2; have HB2 := Lib.hid (below_own (HB1.out.alloc HB1.out.size _) (HO1.out.alloc _) hg2); clear ho2 hg2; have HIV2 := Lib.hid (HIV.out.below HB2.out))
              | (at_builtin; refine wpList_append_own _ rfl _ _ 27 rfl w.heap.size 3 i0 (.int .i64 0) 1 8 Try.underlying27 hi hz0 hz1 hz2 rfl (by decide) v2 (0 + k + 1) ([] ++ (rI M).take k ++ [.int .i64 x]) rfl HO2.out _ _ _ ((rI M).drop k) rfl (by rw [HL3.out]; omega) (iv_news HIV2.out k) HONE3.out (by unfold maxLen; omega) (by omega) (by have := HB2.out.size; omega) ?_; intro v3 w3 ho3 hg3 _; have HO3 := Lib.hid ho3; have HB3 := Lib.hid (below_own HB2.out HO2.out hg3); clear ho3 hg3))
            go_ret
            exact ⟨_, rfl, by rw [HRE.out]; exact fin_own HB.out.size HO3.out (by rw [rI_app]; simp [rI]) (by rw [List.length_append, List.length_cons, List.length_take, List.length_drop]; have := HN.out; omega), HB.out.trans (HB3.out.mono HB.out.size)⟩
    · have e9 : k = n := by omega
      subst e9
      have HSP := Lib.hid (ins_split x M k (by rw [← HN.out]; exact Nat.le_refl _) HLOW.out (fun h => absurd h (by rw [← HN.out]; omega)))
      clear hlow hf hkn hlt
      by_cases hbig2 : 1114111 < x
      · have HRE : Hid (R = M) := Lib.hid (by rw [HR.out, HSP.out, if_pos (.inl hbig2)])
        go_wp2_with fail
        go_ret
        exact ⟨_, rfl, by rw [HRE.out]; exact HON.out, HB.out⟩
      · have HRE : Hid (R = M.take k ++ x :: M.drop k) := Lib.hid (by rw [HR.out, HSP.out, if_neg]; rintro (h | ⟨h, _⟩); exact hbig2 h; rw [← HN.out] at h; omega)
        by_cases hcap : cap = k
        · subst hcap
          have HNIL := Lib.hid (World.ownsRow_nil w w.heap.size 3 1)
          have HL1 : Hid (((rI M).take cap).length = cap * 1) := Lib.hid (by rw [List.length_take, rI_len]; have := HN.out; have := HKN.out; omega)
          have HNW1 := Lib.hid (iv_news0 HIV.out cap)
          have HONE1 : Hid (∀ u ∈ (rI M).take cap, u.oneCell' = true) := Lib.hid (fun u hu => rI_one M u (List.mem_of_mem_take hu))
          have HONE3 : Hid (∀ u ∈ (rI M).drop cap, u.oneCell' = true) := Lib.hid (fun u hu => rI_one M u (List.mem_of_mem_drop hu))
          have HL3 : Hid (((rI M).drop cap).length = cap - cap) := Lib.hid (by rw [List.length_drop, rI_len, HN.out])
          have hkc : ((cap : Nat) : Int) ≤ (cap : Int) := by have := HLC.out; have := HKN.out; omega
          have hkn' : ((cap : Nat) : Int) ≤ (cap : Int) := by have := HKN.out; omega
          have hnc : (cap : Int) ≤ (cap : Int) := by have := HLC.out; omega
          have T1 : True := trivial
          have T2 : True := trivial
          have hm1 := HM.out
          have hkm := HKN.out
          clear HLOW HF
          go_wp2_with (first
            | (have _t := T1; at_builtin; refine wpList_append_own _ rfl _ _ 27 rfl w.heap.size 3 i0 (.int .i64 0) 1 8 Try.underlying27 hi hz0 hz1 hz2 rfl (by decide) (.slice none 0 0) 0 [] rfl HNIL.out ⟨q, 0, none⟩ cap cap ((rI M).take cap) rfl HL1.out HNW1.out HONE1.out (by unfold maxLen; omega) (by omega) (Nat.le_refl _) ?_; clear _t; clear T1; intro v1 w1 ho1 hg1 _; have HO1 := Lib.hid ho1; have HB1 := Lib.hid (below_own (Below.refl _ _) HNIL.out hg1); clear ho1 hg1)
            | (have _t := T2; at_builtin; refine wpList_append_own _ rfl _ _ 27 rfl w.heap.size 3 i0 (.int .i64 0) 1 8 Try.underlying27 hi hz0 hz1 hz2 rfl (by decide) v1 (0 + cap) ([] ++ (rI M).take cap) rfl (HO1.out.alloc _) ⟨w1.heap.size, 0, none⟩ 1 1 [.int .i64 x] rfl rfl (cell_one_new _ _ _) (ints_oneCell .i64 [x]) (by unfold maxLen; omega) (by omega) (by have := HB1.out.size; simp; omega) ?_; clear _t; clear T2; intro v2 w2 ho2 hg2 _; have HO2 := Lib.hid ho2; have HB2 := Lib.hid (below_own (HB1.out.alloc HB1.out.size _) (HO1.out.alloc _) hg2); clear ho2 hg2; have HIV2 := Lib.hid (HIV.out.below HB2.out))
            | (at_builtin; refine wpList_append_own _ rfl _ _ 27 rfl w.heap.size 3 i0 (.int .i64 0) 1 8 Try.underlying27 hi hz0 hz1 hz2 rfl (by decide) v2 (0 + cap + 1) ([] ++ (rI M).take cap ++ [.int .i64 x]) rfl HO2.out _ _ _ ((rI M).drop cap) rfl (by rw [HL3.out]; omega) (by intro j u hj; have := (List.getElem?_eq_some_iff.1 hj).1; rw [HL3.out] at this; omega) HONE3.out (by unfold maxLen; omega) (by omega) (by have := HB2.out.size; omega) ?_; intro v3 w3 ho3 hg3 _; have HO3 := Lib.hid ho3; have HB3 := Lib.hid (below_own HB2.out HO2.out hg3); clear ho3 hg3))
          go_ret
          exact ⟨_, rfl, by rw [HRE.out]; exact fin_own HB.out.size HO3.out (by rw [rI_app]; simp [rI]) (by rw [List.length_append, List.length_cons, List.length_take, List.length_drop]; have := HN.out; omega), HB.out.trans (HB3.out.mono HB.out.size)⟩
        · have HNIL := Lib.hid (World.ownsRow_nil w w.heap.size 3 1)
          have HL1 : Hid (((rI M).take k).length = k * 1) := Lib.hid (by rw [List.length_take, rI_len]; have := HN.out; have := HKN.out; omega)
          have HNW1 := Lib.hid (iv_news0 HIV.out k)
          have HONE1 : Hid (∀ u ∈ (rI M).take k, u.oneCell' = true) := Lib.hid (fun u hu => rI_one M u (List.mem_of_mem_take hu))
          have HONE3 : Hid (∀ u ∈ (rI M).drop k, u.oneCell' = true) := Lib.hid (fun u hu => rI_one M u (List.mem_of_mem_drop hu))
          have HL3 : Hid (((rI M).drop k).length = k - k) := Lib.hid (by rw [List.length_drop, rI_len, HN.out])
          have hkc : ((k : Nat) : Int) ≤ (cap : Int) := by have := HLC.out; have := HKN.out; omega
          have hkn' : ((k : Nat) : Int) ≤ (k : Int) := by have := HKN.out; omega
          have hnc : (k : Int) ≤ (cap : Int) := by have := HLC.out; omega
          have T1 : True := trivial
          have T2 : True := trivial
          have hm1 := HM.out
          have hkm := HKN.out
          clear HLOW HF
          go_wp2_with (first
            | (have _t := T1; at_builtin; refine wpList_append_own _ rfl _ _ 27 rfl w.heap.size 3 i0 (.int .i64 0) 1 8 Try.underlying27 hi hz0 hz1 hz2 rfl (by decide) (.slice none 0 0) 0 [] rfl HNIL.out ⟨q, 0, none⟩ k cap ((rI M).take k) rfl HL1.out HNW1.out HONE1.out (by unfold maxLen; omega) (by omega) (Nat.le_refl _) ?_; clear _t; clear T1; intro v1 w1 ho1 hg1 _; have HO1 := Lib.hid ho1; have HB1 := Lib.hid (below_own (Below.refl _ _) HNIL.out hg1); clear ho1 hg1)
            | (have _t := T2; at_builtin; refine wpList_append_own _ rfl _ _ 27 rfl w.heap.size 3 i0 (.int .i64 0) 1 8 Try.underlying27 hi hz0 hz1 hz2 rfl (by decide) v1 (0 + k) ([] ++ (rI M).take k) rfl (HO1.out.alloc _) ⟨w1.heap.size, 0, none⟩ 1 1 [.int .i64 x] rfl rfl (cell_one_new _ _ _) (ints_oneCell .i64 [x]) (by unfold maxLen; omega) (by omega) (by have := HB1.out.size; simp; omega) ?_; clear _t; clear T2; intro v2 w2 ho2 hg2 _; have HO2 := Lib.hid ho2; have HB2 := Lib.hid (below_own (HB1.out.alloc HB1.out.size _) (HO1.out.alloc _) hg2); clear ho2 hg2; have HIV2 := Lib.hid (HIV.out.below HB2.out))
            | (at_builtin; refine wpList_append_own _ rfl _ _ 27 rfl w.heap.size 3 i0 (.int .i64 0) 1 8 Try.underlying27 hi hz0 hz1 hz2 rfl (by decide) v2 (0 + k + 1) ([] ++ (rI M).take k ++ [.int .i64 x]) rfl HO2.out _ _ _ ((rI M).drop k) rfl (by rw [HL3.out]; omega) (by intro j u hj; have := (List.getElem?_eq_some_iff.1 hj).1; rw [HL3.out] at this; omega) HONE3.out (by unfold maxLen; omega) (by omega) (by have := HB2.out.size; omega) ?_; intro v3 w3 ho3 hg3 _; have HO3 := Lib.hid ho3; have HB3 := Lib.hid (below_own HB2.out HO2.out hg3); clear ho3 hg3))
          go_ret
          exact ⟨_, rfl, by rw [HRE.out]; exact fin_own HB.out.size HO3.out (by rw [rI_app]; simp [rI]) (by rw [List.length_append, List.length_cons, List.length_take, List.length_drop]; have := HN.out; omega), HB.out.trans (HB3.out.mono HB.out.size)⟩
end Go.Proofs.Ytlngdohkoeognaa

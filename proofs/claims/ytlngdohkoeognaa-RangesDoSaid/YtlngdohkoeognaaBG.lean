/- Layer 6: slices.Grow and slices.Concat of ranges. -/
import Derived.Test.YtlngdohkoeognaaB5
import Derived.Lib.AppendZerosOnto
import Derived.Lib.SliceRun
import Derived.OwnWalk
namespace Go.Proofs.Ytlngdohkoeognaa
open Go.RowKit Go.Maps
theorem rv_news' {w : World} {ad : Addr} {L : List Rg} (h : RV w (some ad) L) : ∀ j u, (rw2 L)[j]? = some u → w.cell? (ad.add j) = some u := by
  intro j u hj
  by_cases h0 : L.length = 0
  · have e0 : L = [] := List.length_eq_zero_iff.1 h0
    subst e0
    simp [rw2_nil] at hj
  · obtain ⟨b, off, e⟩ := h.addr (by omega)
    cases e
    exact rv_news h j u hj
set_option maxRecDepth 20000 in
theorem grow_nil (n : Nat) (w : World) (h0 : 0 < n) (hn : n ≤ 1000000) :
    Calls Try.prog 59 #[.slice none 0 0, .int .i64 n] w fun e w' => ∃ v, e = .returned v ∧ Own w' w.heap.size v [] ∧ Below w.heap.size w w' := by
  obtain ⟨i0, hi, hz0, hz1, hz2⟩ := infoR
  have hrz : ∀ ty, (Builtin.append_ #[22, 3] ty #[.slice none 0 0, .int .i64 (n : Int)]).run Try.prog w =
      .ok (.slice (some ⟨w.heap.size, 0, none⟩) n (grownCap w n 0 48)) (w.drew.alloc (.cells (Builtin.zeroCells (Value.agg #[.int .i64 0, .int .i64 0]).cells n ++ Builtin.zeroCells (Value.agg #[.int .i64 0, .int .i64 0]).cells (grownCap w n 0 48 - n)) 48)) := fun ty => by
    have h := Lib.run_append_grow_zeros w 22 3 ty 48 i0 (.agg #[.int .i64 0, .int .i64 0]) .i64 .i64 Try.underlying22 Try.underlying3 hi hz0 none 0 0 [] (run_firstCells_none w.drew i0.size 0 0 0) n h0 (by omega) (by omega) (by omega) (by rw [hz2]; omega)
      (by rw [Nat.zero_add, hz2]; exact growslice_fits h0 (by omega))
    simpa using h
  have hG := grownCap_ge w n 0 48
  have hGm := grownCap_le_maxLen w n 0 48 (by unfold maxLen; omega)
  obtain ⟨G, hGG⟩ : ∃ G, G = grownCap w n 0 48 := ⟨_, rfl⟩
  rw [← hGG] at hG hGm
  have hrz2 : ∀ ty, (Builtin.append_ #[22, 3] ty #[.slice none 0 0, .int .i64 (n : Int)]).run Try.prog w =
      .ok (.slice (some ⟨w.heap.size, 0, none⟩) n G) (w.drew.alloc (.cells (Builtin.zeroCells (Value.agg #[.int .i64 0, .int .i64 0]).cells n ++ Builtin.zeroCells (Value.agg #[.int .i64 0, .int .i64 0]).cells (G - n)) 48)) := fun ty => by rw [hrz ty, hGG]
  obtain ⟨C, hC⟩ : ∃ C, C = Builtin.zeroCells (Value.agg #[.int .i64 0, .int .i64 0]).cells n ++ Builtin.zeroCells (Value.agg #[.int .i64 0, .int .i64 0]).cells (G - n) := ⟨_, rfl⟩
  have hCs : C.size = G * 2 := by rw [hC]; simp [size_zeroCells, Value.cells]; omega
  rw [← hC] at hrz2
  have HM : Hid (Own (w.drew.alloc (.cells C 48)) w.heap.size (.slice (some ⟨w.heap.size, 0, none⟩) 0 G) []) := Lib.hid (World.ownsRow_made (base := w.heap.size) (e := 48) (size := 2) w.drew C G (Nat.le_refl _) hGm hCs)
  have HB : Hid (Below w.heap.size w (w.drew.alloc (.cells C 48))) := Lib.hid ((Below.refl w.heap.size w).drew.alloc (Nat.le_refl _) _)
  have hG63 : G ≤ 9223372036854775807 := by unfold maxLen at hGm; omega
  clear hrz hC hCs hGG hGm
  go_enter Try.func59, Try.ntmps59
  go_wp2_with (at_builtin; refine Lib.wpList_append_run _ rfl _ _ _ _ rfl _ _ rfl rfl _ _ (hrz2 _) ?_)
  go_ret
  exact ⟨_, rfl, HM.out, HB.out⟩
set_option maxRecDepth 20000 in
theorem grow_any (n : Nat) (w : World) (hn : n ≤ 1000000) :
    Calls Try.prog 59 #[.slice none 0 0, .int .i64 n] w fun e w' => ∃ v, e = .returned v ∧ Own w' w.heap.size v [] ∧ Below w.heap.size w w' := by
  by_cases h0 : n = 0
  · subst h0
    go_enter Try.func59, Try.ntmps59
    go_wp2_with fail
    go_ret
    exact ⟨_, rfl, Own.nil _ _, Below.refl _ _⟩
  · exact grow_nil n w (by omega) hn
def flatR (S : List (List Rg)) (k : Nat) : List Rg := (S.take k).flatten
theorem flatR_succ {S : List (List Rg)} {k : Nat} (h : k < S.length) : flatR S (k + 1) = flatR S k ++ setAt S k := by
  unfold flatR
  rw [List.take_add_one, set_get h, List.flatten_append]; simp
theorem flatR_all (S : List (List Rg)) : flatR S S.length = S.flatten := by unfold flatR; rw [List.take_length]
theorem flatR_mono {S : List (List Rg)} {j : Nat} : ∀ k, j ≤ k → k ≤ S.length → (flatR S j).length ≤ (flatR S k).length := by
  intro k
  induction k with
  | zero => intro h _; obtain rfl : j = 0 := by omega
            exact Nat.le_refl _
  | succ k ih =>
    intro h hk
    by_cases e : j = k + 1
    · subst e; exact Nat.le_refl _
    · have := ih (by omega) (by omega)
      rw [flatR_succ (by omega), List.length_append]; omega
def ConcatPost (w : World) (L : List Rg) (e : Ending) (w' : World) : Prop := ∃ v, e = .returned v ∧ Own w' w.heap.size v L ∧ Below w.heap.size w w'
set_option maxRecDepth 20000 in
theorem concat_any (a : Option Addr) (cap : Nat) (S : List (List Rg)) (w : World) (hv : SV w a S) (hn : S.length ≤ 1000) (ht : S.flatten.length ≤ 100000) :
    Calls Try.prog 45 #[.slice a S.length cap] w (ConcatPost w S.flatten) := by
  obtain ⟨i0, hi, hz0, hz1, hz2⟩ := infoR
  obtain ⟨n, hnl⟩ : ∃ n, n = S.length := ⟨_, rfl⟩
  rw [← hnl] at hn ⊢
  have HV := Lib.hid hv
  have HM : Hid (∀ j, j ≤ n → (flatR S j).length ≤ 100000) := Lib.hid (fun j hj => by
    have := flatR_mono (S := S) n hj (by omega)
    rw [hnl, flatR_all] at this
    omega)
  have HN := Lib.hid hnl
  clear hv ht hnl
  go_enter Try.func45, Try.ntmps45
  go_wp2_with fail
  go_loopw [3, 11] (fun z i wr => ∃ k : Nat, k ≤ n ∧ i = .int .i64 k ∧ z = .int .i64 ((flatR S k).length : Nat) ∧ w = wr) (fun _ i _ => n - (intOf i).toNat)
  case atStart => exact ⟨0, by omega, rfl, rfl, rfl⟩
  case round =>
    obtain ⟨k, hk, rfl, rfl, rfl⟩ := hrel
    by_cases hlt : k < n
    · obtain ⟨b, off, rfl, hbb, ad, cp, c0, hcp, hcm, hrv, hnn⟩ := HV.out k (by rw [← HN.out]; exact hlt)
      have hl : (flatR S k).length + (S.getD k []).length = (flatR S (k + 1)).length := by rw [flatR_succ (by rw [← HN.out]; exact hlt)]; simp [setAt]
      have hm := HM.out (k + 1) (by omega)
      obtain ⟨z1, hz1'⟩ : ∃ z, z = (flatR S k).length := ⟨_, rfl⟩
      obtain ⟨z2, hz2'⟩ : ∃ z, z = (flatR S (k + 1)).length := ⟨_, rfl⟩
      obtain ⟨lk, hlk⟩ : ∃ z, z = (S.getD k []).length := ⟨_, rfl⟩
      rw [← hz1', ← hz2', ← hlk] at hl
      rw [← hz2'] at hm
      rw [← hlk] at c0
      rw [← hz1']
      have HZ2 := Lib.hid hz2'
      clear hcp hcm hrv hnn hz1' hz2' hlk hbb
      go_wp2_with fail
      go_roundw
      case rel => exact ⟨k + 1, by omega, by go_num, by rw [← HZ2.out, ← hl]; go_num, trivial⟩
      case measure => simp [intOf]; omega
    · obtain rfl : k = n := by omega
      have hT := HM.out k (Nat.le_refl _)
      obtain ⟨z1, hz1'⟩ : ∃ z, z = (flatR S k).length := ⟨_, rfl⟩
      rw [← hz1'] at hT ⊢
      have HZ1 := Lib.hid hz1'
      clear hz1'
      go_wp2_with fail
      refine (grow_any z1 _ (by omega)).mono ?_
      rintro e w1 ⟨v1, rfl, ho1, b1⟩
      have HO1 := Lib.hid ho1
      have HB1 := Lib.hid b1
      clear ho1 b1
      go_wp2_with fail
      go_loopw [6, 27] (fun u i wr => ∃ (j : Nat) (v : Value), j ≤ k ∧ i = .int .i64 j ∧ v = u ∧ Own wr w.heap.size v (flatR S j) ∧ Below w.heap.size w wr) (fun _ i _ => k - (intOf i).toNat)
      case atStart => exact ⟨0, _, by omega, rfl, rfl, HO1.out, HB1.out⟩
      case round =>
        obtain ⟨j, v, hj, rfl, rfl, hown, hb⟩ := hrel
        by_cases hlt2 : j < k
        · obtain ⟨b, off, rfl, hbb, ad, cp, c0, hcp, hcm, hrv, hnn⟩ := (HV.out.below hb) j (by rw [← HN.out]; exact hlt2)
          have hfl := flatR_succ (S := S) (k := j) (by rw [← HN.out]; exact hlt2)
          have hm := HM.out (j + 1) (by omega)
          rw [hfl, List.length_append] at hm
          rw [show S.getD j [] = setAt S j from rfl] at c0 hrv hnn hcp
          obtain ⟨P, hP⟩ : ∃ P, P = setAt S j := ⟨_, rfl⟩
          rw [← hP] at c0 hrv hnn hcp hfl hm
          obtain ⟨M, hM⟩ : ∃ P, P = flatR S j := ⟨_, rfl⟩
          rw [← hM] at hown hfl hm
          obtain ⟨lk, hlk⟩ : ∃ z, z = P.length := ⟨_, rfl⟩
          obtain ⟨lm, hlm⟩ : ∃ z, z = M.length := ⟨_, rfl⟩
          rw [← hlk] at c0 hnn hm hcp
          rw [← hlm] at hm
          obtain ⟨xs, hxs⟩ : ∃ xs, xs = rw2 M := ⟨_, rfl⟩
          have HO : Hid (wr.ownsRow w.heap.size 48 2 v lm xs) := Lib.hid (by rw [hxs, hlm]; exact hown)
          have HB := Lib.hid hb
          have hsz := hb.size
          have HF := Lib.hid hfl
          have HLK := Lib.hid hlk
          have HLM := Lib.hid hlm
          have HXS := Lib.hid hxs
          cases ad with
          | none =>
            obtain ⟨rfl, rfl⟩ := hnn rfl
            have hpe : Hid (flatR S (j + 1) = M) := Lib.hid (by
              have : P = [] := List.length_eq_zero_iff.1 hlk.symm
              rw [hfl, this, List.append_nil])
            clear hown hb hrv hnn hm hfl hlk hlm hxs hP hM hbb hcp hcm
            go_wp2_with (at_builtin; refine wpList_append_own_none rfl _ _ 22 rfl w.heap.size 48 i0 2 Try.underlying22 hi _ _ _ rfl HO.out rfl ?_)
            go_roundw
            case rel => exact ⟨j + 1, _, by omega, by go_num, rfl, by rw [hpe.out]; unfold Own; rw [← HLM.out, ← HXS.out]; exact HO.out, HB.out⟩
            case measure => simp [intOf]; omega
          | some ad =>
            have HNW := Lib.hid (rv_news' hrv)
            have HL : Hid ((rw2 P).length = lk * 2) := Lib.hid (by rw [hlk]; exact rw2_len P)
            have H1 := Lib.hid (rw2_one P)
            obtain ⟨V, hV⟩ : ∃ V, V = rw2 P := ⟨_, rfl⟩
            rw [← hV] at HNW HL H1
            have HVV := Lib.hid hV
            have hbig : lm + lk ≤ maxLen := by unfold maxLen; omega
            have hbig2 : (lm + lk) * 16 ≤ 140737488355328 := by omega
            clear hown hb hrv hnn hfl hlk hlm hxs hP hM hV hbb hcp hcm
            go_wp2_with (at_builtin; refine wpList_append_own _ rfl _ _ 22 rfl w.heap.size 48 i0 (.agg #[.int .i64 0, .int .i64 0]) 2 16 Try.underlying22 hi hz0 hz1 hz2 rfl (by decide) v lm xs rfl HO.out ad lk cp V rfl HL.out HNW.out H1.out hbig hbig2 hsz ?_; intro v1 w1 ho1 hg1 _)
            go_roundw
            case rel => exact ⟨j + 1, _, by omega, by go_num, rfl, by rw [HF.out]; unfold Own; rw [List.length_append, ← HLM.out, ← HLK.out, rw2_app, ← HXS.out, ← HVV.out]; exact ho1, HB.out.grown hg1 hsz (fun q hq => (HO.out.lt q hq).1)⟩
            case measure => simp [intOf]; omega
        · obtain rfl : j = k := by omega
          have HO := Lib.hid hown
          have HB := Lib.hid hb
          clear hown hb
          go_wp2_with fail
          go_ret
          exact ⟨_, rfl, by rw [← flatR_all, ← HN.out]; exact HO.out, HB.out⟩
end Go.Proofs.Ytlngdohkoeognaa

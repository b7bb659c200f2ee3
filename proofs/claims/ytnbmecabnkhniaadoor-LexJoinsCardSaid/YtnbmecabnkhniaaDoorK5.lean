import Derived.Test.YtnbmecabnkhniaaDoorK4
import Derived.Deep.DeepCutAuto
import Derived.Deep.LoopGhost
import Derived.Laws.AppendOwn
import Derived.Laws.AppendOwnNone
import Derived.Deep.QuietTactic
import Derived.Test.YtnbmecabnkhniaaDoorK2
import Derived.BigQuiet
import Derived.Deep.RegionWith
/- Layer 17: Great, Tell, Joined, Join by the document. -/
namespace Go.Proofs.YtnbmecabnkhniaaDoor
open Go.RowKit Go.Maps
theorem app_size (a b : ByteArray) : (a ++ b).size = a.size + b.size := ByteArray.size_append
theorem quT_size (s : ByteArray) : (quT s).size ≤ 6 * s.size + 2 := by
  unfold quT
  rw [mkB_size, List.length_append, List.length_singleton]
  have := quL_len s s.size
  omega
def gsum (g : Nat → TkR) : Nat → Nat
  | 0 => 0
  | i + 1 => gsum g i + min (g i).s.size 10000
theorem gsum_mono (g : Nat → TkR) : ∀ {n j : Nat}, j ≤ n → gsum g j ≤ gsum g n := by
  intro n
  induction n with
  | zero => intro j hj; rw [Nat.le_zero.1 hj]; exact Nat.le_refl _
  | succ n ih =>
    intro j hj
    by_cases e : j = n + 1
    · rw [e]; exact Nat.le_refl _
    · have := ih (j := j) (by omega)
      have e2 : gsum g (n + 1) = gsum g n + min (g n).s.size 10000 := rfl
      omega
theorem gsum_le (g : Nat → TkR) : ∀ n, gsum g n ≤ 10000 * n
  | 0 => Nat.le_refl _
  | n + 1 => by have := gsum_le g n; unfold gsum; omega
def SmT (g : Nat → TkR) (n : Nat) : Prop := ∀ i, i < n → (g i).s.size ≤ 3000
theorem gsum_small {g : Nat → TkR} {n : Nat} (h : gsum g n ≤ 3000) : SmT g n := fun i hi => by
  have h1 := gsum_mono g (show i + 1 ≤ n from hi)
  have e2 : gsum g (i + 1) = gsum g i + min (g i).s.size 10000 := rfl
  omega
def GtP (g : Nat → TkR) (n : Nat) (w : World) (r : Ending) (w' : World) : Prop := ∃ x, r = .returned (.bool x) ∧ (x = false → n ≤ 200 ∧ SmT g n) ∧ w' = w
set_option maxRecDepth 20000 in
theorem rgreat_any (a : Option Addr) (n cap : Nat) (g : Nat → TkR) (w : World) (hv : TkV w a n g) (hn : n ≤ maxLen) : Calls Tryd.prog 4 #[.slice a n cap] w (GtP g n w) := by
  unfold maxLen at hn
  have HV := Lib.hid hv
  clear hv
  have hn' : (n : Int) ≤ 9223372036854775807 := by omega
  go_enter Tryd.func4, Tryd.ntmps4
  go_wp2_with fail
  go_loop [3, 4] (fun v3 v4 => ∃ i : Nat, i ≤ n ∧ i ≤ 300 ∧ v4 = .int .i64 i ∧ v3 = .int .i64 (gsum g i)) (fun _ v4 => 300 - (intOf v4).toNat)
  case atStart => exact ⟨0, Nat.zero_le _, Nat.zero_le _, rfl, rfl⟩
  case round =>
    obtain ⟨i, hi, him, rfl, rfl⟩ := hrel
    have hle := gsum_le g i
    by_cases h1 : i < n
    · by_cases h2 : i < 300
      · obtain ⟨b, off, rfl⟩ := HV.out.addr (by omega)
        obtain ⟨_, _, c1, _⟩ := HV.out.at_ h1
        have hg1 : (i : Int) < n := by omega
        have hg0 : (0 : Int) ≤ i := by omega
        have hg2 : (i : Int) < 300 := by omega
        obtain ⟨s, hs⟩ : ∃ s, s = (g i).s := ⟨_, rfl⟩
        have HN : Hid (gsum g (i + 1) = gsum g i + min s.size 10000) := Lib.hid (by rw [hs]; rfl)
        rw [← hs] at c1
        obtain ⟨S, hS⟩ : ∃ S, S = gsum g i := ⟨_, rfl⟩
        rw [← hS] at HN hle ⊢
        clear hs hS
        have hm0 : (0 : Int) ≤ min (s.size : Int) 10000 := by omega
        have hm1 : min (s.size : Int) 10000 ≤ 10000 := by omega
        have hSi : (S : Int) ≤ 3000000 := by omega
        clear hle
        go_wp2_with fail
        go_round
        case rel => exact ⟨i + 1, by omega, by omega, by go_num, by rw [HN.out]; go_num⟩
        case measure => simp [intOf]; omega
      · have hg1 : (i : Int) < n := by omega
        have hg2 : ¬ (i : Int) < 300 := by omega
        have hg3 : (200 : Int) < n := by omega
        go_wp2_with fail
        go_ret
        exact ⟨_, rfl, fun h => by simp at h, rfl⟩
    · obtain rfl : i = n := by omega
      have HN : Hid (gsum g i ≤ 3000 → SmT g i) := Lib.hid gsum_small
      obtain ⟨S, hS⟩ : ∃ S, S = gsum g i := ⟨_, rfl⟩
      rw [← hS] at HN hle ⊢
      clear hS
      have hg1 : ¬ (i : Int) < i := by omega
      by_cases h2 : 200 < i
      · have hg3 : (200 : Int) < i := by omega
        go_wp2_with fail
        go_ret
        exact ⟨_, rfl, fun h => by simp at h, rfl⟩
      · have hg3 : ¬ (200 : Int) < i := by omega
        by_cases h3 : 3000 < S
        · have hg4 : (3000 : Int) < S := by omega
          go_wp2_with fail
          go_ret
          exact ⟨_, rfl, fun h => by simp at h, rfl⟩
        · have hg4 : ¬ (3000 : Int) < S := by omega
          go_wp2_with fail
          go_ret
          exact ⟨_, rfl, fun _ => ⟨by omega, HN.out (by omega)⟩, rfl⟩
/-! ### What a token tells -/
def tellT (x : TkR) : ByteArray := if x.k = 3 then quT x.s else x.s
set_option maxRecDepth 20000 in
theorem rtell_any (x : TkR) (w : World) (hs : x.s.size ≤ 100000000) : Calls Tryd.prog 26 #[.agg #[.int .u8 x.k, .string x.s, .int .i64 x.a]] w fun e w' => e = .returned (.string (tellT x)) ∧ Below w.heap.size w w' := by
  obtain ⟨k, s, a⟩ := x
  obtain ⟨R, hR⟩ : ∃ R, R = tellT ⟨k, s, a⟩ := ⟨_, rfl⟩
  rw [← hR]
  unfold tellT at hR
  dsimp only at hR hs ⊢
  by_cases h3 : k = 3
  · rw [if_pos h3] at hR
    subst h3
    have HQ := Lib.hid (fun W => rQuoted_any s W hs)
    rw [← hR] at HQ
    clear hR hs
    go_enter Tryd.func26, Tryd.ntmps26
    go_wp2_with fail
    refine (HQ.out _).mono ?_
    rintro e w1 ⟨rfl, b1⟩
    have B1 := Lib.hid (below_boxed b1)
    clear b1
    go_wp2_with fail
    go_ret
    exact ⟨rfl, B1.out⟩
  · rw [if_neg h3] at hR
    subst hR
    clear hs
    go_enter Tryd.func26, Tryd.ntmps26
    go_wp2_with fail
    go_ret
    exact ⟨rfl, below_box _ _⟩
def jdW (g : Nat → TkR) : Nat → ByteArray
  | 0 => ⟨#[]⟩
  | k + 1 => (if 0 < k ∧ (g k).k ≠ 0 then jdW g k ++ ⟨#[32]⟩ else jdW g k) ++ tellT (g k)
theorem tellT_size (x : TkR) : (tellT x).size ≤ 6 * x.s.size + 2 := by
  unfold tellT
  split
  · exact quT_size _
  · omega
theorem jdW_size {g : Nat → TkR} : ∀ (n : Nat), SmT g n → (jdW g n).size ≤ 18003 * n
  | 0, _ => Nat.zero_le _
  | n + 1, h => by
    have ih := jdW_size (g := g) n (fun i hi => h i (by omega))
    have h1 := tellT_size (g n)
    have h2 := h n (by omega)
    unfold jdW
    rw [app_size]
    have e1 : (if 0 < n ∧ (g n).k ≠ 0 then jdW g n ++ (⟨#[32]⟩ : ByteArray) else jdW g n).size ≤ (jdW g n).size + 1 := by
      split
      · rw [app_size]; exact Nat.le_refl _
      · omega
    omega
set_option maxRecDepth 20000 in
set_option maxHeartbeats 2000000 in
theorem rjoined_any (a : Option Addr) (n cap : Nat) (g : Nat → TkR) (w : World) (hs : SmT g n) (hn : n ≤ 1000) (hv : TkV w a n g) : Calls Tryd.prog 13 #[.slice a n cap] w fun e w' => e = .returned (.string (jdW g n)) ∧ Below w.heap.size w w' := by
  have HV := Lib.hid (fun V (k : Below w.heap.size w V) => hv.below k)
  have HS := Lib.hid hs
  have HSZ := Lib.hid (fun k (hk : k ≤ n) => jdW_size (g := g) k (fun i hi => hs i (by omega)))
  clear hv hs
  go_enter Tryd.func13, Tryd.ntmps13
  go_wp2_with fail
  go_loopw [3, 4] (fun v3 v4 wr => ∃ i : Nat, i ≤ n ∧ v4 = .int .i64 i ∧ v3 = .string (jdW g i) ∧ Hid (Below w.heap.size w wr)) (fun _ v4 _ => n - (intOf v4).toNat)
  case atStart => exact ⟨0, Nat.zero_le _, rfl, rfl, Lib.hid (Below.refl _ _)⟩
  case round =>
    obtain ⟨i, hi, rfl, rfl, HB⟩ := hrel
    obtain ⟨P, hP⟩ : ∃ P, P = jdW g i := ⟨_, rfl⟩
    have hsz := HSZ.out i hi
    rw [← hP] at hsz
    rw [← hP]
    have HP := Lib.hid hP
    clear hP
    by_cases hin : i < n
    · have hii : (i : Int) < n := by omega
      have hi00 : (0 : Int) ≤ i := by omega
      obtain ⟨b, off, ha⟩ := (HV.out _ HB.out).addr (by omega)
      subst ha
      obtain ⟨_, d0, d1, d2⟩ := (HV.out _ HB.out).at_ hin
      have hsm := HS.out i hin
      obtain ⟨X, hX⟩ : ∃ X, X = g i := ⟨_, rfl⟩
      have HN : Hid (jdW g (i + 1) = (if 0 < i ∧ X.k ≠ 0 then P ++ ⟨#[32]⟩ else P) ++ tellT X) := Lib.hid (by rw [hX, HP.out]; rfl)
      rw [← hX] at d0 d1 d2 hsm
      have hos := tellT_size X
      clear hX HP
      have hcs := app_size P (⟨#[32]⟩ : ByteArray)
      have hcc : (⟨#[32]⟩ : ByteArray).size = 1 := rfl
      have hl1 : ¬ 9223372036854775807 < P.size + 1 := by omega
      have HT := Lib.hid (fun W => rtell_any X W (by omega))
      obtain ⟨Q, hQ⟩ : ∃ Q, Q = tellT X := ⟨_, rfl⟩
      rw [← hQ] at HT HN hos
      have hl2 : ¬ 9223372036854775807 < P.size + Q.size := by omega
      have hl3 : ¬ 9223372036854775807 < (P ++ (⟨#[32]⟩ : ByteArray)).size + Q.size := by omega
      obtain ⟨k, s, t⟩ := X
      dsimp only at d0 d1 d2 HT HN
      clear hQ hcs hcc hsm hos
      by_cases hc : 0 < i ∧ k ≠ 0
      · have hi1 : (0 : Int) < (i : Int) := by omega
        have hk0 := hc.2
        rw [if_pos hc] at HN
        clear hc
        go_wp2_with fail
        refine (HT.out _).mono ?_
        rintro e w1 ⟨rfl, b1⟩
        have HB1 := Lib.hid (HB.out.trans (b1.mono HB.out.size))
        clear b1
        go_wp2_with fail
        go_roundw
        case rel => exact ⟨i + 1, by omega, by go_num, by rw [HN.out], HB1⟩
        case measure => (simp [intOf]; omega)
      · rw [if_neg hc] at HN
        by_cases hi1 : (0 : Int) < (i : Int)
        · obtain rfl : k = 0 := Classical.byContradiction (fun h => hc ⟨by omega, h⟩)
          clear hc
          go_wp2_with fail
          refine (HT.out _).mono ?_
          rintro e w1 ⟨rfl, b1⟩
          have HB1 := Lib.hid (HB.out.trans (b1.mono HB.out.size))
          clear b1
          go_wp2_with fail
          go_roundw
          case rel => exact ⟨i + 1, by omega, by go_num, by rw [HN.out], HB1⟩
          case measure => (simp [intOf]; omega)
        · clear hc
          go_wp2_with fail
          refine (HT.out _).mono ?_
          rintro e w1 ⟨rfl, b1⟩
          have HB1 := Lib.hid (HB.out.trans (b1.mono HB.out.size))
          clear b1
          go_wp2_with fail
          go_roundw
          case rel => exact ⟨i + 1, by omega, by go_num, by rw [HN.out], HB1⟩
          case measure => (simp [intOf]; omega)
    · obtain rfl : i = n := by omega
      go_wp2_with fail
      go_ret
      exact ⟨by rw [← HP.out]; rfl, HB.out⟩
end Go.Proofs.YtnbmecabnkhniaaDoor
/- Layer 17: Join by the document; Same; rows of tokens of one's own. -/
namespace Go.Proofs.YtnbmecabnkhniaaDoor
open Go.RowKit Go.Maps
/-- May the token at a place be, there? -/
def goodT (g : Nat → TkR) (n i : Nat) : Bool := okT (g i) && (decide ((g i).k ≠ 0) || decide (n ≤ i + 1))
def okAll (g : Nat → TkR) (n : Nat) : Bool := (List.range n).all (goodT g n)
theorem okAll_yes {g : Nat → TkR} {n : Nat} (h : ∀ i, i < n → goodT g n i = true) : okAll g n = true := List.all_eq_true.2 (fun i hi => h i (List.mem_range.1 hi))
theorem okAll_no {g : Nat → TkR} {n i : Nat} (hi : i < n) (h : goodT g n i = false) : okAll g n = false := by
  cases e : okAll g n with
  | false => rfl
  | true => have := List.all_eq_true.1 e i (List.mem_range.2 hi); rw [h] at this; cases this
def jnR (g : Nat → TkR) (n : Nat) : ByteArray := if okAll g n then jdW g n else ⟨#[]⟩
def jnE (g : Nat → TkR) (n : Nat) : Int := if okAll g n then 0 else 8
theorem jn_ret {s s' : ByteArray} {e e' : Int} (h : s = s') (k : e = e') : Ending.returned (.tuple #[.string s, .int .i64 e]) = .returned (.tuple #[.string s', .int .i64 e']) := by rw [h, k]
set_option maxRecDepth 20000 in
set_option maxHeartbeats 2000000 in
theorem rjoin_any (a : Option Addr) (n cap : Nat) (g : Nat → TkR) (w : World) (hs : SmT g n) (hn : n ≤ 1000) (hv : TkV w a n g) : Calls Tryd.prog 6 #[.slice a n cap] w fun e w' => e = .returned (.tuple #[.string (jnR g n), .int .i64 (jnE g n)]) ∧ Below w.heap.size w w' := by
  obtain ⟨J, hJ⟩ : ∃ J, J = jnR g n := ⟨_, rfl⟩
  obtain ⟨E, hE⟩ : ∃ E, E = jnE g n := ⟨_, rfl⟩
  rw [← hJ, ← hE]
  have HNO : Hid (∀ i, i < n → goodT g n i = false → J = ⟨#[]⟩ ∧ E = 8) := Lib.hid (fun i hi h => by rw [hJ, hE]; unfold jnR jnE; rw [okAll_no hi h]; exact ⟨rfl, rfl⟩)
  have HYES : Hid ((∀ i, i < n → goodT g n i = true) → J = jdW g n ∧ E = 0) := Lib.hid (fun h => by rw [hJ, hE]; unfold jnR jnE; rw [okAll_yes h]; exact ⟨rfl, rfl⟩)
  clear hJ hE
  have HV := Lib.hid (fun V (k : Below w.heap.size w V) => hv.below k)
  have HS := Lib.hid hs
  have HJ := Lib.hid (fun V (k : Below w.heap.size w V) => rjoined_any a n cap g V hs hn (hv.below k))
  clear hv hs
  have hn1 : (n : Int) ≤ 1000 := by omega
  go_enter Tryd.func6, Tryd.ntmps6
  go_wp2_with fail
  go_loopw [3, 4] (fun _ v4 wr => ∃ i : Nat, i ≤ n ∧ v4 = .int .i64 i ∧ Hid (∀ j, j < i → goodT g n j = true) ∧ Hid (Below w.heap.size w wr)) (fun _ v4 _ => n - (intOf v4).toNat)
  case atStart => exact ⟨0, Nat.zero_le _, rfl, Lib.hid (fun j hj => absurd hj (Nat.not_lt_zero j)), Lib.hid (Below.refl _ _)⟩
  case round =>
    obtain ⟨i, hi, rfl, HP, HB⟩ := hrel
    by_cases hin : i < n
    · have hii : (i : Int) < n := by omega
      have hi00 : (0 : Int) ≤ i := by omega
      obtain ⟨b, off, ha⟩ := (HV.out _ HB.out).addr (by omega)
      subst ha
      obtain ⟨hbw, d0, d1, d2⟩ := (HV.out _ HB.out).at_ hin
      have hsm := HS.out i hin
      obtain ⟨X, hX⟩ : ∃ X, X = g i := ⟨_, rfl⟩
      have HG : Hid (goodT g n i = (okT X && (decide (X.k ≠ 0) || decide (n ≤ i + 1)))) := Lib.hid (by rw [hX]; rfl)
      rw [← hX] at d0 d1 d2 hsm
      have HM := Lib.hid (fun W => rmay_any X W (by omega))
      have HNX : Hid (goodT g n i = true → ∀ j, j < i + 1 → goodT g n j = true) := Lib.hid (fun ho j hj => by
        by_cases e : j = i
        · subst e; exact ho
        · exact HP.out j (by omega))
      clear hX hsm HP
      obtain ⟨r, hr⟩ : ∃ r, r = okT X := ⟨_, rfl⟩
      rw [← hr] at HM HG
      clear hr
      obtain ⟨k, s, t⟩ := X
      dsimp only at d0 d1 d2 HM HG
      have HD : ∀ V, Below wr.heap.size wr V → V.cell? ⟨b, off + i * 3, none⟩ = some (.int .u8 k) := fun V hV => by rw [hV.cell hbw]; exact d0
      replace HD := Lib.hid HD
      cases r with
      | false =>
        have HO := Lib.hid (HNO.out i hin (by rw [HG.out]; rfl))
        go_wp2_with (go_at_call 12; refine (HM.out _).mono ?_; rintro e w1 ⟨rfl, b1⟩; have HB1 := Lib.hid (HB.out.trans (b1.mono HB.out.size)); clear b1)
        go_ret2
        exact ⟨jn_ret HO.out.1.symm HO.out.2.symm, HB1.out⟩
      | true =>
        by_cases hk : k = 0
        · subst hk
          by_cases hl : (i : Int) < (n : Int) - 1
          · have HO := Lib.hid (HNO.out i hin (by rw [HG.out, decide_eq_false (show ¬ n ≤ i + 1 by omega)]; rfl))
            go_wp2_with (go_at_call 12; refine (HM.out _).mono ?_; rintro e w1 ⟨rfl, b1⟩; have hd := HD.out _ b1; have HB1 := Lib.hid (HB.out.trans (b1.mono HB.out.size)); clear b1)
            go_ret2
            exact ⟨jn_ret HO.out.1.symm HO.out.2.symm, HB1.out⟩
          · have HN := Lib.hid (HNX.out (by rw [HG.out, decide_eq_true (show n ≤ i + 1 by omega)]; rfl))
            go_wp2_with (go_at_call 12; refine (HM.out _).mono ?_; rintro e w1 ⟨rfl, b1⟩; have hd := HD.out _ b1; have HB1 := Lib.hid (HB.out.trans (b1.mono HB.out.size)); clear b1)
            go_roundw
            case rel => exact ⟨i + 1, by omega, by go_num, HN, HB1⟩
            case measure => (simp [intOf]; omega)
        · have HN := Lib.hid (HNX.out (by rw [HG.out, decide_eq_true (show k ≠ 0 from hk)]; rfl))
          go_wp2_with (go_at_call 12; refine (HM.out _).mono ?_; rintro e w1 ⟨rfl, b1⟩; have hd := HD.out _ b1; have HB1 := Lib.hid (HB.out.trans (b1.mono HB.out.size)); clear b1)
          go_roundw
          case rel => exact ⟨i + 1, by omega, by go_num, HN, HB1⟩
          case measure => (simp [intOf]; omega)
    · obtain rfl : i = n := by omega
      have HO := Lib.hid (HYES.out HP.out)
      clear HP
      go_wp2_with fail
      refine (HJ.out _ HB.out).mono ?_
      rintro e w1 ⟨rfl, b1⟩
      have HB1 := Lib.hid (HB.out.trans (b1.mono HB.out.size))
      clear b1
      go_wp2_with fail
      go_ret2
      exact ⟨jn_ret HO.out.1.symm HO.out.2.symm, HB1.out⟩
set_option maxRecDepth 20000 in
set_option maxHeartbeats 2000000 in
theorem rsame_any (a a' : Option Addr) (n c c' : Nat) (g : Nat → TkR) (w : World) (hn : n ≤ maxLen) (hv : TkV w a n g) (hv' : TkV w a' n g) : Calls Tryd.prog 9 #[.slice a n c, .slice a' n c', .bool true] w fun e w' => e = .returned (.bool true) ∧ Below w.heap.size w w' := by
  unfold maxLen at hn
  have hn1 : (n : Int) ≤ 9223372036854775807 := by omega
  have HV := Lib.hid (fun V (k : Below w.heap.size w V) => hv.below k)
  have HV' := Lib.hid (fun V (k : Below w.heap.size w V) => hv'.below k)
  clear hv hv'
  go_enter Tryd.func9, Tryd.ntmps9
  go_wp2_with fail
  go_loopw [7, 7] (fun v4 _ wr => ∃ i : Nat, i ≤ n ∧ v4 = .int .i64 i ∧ Hid (Below w.heap.size w wr)) (fun v4 _ _ => n - (intOf v4).toNat)
  case atStart => exact ⟨0, Nat.zero_le _, rfl, Lib.hid (Below.refl _ _)⟩
  case round =>
    obtain ⟨i, hi, rfl, HB⟩ := hrel
    by_cases hin : i < n
    · have hii : (i : Int) < n := by omega
      have hi00 : (0 : Int) ≤ i := by omega
      obtain ⟨b, off, ha⟩ := (HV.out _ HB.out).addr (by omega)
      obtain ⟨b', off', ha'⟩ := (HV'.out _ HB.out).addr (by omega)
      subst ha ha'
      obtain ⟨_, d0, d1, d2⟩ := (HV.out _ HB.out).at_ hin
      obtain ⟨_, e0, e1, e2⟩ := (HV'.out _ HB.out).at_ hin
      obtain ⟨X, hX⟩ : ∃ X, X = g i := ⟨_, rfl⟩
      rw [← hX] at d0 d1 d2 e0 e1 e2
      obtain ⟨k, s, t⟩ := X
      dsimp only at d0 d1 d2 e0 e1 e2
      clear hX
      go_wp2_with fail
      go_quiet (fail)
      go_wp2_with fail
      go_roundw
      case rel => exact ⟨i + 1, by omega, by go_num, Lib.hid (by first | exact below_drewN HB.out _ | exact HB.out)⟩
      case measure => (simp [intOf]; omega)
    · obtain rfl : i = n := by omega
      go_wp2_with fail
      go_ret
      exact ⟨rfl, HB.out⟩
end Go.Proofs.YtnbmecabnkhniaaDoor
/- Layer 17: rows of texts, joined by spaces. -/
namespace Go.Proofs.YtnbmecabnkhniaaDoor
open Go.RowKit
theorem infoS : ∃ i, Tryd.prog.info? 9 = some i ∧ i.zero = some (.string ⟨#[]⟩) ∧ i.size = 1 ∧ i.bytes = 16 := by
  have h := Tryd.typeInfo9 default
  unfold typeInfo at h
  cases hq : Tryd.prog.info? 9 with
  | none => simp [hq] at h
  | some i =>
    simp [hq] at h
    exact ⟨i, rfl, by rw [h]; rfl, by rw [h]; rfl, by rw [h]; rfl⟩
/-- A row of texts of the call's own. -/
def SO (B : Nat) (w : World) (v : Value) (L : List ByteArray) : Prop := w.ownsRow B 9 1 v L.length (L.map Value.string) ∧ B ≤ w.heap.size
theorem SO.nil (w : World) : SO w.heap.size w (.slice none 0 0) [] := ⟨World.ownsRow_nil _ _ _ _, Nat.le_refl _⟩
theorem SO.alloc {B : Nat} {w : World} {v : Value} {L : List ByteArray} (h : SO B w v L) (o : Obj) : SO B (w.alloc o) v L := ⟨h.1.alloc o, by simp; have := h.2; omega⟩
theorem SO.drew {B : Nat} {w : World} {v : Value} {L : List ByteArray} (h : SO B w v L) : SO B w.drew v L := ⟨h.1.drew, h.2⟩
theorem SO.up {B : Nat} {w w' : World} {v : Value} {L : List ByteArray} (h : SO B w v L) (hb : Below w.heap.size w w') : SO B w' v L := ⟨own_below h.1 hb, Nat.le_trans h.2 hb.size⟩
theorem SO.base {B C : Nat} {w : World} {v : Value} {L : List ByteArray} (h : SO B w v L) (hc : C ≤ B) : SO C w v L := by
  refine ⟨⟨h.1.1, ?_⟩, Nat.le_trans hc h.2⟩
  rcases h.1.2 with h1 | ⟨g, cap, cur, e, hg, rest⟩
  · exact .inl h1
  · exact .inr ⟨g, cap, cur, e, Nat.le_trans hc hg, rest⟩
theorem news_str {w : World} {b : Nat} {M : List ByteArray} (hb : w.heap[b]? = some (.cells (M.map Value.string).toArray 9)) : ∀ j u, (M.map Value.string)[j]? = some u → w.cell? ((⟨b, 0, none⟩ : Addr).add j) = some u := fun j u hj => by
  rw [Addr.add_lit]
  simp [World.cell?, hb]
  simpa using hj
theorem so_run {B : Nat} {w : World} {v : Value} {L M : List ByteArray} {b : Nat} (ty : TypeId) (hO : SO B w v L) (hb : w.heap[b]? = some (.cells (M.map Value.string).toArray 9)) (hL : L.length + M.length ≤ 1000000000) :
    ∃ v' w', (Builtin.append_ #[34, 34] ty #[v, .slice (some ⟨b, 0, none⟩) M.length M.length]).run Tryd.prog w = .ok v' w' ∧ SO B w' v' (L ++ M) ∧ w.grownBy w' v.ownBlock := by
  obtain ⟨i, h2, h3, h4, h5⟩ := infoS
  obtain ⟨v', w', hrun, r1, r2, _⟩ := run_append_own (P := Tryd.prog) (w := w) B 34 ty 9 i _ 1 16 Tryd.underlying34 h2 h3 h4 h5 rfl (by decide) v L.length (L.map Value.string) hO.1 ⟨b, 0, none⟩ M.length M.length (M.map Value.string) (by simp) (news_str hb) (by intro u hu; obtain ⟨x, _, rfl⟩ := List.mem_map.1 hu; rfl) (by unfold maxLen; omega) (by omega) hO.2
  refine ⟨v', w', hrun, ⟨?_, Nat.le_trans hO.2 r2.size⟩, r2⟩
  rw [List.length_append, List.map_append]; exact r1
theorem app_str {ops : Array Oper} {rest : List Oper} {o : Oper} {a : Act} {B : Nat} {w : World} {Q : Exit → Act → World → Prop} (hgd : o.guard = none) (s x : Operand)
    (ho : o.op = .call { callee := .builtin .append, args := #[s, x], argTypes := #[34, 34] }) (v : Value) (L M : List ByteArray) (b : Nat) (hs : a.eval s = v) (hx : a.eval x = .slice (some ⟨b, 0, none⟩) M.length M.length) (hO : SO B w v L) (hb : w.heap[b]? = some (.cells (M.map Value.string).toArray 9)) (hL : L.length + M.length ≤ 1000000000)
    (h : ∀ v' w', SO B w' v' (L ++ M) → w.grownBy w' v.ownBlock → wpList Tryd.prog ops Q rest (a.put o.dst v') w') : wpList Tryd.prog ops Q (o :: rest) a w := by
  obtain ⟨v', w', hrun, hB, hg⟩ := so_run o.type hO hb hL
  refine wpList_plain hgd fun K hK => ?_
  unfold Oper.wp
  simp [execOp, ho, resolve, invoke, builtin, hs, hx, hrun, Result.andThen]
  exact hK _ _ (h v' w' hB hg)
theorem step_str {ops : Array Oper} {o : Oper} {a : Act} {B : Nat} {w : World} {K : Act → World → Prop} {Q : Exit → Act → World → Prop} {E : Prop} (hgd : o.guard = none) (s x : Operand)
    (ho : o.op = .call { callee := .builtin .append, args := #[s, x], argTypes := #[34, 34] }) (v : Value) (L M : List ByteArray) (b : Nat) (hs : a.eval s = v) (hx : a.eval x = .slice (some ⟨b, 0, none⟩) M.length M.length) (hO : SO B w v L) (hb : w.heap[b]? = some (.cells (M.map Value.string).toArray 9)) (hL : L.length + M.length ≤ 1000000000)
    (hK : ∀ v' w', SO B w' v' (L ++ M) → w.grownBy w' v.ownBlock → K (a.put o.dst v') w') : if Region.wanted o (yielded ops a.tmps) = true then Oper.wp Tryd.prog o a w K Q else E := by
  have hw : Region.wanted o (yielded ops a.tmps) = true := by simp [Region.wanted, hgd]
  rw [if_pos hw]
  obtain ⟨v', w', hrun, hB, hg⟩ := so_run o.type hO hb hL
  unfold Oper.wp
  simp [execOp, ho, resolve, invoke, builtin, hs, hx, hrun, Result.andThen]
  exact hK v' w' hB hg
/-- What append did left all below the row's base. -/
theorem SO.below {B : Nat} {w w' : World} {v : Value} {L : List ByteArray} (h : SO B w v L) (hg : w.grownBy w' v.ownBlock) : Below B w w' :=
  (Below.refl B w).grown hg h.2 (fun k hk => by
    rcases h.1.2 with ⟨rfl, _⟩ | ⟨g, cap, cur, rfl, hg, _⟩
    · cases hk
    · simp only [Value.ownBlock, Option.some.injEq] at hk
      subst hk; exact hg)
/-- Texts joined by spaces. -/
def jnT (L : List ByteArray) : ByteArray := ⟨(Lib.join (L.map (·.data.toList)) [32]).toArray⟩
theorem jnT_nil : jnT [] = ⟨#[]⟩ := rfl
theorem jnT_one (x : ByteArray) : jnT [x] = x := by
  unfold jnT
  rw [List.map_cons, List.map_nil, Lib.join_one]
theorem jnT_snoc (L : List ByteArray) (x : ByteArray) (h : L ≠ []) : jnT (L ++ [x]) = jnT L ++ ⟨#[32]⟩ ++ x := by
  cases L with
  | nil => exact absurd rfl h
  | cons y r =>
    apply ByteArray.ext
    apply Array.toList_inj.1
    unfold jnT
    rw [List.cons_append, List.map_cons, List.map_append, List.map_cons, List.map_nil, Lib.join_cons, List.map_cons, Lib.join_cons]
    simp [Lib.joinTail]
theorem jnT_cat (L : List ByteArray) (x : ByteArray) : jnT (L ++ [x]) = (if 0 < L.length then jnT L ++ ⟨#[32]⟩ else jnT L) ++ x := by
  by_cases h : L = []
  · subst h
    rw [List.nil_append, jnT_one]
    rw [if_neg (by simp), jnT_nil]
    apply ByteArray.ext
    simp
  · rw [jnT_snoc L x h, if_pos (List.length_pos_iff.2 h)]
theorem join_any {B : Nat} {v : Value} {L : List ByteArray} {w : World} (h : SO B w v L) (hn : L.length ≤ 1000000) (hl : (jnT L).size ≤ 1000000000000) :
    Calls Tryd.prog 11 #[v, .string ⟨#[32]⟩] w fun e w' => e = .returned (.string (jnT L)) ∧ Below w.heap.size w w' := by
  rcases h.1.2 with ⟨rfl, hz⟩ | ⟨g, cap, cur, rfl, hg, hc, h1, h2, h3, h4⟩
  · have e : L = [] := List.length_eq_zero_iff.1 hz
    subst e
    refine (Tryd.strings_Join_none none 0 _ w).mono ?_
    rintro e w' ⟨rfl, rfl⟩
    exact ⟨rfl, Below.refl _ _⟩
  · have hcell : ∀ (j : Nat) x, L[j]? = some x → w.cell? ⟨g, 0 + j, none⟩ = some (.string x) := fun j x hj => by
      have hlt : j < L.length := (List.getElem?_eq_some_iff.1 hj).1
      have e : cur.toList[j]? = some (.string x) := by
        have : (cur.toList.take (L.length * 1))[j]? = (L.map Value.string)[j]? := by rw [h4]
        rw [List.getElem?_take, if_pos (by omega)] at this
        rw [this, List.getElem?_map, hj]; rfl
      rw [Nat.zero_add]
      simp [World.cell?, hc]
      simpa using e
    refine (Tryd.strings_Join g 0 cap L ⟨#[32]⟩ w hcell (Array.getElem?_eq_some_iff.1 hc).1 (by omega) h1 ?_).mono ?_
    · have : (jnT L).size = (Lib.join (L.map (·.data.toList)) [32]).length := rfl
      show (Lib.join (L.map (·.data.toList)) [32]).length ≤ _
      omega
    · rintro e w' ⟨rfl, hb⟩
      exact ⟨rfl, hb⟩
end Go.Proofs.YtnbmecabnkhniaaDoor
/- Layer 17: the program's Join. -/
namespace Go.Proofs.YtnbmecabnkhniaaDoor
open Go.RowKit Go.Maps
def tlL (g : Nat → TkR) : Nat → List ByteArray
  | 0 => []
  | i + 1 => if (g i).k = 0 then tlL g i else tlL g i ++ [tellT (g i)]
theorem tlL_len (g : Nat → TkR) : ∀ i, (tlL g i).length ≤ i
  | 0 => Nat.le_refl _
  | i + 1 => by
    have := tlL_len g i
    unfold tlL
    split
    · omega
    · rw [List.length_append, List.length_singleton]; omega
theorem tlL_jn {g : Nat → TkR} : ∀ i, (∀ j, j < i → (g j).k ≠ 0) → (tlL g i).length = i ∧ jnT (tlL g i) = jdW g i
  | 0, _ => ⟨rfl, rfl⟩
  | i + 1, h => by
    obtain ⟨h1, h2⟩ := tlL_jn (g := g) i (fun j hj => h j (by omega))
    have hk := h i (by omega)
    have e : tlL g (i + 1) = tlL g i ++ [tellT (g i)] := by
      show (if (g i).k = 0 then tlL g i else tlL g i ++ [tellT (g i)]) = _
      rw [if_neg hk]
    rw [e]
    refine ⟨by rw [List.length_append, h1]; rfl, ?_⟩
    rw [jnT_cat, h1, h2]
    show _ = (if 0 < i ∧ (g i).k ≠ 0 then jdW g i ++ ⟨#[32]⟩ else jdW g i) ++ tellT (g i)
    by_cases h0 : 0 < i
    · rw [if_pos h0, if_pos ⟨h0, hk⟩]
    · rw [if_neg h0, if_neg (fun c => h0 c.1)]
theorem ba_nil (x : ByteArray) : x ++ ⟨#[]⟩ = x := by apply ByteArray.ext; simp
theorem tlL_all {g : Nat → TkR} {n : Nat} (h : ∀ i, i < n → goodT g n i = true) : jnT (tlL g n) = jdW g n := by
  cases n with
  | zero => rfl
  | succ m =>
    have hk : ∀ j, j < m → (g j).k ≠ 0 := fun j hj => by
      have := h j (by omega)
      unfold goodT at this
      simp only [Bool.and_eq_true, Bool.or_eq_true, decide_eq_true_eq] at this
      rcases this.2 with h1 | h1
      · exact h1
      · omega
    by_cases h0 : (g m).k = 0
    · obtain ⟨h1, h2⟩ := tlL_jn m hk
      have e : tlL g (m + 1) = tlL g m := by
        show (if (g m).k = 0 then tlL g m else tlL g m ++ [tellT (g m)]) = _
        rw [if_pos h0]
      have ht : tellT (g m) = ⟨#[]⟩ := by
        have h3 := h m (by omega)
        unfold goodT okT at h3
        rw [if_pos h0] at h3
        simp only [Bool.and_eq_true] at h3
        have h4 := List.isEmpty_iff.1 h3.1
        unfold tellT
        rw [if_neg (by omega)]
        apply ByteArray.ext
        rw [Lib.toList_data] at h4
        apply Array.ext'
        rw [h4]
      rw [e, h2]
      show _ = (if 0 < m ∧ (g m).k ≠ 0 then jdW g m ++ ⟨#[32]⟩ else jdW g m) ++ tellT (g m)
      rw [if_neg (fun c => c.2 h0), ht, ba_nil]
    · exact (tlL_jn (m + 1) (fun j hj => by
        by_cases e : j = m
        · subst e; exact h0
        · exact hk j (by omega))).2
set_option maxRecDepth 20000 in
set_option maxHeartbeats 4000000 in
theorem ljoin_any (a : Option Addr) (n cap : Nat) (g : Nat → TkR) (w : World) (l : Nm.Lim w) (hs : SmT g n) (hn : n ≤ 1000) (hv : TkV w a n g) : Calls Tryd.prog 5 #[.slice a n cap] w fun e w' => e = .returned (.tuple #[.string (jnR g n), .int .i64 (jnE g n)]) ∧ Below w.heap.size w w' := by
  obtain ⟨J, hJ⟩ : ∃ J, J = jnR g n := ⟨_, rfl⟩
  obtain ⟨E, hE⟩ : ∃ E, E = jnE g n := ⟨_, rfl⟩
  rw [← hJ, ← hE]
  have HNO : Hid (∀ i, i < n → goodT g n i = false → J = ⟨#[]⟩ ∧ E = 8) := Lib.hid (fun i hi h => by rw [hJ, hE]; unfold jnR jnE; rw [okAll_no hi h]; exact ⟨rfl, rfl⟩)
  have HYES : Hid ((∀ i, i < n → goodT g n i = true) → J = jnT (tlL g n) ∧ (jnT (tlL g n)).size ≤ 20000000 ∧ E = 0) := Lib.hid (fun h => by rw [hJ, hE]; unfold jnR jnE; rw [okAll_yes h, tlL_all h]; exact ⟨rfl, by have := jdW_size n hs; omega, rfl⟩)
  clear hJ hE
  have HV := Lib.hid (fun V (k : Below w.heap.size w V) => hv.below k)
  have HLM := Lib.hid (fun V (k : Below w.heap.size w V) => lim_up l k)
  have HS := Lib.hid hs
  have HLN := Lib.hid (fun i => tlL_len g i)
  clear hv hs l
  have hn1 : (n : Int) ≤ 1000 := by omega
  go_enter Tryd.func5, Tryd.ntmps5
  go_wp2_with fail
  go_loopw [14, 14] (fun v14 _ wr => ∃ i : Nat, i ≤ n ∧ v14 = .int .i64 i ∧ Hid (∀ j, j < i → okT (g j) = true) ∧ Hid (Below w.heap.size w wr)) (fun v14 _ _ => n - (intOf v14).toNat)
  case atStart => exact ⟨0, Nat.zero_le _, rfl, Lib.hid (fun j hj => absurd hj (Nat.not_lt_zero j)), Lib.hid (Below.refl _ _)⟩
  case round =>
    obtain ⟨i, hi, rfl, HP, HB⟩ := hrel
    by_cases hin : i < n
    · have hii : (i : Int) < n := by omega
      have hi00 : (0 : Int) ≤ i := by omega
      obtain ⟨b, off, ha⟩ := (HV.out _ HB.out).addr (by omega)
      subst ha
      obtain ⟨hbw, d0, d1, d2⟩ := (HV.out _ HB.out).at_ hin
      have hsm := HS.out i hin
      obtain ⟨X, hX⟩ : ∃ X, X = g i := ⟨_, rfl⟩
      have HG : Hid (okT X = false → goodT g n i = false) := Lib.hid (fun h => by unfold goodT; rw [← hX, h]; rfl)
      have HNX : Hid (okT X = true → ∀ j, j < i + 1 → okT (g j) = true) := Lib.hid (fun ho j hj => by
        by_cases e : j = i
        · subst e; rw [← hX]; exact ho
        · exact HP.out j (by omega))
      rw [← hX] at d0 d1 d2 hsm
      have HM := Lib.hid (fun W (k : Below w.heap.size w W) => lcheck_any X W (HLM.out W k) (by omega))
      clear hX hsm HP hbw
      obtain ⟨r, hr⟩ : ∃ r, r = okT X := ⟨_, rfl⟩
      rw [← hr] at HM HG HNX
      clear hr
      obtain ⟨k, s, t⟩ := X
      dsimp only at d0 d1 d2 HM
      obtain ⟨W, hW⟩ : ∃ W, W = wr.alloc (.cells #[.int .u8 k, .string s, .int .i64 t] 31) := ⟨_, rfl⟩
      have HW : Hid (Below w.heap.size w W) := Lib.hid (by rw [hW]; exact HB.out.alloc HB.out.size _)
      cases r with
      | false =>
        have HO := Lib.hid (HNO.out i hin (HG.out rfl))
        go_wp2_with fail
        rw [← hW]
        refine (HM.out _ HW.out).mono ?_
        rintro e w1 ⟨rfl, b1⟩
        have HB1 := Lib.hid (HW.out.trans (b1.mono HW.out.size))
        clear b1
        go_wp2_with fail
        go_ret2
        exact ⟨jn_ret HO.out.1.symm HO.out.2.symm, HB1.out⟩
      | true =>
        have HN := Lib.hid (HNX.out rfl)
        go_wp2_with fail
        rw [← hW]
        refine (HM.out _ HW.out).mono ?_
        rintro e w1 ⟨rfl, b1⟩
        have HB1 := Lib.hid (HW.out.trans (b1.mono HW.out.size))
        clear b1
        go_wp2_with fail
        go_roundw
        case rel => exact ⟨i + 1, by omega, by go_num, HN, HB1⟩
        case measure => (simp [intOf]; omega)
    · obtain rfl : i = n := by omega
      have HOK := Lib.hid HP.out
      clear HP
      go_wp2_with fail
      go_loopw [7, 26] (fun v7 v26 wr2 => ∃ (j : Nat) (v : Value), j ≤ i ∧ v26 = .int .i64 j ∧ v = v7 ∧ Hid (∀ q, q < j → goodT g i q = true) ∧ Hid (SO w.heap.size wr2 v (tlL g j)) ∧ Hid (Below w.heap.size w wr2)) (fun _ v26 _ => i - (intOf v26).toNat)
      case atStart => exact ⟨0, _, Nat.zero_le _, rfl, rfl, Lib.hid (fun j hj => absurd hj (Nat.not_lt_zero j)), Lib.hid ((SO.nil _).base HB.out.size), HB⟩
      case round =>
        obtain ⟨j, v, hj, rfl, rfl, HP, HO, HB2⟩ := hrel
        by_cases hjn : j < i
        · have hii : (j : Int) < i := by omega
          have hi00 : (0 : Int) ≤ j := by omega
          obtain ⟨b, off, ha⟩ := (HV.out _ HB2.out).addr (by omega)
          subst ha
          obtain ⟨_, d0, d1, d2⟩ := (HV.out _ HB2.out).at_ hjn
          have hsm := HS.out j hjn
          have hok := HOK.out j hjn
          have hlen := HLN.out j
          obtain ⟨X, hX⟩ : ∃ X, X = g j := ⟨_, rfl⟩
          have HG : Hid (goodT g i j = (decide (X.k ≠ 0) || decide (i ≤ j + 1))) := Lib.hid (by unfold goodT; rw [hok, ← hX]; rfl)
          have HNX : Hid (goodT g i j = true → ∀ q, q < j + 1 → goodT g i q = true) := Lib.hid (fun ho q hq => by
            by_cases e : q = j
            · subst e; exact ho
            · exact HP.out q (by omega))
          have HT : Hid (tlL g (j + 1) = if X.k = 0 then tlL g j else tlL g j ++ [tellT X]) := Lib.hid (by rw [hX]; rfl)
          rw [← hX] at d0 d1 d2 hsm hok
          clear hX HP
          obtain ⟨k, s, t⟩ := X
          dsimp only at d0 d1 d2 hsm HG HT
          obtain ⟨W, hW⟩ : ∃ W, W = wr.alloc (.cells #[.int .u8 k, .string s, .int .i64 t] 31) := ⟨_, rfl⟩
          have HW : Hid (Below w.heap.size w W) := Lib.hid (by rw [hW]; exact HB2.out.alloc HB2.out.size _)
          have HOW : Hid (SO w.heap.size W v (tlL g j)) := Lib.hid (by rw [hW]; exact HO.out.alloc _)
          by_cases h0 : k = 0
          · subst h0
            by_cases hl : (j : Int) < (i : Int) - 1
            · have HX := Lib.hid (HNO.out j hjn (by rw [HG.out, decide_eq_false (show ¬ i ≤ j + 1 by omega)]; rfl))
              clear hok hsm
              go_wp2_with fail
              go_ret2
              exact ⟨jn_ret HX.out.1.symm HX.out.2.symm, by first | exact HW.out | (rw [← hW]; exact HW.out)⟩
            · have HN := Lib.hid (HNX.out (by rw [HG.out, decide_eq_true (show i ≤ j + 1 by omega)]; rfl))
              rw [if_pos rfl] at HT
              clear hok hsm
              go_wp2_with fail
              go_roundw
              case rel => exact ⟨j + 1, v, by omega, by go_num, rfl, HN, Lib.hid (by rw [HT.out, ← hW]; exact HOW.out), Lib.hid (by rw [← hW]; exact HW.out)⟩
              case measure => (simp [intOf]; omega)
          · have HN := Lib.hid (HNX.out (by rw [HG.out, decide_eq_true (show k ≠ 0 from h0)]; rfl))
            rw [if_neg h0] at HT
            by_cases h3 : k = 3
            · subst h3
              have hck : ckE s = 0 := by
                unfold okT at hok
                rw [if_neg (show ¬ (3 : Int) = 0 by decide), if_neg (show ¬ (3 : Int) = 1 by decide), if_neg (show ¬ (3 : Int) = 2 by decide), if_pos rfl] at hok
                exact beq_iff_eq.1 hok
              have hq := ck_small (s := s) (by omega)
              have hix : isTx s = true := by
                cases hh : isTx s with
                | true => rfl
                | false => rw [hh, hck] at hq; simp at hq
              have HQ := Lib.hid (fun V => jQuote_any s V (by omega))
              rw [hck, hix] at HQ
              have ht : tellT ⟨3, s, t⟩ = quT s := by unfold tellT; rw [if_pos rfl]
              rw [ht] at HT
              obtain ⟨T, hT⟩ : ∃ T, T = quT s := ⟨_, rfl⟩
              rw [← hT] at HT HQ
              have HQ2 : Hid (∀ V, Calls Tryd.prog 10 #[.string s] V fun e w' => e = .returned (.tuple #[.string T, .int .i64 0]) ∧ Below V.heap.size V w') := Lib.hid HQ.out
              clear hok hsm hck hq hix ht hT HQ
              go_wp2_with fail
              rw [← hW]
              refine (HQ2.out _).mono ?_
              rintro e w1 ⟨rfl, b1⟩
              have HB1 := Lib.hid (HW.out.trans (b1.mono HW.out.size))
              have HO1 := Lib.hid (HOW.out.up b1)
              clear b1
              go_wp2_with (at_builtin; refine app_str rfl (.tmp 55) (.tmp 57) rfl v (tlL g j) [T] w1.heap.size (by simp [Act.eval, Act.put]) (by simp [Act.eval, Act.put]) (HO1.out.alloc _) (heap_alloc_new _ _) (by simp; omega) ?_; intro v2 w2 o2 g2; have B2 := Lib.hid ((HB1.out.alloc HB1.out.size _).trans ((HO1.out.alloc _).below g2)); rw [← HT.out] at o2; have O2 := Lib.hid o2; clear o2 g2)
              go_roundw
              case rel => exact ⟨j + 1, _, by omega, by go_num, rfl, HN, O2, B2⟩
              case measure => (simp [intOf]; omega)
            · have ht : tellT ⟨k, s, t⟩ = s := by unfold tellT; rw [if_neg h3]
              rw [ht] at HT
              clear hok hsm ht
              have hsz : W.heap.size = wr.heap.size + 1 := by rw [hW]; simp
              go_wp2_with (at_builtin; rw [← hW]; refine app_str rfl (.tmp 33) (.tmp 36) rfl v (tlL g j) [s] W.heap.size (by simp [Act.eval, Act.put]) (by simp [Act.eval, Act.put, hsz]) (HOW.out.alloc _) (heap_alloc_new _ _) (by simp; omega) ?_; intro v2 w2 o2 g2; have B2 := Lib.hid ((HW.out.alloc HW.out.size _).trans ((HOW.out.alloc _).below g2)); rw [← HT.out] at o2; have O2 := Lib.hid o2; clear o2 g2)
              go_roundw
              case rel => exact ⟨j + 1, _, by omega, by go_num, rfl, HN, O2, B2⟩
              case measure => (simp [intOf]; omega)
        · obtain rfl : j = i := by omega
          obtain ⟨hx1, hx2, hx3⟩ := HYES.out HP.out
          have HX := Lib.hid hx1
          have HX3 := Lib.hid hx3
          have HC := Lib.hid (join_any HO.out (by have := HLN.out j; omega) (by omega))
          clear hx1 hx2 hx3 HP
          go_wp2_with fail
          refine HC.out.mono ?_
          rintro e w1 ⟨rfl, b1⟩
          have HB1 := Lib.hid (HB2.out.trans (b1.mono HB2.out.size))
          clear b1
          go_wp2_with fail
          go_ret2
          exact ⟨jn_ret HX.out.symm HX3.out.symm, HB1.out⟩
end Go.Proofs.YtnbmecabnkhniaaDoor
/- Layer 17: the walk of LexJoins. -/
namespace Go.Proofs.YtnbmecabnkhniaaDoor
open Go.RowKit Go.Maps
def rw3 (g : Nat → TkR) : Nat → List Value
  | 0 => []
  | n + 1 => rw3 g n ++ [.int .u8 (g n).k, .string (g n).s, .int .i64 (g n).a]
theorem rw3_len (g : Nat → TkR) : ∀ n, (rw3 g n).length = n * 3
  | 0 => rfl
  | n + 1 => by
    show (rw3 g n ++ [_, _, _]).length = _
    rw [List.length_append, rw3_len g n]
    show n * 3 + 3 = _
    omega
theorem rw3_at (g : Nat → TkR) : ∀ n i, i < n → (rw3 g n)[i * 3]? = some (.int .u8 (g i).k) ∧ (rw3 g n)[i * 3 + 1]? = some (.string (g i).s) ∧ (rw3 g n)[i * 3 + 2]? = some (.int .i64 (g i).a)
  | 0, i, h => absurd h (Nat.not_lt_zero i)
  | n + 1, i, h => by
    have hl := rw3_len g n
    show (rw3 g n ++ [_, _, _])[i * 3]? = _ ∧ (rw3 g n ++ [_, _, _])[i * 3 + 1]? = _ ∧ (rw3 g n ++ [_, _, _])[i * 3 + 2]? = _
    by_cases e : i = n
    · subst e
      rw [List.getElem?_append_right (by omega), List.getElem?_append_right (by omega), List.getElem?_append_right (by omega), hl]
      rw [show i * 3 - i * 3 = 0 by omega, show i * 3 + 1 - i * 3 = 1 by omega, show i * 3 + 2 - i * 3 = 2 by omega]
      exact ⟨rfl, rfl, rfl⟩
    · rw [List.getElem?_append_left (by omega), List.getElem?_append_left (by omega), List.getElem?_append_left (by omega)]
      exact rw3_at g n i (by omega)
theorem rw3_one (g : Nat → TkR) : ∀ n, ∀ u ∈ rw3 g n, u.oneCell' = true
  | 0, u, h => by cases h
  | n + 1, u, h => by
    rcases List.mem_append.1 h with h | h
    · exact rw3_one g n u h
    · simp at h
      rcases h with rfl | rfl | rfl <;> rfl
theorem tk_news {w : World} {ad : Addr} {n : Nat} {g : Nat → TkR} (h : TkV w (some ad) n g) : ∀ j u, (rw3 g n)[j]? = some u → w.cell? (ad.add j) = some u := by
  intro j u hj
  have hlt := (List.getElem?_eq_some_iff.1 hj).1
  rw [rw3_len] at hlt
  have hi : j / 3 < n := by omega
  obtain ⟨b, off, e, _, c0, c1, c2⟩ := h (j / 3) hi
  cases e
  obtain ⟨a0, a1, a2⟩ := rw3_at g n (j / 3) hi
  rw [Addr.add_lit]
  show w.cell? ⟨b, off + j, none⟩ = some u
  rcases (by omega : j = j / 3 * 3 ∨ j = j / 3 * 3 + 1 ∨ j = j / 3 * 3 + 2) with e | e | e
  · rw [e] at hj ⊢; rw [a0] at hj; rw [c0]; exact hj
  · rw [e] at hj ⊢; rw [a1] at hj; rw [← Nat.add_assoc, c1]; exact hj
  · rw [e] at hj ⊢; rw [a2] at hj; rw [← Nat.add_assoc, c2]; exact hj
theorem own_tk {w : World} {B n : Nat} {v : Value} {g : Nat → TkR} (h : w.ownsRow B 31 3 v n (rw3 g n)) : ∃ a c, v = .slice a n c ∧ TkV w a n g := by
  rcases h.2 with ⟨rfl, rfl⟩ | ⟨q, cap, cur, rfl, hq, hb, h1, h2, h3, h4⟩
  · exact ⟨none, 0, rfl, fun i hi => absurd hi (Nat.not_lt_zero i)⟩
  · refine ⟨_, cap, rfl, fun i hi => ?_⟩
    have hc : ∀ j u, (rw3 g n)[j]? = some u → w.cell? ⟨q, 0 + j, none⟩ = some u := fun j u hj => by
      have hlt := (List.getElem?_eq_some_iff.1 hj).1
      rw [rw3_len] at hlt
      have e : cur.toList[j]? = some u := by
        have : (cur.toList.take (n * 3))[j]? = (rw3 g n)[j]? := by rw [h4]
        rw [List.getElem?_take, if_pos hlt] at this
        rw [this, hj]
      rw [Nat.zero_add]
      simp [World.cell?, hb]
      simpa using e
    obtain ⟨a0, a1, a2⟩ := rw3_at g n i hi
    exact ⟨q, 0, rfl, (Array.getElem?_eq_some_iff.1 hb).1, hc _ _ a0, by rw [Nat.add_assoc]; exact hc _ _ a1, by rw [Nat.add_assoc]; exact hc _ _ a2⟩
theorem infoT : ∃ i, Tryd.prog.info? 31 = some i ∧ i.zero = some (.agg #[.int .u8 0, .string ⟨#[]⟩, .int .i64 0]) ∧ i.size = 3 ∧ i.bytes = 32 := by
  have h := Tryd.typeInfo31 default
  unfold typeInfo at h
  cases hq : Tryd.prog.info? 31 with
  | none => simp [hq] at h
  | some i =>
    simp [hq] at h
    exact ⟨i, rfl, by rw [h]; rfl, by rw [h]; rfl, by rw [h]; rfl⟩
theorem own_empty (w : World) : (w.alloc (.cells #[] 31)).ownsRow w.heap.size 31 3 (.slice (some ⟨w.heap.size, 0, none⟩) 0 0) 0 [] := ⟨rfl, .inr ⟨w.heap.size, 0, #[], rfl, Nat.le_refl _, heap_alloc_new _ _, Nat.le_refl _, by decide, rfl, rfl⟩⟩
set_option maxRecDepth 20000 in
set_option maxHeartbeats 20000000 in
theorem joins_walk (a : Option Addr) (n cap : Nat) (g : Nat → TkR) (w : World) (l : Nm.Lim w) (hn : n ≤ maxLen) (ha : a = none → cap = 0) (hv : TkV w a n g) : Calls Tryd.prog 3 #[.slice a n cap] w fun e w' => e = .returned (.bool true) ∧ Below w.heap.size w w' := by
  obtain ⟨i0, hi, hz0, hz1, hz2⟩ := infoT
  have HG := Lib.hid (rgreat_any a n cap g w hv hn)
  have HV0 := Lib.hid hv
  have HL0 := Lib.hid l
  have HA := Lib.hid ha
  clear hv l hn ha
  go_enter Tryd.func3, Tryd.ntmps3
  go_wp2_with fail
  refine HG.out.mono ?_
  rintro e w' ⟨x, rfl, hx, hw⟩
  obtain rfl := hw.symm
  clear hw
  cases x with
  | true =>
    go_wp2_with fail
    go_ret
    exact ⟨rfl, Below.refl _ _⟩
  | false =>
  have HX := Lib.hid (hx rfl)
  clear hx
  cases a with
  | none =>
    obtain rfl : n = 0 := by
      rcases Nat.eq_zero_or_pos n with h | h
      · exact h
      · obtain ⟨b, off, e⟩ := HV0.out.addr h
        cases e
    obtain rfl := HA.out rfl
    obtain ⟨w1, hw1⟩ : ∃ w1, w1 = w.alloc (.cells #[] 31) := ⟨_, rfl⟩
    have HO : Hid (w1.ownsRow w.heap.size 31 3 (.slice (some ⟨w.heap.size, 0, none⟩) 0 0) 0 []) := Lib.hid (by rw [hw1]; exact own_empty w)
    have B10 : Hid (Below w.heap.size w w1) := Lib.hid (by rw [hw1]; exact below_box _ _)
    have hvo := (own_tk (g := g) (n := 0) HO.out)
    obtain ⟨a', c', he, hvo⟩ := hvo
    cases he
    have HVO := Lib.hid hvo
    clear hvo
    have HV := Lib.hid (fun V (k : Below w1.heap.size w1 V) => (HV0.out.below B10.out).below k)
    have HVo := Lib.hid (fun V (k : Below w1.heap.size w1 V) => HVO.out.below k)
    have HLM := Lib.hid (fun V (k : Below w1.heap.size w1 V) => lim_up (lim_up HL0.out B10.out) k)
    have HJ1 := Lib.hid (ljoin_any (some ⟨w.heap.size, 0, none⟩) 0 0 g w1 (HLM.out _ (Below.refl _ _)) HX.out.2 (Nat.le_trans HX.out.1 (by decide)) HVO.out)
    have HJ2 := Lib.hid (fun V k => rjoin_any none 0 0 g V HX.out.2 (Nat.le_trans HX.out.1 (by decide)) (HV.out V k))
    have HSM := Lib.hid (fun V k => rsame_any (some ⟨w.heap.size, 0, none⟩) none 0 0 0 g V (by have := HX.out.1; unfold maxLen; omega) (HVo.out V k) (HV.out V k))
    obtain ⟨J, hJ⟩ : ∃ J, J = jnR g 0 := ⟨_, rfl⟩
    obtain ⟨E, hE⟩ : ∃ E, E = jnE g 0 := ⟨_, rfl⟩
    rw [← hJ, ← hE] at HJ1 HJ2
    clear hJ hE
    go_wp2_with fail
    rw [← hw1]
    refine HJ1.out.mono ?_
    rintro e w2 ⟨rfl, b1⟩
    have B2 := Lib.hid b1
    clear b1
    go_wp2_with fail
    refine (HJ2.out _ B2.out).mono ?_
    rintro e w3 ⟨rfl, b1⟩
    have B3 := Lib.hid (B2.out.trans (b1.mono B2.out.size))
    clear b1
    go_wp2_with fail
    go_loopw [8, 8] (fun v8 _ wr => ∃ i : Nat, i ≤ 0 ∧ v8 = .int .i64 i ∧ Hid (Below w1.heap.size w1 wr)) (fun v8 _ _ => 0 - (intOf v8).toNat)
    case atStart => exact ⟨0, Nat.zero_le _, rfl, B3⟩
    case round =>
      obtain ⟨i, hi, rfl, HB⟩ := hrel
      by_cases hin : i < 0
      · exact absurd hin (Nat.not_lt_zero _)
      · obtain rfl : i = 0 := by omega
        go_wp2_with (go_at_call 9; refine (HSM.out _ HB.out).mono ?_; rintro e w4 ⟨rfl, b1⟩; have B4 := Lib.hid (HB.out.trans (b1.mono HB.out.size)); clear b1)
        go_ret
        exact ⟨rfl, B10.out.trans (B4.out.mono B10.out.size)⟩
  | some ad =>
    have HNa := Lib.hid (tk_news (HV0.out.below (below_box w (.cells #[] 31))))
    have HO := Lib.hid (own_empty w)
    have HL3 := Lib.hid (rw3_len g n)
    have H13 := Lib.hid (rw3_one g n)
    have HN2 := Lib.hid HX.out.1
    have HOT : Hid (∀ v1 w1, World.ownsRow w1 w.heap.size 31 3 v1 (0 + n) ([] ++ rw3 g n) → ∃ a c, v1 = .slice a n c ∧ TkV w1 a n g) := Lib.hid (fun v1 w1 h => own_tk (by simpa using h))
    obtain ⟨L, hL⟩ : ∃ L, L = rw3 g n := ⟨_, rfl⟩
    rw [← hL] at HNa HL3 H13 HOT
    clear hL
    go_wp2_with (at_builtin; refine wpList_append_own _ rfl _ _ 22 rfl w.heap.size 31 i0 (.agg #[.int .u8 0, .string ⟨#[]⟩, .int .i64 0]) 3 32 Tryd.underlying22 hi hz0 hz1 hz2 rfl (by decide) (.slice (some ⟨w.heap.size, 0, none⟩) 0 0) 0 [] rfl HO.out ad n cap L rfl HL3.out HNa.out H13.out (by have := HN2.out; unfold maxLen; omega) (by have := HN2.out; omega) (by simp) ?_; intro v1 w1 ho1 hg1 _; have B10 : Hid (Below w.heap.size w w1) := Lib.hid ((below_box w _).grown hg1 (by simp) (fun q hq => by simp [Value.ownBlock] at hq; omega)); obtain ⟨a', c', he, hvo⟩ := HOT.out _ _ ho1; subst he; have HVO := Lib.hid hvo; clear hvo ho1 hg1)
    have HV := Lib.hid (fun V (k : Below w1.heap.size w1 V) => (HV0.out.below B10.out).below k)
    have HVo := Lib.hid (fun V (k : Below w1.heap.size w1 V) => HVO.out.below k)
    have HLM := Lib.hid (fun V (k : Below w1.heap.size w1 V) => lim_up (lim_up HL0.out B10.out) k)
    have HJ1 := Lib.hid (ljoin_any a' n c' g w1 (HLM.out _ (Below.refl _ _)) HX.out.2 (Nat.le_trans HX.out.1 (by decide)) HVO.out)
    have HJ2 := Lib.hid (fun V k => rjoin_any (some ad) n cap g V HX.out.2 (Nat.le_trans HX.out.1 (by decide)) (HV.out V k))
    have HSM := Lib.hid (fun V k => rsame_any a' (some ad) n c' cap g V (by have := HX.out.1; unfold maxLen; omega) (HVo.out V k) (HV.out V k))
    obtain ⟨J, hJ⟩ : ∃ J, J = jnR g n := ⟨_, rfl⟩
    obtain ⟨E, hE⟩ : ∃ E, E = jnE g n := ⟨_, rfl⟩
    rw [← hJ, ← hE] at HJ1 HJ2
    clear hJ hE
    refine HJ1.out.mono ?_
    rintro e w2 ⟨rfl, b1⟩
    have B2 := Lib.hid b1
    clear b1
    go_wp2_with fail
    refine (HJ2.out _ B2.out).mono ?_
    rintro e w3 ⟨rfl, b1⟩
    have B3 := Lib.hid (B2.out.trans (b1.mono B2.out.size))
    clear b1
    go_wp2_with fail
    go_loopw [8, 8] (fun v8 _ wr => ∃ i : Nat, i ≤ n ∧ v8 = .int .i64 i ∧ Hid (Below w1.heap.size w1 wr)) (fun v8 _ _ => n - (intOf v8).toNat)
    case atStart => exact ⟨0, Nat.zero_le _, rfl, B3⟩
    case round =>
      obtain ⟨i, hi, rfl, HB⟩ := hrel
      by_cases hin : i < n
      · have hii : (i : Int) < n := by omega
        have hi00 : (0 : Int) ≤ i := by omega
        have hn2 := HX.out.1
        obtain ⟨b, off, hae⟩ := (HV.out _ HB.out).addr (by omega)
        cases hae
        have hsm := HX.out.2 i hin
        obtain ⟨X, hX⟩ : ∃ X, X = g i := ⟨_, rfl⟩
        have HQ1 : ∀ w', Below w1.heap.size w1 w' → Below w1.heap.size w1 w' ∧ w'.cell? ⟨b, off + i * 3, none⟩ = some (.int .u8 X.k) ∧ w'.cell? ⟨b, off + i * 3 + 1, none⟩ = some (.string X.s) ∧ w'.cell? ⟨b, off + i * 3 + 2, none⟩ = some (.int .i64 X.a) := fun w' hb => by
          obtain ⟨_, d0, d1, d2⟩ := (HV.out _ hb).at_ hin
          rw [hX]
          exact ⟨hb, d0, d1, d2⟩
        have HM := Lib.hid (fun V (k : Below w1.heap.size w1 V) => lcheck_any X V (HLM.out V k) (by rw [hX]; omega))
        have HC := Lib.hid (fun V (_ : Below w1.heap.size w1 V) => rchk_any X V (by rw [hX]; omega))
        clear hX hsm
        obtain ⟨F, hF⟩ : ∃ F : Int, F = if okT X then 0 else 8 := ⟨_, rfl⟩
        rw [← hF] at HM HC
        clear hF
        obtain ⟨k, s, t⟩ := X
        dsimp only at HQ1 HM HC
        have HQ0 : Hid (∀ w', Below w1.heap.size w1 w' → (fun w' => Below w1.heap.size w1 w' ∧ w'.cell? ⟨b, off + i * 3, none⟩ = some (.int .u8 k) ∧ w'.cell? ⟨b, off + i * 3 + 1, none⟩ = some (.string s) ∧ w'.cell? ⟨b, off + i * 3 + 2, none⟩ = some (.int .i64 t)) w') := Lib.hid HQ1
        clear HQ1
        go_wp2_with fail
        refine wp_region_held_drew (S := (fun w' => Below w1.heap.size w1 w' ∧ w'.cell? ⟨b, off + i * 3, none⟩ = some (.int .u8 k) ∧ w'.cell? ⟨b, off + i * 3 + 1, none⟩ = some (.string s) ∧ w'.cell? ⟨b, off + i * 3 + 2, none⟩ = some (.int .i64 t))) (by kernel_rfl) (HQ0.out _ HB.out.drew) (fun hHeld => ?_)
        refine wpAnyH_take (i := 0) (oi := { dst := some 30, op := Op.move (Operand.tmp 0), type := 22, pos := "law.go:30", after := #[], guard := none }) (v := ?_) rfl (by kernel_rfl) (by kernel_rfl) (by kernel_rfl) (fun _ _ _ h => h) (Or.inl ⟨by rfl, ?_⟩) hHeld ?_
        rotate_left
        · (intro w hSw; (try dsimp only at hSw); go_simp <;> with_reducible rfl)
        try simp only [Act.put, List.setIfInBounds_toArray, List.set_cons_zero, List.set_cons_succ]
        refine wpAnyH_take (i := 1) (oi := { dst := some 31, op := Op.move (Operand.tmp 8), type := 3, pos := "law.go:30", after := #[], guard := none }) (v := ?_) rfl (by kernel_rfl) (by kernel_rfl) (by kernel_rfl) (fun _ _ _ h => h) (Or.inl ⟨by rfl, ?_⟩) hHeld ?_
        rotate_left
        · (intro w hSw; (try dsimp only at hSw); go_simp <;> with_reducible rfl)
        try simp only [Act.put, List.setIfInBounds_toArray, List.set_cons_zero, List.set_cons_succ]
        refine wpAnyH_take (i := 2) (oi := { dst := some 32, op := Op.indexAddr 22 (Operand.tmp 30) (Operand.tmp 31), type := 0, pos := "law.go:30", after := #[{ on := 0, ground := Ground.data }, { on := 1, ground := Ground.data }], guard := none }) (v := ?_) rfl (by kernel_rfl) (by kernel_rfl) (by kernel_rfl) (fun _ _ _ h => h) (Or.inl ⟨by rfl, ?_⟩) hHeld ?_
        rotate_left
        · (intro w hSw; (try dsimp only at hSw); go_simp <;> with_reducible rfl)
        try simp only [Act.put, List.setIfInBounds_toArray, List.set_cons_zero, List.set_cons_succ]
        refine wpAnyH_take (i := 3) (oi := { dst := some 33, op := Op.load 31 (Operand.tmp 32), type := 31, pos := "law.go:30", after := #[{ on := 2, ground := Ground.data }], guard := none }) (v := ?_) rfl (by kernel_rfl) (by kernel_rfl) (by kernel_rfl) (fun _ _ _ h => h) (Or.inl ⟨by rfl, ?_⟩) hHeld ?_
        rotate_left
        · (intro w hSw; (try dsimp only at hSw); go_simp <;> with_reducible rfl)
        try simp only [Act.put, List.setIfInBounds_toArray, List.set_cons_zero, List.set_cons_succ]
        refine wpAnyH_take (i := 5) (oi := { dst := some 35, op := Op.move (Operand.tmp 0), type := 22, pos := "law.go:30", after := #[], guard := none }) (v := ?_) rfl (by kernel_rfl) (by kernel_rfl) (by kernel_rfl) (fun _ _ _ h => h) (Or.inl ⟨by rfl, ?_⟩) hHeld ?_
        rotate_left
        · (intro w hSw; (try dsimp only at hSw); go_simp <;> with_reducible rfl)
        try simp only [Act.put, List.setIfInBounds_toArray, List.set_cons_zero, List.set_cons_succ]
        refine wpAnyH_take (i := 6) (oi := { dst := some 36, op := Op.move (Operand.tmp 8), type := 3, pos := "law.go:30", after := #[], guard := none }) (v := ?_) rfl (by kernel_rfl) (by kernel_rfl) (by kernel_rfl) (fun _ _ _ h => h) (Or.inl ⟨by rfl, ?_⟩) hHeld ?_
        rotate_left
        · (intro w hSw; (try dsimp only at hSw); go_simp <;> with_reducible rfl)
        try simp only [Act.put, List.setIfInBounds_toArray, List.set_cons_zero, List.set_cons_succ]
        refine wpAnyH_take (i := 7) (oi := { dst := some 37, op := Op.indexAddr 22 (Operand.tmp 35) (Operand.tmp 36), type := 0, pos := "law.go:30", after := #[{ on := 5, ground := Ground.data }, { on := 6, ground := Ground.data }], guard := none }) (v := ?_) rfl (by kernel_rfl) (by kernel_rfl) (by kernel_rfl) (fun _ _ _ h => h) (Or.inl ⟨by rfl, ?_⟩) hHeld ?_
        rotate_left
        · (intro w hSw; (try dsimp only at hSw); go_simp <;> with_reducible rfl)
        try simp only [Act.put, List.setIfInBounds_toArray, List.set_cons_zero, List.set_cons_succ]
        refine wpAnyH_take (i := 8) (oi := { dst := some 38, op := Op.load 31 (Operand.tmp 37), type := 31, pos := "law.go:30", after := #[{ on := 7, ground := Ground.data }], guard := none }) (v := ?_) rfl (by kernel_rfl) (by kernel_rfl) (by kernel_rfl) (fun _ _ _ h => h) (Or.inl ⟨by rfl, ?_⟩) hHeld ?_
        rotate_left
        · (intro w hSw; (try dsimp only at hSw); go_simp <;> with_reducible rfl)
        try simp only [Act.put, List.setIfInBounds_toArray, List.set_cons_zero, List.set_cons_succ]
        refine wpAnyH_ready (rs := [4]) (by kernel_rfl) (by simp) (AllReadyH.cons (o := { dst := some 34, op := Op.call { callee := Callee.value (Operand.func 7), args := #[Operand.tmp 33], argTypes := #[31] }, type := 24, pos := "law.go:30", after := #[{ on := 3, ground := Ground.data }], guard := none }) rfl (fun K4 hK4 => ?_) AllReadyH.nil)
        go_simp
        refine (HM.out _ hHeld.1).mono ?_
        rintro e wq ⟨rfl, hq⟩
        refine hK4.out _ _ (HQ0.out _ (hHeld.1.trans (hq.mono hHeld.1.size))) (fun hH_4 => ?_)
        clear hq
        clear hK4 K4
        try simp only [Act.put, List.setIfInBounds_toArray, List.set_cons_zero, List.set_cons_succ]
        refine wpAnyH_ready (rs := [9]) (by kernel_rfl) (by simp) (AllReadyH.cons (o := { dst := some 39, op := Op.call { callee := Callee.value (Operand.func 8), args := #[Operand.tmp 38], argTypes := #[31] }, type := 3, pos := "law.go:30", after := #[{ on := 8, ground := Ground.data }, { on := 4, ground := Ground.chain }], guard := none }) rfl (fun K9 hK9 => ?_) AllReadyH.nil)
        go_simp
        refine (HC.out _ hH_4.1).mono ?_
        rintro e wq ⟨rfl, hq⟩
        refine hK9.out _ _ (HQ0.out _ (hH_4.1.trans (hq.mono hH_4.1.size))) (fun hH_9 => ?_)
        clear hq
        clear hK9 K9
        try simp only [Act.put, List.setIfInBounds_toArray, List.set_cons_zero, List.set_cons_succ]
        refine wpAnyH_take (i := 10) (oi := { dst := some 40, op := Op.binOp BinOp.neq 3 (Operand.tmp 34) (Operand.tmp 39) 3, type := 4, pos := "law.go:30", after := #[{ on := 4, ground := Ground.data }, { on := 9, ground := Ground.data }], guard := none }) (v := ?_) rfl (by kernel_rfl) (by kernel_rfl) (by kernel_rfl) (fun _ _ _ h => h) (Or.inl ⟨by rfl, ?_⟩) hH_9 ?_
        rotate_left
        · (intro w hSw; (try dsimp only at hSw); go_simp <;> with_reducible rfl)
        try simp only [Act.put, List.setIfInBounds_toArray, List.set_cons_zero, List.set_cons_succ]
        refine wpAnyH_done (by kernel_rfl) ?_ _
        have BL := Lib.hid hH_9.1
        clear hHeld hH_4 hH_9
        go_wp2_with fail
        go_roundw
        case rel => exact ⟨i + 1, by omega, by go_num, BL⟩
        case measure => (simp [intOf]; omega)
      · obtain rfl : i = n := by omega
        go_wp2_with (go_at_call 9; refine (HSM.out _ HB.out).mono ?_; rintro e w4 ⟨rfl, b1⟩; have B4 := Lib.hid (HB.out.trans (b1.mono HB.out.size)); clear b1)
        go_ret
        exact ⟨rfl, B10.out.trans (B4.out.mono B10.out.size)⟩
end Go.Proofs.YtnbmecabnkhniaaDoor

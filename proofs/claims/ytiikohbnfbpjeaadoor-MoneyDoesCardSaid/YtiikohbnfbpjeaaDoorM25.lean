import Derived.Test.YtiikohbnfbpjeaaDoorM24
namespace Go.Proofs.YtiikohbnfbpjeaaDoor
open Go.RowKit
theorem row_any (m p : Int) (w : World) (h : may m p = true) (h1 : -9223372036854775808 ≤ m) (h2 : m < 9223372036854775808) :
    Calls Tryd.prog 42 #[.agg #[.int .i64 m, .int .i64 p]] w fun e w' => e = .returned (.tuple #[rowV (vM m p).natAbs, .bool (decide (m < 0))]) ∧ Below w.heap.size w w' := by
  obtain ⟨p1, p2, -⟩ := may_parts h
  obtain ⟨q, rfl⟩ := Int.eq_ofNat_of_zero_le p1
  have hq : q ≤ 18 := by omega
  have e : (vM m q).natAbs = m.natAbs * 10 ^ (18 - q) := by
    unfold vM
    rw [Int.natAbs_mul, Int.natAbs_pow, Int.toNat_natCast]; rfl
  rw [e]
  by_cases hm : m < 0
  · obtain ⟨n, rfl⟩ : ∃ n : Nat, m = -(n : Int) := ⟨m.natAbs, by omega⟩
    rw [decide_eq_true hm, show (-(n : Int)).natAbs = n by omega]
    exact row_neg n q w (by omega) (by omega) hq
  · obtain ⟨n, rfl⟩ : ∃ n : Nat, m = (n : Int) := ⟨m.natAbs, by omega⟩
    rw [decide_eq_false hm, show ((n : Nat) : Int).natAbs = n by omega]
    exact row_pos n q w (by omega) hq
/-! ### Sums and differences digit by digit -/
/-- What is carried, and what is borrowed. -/
def cP (N M i : Nat) : Nat := (N % 10 ^ i + M % 10 ^ i) / 10 ^ i
def bM (N M i : Nat) : Nat := if N % 10 ^ i < M % 10 ^ i then 1 else 0
theorem pow_pos10 (i : Nat) : 0 < 10 ^ i := Nat.pow_pos (by decide)
theorem cP_le (N M i : Nat) : cP N M i ≤ 1 := by
  have h1 := Nat.mod_lt N (pow_pos10 i)
  have h2 := Nat.mod_lt M (pow_pos10 i)
  unfold cP
  have : (N % 10 ^ i + M % 10 ^ i) / 10 ^ i < 2 := (Nat.div_lt_iff_lt_mul (pow_pos10 i)).2 (by omega)
  omega
theorem cP_zero (N M : Nat) : cP N M 0 = 0 := by unfold cP; rw [Nat.pow_zero, Nat.mod_one, Nat.mod_one]
theorem mod_step (N i : Nat) : N % 10 ^ (i + 1) = N % 10 ^ i + 10 ^ i * D10 N i := by rw [Nat.pow_succ, Nat.mod_mul]; rfl
theorem cP_step (N M i : Nat) : cP N M (i + 1) = (D10 N i + D10 M i + cP N M i) / 10 := by
  unfold cP
  rw [mod_step, mod_step, Nat.pow_succ, ← Nat.div_div_eq_div_mul]
  congr 1
  rw [show N % 10 ^ i + 10 ^ i * D10 N i + (M % 10 ^ i + 10 ^ i * D10 M i) = 10 ^ i * (D10 N i + D10 M i) + (N % 10 ^ i + M % 10 ^ i) by rw [Nat.mul_add]; omega]
  exact Nat.mul_add_div (pow_pos10 i) _ _
theorem plus_digit (N M i : Nat) : D10 (N + M) i = (D10 N i + D10 M i + cP N M i) % 10 := by
  have e : (N + M) / 10 ^ i = N / 10 ^ i + M / 10 ^ i + cP N M i := by
    have h1 := Nat.div_add_mod N (10 ^ i)
    have h2 := Nat.div_add_mod M (10 ^ i)
    have : N + M = 10 ^ i * (N / 10 ^ i + M / 10 ^ i) + (N % 10 ^ i + M % 10 ^ i) := by rw [Nat.mul_add]; omega
    rw [this, Nat.mul_add_div (pow_pos10 i)]
    rfl
  unfold D10
  rw [e]
  omega
theorem bM_zero (N M : Nat) : bM N M 0 = 0 := by unfold bM; rw [Nat.pow_zero, Nat.mod_one, Nat.mod_one]; rfl
theorem bM_step (N M i : Nat) : bM N M (i + 1) = if D10 N i < D10 M i + bM N M i then 1 else 0 := by
  have h1 := Nat.mod_lt N (pow_pos10 i)
  have h2 := Nat.mod_lt M (pow_pos10 i)
  unfold bM
  rw [mod_step, mod_step]
  obtain ⟨x, hx⟩ : ∃ x, x = D10 N i := ⟨_, rfl⟩
  obtain ⟨y, hy⟩ : ∃ y, y = D10 M i := ⟨_, rfl⟩
  obtain ⟨Q, hQ⟩ : ∃ Q, Q = 10 ^ i := ⟨_, rfl⟩
  rw [← hx, ← hy, ← hQ]
  rw [← hQ] at h1 h2
  have key : ∀ a b : Nat, a < b → Q * a + Q ≤ Q * b := fun a b h => by
    have := Nat.mul_le_mul_left Q (show a + 1 ≤ b from h)
    rw [Nat.mul_add] at this
    omega
  by_cases hxy : x < y
  · have := key x y hxy
    rw [if_pos (by omega), if_pos (by split <;> omega)]
  · by_cases hyx : y < x
    · have := key y x hyx
      rw [if_neg (by omega), if_neg (by split <;> omega)]
    · obtain rfl : x = y := by omega
      by_cases h : N % Q < M % Q
      · rw [if_pos h, if_pos (by omega), if_pos (by omega)]
      · rw [if_neg h, if_neg (by omega), if_neg (by omega)]
theorem bM_le (N M i : Nat) : bM N M i ≤ 1 := by unfold bM; split <;> omega
theorem minus_digit (N M i : Nat) (h : M ≤ N) : ((D10 (N - M) i : Nat) : Int) = (D10 N i : Int) - D10 M i - bM N M i + (if D10 N i < D10 M i + bM N M i then 10 else 0) := by
  have h1 := Nat.div_add_mod N (10 ^ i)
  have h2 := Nat.div_add_mod M (10 ^ i)
  have l1 := Nat.mod_lt N (pow_pos10 i)
  have l2 := Nat.mod_lt M (pow_pos10 i)
  have hle : M / 10 ^ i ≤ N / 10 ^ i := Nat.div_le_div_right h
  obtain ⟨Q, hQ⟩ : ∃ Q, Q = 10 ^ i := ⟨_, rfl⟩
  have hQ0 : 0 < Q := by rw [hQ]; exact pow_pos10 i
  obtain ⟨a, ha⟩ : ∃ a, a = N / 10 ^ i := ⟨_, rfl⟩
  obtain ⟨c, hc⟩ : ∃ a, a = M / 10 ^ i := ⟨_, rfl⟩
  have e : (N - M) / 10 ^ i + bM N M i = a - c ∧ (bM N M i = 1 → c < a) := by
    unfold bM
    rw [← ha, ← hQ] at h1
    rw [← hc, ← hQ] at h2
    rw [← hQ] at l1 l2 ⊢
    rw [← ha, ← hc] at hle
    by_cases hb : N % Q < M % Q
    · rw [if_pos hb]
      have hca : c < a := by
        apply Classical.byContradiction
        intro q
        obtain rfl : c = a := by omega
        omega
      refine ⟨?_, fun _ => hca⟩
      obtain ⟨d, rfl⟩ : ∃ d, a = c + 1 + d := ⟨a - (c + 1), by omega⟩
      have : N - M = Q * d + (Q + N % Q - M % Q) := by
        rw [Nat.mul_add, Nat.mul_add] at h1
        omega
      rw [this, Nat.mul_add_div hQ0, Nat.div_eq_of_lt (by omega)]
      omega
    · rw [if_neg hb]
      refine ⟨?_, fun q => by omega⟩
      obtain ⟨d, rfl⟩ : ∃ d, a = c + d := ⟨a - c, by omega⟩
      have : N - M = Q * d + (N % Q - M % Q) := by
        rw [Nat.mul_add] at h1
        omega
      rw [this, Nat.mul_add_div hQ0, Nat.div_eq_of_lt (by omega)]
      omega
  have hb1 : bM N M i ≤ 1 := by unfold bM; split <;> omega
  rw [← ha, ← hc] at hle
  unfold D10
  rw [← ha, ← hc]
  obtain ⟨b, hb⟩ : ∃ b, b = bM N M i := ⟨_, rfl⟩
  rw [← hb] at e hb1 ⊢
  obtain ⟨e1, e2⟩ := e
  split <;> omega
theorem arrL_size (f : Nat → Int) : (arrL f).toArray.size = 40 := by simp [arrL]
/-- What lies in memory while two rows are put together. -/
def BM (w W : World) (f g h : Nat → Int) : Prop := Arr W w.heap.size f ∧ Arr W (w.heap.size + 1) g ∧ Arr W (w.heap.size + 1 + 1) (fun _ => 0) ∧ Arr W (w.heap.size + 1 + 1 + 1) h ∧ Below w.heap.size w W
theorem BM.up {w W W' : World} {f g h : Nat → Int} (r : BM w W f g h) (hb : Below W.heap.size W W') : BM w W' f g h := ⟨r.1.up hb, r.2.1.up hb, r.2.2.1.up hb, r.2.2.2.1.up hb, r.2.2.2.2.trans (hb.mono r.2.2.2.2.size)⟩
theorem BM.dr {w W : World} {f g h : Nat → Int} (r : BM w W f g h) (n : Nat) : BM w (W.drewN n) f g h := r.up (below_dr (Below.refl _ _) n)
theorem BM.set {w W : World} {f g h : Nat → Int} (r : BM w W f g h) (k : Nat) (hk : k < 40) (v : Int) : BM w (W.setCell ⟨w.heap.size + 1 + 1 + 1, k, none⟩ (.int .i64 v)) f g (fun i => if i = k then v else h i) :=
  ⟨r.1.other _ (by simp; omega) _, r.2.1.other _ (by simp; omega) _, r.2.2.1.other _ (by simp) _, r.2.2.2.1.set k hk v, r.2.2.2.2.setCell (by simp; omega) _⟩
theorem BM.new (w : World) (f g : Nat → Int) : BM w ((((w.alloc (.cells (arrC f) 81)).alloc (.cells (arrC g) 81)).alloc (.cells (arrC fun _ => 0) 81)).alloc (.cells (arrC fun _ => 0) 81)) f g (fun _ => 0) := by
  obtain ⟨w2, hw2⟩ : ∃ w2, w2 = (w.alloc (.cells (arrC f) 81)).alloc (.cells (arrC g) 81) := ⟨_, rfl⟩
  have t := TwoR.new w f g
  rw [← hw2] at t ⊢
  have z2 : w2.heap.size = w.heap.size + 1 + 1 := by rw [hw2]; simp
  have z3 : (w2.alloc (.cells (arrC fun _ => 0) 81)).heap.size = w.heap.size + 1 + 1 + 1 := by simp [z2]
  have h2 := Arr.new w2 (fun _ => 0)
  have h3 := Arr.new (w2.alloc (.cells (arrC fun _ => 0) 81)) (fun _ => 0)
  rw [z2] at h2
  rw [z3] at h3
  have t4 := (t.up ((Below.refl _ _).alloc (Nat.le_refl _) (.cells (arrC fun _ => 0) 81))).up ((Below.refl _ _).alloc (Nat.le_refl _) (.cells (arrC fun _ => 0) 81))
  exact ⟨t4.1, t4.2.1, h2.up ((Below.refl _ _).alloc (Nat.le_refl _) _), h3, t4.2.2⟩
/-- Where the loop over digits stands. -/
def BL_plus (w : World) (N M : Nat) (F G : Nat → Int) (f : Nat) (s8 s9 : Value) (W : World) : Prop := ∃ i : Nat, f + i = 40 ∧ s8 = .int .i64 (cP N M i : Nat) ∧ s9 = .int .i64 (i : Nat) ∧ BM w W F G (partR (N + M) i)
set_option maxRecDepth 20000 in
set_option maxHeartbeats 4000000 in
theorem both_plus (N M : Nat) (w : World) :
    Calls Tryd.prog 44 #[rowV N, rowV M, .bool false] w fun e w' => e = .returned (rowV (N + M)) ∧ Below w.heap.size w w' := by
  obtain ⟨F, hF⟩ : ∃ f : Nat → Int, f = fun i => ((D10 N i : Nat) : Int) := ⟨_, rfl⟩
  obtain ⟨G, hG⟩ : ∃ f : Nat → Int, f = fun i => ((D10 M i : Nat) : Int) := ⟨_, rfl⟩
  have P0 := Lib.hid (BM.new w F G)
  rw [z_arr] at P0
  have HZ : Hid ((fun _ : Nat => (0 : Int)) = partR (N + M) 0) := Lib.hid (by funext i; unfold partR; rw [if_neg (by omega)])
  
  
  have e1 : rowV N = arrV F := by rw [hF]; rfl
  have e2 : rowV M = arrV G := by rw [hG]; rfl
  rw [e1, e2]
  clear e1 e2
  have HF := Lib.hid hF
  have HG := Lib.hid hG
  unfold arrV
  clear hF hG
  obtain ⟨A, hA⟩ : ∃ A, A = arrC F := ⟨_, rfl⟩
  obtain ⟨B, hB⟩ : ∃ A, A = arrC G := ⟨_, rfl⟩
  obtain ⟨res, hres⟩ : ∃ v, v = rowV (N + M) := ⟨_, rfl⟩
  have HRES := Lib.hid hres
  rw [← hres]
  rw [← hA, ← hB] at P0 ⊢
  clear hA hB hres
  go_enter Tryd.func44, Tryd.ntmps44
  go_wp2_with fail
  obtain ⟨w0, hw0⟩ : ∃ w0, w0 = (((w.alloc (.cells A 81)).alloc (.cells B 81)).alloc (.cells #[.int .i64 0, .int .i64 0, .int .i64 0, .int .i64 0, .int .i64 0, .int .i64 0, .int .i64 0, .int .i64 0, .int .i64 0, .int .i64 0, .int .i64 0, .int .i64 0, .int .i64 0, .int .i64 0, .int .i64 0, .int .i64 0, .int .i64 0, .int .i64 0, .int .i64 0, .int .i64 0, .int .i64 0, .int .i64 0, .int .i64 0, .int .i64 0, .int .i64 0, .int .i64 0, .int .i64 0, .int .i64 0, .int .i64 0, .int .i64 0, .int .i64 0, .int .i64 0, .int .i64 0, .int .i64 0, .int .i64 0, .int .i64 0, .int .i64 0, .int .i64 0, .int .i64 0, .int .i64 0] 81)).alloc (.cells #[.int .i64 0, .int .i64 0, .int .i64 0, .int .i64 0, .int .i64 0, .int .i64 0, .int .i64 0, .int .i64 0, .int .i64 0, .int .i64 0, .int .i64 0, .int .i64 0, .int .i64 0, .int .i64 0, .int .i64 0, .int .i64 0, .int .i64 0, .int .i64 0, .int .i64 0, .int .i64 0, .int .i64 0, .int .i64 0, .int .i64 0, .int .i64 0, .int .i64 0, .int .i64 0, .int .i64 0, .int .i64 0, .int .i64 0, .int .i64 0, .int .i64 0, .int .i64 0, .int .i64 0, .int .i64 0, .int .i64 0, .int .i64 0, .int .i64 0, .int .i64 0, .int .i64 0, .int .i64 0] 81) := ⟨_, rfl⟩
  rw [← hw0] at P0 ⊢
  clear hw0
  go_loopg [8, 9] 40 (fun f s8 s9 wr => BL_plus w N M F G f s8 s9 wr)
  case atStart => exact ⟨0, rfl, by rw [cP_zero]; rfl, rfl, by rw [← HZ.out]; exact P0.out⟩
  case round =>
    obtain ⟨i, hf, rfl, rfl, hr⟩ := hrel
    have HR := Lib.hid hr
    have HFF := Lib.hid hf
    clear hr
    cases gk with
    | zero =>
      obtain rfl : i = 40 := by omega
      have HE : Hid (arrL (partR (N + M) 40) = arrL (fun i => ((D10 (N + M) i : Nat) : Int))) := Lib.hid (arrL_ext (fun i hi => by unfold partR; rw [if_pos hi]))
      obtain ⟨H, hH⟩ : ∃ H, H = partR (N + M) 40 := ⟨_, rfl⟩
      rw [← hH] at HR HE
      clear hH hf
      have RE := Lib.hid (And.intro (arr_cells HR.out.2.2.1 H) (below_cells (w.heap.size + 1 + 1) (by omega) (arrL H) 0 _ HR.out.2.2.2.2))
      go_upto_region 17 with fail
      refine wp_region_lit ?_
      refine wpList_load_mid rfl 81 (.tmp 7) rfl (w.heap.size + 1 + 1 + 1) 0 rfl (arrL H) _ HR.out.2.2.2.1.range t81 rfl (by rw [arrL_length]; exact s81) ?_
      refine wpList_store_mid rfl 81 (.tmp 6) (.tmp 45) rfl (w.heap.size + 1 + 1) 0 (arrL H).toArray rfl rfl (by rw [arrL_size]; exact HR.out.2.2.1.there) (by rw [arrL_size]; exact s81) (all_oneCell_toArray (arrL_one H)) ?_
      go_wp2_with fail
      refine ret_arr1 (N := w.heap.size + 1 + 1) (f := H) Tryd.results44 (by rfl) RE.out.1 ⟨?_, RE.out.2⟩
      rw [HRES.out]
      unfold arrV arrC rowV arrV arrC
      rw [HE.out]
    | succ g =>
      have hi40 : i < 40 := by omega
      have hi : (i : Int) < 40 := by omega
      have c1 := (HR.out.1.1 i hi40).1
      have c2 := (HR.out.2.1.1 i hi40).1
      have c3 := (HR.out.2.2.2.1.1 i hi40).1
      have f3 := (HR.out.2.2.2.1.1 i hi40).2
      rw [HF.out] at c1
      rw [HG.out] at c2
      dsimp only at c1 c2
      have hx9 := D10_lt N i
      have hy9 := D10_lt M i
      have HPD := Lib.hid (plus_digit N M i)
      have HST := Lib.hid (cP_step N M i)
      have hc1 := cP_le N M i
      obtain ⟨x, hx⟩ : ∃ x, x = D10 N i := ⟨_, rfl⟩
      obtain ⟨y, hy⟩ : ∃ x, x = D10 M i := ⟨_, rfl⟩
      obtain ⟨c, hc⟩ : ∃ x, x = cP N M i := ⟨_, rfl⟩
      obtain ⟨z, hz⟩ : ∃ x, x = D10 (N + M) i := ⟨_, rfl⟩
      rw [← hx] at hx9 HPD HST c1
      rw [← hy] at hy9 HPD HST c2
      rw [← hc] at hc1 HPD HST ⊢
      have HZD := Lib.hid hz
      rw [← hz] at HPD
      have HXX := Lib.hid hx
      clear hx hy hc hz hf
      have hpd := HPD.out
      have hst := HST.out
      have k1 : IntKind.i64.wrap ((x : Int) + y) = (x : Int) + y := IntWalk.i64_in _ (by omega)
      have k2 : IntKind.i64.wrap ((x : Int) + y + c) = (x : Int) + y + c := IntWalk.i64_in _ (by omega)
      by_cases h9 : 9 < x + y + c
      · have HST2 : Hid (cP N M (i + 1) = 1) := Lib.hid (by rw [hst]; omega)
        have HZV : Hid ((z : Int) = (x : Int) + y + c - 10) := Lib.hid (by rw [hpd]; omega)
        have g9 : 9 < (x : Int) + y + c := by omega
        have g9' : ¬ ((x : Int) + y + c - 10 < 0) := by omega
        have h4 : (x : Int) + y + c ≤ 19 := by omega
        clear hpd hst h9
        go_wp2_with fail
        go_quiet (fail)
        go_wp2_with fail
        skip
        go_roundg g
        case rel => exact ⟨i + 1, by have := HFF.out; omega, by rw [HST2.out]; rfl, by go_num, by rw [← partR_set, ← HZD.out, HZV.out]; exact (HR.out.dr _).set i hi40 _⟩
        case measure => omega
      · have HST2 : Hid (cP N M (i + 1) = 0) := Lib.hid (by rw [hst]; omega)
        have HZV : Hid ((z : Int) = (x : Int) + y + c) := Lib.hid (by rw [hpd]; omega)
        have g9 : ¬ (9 < (x : Int) + y + c) := by omega
        have g9' : ¬ ((x : Int) + y + c < 0) := by omega
        clear hpd hst h9
        go_wp2_with fail
        go_quiet (fail)
        go_wp2_with fail
        skip
        go_roundg g
        case rel => exact ⟨i + 1, by have := HFF.out; omega, by rw [HST2.out]; rfl, by go_num, by rw [← partR_set, ← HZD.out, HZV.out]; exact (HR.out.dr _).set i hi40 _⟩
        case measure => omega
/-- Where the loop over digits stands. -/
def BL_minus (w : World) (N M : Nat) (F G : Nat → Int) (f : Nat) (s8 s9 : Value) (W : World) : Prop := ∃ i : Nat, f + i = 40 ∧ s8 = .int .i64 (-((bM N M i : Nat) : Int)) ∧ s9 = .int .i64 (i : Nat) ∧ BM w W F G (partR (N - M) i)
set_option maxRecDepth 20000 in
set_option maxHeartbeats 4000000 in
theorem both_minus (N M : Nat) (w : World) (hMN : M ≤ N) :
    Calls Tryd.prog 44 #[rowV N, rowV M, .bool true] w fun e w' => e = .returned (rowV (N - M)) ∧ Below w.heap.size w w' := by
  obtain ⟨F, hF⟩ : ∃ f : Nat → Int, f = fun i => ((D10 N i : Nat) : Int) := ⟨_, rfl⟩
  obtain ⟨G, hG⟩ : ∃ f : Nat → Int, f = fun i => ((D10 M i : Nat) : Int) := ⟨_, rfl⟩
  have P0 := Lib.hid (BM.new w F G)
  rw [z_arr] at P0
  have HZ : Hid ((fun _ : Nat => (0 : Int)) = partR (N - M) 0) := Lib.hid (by funext i; unfold partR; rw [if_neg (by omega)])
  have HMN := Lib.hid hMN
  clear hMN
  have e1 : rowV N = arrV F := by rw [hF]; rfl
  have e2 : rowV M = arrV G := by rw [hG]; rfl
  rw [e1, e2]
  clear e1 e2
  have HF := Lib.hid hF
  have HG := Lib.hid hG
  unfold arrV
  clear hF hG
  obtain ⟨A, hA⟩ : ∃ A, A = arrC F := ⟨_, rfl⟩
  obtain ⟨B, hB⟩ : ∃ A, A = arrC G := ⟨_, rfl⟩
  obtain ⟨res, hres⟩ : ∃ v, v = rowV (N - M) := ⟨_, rfl⟩
  have HRES := Lib.hid hres
  rw [← hres]
  rw [← hA, ← hB] at P0 ⊢
  clear hA hB hres
  go_enter Tryd.func44, Tryd.ntmps44
  go_wp2_with fail
  obtain ⟨w0, hw0⟩ : ∃ w0, w0 = (((w.alloc (.cells A 81)).alloc (.cells B 81)).alloc (.cells #[.int .i64 0, .int .i64 0, .int .i64 0, .int .i64 0, .int .i64 0, .int .i64 0, .int .i64 0, .int .i64 0, .int .i64 0, .int .i64 0, .int .i64 0, .int .i64 0, .int .i64 0, .int .i64 0, .int .i64 0, .int .i64 0, .int .i64 0, .int .i64 0, .int .i64 0, .int .i64 0, .int .i64 0, .int .i64 0, .int .i64 0, .int .i64 0, .int .i64 0, .int .i64 0, .int .i64 0, .int .i64 0, .int .i64 0, .int .i64 0, .int .i64 0, .int .i64 0, .int .i64 0, .int .i64 0, .int .i64 0, .int .i64 0, .int .i64 0, .int .i64 0, .int .i64 0, .int .i64 0] 81)).alloc (.cells #[.int .i64 0, .int .i64 0, .int .i64 0, .int .i64 0, .int .i64 0, .int .i64 0, .int .i64 0, .int .i64 0, .int .i64 0, .int .i64 0, .int .i64 0, .int .i64 0, .int .i64 0, .int .i64 0, .int .i64 0, .int .i64 0, .int .i64 0, .int .i64 0, .int .i64 0, .int .i64 0, .int .i64 0, .int .i64 0, .int .i64 0, .int .i64 0, .int .i64 0, .int .i64 0, .int .i64 0, .int .i64 0, .int .i64 0, .int .i64 0, .int .i64 0, .int .i64 0, .int .i64 0, .int .i64 0, .int .i64 0, .int .i64 0, .int .i64 0, .int .i64 0, .int .i64 0, .int .i64 0] 81) := ⟨_, rfl⟩
  rw [← hw0] at P0 ⊢
  clear hw0
  go_loopg [8, 9] 40 (fun f s8 s9 wr => BL_minus w N M F G f s8 s9 wr)
  case atStart => exact ⟨0, rfl, by rw [bM_zero]; rfl, rfl, by rw [← HZ.out]; exact P0.out⟩
  case round =>
    obtain ⟨i, hf, rfl, rfl, hr⟩ := hrel
    have HR := Lib.hid hr
    have HFF := Lib.hid hf
    clear hr
    cases gk with
    | zero =>
      obtain rfl : i = 40 := by omega
      have HE : Hid (arrL (partR (N - M) 40) = arrL (fun i => ((D10 (N - M) i : Nat) : Int))) := Lib.hid (arrL_ext (fun i hi => by unfold partR; rw [if_pos hi]))
      obtain ⟨H, hH⟩ : ∃ H, H = partR (N - M) 40 := ⟨_, rfl⟩
      rw [← hH] at HR HE
      clear hH hf
      have RE := Lib.hid (And.intro (arr_cells HR.out.2.2.1 H) (below_cells (w.heap.size + 1 + 1) (by omega) (arrL H) 0 _ HR.out.2.2.2.2))
      go_upto_region 17 with fail
      refine wp_region_lit ?_
      refine wpList_load_mid rfl 81 (.tmp 7) rfl (w.heap.size + 1 + 1 + 1) 0 rfl (arrL H) _ HR.out.2.2.2.1.range t81 rfl (by rw [arrL_length]; exact s81) ?_
      refine wpList_store_mid rfl 81 (.tmp 6) (.tmp 45) rfl (w.heap.size + 1 + 1) 0 (arrL H).toArray rfl rfl (by rw [arrL_size]; exact HR.out.2.2.1.there) (by rw [arrL_size]; exact s81) (all_oneCell_toArray (arrL_one H)) ?_
      go_wp2_with fail
      refine ret_arr1 (N := w.heap.size + 1 + 1) (f := H) Tryd.results44 (by rfl) RE.out.1 ⟨?_, RE.out.2⟩
      rw [HRES.out]
      unfold arrV arrC rowV arrV arrC
      rw [HE.out]
    | succ g =>
      have hi40 : i < 40 := by omega
      have hi : (i : Int) < 40 := by omega
      have c1 := (HR.out.1.1 i hi40).1
      have c2 := (HR.out.2.1.1 i hi40).1
      have c3 := (HR.out.2.2.2.1.1 i hi40).1
      have f3 := (HR.out.2.2.2.1.1 i hi40).2
      rw [HF.out] at c1
      rw [HG.out] at c2
      dsimp only at c1 c2
      have hx9 := D10_lt N i
      have hy9 := D10_lt M i
      have HPD := Lib.hid (minus_digit N M i HMN.out)
      have HST := Lib.hid (bM_step N M i)
      have hc1 := bM_le N M i
      obtain ⟨x, hx⟩ : ∃ x, x = D10 N i := ⟨_, rfl⟩
      obtain ⟨y, hy⟩ : ∃ x, x = D10 M i := ⟨_, rfl⟩
      obtain ⟨c, hc⟩ : ∃ x, x = bM N M i := ⟨_, rfl⟩
      obtain ⟨z, hz⟩ : ∃ x, x = D10 (N - M) i := ⟨_, rfl⟩
      rw [← hx] at hx9 HPD HST c1
      rw [← hy] at hy9 HPD HST c2
      rw [← hc] at hc1 HPD HST ⊢
      have HZD := Lib.hid hz
      rw [← hz] at HPD
      have HXX := Lib.hid hx
      clear hx hy hc hz hf
      have hpd := HPD.out
      have hst := HST.out
      have k1 : IntKind.i64.wrap ((x : Int) + y) = (x : Int) + y := IntWalk.i64_in _ (by omega)
      have k2 : IntKind.i64.wrap ((x : Int) + y + -(c : Int)) = (x : Int) + y + -(c : Int) := IntWalk.i64_in _ (by omega)
      have k3 : IntKind.i64.wrap ((x : Int) - y) = (x : Int) - y := IntWalk.i64_in _ (by omega)
      have k4 : IntKind.i64.wrap ((x : Int) - y + -(c : Int)) = (x : Int) - y + -(c : Int) := IntWalk.i64_in _ (by omega)
      by_cases h9 : x < y + c
      · have HST2 : Hid (bM N M (i + 1) = 1) := Lib.hid (by rw [hst, if_pos h9])
        have HZV : Hid ((z : Int) = (x : Int) - y + -(c : Int) + 10) := Lib.hid (by rw [hpd, if_pos h9]; omega)
        have g9 : (x : Int) - y + -(c : Int) < 0 := by omega
        have g8 : ¬ (9 < (x : Int) - y + -(c : Int)) := by omega
        have g7 : -20 ≤ (x : Int) - y + -(c : Int) := by omega
        clear hpd hst h9
        go_wp2_with fail
        go_quiet (fail)
        go_wp2_with fail
        go_quiet (fail)
        go_wp2_with fail
        skip
        go_roundg g
        case rel => exact ⟨i + 1, by have := HFF.out; omega, by rw [HST2.out]; rfl, by go_num, by rw [← partR_set, ← HZD.out, HZV.out]; exact (HR.out.dr _).set i hi40 _⟩
        case measure => omega
      · have HST2 : Hid (bM N M (i + 1) = 0) := Lib.hid (by rw [hst, if_neg h9])
        have HZV : Hid ((z : Int) = (x : Int) - y + -(c : Int)) := Lib.hid (by rw [hpd, if_neg h9]; omega)
        have g9 : ¬ ((x : Int) - y + -(c : Int) < 0) := by omega
        have g8 : ¬ (9 < (x : Int) - y + -(c : Int)) := by omega
        clear hpd hst h9
        go_wp2_with fail
        go_quiet (fail)
        go_wp2_with fail
        go_quiet (fail)
        go_wp2_with fail
        skip
        go_roundg g
        case rel => exact ⟨i + 1, by have := HFF.out; omega, by rw [HST2.out]; rfl, by go_num, by rw [← partR_set, ← HZD.out, HZV.out]; exact (HR.out.dr _).set i hi40 _⟩
        case measure => omega
end Go.Proofs.YtiikohbnfbpjeaaDoor

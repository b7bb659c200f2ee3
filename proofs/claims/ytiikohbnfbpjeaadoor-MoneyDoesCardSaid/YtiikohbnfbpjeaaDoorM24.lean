import Derived.Test.YtiikohbnfbpjeaaDoorM23
import Derived.Deep.RegionHeld3
import Derived.Deep.DeepCutAuto
namespace Go.Proofs.YtiikohbnfbpjeaaDoor
open Go.RowKit
theorem below_cells {B : Nat} {w : World} (b : Nat) (hb : B ≤ b) : ∀ (vs : List Value) (o : Nat) (W : World), Below B w W → Below B w (W.setCells b o vs)
  | [], _, _, h => h
  | v :: r, o, W, h => below_cells b hb r (o + 1) _ (h.setCell hb v)
theorem size_cells (b : Nat) : ∀ (vs : List Value) (o : Nat) (W : World), (W.setCells b o vs).heap.size = W.heap.size
  | [], _, _ => rfl
  | v :: r, o, W => (size_cells b r (o + 1) _).trans (by simp [World.setCell])
theorem frozen_cells (b : Nat) (a : Addr) : ∀ (vs : List Value) (o : Nat) (W : World), (W.setCells b o vs).frozen? a = W.frozen? a
  | [], _, _ => rfl
  | v :: r, o, W => (frozen_cells b a r (o + 1) _).trans (World.frozen?_setCell _ _ _ _)
theorem arr_cells {W : World} {b : Nat} {g : Nat → Int} (h : Arr W b g) (f : Nat → Int) : Arr (W.setCells b 0 (arrL f)) b f := by
  refine ⟨fun i hi => ⟨?_, (frozen_cells _ _ _ _ _).trans (h.1 i hi).2⟩, by rw [size_cells]; exact h.2⟩
  have := World.rangeAt_setCells_same W b 0 (arrL f) (by rw [arrL_length]; exact h.there) i _ (arrL_get f i hi)
  rwa [Nat.zero_add] at this
theorem arr_cells_other {W : World} {b c : Nat} {g : Nat → Int} (h : Arr W c g) (hc : c ≠ b) (vs : List Value) : Arr (W.setCells b 0 vs) c g :=
  ⟨fun i hi => ⟨(World.cell?_setCells_out b vs 0 W ⟨c, i, none⟩ (fun e => absurd e hc)).trans (h.1 i hi).1, (frozen_cells _ _ _ _ _).trans (h.1 i hi).2⟩, by rw [size_cells]; exact h.2⟩
theorem box_cells {W : World} {b c : Nat} {m p : Int} (h : MBox W c m p) (hc : c ≠ b) (vs : List Value) : MBox (W.setCells b 0 vs) c m p :=
  ⟨(World.cell?_setCells_out b vs 0 W ⟨c, 0, none⟩ (fun e => absurd e hc)).trans h.1, (World.cell?_setCells_out b vs 0 W ⟨c, 1, none⟩ (fun e => absurd e hc)).trans h.2.1, by rw [size_cells]; exact h.2.2⟩
theorem arrL_one (f : Nat → Int) : ∀ v ∈ arrL f, v.oneCell' = true := fun v hv => by
  unfold arrL at hv
  obtain ⟨i, -, rfl⟩ := List.mem_map.1 hv
  rfl
theorem t81 : Tryd.prog.underlying 81 = some (.array 40 3) := Tryd.underlying81
theorem s81 : (Tryd.prog.info? 81).map (·.size) = some 40 := by kernel_rfl
theorem load_arr {w : World} {b : Nat} {f : Nat → Int} (h : Arr w b f) : (loadVar 81 ⟨b, 0, none⟩).run Tryd.prog w = .ok (arrV f) w :=
  run_loadVar_mid w b 0 81 (arrL f) _ h.range t81 rfl (by rw [arrL_length]; exact s81)
theorem ret_arr {fn : Func} {p u : Tmp} {Q : Ending → World → Prop} {tmps : Array Value} {w : World} {N : Nat} {f : Nat → Int} {v : Value} (hf : fn.results = #[.cell p 81, .tmp u]) (h2 : tmps.getD p undef = .pointer (some ⟨N, 0, none⟩)) (h3 : tmps.getD u undef = v) (h : Arr w N f)
    (hQ : Q (.returned (.tuple #[arrV f, v])) w) : bodyPost Tryd.prog fn Q .ret ⟨tmps, []⟩ w := by
  refine bodyPost_ret (v := .tuple #[arrV f, v]) ?_ rfl hQ
  rw [results_cell_tmp (p := p) (u := u) (ty := 81) hf, h2, h3]
  simp [asAddr, Result.andThen, load_arr h]
theorem ret_arr1 {fn : Func} {p : Tmp} {Q : Ending → World → Prop} {tmps : Array Value} {w : World} {N : Nat} {f : Nat → Int} (hf : fn.results = #[.cell p 81]) (h2 : tmps.getD p undef = .pointer (some ⟨N, 0, none⟩)) (h : Arr w N f)
    (hQ : Q (.returned (arrV f)) w) : bodyPost Tryd.prog fn Q .ret ⟨tmps, []⟩ w := by
  refine bodyPost_ret (v := arrV f) ?_ rfl hQ
  rw [results_cell_one hf, h2]
  simp [asAddr, Result.andThen, load_arr h]
/-! ### The digits of a Decimal, by 10 eighteen times -/
theorem D10_low (m k i : Nat) (h : i < k) : D10 (m * 10 ^ k) i = 0 := by
  unfold D10
  obtain ⟨d, rfl⟩ : ∃ d, k = i + 1 + d := ⟨k - (i + 1), by omega⟩
  rw [show m * 10 ^ (i + 1 + d) = 10 ^ i * (10 * (m * 10 ^ d)) by rw [Nat.pow_add, Nat.pow_succ]; simp only [Nat.mul_assoc, Nat.mul_comm, Nat.mul_left_comm]]
  rw [Nat.mul_div_cancel_left _ (Nat.pow_pos (by decide))]
  omega
theorem D10_up (m k j : Nat) : m * 10 ^ k / 10 ^ (k + j) = m / 10 ^ j := by
  rw [Nat.pow_add, Nat.mul_comm m, Nat.mul_div_mul_left _ _ (Nat.pow_pos (by decide))]
theorem D10_at (m k j : Nat) : D10 (m * 10 ^ k) (k + j) = m / 10 ^ j % 10 := by unfold D10; rw [D10_up]
theorem D10_past (N a i : Nat) (h : N / 10 ^ a = 0) (hi : a ≤ i) : D10 N i = 0 := by
  unfold D10
  obtain ⟨d, rfl⟩ : ∃ d, i = a + d := ⟨i - a, by omega⟩
  rw [Nat.pow_add, ← Nat.div_div_eq_div_mul, h]
  simp
theorem small_div (m : Nat) (h : m ≤ 9223372036854775808) (j : Nat) (hj : 19 ≤ j) : m / 10 ^ j = 0 := by
  refine Nat.div_eq_of_lt (Nat.lt_of_lt_of_le ?_ (Nat.pow_le_pow_right (by decide) hj))
  exact Nat.lt_of_le_of_lt h (by decide)
/-- The first so many digits; noughts behind. -/
def partR (N a : Nat) : Nat → Int := fun i => if i < a then (D10 N i : Nat) else 0
theorem partR_set (N a : Nat) : (fun i => if i = a then ((D10 N a : Nat) : Int) else partR N a i) = partR N (a + 1) := by
  funext i
  unfold partR
  by_cases h : i = a
  · subst h; rw [if_pos rfl, if_pos (by omega)]
  · rw [if_neg h]
    by_cases h2 : i < a
    · rw [if_pos h2, if_pos (by omega)]
    · rw [if_neg h2, if_neg (by omega)]
/-- What lies in memory while digits are laid: the Decimal, the result, the row. -/
def RM (w W : World) (m p : Int) (f : Nat → Int) : Prop := MBox W w.heap.size m p ∧ Arr W (w.heap.size + 1) (fun _ => 0) ∧ Arr W (w.heap.size + 1 + 1) f ∧ Below w.heap.size w W
theorem RM.up {w W W' : World} {m p : Int} {f : Nat → Int} (h : RM w W m p f) (hb : Below W.heap.size W W') : RM w W' m p f := ⟨h.1.up hb, h.2.1.up hb, h.2.2.1.up hb, h.2.2.2.trans (hb.mono h.2.2.2.size)⟩
theorem RM.set {w W : World} {m p : Int} {f : Nat → Int} (h : RM w W m p f) (k : Nat) (hk : k < 40) (v : Int) : RM w (W.setCell ⟨w.heap.size + 1 + 1, k, none⟩ (.int .i64 v)) m p (fun i => if i = k then v else f i) :=
  ⟨h.1.other _ (by simp; omega) _, h.2.1.other _ (by simp) _, h.2.2.1.set k hk v, h.2.2.2.setCell (by simp; omega) _⟩
theorem RM.new (w : World) (m p : Int) : RM w (((w.alloc (.cells #[.int .i64 m, .int .i64 p] 26)).alloc (.cells (arrC fun _ => 0) 81)).alloc (.cells (arrC fun _ => 0) 81)) m p (fun _ => 0) := by
  have z1 : (w.alloc (.cells #[.int .i64 m, .int .i64 p] 26)).heap.size = w.heap.size + 1 := by simp
  have z2 : ((w.alloc (.cells #[.int .i64 m, .int .i64 p] 26)).alloc (.cells (arrC fun _ => 0) 81)).heap.size = w.heap.size + 1 + 1 := by simp
  have h2 := Arr.new (w.alloc (.cells #[.int .i64 m, .int .i64 p] 26)) (fun _ => 0)
  have h3 := Arr.new ((w.alloc (.cells #[.int .i64 m, .int .i64 p] 26)).alloc (.cells (arrC fun _ => 0) 81)) (fun _ => 0)
  rw [z1] at h2
  rw [z2] at h3
  exact ⟨((MBox.new w m p).up ((Below.refl _ _).alloc (Nat.le_refl _) _)).up ((Below.refl _ _).alloc (Nat.le_refl _) _), h2.up ((Below.refl _ _).alloc (Nat.le_refl _) _), h3, (((Below.refl _ w).alloc (Nat.le_refl _) _).alloc (by simp) _).alloc (by simp; omega) _⟩
/-- Where the loop over digits stands. -/
def RL_pos (w : World) (n p k N : Nat) (f : Nat) (s5 s6 : Value) (W : World) : Prop := ∃ j : Nat, f + j = 20 ∧ s5 = .int .i64 ((n / 10 ^ j : Nat) : Int) ∧ s6 = .int .i64 ((k + j : Nat) : Int) ∧ RM w W (n : Int) p (partR N (k + j))
set_option maxRecDepth 20000 in
set_option maxHeartbeats 2000000 in
theorem row_pos (n p : Nat) (w : World) (hn : n < 9223372036854775808) (hp : p ≤ 18) :
    Calls Tryd.prog 42 #[.agg #[.int .i64 (n : Int), .int .i64 p]] w fun e w' => e = .returned (.tuple #[rowV (n * 10 ^ (18 - p)), .bool false]) ∧ Below w.heap.size w w' := by
  have HSD := Lib.hid (small_div n (by omega))
  have HN := Lib.hid hn
  
  have P0 := Lib.hid (RM.new w (n : Int) p)
  rw [z_arr] at P0
  obtain ⟨N, hN⟩ : ∃ N, N = n * 10 ^ (18 - p) := ⟨_, rfl⟩
  have HNN := Lib.hid hN
  have HD := Lib.hid (D10_at n (18 - p))
  have HU := Lib.hid (D10_up n (18 - p))
  have HZ : Hid ((fun _ : Nat => (0 : Int)) = partR (n * 10 ^ (18 - p)) (18 - p + 0)) := Lib.hid (by
    funext i
    unfold partR
    rw [Nat.add_zero]
    by_cases h : i < 18 - p
    · rw [if_pos h, D10_low n (18 - p) i h]; rfl
    · rw [if_neg h])
  rw [HZ.out] at P0
  have HP := Lib.hid hp
  have q18 : (18 : Int) - p = ((18 - p : Nat) : Int) := by omega
  rw [← hN] at HD HU P0
  have hn1 : n ≤ 9223372036854775808 := by omega
  rw [← hN]
  clear hN  hn
  obtain ⟨k, hk⟩ : ∃ k, k = 18 - p := ⟨_, rfl⟩
  rw [← hk] at q18 HD HU P0
  have HK := Lib.hid hk
  clear hk
  go_enter Tryd.func42, Tryd.ntmps42
  go_wp2_with fail
  obtain ⟨w0, hw0⟩ : ∃ w0, w0 = (((w.alloc (.cells #[.int .i64 (n : Int), .int .i64 p] 26)).alloc (.cells #[.int .i64 0, .int .i64 0, .int .i64 0, .int .i64 0, .int .i64 0, .int .i64 0, .int .i64 0, .int .i64 0, .int .i64 0, .int .i64 0, .int .i64 0, .int .i64 0, .int .i64 0, .int .i64 0, .int .i64 0, .int .i64 0, .int .i64 0, .int .i64 0, .int .i64 0, .int .i64 0, .int .i64 0, .int .i64 0, .int .i64 0, .int .i64 0, .int .i64 0, .int .i64 0, .int .i64 0, .int .i64 0, .int .i64 0, .int .i64 0, .int .i64 0, .int .i64 0, .int .i64 0, .int .i64 0, .int .i64 0, .int .i64 0, .int .i64 0, .int .i64 0, .int .i64 0, .int .i64 0] 81)).alloc (.cells #[.int .i64 0, .int .i64 0, .int .i64 0, .int .i64 0, .int .i64 0, .int .i64 0, .int .i64 0, .int .i64 0, .int .i64 0, .int .i64 0, .int .i64 0, .int .i64 0, .int .i64 0, .int .i64 0, .int .i64 0, .int .i64 0, .int .i64 0, .int .i64 0, .int .i64 0, .int .i64 0, .int .i64 0, .int .i64 0, .int .i64 0, .int .i64 0, .int .i64 0, .int .i64 0, .int .i64 0, .int .i64 0, .int .i64 0, .int .i64 0, .int .i64 0, .int .i64 0, .int .i64 0, .int .i64 0, .int .i64 0, .int .i64 0, .int .i64 0, .int .i64 0, .int .i64 0, .int .i64 0] 81)) := ⟨_, rfl⟩
  rw [← hw0] at P0 ⊢
  clear hw0
  go_loopg [5, 6] 20 (fun f s5 s6 wr => RL_pos w n p k N f s5 s6 wr)
  case atStart => exact ⟨0, rfl, by simp, rfl, P0.out⟩
  case round =>
    obtain ⟨j, hf, rfl, rfl, hr⟩ := hrel
    have HR := Lib.hid hr
    have HF := Lib.hid hf
    clear hr
    have HDJ := Lib.hid (HD.out j)
    have HUJ := Lib.hid (HU.out j)
    obtain ⟨x, hx⟩ : ∃ x, x = n / 10 ^ j := ⟨_, rfl⟩
    have HX := Lib.hid hx
    have HX1 : Hid (n / 10 ^ (j + 1) = x / 10) := Lib.hid (by rw [hx, Nat.pow_succ, Nat.div_div_eq_div_mul])
    have hxn : x ≤ n := by rw [hx]; exact Nat.div_le_self _ _
    rw [← hx] at HDJ HUJ ⊢
    obtain ⟨a, ha⟩ : ∃ a, a = k + j := ⟨_, rfl⟩
    have HA := Lib.hid ha
    rw [← ha] at HDJ HUJ HR ⊢
    by_cases hx0 : x = 0
    · have HE : Hid (partR N a = fun i => ((D10 N i : Nat) : Int)) := Lib.hid (by
        funext i
        unfold partR
        by_cases h : i < a
        · rw [if_pos h]
        · rw [if_neg h, D10_past N a i (by rw [HUJ.out, hx0]) (by omega)]; rfl)
      obtain ⟨F, hF⟩ : ∃ F, F = partR N a := ⟨_, rfl⟩
      rw [← hF] at HR HE
      have HFE : Hid (rowV N = arrV F) := Lib.hid (by rw [HE.out]; rfl)
      clear hx ha hf hF
      subst hx0
      obtain ⟨c0, c1, cz⟩ := HR.out.1
      go_wp2_with fail
      have RD := Lib.hid (HR.out.up ((Below.refl _ _).drew))
      have RE := Lib.hid (And.intro (box_cells (b := w.heap.size + 1) RD.out.1 (by simp) (arrL F)) (And.intro (arr_cells RD.out.2.1 F) (And.intro (arr_cells_other (b := w.heap.size + 1) RD.out.2.2.1 (by simp) (arrL F)) (below_cells (w.heap.size + 1) (by omega) (arrL F) 0 _ RD.out.2.2.2))))
      have hinfo : (Tryd.prog.info? 81).map (·.size) = some (arrL F).length := by rw [arrL_length]; exact s81
      have hone : ∀ v ∈ arrL F, v.oneCell' = true := arrL_one F
      have hund := t81
      have hSS : wr.drew.rangeAt (w.heap.size + 1 + 1) 0 (arrL F) ∧ wr.drew.there (w.heap.size + 1) 0 (arrL F).length ∧ wr.drew.cell? ⟨w.heap.size, 0, none⟩ = some (.int .i64 (n : Int)) := ⟨RD.out.2.2.1.range, by rw [arrL_length]; exact RD.out.2.1.there, RD.out.1.1⟩
      have hS2 : (wr.drew.setCells (w.heap.size + 1) 0 (arrL F)).rangeAt (w.heap.size + 1 + 1) 0 (arrL F) ∧ (wr.drew.setCells (w.heap.size + 1) 0 (arrL F)).there (w.heap.size + 1) 0 (arrL F).length ∧ (wr.drew.setCells (w.heap.size + 1) 0 (arrL F)).cell? ⟨w.heap.size, 0, none⟩ = some (.int .i64 (n : Int)) := ⟨RE.out.2.2.1.range, by rw [arrL_length]; exact RE.out.2.1.there, RE.out.1.1⟩
      have HRV : Hid (rowV N = .agg (arrL F).toArray) := Lib.hid HFE.out
      obtain ⟨L, hL⟩ : ∃ L, L = arrL F := ⟨_, rfl⟩
      rw [← hL] at hinfo hone hSS hS2
      have HL := Lib.hid hL
      have hneg : ¬ ((n : Int) < 0) := by omega
      clear hL
      go_region_held3 (fun w' => w'.rangeAt (w.heap.size + 1 + 1) 0 L ∧ w'.there (w.heap.size + 1) 0 L.length ∧ w'.cell? ⟨w.heap.size, 0, none⟩ = some (.int .i64 (n : Int)))
        ((first | exact hSS | exact hS2))
        (first | fail)
      all_goals
        go_wp2_with fail
        rw [HL.out]
        refine ret_arr (N := w.heap.size + 1) (f := F) (v := .bool false) Tryd.results42 (by rfl) (by rfl) RE.out.2.1 ⟨?_, RE.out.2.2.2⟩
        rw [HFE.out]
    · have hx1 : ¬ (((x : Nat) : Int) = 0) := by omega
      have gx : (((x : Nat) : Int) == 0) = false := beq_eq_false_iff_ne.2 hx1
      cases gk with
      | zero =>
        exact absurd (by rw [hx]; exact HSD.out j (by omega)) hx0
      | succ g =>
      have ha40 : a < 40 := by
        have : j < 19 := Classical.byContradiction (fun q => hx0 (by rw [hx]; exact HSD.out j (by omega)))
        have := HK.out
        omega
      have ha40' : (a : Int) < 40 := by omega
      obtain ⟨d, hd⟩ : ∃ d : Nat, d = x % 10 := ⟨_, rfl⟩
      obtain ⟨y, hy⟩ : ∃ d : Nat, d = x / 10 := ⟨_, rfl⟩
      have t1 : ((x : Nat) : Int).tmod 10 = ((d : Nat) : Int) := by rw [Int.tmod_eq_emod_of_nonneg (by omega)]; omega
      have t2 : ((x : Nat) : Int).tdiv 10 = ((y : Nat) : Int) := by rw [Int.tdiv_eq_ediv_of_nonneg (by omega)]; omega
      have hyb : y ≤ 9223372036854775807 := by omega
      have hd10 : d < 10 := by omega
      have HDD : Hid (D10 N a = d) := Lib.hid (by rw [HDJ.out, hd])
      have HYY : Hid (n / 10 ^ (j + 1) = y) := Lib.hid (by rw [HX1.out, hy])
      have RS := Lib.hid (HR.out.set a ha40 (d : Nat))
      rw [← HDD.out, partR_set] at RS
      have c1 := (HR.out.2.2.1.1 a ha40).1
      have f1 := (HR.out.2.2.1.1 a ha40).2
      have e1 : (x : Int) % 10 = d := by omega
      have e2 : (x : Int) / 10 = y := by omega
      clear hx hx0 ha hd hy hxn
      rw [HDD.out] at RS
      
      go_wp2_with fail
      go_roundg g
      case rel => exact ⟨j + 1, by have := HF.out; omega, by rw [HYY.out], by rw [← Nat.add_assoc, ← HA.out]; go_num, by rw [← Nat.add_assoc, ← HA.out]; exact RS.out⟩
      case measure => omega
/-- Where the loop over digits stands. -/
def RL_neg (w : World) (n p k N : Nat) (f : Nat) (s5 s6 : Value) (W : World) : Prop := ∃ j : Nat, f + j = 20 ∧ s5 = .int .i64 (-((n / 10 ^ j : Nat) : Int)) ∧ s6 = .int .i64 ((k + j : Nat) : Int) ∧ RM w W (-(n : Int)) p (partR N (k + j))
set_option maxRecDepth 20000 in
set_option maxHeartbeats 2000000 in
theorem row_neg (n p : Nat) (w : World) (hn : n ≤ 9223372036854775808) (hn0 : 0 < n) (hp : p ≤ 18) :
    Calls Tryd.prog 42 #[.agg #[.int .i64 (-(n : Int)), .int .i64 p]] w fun e w' => e = .returned (.tuple #[rowV (n * 10 ^ (18 - p)), .bool true]) ∧ Below w.heap.size w w' := by
  have HSD := Lib.hid (small_div n (by omega))
  have HN := Lib.hid hn
  have HN0 := Lib.hid hn0
  have P0 := Lib.hid (RM.new w (-(n : Int)) p)
  rw [z_arr] at P0
  obtain ⟨N, hN⟩ : ∃ N, N = n * 10 ^ (18 - p) := ⟨_, rfl⟩
  have HNN := Lib.hid hN
  have HD := Lib.hid (D10_at n (18 - p))
  have HU := Lib.hid (D10_up n (18 - p))
  have HZ : Hid ((fun _ : Nat => (0 : Int)) = partR (n * 10 ^ (18 - p)) (18 - p + 0)) := Lib.hid (by
    funext i
    unfold partR
    rw [Nat.add_zero]
    by_cases h : i < 18 - p
    · rw [if_pos h, D10_low n (18 - p) i h]; rfl
    · rw [if_neg h])
  rw [HZ.out] at P0
  have HP := Lib.hid hp
  have q18 : (18 : Int) - p = ((18 - p : Nat) : Int) := by omega
  rw [← hN] at HD HU P0
  have hn1 : n ≤ 9223372036854775808 := by omega
  rw [← hN]
  clear hN hn0 hn
  obtain ⟨k, hk⟩ : ∃ k, k = 18 - p := ⟨_, rfl⟩
  rw [← hk] at q18 HD HU P0
  have HK := Lib.hid hk
  clear hk
  go_enter Tryd.func42, Tryd.ntmps42
  go_wp2_with fail
  obtain ⟨w0, hw0⟩ : ∃ w0, w0 = (((w.alloc (.cells #[.int .i64 (-(n : Int)), .int .i64 p] 26)).alloc (.cells #[.int .i64 0, .int .i64 0, .int .i64 0, .int .i64 0, .int .i64 0, .int .i64 0, .int .i64 0, .int .i64 0, .int .i64 0, .int .i64 0, .int .i64 0, .int .i64 0, .int .i64 0, .int .i64 0, .int .i64 0, .int .i64 0, .int .i64 0, .int .i64 0, .int .i64 0, .int .i64 0, .int .i64 0, .int .i64 0, .int .i64 0, .int .i64 0, .int .i64 0, .int .i64 0, .int .i64 0, .int .i64 0, .int .i64 0, .int .i64 0, .int .i64 0, .int .i64 0, .int .i64 0, .int .i64 0, .int .i64 0, .int .i64 0, .int .i64 0, .int .i64 0, .int .i64 0, .int .i64 0] 81)).alloc (.cells #[.int .i64 0, .int .i64 0, .int .i64 0, .int .i64 0, .int .i64 0, .int .i64 0, .int .i64 0, .int .i64 0, .int .i64 0, .int .i64 0, .int .i64 0, .int .i64 0, .int .i64 0, .int .i64 0, .int .i64 0, .int .i64 0, .int .i64 0, .int .i64 0, .int .i64 0, .int .i64 0, .int .i64 0, .int .i64 0, .int .i64 0, .int .i64 0, .int .i64 0, .int .i64 0, .int .i64 0, .int .i64 0, .int .i64 0, .int .i64 0, .int .i64 0, .int .i64 0, .int .i64 0, .int .i64 0, .int .i64 0, .int .i64 0, .int .i64 0, .int .i64 0, .int .i64 0, .int .i64 0] 81)) := ⟨_, rfl⟩
  rw [← hw0] at P0 ⊢
  clear hw0
  go_loopg [5, 6] 20 (fun f s5 s6 wr => RL_neg w n p k N f s5 s6 wr)
  case atStart => exact ⟨0, rfl, by simp, rfl, P0.out⟩
  case round =>
    obtain ⟨j, hf, rfl, rfl, hr⟩ := hrel
    have HR := Lib.hid hr
    have HF := Lib.hid hf
    clear hr
    have HDJ := Lib.hid (HD.out j)
    have HUJ := Lib.hid (HU.out j)
    obtain ⟨x, hx⟩ : ∃ x, x = n / 10 ^ j := ⟨_, rfl⟩
    have HX := Lib.hid hx
    have HX1 : Hid (n / 10 ^ (j + 1) = x / 10) := Lib.hid (by rw [hx, Nat.pow_succ, Nat.div_div_eq_div_mul])
    have hxn : x ≤ n := by rw [hx]; exact Nat.div_le_self _ _
    rw [← hx] at HDJ HUJ ⊢
    obtain ⟨a, ha⟩ : ∃ a, a = k + j := ⟨_, rfl⟩
    have HA := Lib.hid ha
    rw [← ha] at HDJ HUJ HR ⊢
    by_cases hx0 : x = 0
    · have HE : Hid (partR N a = fun i => ((D10 N i : Nat) : Int)) := Lib.hid (by
        funext i
        unfold partR
        by_cases h : i < a
        · rw [if_pos h]
        · rw [if_neg h, D10_past N a i (by rw [HUJ.out, hx0]) (by omega)]; rfl)
      obtain ⟨F, hF⟩ : ∃ F, F = partR N a := ⟨_, rfl⟩
      rw [← hF] at HR HE
      have HFE : Hid (rowV N = arrV F) := Lib.hid (by rw [HE.out]; rfl)
      clear hx ha hf hF
      subst hx0
      obtain ⟨c0, c1, cz⟩ := HR.out.1
      go_wp2_with fail
      have RD := Lib.hid (HR.out.up ((Below.refl _ _).drew))
      have RE := Lib.hid (And.intro (box_cells (b := w.heap.size + 1) RD.out.1 (by simp) (arrL F)) (And.intro (arr_cells RD.out.2.1 F) (And.intro (arr_cells_other (b := w.heap.size + 1) RD.out.2.2.1 (by simp) (arrL F)) (below_cells (w.heap.size + 1) (by omega) (arrL F) 0 _ RD.out.2.2.2))))
      have hinfo : (Tryd.prog.info? 81).map (·.size) = some (arrL F).length := by rw [arrL_length]; exact s81
      have hone : ∀ v ∈ arrL F, v.oneCell' = true := arrL_one F
      have hund := t81
      have hSS : wr.drew.rangeAt (w.heap.size + 1 + 1) 0 (arrL F) ∧ wr.drew.there (w.heap.size + 1) 0 (arrL F).length ∧ wr.drew.cell? ⟨w.heap.size, 0, none⟩ = some (.int .i64 (-(n : Int))) := ⟨RD.out.2.2.1.range, by rw [arrL_length]; exact RD.out.2.1.there, RD.out.1.1⟩
      have hS2 : (wr.drew.setCells (w.heap.size + 1) 0 (arrL F)).rangeAt (w.heap.size + 1 + 1) 0 (arrL F) ∧ (wr.drew.setCells (w.heap.size + 1) 0 (arrL F)).there (w.heap.size + 1) 0 (arrL F).length ∧ (wr.drew.setCells (w.heap.size + 1) 0 (arrL F)).cell? ⟨w.heap.size, 0, none⟩ = some (.int .i64 (-(n : Int))) := ⟨RE.out.2.2.1.range, by rw [arrL_length]; exact RE.out.2.1.there, RE.out.1.1⟩
      have HRV : Hid (rowV N = .agg (arrL F).toArray) := Lib.hid HFE.out
      obtain ⟨L, hL⟩ : ∃ L, L = arrL F := ⟨_, rfl⟩
      rw [← hL] at hinfo hone hSS hS2
      have HL := Lib.hid hL
      have hneg : 0 < n := HN0.out
      clear hL
      go_region_held3 (fun w' => w'.rangeAt (w.heap.size + 1 + 1) 0 L ∧ w'.there (w.heap.size + 1) 0 L.length ∧ w'.cell? ⟨w.heap.size, 0, none⟩ = some (.int .i64 (-(n : Int))))
        ((first | exact hSS | exact hS2))
        (first | fail)
      all_goals
        go_wp2_with fail
        rw [HL.out]
        refine ret_arr (N := w.heap.size + 1) (f := F) (v := .bool true) Tryd.results42 (by rfl) (by rfl) RE.out.2.1 ⟨?_, RE.out.2.2.2⟩
        rw [HFE.out]
    · have hx1 : ¬ ((-((x : Nat) : Int)) = 0) := by omega
      have gx : ((-((x : Nat) : Int)) == 0) = false := beq_eq_false_iff_ne.2 hx1
      cases gk with
      | zero =>
        exact absurd (by rw [hx]; exact HSD.out j (by omega)) hx0
      | succ g =>
      have ha40 : a < 40 := by
        have : j < 19 := Classical.byContradiction (fun q => hx0 (by rw [hx]; exact HSD.out j (by omega)))
        have := HK.out
        omega
      have ha40' : (a : Int) < 40 := by omega
      obtain ⟨d, hd⟩ : ∃ d : Nat, d = x % 10 := ⟨_, rfl⟩
      obtain ⟨y, hy⟩ : ∃ d : Nat, d = x / 10 := ⟨_, rfl⟩
      have t1 : (-((x : Nat) : Int)).tmod 10 = (-((d : Nat) : Int)) := by rw [Int.neg_tmod, Int.tmod_eq_emod_of_nonneg (by omega)]; omega
      have t2 : (-((x : Nat) : Int)).tdiv 10 = (-((y : Nat) : Int)) := by rw [Int.neg_tdiv, Int.tdiv_eq_ediv_of_nonneg (by omega)]; omega
      have hyb : y ≤ 9223372036854775807 := by omega
      have hd10 : d < 10 := by omega
      have HDD : Hid (D10 N a = d) := Lib.hid (by rw [HDJ.out, hd])
      have HYY : Hid (n / 10 ^ (j + 1) = y) := Lib.hid (by rw [HX1.out, hy])
      have RS := Lib.hid (HR.out.set a ha40 (d : Nat))
      rw [← HDD.out, partR_set] at RS
      have c1 := (HR.out.2.2.1.1 a ha40).1
      have f1 := (HR.out.2.2.1.1 a ha40).2
      
      
      clear hx hx0 ha hd hy hxn
      rw [HDD.out] at RS
      by_cases hd0 : d = 0
      · subst hd0
        go_wp2_with fail
        go_roundg g
        case rel => exact ⟨j + 1, by have := HF.out; omega, by rw [HYY.out], by rw [← Nat.add_assoc, ← HA.out]; go_num, by rw [← Nat.add_assoc, ← HA.out]; exact RS.out⟩
        case measure => omega
      · have hdn : -(d : Int) < 0 := by omega
        go_wp2_with fail
        go_roundg g
        case rel => exact ⟨j + 1, by have := HF.out; omega, by rw [HYY.out], by rw [← Nat.add_assoc, ← HA.out]; go_num, by rw [← Nat.add_assoc, ← HA.out]; exact RS.out⟩
        case measure => omega
end Go.Proofs.YtiikohbnfbpjeaaDoor

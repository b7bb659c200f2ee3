/- Layer 3: the closure of Check: what ends it at once. -/
import Derived.Test.YtfmgkndljppffaaC4
import Derived.IntWalk
namespace Go.Proofs.Ytfmgkndljppffaa
open Go.RowKit Go.Maps
def WkPost (W : World) (pa : Nat) (res : Option Nat) (e : Ending) (W' : World) : Prop :=
  e = .returned (.bool res.isSome) ∧ W.grownBy W' (some pa) ∧ ∃ q, At W' pa q ∧ ∀ e', res = some e' → q = e'
/-- What holds while a cell's copy is looked at. -/
def FS (W : World) (pa p B pr fk : Nat) (c : CR) (w' : World) : Prop :=
  w'.cell? ⟨B, 0, none⟩ = some (.int .u8 c.k) ∧ w'.cell? ⟨B, 1, none⟩ = some (.string c.nm) ∧ w'.cell? ⟨B, 2, none⟩ = some (.string c.tx) ∧ w'.cell? ⟨B, 3, none⟩ = some (.int .i64 c.n) ∧ w'.cell? ⟨B, 4, none⟩ = some (.int .i64 c.m) ∧ w'.cell? ⟨pr, c.k, none⟩ = some (.func (.func fk) #[] #[]) ∧ W.grownBy w' (some pa) ∧ At w' pa p
theorem FS.up {W : World} {pa p B pr fk : Nat} {c : CR} {w w' : World} (h : FS W pa p B pr fk c w) (b : Below w.heap.size w w') : FS W pa p B pr fk c w' := by
  obtain ⟨h0, h1, h2, h3, h4, h5, h6, h7⟩ := h
  have f : ∀ {q o : Nat} {x : Value}, w.cell? ⟨q, o, none⟩ = some x → w'.cell? ⟨q, o, none⟩ = some x := fun hx => (b.cell (World.block_lt_of_cell? _ _ hx)).trans hx
  exact ⟨f h0, f h1, f h2, f h3, f h4, f h5, Below.grown' h6 b, (b.block pa h7.lt).trans h7⟩
theorem WkPost.no {W W' : World} {pa q : Nat} {res : Option Nat} {b : Bool} (hr : res = none) (hb : b = false) (hg : W.grownBy W' (some pa)) (ha : At W' pa q) : WkPost W pa res (.returned (.bool b)) W' := by
  subst hr hb; exact ⟨rfl, hg, q, ha, fun e' h => by cases h⟩
theorem WkPost.yes {W W' : World} {pa q : Nat} {res : Option Nat} {b : Bool} (hr : res = some q) (hb : b = true) (hg : W.grownBy W' (some pa)) (ha : At W' pa q) : WkPost W pa res (.returned (.bool b)) W' := by
  subst hr hb; exact ⟨rfl, hg, q, ha, fun e' h => by cases h; rfl⟩
theorem fo_call (k : Nat) (hk : k < 8) (args : Array Value) (w : World) : (callFunc (fo k) args).run Try.prog w = .ok (.enter (fo k) args) w := by
  rcases (by omega : k = 0 ∨ k = 1 ∨ k = 2 ∨ k = 3 ∨ k = 4 ∨ k = 5 ∨ k = 6 ∨ k = 7) with rfl | rfl | rfl | rfl | rfl | rfl | rfl | rfl <;> kernel_rfl
set_option maxRecDepth 20000 in
theorem walk_end (d : Int) (W : World) {pa pv pr pw : Nat} {a : Option Addr} {n cap : Nat} {g : Nat → CR} (E : Env W pa pv pr pw a n cap g) {p : Nat} (A : At W pa p) (hp : n ≤ p) (r : Nat) :
    Calls Try.prog 36 #[.int .i64 d, .pointer (some ⟨pa, 0, none⟩), .pointer (some ⟨pv, 0, none⟩), .pointer (some ⟨pr, 0, none⟩), .pointer (some ⟨pw, 0, none⟩)] W (WkPost W pa (wk g n r p)) := by
  have HR : Hid (wk g n r p = none) := Lib.hid (by cases r with
    | zero => rw [wk_z, if_pos hp]
    | succ r => rw [wk_s, if_pos hp])
  obtain ⟨res, hres⟩ : ∃ x, x = wk g n r p := ⟨_, rfl⟩
  rw [← hres] at HR ⊢
  clear hres
  have c0 := A.c
  have c1 := E.v
  have hp' : (n : Int) ≤ p := by omega
  have HA := Lib.hid A
  clear A E hp
  go_enter Try.func36, Try.ntmps36
  go_wp2_with fail
  go_ret
  exact WkPost.no HR.out rfl (grown_refl _ _) HA.out
set_option maxRecDepth 20000 in
set_option maxHeartbeats 1000000 in
theorem walk_bad8 (d : Int) (W : World) {pa pv pr pw : Nat} {a : Option Addr} {n cap : Nat} {g : Nat → CR} (E : Env W pa pv pr pw a n cap g) (hcw : CW n g) {p : Nat} (A : At W pa p) (hp : p < n) (hm : n ≤ 2048) (r : Nat) (h8 : 8 ≤ (g p).k) :
    Calls Try.prog 36 #[.int .i64 d, .pointer (some ⟨pa, 0, none⟩), .pointer (some ⟨pv, 0, none⟩), .pointer (some ⟨pr, 0, none⟩), .pointer (some ⟨pw, 0, none⟩)] W (WkPost W pa (wk g n r p)) := by
  have ho : oneP (g p) = false := by
    unfold oneP
    rw [if_neg (by omega), if_neg (by omega), if_neg (by omega), if_neg (by omega), if_neg (by omega), if_neg (by omega)]
  have HR : Hid (wk g n r p = none) := Lib.hid (by cases r with
    | zero => rw [wk_z, if_neg (by omega), ho]; rfl
    | succ r => rw [wk_s, if_neg (by omega), ho]; rfl)
  obtain ⟨res, hres⟩ : ∃ x, x = wk g n r p := ⟨_, rfl⟩
  rw [← hres] at HR ⊢
  clear hres ho
  have c0 := A.c
  have c1 := E.v
  obtain ⟨b, off, rfl, hb, k0, k1, k2, k3, k4⟩ := E.cv p hp
  have hk := (hcw p hp).1
  obtain ⟨c, hc⟩ : ∃ c, c = g p := ⟨_, rfl⟩
  rw [← hc] at k0 k1 k2 k3 k4 h8 hk
  clear hc
  have hp1 : (0 : Int) ≤ p := by omega
  have hp2 : (p : Int) < n := by omega
  have h8' : (8 : Int) ≤ (c.k : Int) := by omega
  have HA := Lib.hid A
  have hlt := A.lt
  clear A E hp h8
  go_enter Try.func36, Try.ntmps36
  go_wp2_with fail
  go_quiet (fail)
  go_wp2_with fail
  go_ret
  exact WkPost.no HR.out rfl (grown_drew (World.grownBy_alloc _ _ _) _) (HA.out.keep (row := none) (grown_drew (World.grownBy_alloc _ _ _) _) (by simp))
set_option maxRecDepth 20000 in
set_option maxHeartbeats 2000000 in
theorem walk_misfit (d : Int) (W : World) {pa pv pr pw : Nat} {a : Option Addr} {n cap : Nat} {g : Nat → CR} (E : Env W pa pv pr pw a n cap g) (hcw : CW n g) {p : Nat} (A : At W pa p) (hp : p < n) (hm : n ≤ 2048) (r : Nat) (h8 : (g p).k < 8) (ho : oneP (g p) = false) :
    Calls Try.prog 36 #[.int .i64 d, .pointer (some ⟨pa, 0, none⟩), .pointer (some ⟨pv, 0, none⟩), .pointer (some ⟨pr, 0, none⟩), .pointer (some ⟨pw, 0, none⟩)] W (WkPost W pa (wk g n r p)) := by
  have HR : Hid (wk g n r p = none) := Lib.hid (by cases r with
    | zero => rw [wk_z, if_neg (by omega), ho]; rfl
    | succ r => rw [wk_s, if_neg (by omega), ho]; rfl)
  obtain ⟨res, hres⟩ : ∃ x, x = wk g n r p := ⟨_, rfl⟩
  rw [← hres] at HR ⊢
  clear hres
  have c0 := A.c
  have c1 := E.v
  have hmm := (hcw p hp).2.2.2
  obtain ⟨b, off, rfl, hb, k0, k1, k2, k3, k4⟩ := E.cv p hp
  have HF := Lib.hid (fun W' => fit_any (g p) W' h8 (hcw p hp).2.2.1)
  rw [ho] at HF
  obtain ⟨c, hc⟩ : ∃ c, c = g p := ⟨_, rfl⟩
  rw [← hc] at k0 k1 k2 k3 k4 h8 HF hmm
  clear hc ho
  have r0 := E.rules c.k h8
  have hp1 : (0 : Int) ≤ p := by omega
  have hp2 : (p : Int) < n := by omega
  have hp3 : (n : Int) ≤ 2048 := by omega
  have h8a : (0 : Int) ≤ (c.k : Int) := by omega
  have h8b : (c.k : Int) < 8 := by omega
  have h8c : decide (8 ≤ c.k) = false := by simpa using h8
  have h8e : decide ((8 : Int) ≤ (c.k : Int)) = false := by simp; omega
  have h8w : IntKind.i64.wrap (c.k : Int) = (c.k : Int) := IntWalk.i64_in _ (by omega)
  have HA := Lib.hid A
  have HE := Lib.hid E
  have hlt := A.lt
  unfold cv at HF
  obtain ⟨fk, hfk⟩ : ∃ x, x = fo c.k := ⟨_, rfl⟩
  have hcall := fo_call c.k h8
  rw [← hfk] at r0 HF hcall
  have hn2 := E.n2
  have hprl := World.block_lt_of_cell? _ _ r0
  clear A E hp h8 hfk
  go_enter Try.func36, Try.ntmps36
  go_wp2_with fail
  obtain ⟨W1, hW1⟩ : ∃ x, x = W.alloc (.cells #[.int .u8 c.k, .string c.nm, .string c.tx, .int .i64 c.n, .int .i64 c.m] 32) := ⟨_, rfl⟩
  have G1 : Hid (W.grownBy W1 (some pa)) := Lib.hid (by rw [hW1]; exact World.grownBy_alloc _ _ _)
  have d0 : W1.cell? ⟨W.heap.size, 0, none⟩ = some (.int .u8 c.k) := by rw [hW1]; simp
  have d1 : W1.cell? ⟨W.heap.size, 1, none⟩ = some (.string c.nm) := by rw [hW1]; simp
  have d2 : W1.cell? ⟨W.heap.size, 2, none⟩ = some (.string c.tx) := by rw [hW1]; simp
  have d3 : W1.cell? ⟨W.heap.size, 3, none⟩ = some (.int .i64 c.n) := by rw [hW1]; simp
  have d4 : W1.cell? ⟨W.heap.size, 4, none⟩ = some (.int .i64 c.m) := by rw [hW1]; simp
  have r1 : W1.cell? ⟨pr, c.k, none⟩ = some (.func (.func fk) #[] #[]) := G1.out.cell r0 (fun e => hn2 (by cases e; rfl))
  have A1 := Lib.hid (HA.out.keep (row := none) (show W.grownBy W1 none by rw [hW1]; exact World.grownBy_alloc _ _ _) (by simp))
  rw [← hW1]
  clear hW1 c0 c1 k0 k1 k2 k3 k4 r0
  obtain ⟨B, hB⟩ : ∃ x, x = W.heap.size := ⟨_, rfl⟩
  rw [← hB] at d0 d1 d2 d3 d4 ⊢
  replace hB := Lib.hid hB
  have hSS : FS W pa p B pr fk c W1.drew := ⟨d0, d1, d2, d3, d4, r1, grown_drew1 G1.out, A1.out⟩
  have HC : Hid (∀ w', FS W pa p B pr fk c w' → Calls Try.prog fk #[.agg #[.int .u8 c.k, .string c.nm, .string c.tx, .int .i64 c.n, .int .i64 c.m]] w' fun e w2 => e = .returned (.bool false) ∧ FS W pa p B pr fk c w2) := Lib.hid (fun w' h => (HF.out w').mono fun e w2 ⟨h1, h2⟩ => ⟨h1, h.up h2⟩)
  clear HF G1 A1
  go_region_held3 (fun w' => w'.cell? ⟨B, 0, none⟩ = some (.int .u8 c.k) ∧ w'.cell? ⟨B, 1, none⟩ = some (.string c.nm) ∧ w'.cell? ⟨B, 2, none⟩ = some (.string c.tx) ∧ w'.cell? ⟨B, 3, none⟩ = some (.int .i64 c.n) ∧ w'.cell? ⟨B, 4, none⟩ = some (.int .i64 c.m) ∧ w'.cell? ⟨pr, c.k, none⟩ = some (.func (.func fk) #[] #[]) ∧ W.grownBy w' (some pa) ∧ At w' pa p)
    ((first | exact hSS | assumption))
    (first | ((with_reducible refine (HC.out _ (by assumption)).mono ?_); rintro e w' ⟨rfl, hS2⟩; unfold FS at hS2))
  rename_i hH
  clear hH
  clear d0 d1 d2 d3 d4 r1 hSS HC hcall h8w h8e h8c
  obtain ⟨d0, d1, d2, d3, d4, r1, G2, A2⟩ := hS2
  replace G2 := Lib.hid G2
  replace A2 := Lib.hid A2
  clear r1
  go_wp2_with fail
  go_ret
  exact WkPost.no HR.out rfl G2.out A2.out
set_option maxRecDepth 20000 in
set_option maxHeartbeats 2000000 in
theorem walk_leaf (d : Int) (W : World) {pa pv pr pw : Nat} {a : Option Addr} {n cap : Nat} {g : Nat → CR} (E : Env W pa pv pr pw a n cap g) (hcw : CW n g) {p : Nat} (A : At W pa p) (hp : p < n) (hm : n ≤ 2048) (r : Nat) (h8 : (g p).k < 8) (ho : oneP (g p) = true) (hhead : headP (g p) = false) :
    Calls Try.prog 36 #[.int .i64 d, .pointer (some ⟨pa, 0, none⟩), .pointer (some ⟨pv, 0, none⟩), .pointer (some ⟨pr, 0, none⟩), .pointer (some ⟨pw, 0, none⟩)] W (WkPost W pa (wk g n r p)) := by
  have HR : Hid (wk g n r p = some (p + 1)) := Lib.hid (by 
    have hh : headP (g p) = false := hhead
    cases r with
    | zero => rw [wk_z, if_neg (by omega), ho, hh]; rfl
    | succ r => rw [wk_s, if_neg (by omega), ho, hh]; rfl)
  obtain ⟨res, hres⟩ : ∃ x, x = wk g n r p := ⟨_, rfl⟩
  rw [← hres] at HR ⊢
  clear hres
  have c0 := A.c
  have c1 := E.v
  have hmm := (hcw p hp).2.2.2
  obtain ⟨b, off, rfl, hb, k0, k1, k2, k3, k4⟩ := E.cv p hp
  have HF := Lib.hid (fun W' => fit_any (g p) W' h8 (hcw p hp).2.2.1)
  rw [ho] at HF
  have HM := Lib.hid (fun W' => more_any (g p) W')
  rw [show (decide ((g p).k = 6) || decide ((g p).k = 7)) = false from hhead] at HM
  obtain ⟨c, hc⟩ : ∃ c, c = g p := ⟨_, rfl⟩
  rw [← hc] at k0 k1 k2 k3 k4 h8 HF hmm HM
  clear hc ho hhead
  have r0 := E.rules c.k h8
  have hp1 : (0 : Int) ≤ p := by omega
  have hp2 : (p : Int) < n := by omega
  have hp3 : (n : Int) ≤ 2048 := by omega
  have h8a : (0 : Int) ≤ (c.k : Int) := by omega
  have h8b : (c.k : Int) < 8 := by omega
  have h8c : decide (8 ≤ c.k) = false := by simpa using h8
  have h8e : decide ((8 : Int) ≤ (c.k : Int)) = false := by simp; omega
  have h8w : IntKind.i64.wrap (c.k : Int) = (c.k : Int) := IntWalk.i64_in _ (by omega)
  have HA := Lib.hid A
  have HE := Lib.hid E
  have hlt := A.lt
  unfold cv at HF HM
  obtain ⟨fk, hfk⟩ : ∃ x, x = fo c.k := ⟨_, rfl⟩
  have hcall := fo_call c.k h8
  rw [← hfk] at r0 HF hcall
  have hn2 := E.n2
  have hprl := World.block_lt_of_cell? _ _ r0
  clear A E hp h8 hfk
  go_enter Try.func36, Try.ntmps36
  go_wp2_with fail
  obtain ⟨W1, hW1⟩ : ∃ x, x = W.alloc (.cells #[.int .u8 c.k, .string c.nm, .string c.tx, .int .i64 c.n, .int .i64 c.m] 32) := ⟨_, rfl⟩
  have G1 : Hid (W.grownBy W1 (some pa)) := Lib.hid (by rw [hW1]; exact World.grownBy_alloc _ _ _)
  have d0 : W1.cell? ⟨W.heap.size, 0, none⟩ = some (.int .u8 c.k) := by rw [hW1]; simp
  have d1 : W1.cell? ⟨W.heap.size, 1, none⟩ = some (.string c.nm) := by rw [hW1]; simp
  have d2 : W1.cell? ⟨W.heap.size, 2, none⟩ = some (.string c.tx) := by rw [hW1]; simp
  have d3 : W1.cell? ⟨W.heap.size, 3, none⟩ = some (.int .i64 c.n) := by rw [hW1]; simp
  have d4 : W1.cell? ⟨W.heap.size, 4, none⟩ = some (.int .i64 c.m) := by rw [hW1]; simp
  have r1 : W1.cell? ⟨pr, c.k, none⟩ = some (.func (.func fk) #[] #[]) := G1.out.cell r0 (fun e => hn2 (by cases e; rfl))
  have A1 := Lib.hid (HA.out.keep (row := none) (show W.grownBy W1 none by rw [hW1]; exact World.grownBy_alloc _ _ _) (by simp))
  rw [← hW1]
  clear hW1 c0 c1 k0 k1 k2 k3 k4 r0
  obtain ⟨B, hB⟩ : ∃ x, x = W.heap.size := ⟨_, rfl⟩
  rw [← hB] at d0 d1 d2 d3 d4 ⊢
  replace hB := Lib.hid hB
  have hSS : FS W pa p B pr fk c W1.drew := ⟨d0, d1, d2, d3, d4, r1, grown_drew1 G1.out, A1.out⟩
  have HC : Hid (∀ w', FS W pa p B pr fk c w' → Calls Try.prog fk #[.agg #[.int .u8 c.k, .string c.nm, .string c.tx, .int .i64 c.n, .int .i64 c.m]] w' fun e w2 => e = .returned (.bool true) ∧ FS W pa p B pr fk c w2) := Lib.hid (fun w' h => (HF.out w').mono fun e w2 ⟨h1, h2⟩ => ⟨h1, h.up h2⟩)
  clear HF G1 A1
  go_region_held3 (fun w' => w'.cell? ⟨B, 0, none⟩ = some (.int .u8 c.k) ∧ w'.cell? ⟨B, 1, none⟩ = some (.string c.nm) ∧ w'.cell? ⟨B, 2, none⟩ = some (.string c.tx) ∧ w'.cell? ⟨B, 3, none⟩ = some (.int .i64 c.n) ∧ w'.cell? ⟨B, 4, none⟩ = some (.int .i64 c.m) ∧ w'.cell? ⟨pr, c.k, none⟩ = some (.func (.func fk) #[] #[]) ∧ W.grownBy w' (some pa) ∧ At w' pa p)
    ((first | exact hSS | assumption))
    (first | ((with_reducible refine (HC.out _ (by assumption)).mono ?_); rintro e w' ⟨rfl, hS2⟩; unfold FS at hS2))
  rename_i hH
  clear hH
  clear d0 d1 d2 d3 d4 r1 hSS HC hcall h8w h8e h8c
  obtain ⟨d0, d1, d2, d3, d4, r1, G2, A2⟩ := hS2
  have c2 := A2.c
  have f2 := A2.f
  replace G2 := Lib.hid G2
  replace A2 := Lib.hid A2
  clear r1
  have hpa : B ≠ pa := by rw [hB.out]; omega
  obtain ⟨W3, hW3⟩ : ∃ x, x = w'.setCell ⟨pa, 0, none⟩ (.int .i64 ((p : Int) + 1)) := ⟨_, rfl⟩
  have hS3 : Hid (At W3 pa (p + 1) ∧ W.grownBy W3 (some pa) ∧ w'.grownBy W3 (some pa)) := Lib.hid (by
    rw [hW3]
    have g := grown_set w' pa (.int .i64 ((p : Int) + 1))
    exact ⟨A2.out.set (p + 1), G2.out.trans g, g⟩)
  have e0 := hS3.out.2.2.cell d0 (fun e => hpa (by cases e; rfl))
  have e1 := hS3.out.2.2.cell d1 (fun e => hpa (by cases e; rfl))
  have e2 := hS3.out.2.2.cell d2 (fun e => hpa (by cases e; rfl))
  have e3 := hS3.out.2.2.cell d3 (fun e => hpa (by cases e; rfl))
  have e4 := hS3.out.2.2.cell d4 (fun e => hpa (by cases e; rfl))
  have HW3 := Lib.hid hW3
  rw [hW3] at e0 e1 e2 e3 e4
  clear hW3 d0 d1 d2 d3 d4 A2 G2 hpa
  go_wp2_with fail
  rw [← HW3.out] at e0 e1 e2 e3 e4 ⊢
  clear HW3 c2 f2
  with_reducible refine (HM.out W3).mono ?_
  rintro e w4 ⟨rfl, b4⟩
  have S4 : Hid (At w4 pa (p + 1) ∧ W.grownBy w4 (some pa) ∧ W3.heap.size ≤ w4.heap.size) := Lib.hid ⟨(b4.block pa hS3.out.1.lt).trans hS3.out.1, Below.grown' hS3.out.2.1 b4, b4.size⟩
  have q0 := (b4.cell (World.block_lt_of_cell? _ _ e0)).trans e0
  have q4 := (b4.cell (World.block_lt_of_cell? _ _ e4)).trans e4
  clear b4 e0 e1 e2 e3 e4 HM
  go_wp2_with fail
  go_ret
  exact WkPost.yes HR.out rfl S4.out.2.1 S4.out.1
set_option maxRecDepth 20000 in
set_option maxHeartbeats 2000000 in
theorem walk_deep (d : Int) (W : World) {pa pv pr pw : Nat} {a : Option Addr} {n cap : Nat} {g : Nat → CR} (E : Env W pa pv pr pw a n cap g) (hcw : CW n g) {p : Nat} (A : At W pa p) (hp : p < n) (hm : n ≤ 2048) (r : Nat) (h8 : (g p).k < 8) (ho : oneP (g p) = true) (hhead : headP (g p) = true) (hr : r = 0) (hd : d = 16) :
    Calls Try.prog 36 #[.int .i64 d, .pointer (some ⟨pa, 0, none⟩), .pointer (some ⟨pv, 0, none⟩), .pointer (some ⟨pr, 0, none⟩), .pointer (some ⟨pw, 0, none⟩)] W (WkPost W pa (wk g n r p)) := by
  have HR : Hid (wk g n r p = none) := Lib.hid (by 
    subst hr
    rw [wk_z, if_neg (by omega), ho, hhead]; rfl)
  obtain ⟨res, hres⟩ : ∃ x, x = wk g n r p := ⟨_, rfl⟩
  rw [← hres] at HR ⊢
  clear hres
  have c0 := A.c
  have c1 := E.v
  have hmm := (hcw p hp).2.2.2
  obtain ⟨b, off, rfl, hb, k0, k1, k2, k3, k4⟩ := E.cv p hp
  have HF := Lib.hid (fun W' => fit_any (g p) W' h8 (hcw p hp).2.2.1)
  rw [ho] at HF
  have HM := Lib.hid (fun W' => more_any (g p) W')
  rw [show (decide ((g p).k = 6) || decide ((g p).k = 7)) = true from hhead] at HM
  obtain ⟨c, hc⟩ : ∃ c, c = g p := ⟨_, rfl⟩
  rw [← hc] at k0 k1 k2 k3 k4 h8 HF hmm HM
  clear hc ho hhead hr
  subst hd
  have r0 := E.rules c.k h8
  have hp1 : (0 : Int) ≤ p := by omega
  have hp2 : (p : Int) < n := by omega
  have hp3 : (n : Int) ≤ 2048 := by omega
  have h8a : (0 : Int) ≤ (c.k : Int) := by omega
  have h8b : (c.k : Int) < 8 := by omega
  have h8c : decide (8 ≤ c.k) = false := by simpa using h8
  have h8e : decide ((8 : Int) ≤ (c.k : Int)) = false := by simp; omega
  have h8w : IntKind.i64.wrap (c.k : Int) = (c.k : Int) := IntWalk.i64_in _ (by omega)
  have HA := Lib.hid A
  have HE := Lib.hid E
  have hlt := A.lt
  unfold cv at HF HM
  obtain ⟨fk, hfk⟩ : ∃ x, x = fo c.k := ⟨_, rfl⟩
  have hcall := fo_call c.k h8
  rw [← hfk] at r0 HF hcall
  have hn2 := E.n2
  have hprl := World.block_lt_of_cell? _ _ r0
  clear A E hp h8 hfk
  go_enter Try.func36, Try.ntmps36
  go_wp2_with fail
  obtain ⟨W1, hW1⟩ : ∃ x, x = W.alloc (.cells #[.int .u8 c.k, .string c.nm, .string c.tx, .int .i64 c.n, .int .i64 c.m] 32) := ⟨_, rfl⟩
  have G1 : Hid (W.grownBy W1 (some pa)) := Lib.hid (by rw [hW1]; exact World.grownBy_alloc _ _ _)
  have d0 : W1.cell? ⟨W.heap.size, 0, none⟩ = some (.int .u8 c.k) := by rw [hW1]; simp
  have d1 : W1.cell? ⟨W.heap.size, 1, none⟩ = some (.string c.nm) := by rw [hW1]; simp
  have d2 : W1.cell? ⟨W.heap.size, 2, none⟩ = some (.string c.tx) := by rw [hW1]; simp
  have d3 : W1.cell? ⟨W.heap.size, 3, none⟩ = some (.int .i64 c.n) := by rw [hW1]; simp
  have d4 : W1.cell? ⟨W.heap.size, 4, none⟩ = some (.int .i64 c.m) := by rw [hW1]; simp
  have r1 : W1.cell? ⟨pr, c.k, none⟩ = some (.func (.func fk) #[] #[]) := G1.out.cell r0 (fun e => hn2 (by cases e; rfl))
  have A1 := Lib.hid (HA.out.keep (row := none) (show W.grownBy W1 none by rw [hW1]; exact World.grownBy_alloc _ _ _) (by simp))
  rw [← hW1]
  clear hW1 c0 c1 k0 k1 k2 k3 k4 r0
  obtain ⟨B, hB⟩ : ∃ x, x = W.heap.size := ⟨_, rfl⟩
  rw [← hB] at d0 d1 d2 d3 d4 ⊢
  replace hB := Lib.hid hB
  have hSS : FS W pa p B pr fk c W1.drew := ⟨d0, d1, d2, d3, d4, r1, grown_drew1 G1.out, A1.out⟩
  have HC : Hid (∀ w', FS W pa p B pr fk c w' → Calls Try.prog fk #[.agg #[.int .u8 c.k, .string c.nm, .string c.tx, .int .i64 c.n, .int .i64 c.m]] w' fun e w2 => e = .returned (.bool true) ∧ FS W pa p B pr fk c w2) := Lib.hid (fun w' h => (HF.out w').mono fun e w2 ⟨h1, h2⟩ => ⟨h1, h.up h2⟩)
  clear HF G1 A1
  go_region_held3 (fun w' => w'.cell? ⟨B, 0, none⟩ = some (.int .u8 c.k) ∧ w'.cell? ⟨B, 1, none⟩ = some (.string c.nm) ∧ w'.cell? ⟨B, 2, none⟩ = some (.string c.tx) ∧ w'.cell? ⟨B, 3, none⟩ = some (.int .i64 c.n) ∧ w'.cell? ⟨B, 4, none⟩ = some (.int .i64 c.m) ∧ w'.cell? ⟨pr, c.k, none⟩ = some (.func (.func fk) #[] #[]) ∧ W.grownBy w' (some pa) ∧ At w' pa p)
    ((first | exact hSS | assumption))
    (first | ((with_reducible refine (HC.out _ (by assumption)).mono ?_); rintro e w' ⟨rfl, hS2⟩; unfold FS at hS2))
  rename_i hH
  clear hH
  clear d0 d1 d2 d3 d4 r1 hSS HC hcall h8w h8e h8c
  obtain ⟨d0, d1, d2, d3, d4, r1, G2, A2⟩ := hS2
  have c2 := A2.c
  have f2 := A2.f
  replace G2 := Lib.hid G2
  replace A2 := Lib.hid A2
  clear r1
  have hpa : B ≠ pa := by rw [hB.out]; omega
  obtain ⟨W3, hW3⟩ : ∃ x, x = w'.setCell ⟨pa, 0, none⟩ (.int .i64 ((p : Int) + 1)) := ⟨_, rfl⟩
  have hS3 : Hid (At W3 pa (p + 1) ∧ W.grownBy W3 (some pa) ∧ w'.grownBy W3 (some pa)) := Lib.hid (by
    rw [hW3]
    have g := grown_set w' pa (.int .i64 ((p : Int) + 1))
    exact ⟨A2.out.set (p + 1), G2.out.trans g, g⟩)
  have e0 := hS3.out.2.2.cell d0 (fun e => hpa (by cases e; rfl))
  have e1 := hS3.out.2.2.cell d1 (fun e => hpa (by cases e; rfl))
  have e2 := hS3.out.2.2.cell d2 (fun e => hpa (by cases e; rfl))
  have e3 := hS3.out.2.2.cell d3 (fun e => hpa (by cases e; rfl))
  have e4 := hS3.out.2.2.cell d4 (fun e => hpa (by cases e; rfl))
  have HW3 := Lib.hid hW3
  rw [hW3] at e0 e1 e2 e3 e4
  clear hW3 d0 d1 d2 d3 d4 A2 G2 hpa
  go_wp2_with fail
  rw [← HW3.out] at e0 e1 e2 e3 e4 ⊢
  clear HW3 c2 f2
  with_reducible refine (HM.out W3).mono ?_
  rintro e w4 ⟨rfl, b4⟩
  have S4 : Hid (At w4 pa (p + 1) ∧ W.grownBy w4 (some pa) ∧ W3.heap.size ≤ w4.heap.size) := Lib.hid ⟨(b4.block pa hS3.out.1.lt).trans hS3.out.1, Below.grown' hS3.out.2.1 b4, b4.size⟩
  have q0 := (b4.cell (World.block_lt_of_cell? _ _ e0)).trans e0
  have q4 := (b4.cell (World.block_lt_of_cell? _ _ e4)).trans e4
  clear b4 e0 e1 e2 e3 e4 HM
  go_wp2_with fail
  go_ret
  exact WkPost.no HR.out rfl S4.out.2.1 S4.out.1
end Go.Proofs.Ytfmgkndljppffaa

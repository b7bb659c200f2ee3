import Derived.Test.YtmkkckhfdafjnaaGreatDoorK2
import Derived.Deep.LoopGhost
import Derived.OwnWalk
import Derived.ArgAppend
/- Layer 3: the closure of Check: items and members. -/
namespace Go.Proofs.YtmkkckhfdafjnaaGreatDoor
open Go.RowKit Go.Maps
/-- What holds at a round's head. -/
def LSt (W : World) (pa B M : Nat) (c : CR) (n : Nat) (wr : World) (i q : Nat) (names : List ByteArray) : Prop :=
  At wr pa q ∧ W.grownBy wr (some pa) ∧ wr.cell? ⟨B, 0, none⟩ = some (.int .u8 c.k) ∧ (c.k = 7 → Met wr M i names) ∧ i ≤ q ∧ q ≤ n ∧ M < wr.heap.size
/-- What the region's loads read. -/
def SS (pv pw B b off q : Nat) (sl fw : Value) (nm : ByteArray) (c : CR) (w' : World) : Prop :=
  w'.cell? ⟨pv, 0, none⟩ = some sl ∧ w'.cell? ⟨B, 0, none⟩ = some (.int .u8 c.k) ∧ w'.cell? ⟨pw, 0, none⟩ = some fw ∧ w'.cell? ⟨b, off + q * 5 + 1, none⟩ = some (.string nm)
theorem named_step {W wr : World} {pa B M n i q : Nat} {c : CR} {names : List ByteArray} (hk : c.k = 6 ∨ c.k = 7) (h : LSt W pa B M c n wr i q names) (hq : q < n) (hn : n ≤ 2048) (nm : ByteArray) (hnm : nm.size ≤ maxLen) (hM : W.heap.size ≤ M) (hpa : pa < W.heap.size) (hBM : B ≠ M) :
    Calls Tryz.prog 83 #[.map (some M), .int .u8 c.k, .string nm] wr.drew fun e w1 => e = .returned (.bool (namedP (decide (c.k = 7)) names nm)) ∧ At w1 pa q ∧ W.grownBy w1 (some pa) ∧ w1.cell? ⟨B, 0, none⟩ = some (.int .u8 c.k) ∧ (c.k = 7 → Met w1 M (i + 1) (nm :: names)) ∧ M < w1.heap.size := by
  obtain ⟨h1, h2, h3, h4, h5, h6, h7⟩ := h
  rcases hk with hk | hk
  · rw [hk]
    refine (named_item (.map (some M)) nm wr.drew).mono ?_
    rintro e w1 ⟨rfl, rfl⟩
    exact ⟨rfl, h1, grown_drew1 h2, by rw [← hk]; exact h3, fun e => by omega, h7⟩
  · rw [hk]
    refine (named_obj M i names nm wr.drew hnm (h4 hk) (by omega)).mono ?_
    rintro e w1 ⟨rfl, k1, k2⟩
    refine ⟨rfl, At.keep (W := wr.drew) h1 k2 (by simp; omega), World.grownBy.far (grown_drew1 h2) k2 hM, ?_, fun _ => k1, ?_⟩
    · rw [← hk]; exact k2.cell (w := wr.drew) h3 (by simpa using hBM)
    · exact Nat.lt_of_lt_of_le h7 k2.size
set_option maxRecDepth 20000 in
set_option maxHeartbeats 2000000 in
theorem walk_kids (d : Int) (W : World) {pa pv pr pw : Nat} {a : Option Addr} {n cap : Nat} {g : Nat → CR} (E : Env W pa pv pr pw a n cap g) (hcw : CW n g) {p : Nat} (A : At W pa p) (hp : p < n) (hm : n ≤ 2048) (r : Nat) (h8 : (g p).k < 8) (ho : oneP (g p) = true) (hhead : headP (g p) = true) (r0 : Nat) (hr : r = r0 + 1) (hd0 : 0 ≤ d) (hd1 : d ≤ 15)
    (IH : ∀ (p' : Nat) (W' : World), Env W' pa pv pr pw a n cap g → At W' pa p' → p' ≤ n → Calls Tryz.prog 81 #[.int .i64 (d + 1), .pointer (some ⟨pa, 0, none⟩), .pointer (some ⟨pv, 0, none⟩), .pointer (some ⟨pr, 0, none⟩), .pointer (some ⟨pw, 0, none⟩)] W' (WkPost W' pa (wk g n r0 p'))) :
    Calls Tryz.prog 81 #[.int .i64 d, .pointer (some ⟨pa, 0, none⟩), .pointer (some ⟨pv, 0, none⟩), .pointer (some ⟨pr, 0, none⟩), .pointer (some ⟨pw, 0, none⟩)] W (WkPost W pa (wk g n r p)) := by
  have HR : Hid (wk g n r p = kidsF (wk g n r0) g n (decide ((g p).k = 7)) (g p).m.toNat [] (p + 1)) := Lib.hid (by 
    subst hr
    rw [wk_s, if_neg (by omega), ho, hhead]; rfl)
  obtain ⟨res, hres⟩ : ∃ x, x = wk g n r p := ⟨_, rfl⟩
  rw [← hres] at HR ⊢
  clear hres
  have c0 := A.c
  have c1 := E.v
  have hmm := (hcw p hp).2.2.2
  obtain ⟨b, off, rfl, hb, k0, k1, k2, k3, k4⟩ := E.cv p hp
  have HF := Lib.hid (fun W' => fit_any (g p) W' h8 (hcw p hp).2.2.1)
  rw [ho] at HF
  have HM := Lib.hid (fun W' => more_any (g p) W')
  rw [show (decide ((g p).k = 6) || decide ((g p).k = 7)) = true from hhead] at HM
  have hk67 := (one_head ho hhead).2.2.2
  have hm0 := (one_head ho hhead).2.2.1
  have hIH := Lib.hid IH
  have hpn1 : p + 1 ≤ n := by omega
  clear IH
  obtain ⟨c, hc⟩ : ∃ c, c = g p := ⟨_, rfl⟩
  rw [← hc] at k0 k1 k2 k3 k4 h8 HF hmm HM HR hk67 hm0
  clear hc ho hhead hr
  have r0 := E.rules c.k h8
  have hp1 : (0 : Int) ≤ p := by omega
  have hp2 : (p : Int) < n := by omega
  have hp3 : (n : Int) ≤ 2048 := by omega
  have h8a : (0 : Int) ≤ (c.k : Int) := by omega
  have h8b : (c.k : Int) < 8 := by omega
  have h8c : decide (8 ≤ c.k) = false := by simpa using h8
  have h8e : decide ((8 : Int) ≤ (c.k : Int)) = false := by simp; omega
  have h8w : IntKind.i64.wrap (c.k : Int) = (c.k : Int) := IntWalk.i64_in _ (by omega)
  have HA := Lib.hid A
  have HE := Lib.hid E
  have hlt := A.lt
  unfold cv at HF HM
  have hcwk := Lib.hid hcw
  clear hcw
  obtain ⟨fk, hfk⟩ : ∃ x, x = fo c.k := ⟨_, rfl⟩
  have hcall := fo_call c.k h8
  rw [← hfk] at r0 HF hcall
  have hn2 := E.n2
  have hprl := World.block_lt_of_cell? _ _ r0
  clear A E hp h8 hfk
  go_enter Tryz.func81, Tryz.ntmps81
  go_wp2_with fail
  obtain ⟨W1, hW1⟩ : ∃ x, x = W.alloc (.cells #[.int .u8 c.k, .string c.nm, .string c.tx, .int .i64 c.n, .int .i64 c.m] 46) := ⟨_, rfl⟩
  have G1 : Hid (W.grownBy W1 (some pa)) := Lib.hid (by rw [hW1]; exact World.grownBy_alloc _ _ _)
  have d0 : W1.cell? ⟨W.heap.size, 0, none⟩ = some (.int .u8 c.k) := by rw [hW1]; simp
  have d1 : W1.cell? ⟨W.heap.size, 1, none⟩ = some (.string c.nm) := by rw [hW1]; simp
  have d2 : W1.cell? ⟨W.heap.size, 2, none⟩ = some (.string c.tx) := by rw [hW1]; simp
  have d3 : W1.cell? ⟨W.heap.size, 3, none⟩ = some (.int .i64 c.n) := by rw [hW1]; simp
  have d4 : W1.cell? ⟨W.heap.size, 4, none⟩ = some (.int .i64 c.m) := by rw [hW1]; simp
  have r1 : W1.cell? ⟨pr, c.k, none⟩ = some (.func (.func fk) #[] #[]) := G1.out.cell r0 (fun e => hn2 (by cases e; rfl))
  have A1 := Lib.hid (HA.out.keep (row := none) (show W.grownBy W1 none by rw [hW1]; exact World.grownBy_alloc _ _ _) (by simp))
  rw [← hW1]
  clear hW1 c0 c1 k0 k1 k2 k3 k4 r0
  obtain ⟨B, hB⟩ : ∃ x, x = W.heap.size := ⟨_, rfl⟩
  rw [← hB] at d0 d1 d2 d3 d4 ⊢
  replace hB := Lib.hid hB
  have hSS : FS W pa p B pr fk c W1.drew := ⟨d0, d1, d2, d3, d4, r1, grown_drew1 G1.out, A1.out⟩
  have HC : Hid (∀ w', FS W pa p B pr fk c w' → Calls Tryz.prog fk #[.agg #[.int .u8 c.k, .string c.nm, .string c.tx, .int .i64 c.n, .int .i64 c.m]] w' fun e w2 => e = .returned (.bool true) ∧ FS W pa p B pr fk c w2) := Lib.hid (fun w' h => (HF.out w').mono fun e w2 ⟨h1, h2⟩ => ⟨h1, h.up h2⟩)
  clear HF G1 A1
  go_region_held3 (fun w' => w'.cell? ⟨B, 0, none⟩ = some (.int .u8 c.k) ∧ w'.cell? ⟨B, 1, none⟩ = some (.string c.nm) ∧ w'.cell? ⟨B, 2, none⟩ = some (.string c.tx) ∧ w'.cell? ⟨B, 3, none⟩ = some (.int .i64 c.n) ∧ w'.cell? ⟨B, 4, none⟩ = some (.int .i64 c.m) ∧ w'.cell? ⟨pr, c.k, none⟩ = some (.func (.func fk) #[] #[]) ∧ W.grownBy w' (some pa) ∧ At w' pa p)
    ((first | exact hSS | assumption))
    (first | ((with_reducible refine (HC.out _ (by assumption)).mono ?_); rintro e w' ⟨rfl, hS2⟩; unfold FS at hS2))
  rename_i hH
  clear hH
  clear d0 d1 d2 d3 d4 r1 hSS HC hcall h8w h8e h8c
  obtain ⟨d0, d1, d2, d3, d4, r1, G2, A2⟩ := hS2
  have c2 := A2.c
  have f2 := A2.f
  replace G2 := Lib.hid G2
  replace A2 := Lib.hid A2
  clear r1
  have hpa : B ≠ pa := by rw [hB.out]; omega
  obtain ⟨W3, hW3⟩ : ∃ x, x = w'.setCell ⟨pa, 0, none⟩ (.int .i64 ((p : Int) + 1)) := ⟨_, rfl⟩
  have hS3 : Hid (At W3 pa (p + 1) ∧ W.grownBy W3 (some pa) ∧ w'.grownBy W3 (some pa)) := Lib.hid (by
    rw [hW3]
    have g := grown_set w' pa (.int .i64 ((p : Int) + 1))
    exact ⟨A2.out.set (p + 1), G2.out.trans g, g⟩)
  have e0 := hS3.out.2.2.cell d0 (fun e => hpa (by cases e; rfl))
  have e1 := hS3.out.2.2.cell d1 (fun e => hpa (by cases e; rfl))
  have e2 := hS3.out.2.2.cell d2 (fun e => hpa (by cases e; rfl))
  have e3 := hS3.out.2.2.cell d3 (fun e => hpa (by cases e; rfl))
  have e4 := hS3.out.2.2.cell d4 (fun e => hpa (by cases e; rfl))
  have HW3 := Lib.hid hW3
  rw [hW3] at e0 e1 e2 e3 e4
  clear hW3 d0 d1 d2 d3 d4 A2 G2 hpa
  have hmk := @run_makeMap Tryz.prog
  have gd : (d == 16) = false := by rw [beq_eq_false_iff_ne]; omega
  go_wp2_with fail
  rw [← HW3.out] at e0 e1 e2 e3 e4 ⊢
  clear HW3 c2 f2
  with_reducible refine (HM.out W3).mono ?_
  rintro e w4 ⟨rfl, b4⟩
  have S4 : Hid (At w4 pa (p + 1) ∧ W.grownBy w4 (some pa) ∧ W3.heap.size ≤ w4.heap.size) := Lib.hid ⟨(b4.block pa hS3.out.1.lt).trans hS3.out.1, Below.grown' hS3.out.2.1 b4, b4.size⟩
  have q0 := (b4.cell (World.block_lt_of_cell? _ _ e0)).trans e0
  have q4 := (b4.cell (World.block_lt_of_cell? _ _ e4)).trans e4
  clear b4 e0 e1 e2 e3 e4 HM
  have hBl : B < w4.heap.size := World.block_lt_of_cell? _ _ q0
  have hpl : pa < w4.heap.size := S4.out.1.lt
  have hWl : W.heap.size ≤ w4.heap.size := S4.out.2.1.size
  have q4' : (w4.alloc (.map #[] 0)).cell? ⟨B, 4, none⟩ = some (.int .i64 c.m) := (World.grownBy_alloc w4 (.map #[] 0) none).cell q4 (by simp)
  have hLS : Hid (LSt W pa B w4.heap.size c n (w4.alloc (.map #[] 0)) 0 (p + 1) []) := Lib.hid ⟨((World.grownBy_alloc w4 (.map #[] 0) none).block pa hpl (by simp)).trans S4.out.1, S4.out.2.1.trans (World.grownBy_alloc _ _ _), (World.grownBy_alloc w4 (.map #[] 0) none).cell q0 (by simp), fun _ => World.ownsMap_made _ _ _ _, Nat.zero_le _, hpn1, by simp⟩
  have hBM : B ≠ w4.heap.size := by omega
  clear hS3 S4 hBl hpl q0
  go_wp2_with fail
  have hM : W.heap.size ≤ w4.heap.size := hWl
  obtain ⟨M, hMe⟩ : ∃ M, M = w4.heap.size := ⟨_, rfl⟩
  rw [← hMe] at hM hBM hLS ⊢
  clear q4 q4' hWl
  obtain ⟨w5, hw5⟩ : ∃ x, x = w4.alloc (.map #[] 0) := ⟨_, rfl⟩
  rw [← hw5] at hLS ⊢
  clear hw5 hMe hmk
  obtain ⟨K, hK⟩ : ∃ K, K = c.m.toNat := ⟨_, rfl⟩
  rw [← hK] at HR
  have hKm : (K : Int) = c.m := by omega
  replace hK := Lib.hid hK
  obtain ⟨ob, hob⟩ : ∃ ob, ob = decide (c.k = 7) := ⟨_, rfl⟩
  rw [← hob] at HR
  replace hob := Lib.hid hob
  have hpaM := hlt
  have hpa := Lib.hid (show B ≠ pa by rw [hB.out]; omega)
  have hBl : B = W.heap.size := hB.out
  replace hBl := Lib.hid hBl
  clear hm0 hmm h8a h8b hb hprl hn2 gd
  go_loopw [41] (fun v wr => ∃ (i q : Nat) (names : List ByteArray), v = .int .i64 i ∧ i ≤ K ∧ Hid (res = kidsF (wk g n r0) g n ob (K - i) names q) ∧ Hid (LSt W pa B M c n wr i q names)) (fun v _ => K - (intOf v).toNat)
  case atStart => exact ⟨0, p + 1, [], rfl, Nat.zero_le _, HR, hLS⟩
  case round =>
    obtain ⟨i, q, names, rfl, hiK, HRi, hL⟩ := hrel
    clear hLS HR
    by_cases hlt2 : i < K
    · have hlt3 : (i : Int) < c.m := by omega
      have a0 := hL.out.1.c
      have a1 := (HE.out.up hL.out.2.1).v
      have a2 := (HE.out.up hL.out.2.1).walk
      have a3 := hL.out.2.2.1
      have hqn := hL.out.2.2.2.2.2.1
      have hiq := hL.out.2.2.2.2.1
      by_cases hq : n ≤ q
      · have HO : Hid (res = none) := Lib.hid (by rw [HRi.out, show K - i = (K - i - 1) + 1 by omega, kidsF, if_pos hq])
        have g1 : decide (n ≤ q) = true := by simpa using hq
        have g2 : (n : Int) ≤ q := by omega
        clear HRi a2 a3 hqn hiq
        go_wp2_with fail
        go_quiet (fail)
        go_wp2_with fail
        go_ret
        exact WkPost.no HO.out rfl (grown_drew hL.out.2.1 _) (show At (wr.drewN _) pa q from hL.out.1)
      · have hq' : q < n := by omega
        obtain ⟨b2, off2, hbo, hb2, _, a4, _, _, _⟩ := (HE.out.up hL.out.2.1).cv q hq'
        cases hbo
        obtain ⟨nm, hnm⟩ : ∃ nm, nm = (g q).nm := ⟨_, rfl⟩
        rw [← hnm] at a4
        have hnmz : nm.size ≤ maxLen := by rw [hnm]; exact (hcwk.out q hq').2.1
        have HN := Lib.hid (named_step (M := M) hk67 hL.out hq' hm nm hnmz hM hpaM hBM)
        rw [← hob.out] at HN
        obtain ⟨j, hj⟩ : ∃ j, K - i = j + 1 := ⟨K - i - 1, by omega⟩
        have HRn : Hid (res = if namedP ob names nm then (match wk g n r0 q with | none => none | some a' => kidsF (wk g n r0) g n ob j (if ob then nm :: names else names) a') else none) := Lib.hid (by
          rw [HRi.out, hj, kidsF, if_neg hq, hnm]
          cases namedP ob names (g q).nm <;> cases wk g n r0 q <;> rfl)
        replace hj := Lib.hid hj
        obtain ⟨fw, hfw⟩ : ∃ x, x = Value.func (.func 81) #[] #[.pointer (some ⟨pa, 0, none⟩), .pointer (some ⟨pv, 0, none⟩), .pointer (some ⟨pr, 0, none⟩), .pointer (some ⟨pw, 0, none⟩)] := ⟨_, rfl⟩
        obtain ⟨sl, hsl⟩ : ∃ x, x = Value.slice (some ⟨b, off, none⟩) n cap := ⟨_, rfl⟩
        have HSS : Hid (∀ w', W.grownBy w' (some pa) → w'.cell? ⟨B, 0, none⟩ = some (.int .u8 c.k) → SS pv pw B b off q (.slice (some ⟨b, off, none⟩) n cap) (.func (.func 81) #[] #[.pointer (some ⟨pa, 0, none⟩), .pointer (some ⟨pv, 0, none⟩), .pointer (some ⟨pr, 0, none⟩), .pointer (some ⟨pw, 0, none⟩)]) nm c w') := Lib.hid (fun w' hg hc => by
          obtain ⟨b3, off3, hbo3, _, _, a5, _, _, _⟩ := (HE.out.up hg).cv q hq'
          cases hbo3
          rw [← hnm] at a5
          exact ⟨(HE.out.up hg).v, hc, (HE.out.up hg).walk, a5⟩)
        clear hnm hnmz HRi hfw hsl
        have hqi : (0 : Int) ≤ (q : Int) := by omega
        have hqj : (q : Int) < n := by omega
        have g1 : decide (n ≤ q) = false := by simpa using hq
        have g3 : IntKind.i64.wrap (d + 1) = d + 1 := IntWalk.i64_in _ (by omega)
        have hSS : SS pv pw B b off q (.slice (some ⟨b, off, none⟩) n cap) (.func (.func 81) #[] #[.pointer (some ⟨pa, 0, none⟩), .pointer (some ⟨pv, 0, none⟩), .pointer (some ⟨pr, 0, none⟩), .pointer (some ⟨pw, 0, none⟩)]) nm c wr.drew := ⟨a1, a3, a2, a4⟩
        obtain ⟨nb, hnb⟩ : ∃ nb, nb = namedP ob names nm := ⟨_, rfl⟩
        rw [← hnb] at HRn HN
        clear hnb
        have HN2 : Hid (Calls Tryz.prog 83 #[.map (some M), .int .u8 c.k, .string nm] wr.drew fun e w1 => e = .returned (.bool nb) ∧ SS pv pw B b off q (.slice (some ⟨b, off, none⟩) n cap) (.func (.func 81) #[] #[.pointer (some ⟨pa, 0, none⟩), .pointer (some ⟨pv, 0, none⟩), .pointer (some ⟨pr, 0, none⟩), .pointer (some ⟨pw, 0, none⟩)]) nm c w1 ∧ Hid (At w1 pa q ∧ W.grownBy w1 (some pa) ∧ w1.cell? ⟨B, 0, none⟩ = some (.int .u8 c.k) ∧ (c.k = 7 → Met w1 M (i + 1) (nm :: names)) ∧ M < w1.heap.size)) :=
          Lib.hid (HN.out.mono fun e w1 ⟨k1, k2, k3, k4, k5, k6⟩ => ⟨k1, HSS.out w1 k3 k4, Lib.hid ⟨k2, k3, k4, k5, k6⟩⟩)
        clear HN
        cases nb with
        | false =>
          have HO : Hid (res = none) := Lib.hid (by rw [HRn.out]; rfl)
          clear HRn hIH
          go_wp2_with fail
          refine wp_region_held_drew (S := SS pv pw B b off q (.slice (some ⟨b, off, none⟩) n cap) (.func (.func 81) #[] #[.pointer (some ⟨pa, 0, none⟩), .pointer (some ⟨pv, 0, none⟩), .pointer (some ⟨pr, 0, none⟩), .pointer (some ⟨pw, 0, none⟩)]) nm c) (by kernel_rfl) hSS (fun hHeld => ?_)
          refine wpAnyH_take (i := 1) (oi := { dst := some 44, op := Op.load 37 (Operand.tmp 2), type := 37, pos := "cell.go:85", after := #[], guard := none }) (v := .slice (some ⟨b, off, none⟩) n cap) rfl (by kernel_rfl) (by kernel_rfl) (by kernel_rfl) (fun _ _ _ h => h) (Or.inl ⟨by rfl, fun w hSw => by (obtain ⟨s0, s1, s2, s3⟩ := hSw; go_simp; try rfl)⟩) hHeld ?_
          try simp only [Act.put, List.setIfInBounds_toArray, List.set_cons_zero, List.set_cons_succ]
          refine wpAnyH_take (i := 2) (oi := { dst := some 45, op := Op.call { callee := Callee.builtin Builtin.len, args := #[Operand.tmp 44], argTypes := #[37] }, type := 3, pos := "cell.go:85", after := #[{ on := 1, ground := Ground.data }], guard := none }) (v := .int .i64 n) rfl (by kernel_rfl) (by kernel_rfl) (by kernel_rfl) (fun _ _ _ h => h) (Or.inl ⟨by rfl, fun w hSw => by (go_simp <;> rfl)⟩) hHeld ?_
          try simp only [Act.put, List.setIfInBounds_toArray, List.set_cons_zero, List.set_cons_succ]
          refine wpAnyH_ready (rs := [0]) (by kernel_rfl) (by simp) (AllReadyH.cons (o := { dst := some 43, op := Op.load 3 (Operand.tmp 1), type := 3, pos := "cell.go:85", after := #[], guard := none }) rfl (fun K0 hK0 => ?_) AllReadyH.nil)
          go_simp
          refine hK0.out _ _ hHeld (fun hHeld0 => ?_)
          clear hK0 K0
          try simp only [Act.put, List.setIfInBounds_toArray, List.set_cons_zero, List.set_cons_succ]
          refine wpAnyH_take (i := 3) (oi := { dst := some 46, op := Op.binOp BinOp.geq 3 (Operand.tmp 43) (Operand.tmp 45) 3, type := 4, pos := "cell.go:85", after := #[{ on := 0, ground := Ground.data }, { on := 2, ground := Ground.data }], guard := none }) (v := .bool false) rfl (by kernel_rfl) (by kernel_rfl) (by kernel_rfl) (fun _ _ _ h => h) (Or.inl ⟨by rfl, fun w hSw => by (go_simp <;> rfl)⟩) hHeld0 ?_
          try simp only [Act.put, List.setIfInBounds_toArray, List.set_cons_zero, List.set_cons_succ]
          refine wpAnyH_take (i := 4) (oi := { dst := some 47, op := Op.move (Operand.tmp 46), type := 4, pos := "cell.go:85", after := #[{ on := 3, ground := Ground.data }], guard := none }) (v := .bool false) rfl (by kernel_rfl) (by kernel_rfl) (by kernel_rfl) (fun _ _ _ h => h) (Or.inl ⟨by rfl, fun w hSw => by (go_simp <;> rfl)⟩) hHeld0 ?_
          try simp only [Act.put, List.setIfInBounds_toArray, List.set_cons_zero, List.set_cons_succ]
          refine wpAnyH_take (i := 5) (oi := { dst := some 48, op := Op.move (Operand.tmp 8), type := 98, pos := "cell.go:85", after := #[{ on := 4, ground := Ground.guard }], guard := some (4, false) }) (v := .map (some M)) rfl (by kernel_rfl) (by kernel_rfl) (by kernel_rfl) (fun _ _ _ h => h) (Or.inl ⟨by rfl, fun w hSw => by (go_simp <;> rfl)⟩) hHeld0 ?_
          try simp only [Act.put, List.setIfInBounds_toArray, List.set_cons_zero, List.set_cons_succ]
          refine wpAnyH_take (i := 6) (oi := { dst := some 49, op := Op.fieldAddr 46 (Operand.tmp 7) 0, type := 0, pos := "cell.go:85", after := #[{ on := 4, ground := Ground.guard }], guard := some (4, false) }) (v := .pointer (some ⟨B, 0, none⟩)) rfl (by kernel_rfl) (by kernel_rfl) (by kernel_rfl) (fun _ _ _ h => h) (Or.inl ⟨by rfl, fun w hSw => by (go_simp <;> rfl)⟩) hHeld0 ?_
          try simp only [Act.put, List.setIfInBounds_toArray, List.set_cons_zero, List.set_cons_succ]
          refine wpAnyH_take (i := 7) (oi := { dst := some 50, op := Op.load 5 (Operand.tmp 49), type := 5, pos := "cell.go:85", after := #[{ on := 6, ground := Ground.data }, { on := 4, ground := Ground.guard }], guard := some (4, false) }) (v := .int .u8 c.k) rfl (by kernel_rfl) (by kernel_rfl) (by kernel_rfl) (fun _ _ _ h => h) (Or.inl ⟨by rfl, fun w hSw => by (obtain ⟨s0, s1, s2, s3⟩ := hSw; go_simp; try rfl)⟩) hHeld0 ?_
          try simp only [Act.put, List.setIfInBounds_toArray, List.set_cons_zero, List.set_cons_succ]
          refine wpAnyH_take (i := 8) (oi := { dst := some 51, op := Op.load 37 (Operand.tmp 2), type := 37, pos := "cell.go:85", after := #[{ on := 4, ground := Ground.guard }], guard := some (4, false) }) (v := .slice (some ⟨b, off, none⟩) n cap) rfl (by kernel_rfl) (by kernel_rfl) (by kernel_rfl) (fun _ _ _ h => h) (Or.inl ⟨by rfl, fun w hSw => by (obtain ⟨s0, s1, s2, s3⟩ := hSw; go_simp; try rfl)⟩) hHeld0 ?_
          try simp only [Act.put, List.setIfInBounds_toArray, List.set_cons_zero, List.set_cons_succ]
          refine wpAnyH_ready (rs := [9]) (by kernel_rfl) (by simp) (AllReadyH.cons (o := { dst := some 52, op := Op.load 3 (Operand.tmp 1), type := 3, pos := "cell.go:85", after := #[{ on := 4, ground := Ground.guard }], guard := some (4, false) }) rfl (fun K9 hK9 => ?_) AllReadyH.nil)
          go_simp
          refine hK9.out _ _ hHeld0 (fun hHeld9 => ?_)
          clear hK9 K9
          try simp only [Act.put, List.setIfInBounds_toArray, List.set_cons_zero, List.set_cons_succ]
          refine wpAnyH_take (i := 10) (oi := { dst := some 53, op := Op.indexAddr 37 (Operand.tmp 51) (Operand.tmp 52), type := 0, pos := "cell.go:85", after := #[{ on := 8, ground := Ground.data }, { on := 9, ground := Ground.data }, { on := 4, ground := Ground.guard }], guard := some (4, false) }) (v := .pointer (some ⟨b, off + q * 5, none⟩)) rfl (by kernel_rfl) (by kernel_rfl) (by kernel_rfl) (fun _ _ _ h => h) (Or.inl ⟨by rfl, fun w hSw => by (go_simp <;> rfl)⟩) hHeld9 ?_
          try simp only [Act.put, List.setIfInBounds_toArray, List.set_cons_zero, List.set_cons_succ]
          refine wpAnyH_take (i := 11) (oi := { dst := some 54, op := Op.fieldAddr 46 (Operand.tmp 53) 1, type := 0, pos := "cell.go:85", after := #[{ on := 10, ground := Ground.data }, { on := 4, ground := Ground.guard }], guard := some (4, false) }) (v := .pointer (some ⟨b, off + q * 5 + 1, none⟩)) rfl (by kernel_rfl) (by kernel_rfl) (by kernel_rfl) (fun _ _ _ h => h) (Or.inl ⟨by rfl, fun w hSw => by (go_simp <;> rfl)⟩) hHeld9 ?_
          try simp only [Act.put, List.setIfInBounds_toArray, List.set_cons_zero, List.set_cons_succ]
          refine wpAnyH_take (i := 12) (oi := { dst := some 55, op := Op.load 9 (Operand.tmp 54), type := 9, pos := "cell.go:85", after := #[{ on := 11, ground := Ground.data }, { on := 4, ground := Ground.guard }], guard := some (4, false) }) (v := .string nm) rfl (by kernel_rfl) (by kernel_rfl) (by kernel_rfl) (fun _ _ _ h => h) (Or.inl ⟨by rfl, fun w hSw => by (obtain ⟨s0, s1, s2, s3⟩ := hSw; go_simp; try rfl)⟩) hHeld9 ?_
          try simp only [Act.put, List.setIfInBounds_toArray, List.set_cons_zero, List.set_cons_succ]
          refine wpAnyH_ready (rs := [13]) (by kernel_rfl) (by simp) (AllReadyH.cons (o := { dst := some 56, op := Op.call { callee := Callee.value (Operand.func 83), args := #[Operand.tmp 48, Operand.tmp 50, Operand.tmp 55], argTypes := #[98, 5, 9] }, type := 4, pos := "cell.go:85", after := #[{ on := 5, ground := Ground.data }, { on := 7, ground := Ground.data }, { on := 12, ground := Ground.data }, { on := 4, ground := Ground.chain }, { on := 4, ground := Ground.guard }], guard := some (4, false) }) rfl (fun K13 hK13 => ?_) AllReadyH.nil)
          go_simp
          with_reducible refine HN2.out.mono ?_
          rintro e w1 ⟨rfl, hS2, hD⟩
          refine hK13.out _ _ hS2 (fun hHeld13 => ?_)
          clear hK13 K13
          try simp only [Act.put, List.setIfInBounds_toArray, List.set_cons_zero, List.set_cons_succ]
          refine wpAnyH_take (i := 14) (oi := { dst := some 57, op := Op.unOp UnOp.not 4 (Operand.tmp 56), type := 4, pos := "cell.go:85", after := #[{ on := 13, ground := Ground.data }, { on := 4, ground := Ground.guard }], guard := some (4, false) }) (v := .bool true) rfl (by kernel_rfl) (by kernel_rfl) (by kernel_rfl) (fun _ _ _ h => h) (Or.inl ⟨by rfl, fun w hSw => by (go_simp <;> rfl)⟩) hHeld13 ?_
          try simp only [Act.put, List.setIfInBounds_toArray, List.set_cons_zero, List.set_cons_succ]
          refine wpAnyH_take (i := 15) (oi := { dst := some 58, op := Op.pick (Operand.tmp 47) (Operand.const (Value.bool true)) (Operand.tmp 57), type := 4, pos := "cell.go:85", after := #[{ on := 4, ground := Ground.data }, { on := 14, ground := Ground.data }], guard := none }) (v := .bool true) rfl (by kernel_rfl) (by kernel_rfl) (by kernel_rfl) (fun _ _ _ h => h) (Or.inl ⟨by rfl, fun w hSw => by (go_simp <;> rfl)⟩) hHeld13 ?_
          try simp only [Act.put, List.setIfInBounds_toArray, List.set_cons_zero, List.set_cons_succ]
          refine wpAnyH_take (i := 16) (oi := { dst := some 59, op := Op.move (Operand.tmp 58), type := 4, pos := "cell.go:85", after := #[{ on := 15, ground := Ground.data }, { on := 13, ground := Ground.chain }], guard := none }) (v := .bool true) rfl (by kernel_rfl) (by kernel_rfl) (by kernel_rfl) (fun _ _ _ h => h) (Or.inl ⟨by rfl, fun w hSw => by (go_simp <;> rfl)⟩) hHeld13 ?_
          try simp only [Act.put, List.setIfInBounds_toArray, List.set_cons_zero, List.set_cons_succ]
          refine wpAnyH_take (i := 17) (oi := { dst := some 60, op := Op.load 133 (Operand.tmp 4), type := 133, pos := "cell.go:85", after := #[{ on := 16, ground := Ground.guard }], guard := some (16, false) }) (v := undef) rfl (by kernel_rfl) (by kernel_rfl) (by kernel_rfl) (fun _ _ _ h => h) (Or.inr ⟨by rfl, rfl⟩) hHeld13 ?_
          try simp only [Act.put, List.setIfInBounds_toArray, List.set_cons_zero, List.set_cons_succ]
          refine wpAnyH_take (i := 18) (oi := { dst := some 61, op := Op.move (Operand.tmp 0), type := 3, pos := "cell.go:85", after := #[{ on := 16, ground := Ground.guard }], guard := some (16, false) }) (v := undef) rfl (by kernel_rfl) (by kernel_rfl) (by kernel_rfl) (fun _ _ _ h => h) (Or.inr ⟨by rfl, rfl⟩) hHeld13 ?_
          try simp only [Act.put, List.setIfInBounds_toArray, List.set_cons_zero, List.set_cons_succ]
          refine wpAnyH_take (i := 19) (oi := { dst := some 62, op := Op.binOp BinOp.add 3 (Operand.tmp 61) (Operand.const (Value.int IntKind.i64 1)) 3, type := 3, pos := "cell.go:85", after := #[{ on := 18, ground := Ground.data }, { on := 16, ground := Ground.guard }], guard := some (16, false) }) (v := undef) rfl (by kernel_rfl) (by kernel_rfl) (by kernel_rfl) (fun _ _ _ h => h) (Or.inr ⟨by rfl, rfl⟩) hHeld13 ?_
          try simp only [Act.put, List.setIfInBounds_toArray, List.set_cons_zero, List.set_cons_succ]
          refine wpAnyH_take (i := 20) (oi := { dst := some 63, op := Op.call { callee := Callee.value (Operand.tmp 60), args := #[Operand.tmp 62], argTypes := #[3] }, type := 4, pos := "cell.go:85", after := #[{ on := 17, ground := Ground.data }, { on := 19, ground := Ground.data }, { on := 16, ground := Ground.chain }, { on := 16, ground := Ground.guard }], guard := some (16, false) }) (v := undef) rfl (by kernel_rfl) (by kernel_rfl) (by kernel_rfl) (fun _ _ _ h => h) (Or.inr ⟨by rfl, rfl⟩) hHeld13 ?_
          try simp only [Act.put, List.setIfInBounds_toArray, List.set_cons_zero, List.set_cons_succ]
          refine wpAnyH_take (i := 21) (oi := { dst := some 64, op := Op.unOp UnOp.not 4 (Operand.tmp 63), type := 4, pos := "cell.go:85", after := #[{ on := 20, ground := Ground.data }, { on := 16, ground := Ground.guard }], guard := some (16, false) }) (v := undef) rfl (by kernel_rfl) (by kernel_rfl) (by kernel_rfl) (fun _ _ _ h => h) (Or.inr ⟨by rfl, rfl⟩) hHeld13 ?_
          try simp only [Act.put, List.setIfInBounds_toArray, List.set_cons_zero, List.set_cons_succ]
          refine wpAnyH_take (i := 22) (oi := { dst := some 65, op := Op.pick (Operand.tmp 59) (Operand.const (Value.bool true)) (Operand.tmp 64), type := 4, pos := "cell.go:85", after := #[{ on := 16, ground := Ground.data }, { on := 21, ground := Ground.data }], guard := none }) (v := .bool true) rfl (by kernel_rfl) (by kernel_rfl) (by kernel_rfl) (fun _ _ _ h => h) (Or.inl ⟨by rfl, fun w hSw => by (go_simp <;> rfl)⟩) hHeld13 ?_
          try simp only [Act.put, List.setIfInBounds_toArray, List.set_cons_zero, List.set_cons_succ]
          refine wpAnyH_done (by kernel_rfl) ?_ _
          all_goals (go_wp2_with fail; go_ret; exact WkPost.no HO.out rfl hD.out.2.1 hD.out.1)
        | true =>
          obtain ⟨sub, hsub⟩ : ∃ x, x = wk g n r0 q := ⟨_, rfl⟩
          rw [← hsub] at HRn
          have HW : Hid (∀ w1, Hid (At w1 pa q ∧ W.grownBy w1 (some pa) ∧ w1.cell? ⟨B, 0, none⟩ = some (.int .u8 c.k) ∧ (c.k = 7 → Met w1 M (i + 1) (nm :: names)) ∧ M < w1.heap.size) → Calls Tryz.prog 81 #[.int .i64 (d + 1), .pointer (some ⟨pa, 0, none⟩), .pointer (some ⟨pv, 0, none⟩), .pointer (some ⟨pr, 0, none⟩), .pointer (some ⟨pw, 0, none⟩)] w1 fun e w2 => e = .returned (.bool sub.isSome) ∧ SS pv pw B b off q (.slice (some ⟨b, off, none⟩) n cap) (.func (.func 81) #[] #[.pointer (some ⟨pa, 0, none⟩), .pointer (some ⟨pv, 0, none⟩), .pointer (some ⟨pr, 0, none⟩), .pointer (some ⟨pw, 0, none⟩)]) nm c w2 ∧ Hid (∃ q', (∀ e', sub = some e' → q' = e') ∧ At w2 pa q' ∧ W.grownBy w2 (some pa) ∧ w2.cell? ⟨B, 0, none⟩ = some (.int .u8 c.k) ∧ (c.k = 7 → Met w2 M (i + 1) (nm :: names)) ∧ M < w2.heap.size)) := Lib.hid (fun w1 hD => by
            obtain ⟨k1, k2, k3, k4, k5⟩ := hD.out
            refine (hIH.out q w1 (HE.out.up k2) k1 (by omega)).mono ?_
            rintro e w2 ⟨rfl, m1, q', m2, m3⟩
            have m4 := m1.cell k3 (fun e => hpa.out (by cases e; rfl))
            exact ⟨by rw [hsub], HSS.out w2 (k2.trans m1) m4, Lib.hid ⟨q', by rw [hsub]; exact m3, m2, k2.trans m1, m4, fun e => (k4 e).kept m1 (by simp; omega), Nat.lt_of_lt_of_le k5 m1.size⟩⟩)
          have hlts : Hid (∀ e', sub = some e' → q < e' ∧ e' ≤ n) := Lib.hid (fun e' he => wk_lt _ _ _ (by rw [← hsub]; exact he))
          clear hIH hsub HSS
          cases sub with
          | none =>
            have HO : Hid (res = none) := Lib.hid (by rw [HRn.out]; rfl)
            rw [show (none : Option Nat).isSome = false from rfl] at HW
            clear HRn hlts
            go_wp2_with fail
            refine wp_region_held_drew (S := SS pv pw B b off q (.slice (some ⟨b, off, none⟩) n cap) (.func (.func 81) #[] #[.pointer (some ⟨pa, 0, none⟩), .pointer (some ⟨pv, 0, none⟩), .pointer (some ⟨pr, 0, none⟩), .pointer (some ⟨pw, 0, none⟩)]) nm c) (by kernel_rfl) hSS (fun hHeld => ?_)
            refine wpAnyH_take (i := 1) (oi := { dst := some 44, op := Op.load 37 (Operand.tmp 2), type := 37, pos := "cell.go:85", after := #[], guard := none }) (v := .slice (some ⟨b, off, none⟩) n cap) rfl (by kernel_rfl) (by kernel_rfl) (by kernel_rfl) (fun _ _ _ h => h) (Or.inl ⟨by rfl, fun w hSw => by (obtain ⟨s0, s1, s2, s3⟩ := hSw; go_simp; try rfl)⟩) hHeld ?_
            try simp only [Act.put, List.setIfInBounds_toArray, List.set_cons_zero, List.set_cons_succ]
            refine wpAnyH_take (i := 2) (oi := { dst := some 45, op := Op.call { callee := Callee.builtin Builtin.len, args := #[Operand.tmp 44], argTypes := #[37] }, type := 3, pos := "cell.go:85", after := #[{ on := 1, ground := Ground.data }], guard := none }) (v := .int .i64 n) rfl (by kernel_rfl) (by kernel_rfl) (by kernel_rfl) (fun _ _ _ h => h) (Or.inl ⟨by rfl, fun w hSw => by (go_simp <;> rfl)⟩) hHeld ?_
            try simp only [Act.put, List.setIfInBounds_toArray, List.set_cons_zero, List.set_cons_succ]
            refine wpAnyH_ready (rs := [0]) (by kernel_rfl) (by simp) (AllReadyH.cons (o := { dst := some 43, op := Op.load 3 (Operand.tmp 1), type := 3, pos := "cell.go:85", after := #[], guard := none }) rfl (fun K0 hK0 => ?_) AllReadyH.nil)
            go_simp
            refine hK0.out _ _ hHeld (fun hHeld0 => ?_)
            clear hK0 K0
            try simp only [Act.put, List.setIfInBounds_toArray, List.set_cons_zero, List.set_cons_succ]
            refine wpAnyH_take (i := 3) (oi := { dst := some 46, op := Op.binOp BinOp.geq 3 (Operand.tmp 43) (Operand.tmp 45) 3, type := 4, pos := "cell.go:85", after := #[{ on := 0, ground := Ground.data }, { on := 2, ground := Ground.data }], guard := none }) (v := .bool false) rfl (by kernel_rfl) (by kernel_rfl) (by kernel_rfl) (fun _ _ _ h => h) (Or.inl ⟨by rfl, fun w hSw => by (go_simp <;> rfl)⟩) hHeld0 ?_
            try simp only [Act.put, List.setIfInBounds_toArray, List.set_cons_zero, List.set_cons_succ]
            refine wpAnyH_take (i := 4) (oi := { dst := some 47, op := Op.move (Operand.tmp 46), type := 4, pos := "cell.go:85", after := #[{ on := 3, ground := Ground.data }], guard := none }) (v := .bool false) rfl (by kernel_rfl) (by kernel_rfl) (by kernel_rfl) (fun _ _ _ h => h) (Or.inl ⟨by rfl, fun w hSw => by (go_simp <;> rfl)⟩) hHeld0 ?_
            try simp only [Act.put, List.setIfInBounds_toArray, List.set_cons_zero, List.set_cons_succ]
            refine wpAnyH_take (i := 5) (oi := { dst := some 48, op := Op.move (Operand.tmp 8), type := 98, pos := "cell.go:85", after := #[{ on := 4, ground := Ground.guard }], guard := some (4, false) }) (v := .map (some M)) rfl (by kernel_rfl) (by kernel_rfl) (by kernel_rfl) (fun _ _ _ h => h) (Or.inl ⟨by rfl, fun w hSw => by (go_simp <;> rfl)⟩) hHeld0 ?_
            try simp only [Act.put, List.setIfInBounds_toArray, List.set_cons_zero, List.set_cons_succ]
            refine wpAnyH_take (i := 6) (oi := { dst := some 49, op := Op.fieldAddr 46 (Operand.tmp 7) 0, type := 0, pos := "cell.go:85", after := #[{ on := 4, ground := Ground.guard }], guard := some (4, false) }) (v := .pointer (some ⟨B, 0, none⟩)) rfl (by kernel_rfl) (by kernel_rfl) (by kernel_rfl) (fun _ _ _ h => h) (Or.inl ⟨by rfl, fun w hSw => by (go_simp <;> rfl)⟩) hHeld0 ?_
            try simp only [Act.put, List.setIfInBounds_toArray, List.set_cons_zero, List.set_cons_succ]
            refine wpAnyH_take (i := 7) (oi := { dst := some 50, op := Op.load 5 (Operand.tmp 49), type := 5, pos := "cell.go:85", after := #[{ on := 6, ground := Ground.data }, { on := 4, ground := Ground.guard }], guard := some (4, false) }) (v := .int .u8 c.k) rfl (by kernel_rfl) (by kernel_rfl) (by kernel_rfl) (fun _ _ _ h => h) (Or.inl ⟨by rfl, fun w hSw => by (obtain ⟨s0, s1, s2, s3⟩ := hSw; go_simp; try rfl)⟩) hHeld0 ?_
            try simp only [Act.put, List.setIfInBounds_toArray, List.set_cons_zero, List.set_cons_succ]
            refine wpAnyH_take (i := 8) (oi := { dst := some 51, op := Op.load 37 (Operand.tmp 2), type := 37, pos := "cell.go:85", after := #[{ on := 4, ground := Ground.guard }], guard := some (4, false) }) (v := .slice (some ⟨b, off, none⟩) n cap) rfl (by kernel_rfl) (by kernel_rfl) (by kernel_rfl) (fun _ _ _ h => h) (Or.inl ⟨by rfl, fun w hSw => by (obtain ⟨s0, s1, s2, s3⟩ := hSw; go_simp; try rfl)⟩) hHeld0 ?_
            try simp only [Act.put, List.setIfInBounds_toArray, List.set_cons_zero, List.set_cons_succ]
            refine wpAnyH_ready (rs := [9]) (by kernel_rfl) (by simp) (AllReadyH.cons (o := { dst := some 52, op := Op.load 3 (Operand.tmp 1), type := 3, pos := "cell.go:85", after := #[{ on := 4, ground := Ground.guard }], guard := some (4, false) }) rfl (fun K9 hK9 => ?_) AllReadyH.nil)
            go_simp
            refine hK9.out _ _ hHeld0 (fun hHeld9 => ?_)
            clear hK9 K9
            try simp only [Act.put, List.setIfInBounds_toArray, List.set_cons_zero, List.set_cons_succ]
            refine wpAnyH_take (i := 10) (oi := { dst := some 53, op := Op.indexAddr 37 (Operand.tmp 51) (Operand.tmp 52), type := 0, pos := "cell.go:85", after := #[{ on := 8, ground := Ground.data }, { on := 9, ground := Ground.data }, { on := 4, ground := Ground.guard }], guard := some (4, false) }) (v := .pointer (some ⟨b, off + q * 5, none⟩)) rfl (by kernel_rfl) (by kernel_rfl) (by kernel_rfl) (fun _ _ _ h => h) (Or.inl ⟨by rfl, fun w hSw => by (go_simp <;> rfl)⟩) hHeld9 ?_
            try simp only [Act.put, List.setIfInBounds_toArray, List.set_cons_zero, List.set_cons_succ]
            refine wpAnyH_take (i := 11) (oi := { dst := some 54, op := Op.fieldAddr 46 (Operand.tmp 53) 1, type := 0, pos := "cell.go:85", after := #[{ on := 10, ground := Ground.data }, { on := 4, ground := Ground.guard }], guard := some (4, false) }) (v := .pointer (some ⟨b, off + q * 5 + 1, none⟩)) rfl (by kernel_rfl) (by kernel_rfl) (by kernel_rfl) (fun _ _ _ h => h) (Or.inl ⟨by rfl, fun w hSw => by (go_simp <;> rfl)⟩) hHeld9 ?_
            try simp only [Act.put, List.setIfInBounds_toArray, List.set_cons_zero, List.set_cons_succ]
            refine wpAnyH_take (i := 12) (oi := { dst := some 55, op := Op.load 9 (Operand.tmp 54), type := 9, pos := "cell.go:85", after := #[{ on := 11, ground := Ground.data }, { on := 4, ground := Ground.guard }], guard := some (4, false) }) (v := .string nm) rfl (by kernel_rfl) (by kernel_rfl) (by kernel_rfl) (fun _ _ _ h => h) (Or.inl ⟨by rfl, fun w hSw => by (obtain ⟨s0, s1, s2, s3⟩ := hSw; go_simp; try rfl)⟩) hHeld9 ?_
            try simp only [Act.put, List.setIfInBounds_toArray, List.set_cons_zero, List.set_cons_succ]
            refine wpAnyH_ready (rs := [13]) (by kernel_rfl) (by simp) (AllReadyH.cons (o := { dst := some 56, op := Op.call { callee := Callee.value (Operand.func 83), args := #[Operand.tmp 48, Operand.tmp 50, Operand.tmp 55], argTypes := #[98, 5, 9] }, type := 4, pos := "cell.go:85", after := #[{ on := 5, ground := Ground.data }, { on := 7, ground := Ground.data }, { on := 12, ground := Ground.data }, { on := 4, ground := Ground.chain }, { on := 4, ground := Ground.guard }], guard := some (4, false) }) rfl (fun K13 hK13 => ?_) AllReadyH.nil)
            go_simp
            with_reducible refine HN2.out.mono ?_
            rintro e w1 ⟨rfl, hS2, hD⟩
            refine hK13.out _ _ hS2 (fun hHeld13 => ?_)
            clear hK13 K13
            try simp only [Act.put, List.setIfInBounds_toArray, List.set_cons_zero, List.set_cons_succ]
            refine wpAnyH_take (i := 14) (oi := { dst := some 57, op := Op.unOp UnOp.not 4 (Operand.tmp 56), type := 4, pos := "cell.go:85", after := #[{ on := 13, ground := Ground.data }, { on := 4, ground := Ground.guard }], guard := some (4, false) }) (v := .bool false) rfl (by kernel_rfl) (by kernel_rfl) (by kernel_rfl) (fun _ _ _ h => h) (Or.inl ⟨by rfl, fun w hSw => by (go_simp <;> rfl)⟩) hHeld13 ?_
            try simp only [Act.put, List.setIfInBounds_toArray, List.set_cons_zero, List.set_cons_succ]
            refine wpAnyH_take (i := 15) (oi := { dst := some 58, op := Op.pick (Operand.tmp 47) (Operand.const (Value.bool true)) (Operand.tmp 57), type := 4, pos := "cell.go:85", after := #[{ on := 4, ground := Ground.data }, { on := 14, ground := Ground.data }], guard := none }) (v := .bool false) rfl (by kernel_rfl) (by kernel_rfl) (by kernel_rfl) (fun _ _ _ h => h) (Or.inl ⟨by rfl, fun w hSw => by (go_simp <;> rfl)⟩) hHeld13 ?_
            try simp only [Act.put, List.setIfInBounds_toArray, List.set_cons_zero, List.set_cons_succ]
            refine wpAnyH_take (i := 16) (oi := { dst := some 59, op := Op.move (Operand.tmp 58), type := 4, pos := "cell.go:85", after := #[{ on := 15, ground := Ground.data }, { on := 13, ground := Ground.chain }], guard := none }) (v := .bool false) rfl (by kernel_rfl) (by kernel_rfl) (by kernel_rfl) (fun _ _ _ h => h) (Or.inl ⟨by rfl, fun w hSw => by (go_simp <;> rfl)⟩) hHeld13 ?_
            try simp only [Act.put, List.setIfInBounds_toArray, List.set_cons_zero, List.set_cons_succ]
            refine wpAnyH_take (i := 17) (oi := { dst := some 60, op := Op.load 133 (Operand.tmp 4), type := 133, pos := "cell.go:85", after := #[{ on := 16, ground := Ground.guard }], guard := some (16, false) }) (v := (.func (.func 81) #[] #[.pointer (some ⟨pa, 0, none⟩), .pointer (some ⟨pv, 0, none⟩), .pointer (some ⟨pr, 0, none⟩), .pointer (some ⟨pw, 0, none⟩)])) rfl (by kernel_rfl) (by kernel_rfl) (by kernel_rfl) (fun _ _ _ h => h) (Or.inl ⟨by rfl, fun w hSw => by (obtain ⟨s0, s1, s2, s3⟩ := hSw; go_simp; try rfl)⟩) hHeld13 ?_
            try simp only [Act.put, List.setIfInBounds_toArray, List.set_cons_zero, List.set_cons_succ]
            refine wpAnyH_take (i := 18) (oi := { dst := some 61, op := Op.move (Operand.tmp 0), type := 3, pos := "cell.go:85", after := #[{ on := 16, ground := Ground.guard }], guard := some (16, false) }) (v := .int .i64 d) rfl (by kernel_rfl) (by kernel_rfl) (by kernel_rfl) (fun _ _ _ h => h) (Or.inl ⟨by rfl, fun w hSw => by (go_simp <;> rfl)⟩) hHeld13 ?_
            try simp only [Act.put, List.setIfInBounds_toArray, List.set_cons_zero, List.set_cons_succ]
            refine wpAnyH_take (i := 19) (oi := { dst := some 62, op := Op.binOp BinOp.add 3 (Operand.tmp 61) (Operand.const (Value.int IntKind.i64 1)) 3, type := 3, pos := "cell.go:85", after := #[{ on := 18, ground := Ground.data }, { on := 16, ground := Ground.guard }], guard := some (16, false) }) (v := .int .i64 (d + 1)) rfl (by kernel_rfl) (by kernel_rfl) (by kernel_rfl) (fun _ _ _ h => h) (Or.inl ⟨by rfl, fun w hSw => by (go_simp <;> rfl)⟩) hHeld13 ?_
            try simp only [Act.put, List.setIfInBounds_toArray, List.set_cons_zero, List.set_cons_succ]
            refine wpAnyH_ready (rs := [20]) (by kernel_rfl) (by simp) (AllReadyH.cons (o := { dst := some 63, op := Op.call { callee := Callee.value (Operand.tmp 60), args := #[Operand.tmp 62], argTypes := #[3] }, type := 4, pos := "cell.go:85", after := #[{ on := 17, ground := Ground.data }, { on := 19, ground := Ground.data }, { on := 16, ground := Ground.chain }, { on := 16, ground := Ground.guard }], guard := some (16, false) }) rfl (fun K20 hK20 => ?_) AllReadyH.nil)
            go_simp
            with_reducible refine (HW.out _ hD).mono ?_
            rintro e w2 ⟨rfl, hS3, hD3⟩
            refine hK20.out _ _ hS3 (fun hHeld20 => ?_)
            clear hK20 K20
            try simp only [Act.put, List.setIfInBounds_toArray, List.set_cons_zero, List.set_cons_succ]
            refine wpAnyH_take (i := 21) (oi := { dst := some 64, op := Op.unOp UnOp.not 4 (Operand.tmp 63), type := 4, pos := "cell.go:85", after := #[{ on := 20, ground := Ground.data }, { on := 16, ground := Ground.guard }], guard := some (16, false) }) (v := .bool true) rfl (by kernel_rfl) (by kernel_rfl) (by kernel_rfl) (fun _ _ _ h => h) (Or.inl ⟨by rfl, fun w hSw => by (go_simp <;> rfl)⟩) hHeld20 ?_
            try simp only [Act.put, List.setIfInBounds_toArray, List.set_cons_zero, List.set_cons_succ]
            refine wpAnyH_take (i := 22) (oi := { dst := some 65, op := Op.pick (Operand.tmp 59) (Operand.const (Value.bool true)) (Operand.tmp 64), type := 4, pos := "cell.go:85", after := #[{ on := 16, ground := Ground.data }, { on := 21, ground := Ground.data }], guard := none }) (v := .bool true) rfl (by kernel_rfl) (by kernel_rfl) (by kernel_rfl) (fun _ _ _ h => h) (Or.inl ⟨by rfl, fun w hSw => by (go_simp <;> rfl)⟩) hHeld20 ?_
            try simp only [Act.put, List.setIfInBounds_toArray, List.set_cons_zero, List.set_cons_succ]
            refine wpAnyH_done (by kernel_rfl) ?_ _
            go_wp2_with fail
            go_ret
            obtain ⟨q', _, k2, k3, _⟩ := hD3.out
            exact WkPost.no HO.out rfl k3 k2
          | some e1 =>
            rw [show (some e1 : Option Nat).isSome = true from rfl] at HW
            obtain ⟨l1, l2⟩ := hlts.out e1 rfl
            clear hlts
            go_wp2_with fail
            refine wp_region_held_drew (S := SS pv pw B b off q (.slice (some ⟨b, off, none⟩) n cap) (.func (.func 81) #[] #[.pointer (some ⟨pa, 0, none⟩), .pointer (some ⟨pv, 0, none⟩), .pointer (some ⟨pr, 0, none⟩), .pointer (some ⟨pw, 0, none⟩)]) nm c) (by kernel_rfl) hSS (fun hHeld => ?_)
            refine wpAnyH_take (i := 1) (oi := { dst := some 44, op := Op.load 37 (Operand.tmp 2), type := 37, pos := "cell.go:85", after := #[], guard := none }) (v := .slice (some ⟨b, off, none⟩) n cap) rfl (by kernel_rfl) (by kernel_rfl) (by kernel_rfl) (fun _ _ _ h => h) (Or.inl ⟨by rfl, fun w hSw => by (obtain ⟨s0, s1, s2, s3⟩ := hSw; go_simp; try rfl)⟩) hHeld ?_
            try simp only [Act.put, List.setIfInBounds_toArray, List.set_cons_zero, List.set_cons_succ]
            refine wpAnyH_take (i := 2) (oi := { dst := some 45, op := Op.call { callee := Callee.builtin Builtin.len, args := #[Operand.tmp 44], argTypes := #[37] }, type := 3, pos := "cell.go:85", after := #[{ on := 1, ground := Ground.data }], guard := none }) (v := .int .i64 n) rfl (by kernel_rfl) (by kernel_rfl) (by kernel_rfl) (fun _ _ _ h => h) (Or.inl ⟨by rfl, fun w hSw => by (go_simp <;> rfl)⟩) hHeld ?_
            try simp only [Act.put, List.setIfInBounds_toArray, List.set_cons_zero, List.set_cons_succ]
            refine wpAnyH_ready (rs := [0]) (by kernel_rfl) (by simp) (AllReadyH.cons (o := { dst := some 43, op := Op.load 3 (Operand.tmp 1), type := 3, pos := "cell.go:85", after := #[], guard := none }) rfl (fun K0 hK0 => ?_) AllReadyH.nil)
            go_simp
            refine hK0.out _ _ hHeld (fun hHeld0 => ?_)
            clear hK0 K0
            try simp only [Act.put, List.setIfInBounds_toArray, List.set_cons_zero, List.set_cons_succ]
            refine wpAnyH_take (i := 3) (oi := { dst := some 46, op := Op.binOp BinOp.geq 3 (Operand.tmp 43) (Operand.tmp 45) 3, type := 4, pos := "cell.go:85", after := #[{ on := 0, ground := Ground.data }, { on := 2, ground := Ground.data }], guard := none }) (v := .bool false) rfl (by kernel_rfl) (by kernel_rfl) (by kernel_rfl) (fun _ _ _ h => h) (Or.inl ⟨by rfl, fun w hSw => by (go_simp <;> rfl)⟩) hHeld0 ?_
            try simp only [Act.put, List.setIfInBounds_toArray, List.set_cons_zero, List.set_cons_succ]
            refine wpAnyH_take (i := 4) (oi := { dst := some 47, op := Op.move (Operand.tmp 46), type := 4, pos := "cell.go:85", after := #[{ on := 3, ground := Ground.data }], guard := none }) (v := .bool false) rfl (by kernel_rfl) (by kernel_rfl) (by kernel_rfl) (fun _ _ _ h => h) (Or.inl ⟨by rfl, fun w hSw => by (go_simp <;> rfl)⟩) hHeld0 ?_
            try simp only [Act.put, List.setIfInBounds_toArray, List.set_cons_zero, List.set_cons_succ]
            refine wpAnyH_take (i := 5) (oi := { dst := some 48, op := Op.move (Operand.tmp 8), type := 98, pos := "cell.go:85", after := #[{ on := 4, ground := Ground.guard }], guard := some (4, false) }) (v := .map (some M)) rfl (by kernel_rfl) (by kernel_rfl) (by kernel_rfl) (fun _ _ _ h => h) (Or.inl ⟨by rfl, fun w hSw => by (go_simp <;> rfl)⟩) hHeld0 ?_
            try simp only [Act.put, List.setIfInBounds_toArray, List.set_cons_zero, List.set_cons_succ]
            refine wpAnyH_take (i := 6) (oi := { dst := some 49, op := Op.fieldAddr 46 (Operand.tmp 7) 0, type := 0, pos := "cell.go:85", after := #[{ on := 4, ground := Ground.guard }], guard := some (4, false) }) (v := .pointer (some ⟨B, 0, none⟩)) rfl (by kernel_rfl) (by kernel_rfl) (by kernel_rfl) (fun _ _ _ h => h) (Or.inl ⟨by rfl, fun w hSw => by (go_simp <;> rfl)⟩) hHeld0 ?_
            try simp only [Act.put, List.setIfInBounds_toArray, List.set_cons_zero, List.set_cons_succ]
            refine wpAnyH_take (i := 7) (oi := { dst := some 50, op := Op.load 5 (Operand.tmp 49), type := 5, pos := "cell.go:85", after := #[{ on := 6, ground := Ground.data }, { on := 4, ground := Ground.guard }], guard := some (4, false) }) (v := .int .u8 c.k) rfl (by kernel_rfl) (by kernel_rfl) (by kernel_rfl) (fun _ _ _ h => h) (Or.inl ⟨by rfl, fun w hSw => by (obtain ⟨s0, s1, s2, s3⟩ := hSw; go_simp; try rfl)⟩) hHeld0 ?_
            try simp only [Act.put, List.setIfInBounds_toArray, List.set_cons_zero, List.set_cons_succ]
            refine wpAnyH_take (i := 8) (oi := { dst := some 51, op := Op.load 37 (Operand.tmp 2), type := 37, pos := "cell.go:85", after := #[{ on := 4, ground := Ground.guard }], guard := some (4, false) }) (v := .slice (some ⟨b, off, none⟩) n cap) rfl (by kernel_rfl) (by kernel_rfl) (by kernel_rfl) (fun _ _ _ h => h) (Or.inl ⟨by rfl, fun w hSw => by (obtain ⟨s0, s1, s2, s3⟩ := hSw; go_simp; try rfl)⟩) hHeld0 ?_
            try simp only [Act.put, List.setIfInBounds_toArray, List.set_cons_zero, List.set_cons_succ]
            refine wpAnyH_ready (rs := [9]) (by kernel_rfl) (by simp) (AllReadyH.cons (o := { dst := some 52, op := Op.load 3 (Operand.tmp 1), type := 3, pos := "cell.go:85", after := #[{ on := 4, ground := Ground.guard }], guard := some (4, false) }) rfl (fun K9 hK9 => ?_) AllReadyH.nil)
            go_simp
            refine hK9.out _ _ hHeld0 (fun hHeld9 => ?_)
            clear hK9 K9
            try simp only [Act.put, List.setIfInBounds_toArray, List.set_cons_zero, List.set_cons_succ]
            refine wpAnyH_take (i := 10) (oi := { dst := some 53, op := Op.indexAddr 37 (Operand.tmp 51) (Operand.tmp 52), type := 0, pos := "cell.go:85", after := #[{ on := 8, ground := Ground.data }, { on := 9, ground := Ground.data }, { on := 4, ground := Ground.guard }], guard := some (4, false) }) (v := .pointer (some ⟨b, off + q * 5, none⟩)) rfl (by kernel_rfl) (by kernel_rfl) (by kernel_rfl) (fun _ _ _ h => h) (Or.inl ⟨by rfl, fun w hSw => by (go_simp <;> rfl)⟩) hHeld9 ?_
            try simp only [Act.put, List.setIfInBounds_toArray, List.set_cons_zero, List.set_cons_succ]
            refine wpAnyH_take (i := 11) (oi := { dst := some 54, op := Op.fieldAddr 46 (Operand.tmp 53) 1, type := 0, pos := "cell.go:85", after := #[{ on := 10, ground := Ground.data }, { on := 4, ground := Ground.guard }], guard := some (4, false) }) (v := .pointer (some ⟨b, off + q * 5 + 1, none⟩)) rfl (by kernel_rfl) (by kernel_rfl) (by kernel_rfl) (fun _ _ _ h => h) (Or.inl ⟨by rfl, fun w hSw => by (go_simp <;> rfl)⟩) hHeld9 ?_
            try simp only [Act.put, List.setIfInBounds_toArray, List.set_cons_zero, List.set_cons_succ]
            refine wpAnyH_take (i := 12) (oi := { dst := some 55, op := Op.load 9 (Operand.tmp 54), type := 9, pos := "cell.go:85", after := #[{ on := 11, ground := Ground.data }, { on := 4, ground := Ground.guard }], guard := some (4, false) }) (v := .string nm) rfl (by kernel_rfl) (by kernel_rfl) (by kernel_rfl) (fun _ _ _ h => h) (Or.inl ⟨by rfl, fun w hSw => by (obtain ⟨s0, s1, s2, s3⟩ := hSw; go_simp; try rfl)⟩) hHeld9 ?_
            try simp only [Act.put, List.setIfInBounds_toArray, List.set_cons_zero, List.set_cons_succ]
            refine wpAnyH_ready (rs := [13]) (by kernel_rfl) (by simp) (AllReadyH.cons (o := { dst := some 56, op := Op.call { callee := Callee.value (Operand.func 83), args := #[Operand.tmp 48, Operand.tmp 50, Operand.tmp 55], argTypes := #[98, 5, 9] }, type := 4, pos := "cell.go:85", after := #[{ on := 5, ground := Ground.data }, { on := 7, ground := Ground.data }, { on := 12, ground := Ground.data }, { on := 4, ground := Ground.chain }, { on := 4, ground := Ground.guard }], guard := some (4, false) }) rfl (fun K13 hK13 => ?_) AllReadyH.nil)
            go_simp
            with_reducible refine HN2.out.mono ?_
            rintro e w1 ⟨rfl, hS2, hD⟩
            refine hK13.out _ _ hS2 (fun hHeld13 => ?_)
            clear hK13 K13
            try simp only [Act.put, List.setIfInBounds_toArray, List.set_cons_zero, List.set_cons_succ]
            refine wpAnyH_take (i := 14) (oi := { dst := some 57, op := Op.unOp UnOp.not 4 (Operand.tmp 56), type := 4, pos := "cell.go:85", after := #[{ on := 13, ground := Ground.data }, { on := 4, ground := Ground.guard }], guard := some (4, false) }) (v := .bool false) rfl (by kernel_rfl) (by kernel_rfl) (by kernel_rfl) (fun _ _ _ h => h) (Or.inl ⟨by rfl, fun w hSw => by (go_simp <;> rfl)⟩) hHeld13 ?_
            try simp only [Act.put, List.setIfInBounds_toArray, List.set_cons_zero, List.set_cons_succ]
            refine wpAnyH_take (i := 15) (oi := { dst := some 58, op := Op.pick (Operand.tmp 47) (Operand.const (Value.bool true)) (Operand.tmp 57), type := 4, pos := "cell.go:85", after := #[{ on := 4, ground := Ground.data }, { on := 14, ground := Ground.data }], guard := none }) (v := .bool false) rfl (by kernel_rfl) (by kernel_rfl) (by kernel_rfl) (fun _ _ _ h => h) (Or.inl ⟨by rfl, fun w hSw => by (go_simp <;> rfl)⟩) hHeld13 ?_
            try simp only [Act.put, List.setIfInBounds_toArray, List.set_cons_zero, List.set_cons_succ]
            refine wpAnyH_take (i := 16) (oi := { dst := some 59, op := Op.move (Operand.tmp 58), type := 4, pos := "cell.go:85", after := #[{ on := 15, ground := Ground.data }, { on := 13, ground := Ground.chain }], guard := none }) (v := .bool false) rfl (by kernel_rfl) (by kernel_rfl) (by kernel_rfl) (fun _ _ _ h => h) (Or.inl ⟨by rfl, fun w hSw => by (go_simp <;> rfl)⟩) hHeld13 ?_
            try simp only [Act.put, List.setIfInBounds_toArray, List.set_cons_zero, List.set_cons_succ]
            refine wpAnyH_take (i := 17) (oi := { dst := some 60, op := Op.load 133 (Operand.tmp 4), type := 133, pos := "cell.go:85", after := #[{ on := 16, ground := Ground.guard }], guard := some (16, false) }) (v := (.func (.func 81) #[] #[.pointer (some ⟨pa, 0, none⟩), .pointer (some ⟨pv, 0, none⟩), .pointer (some ⟨pr, 0, none⟩), .pointer (some ⟨pw, 0, none⟩)])) rfl (by kernel_rfl) (by kernel_rfl) (by kernel_rfl) (fun _ _ _ h => h) (Or.inl ⟨by rfl, fun w hSw => by (obtain ⟨s0, s1, s2, s3⟩ := hSw; go_simp; try rfl)⟩) hHeld13 ?_
            try simp only [Act.put, List.setIfInBounds_toArray, List.set_cons_zero, List.set_cons_succ]
            refine wpAnyH_take (i := 18) (oi := { dst := some 61, op := Op.move (Operand.tmp 0), type := 3, pos := "cell.go:85", after := #[{ on := 16, ground := Ground.guard }], guard := some (16, false) }) (v := .int .i64 d) rfl (by kernel_rfl) (by kernel_rfl) (by kernel_rfl) (fun _ _ _ h => h) (Or.inl ⟨by rfl, fun w hSw => by (go_simp <;> rfl)⟩) hHeld13 ?_
            try simp only [Act.put, List.setIfInBounds_toArray, List.set_cons_zero, List.set_cons_succ]
            refine wpAnyH_take (i := 19) (oi := { dst := some 62, op := Op.binOp BinOp.add 3 (Operand.tmp 61) (Operand.const (Value.int IntKind.i64 1)) 3, type := 3, pos := "cell.go:85", after := #[{ on := 18, ground := Ground.data }, { on := 16, ground := Ground.guard }], guard := some (16, false) }) (v := .int .i64 (d + 1)) rfl (by kernel_rfl) (by kernel_rfl) (by kernel_rfl) (fun _ _ _ h => h) (Or.inl ⟨by rfl, fun w hSw => by (go_simp <;> rfl)⟩) hHeld13 ?_
            try simp only [Act.put, List.setIfInBounds_toArray, List.set_cons_zero, List.set_cons_succ]
            refine wpAnyH_ready (rs := [20]) (by kernel_rfl) (by simp) (AllReadyH.cons (o := { dst := some 63, op := Op.call { callee := Callee.value (Operand.tmp 60), args := #[Operand.tmp 62], argTypes := #[3] }, type := 4, pos := "cell.go:85", after := #[{ on := 17, ground := Ground.data }, { on := 19, ground := Ground.data }, { on := 16, ground := Ground.chain }, { on := 16, ground := Ground.guard }], guard := some (16, false) }) rfl (fun K20 hK20 => ?_) AllReadyH.nil)
            go_simp
            with_reducible refine (HW.out _ hD).mono ?_
            rintro e w2 ⟨rfl, hS3, hD3⟩
            refine hK20.out _ _ hS3 (fun hHeld20 => ?_)
            clear hK20 K20
            try simp only [Act.put, List.setIfInBounds_toArray, List.set_cons_zero, List.set_cons_succ]
            refine wpAnyH_take (i := 21) (oi := { dst := some 64, op := Op.unOp UnOp.not 4 (Operand.tmp 63), type := 4, pos := "cell.go:85", after := #[{ on := 20, ground := Ground.data }, { on := 16, ground := Ground.guard }], guard := some (16, false) }) (v := .bool false) rfl (by kernel_rfl) (by kernel_rfl) (by kernel_rfl) (fun _ _ _ h => h) (Or.inl ⟨by rfl, fun w hSw => by (go_simp <;> rfl)⟩) hHeld20 ?_
            try simp only [Act.put, List.setIfInBounds_toArray, List.set_cons_zero, List.set_cons_succ]
            refine wpAnyH_take (i := 22) (oi := { dst := some 65, op := Op.pick (Operand.tmp 59) (Operand.const (Value.bool true)) (Operand.tmp 64), type := 4, pos := "cell.go:85", after := #[{ on := 16, ground := Ground.data }, { on := 21, ground := Ground.data }], guard := none }) (v := .bool false) rfl (by kernel_rfl) (by kernel_rfl) (by kernel_rfl) (fun _ _ _ h => h) (Or.inl ⟨by rfl, fun w hSw => by (go_simp <;> rfl)⟩) hHeld20 ?_
            try simp only [Act.put, List.setIfInBounds_toArray, List.set_cons_zero, List.set_cons_succ]
            refine wpAnyH_done (by kernel_rfl) ?_ _
            go_wp2_with fail
            obtain ⟨q', k1, k2, k3, k4, k5, k6⟩ := hD3.out
            obtain rfl : q' = e1 := k1 e1 rfl
            go_roundw
            case rel =>
              refine ⟨i + 1, q', if ob then nm :: names else names, by go_num, by omega, Lib.hid ?_, Lib.hid ⟨k2, k3, k4, fun e => ?_, by omega, l2, k6⟩⟩
              · refine HRn.out.trans ?_
                rw [show K - (i + 1) = j by have := hj.out; omega]
                rfl
              · rw [hob.out, decide_eq_true e]; exact k5 e
            case measure => simp [intOf]; omega
    · have hiK2 : i = K := by omega
      subst hiK2
      have hge : ¬ (i : Int) < c.m := by omega
      have HO : Hid (res = some q) := Lib.hid (by rw [HRi.out, Nat.sub_self]; rfl)
      clear HRi
      go_wp2_with fail
      go_ret
      exact WkPost.yes HO.out rfl hL.out.2.1 hL.out.1
end Go.Proofs.YtmkkckhfdafjnaaGreatDoor
/- Layer 3: Check. -/
namespace Go.Proofs.YtmkkckhfdafjnaaGreatDoor
open Go.RowKit Go.Maps
theorem cwalk_any {pa pv pr pw : Nat} {a : Option Addr} {n cap : Nat} {g : Nat → CR} (hcw : CW n g) (hm : n ≤ 2048) : ∀ (r : Nat) (d : Int) (_ : d = 16 - (r : Int)) (_ : r ≤ 16) (p : Nat) (W : World), Env W pa pv pr pw a n cap g → At W pa p → p ≤ n →
    Calls Tryz.prog 81 #[.int .i64 d, .pointer (some ⟨pa, 0, none⟩), .pointer (some ⟨pv, 0, none⟩), .pointer (some ⟨pr, 0, none⟩), .pointer (some ⟨pw, 0, none⟩)] W (WkPost W pa (wk g n r p)) := by
  intro r
  induction r with
  | zero =>
    intro d hd _ p W E A hp
    by_cases h : n ≤ p
    · exact walk_end d W E A h 0
    · by_cases h8 : 8 ≤ (g p).k
      · exact walk_bad8 d W E hcw A (by omega) hm 0 h8
      · cases ho : oneP (g p) with
        | false => exact walk_misfit d W E hcw A (by omega) hm 0 (by omega) ho
        | true =>
          cases hh : headP (g p) with
          | false => exact walk_leaf d W E hcw A (by omega) hm 0 (by omega) ho hh
          | true => exact walk_deep d W E hcw A (by omega) hm 0 (by omega) ho hh rfl (by simpa using hd)
  | succ r ih =>
    intro d hd hr p W E A hp
    by_cases h : n ≤ p
    · exact walk_end d W E A h _
    · by_cases h8 : 8 ≤ (g p).k
      · exact walk_bad8 d W E hcw A (by omega) hm _ h8
      · cases ho : oneP (g p) with
        | false => exact walk_misfit d W E hcw A (by omega) hm _ (by omega) ho
        | true =>
          cases hh : headP (g p) with
          | false => exact walk_leaf d W E hcw A (by omega) hm _ (by omega) ho hh
          | true => exact walk_kids d W E hcw A (by omega) hm _ (by omega) ho hh r rfl (by omega) (by omega) (fun p' W' E' A' hp' => ih (d + 1) (by omega) (by omega) p' W' E' A' hp')
/-- What Check tells. -/
def eC (b : Bool) : Int := if b then 0 else 8
set_option maxRecDepth 20000 in
theorem check_zero (a : Option Addr) (cap : Nat) (w : World) : Calls Tryz.prog 66 #[.slice a 0 cap] w fun e w' => e = .returned (.int .i64 8) ∧ Below w.heap.size w w' := by
  go_enter Tryz.func66, Tryz.ntmps66
  go_wp2_with fail
  go_ret
  exact ⟨rfl, (Below.refl _ _).alloc (Nat.le_refl _) _⟩
set_option maxRecDepth 20000 in
theorem check_great (a : Option Addr) (n cap : Nat) (w : World) (hn : 2048 < n) : Calls Tryz.prog 66 #[.slice a n cap] w fun e w' => e = .returned (.int .i64 8) ∧ Below w.heap.size w w' := by
  have h1 : (2048 : Int) < (n : Int) := by omega
  have h2 : ((n : Int) == 0) = false := by rw [beq_eq_false_iff_ne]; omega
  clear hn
  go_enter Tryz.func66, Tryz.ntmps66
  go_wp2_with fail
  go_ret
  exact ⟨rfl, (Below.refl _ _).alloc (Nat.le_refl _) _⟩
set_option maxRecDepth 20000 in
theorem check_named (a : Option Addr) (n cap : Nat) (g : Nat → CR) (w : World) (hv : CV w a n g) (h0 : 0 < n) (hn : n ≤ 2048) (he : em (g 0).nm = false) : Calls Tryz.prog 66 #[.slice a n cap] w fun e w' => e = .returned (.int .i64 8) ∧ Below w.heap.size w w' := by
  have h1 : ¬ (2048 : Int) < (n : Int) := by omega
  have h2 : ((n : Int) == 0) = false := by rw [beq_eq_false_iff_ne]; omega
  have h3 : (0 : Int) < n := by omega
  obtain ⟨b, off, rfl, hb, _, c1, _, _, _⟩ := hv 0 h0
  have hem := em_no he
  obtain ⟨nm, hnm⟩ : ∃ x, x = (g 0).nm := ⟨_, rfl⟩
  rw [← hnm] at c1 hem
  rw [Nat.zero_mul, Nat.add_zero] at c1
  clear hn hv he hnm h0
  go_enter Tryz.func66, Tryz.ntmps66
  go_wp2_with fail
  go_ret
  exact ⟨rfl, (Below.refl _ _).alloc (Nat.le_refl _) _⟩
end Go.Proofs.YtmkkckhfdafjnaaGreatDoor
/- Layer 3: Check, whole. -/
namespace Go.Proofs.YtmkkckhfdafjnaaGreatDoor
open Go.RowKit Go.Maps
theorem env_of (w1 : World) (pv : Nat) (a : Option Addr) (n cap : Nat) (g : Nat → CR) (hv : w1.cell? ⟨pv, 0, none⟩ = some (.slice a n cap)) (hcv : CV w1 a n g) (ha : ∀ b off, a = some ⟨b, off, none⟩ → b < w1.heap.size) :
    Env (((w1.alloc (.cells rulesA 147)).alloc (.cells #[.int .i64 0] 3)).alloc (.cells #[.func (.func 81) #[] #[.pointer (some ⟨w1.heap.size + 1, 0, none⟩), .pointer (some ⟨pv, 0, none⟩), .pointer (some ⟨w1.heap.size, 0, none⟩), .pointer (some ⟨w1.heap.size + 1 + 1, 0, none⟩)]] 133)) (w1.heap.size + 1) pv w1.heap.size (w1.heap.size + 1 + 1) a n cap g ∧
    At (((w1.alloc (.cells rulesA 147)).alloc (.cells #[.int .i64 0] 3)).alloc (.cells #[.func (.func 81) #[] #[.pointer (some ⟨w1.heap.size + 1, 0, none⟩), .pointer (some ⟨pv, 0, none⟩), .pointer (some ⟨w1.heap.size, 0, none⟩), .pointer (some ⟨w1.heap.size + 1 + 1, 0, none⟩)]] 133)) (w1.heap.size + 1) 0 := by
  have hpv := World.block_lt_of_cell? _ _ hv
  have hpv' : pv < w1.heap.size := hpv
  refine ⟨⟨?_, ?_, ?_, ?_, by omega, by omega, by omega, fun b off e => by have := ha b off e; omega⟩, ?_⟩
  · have b3 : Below w1.heap.size w1 (((w1.alloc (.cells rulesA 147)).alloc (.cells #[.int .i64 0] 3)).alloc (.cells #[.func (.func 81) #[] #[.pointer (some ⟨w1.heap.size + 1, 0, none⟩), .pointer (some ⟨pv, 0, none⟩), .pointer (some ⟨w1.heap.size, 0, none⟩), .pointer (some ⟨w1.heap.size + 1 + 1, 0, none⟩)]] 133)) := (((Below.refl _ _).alloc (Nat.le_refl _) _).alloc (by simp) _).alloc (by simp; omega) _
    rw [b3.cell (p := ⟨pv, 0, none⟩) hpv]; exact hv
  · intro k hk
    rcases (by omega : k = 0 ∨ k = 1 ∨ k = 2 ∨ k = 3 ∨ k = 4 ∨ k = 5 ∨ k = 6 ∨ k = 7) with rfl | rfl | rfl | rfl | rfl | rfl | rfl | rfl
    all_goals
      refine ((World.grownBy_alloc (w1.alloc (.cells rulesA 147)) (.cells #[.int .i64 0] 3) none).trans (World.grownBy_alloc _ _ none)).cell (a := ⟨w1.heap.size, _, none⟩) ?_ (by simp)
      simp [rulesA]
  · have h1 := heap_alloc_new ((w1.alloc (.cells rulesA 147)).alloc (.cells #[.int .i64 0] 3)) (.cells #[.func (.func 81) #[] #[.pointer (some ⟨w1.heap.size + 1, 0, none⟩), .pointer (some ⟨pv, 0, none⟩), .pointer (some ⟨w1.heap.size, 0, none⟩), .pointer (some ⟨w1.heap.size + 1 + 1, 0, none⟩)]] 133)
    rw [show ((w1.alloc (.cells rulesA 147)).alloc (.cells #[.int .i64 0] 3)).heap.size = w1.heap.size + 1 + 1 by simp] at h1
    unfold World.cell?
    rw [h1]
    rfl
  · exact hcv.below ((((Below.refl _ _).alloc (Nat.le_refl _) _).alloc (by simp) _).alloc (by simp; omega) _)
  · unfold At
    have h1 := heap_alloc_new (w1.alloc (.cells rulesA 147)) (.cells #[.int .i64 0] 3)
    have h2 : (w1.alloc (.cells rulesA 147)).heap.size = w1.heap.size + 1 := by simp
    rw [h2] at h1
    rw [(World.grownBy_alloc _ _ none).block _ (by simp) (by simp)]
    exact h1
set_option maxRecDepth 20000 in
set_option maxHeartbeats 1000000 in
theorem check_main (a : Option Addr) (n cap : Nat) (g : Nat → CR) (w : World) (hv : CV w a n g) (hcw : CW n g) (h0 : 0 < n) (hn : n ≤ 2048) (he : em (g 0).nm = true) : Calls Tryz.prog 66 #[.slice a n cap] w fun e w' => e = .returned (.int .i64 (eC (decide (wk g n 16 0 = some n)))) ∧ Below w.heap.size w w' := by
  have h1 : ¬ (2048 : Int) < (n : Int) := by omega
  have h2 : ((n : Int) == 0) = false := by rw [beq_eq_false_iff_ne]; omega
  have h3 : (0 : Int) < n := by omega
  have HV := Lib.hid hv
  obtain ⟨b, off, rfl, hb, _, c1, _, _, _⟩ := hv 0 h0
  rw [em_yes he, Nat.zero_mul, Nat.add_zero] at c1
  have HC := Lib.hid (fun pa pv pr pw W => cwalk_any (pa := pa) (pv := pv) (pr := pr) (pw := pw) (a := some ⟨b, off, none⟩) (cap := cap) hcw hn 16 0 (by decide) (by decide) 0 W)
  obtain ⟨res, hres⟩ : ∃ x, x = wk g n 16 0 := ⟨_, rfl⟩
  rw [← hres] at HC ⊢
  clear hres he
  obtain ⟨z, hz⟩ : ∃ z, z = eC (decide (res = some n)) := ⟨_, rfl⟩
  rw [← hz]
  replace hz := Lib.hid hz
  have hmf : ∀ (fn : Fn) (first cap : Array Value) (w : World), (Instr.makeFunc fn first cap).run Tryz.prog w = .ok (.func fn first cap) w := fun _ _ _ _ => rfl
  go_enter Tryz.func66, Tryz.ntmps66
  go_wp2_with fail
  with_reducible refine (rules_any _).mono ?_
  rintro e w1 ⟨rfl, b1⟩
  have B1 := Lib.hid (((Below.refl w.heap.size w).alloc (Nat.le_refl _) (.cells #[.slice (some ⟨b, off, none⟩) n cap] 37)).trans (b1.mono (by simp)))
  have v1 : w1.cell? ⟨w.heap.size, 0, none⟩ = some (.slice (some ⟨b, off, none⟩) n cap) := by rw [b1.cell (p := ⟨w.heap.size, 0, none⟩) (by simp)]; simp
  clear b1
  unfold rulesA
  go_wp2_with fail
  have HE := Lib.hid (env_of w1 w.heap.size (some ⟨b, off, none⟩) n cap g v1 (HV.out.same B1.out.size (fun b' off' e hl => B1.out.block b' hl)) (fun b' off' e => by cases e; have := B1.out.size; omega))
  have HL := Lib.hid (show w.heap.size < w1.heap.size from World.block_lt_of_cell? _ _ v1)
  unfold rulesA at HE
  have BX : Hid (Below w.heap.size w (((w1.alloc (.cells #[.func (.func (fo 0)) #[] #[], .func (.func (fo 1)) #[] #[], .func (.func (fo 2)) #[] #[], .func (.func (fo 3)) #[] #[], .func (.func (fo 4)) #[] #[], .func (.func (fo 5)) #[] #[], .func (.func (fo 6)) #[] #[], .func (.func (fo 7)) #[] #[]] 147)).alloc (.cells #[.int .i64 0] 3)).alloc (.cells #[.func (.func 81) #[] #[.pointer (some ⟨w1.heap.size + 1, 0, none⟩), .pointer (some ⟨w.heap.size, 0, none⟩), .pointer (some ⟨w1.heap.size, 0, none⟩), .pointer (some ⟨w1.heap.size + 1 + 1, 0, none⟩)]] 133))) := Lib.hid (((B1.out.alloc B1.out.size _).alloc (by have := B1.out.size; simp; omega) _).alloc (by have := B1.out.size; simp; omega) _)
  clear HV hcw v1 hmf B1 hv
  obtain ⟨X, hX⟩ : ∃ x, x = ((w1.alloc (.cells #[.func (.func (fo 0)) #[] #[], .func (.func (fo 1)) #[] #[], .func (.func (fo 2)) #[] #[], .func (.func (fo 3)) #[] #[], .func (.func (fo 4)) #[] #[], .func (.func (fo 5)) #[] #[], .func (.func (fo 6)) #[] #[], .func (.func (fo 7)) #[] #[]] 147)).alloc (.cells #[.int .i64 0] 3)).alloc (.cells #[.func (.func 81) #[] #[.pointer (some ⟨w1.heap.size + 1, 0, none⟩), .pointer (some ⟨w.heap.size, 0, none⟩), .pointer (some ⟨w1.heap.size, 0, none⟩), .pointer (some ⟨w1.heap.size + 1 + 1, 0, none⟩)]] 133) := ⟨_, rfl⟩
  rw [← hX] at HE BX ⊢
  clear hX
  have K := HC.out _ _ _ _ X HE.out.1 HE.out.2 (Nat.zero_le _)
  with_reducible refine K.mono ?_
  rintro e w2 ⟨rfl, g2, q, A2, hq⟩
  have c2 := A2.c
  have c3 := (HE.out.1.up g2).v
  have B2 : Hid (Below w.heap.size w w2) := Lib.hid (BX.out.trans ⟨g2.os, g2.tape, g2.output, g2.size, fun k hk => g2.block k (Nat.lt_of_lt_of_le hk BX.out.size) (fun e => by cases e; have := HL.out; omega)⟩)
  replace HE := trivial
  cases res with
  | none =>
    have hv' : Hid (z = 8) := Lib.hid (by rw [hz.out]; simp [eC])
    clear hq g2 A2 K hz HC BX
    rw [show (none : Option Nat).isSome = false from rfl]
    go_wp2_with fail
    go_ret
    exact ⟨ret_int hv'.out.symm, B2.out⟩
  | some e1 =>
    obtain rfl := hq e1 rfl
    rw [show (some q : Option Nat).isSome = true from rfl]
    by_cases hqn : q = n
    · have hv' : Hid (z = 0) := Lib.hid (by rw [hz.out, hqn]; simp [eC])
      have g1 : ((q : Int) != (n : Int)) = false := by rw [hqn]; simp
      subst hqn
      clear hq g2 A2 K hz HC BX
      go_wp2_with fail
      go_ret
      exact ⟨ret_int hv'.out.symm, B2.out⟩
    · have hv' : Hid (z = 8) := Lib.hid (by rw [hz.out]; simp [eC, hqn])
      have g1 : ((q : Int) != (n : Int)) = true := by simp; omega
      clear hq g2 A2 K hz HC BX
      go_wp2_with fail
      go_ret
      exact ⟨ret_int hv'.out.symm, B2.out⟩
theorem cCheck_any (a : Option Addr) (n cap : Nat) (g : Nat → CR) (w : World) (hv : CV w a n g) (hcw : CW n g) : Calls Tryz.prog 66 #[.slice a n cap] w fun e w' => e = .returned (.int .i64 (eC (ckC g n))) ∧ Below w.heap.size w w' := by
  by_cases h0 : n = 0
  · subst h0
    rw [show eC (ckC g 0) = 8 from rfl]
    exact check_zero a cap w
  · by_cases hn : 2048 < n
    · have : ckC g n = false := by unfold ckC; rw [decide_eq_false (show ¬ n ≤ 2048 by omega)]; simp
      rw [this]
      exact check_great a n cap w hn
    · cases he : em (g 0).nm with
      | false =>
        have : ckC g n = false := by unfold ckC; rw [he]; simp
        rw [this]
        exact check_named a n cap g w hv (by omega) (by omega) he
      | true =>
        have : ckC g n = decide (wk g n 16 0 = some n) := by unfold ckC; rw [he, decide_eq_true (show 0 < n by omega), decide_eq_true (show n ≤ 2048 by omega)]; simp
        rw [this]
        exact check_main a n cap g w hv hcw (by omega) (by omega) he
end Go.Proofs.YtmkkckhfdafjnaaGreatDoor
/- Layer 3: skip, place, End. -/
namespace Go.Proofs.YtmkkckhfdafjnaaGreatDoor
open Go.RowKit Go.Maps
theorem CV.at_ {w : World} {b off n : Nat} {g : Nat → CR} (h : CV w (some ⟨b, off, none⟩) n g) {i : Nat} (hi : i < n) : b < w.heap.size ∧ w.cell? ⟨b, off + i * 5, none⟩ = some (.int .u8 (g i).k) ∧ w.cell? ⟨b, off + i * 5 + 1, none⟩ = some (.string (g i).nm) ∧ w.cell? ⟨b, off + i * 5 + 2, none⟩ = some (.string (g i).tx) ∧ w.cell? ⟨b, off + i * 5 + 3, none⟩ = some (.int .i64 (g i).n) ∧ w.cell? ⟨b, off + i * 5 + 4, none⟩ = some (.int .i64 (g i).m) := by
  obtain ⟨b', off', e, k⟩ := h i hi
  cases e
  exact k
theorem CV.addr {w : World} {a : Option Addr} {n : Nat} {g : Nat → CR} (h : CV w a n g) (h0 : 0 < n) : ∃ b off, a = some ⟨b, off, none⟩ := by
  obtain ⟨b, off, e, _⟩ := h 0 h0
  exact ⟨b, off, e⟩
theorem ck_at {g : Nat → CR} {n p : Nat} (h : ckC g n = true) (hp : p < n) : wk g n 16 p = some (nx g n p) ∧ nx g n p ≤ n := by
  obtain ⟨_, _, _, h4⟩ := ckC_parts h
  obtain ⟨e', k1, k2⟩ := wk_at _ _ _ h4 p (Nat.zero_le _) hp
  rw [nx_some k1]
  exact ⟨k1, k2⟩
/-- The error of a place. -/
def plE (g : Nat → CR) (n : Nat) (p : Int) : Int := if ckC g n = true then (if 0 ≤ p ∧ p < n then 0 else 2) else 8
theorem pl_ok {g : Nat → CR} {n p : Nat} (hc : ckC g n = true) (hp : p < n) : plE g n (p : Nat) = 0 := by unfold plE; rw [if_pos hc, if_pos (by omega)]
end Go.Proofs.YtmkkckhfdafjnaaGreatDoor
/- Layer 3: kids, Kids, Member. -/
namespace Go.Proofs.YtmkkckhfdafjnaaGreatDoor
open Go.RowKit Go.Maps
theorem infoI : ∃ i, Tryz.prog.info? 3 = some i ∧ i.zero = some (.int .i64 0) ∧ i.size = 1 ∧ i.bytes = 8 := by
  have h := Tryz.typeInfo3 default
  unfold typeInfo at h
  cases hq : Tryz.prog.info? 3 with
  | none => simp [hq] at h
  | some i =>
    simp [hq] at h
    exact ⟨i, rfl, by rw [h]; rfl, by rw [h]; rfl, by rw [h]; rfl⟩
theorem news_at (w : World) (cs : Array Value) (t : TypeId) (L : List Value) (h : cs.toList = L) : ∀ j u, L[j]? = some u → (w.alloc (.cells cs t)).cell? ((⟨w.heap.size, 0, none⟩ : Addr).add j) = some u := by
  subst h
  intro j u hj
  simp only [Addr.add_lit, Nat.zero_add, World.cell?, heap_alloc_new]
  simpa using hj
def bdL (g : Nat → CR) (n a m : Nat) : List Value := (List.range m).map fun i => .int .i64 (bd g n a i : Nat)
theorem bdL_succ (g : Nat → CR) (n a m : Nat) : bdL g n a (m + 1) = bdL g n a m ++ [.int .i64 (bd g n a m : Nat)] := by unfold bdL; rw [List.range_succ, List.map_append]; rfl
theorem bdL_len (g : Nat → CR) (n a m : Nat) : (bdL g n a m).length = m := by simp [bdL]
/-- A row of places. -/
def IV (w : World) (a : Option Addr) (m : Nat) (f : Nat → Nat) : Prop := ∀ i, i < m → ∃ b off, a = some ⟨b, off, none⟩ ∧ b < w.heap.size ∧ w.cell? ⟨b, off + i, none⟩ = some (.int .i64 (f i : Nat))
theorem IV.below {w w' : World} {a : Option Addr} {m : Nat} {f : Nat → Nat} (h : IV w a m f) (hb : Below w.heap.size w w') : IV w' a m f := fun i hi => by
  obtain ⟨b, off, e, h1, h2⟩ := h i hi
  exact ⟨b, off, e, Nat.lt_of_lt_of_le h1 hb.size, (hb.cell (p := ⟨b, _, none⟩) h1).trans h2⟩
theorem own_iv {w : World} {B m : Nat} {v : Value} {g : Nat → CR} {n a : Nat} (h : w.ownsRow B 3 1 v m (bdL g n a m)) : ∃ ad cap, v = .slice ad m cap ∧ IV w ad m (bd g n a) ∧ (∀ b off, ad = some ⟨b, off, none⟩ → B ≤ b) := by
  rcases h.2 with ⟨rfl, hn⟩ | ⟨q, cap, cur, rfl, hg, hgg, h1, h2, h3, h4⟩
  · subst hn
    exact ⟨none, 0, rfl, fun i hi => by omega, fun b off e => by cases e⟩
  · refine ⟨some ⟨q, 0, none⟩, cap, rfl, fun k hk => ⟨q, 0, rfl, (Array.getElem?_eq_some_iff.1 hgg).1, ?_⟩, fun b off e => by cases e; exact hg⟩
    rw [Nat.zero_add, h.cellAt k (by omega)]
    unfold bdL
    rw [List.getElem?_map, List.getElem?_range hk]
    rfl
/-- The first of some places whose cell has that name. -/
def mbF (g : Nat → CR) (s : ByteArray) (f : Nat → Nat) (m : Nat) : Option Nat := ((List.range m).map f).find? fun q => decide ((g q).nm = s)
theorem mbF_none {g : Nat → CR} {s : ByteArray} {f : Nat → Nat} {m : Nat} (h : ∀ j, j < m → (g (f j)).nm ≠ s) : mbF g s f m = none := by
  unfold mbF
  rw [List.find?_eq_none]
  intro q hq
  obtain ⟨j, hj, rfl⟩ := List.mem_map.1 hq
  simpa using h j (List.mem_range.1 hj)
theorem mbF_some {g : Nat → CR} {s : ByteArray} {f : Nat → Nat} {m i : Nat} (hi : i < m) (h : ∀ j, j < i → (g (f j)).nm ≠ s) (hs : (g (f i)).nm = s) : mbF g s f m = some (f i) := by
  unfold mbF
  have e : List.range m = List.range i ++ (i :: (List.range (m - (i + 1))).map (fun x => i + 1 + x)) := by
    apply List.ext_getElem (by simp; omega)
    intro k h1 h2
    rw [List.getElem_range]
    by_cases hk : k < i
    · rw [List.getElem_append_left (by simpa using hk)]; simp
    · rw [List.getElem_append_right (by simpa using hk)]
      by_cases e : k = i
      · subst e; simp
      · simp only [List.length_range]
        rw [List.getElem_cons]
        rw [dif_neg (by omega)]
        simp; omega
  rw [e, List.map_append, List.find?_append]
  rw [show ((List.range i).map f).find? (fun q => decide ((g q).nm = s)) = none from mbF_none h]
  simp [hs]
theorem str_is {x y : ByteArray} : (x.toList == y.toList) = decide (x = y) := by
  rw [Bool.eq_iff_iff, beq_iff_eq, decide_eq_true_eq, ByteArray.toList_eq, ByteArray.toList_eq, Array.toList_inj]
  exact ⟨fun h => ByteArray.ext h, fun h => by rw [h]⟩
/-- What Member finds. -/
def memP (g : Nat → CR) (n : Nat) (p : Int) (s : ByteArray) : Option Nat := if plE g n p = 0 ∧ (g p.toNat).k = 7 then mbF g s (bd g n (p.toNat + 1)) (g p.toNat).m.toNat else none
theorem ret_mb {x y : Nat} {b c : Bool} (h : x = y) (k : b = c) : Ending.returned (.tuple #[.int .i64 (x : Nat), .bool b]) = .returned (.tuple #[.int .i64 (y : Nat), .bool c]) := by rw [h, k]
end Go.Proofs.YtmkkckhfdafjnaaGreatDoor
/- Layer 3: rows of cells that a call made; the chapter's object; alive. -/
namespace Go.Proofs.YtmkkckhfdafjnaaGreatDoor
open Go.RowKit Go.Maps
def rw5 (L : List CR) : List Value := L.flatMap fun c => [.int .u8 c.k, .string c.nm, .string c.tx, .int .i64 c.n, .int .i64 c.m]
theorem rw5_nil : rw5 [] = [] := rfl
theorem rw5_cons (c : CR) (L : List CR) : rw5 (c :: L) = .int .u8 c.k :: .string c.nm :: .string c.tx :: .int .i64 c.n :: .int .i64 c.m :: rw5 L := rfl
theorem rw5_app (L M : List CR) : rw5 (L ++ M) = rw5 L ++ rw5 M := by unfold rw5; rw [List.flatMap_append]
theorem rw5_len : ∀ L : List CR, (rw5 L).length = L.length * 5
  | [] => rfl
  | c :: L => by rw [rw5_cons]; simp [rw5_len L]; omega
theorem rw5_at : ∀ (L : List CR) (i : Nat), i < L.length → (rw5 L)[i * 5]? = some (.int .u8 (gl L i).k) ∧ (rw5 L)[i * 5 + 1]? = some (.string (gl L i).nm) ∧ (rw5 L)[i * 5 + 2]? = some (.string (gl L i).tx) ∧ (rw5 L)[i * 5 + 3]? = some (.int .i64 (gl L i).n) ∧ (rw5 L)[i * 5 + 4]? = some (.int .i64 (gl L i).m)
  | [], i, h => by simp at h
  | c :: L, 0, h => by
    rw [rw5_cons]
    exact ⟨rfl, rfl, rfl, rfl, rfl⟩
  | c :: L, i + 1, h => by
    have ih := rw5_at L i (by simpa using h)
    rw [rw5_cons, show (i + 1) * 5 = i * 5 + 5 by omega]
    exact ih
theorem cv_of {w : World} {q n : Nat} {L : List CR} (hl : L.length = n) (hq : q < w.heap.size) (h : ∀ j, j < n * 5 → w.cell? ⟨q, j, none⟩ = (rw5 L)[j]?) : CV w (some ⟨q, 0, none⟩) n (gl L) := fun i hi => by
  obtain ⟨a0, a1, a2, a3, a4⟩ := rw5_at L i (by omega)
  exact ⟨q, 0, rfl, hq, by rw [Nat.zero_add, h _ (by omega)]; exact a0, by rw [Nat.zero_add, h _ (by omega)]; exact a1, by rw [Nat.zero_add, h _ (by omega)]; exact a2, by rw [Nat.zero_add, h _ (by omega)]; exact a3, by rw [Nat.zero_add, h _ (by omega)]; exact a4⟩
theorem cv_block {w : World} {q : Nat} {cs : Array Value} {t : TypeId} {L : List CR} (hb : w.heap[q]? = some (.cells cs t)) (hc : cs.toList = rw5 L) : CV w (some ⟨q, 0, none⟩) L.length (gl L) :=
  cv_of rfl (Array.getElem?_eq_some_iff.1 hb).1 fun j hj => by
    unfold World.cell?
    rw [hb, ← hc, Array.getElem?_toList]
    rfl
theorem own_cv {w : World} {B n : Nat} {v : Value} {L : List CR} (hl : L.length = n) (h : w.ownsRow B 46 5 v n (rw5 L)) : ∃ ad cap, v = .slice ad n cap ∧ CV w ad n (gl L) ∧ (∀ b off, ad = some ⟨b, off, none⟩ → B ≤ b) ∧ (n = 0 → ad = none ∨ True) := by
  rcases h.2 with ⟨rfl, hn⟩ | ⟨q, cap, cur, rfl, hg, hgg, h1, h2, h3, h4⟩
  · subst hn
    exact ⟨none, 0, rfl, fun i hi => by omega, fun b off e => by (cases e), fun _ => .inl rfl⟩
  · exact ⟨some ⟨q, 0, none⟩, cap, rfl, cv_of hl (Array.getElem?_eq_some_iff.1 hgg).1 (fun j hj => h.cellAt j hj), fun b off e => by (cases e; exact hg), fun _ => .inr trivial⟩
def fiveL : List CR := [⟨7, ⟨#[]⟩, ⟨#[]⟩, 0, 2⟩, ⟨2, ⟨#[97]⟩, ⟨#[]⟩, 1, 0⟩, ⟨6, ⟨#[98]⟩, ⟨#[]⟩, 0, 2⟩, ⟨0, ⟨#[]⟩, ⟨#[]⟩, 0, 0⟩, ⟨3, ⟨#[]⟩, ⟨#[120]⟩, 0, 0⟩]
theorem five_ck : ckC (gl fiveL) 5 = true := by decide +kernel
theorem five_cw : CW 5 (gl fiveL) := by
  intro i hi
  rcases (by omega : i = 0 ∨ i = 1 ∨ i = 2 ∨ i = 3 ∨ i = 4) with rfl | rfl | rfl | rfl | rfl <;> exact ⟨by decide, by decide, by decide, by decide, by decide⟩
end Go.Proofs.YtmkkckhfdafjnaaGreatDoor
/- Layer 3: alive. -/
namespace Go.Proofs.YtmkkckhfdafjnaaGreatDoor
open Go.RowKit Go.Maps
end Go.Proofs.YtmkkckhfdafjnaaGreatDoor
/- Layer 3: append onto a row that is kept; CellNames. -/
namespace Go.Proofs.YtmkkckhfdafjnaaGreatDoor
open Go.RowKit Go.Maps
section
variable {P : Program}
theorem own_part {w : World} {base : Nat} {e : TypeId} {size g n m cap : Nat} {xs news : List Value} (hx : xs.length = n * size) (h : w.ownsRow base e size (.slice (some ⟨g, 0, none⟩) (n + m) cap) (n + m) (xs ++ news)) : w.ownsRow base e size (.slice (some ⟨g, 0, none⟩) n cap) n xs := by
  refine ⟨hx, ?_⟩
  rcases h.2 with ⟨h', _⟩ | ⟨g', cap', cur, h', hb, hg, h1, h2, h3, h4⟩
  · simp at h'
  · simp only [Value.slice.injEq, Option.some.injEq, Addr.mk.injEq, and_true, true_and] at h'
    obtain ⟨rfl, rfl⟩ := h'
    refine .inr ⟨g, cap, cur, rfl, hb, hg, by omega, h2, h3, ?_⟩
    have : cur.toList.take (n * size) = (cur.toList.take ((n + m) * size)).take (n * size) := by
      rw [List.take_take, Nat.min_eq_left (Nat.mul_le_mul_right _ (by omega))]
    rw [this, h4, ← hx, List.take_left]
theorem run_append_keep (w : World) (base : Nat) (t ty e : TypeId) (i : TypeInfo) (z : Value) (size bytes : Nat) (ht : P.underlying t = some (.slice e)) (hi : P.info? e = some i) (hz : i.zero = some z)
    (hsize : i.size = size) (hby : i.bytes = bytes) (hzs : z.cells.size = size) (hsz : 0 < size)
    (v : Value) (n : Nat) (xs : List Value) (hown : w.ownsRow base e size v n xs) (hn0 : 0 < n)
    (a : Addr) (m c : Nat) (news : List Value) (hl : news.length = m * size) (hnews : ∀ j u, news[j]? = some u → w.cell? (a.add j) = some u) (h1 : ∀ u ∈ news, u.oneCell' = true)
    (h63 : n + m ≤ maxLen) (hbytes : (n + m) * bytes ≤ 140737488355328) (hbase : base ≤ w.heap.size) :
    ∃ v' w', (Builtin.append_ #[t, t] ty #[v, .slice (some a) m c]).run P w = .ok v' w' ∧ w'.ownsRow base e size v' (n + m) (xs ++ news) ∧ w'.ownsRow base e size v n xs ∧ w.grownBy w' v.ownBlock := by
  rcases hown.2 with ⟨_, h0⟩ | ⟨g, cap, cur, rfl, hbg, hg, hnc, hcm, hcs, htake⟩
  · omega
  · by_cases hr : n + m ≤ cap
    · obtain ⟨w', r1, r2, r3⟩ := run_append_fits (P := P) w base t ty e i size ht hi hsize g n cap xs hown a m c news hl hnews h1 hr
      exact ⟨_, w', r1, r2, own_part hown.1 r2, by simpa [Value.ownBlock] using r3⟩
    · obtain ⟨v', w', r1, r2, r3⟩ := run_append_arg_grows (P := P) w t ty e i z size bytes ht hi hz hsize hby hzs hsz ⟨g, 0, none⟩ n cap xs hown.1 (fun j u hj => by
        rw [Addr.add_lit, Nat.zero_add, hown.cellAt j (by rw [← hown.1]; exact (List.getElem?_eq_some_iff.1 hj).1)]; exact hj) a m c news hl hnews (by omega) h63 hbytes
      refine ⟨v', w', r1, ?_, hown.kept r3 (.inr (by simp [Value.ownBlock])), ⟨r3.os, r3.tape, r3.output, r3.size, fun k hk _ => r3.block k hk (by simp)⟩⟩
      refine ⟨r2.1, ?_⟩
      rcases r2.2 with h | ⟨g', cap', cur', e', hb', rest⟩
      · exact .inl h
      · exact .inr ⟨g', cap', cur', e', Nat.le_trans hbase hb', rest⟩
theorem wpList_append_keep {w : World} {ops : Array Oper} {rest : List Oper} {o : Oper} {a : Act} {Q : Exit → Act → World → Prop} (hgd : Region.wanted o (yielded ops a.tmps) = true)
    (s x : Operand) (t : TypeId) (hop : o.op = Op.call { callee := Callee.builtin Builtin.append, args := #[s, x], argTypes := #[t, t] })
    (base : Nat) (e : TypeId) (i : TypeInfo) (z : Value) (size bytes : Nat) (ht : P.underlying t = some (.slice e)) (hi : P.info? e = some i) (hz : i.zero = some z)
    (hsize : i.size = size) (hby : i.bytes = bytes) (hzs : z.cells.size = size) (hsz : 0 < size)
    (v : Value) (n : Nat) (xs : List Value) (hs : a.eval s = v) (hown : w.ownsRow base e size v n xs) (hn0 : 0 < n)
    (ad : Addr) (m c : Nat) (news : List Value) (hx : a.eval x = .slice (some ad) m c) (hl : news.length = m * size) (hnews : ∀ j u, news[j]? = some u → w.cell? (ad.add j) = some u) (h1 : ∀ u ∈ news, u.oneCell' = true)
    (h63 : n + m ≤ maxLen) (hbytes : (n + m) * bytes ≤ 140737488355328) (hbase : base ≤ w.heap.size)
    (hK : ∀ v' w', w'.ownsRow base e size v' (n + m) (xs ++ news) → w'.ownsRow base e size v n xs → w.grownBy w' v.ownBlock → wpList P ops Q rest (a.put o.dst v') w') :
    wpList P ops Q (o :: rest) a w := by
  refine wpList_step fun K hK' => ?_
  rw [if_pos hgd]
  obtain ⟨v', w', hrun, r1, r2, r3⟩ := run_append_keep (P := P) w base t o.type e i z size bytes ht hi hz hsize hby hzs hsz v n xs hown hn0 ad m c news hl hnews h1 h63 hbytes hbase
  unfold Oper.wp
  simp [execOp, hop, resolve, invoke, builtin, hs, hx, hrun, Result.andThen]
  exact hK' _ _ (hK v' w' r1 r2 r3)
end
theorem infoC : ∃ i, Tryz.prog.info? 46 = some i ∧ i.zero = some (.agg #[.int .u8 0, .string ⟨#[]⟩, .string ⟨#[]⟩, .int .i64 0, .int .i64 0]) ∧ i.size = 5 ∧ i.bytes = 56 := by
  have h := Tryz.typeInfo46 default
  unfold typeInfo at h
  cases hq : Tryz.prog.info? 46 with
  | none => simp [hq] at h
  | some i =>
    simp [hq] at h
    exact ⟨i, rfl, by rw [h]; rfl, by rw [h]; rfl, by rw [h]; rfl⟩
def c6 : CR := ⟨6, ⟨#[]⟩, ⟨#[]⟩, 0, 1⟩
def c0 : CR := ⟨0, ⟨#[]⟩, ⟨#[]⟩, 0, 0⟩
def c60 : CR := ⟨6, ⟨#[]⟩, ⟨#[]⟩, 0, 0⟩
def deepL (i : Nat) : List CR := List.replicate i c6
theorem deep_succ (i : Nat) : rw5 (deepL (i + 1)) = rw5 (deepL i) ++ [.int .u8 6, .string ⟨#[]⟩, .string ⟨#[]⟩, .int .i64 0, .int .i64 1] := by
  unfold deepL
  rw [List.replicate_succ', rw5_app]; rfl
theorem cw_small {L : List CR} {n : Nat} (hn : n = L.length) (h : ∀ c ∈ L, c.k < 256 ∧ c.nm.size ≤ maxLen ∧ c.tx.size ≤ 1000000 ∧ -9223372036854775808 ≤ c.m ∧ c.m ≤ 9223372036854775807) : CW n (gl L) := fun i hi => by
  have : gl L i ∈ L := by
    unfold gl
    rw [List.getD_eq_getElem?_getD, List.getElem?_eq_getElem (by omega)]
    exact List.getElem_mem _
  exact h _ this
theorem c6_ok : c6.k < 256 ∧ c6.nm.size ≤ maxLen ∧ c6.tx.size ≤ 1000000 ∧ -9223372036854775808 ≤ c6.m ∧ c6.m ≤ 9223372036854775807 := by refine ⟨?_, ?_, ?_, ?_, ?_⟩ <;> decide
theorem c0_ok : c0.k < 256 ∧ c0.nm.size ≤ maxLen ∧ c0.tx.size ≤ 1000000 ∧ -9223372036854775808 ≤ c0.m ∧ c0.m ≤ 9223372036854775807 := by refine ⟨?_, ?_, ?_, ?_, ?_⟩ <;> decide
theorem c60_ok : c60.k < 256 ∧ c60.nm.size ≤ maxLen ∧ c60.tx.size ≤ 1000000 ∧ -9223372036854775808 ≤ c60.m ∧ c60.m ≤ 9223372036854775807 := by refine ⟨?_, ?_, ?_, ?_, ?_⟩ <;> decide
theorem check_lit (L : List CR) (n : Nat) (x : Int) (hn : L.length = n) (hcw : CW n (gl L)) (hx : eC (ckC (gl L) n) = x) (a : Option Addr) (c : Nat) (w : World) (hv : CV w a n (gl L)) : Calls Tryz.prog 66 #[.slice a n c] w fun e w' => e = .returned (.int .i64 x) ∧ Below w.heap.size w w' := by
  rw [← hx]; exact cCheck_any a n c (gl L) w hv hcw
end Go.Proofs.YtmkkckhfdafjnaaGreatDoor

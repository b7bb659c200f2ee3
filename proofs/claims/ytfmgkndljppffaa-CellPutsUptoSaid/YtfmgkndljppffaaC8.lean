/- Layer 3: Check, whole. -/
import Derived.Test.YtfmgkndljppffaaC7
namespace Go.Proofs.Ytfmgkndljppffaa
open Go.RowKit Go.Maps
theorem env_of (w1 : World) (pv : Nat) (a : Option Addr) (n cap : Nat) (g : Nat → CR) (hv : w1.cell? ⟨pv, 0, none⟩ = some (.slice a n cap)) (hcv : CV w1 a n g) (ha : ∀ b off, a = some ⟨b, off, none⟩ → b < w1.heap.size) :
    Env (((w1.alloc (.cells rulesA 64)).alloc (.cells #[.int .i64 0] 3)).alloc (.cells #[.func (.func 36) #[] #[.pointer (some ⟨w1.heap.size + 1, 0, none⟩), .pointer (some ⟨pv, 0, none⟩), .pointer (some ⟨w1.heap.size, 0, none⟩), .pointer (some ⟨w1.heap.size + 1 + 1, 0, none⟩)]] 66)) (w1.heap.size + 1) pv w1.heap.size (w1.heap.size + 1 + 1) a n cap g ∧
    At (((w1.alloc (.cells rulesA 64)).alloc (.cells #[.int .i64 0] 3)).alloc (.cells #[.func (.func 36) #[] #[.pointer (some ⟨w1.heap.size + 1, 0, none⟩), .pointer (some ⟨pv, 0, none⟩), .pointer (some ⟨w1.heap.size, 0, none⟩), .pointer (some ⟨w1.heap.size + 1 + 1, 0, none⟩)]] 66)) (w1.heap.size + 1) 0 := by
  have hpv := World.block_lt_of_cell? _ _ hv
  have hpv' : pv < w1.heap.size := hpv
  refine ⟨⟨?_, ?_, ?_, ?_, by omega, by omega, by omega, fun b off e => by have := ha b off e; omega⟩, ?_⟩
  · have b3 : Below w1.heap.size w1 (((w1.alloc (.cells rulesA 64)).alloc (.cells #[.int .i64 0] 3)).alloc (.cells #[.func (.func 36) #[] #[.pointer (some ⟨w1.heap.size + 1, 0, none⟩), .pointer (some ⟨pv, 0, none⟩), .pointer (some ⟨w1.heap.size, 0, none⟩), .pointer (some ⟨w1.heap.size + 1 + 1, 0, none⟩)]] 66)) := (((Below.refl _ _).alloc (Nat.le_refl _) _).alloc (by simp) _).alloc (by simp; omega) _
    rw [b3.cell (p := ⟨pv, 0, none⟩) hpv]; exact hv
  · intro k hk
    rcases (by omega : k = 0 ∨ k = 1 ∨ k = 2 ∨ k = 3 ∨ k = 4 ∨ k = 5 ∨ k = 6 ∨ k = 7) with rfl | rfl | rfl | rfl | rfl | rfl | rfl | rfl
    all_goals
      refine ((World.grownBy_alloc (w1.alloc (.cells rulesA 64)) (.cells #[.int .i64 0] 3) none).trans (World.grownBy_alloc _ _ none)).cell (a := ⟨w1.heap.size, _, none⟩) ?_ (by simp)
      simp [rulesA]
  · have h1 := heap_alloc_new ((w1.alloc (.cells rulesA 64)).alloc (.cells #[.int .i64 0] 3)) (.cells #[.func (.func 36) #[] #[.pointer (some ⟨w1.heap.size + 1, 0, none⟩), .pointer (some ⟨pv, 0, none⟩), .pointer (some ⟨w1.heap.size, 0, none⟩), .pointer (some ⟨w1.heap.size + 1 + 1, 0, none⟩)]] 66)
    rw [show ((w1.alloc (.cells rulesA 64)).alloc (.cells #[.int .i64 0] 3)).heap.size = w1.heap.size + 1 + 1 by simp] at h1
    unfold World.cell?
    rw [h1]
    rfl
  · exact hcv.below ((((Below.refl _ _).alloc (Nat.le_refl _) _).alloc (by simp) _).alloc (by simp; omega) _)
  · unfold At
    have h1 := heap_alloc_new (w1.alloc (.cells rulesA 64)) (.cells #[.int .i64 0] 3)
    have h2 : (w1.alloc (.cells rulesA 64)).heap.size = w1.heap.size + 1 := by simp
    rw [h2] at h1
    rw [(World.grownBy_alloc _ _ none).block _ (by simp) (by simp)]
    exact h1
set_option maxRecDepth 20000 in
set_option maxHeartbeats 1000000 in
theorem check_main (a : Option Addr) (n cap : Nat) (g : Nat → CR) (w : World) (hv : CV w a n g) (hcw : CW n g) (h0 : 0 < n) (hn : n ≤ 2048) (he : em (g 0).nm = true) : Calls Try.prog 11 #[.slice a n cap] w fun e w' => e = .returned (.int .i64 (eC (decide (wk g n 16 0 = some n)))) ∧ Below w.heap.size w w' := by
  have h1 : ¬ (2048 : Int) < (n : Int) := by omega
  have h2 : ((n : Int) == 0) = false := by rw [beq_eq_false_iff_ne]; omega
  have h3 : (0 : Int) < n := by omega
  have HV := Lib.hid hv
  obtain ⟨b, off, rfl, hb, _, c1, _, _, _⟩ := hv 0 h0
  rw [em_yes he, Nat.zero_mul, Nat.add_zero] at c1
  have HC := Lib.hid (fun pa pv pr pw W => cwalk_any (pa := pa) (pv := pv) (pr := pr) (pw := pw) (a := some ⟨b, off, none⟩) (cap := cap) hcw hn 16 0 (by decide) (by decide) 0 W)
  obtain ⟨res, hres⟩ : ∃ x, x = wk g n 16 0 := ⟨_, rfl⟩
  rw [← hres] at HC ⊢
  clear hres he
  obtain ⟨z, hz⟩ : ∃ z, z = eC (decide (res = some n)) := ⟨_, rfl⟩
  rw [← hz]
  replace hz := Lib.hid hz
  have hmf : ∀ (fn : Fn) (first cap : Array Value) (w : World), (Instr.makeFunc fn first cap).run Try.prog w = .ok (.func fn first cap) w := fun _ _ _ _ => rfl
  go_enter Try.func11, Try.ntmps11
  go_wp2_with fail
  with_reducible refine (rules_any _).mono ?_
  rintro e w1 ⟨rfl, b1⟩
  have B1 := Lib.hid (((Below.refl w.heap.size w).alloc (Nat.le_refl _) (.cells #[.slice (some ⟨b, off, none⟩) n cap] 26)).trans (b1.mono (by simp)))
  have v1 : w1.cell? ⟨w.heap.size, 0, none⟩ = some (.slice (some ⟨b, off, none⟩) n cap) := by rw [b1.cell (p := ⟨w.heap.size, 0, none⟩) (by simp)]; simp
  clear b1
  unfold rulesA
  go_wp2_with fail
  have HE := Lib.hid (env_of w1 w.heap.size (some ⟨b, off, none⟩) n cap g v1 (HV.out.same B1.out.size (fun b' off' e hl => B1.out.block b' hl)) (fun b' off' e => by cases e; have := B1.out.size; omega))
  have HL := Lib.hid (show w.heap.size < w1.heap.size from World.block_lt_of_cell? _ _ v1)
  unfold rulesA at HE
  have BX : Hid (Below w.heap.size w (((w1.alloc (.cells #[.func (.func (fo 0)) #[] #[], .func (.func (fo 1)) #[] #[], .func (.func (fo 2)) #[] #[], .func (.func (fo 3)) #[] #[], .func (.func (fo 4)) #[] #[], .func (.func (fo 5)) #[] #[], .func (.func (fo 6)) #[] #[], .func (.func (fo 7)) #[] #[]] 64)).alloc (.cells #[.int .i64 0] 3)).alloc (.cells #[.func (.func 36) #[] #[.pointer (some ⟨w1.heap.size + 1, 0, none⟩), .pointer (some ⟨w.heap.size, 0, none⟩), .pointer (some ⟨w1.heap.size, 0, none⟩), .pointer (some ⟨w1.heap.size + 1 + 1, 0, none⟩)]] 66))) := Lib.hid (((B1.out.alloc B1.out.size _).alloc (by have := B1.out.size; simp; omega) _).alloc (by have := B1.out.size; simp; omega) _)
  clear HV hcw v1 hmf B1 hv
  obtain ⟨X, hX⟩ : ∃ x, x = ((w1.alloc (.cells #[.func (.func (fo 0)) #[] #[], .func (.func (fo 1)) #[] #[], .func (.func (fo 2)) #[] #[], .func (.func (fo 3)) #[] #[], .func (.func (fo 4)) #[] #[], .func (.func (fo 5)) #[] #[], .func (.func (fo 6)) #[] #[], .func (.func (fo 7)) #[] #[]] 64)).alloc (.cells #[.int .i64 0] 3)).alloc (.cells #[.func (.func 36) #[] #[.pointer (some ⟨w1.heap.size + 1, 0, none⟩), .pointer (some ⟨w.heap.size, 0, none⟩), .pointer (some ⟨w1.heap.size, 0, none⟩), .pointer (some ⟨w1.heap.size + 1 + 1, 0, none⟩)]] 66) := ⟨_, rfl⟩
  rw [← hX] at HE BX ⊢
  clear hX
  have K := HC.out _ _ _ _ X HE.out.1 HE.out.2 (Nat.zero_le _)
  with_reducible refine K.mono ?_
  rintro e w2 ⟨rfl, g2, q, A2, hq⟩
  have c2 := A2.c
  have c3 := (HE.out.1.up g2).v
  have B2 : Hid (Below w.heap.size w w2) := Lib.hid (BX.out.trans ⟨g2.os, g2.tape, g2.output, g2.size, fun k hk => g2.block k (Nat.lt_of_lt_of_le hk BX.out.size) (fun e => by cases e; have := HL.out; omega)⟩)
  replace HE := trivial
  cases res with
  | none =>
    have hv' : Hid (z = 8) := Lib.hid (by rw [hz.out]; simp [eC])
    clear hq g2 A2 K hz HC BX
    rw [show (none : Option Nat).isSome = false from rfl]
    go_wp2_with fail
    go_ret
    exact ⟨ret_int hv'.out.symm, B2.out⟩
  | some e1 =>
    obtain rfl := hq e1 rfl
    rw [show (some q : Option Nat).isSome = true from rfl]
    by_cases hqn : q = n
    · have hv' : Hid (z = 0) := Lib.hid (by rw [hz.out, hqn]; simp [eC])
      have g1 : ((q : Int) != (n : Int)) = false := by rw [hqn]; simp
      subst hqn
      clear hq g2 A2 K hz HC BX
      go_wp2_with fail
      go_ret
      exact ⟨ret_int hv'.out.symm, B2.out⟩
    · have hv' : Hid (z = 8) := Lib.hid (by rw [hz.out]; simp [eC, hqn])
      have g1 : ((q : Int) != (n : Int)) = true := by simp; omega
      clear hq g2 A2 K hz HC BX
      go_wp2_with fail
      go_ret
      exact ⟨ret_int hv'.out.symm, B2.out⟩
theorem cCheck_any (a : Option Addr) (n cap : Nat) (g : Nat → CR) (w : World) (hv : CV w a n g) (hcw : CW n g) : Calls Try.prog 11 #[.slice a n cap] w fun e w' => e = .returned (.int .i64 (eC (ckC g n))) ∧ Below w.heap.size w w' := by
  by_cases h0 : n = 0
  · subst h0
    rw [show eC (ckC g 0) = 8 from rfl]
    exact check_zero a cap w
  · by_cases hn : 2048 < n
    · have : ckC g n = false := by unfold ckC; rw [decide_eq_false (show ¬ n ≤ 2048 by omega)]; simp
      rw [this]
      exact check_great a n cap w hn
    · cases he : em (g 0).nm with
      | false =>
        have : ckC g n = false := by unfold ckC; rw [he]; simp
        rw [this]
        exact check_named a n cap g w hv (by omega) (by omega) he
      | true =>
        have : ckC g n = decide (wk g n 16 0 = some n) := by unfold ckC; rw [he, decide_eq_true (show 0 < n by omega), decide_eq_true (show n ≤ 2048 by omega)]; simp
        rw [this]
        exact check_main a n cap g w hv hcw (by omega) (by omega) he
end Go.Proofs.Ytfmgkndljppffaa

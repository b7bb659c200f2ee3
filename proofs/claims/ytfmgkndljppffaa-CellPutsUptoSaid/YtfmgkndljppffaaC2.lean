/- Layer 3: the checks of the kinds, by the kind's number; the array of them. -/
import Derived.Test.YtfmgkndljppffaaC1
namespace Go.Proofs.Ytfmgkndljppffaa
open Go.RowKit
theorem ck_yes {s : ByteArray} (h : ckB s = true) : ckE s = 0 := by unfold ckB at h; simpa using h
theorem ck_no {s : ByteArray} (h : ckB s = false) : ckE s ≠ 0 := by unfold ckB at h; simpa using h
set_option maxRecDepth 20000 in
theorem fit0 (c : CR) (w : World) : Calls Try.prog 49 #[cv c] w fun e w' => e = .returned (.bool ((em c.tx && decide (c.m = 0)) && (decide (c.n = 0)))) ∧ Below w.heap.size w w' := by
  obtain ⟨r, hr⟩ : ∃ r, r = ((em c.tx && decide (c.m = 0)) && (decide (c.n = 0))) := ⟨_, rfl⟩
  rw [← hr]
  obtain ⟨q, hq⟩ : ∃ q, q = (em c.tx && decide (c.m = 0)) := ⟨_, rfl⟩
  have HC := Lib.hid (bare_any c)
  rw [← hq] at HC hr
  clear hq
  obtain ⟨k, nm, tx, n, m⟩ := c
  unfold cv at HC ⊢
  simp only [] at hr HC ⊢
  cases q with
  | false =>
    have HB := Lib.hid (show r = false by rw [hr]; rfl)
    clear hr
    go_enter Try.func49, Try.ntmps49
    go_wp2_with fail
    with_reducible refine (HC.out _).mono ?_
    rintro e w1 ⟨rfl, b1⟩
    have B1 := Lib.hid (((Below.refl w.heap.size w).alloc (Nat.le_refl _) (.cells #[.int .u8 k, .string nm, .string tx, .int .i64 n, .int .i64 m] 32)).trans (b1.mono (by simp)))
    have c2 : w1.cell? ⟨w.heap.size, 2, none⟩ = some (.string tx) := by rw [b1.cell (p := ⟨w.heap.size, 2, none⟩) (by simp)]; simp
    have c3 : w1.cell? ⟨w.heap.size, 3, none⟩ = some (.int .i64 n) := by rw [b1.cell (p := ⟨w.heap.size, 3, none⟩) (by simp)]; simp
    clear b1
    go_wp2_with fail
    go_ret
    exact ⟨ret_bool HB.out.symm, B1.out⟩
  | true =>
    by_cases h : n = 0
    · have HB := Lib.hid (show r = true by rw [hr, h]; rfl)
      subst h
      clear hr
      go_enter Try.func49, Try.ntmps49
      go_wp2_with fail
      with_reducible refine (HC.out _).mono ?_
      rintro e w1 ⟨rfl, b1⟩
      have B1 := Lib.hid (((Below.refl w.heap.size w).alloc (Nat.le_refl _) (.cells #[.int .u8 k, .string nm, .string tx, .int .i64 0, .int .i64 m] 32)).trans (b1.mono (by simp)))
      have c2 : w1.cell? ⟨w.heap.size, 2, none⟩ = some (.string tx) := by rw [b1.cell (p := ⟨w.heap.size, 2, none⟩) (by simp)]; simp
      have c3 : w1.cell? ⟨w.heap.size, 3, none⟩ = some (.int .i64 0) := by rw [b1.cell (p := ⟨w.heap.size, 3, none⟩) (by simp)]; simp
      clear b1
      go_wp2_with fail
      go_ret
      exact ⟨ret_bool HB.out.symm, B1.out⟩
    · have HB := Lib.hid (show r = false by rw [hr, decide_eq_false h]; rfl)
      have g : (n == 0) = false := by rw [beq_eq_false_iff_ne]; exact h
      clear hr h
      go_enter Try.func49, Try.ntmps49
      go_wp2_with fail
      with_reducible refine (HC.out _).mono ?_
      rintro e w1 ⟨rfl, b1⟩
      have B1 := Lib.hid (((Below.refl w.heap.size w).alloc (Nat.le_refl _) (.cells #[.int .u8 k, .string nm, .string tx, .int .i64 n, .int .i64 m] 32)).trans (b1.mono (by simp)))
      have c2 : w1.cell? ⟨w.heap.size, 2, none⟩ = some (.string tx) := by rw [b1.cell (p := ⟨w.heap.size, 2, none⟩) (by simp)]; simp
      have c3 : w1.cell? ⟨w.heap.size, 3, none⟩ = some (.int .i64 n) := by rw [b1.cell (p := ⟨w.heap.size, 3, none⟩) (by simp)]; simp
      clear b1
      go_wp2_with fail
      go_ret
      exact ⟨ret_bool HB.out.symm, B1.out⟩
set_option maxRecDepth 20000 in
theorem fit1 (c : CR) (w : World) : Calls Try.prog 51 #[cv c] w fun e w' => e = .returned (.bool ((em c.tx && decide (c.m = 0)) && (decide (c.n = 0) || decide (c.n = 1)))) ∧ Below w.heap.size w w' := by
  obtain ⟨r, hr⟩ : ∃ r, r = ((em c.tx && decide (c.m = 0)) && (decide (c.n = 0) || decide (c.n = 1))) := ⟨_, rfl⟩
  rw [← hr]
  obtain ⟨q, hq⟩ : ∃ q, q = (em c.tx && decide (c.m = 0)) := ⟨_, rfl⟩
  have HC := Lib.hid (bare_any c)
  rw [← hq] at HC hr
  clear hq
  obtain ⟨k, nm, tx, n, m⟩ := c
  unfold cv at HC ⊢
  simp only [] at hr HC ⊢
  cases q with
  | false =>
    have HB := Lib.hid (show r = false by rw [hr]; rfl)
    clear hr
    go_enter Try.func51, Try.ntmps51
    go_wp2_with fail
    with_reducible refine (HC.out _).mono ?_
    rintro e w1 ⟨rfl, b1⟩
    have B1 := Lib.hid (((Below.refl w.heap.size w).alloc (Nat.le_refl _) (.cells #[.int .u8 k, .string nm, .string tx, .int .i64 n, .int .i64 m] 32)).trans (b1.mono (by simp)))
    have c2 : w1.cell? ⟨w.heap.size, 2, none⟩ = some (.string tx) := by rw [b1.cell (p := ⟨w.heap.size, 2, none⟩) (by simp)]; simp
    have c3 : w1.cell? ⟨w.heap.size, 3, none⟩ = some (.int .i64 n) := by rw [b1.cell (p := ⟨w.heap.size, 3, none⟩) (by simp)]; simp
    clear b1
    go_wp2_with fail
    go_ret
    exact ⟨ret_bool HB.out.symm, B1.out⟩
  | true =>
    by_cases h : n = 0
    · have HB := Lib.hid (show r = true by rw [hr, h]; rfl)
      subst h
      clear hr
      go_enter Try.func51, Try.ntmps51
      go_wp2_with fail
      with_reducible refine (HC.out _).mono ?_
      rintro e w1 ⟨rfl, b1⟩
      have B1 := Lib.hid (((Below.refl w.heap.size w).alloc (Nat.le_refl _) (.cells #[.int .u8 k, .string nm, .string tx, .int .i64 0, .int .i64 m] 32)).trans (b1.mono (by simp)))
      have c2 : w1.cell? ⟨w.heap.size, 2, none⟩ = some (.string tx) := by rw [b1.cell (p := ⟨w.heap.size, 2, none⟩) (by simp)]; simp
      have c3 : w1.cell? ⟨w.heap.size, 3, none⟩ = some (.int .i64 0) := by rw [b1.cell (p := ⟨w.heap.size, 3, none⟩) (by simp)]; simp
      clear b1
      go_wp2_with fail
      go_ret
      exact ⟨ret_bool HB.out.symm, B1.out⟩
    · have g : (n == 0) = false := by rw [beq_eq_false_iff_ne]; exact h
      by_cases h1 : n = 1
      · have HB := Lib.hid (show r = true by rw [hr, h1]; rfl)
        subst h1
        clear hr h g
        go_enter Try.func51, Try.ntmps51
        go_wp2_with fail
        with_reducible refine (HC.out _).mono ?_
        rintro e w1 ⟨rfl, b1⟩
        have B1 := Lib.hid (((Below.refl w.heap.size w).alloc (Nat.le_refl _) (.cells #[.int .u8 k, .string nm, .string tx, .int .i64 1, .int .i64 m] 32)).trans (b1.mono (by simp)))
        have c2 : w1.cell? ⟨w.heap.size, 2, none⟩ = some (.string tx) := by rw [b1.cell (p := ⟨w.heap.size, 2, none⟩) (by simp)]; simp
        have c3 : w1.cell? ⟨w.heap.size, 3, none⟩ = some (.int .i64 1) := by rw [b1.cell (p := ⟨w.heap.size, 3, none⟩) (by simp)]; simp
        clear b1
        go_wp2_with fail
        go_ret
        exact ⟨ret_bool HB.out.symm, B1.out⟩
      · have HB := Lib.hid (show r = false by rw [hr, decide_eq_false h, decide_eq_false h1]; rfl)
        have g1 : (n == 1) = false := by rw [beq_eq_false_iff_ne]; exact h1
        clear hr h h1
        go_enter Try.func51, Try.ntmps51
        go_wp2_with fail
        with_reducible refine (HC.out _).mono ?_
        rintro e w1 ⟨rfl, b1⟩
        have B1 := Lib.hid (((Below.refl w.heap.size w).alloc (Nat.le_refl _) (.cells #[.int .u8 k, .string nm, .string tx, .int .i64 n, .int .i64 m] 32)).trans (b1.mono (by simp)))
        have c2 : w1.cell? ⟨w.heap.size, 2, none⟩ = some (.string tx) := by rw [b1.cell (p := ⟨w.heap.size, 2, none⟩) (by simp)]; simp
        have c3 : w1.cell? ⟨w.heap.size, 3, none⟩ = some (.int .i64 n) := by rw [b1.cell (p := ⟨w.heap.size, 3, none⟩) (by simp)]; simp
        clear b1
        go_wp2_with fail
        go_ret
        exact ⟨ret_bool HB.out.symm, B1.out⟩
set_option maxRecDepth 20000 in
theorem fit3 (c : CR) (w : World) (hs : c.tx.size ≤ 1000000) : Calls Try.prog 52 #[cv c] w fun e w' => e = .returned (.bool ((decide (c.n = 0) && decide (c.m = 0)) && (ckB c.tx))) ∧ Below w.heap.size w w' := by
  obtain ⟨r, hr⟩ : ∃ r, r = ((decide (c.n = 0) && decide (c.m = 0)) && (ckB c.tx)) := ⟨_, rfl⟩
  rw [← hr]
  obtain ⟨q, hq⟩ : ∃ q, q = (decide (c.n = 0) && decide (c.m = 0)) := ⟨_, rfl⟩
  have HC := Lib.hid (only_any c)
  rw [← hq] at HC hr
  clear hq
  obtain ⟨k, nm, tx, n, m⟩ := c
  unfold cv at HC ⊢
  simp only [] at hr hs HC ⊢
  cases q with
  | false =>
    have HB := Lib.hid (show r = false by rw [hr]; rfl)
    clear hr
    go_enter Try.func52, Try.ntmps52
    go_wp2_with fail
    with_reducible refine (HC.out _).mono ?_
    rintro e w1 ⟨rfl, b1⟩
    have B1 := Lib.hid (((Below.refl w.heap.size w).alloc (Nat.le_refl _) (.cells #[.int .u8 k, .string nm, .string tx, .int .i64 n, .int .i64 m] 32)).trans (b1.mono (by simp)))
    have c2 : w1.cell? ⟨w.heap.size, 2, none⟩ = some (.string tx) := by rw [b1.cell (p := ⟨w.heap.size, 2, none⟩) (by simp)]; simp
    have c3 : w1.cell? ⟨w.heap.size, 3, none⟩ = some (.int .i64 n) := by rw [b1.cell (p := ⟨w.heap.size, 3, none⟩) (by simp)]; simp
    clear b1
    go_wp2_with fail
    go_ret
    exact ⟨ret_bool HB.out.symm, B1.out⟩
  | true =>
    have HK := Lib.hid (fun W => check_any tx W (by unfold maxLen; omega))
    obtain ⟨z, hz⟩ : ∃ z, z = ckE tx := ⟨_, rfl⟩
    rw [← hz] at HK
    cases hk : ckB tx with
    | true =>
      have hz0 := hz.trans (ck_yes hk)
      subst hz0
      have HB := Lib.hid (show r = true by rw [hr, hk]; rfl)
      clear hr hk hz hs
      go_enter Try.func52, Try.ntmps52
      go_wp2_with fail
      with_reducible refine (HC.out _).mono ?_
      rintro e w1 ⟨rfl, b1⟩
      have B1 := Lib.hid (((Below.refl w.heap.size w).alloc (Nat.le_refl _) (.cells #[.int .u8 k, .string nm, .string tx, .int .i64 n, .int .i64 m] 32)).trans (b1.mono (by simp)))
      have c2 : w1.cell? ⟨w.heap.size, 2, none⟩ = some (.string tx) := by rw [b1.cell (p := ⟨w.heap.size, 2, none⟩) (by simp)]; simp
      have c3 : w1.cell? ⟨w.heap.size, 3, none⟩ = some (.int .i64 n) := by rw [b1.cell (p := ⟨w.heap.size, 3, none⟩) (by simp)]; simp
      clear b1
      go_wp2_with fail
      with_reducible refine (HK.out w1).mono ?_
      rintro e w2 ⟨rfl, b2⟩
      have B2 := Lib.hid (B1.out.trans (b2.mono B1.out.size))
      clear b2 B1
      go_wp2_with fail
      go_ret
      exact ⟨ret_bool HB.out.symm, B2.out⟩
    | false =>
      have g : (z == 0) = false := by rw [beq_eq_false_iff_ne, hz]; exact ck_no hk
      have HB := Lib.hid (show r = false by rw [hr, hk]; rfl)
      clear hr hk hz hs
      go_enter Try.func52, Try.ntmps52
      go_wp2_with fail
      with_reducible refine (HC.out _).mono ?_
      rintro e w1 ⟨rfl, b1⟩
      have B1 := Lib.hid (((Below.refl w.heap.size w).alloc (Nat.le_refl _) (.cells #[.int .u8 k, .string nm, .string tx, .int .i64 n, .int .i64 m] 32)).trans (b1.mono (by simp)))
      have c2 : w1.cell? ⟨w.heap.size, 2, none⟩ = some (.string tx) := by rw [b1.cell (p := ⟨w.heap.size, 2, none⟩) (by simp)]; simp
      have c3 : w1.cell? ⟨w.heap.size, 3, none⟩ = some (.int .i64 n) := by rw [b1.cell (p := ⟨w.heap.size, 3, none⟩) (by simp)]; simp
      clear b1
      go_wp2_with fail
      with_reducible refine (HK.out w1).mono ?_
      rintro e w2 ⟨rfl, b2⟩
      have B2 := Lib.hid (B1.out.trans (b2.mono B1.out.size))
      clear b2 B1
      go_wp2_with fail
      go_ret
      exact ⟨ret_bool HB.out.symm, B2.out⟩
set_option maxRecDepth 20000 in
theorem fit4 (c : CR) (w : World) (hs : c.tx.size ≤ 1000000) : Calls Try.prog 55 #[cv c] w fun e w' => e = .returned (.bool ((decide (c.n = 0) && decide (c.m = 0)) && (nmB c.tx))) ∧ Below w.heap.size w w' := by
  obtain ⟨r, hr⟩ : ∃ r, r = ((decide (c.n = 0) && decide (c.m = 0)) && (nmB c.tx)) := ⟨_, rfl⟩
  rw [← hr]
  obtain ⟨q, hq⟩ : ∃ q, q = (decide (c.n = 0) && decide (c.m = 0)) := ⟨_, rfl⟩
  have HC := Lib.hid (only_any c)
  rw [← hq] at HC hr
  clear hq
  obtain ⟨k, nm, tx, n, m⟩ := c
  unfold cv at HC ⊢
  simp only [] at hr hs HC ⊢
  cases q with
  | false =>
    have HB := Lib.hid (show r = false by rw [hr]; rfl)
    clear hr
    go_enter Try.func55, Try.ntmps55
    go_wp2_with fail
    with_reducible refine (HC.out _).mono ?_
    rintro e w1 ⟨rfl, b1⟩
    have B1 := Lib.hid (((Below.refl w.heap.size w).alloc (Nat.le_refl _) (.cells #[.int .u8 k, .string nm, .string tx, .int .i64 n, .int .i64 m] 32)).trans (b1.mono (by simp)))
    have c2 : w1.cell? ⟨w.heap.size, 2, none⟩ = some (.string tx) := by rw [b1.cell (p := ⟨w.heap.size, 2, none⟩) (by simp)]; simp
    have c3 : w1.cell? ⟨w.heap.size, 3, none⟩ = some (.int .i64 n) := by rw [b1.cell (p := ⟨w.heap.size, 3, none⟩) (by simp)]; simp
    clear b1
    go_wp2_with fail
    go_ret
    exact ⟨ret_bool HB.out.symm, B1.out⟩
  | true =>
    have HK := Lib.hid (fun W => name_any tx W hs)
    obtain ⟨z, hz⟩ : ∃ z, z = nmB tx := ⟨_, rfl⟩
    rw [← hz] at HK
    have HB := Lib.hid (show r = z by rw [hr, hz]; rfl)
    clear hr hz hs
    go_enter Try.func55, Try.ntmps55
    go_wp2_with fail
    with_reducible refine (HC.out _).mono ?_
    rintro e w1 ⟨rfl, b1⟩
    have B1 := Lib.hid (((Below.refl w.heap.size w).alloc (Nat.le_refl _) (.cells #[.int .u8 k, .string nm, .string tx, .int .i64 n, .int .i64 m] 32)).trans (b1.mono (by simp)))
    have c2 : w1.cell? ⟨w.heap.size, 2, none⟩ = some (.string tx) := by rw [b1.cell (p := ⟨w.heap.size, 2, none⟩) (by simp)]; simp
    have c3 : w1.cell? ⟨w.heap.size, 3, none⟩ = some (.int .i64 n) := by rw [b1.cell (p := ⟨w.heap.size, 3, none⟩) (by simp)]; simp
    clear b1
    go_wp2_with fail
    have K := HK.out w1
    with_reducible refine K.mono ?_
    rintro e w2 ⟨rfl, hq1⟩
    have hq2 := hq1.symm
    clear hq1 K
    subst hq2
    cases z <;> (go_wp2_with fail; go_ret; exact ⟨ret_bool HB.out.symm, B1.out⟩)
set_option maxRecDepth 20000 in
theorem fit5 (c : CR) (w : World) (hs : c.tx.size ≤ 1000000) : Calls Try.prog 57 #[cv c] w fun e w' => e = .returned (.bool ((decide (c.n = 0) && decide (c.m = 0)) && (nmB c.tx))) ∧ Below w.heap.size w w' := by
  obtain ⟨r, hr⟩ : ∃ r, r = ((decide (c.n = 0) && decide (c.m = 0)) && (nmB c.tx)) := ⟨_, rfl⟩
  rw [← hr]
  obtain ⟨q, hq⟩ : ∃ q, q = (decide (c.n = 0) && decide (c.m = 0)) := ⟨_, rfl⟩
  have HC := Lib.hid (only_any c)
  rw [← hq] at HC hr
  clear hq
  obtain ⟨k, nm, tx, n, m⟩ := c
  unfold cv at HC ⊢
  simp only [] at hr hs HC ⊢
  cases q with
  | false =>
    have HB := Lib.hid (show r = false by rw [hr]; rfl)
    clear hr
    go_enter Try.func57, Try.ntmps57
    go_wp2_with fail
    with_reducible refine (HC.out _).mono ?_
    rintro e w1 ⟨rfl, b1⟩
    have B1 := Lib.hid (((Below.refl w.heap.size w).alloc (Nat.le_refl _) (.cells #[.int .u8 k, .string nm, .string tx, .int .i64 n, .int .i64 m] 32)).trans (b1.mono (by simp)))
    have c2 : w1.cell? ⟨w.heap.size, 2, none⟩ = some (.string tx) := by rw [b1.cell (p := ⟨w.heap.size, 2, none⟩) (by simp)]; simp
    have c3 : w1.cell? ⟨w.heap.size, 3, none⟩ = some (.int .i64 n) := by rw [b1.cell (p := ⟨w.heap.size, 3, none⟩) (by simp)]; simp
    clear b1
    go_wp2_with fail
    go_ret
    exact ⟨ret_bool HB.out.symm, B1.out⟩
  | true =>
    have HK := Lib.hid (fun W => name_any tx W hs)
    obtain ⟨z, hz⟩ : ∃ z, z = nmB tx := ⟨_, rfl⟩
    rw [← hz] at HK
    have HB := Lib.hid (show r = z by rw [hr, hz]; rfl)
    clear hr hz hs
    go_enter Try.func57, Try.ntmps57
    go_wp2_with fail
    with_reducible refine (HC.out _).mono ?_
    rintro e w1 ⟨rfl, b1⟩
    have B1 := Lib.hid (((Below.refl w.heap.size w).alloc (Nat.le_refl _) (.cells #[.int .u8 k, .string nm, .string tx, .int .i64 n, .int .i64 m] 32)).trans (b1.mono (by simp)))
    have c2 : w1.cell? ⟨w.heap.size, 2, none⟩ = some (.string tx) := by rw [b1.cell (p := ⟨w.heap.size, 2, none⟩) (by simp)]; simp
    have c3 : w1.cell? ⟨w.heap.size, 3, none⟩ = some (.int .i64 n) := by rw [b1.cell (p := ⟨w.heap.size, 3, none⟩) (by simp)]; simp
    clear b1
    go_wp2_with fail
    have K := HK.out w1
    with_reducible refine K.mono ?_
    rintro e w2 ⟨rfl, hq1⟩
    have hq2 := hq1.symm
    clear hq1 K
    subst hq2
    cases z <;> (go_wp2_with fail; go_ret; exact ⟨ret_bool HB.out.symm, B1.out⟩)
/-- The function that checks a kind. -/
def fo : Nat → Nat
  | 0 => 49
  | 1 => 51
  | 2 => 50
  | 3 => 52
  | 4 => 55
  | 5 => 57
  | _ => 58
theorem fit_any (c : CR) (w : World) (hk : c.k < 8) (hs : c.tx.size ≤ 1000000) : Calls Try.prog (fo c.k) #[cv c] w fun e w' => e = .returned (.bool (oneP c)) ∧ Below w.heap.size w w' := by
  have C0 := fit0 c w
  have C1 := fit1 c w
  have C2 := bare_any c w
  have C3 := fit3 c w hs
  have C4 := fit4 c w hs
  have C5 := fit5 c w hs
  have C6 := head_any c w
  unfold oneP
  rcases (by omega : c.k = 0 ∨ c.k = 1 ∨ c.k = 2 ∨ c.k = 3 ∨ c.k = 4 ∨ c.k = 5 ∨ c.k = 6 ∨ c.k = 7) with e | e | e | e | e | e | e | e <;> rw [e]
  · exact C0
  · exact C1
  · exact C2
  · exact C3
  · exact C4
  · exact C5
  · exact C6
  · exact C6
/-- The array of the checks. -/
def rulesA : Array Value := #[.func (.func (fo 0)) #[] #[], .func (.func (fo 1)) #[] #[], .func (.func (fo 2)) #[] #[], .func (.func (fo 3)) #[] #[], .func (.func (fo 4)) #[] #[], .func (.func (fo 5)) #[] #[], .func (.func (fo 6)) #[] #[], .func (.func (fo 7)) #[] #[]]
end Go.Proofs.Ytfmgkndljppffaa

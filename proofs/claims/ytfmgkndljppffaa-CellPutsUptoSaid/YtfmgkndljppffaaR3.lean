/- Layer 3: the document's One, Name, among. -/
import Derived.Test.YtfmgkndljppffaaR2
namespace Go.Proofs.Ytfmgkndljppffaa
open Go.RowKit Go.Maps
theorem let_or (b : UInt8) : letB b = true ↔ (b.toNat = 95 ∨ (97 ≤ b.toNat ∧ b.toNat ≤ 122) ∨ (65 ≤ b.toNat ∧ b.toNat ≤ 90)) := by
  unfold letB
  simp [UInt8.le_iff_toNat_le, ← UInt8.toNat_inj, or_assoc]
theorem dg_or (b : UInt8) : dgB b = true ↔ (48 ≤ b.toNat ∧ b.toNat ≤ 57) := by
  unfold dgB
  simp [UInt8.le_iff_toNat_le]

set_option maxRecDepth 20000 in
set_option maxHeartbeats 2000000 in
theorem rname_any (s : ByteArray) (w : World) (hs : s.size ≤ 1000000) : Calls Try.prog 64 #[.string s] w fun e w' => e = .returned (.bool (nmB s)) ∧ Below w.heap.size w w' := by
  obtain ⟨r, hr⟩ : ∃ r, r = nmB s := ⟨_, rfl⟩
  rw [← hr]
  have HR := Lib.hid hr
  clear hr
  go_enter Try.func64, Try.ntmps64
  go_wp2_with fail
  go_loop [3] (fun v => ∃ i : Nat, i ≤ s.size ∧ v = .int .i64 i ∧ Hid (∀ j (h : j < s.size), j < i → okAt s[j] j = true)) (fun v => s.size - (intOf v).toNat)
  case atStart => exact ⟨0, Nat.zero_le _, rfl, Lib.hid (fun j _ hj => absurd hj (Nat.not_lt_zero j))⟩
  case round =>
    obtain ⟨i, hi, rfl, HP⟩ := hrel
    by_cases hlt : i < s.size
    · obtain ⟨b, hb⟩ : ∃ b, b = s[i].toNat := ⟨_, rfl⟩
      have k0 : ∀ q : i < s.size, (s[i].toNat : Int) = (b : Nat) := fun q => by rw [hb]
      have HL := Lib.hid (let_val s[i])
      have HD := Lib.hid (dg_val s[i])
      have hb2 : b < 256 := by rw [hb]; exact UInt8.toNat_lt _
      rw [← hb] at HL HD
      clear hb
      have HN : Hid (okAt s[i] i = true → ∀ j (h : j < s.size), j < i + 1 → okAt s[j] j = true) := Lib.hid (fun ho j h hj => by
        by_cases e : j = i
        · subst e; exact ho
        · exact HP.out j h (by omega))
      have HB : Hid (okAt s[i] i = false → r = false) := Lib.hid (fun ho => HR.out.trans (nm_bad hlt ho))
      clear HP HR
      have hi0 : (0 : Int) ≤ (i : Int) := by omega
      rcases (by omega : (0 ≤ b ∧ b ≤ 47) ∨ (48 ≤ b ∧ b ≤ 57) ∨ (58 ≤ b ∧ b ≤ 64) ∨ (65 ≤ b ∧ b ≤ 90) ∨ (91 ≤ b ∧ b ≤ 94) ∨ (95 ≤ b ∧ b ≤ 95) ∨ (96 ≤ b ∧ b ≤ 96) ∨ (97 ≤ b ∧ b ≤ 122) ∨ (123 ≤ b ∧ b ≤ 255)) with ⟨r1, r2⟩ | ⟨r1, r2⟩ | ⟨r1, r2⟩ | ⟨r1, r2⟩ | ⟨r1, r2⟩ | ⟨r1, r2⟩ | ⟨r1, r2⟩ | ⟨r1, r2⟩ | ⟨r1, r2⟩
      · have hL : letB s[i] = false := by rw [HL.out]; simp; omega
        have hD : dgB s[i] = false := by rw [HD.out]; simp; omega
        have g95 : ((b : Int) == 95) = false := by rw [beq_eq_false_iff_ne]; omega
        have g97 : ¬ (97 : Int) ≤ b := by omega
        have g122 : (b : Int) ≤ 122 := by omega
        have g65 : ¬ (65 : Int) ≤ b := by omega
        have g90 : (b : Int) ≤ 90 := by omega
        have g48 : ¬ (48 : Int) ≤ b := by omega
        have g57 : (b : Int) ≤ 57 := by omega
        clear r1 r2 HL HD
        by_cases h0 : i = 0
        · subst h0
          have z0 : (((0 : Nat) : Int) == 0) = true := rfl
          have HO := Lib.hid (HB.out (by unfold okAt; rw [hL, hD]; rfl))
          clear HN HB hL hD
          go_wp2_with fail
          go_ret
          exact ⟨ret_bool HO.out.symm, Below.refl _ _⟩
        · have z0 : ((i : Int) == 0) = false := by rw [beq_eq_false_iff_ne]; omega
          have HO := Lib.hid (HB.out (by unfold okAt; rw [hL, hD]; simp))
          clear HN HB hL hD h0
          go_wp2_with fail
          go_ret
          exact ⟨ret_bool HO.out.symm, Below.refl _ _⟩
      · have hL : letB s[i] = false := by rw [HL.out]; simp; omega
        have hD : dgB s[i] = true := by rw [HD.out]; simp; omega
        have g95 : ((b : Int) == 95) = false := by rw [beq_eq_false_iff_ne]; omega
        have g97 : ¬ (97 : Int) ≤ b := by omega
        have g122 : (b : Int) ≤ 122 := by omega
        have g65 : ¬ (65 : Int) ≤ b := by omega
        have g90 : (b : Int) ≤ 90 := by omega
        have g48 : (48 : Int) ≤ b := by omega
        have g57 : (b : Int) ≤ 57 := by omega
        clear r1 r2 HL HD
        by_cases h0 : i = 0
        · subst h0
          have z0 : (((0 : Nat) : Int) == 0) = true := rfl
          have HO := Lib.hid (HB.out (by unfold okAt; rw [hL, hD]; rfl))
          clear HN HB hL hD
          go_wp2_with fail
          go_ret
          exact ⟨ret_bool HO.out.symm, Below.refl _ _⟩
        · have z0 : ((i : Int) == 0) = false := by rw [beq_eq_false_iff_ne]; omega
          have HO := Lib.hid (HN.out (by unfold okAt; rw [hL, hD]; simp [h0]))
          clear HN HB hL hD h0
          go_wp2_with fail
          go_round
          case rel => exact ⟨i + 1, by omega, by go_num, HO⟩
          case measure => simp [intOf]; omega
      · have hL : letB s[i] = false := by rw [HL.out]; simp; omega
        have hD : dgB s[i] = false := by rw [HD.out]; simp; omega
        have g95 : ((b : Int) == 95) = false := by rw [beq_eq_false_iff_ne]; omega
        have g97 : ¬ (97 : Int) ≤ b := by omega
        have g122 : (b : Int) ≤ 122 := by omega
        have g65 : ¬ (65 : Int) ≤ b := by omega
        have g90 : (b : Int) ≤ 90 := by omega
        have g48 : (48 : Int) ≤ b := by omega
        have g57 : ¬ (b : Int) ≤ 57 := by omega
        clear r1 r2 HL HD
        by_cases h0 : i = 0
        · subst h0
          have z0 : (((0 : Nat) : Int) == 0) = true := rfl
          have HO := Lib.hid (HB.out (by unfold okAt; rw [hL, hD]; rfl))
          clear HN HB hL hD
          go_wp2_with fail
          go_ret
          exact ⟨ret_bool HO.out.symm, Below.refl _ _⟩
        · have z0 : ((i : Int) == 0) = false := by rw [beq_eq_false_iff_ne]; omega
          have HO := Lib.hid (HB.out (by unfold okAt; rw [hL, hD]; simp))
          clear HN HB hL hD h0
          go_wp2_with fail
          go_ret
          exact ⟨ret_bool HO.out.symm, Below.refl _ _⟩
      · have hL : letB s[i] = true := by rw [HL.out]; simp; omega
        have hD : dgB s[i] = false := by rw [HD.out]; simp; omega
        have g95 : ((b : Int) == 95) = false := by rw [beq_eq_false_iff_ne]; omega
        have g97 : ¬ (97 : Int) ≤ b := by omega
        have g122 : (b : Int) ≤ 122 := by omega
        have g65 : (65 : Int) ≤ b := by omega
        have g90 : (b : Int) ≤ 90 := by omega
        have g48 : (48 : Int) ≤ b := by omega
        have g57 : ¬ (b : Int) ≤ 57 := by omega
        clear r1 r2 HL HD
        have HO := Lib.hid (HN.out (by unfold okAt; rw [hL, hD]; rfl))
        clear HN HB hL hD
        go_wp2_with fail
        go_round
        case rel => exact ⟨i + 1, by omega, by go_num, HO⟩
        case measure => simp [intOf]; omega
      · have hL : letB s[i] = false := by rw [HL.out]; simp; omega
        have hD : dgB s[i] = false := by rw [HD.out]; simp; omega
        have g95 : ((b : Int) == 95) = false := by rw [beq_eq_false_iff_ne]; omega
        have g97 : ¬ (97 : Int) ≤ b := by omega
        have g122 : (b : Int) ≤ 122 := by omega
        have g65 : (65 : Int) ≤ b := by omega
        have g90 : ¬ (b : Int) ≤ 90 := by omega
        have g48 : (48 : Int) ≤ b := by omega
        have g57 : ¬ (b : Int) ≤ 57 := by omega
        clear r1 r2 HL HD
        by_cases h0 : i = 0
        · subst h0
          have z0 : (((0 : Nat) : Int) == 0) = true := rfl
          have HO := Lib.hid (HB.out (by unfold okAt; rw [hL, hD]; rfl))
          clear HN HB hL hD
          go_wp2_with fail
          go_ret
          exact ⟨ret_bool HO.out.symm, Below.refl _ _⟩
        · have z0 : ((i : Int) == 0) = false := by rw [beq_eq_false_iff_ne]; omega
          have HO := Lib.hid (HB.out (by unfold okAt; rw [hL, hD]; simp))
          clear HN HB hL hD h0
          go_wp2_with fail
          go_ret
          exact ⟨ret_bool HO.out.symm, Below.refl _ _⟩
      · have hL : letB s[i] = true := by rw [HL.out]; simp; omega
        have hD : dgB s[i] = false := by rw [HD.out]; simp; omega
        have g95 : ((b : Int) == 95) = true := by rw [beq_iff_eq]; omega
        have g97 : ¬ (97 : Int) ≤ b := by omega
        have g122 : (b : Int) ≤ 122 := by omega
        have g65 : (65 : Int) ≤ b := by omega
        have g90 : ¬ (b : Int) ≤ 90 := by omega
        have g48 : (48 : Int) ≤ b := by omega
        have g57 : ¬ (b : Int) ≤ 57 := by omega
        clear r1 r2 HL HD
        have HO := Lib.hid (HN.out (by unfold okAt; rw [hL, hD]; rfl))
        clear HN HB hL hD
        go_wp2_with fail
        go_round
        case rel => exact ⟨i + 1, by omega, by go_num, HO⟩
        case measure => simp [intOf]; omega
      · have hL : letB s[i] = false := by rw [HL.out]; simp; omega
        have hD : dgB s[i] = false := by rw [HD.out]; simp; omega
        have g95 : ((b : Int) == 95) = false := by rw [beq_eq_false_iff_ne]; omega
        have g97 : ¬ (97 : Int) ≤ b := by omega
        have g122 : (b : Int) ≤ 122 := by omega
        have g65 : (65 : Int) ≤ b := by omega
        have g90 : ¬ (b : Int) ≤ 90 := by omega
        have g48 : (48 : Int) ≤ b := by omega
        have g57 : ¬ (b : Int) ≤ 57 := by omega
        clear r1 r2 HL HD
        by_cases h0 : i = 0
        · subst h0
          have z0 : (((0 : Nat) : Int) == 0) = true := rfl
          have HO := Lib.hid (HB.out (by unfold okAt; rw [hL, hD]; rfl))
          clear HN HB hL hD
          go_wp2_with fail
          go_ret
          exact ⟨ret_bool HO.out.symm, Below.refl _ _⟩
        · have z0 : ((i : Int) == 0) = false := by rw [beq_eq_false_iff_ne]; omega
          have HO := Lib.hid (HB.out (by unfold okAt; rw [hL, hD]; simp))
          clear HN HB hL hD h0
          go_wp2_with fail
          go_ret
          exact ⟨ret_bool HO.out.symm, Below.refl _ _⟩
      · have hL : letB s[i] = true := by rw [HL.out]; simp; omega
        have hD : dgB s[i] = false := by rw [HD.out]; simp; omega
        have g95 : ((b : Int) == 95) = false := by rw [beq_eq_false_iff_ne]; omega
        have g97 : (97 : Int) ≤ b := by omega
        have g122 : (b : Int) ≤ 122 := by omega
        have g65 : (65 : Int) ≤ b := by omega
        have g90 : ¬ (b : Int) ≤ 90 := by omega
        have g48 : (48 : Int) ≤ b := by omega
        have g57 : ¬ (b : Int) ≤ 57 := by omega
        clear r1 r2 HL HD
        have HO := Lib.hid (HN.out (by unfold okAt; rw [hL, hD]; rfl))
        clear HN HB hL hD
        go_wp2_with fail
        go_round
        case rel => exact ⟨i + 1, by omega, by go_num, HO⟩
        case measure => simp [intOf]; omega
      · have hL : letB s[i] = false := by rw [HL.out]; simp; omega
        have hD : dgB s[i] = false := by rw [HD.out]; simp; omega
        have g95 : ((b : Int) == 95) = false := by rw [beq_eq_false_iff_ne]; omega
        have g97 : (97 : Int) ≤ b := by omega
        have g122 : ¬ (b : Int) ≤ 122 := by omega
        have g65 : (65 : Int) ≤ b := by omega
        have g90 : ¬ (b : Int) ≤ 90 := by omega
        have g48 : (48 : Int) ≤ b := by omega
        have g57 : ¬ (b : Int) ≤ 57 := by omega
        clear r1 r2 HL HD
        by_cases h0 : i = 0
        · subst h0
          have z0 : (((0 : Nat) : Int) == 0) = true := rfl
          have HO := Lib.hid (HB.out (by unfold okAt; rw [hL, hD]; rfl))
          clear HN HB hL hD
          go_wp2_with fail
          go_ret
          exact ⟨ret_bool HO.out.symm, Below.refl _ _⟩
        · have z0 : ((i : Int) == 0) = false := by rw [beq_eq_false_iff_ne]; omega
          have HO := Lib.hid (HB.out (by unfold okAt; rw [hL, hD]; simp))
          clear HN HB hL hD h0
          go_wp2_with fail
          go_ret
          exact ⟨ret_bool HO.out.symm, Below.refl _ _⟩
    · have hge : ¬ ((i : Int) < s.size) := by omega
      cases he : em s with
      | true =>
        obtain rfl := em_yes he
        have HO := Lib.hid (HR.out.trans (show nmB ⟨#[]⟩ = false from rfl))
        clear he HP HR
        go_wp2_with fail
        go_ret
        exact ⟨ret_bool HO.out.symm, Below.refl _ _⟩
      | false =>
        have g : (0 : Int) < s.size := by have : s.size ≠ 0 := by unfold em at he; simpa using he
                                          omega
        have HO := Lib.hid (HR.out.trans ((nm_iff s).2 ⟨by unfold em at he; simpa using he, fun j h => HP.out j h (by omega)⟩))
        clear he HP HR
        go_wp2_with fail
        go_ret
        exact ⟨ret_bool (by rw [HO.out]; simp; omega), Below.refl _ _⟩

set_option maxRecDepth 20000 in
theorem ro_0 (nm tx : ByteArray) (n m : Int) (w : World) (hx : tx.size ≤ 1000000) : Calls Try.prog 59 #[.agg #[.int .u8 0, .string nm, .string tx, .int .i64 n, .int .i64 m]] w fun e w' => e = .returned (.bool (oneP ⟨0, nm, tx, n, m⟩)) ∧ Below w.heap.size w w' := by
  obtain ⟨r, hr⟩ : ∃ r, r = oneP ⟨0, nm, tx, n, m⟩ := ⟨_, rfl⟩
  rw [← hr]
  replace hr : r = (em tx && decide (m = 0) && decide (n = 0)) := hr
  cases he : em tx with
  | false =>
    have HB := Lib.hid (show r = false by rw [hr]; simp [*])
    clear hr
    have g := em_no he
    clear he
    go_enter Try.func59, Try.ntmps59
    go_wp2_with fail
    go_ret
    exact ⟨ret_bool HB.out.symm, (Below.refl _ _).alloc (Nat.le_refl _) _⟩
  | true =>
    by_cases hn : n = 0
    · skip
      by_cases hm : m = 0
      · skip
        have HB := Lib.hid (show r = true by rw [hr]; simp [*])
        clear hr
        obtain rfl := em_yes he
        clear he
        subst hn
        subst hm
        go_enter Try.func59, Try.ntmps59
        go_wp2_with fail
        go_ret
        exact ⟨ret_bool HB.out.symm, (Below.refl _ _).alloc (Nat.le_refl _) _⟩
      · skip
        have HB := Lib.hid (show r = false by rw [hr]; simp [*])
        clear hr
        obtain rfl := em_yes he
        clear he
        subst hn
        have gm : (m == 0) = false := by rw [beq_eq_false_iff_ne]; exact hm
        clear hm
        go_enter Try.func59, Try.ntmps59
        go_wp2_with fail
        go_ret
        exact ⟨ret_bool HB.out.symm, (Below.refl _ _).alloc (Nat.le_refl _) _⟩
    · skip
      have HB := Lib.hid (show r = false by rw [hr]; simp [*])
      clear hr
      obtain rfl := em_yes he
      clear he
      have gn : (n == 0) = false := by rw [beq_eq_false_iff_ne]; exact hn
      clear hn
      go_enter Try.func59, Try.ntmps59
      go_wp2_with fail
      go_ret
      exact ⟨ret_bool HB.out.symm, (Below.refl _ _).alloc (Nat.le_refl _) _⟩

set_option maxRecDepth 20000 in
theorem ro_1 (nm tx : ByteArray) (n m : Int) (w : World) (hx : tx.size ≤ 1000000) : Calls Try.prog 59 #[.agg #[.int .u8 1, .string nm, .string tx, .int .i64 n, .int .i64 m]] w fun e w' => e = .returned (.bool (oneP ⟨1, nm, tx, n, m⟩)) ∧ Below w.heap.size w w' := by
  obtain ⟨r, hr⟩ : ∃ r, r = oneP ⟨1, nm, tx, n, m⟩ := ⟨_, rfl⟩
  rw [← hr]
  replace hr : r = (em tx && decide (m = 0) && (decide (n = 0) || decide (n = 1))) := hr
  cases he : em tx with
  | false =>
    have HB := Lib.hid (show r = false by rw [hr]; simp [*])
    clear hr
    have g := em_no he
    clear he
    go_enter Try.func59, Try.ntmps59
    go_wp2_with fail
    go_ret
    exact ⟨ret_bool HB.out.symm, (Below.refl _ _).alloc (Nat.le_refl _) _⟩
  | true =>
    by_cases hn : n = 0
    · skip
      by_cases hm : m = 0
      · skip
        have HB := Lib.hid (show r = true by rw [hr]; simp [*])
        clear hr
        obtain rfl := em_yes he
        clear he
        subst hn
        subst hm
        go_enter Try.func59, Try.ntmps59
        go_wp2_with fail
        go_ret
        exact ⟨ret_bool HB.out.symm, (Below.refl _ _).alloc (Nat.le_refl _) _⟩
      · skip
        have HB := Lib.hid (show r = false by rw [hr]; simp [*])
        clear hr
        obtain rfl := em_yes he
        clear he
        subst hn
        have gm : (m == 0) = false := by rw [beq_eq_false_iff_ne]; exact hm
        clear hm
        go_enter Try.func59, Try.ntmps59
        go_wp2_with fail
        go_ret
        exact ⟨ret_bool HB.out.symm, (Below.refl _ _).alloc (Nat.le_refl _) _⟩
    by_cases hn1 : n = 1
    · skip
      by_cases hm : m = 0
      · skip
        have HB := Lib.hid (show r = true by rw [hr]; simp [*])
        clear hr
        obtain rfl := em_yes he
        clear he
        clear hn
        subst hn1
        subst hm
        go_enter Try.func59, Try.ntmps59
        go_wp2_with fail
        go_ret
        exact ⟨ret_bool HB.out.symm, (Below.refl _ _).alloc (Nat.le_refl _) _⟩
      · skip
        have HB := Lib.hid (show r = false by rw [hr]; simp [*])
        clear hr
        obtain rfl := em_yes he
        clear he
        clear hn
        subst hn1
        have gm : (m == 0) = false := by rw [beq_eq_false_iff_ne]; exact hm
        clear hm
        go_enter Try.func59, Try.ntmps59
        go_wp2_with fail
        go_ret
        exact ⟨ret_bool HB.out.symm, (Below.refl _ _).alloc (Nat.le_refl _) _⟩
    · skip
      have HB := Lib.hid (show r = false by rw [hr]; simp [*])
      clear hr
      obtain rfl := em_yes he
      clear he
      have gn : (n == 0) = false := by rw [beq_eq_false_iff_ne]; exact hn
      have gn1 : (n == 1) = false := by rw [beq_eq_false_iff_ne]; exact hn1
      clear hn hn1
      go_enter Try.func59, Try.ntmps59
      go_wp2_with fail
      go_ret
      exact ⟨ret_bool HB.out.symm, (Below.refl _ _).alloc (Nat.le_refl _) _⟩

set_option maxRecDepth 20000 in
theorem ro_2 (nm tx : ByteArray) (n m : Int) (w : World) (hx : tx.size ≤ 1000000) : Calls Try.prog 59 #[.agg #[.int .u8 2, .string nm, .string tx, .int .i64 n, .int .i64 m]] w fun e w' => e = .returned (.bool (oneP ⟨2, nm, tx, n, m⟩)) ∧ Below w.heap.size w w' := by
  obtain ⟨r, hr⟩ : ∃ r, r = oneP ⟨2, nm, tx, n, m⟩ := ⟨_, rfl⟩
  rw [← hr]
  replace hr : r = (em tx && decide (m = 0)) := hr
  cases he : em tx with
  | false =>
    have HB := Lib.hid (show r = false by rw [hr]; simp [*])
    clear hr
    have g := em_no he
    clear he
    go_enter Try.func59, Try.ntmps59
    go_wp2_with fail
    go_ret
    exact ⟨ret_bool HB.out.symm, (Below.refl _ _).alloc (Nat.le_refl _) _⟩
  | true =>
    by_cases hm : m = 0
    · skip
      have HB := Lib.hid (show r = true by rw [hr]; simp [*])
      clear hr
      obtain rfl := em_yes he
      clear he
      subst hm
      go_enter Try.func59, Try.ntmps59
      go_wp2_with fail
      go_ret
      exact ⟨ret_bool HB.out.symm, (Below.refl _ _).alloc (Nat.le_refl _) _⟩
    · skip
      have HB := Lib.hid (show r = false by rw [hr]; simp [*])
      clear hr
      obtain rfl := em_yes he
      clear he
      have gm : (m == 0) = false := by rw [beq_eq_false_iff_ne]; exact hm
      clear hm
      go_enter Try.func59, Try.ntmps59
      go_wp2_with fail
      go_ret
      exact ⟨ret_bool HB.out.symm, (Below.refl _ _).alloc (Nat.le_refl _) _⟩

set_option maxRecDepth 20000 in
theorem ro_3 (nm tx : ByteArray) (n m : Int) (w : World) (hx : tx.size ≤ 1000000) : Calls Try.prog 59 #[.agg #[.int .u8 3, .string nm, .string tx, .int .i64 n, .int .i64 m]] w fun e w' => e = .returned (.bool (oneP ⟨3, nm, tx, n, m⟩)) ∧ Below w.heap.size w w' := by
  obtain ⟨r, hr⟩ : ∃ r, r = oneP ⟨3, nm, tx, n, m⟩ := ⟨_, rfl⟩
  rw [← hr]
  replace hr : r = (decide (n = 0) && decide (m = 0) && ckB tx) := hr
  have HX := Lib.hid (fun W => rtxt_any tx W (Nat.le_trans hx (by decide)))
  cases he : ckB tx with
  | false =>
    have HB := Lib.hid (show r = false by rw [hr]; simp [*])
    clear hr
    rw [he] at HX
    clear he
    go_enter Try.func59, Try.ntmps59
    go_wp2_with fail
    with_reducible refine (HX.out _).mono ?_
    rintro e w1 ⟨rfl, b1⟩
    have B1 := Lib.hid (((Below.refl w.heap.size w).alloc (Nat.le_refl _) _).trans (b1.mono (by simp)))
    have c3 : w1.cell? ⟨w.heap.size, 3, none⟩ = some (.int .i64 n) := (b1.cell (p := ⟨w.heap.size, 3, none⟩) (by simp)).trans (by simp only [World.cell?, heap_alloc_new]; rfl)
    have c4 : w1.cell? ⟨w.heap.size, 4, none⟩ = some (.int .i64 m) := (b1.cell (p := ⟨w.heap.size, 4, none⟩) (by simp)).trans (by simp only [World.cell?, heap_alloc_new]; rfl)
    clear b1
    go_wp2_with fail
    go_ret
    exact ⟨ret_bool HB.out.symm, B1.out⟩
  | true =>
    by_cases hn : n = 0
    · skip
      by_cases hm : m = 0
      · skip
        have HB := Lib.hid (show r = true by rw [hr]; simp [*])
        clear hr
        rw [he] at HX
        clear he
        subst hn
        subst hm
        go_enter Try.func59, Try.ntmps59
        go_wp2_with fail
        with_reducible refine (HX.out _).mono ?_
        rintro e w1 ⟨rfl, b1⟩
        have B1 := Lib.hid (((Below.refl w.heap.size w).alloc (Nat.le_refl _) _).trans (b1.mono (by simp)))
        have c3 : w1.cell? ⟨w.heap.size, 3, none⟩ = some (.int .i64 0) := (b1.cell (p := ⟨w.heap.size, 3, none⟩) (by simp)).trans (by simp only [World.cell?, heap_alloc_new]; rfl)
        have c4 : w1.cell? ⟨w.heap.size, 4, none⟩ = some (.int .i64 0) := (b1.cell (p := ⟨w.heap.size, 4, none⟩) (by simp)).trans (by simp only [World.cell?, heap_alloc_new]; rfl)
        clear b1
        go_wp2_with fail
        go_ret
        exact ⟨ret_bool HB.out.symm, B1.out⟩
      · skip
        have HB := Lib.hid (show r = false by rw [hr]; simp [*])
        clear hr
        rw [he] at HX
        clear he
        subst hn
        have gm : (m == 0) = false := by rw [beq_eq_false_iff_ne]; exact hm
        clear hm
        go_enter Try.func59, Try.ntmps59
        go_wp2_with fail
        with_reducible refine (HX.out _).mono ?_
        rintro e w1 ⟨rfl, b1⟩
        have B1 := Lib.hid (((Below.refl w.heap.size w).alloc (Nat.le_refl _) _).trans (b1.mono (by simp)))
        have c3 : w1.cell? ⟨w.heap.size, 3, none⟩ = some (.int .i64 0) := (b1.cell (p := ⟨w.heap.size, 3, none⟩) (by simp)).trans (by simp only [World.cell?, heap_alloc_new]; rfl)
        have c4 : w1.cell? ⟨w.heap.size, 4, none⟩ = some (.int .i64 m) := (b1.cell (p := ⟨w.heap.size, 4, none⟩) (by simp)).trans (by simp only [World.cell?, heap_alloc_new]; rfl)
        clear b1
        go_wp2_with fail
        go_ret
        exact ⟨ret_bool HB.out.symm, B1.out⟩
    · skip
      have HB := Lib.hid (show r = false by rw [hr]; simp [*])
      clear hr
      rw [he] at HX
      clear he
      have gn : (n == 0) = false := by rw [beq_eq_false_iff_ne]; exact hn
      clear hn
      go_enter Try.func59, Try.ntmps59
      go_wp2_with fail
      with_reducible refine (HX.out _).mono ?_
      rintro e w1 ⟨rfl, b1⟩
      have B1 := Lib.hid (((Below.refl w.heap.size w).alloc (Nat.le_refl _) _).trans (b1.mono (by simp)))
      have c3 : w1.cell? ⟨w.heap.size, 3, none⟩ = some (.int .i64 n) := (b1.cell (p := ⟨w.heap.size, 3, none⟩) (by simp)).trans (by simp only [World.cell?, heap_alloc_new]; rfl)
      have c4 : w1.cell? ⟨w.heap.size, 4, none⟩ = some (.int .i64 m) := (b1.cell (p := ⟨w.heap.size, 4, none⟩) (by simp)).trans (by simp only [World.cell?, heap_alloc_new]; rfl)
      clear b1
      go_wp2_with fail
      go_ret
      exact ⟨ret_bool HB.out.symm, B1.out⟩

set_option maxRecDepth 20000 in
theorem ro_4 (nm tx : ByteArray) (n m : Int) (w : World) (hx : tx.size ≤ 1000000) : Calls Try.prog 59 #[.agg #[.int .u8 4, .string nm, .string tx, .int .i64 n, .int .i64 m]] w fun e w' => e = .returned (.bool (oneP ⟨4, nm, tx, n, m⟩)) ∧ Below w.heap.size w w' := by
  obtain ⟨r, hr⟩ : ∃ r, r = oneP ⟨4, nm, tx, n, m⟩ := ⟨_, rfl⟩
  rw [← hr]
  replace hr : r = (decide (n = 0) && decide (m = 0) && nmB tx) := hr
  have HX := Lib.hid (fun W => rname_any tx W (Nat.le_trans hx (by decide)))
  cases he : nmB tx with
  | false =>
    have HB := Lib.hid (show r = false by rw [hr]; simp [*])
    clear hr
    rw [he] at HX
    clear he
    go_enter Try.func59, Try.ntmps59
    go_wp2_with fail
    with_reducible refine (HX.out _).mono ?_
    rintro e w1 ⟨rfl, b1⟩
    have B1 := Lib.hid (((Below.refl w.heap.size w).alloc (Nat.le_refl _) _).trans (b1.mono (by simp)))
    have c3 : w1.cell? ⟨w.heap.size, 3, none⟩ = some (.int .i64 n) := (b1.cell (p := ⟨w.heap.size, 3, none⟩) (by simp)).trans (by simp only [World.cell?, heap_alloc_new]; rfl)
    have c4 : w1.cell? ⟨w.heap.size, 4, none⟩ = some (.int .i64 m) := (b1.cell (p := ⟨w.heap.size, 4, none⟩) (by simp)).trans (by simp only [World.cell?, heap_alloc_new]; rfl)
    clear b1
    go_wp2_with fail
    go_ret
    exact ⟨ret_bool HB.out.symm, B1.out⟩
  | true =>
    by_cases hn : n = 0
    · skip
      by_cases hm : m = 0
      · skip
        have HB := Lib.hid (show r = true by rw [hr]; simp [*])
        clear hr
        rw [he] at HX
        clear he
        subst hn
        subst hm
        go_enter Try.func59, Try.ntmps59
        go_wp2_with fail
        with_reducible refine (HX.out _).mono ?_
        rintro e w1 ⟨rfl, b1⟩
        have B1 := Lib.hid (((Below.refl w.heap.size w).alloc (Nat.le_refl _) _).trans (b1.mono (by simp)))
        have c3 : w1.cell? ⟨w.heap.size, 3, none⟩ = some (.int .i64 0) := (b1.cell (p := ⟨w.heap.size, 3, none⟩) (by simp)).trans (by simp only [World.cell?, heap_alloc_new]; rfl)
        have c4 : w1.cell? ⟨w.heap.size, 4, none⟩ = some (.int .i64 0) := (b1.cell (p := ⟨w.heap.size, 4, none⟩) (by simp)).trans (by simp only [World.cell?, heap_alloc_new]; rfl)
        clear b1
        go_wp2_with fail
        go_ret
        exact ⟨ret_bool HB.out.symm, B1.out⟩
      · skip
        have HB := Lib.hid (show r = false by rw [hr]; simp [*])
        clear hr
        rw [he] at HX
        clear he
        subst hn
        have gm : (m == 0) = false := by rw [beq_eq_false_iff_ne]; exact hm
        clear hm
        go_enter Try.func59, Try.ntmps59
        go_wp2_with fail
        with_reducible refine (HX.out _).mono ?_
        rintro e w1 ⟨rfl, b1⟩
        have B1 := Lib.hid (((Below.refl w.heap.size w).alloc (Nat.le_refl _) _).trans (b1.mono (by simp)))
        have c3 : w1.cell? ⟨w.heap.size, 3, none⟩ = some (.int .i64 0) := (b1.cell (p := ⟨w.heap.size, 3, none⟩) (by simp)).trans (by simp only [World.cell?, heap_alloc_new]; rfl)
        have c4 : w1.cell? ⟨w.heap.size, 4, none⟩ = some (.int .i64 m) := (b1.cell (p := ⟨w.heap.size, 4, none⟩) (by simp)).trans (by simp only [World.cell?, heap_alloc_new]; rfl)
        clear b1
        go_wp2_with fail
        go_ret
        exact ⟨ret_bool HB.out.symm, B1.out⟩
    · skip
      have HB := Lib.hid (show r = false by rw [hr]; simp [*])
      clear hr
      rw [he] at HX
      clear he
      have gn : (n == 0) = false := by rw [beq_eq_false_iff_ne]; exact hn
      clear hn
      go_enter Try.func59, Try.ntmps59
      go_wp2_with fail
      with_reducible refine (HX.out _).mono ?_
      rintro e w1 ⟨rfl, b1⟩
      have B1 := Lib.hid (((Below.refl w.heap.size w).alloc (Nat.le_refl _) _).trans (b1.mono (by simp)))
      have c3 : w1.cell? ⟨w.heap.size, 3, none⟩ = some (.int .i64 n) := (b1.cell (p := ⟨w.heap.size, 3, none⟩) (by simp)).trans (by simp only [World.cell?, heap_alloc_new]; rfl)
      have c4 : w1.cell? ⟨w.heap.size, 4, none⟩ = some (.int .i64 m) := (b1.cell (p := ⟨w.heap.size, 4, none⟩) (by simp)).trans (by simp only [World.cell?, heap_alloc_new]; rfl)
      clear b1
      go_wp2_with fail
      go_ret
      exact ⟨ret_bool HB.out.symm, B1.out⟩

set_option maxRecDepth 20000 in
theorem ro_5 (nm tx : ByteArray) (n m : Int) (w : World) (hx : tx.size ≤ 1000000) : Calls Try.prog 59 #[.agg #[.int .u8 5, .string nm, .string tx, .int .i64 n, .int .i64 m]] w fun e w' => e = .returned (.bool (oneP ⟨5, nm, tx, n, m⟩)) ∧ Below w.heap.size w w' := by
  obtain ⟨r, hr⟩ : ∃ r, r = oneP ⟨5, nm, tx, n, m⟩ := ⟨_, rfl⟩
  rw [← hr]
  replace hr : r = (decide (n = 0) && decide (m = 0) && nmB tx) := hr
  have HX := Lib.hid (fun W => rname_any tx W (Nat.le_trans hx (by decide)))
  cases he : nmB tx with
  | false =>
    have HB := Lib.hid (show r = false by rw [hr]; simp [*])
    clear hr
    rw [he] at HX
    clear he
    go_enter Try.func59, Try.ntmps59
    go_wp2_with fail
    with_reducible refine (HX.out _).mono ?_
    rintro e w1 ⟨rfl, b1⟩
    have B1 := Lib.hid (((Below.refl w.heap.size w).alloc (Nat.le_refl _) _).trans (b1.mono (by simp)))
    have c3 : w1.cell? ⟨w.heap.size, 3, none⟩ = some (.int .i64 n) := (b1.cell (p := ⟨w.heap.size, 3, none⟩) (by simp)).trans (by simp only [World.cell?, heap_alloc_new]; rfl)
    have c4 : w1.cell? ⟨w.heap.size, 4, none⟩ = some (.int .i64 m) := (b1.cell (p := ⟨w.heap.size, 4, none⟩) (by simp)).trans (by simp only [World.cell?, heap_alloc_new]; rfl)
    clear b1
    go_wp2_with fail
    go_ret
    exact ⟨ret_bool HB.out.symm, B1.out⟩
  | true =>
    by_cases hn : n = 0
    · skip
      by_cases hm : m = 0
      · skip
        have HB := Lib.hid (show r = true by rw [hr]; simp [*])
        clear hr
        rw [he] at HX
        clear he
        subst hn
        subst hm
        go_enter Try.func59, Try.ntmps59
        go_wp2_with fail
        with_reducible refine (HX.out _).mono ?_
        rintro e w1 ⟨rfl, b1⟩
        have B1 := Lib.hid (((Below.refl w.heap.size w).alloc (Nat.le_refl _) _).trans (b1.mono (by simp)))
        have c3 : w1.cell? ⟨w.heap.size, 3, none⟩ = some (.int .i64 0) := (b1.cell (p := ⟨w.heap.size, 3, none⟩) (by simp)).trans (by simp only [World.cell?, heap_alloc_new]; rfl)
        have c4 : w1.cell? ⟨w.heap.size, 4, none⟩ = some (.int .i64 0) := (b1.cell (p := ⟨w.heap.size, 4, none⟩) (by simp)).trans (by simp only [World.cell?, heap_alloc_new]; rfl)
        clear b1
        go_wp2_with fail
        go_ret
        exact ⟨ret_bool HB.out.symm, B1.out⟩
      · skip
        have HB := Lib.hid (show r = false by rw [hr]; simp [*])
        clear hr
        rw [he] at HX
        clear he
        subst hn
        have gm : (m == 0) = false := by rw [beq_eq_false_iff_ne]; exact hm
        clear hm
        go_enter Try.func59, Try.ntmps59
        go_wp2_with fail
        with_reducible refine (HX.out _).mono ?_
        rintro e w1 ⟨rfl, b1⟩
        have B1 := Lib.hid (((Below.refl w.heap.size w).alloc (Nat.le_refl _) _).trans (b1.mono (by simp)))
        have c3 : w1.cell? ⟨w.heap.size, 3, none⟩ = some (.int .i64 0) := (b1.cell (p := ⟨w.heap.size, 3, none⟩) (by simp)).trans (by simp only [World.cell?, heap_alloc_new]; rfl)
        have c4 : w1.cell? ⟨w.heap.size, 4, none⟩ = some (.int .i64 m) := (b1.cell (p := ⟨w.heap.size, 4, none⟩) (by simp)).trans (by simp only [World.cell?, heap_alloc_new]; rfl)
        clear b1
        go_wp2_with fail
        go_ret
        exact ⟨ret_bool HB.out.symm, B1.out⟩
    · skip
      have HB := Lib.hid (show r = false by rw [hr]; simp [*])
      clear hr
      rw [he] at HX
      clear he
      have gn : (n == 0) = false := by rw [beq_eq_false_iff_ne]; exact hn
      clear hn
      go_enter Try.func59, Try.ntmps59
      go_wp2_with fail
      with_reducible refine (HX.out _).mono ?_
      rintro e w1 ⟨rfl, b1⟩
      have B1 := Lib.hid (((Below.refl w.heap.size w).alloc (Nat.le_refl _) _).trans (b1.mono (by simp)))
      have c3 : w1.cell? ⟨w.heap.size, 3, none⟩ = some (.int .i64 n) := (b1.cell (p := ⟨w.heap.size, 3, none⟩) (by simp)).trans (by simp only [World.cell?, heap_alloc_new]; rfl)
      have c4 : w1.cell? ⟨w.heap.size, 4, none⟩ = some (.int .i64 m) := (b1.cell (p := ⟨w.heap.size, 4, none⟩) (by simp)).trans (by simp only [World.cell?, heap_alloc_new]; rfl)
      clear b1
      go_wp2_with fail
      go_ret
      exact ⟨ret_bool HB.out.symm, B1.out⟩

set_option maxRecDepth 20000 in
theorem ro_6 (nm tx : ByteArray) (n m : Int) (w : World) (hx : tx.size ≤ 1000000) : Calls Try.prog 59 #[.agg #[.int .u8 6, .string nm, .string tx, .int .i64 n, .int .i64 m]] w fun e w' => e = .returned (.bool (oneP ⟨6, nm, tx, n, m⟩)) ∧ Below w.heap.size w w' := by
  obtain ⟨r, hr⟩ : ∃ r, r = oneP ⟨6, nm, tx, n, m⟩ := ⟨_, rfl⟩
  rw [← hr]
  replace hr : r = (decide (n = 0) && em tx && decide (0 ≤ m)) := hr
  cases he : em tx with
  | false =>
    have HB := Lib.hid (show r = false by rw [hr]; simp [*])
    clear hr
    have g := em_no he
    clear he
    go_enter Try.func59, Try.ntmps59
    go_wp2_with fail
    go_ret
    exact ⟨ret_bool HB.out.symm, (Below.refl _ _).alloc (Nat.le_refl _) _⟩
  | true =>
    by_cases hn : n = 0
    · skip
      by_cases hm : 0 ≤ m
      · skip
        have HB := Lib.hid (show r = true by rw [hr]; simp [*])
        clear hr
        obtain rfl := em_yes he
        clear he
        subst hn
        go_enter Try.func59, Try.ntmps59
        go_wp2_with fail
        go_ret
        exact ⟨ret_bool HB.out.symm, (Below.refl _ _).alloc (Nat.le_refl _) _⟩
      · skip
        have HB := Lib.hid (show r = false by rw [hr]; simp [*])
        clear hr
        obtain rfl := em_yes he
        clear he
        subst hn
        go_enter Try.func59, Try.ntmps59
        go_wp2_with fail
        go_ret
        exact ⟨ret_bool HB.out.symm, (Below.refl _ _).alloc (Nat.le_refl _) _⟩
    · skip
      have HB := Lib.hid (show r = false by rw [hr]; simp [*])
      clear hr
      obtain rfl := em_yes he
      clear he
      have gn : (n == 0) = false := by rw [beq_eq_false_iff_ne]; exact hn
      clear hn
      go_enter Try.func59, Try.ntmps59
      go_wp2_with fail
      go_ret
      exact ⟨ret_bool HB.out.symm, (Below.refl _ _).alloc (Nat.le_refl _) _⟩

set_option maxRecDepth 20000 in
theorem ro_7 (nm tx : ByteArray) (n m : Int) (w : World) (hx : tx.size ≤ 1000000) : Calls Try.prog 59 #[.agg #[.int .u8 7, .string nm, .string tx, .int .i64 n, .int .i64 m]] w fun e w' => e = .returned (.bool (oneP ⟨7, nm, tx, n, m⟩)) ∧ Below w.heap.size w w' := by
  obtain ⟨r, hr⟩ : ∃ r, r = oneP ⟨7, nm, tx, n, m⟩ := ⟨_, rfl⟩
  rw [← hr]
  replace hr : r = (decide (n = 0) && em tx && decide (0 ≤ m)) := hr
  cases he : em tx with
  | false =>
    have HB := Lib.hid (show r = false by rw [hr]; simp [*])
    clear hr
    have g := em_no he
    clear he
    go_enter Try.func59, Try.ntmps59
    go_wp2_with fail
    go_ret
    exact ⟨ret_bool HB.out.symm, (Below.refl _ _).alloc (Nat.le_refl _) _⟩
  | true =>
    by_cases hn : n = 0
    · skip
      by_cases hm : 0 ≤ m
      · skip
        have HB := Lib.hid (show r = true by rw [hr]; simp [*])
        clear hr
        obtain rfl := em_yes he
        clear he
        subst hn
        go_enter Try.func59, Try.ntmps59
        go_wp2_with fail
        go_ret
        exact ⟨ret_bool HB.out.symm, (Below.refl _ _).alloc (Nat.le_refl _) _⟩
      · skip
        have HB := Lib.hid (show r = false by rw [hr]; simp [*])
        clear hr
        obtain rfl := em_yes he
        clear he
        subst hn
        go_enter Try.func59, Try.ntmps59
        go_wp2_with fail
        go_ret
        exact ⟨ret_bool HB.out.symm, (Below.refl _ _).alloc (Nat.le_refl _) _⟩
    · skip
      have HB := Lib.hid (show r = false by rw [hr]; simp [*])
      clear hr
      obtain rfl := em_yes he
      clear he
      have gn : (n == 0) = false := by rw [beq_eq_false_iff_ne]; exact hn
      clear hn
      go_enter Try.func59, Try.ntmps59
      go_wp2_with fail
      go_ret
      exact ⟨ret_bool HB.out.symm, (Below.refl _ _).alloc (Nat.le_refl _) _⟩

set_option maxRecDepth 20000 in
theorem ro_8 (k : Nat) (hk : 8 ≤ k) (nm tx : ByteArray) (n m : Int) (w : World) : Calls Try.prog 59 #[.agg #[.int .u8 k, .string nm, .string tx, .int .i64 n, .int .i64 m]] w fun e w' => e = .returned (.bool (oneP ⟨k, nm, tx, n, m⟩)) ∧ Below w.heap.size w w' := by
  have HB := Lib.hid (show oneP ⟨k, nm, tx, n, m⟩ = false by
    unfold oneP
    rw [if_neg (by show ¬ k = 0; omega), if_neg (by show ¬ k = 1; omega), if_neg (by show ¬ k = 2; omega), if_neg (by show ¬ k = 3; omega), if_neg (by show ¬ (k = 4 ∨ k = 5); omega), if_neg (by show ¬ (k = 6 ∨ k = 7); omega)])
  obtain ⟨r, hr⟩ : ∃ r, r = oneP ⟨k, nm, tx, n, m⟩ := ⟨_, rfl⟩
  rw [← hr] at HB ⊢
  have g0 : ((k : Int) == 0) = false := by rw [beq_eq_false_iff_ne]; omega
  have g1 : ((k : Int) == 1) = false := by rw [beq_eq_false_iff_ne]; omega
  have g2 : ((k : Int) == 2) = false := by rw [beq_eq_false_iff_ne]; omega
  have g3 : ((k : Int) == 3) = false := by rw [beq_eq_false_iff_ne]; omega
  have g4 : ((k : Int) == 4) = false := by rw [beq_eq_false_iff_ne]; omega
  have g5 : ((k : Int) == 5) = false := by rw [beq_eq_false_iff_ne]; omega
  have g6 : ((k : Int) == 6) = false := by rw [beq_eq_false_iff_ne]; omega
  have g7 : ((k : Int) == 7) = false := by rw [beq_eq_false_iff_ne]; omega
  clear hr hk
  go_enter Try.func59, Try.ntmps59
  go_wp2_with fail
  go_ret
  exact ⟨ret_bool HB.out.symm, (Below.refl _ _).alloc (Nat.le_refl _) _⟩
theorem rone_any (c : CR) (w : World) (hx : c.tx.size ≤ 1000000) : Calls Try.prog 59 #[.agg #[.int .u8 c.k, .string c.nm, .string c.tx, .int .i64 c.n, .int .i64 c.m]] w fun e w' => e = .returned (.bool (oneP c)) ∧ Below w.heap.size w w' := by
  obtain ⟨k, nm, tx, n, m⟩ := c
  show Calls Try.prog 59 #[.agg #[.int .u8 k, .string nm, .string tx, .int .i64 n, .int .i64 m]] w fun e w' => e = .returned (.bool (oneP ⟨k, nm, tx, n, m⟩)) ∧ Below w.heap.size w w'
  by_cases h8 : 8 ≤ k
  · exact ro_8 k h8 nm tx n m w
  rcases (by omega : k = 0 ∨ k = 1 ∨ k = 2 ∨ k = 3 ∨ k = 4 ∨ k = 5 ∨ k = 6 ∨ k = 7) with rfl | rfl | rfl | rfl | rfl | rfl | rfl | rfl
  · exact ro_0 nm tx n m w hx
  · exact ro_1 nm tx n m w hx
  · exact ro_2 nm tx n m w hx
  · exact ro_3 nm tx n m w hx
  · exact ro_4 nm tx n m w hx
  · exact ro_5 nm tx n m w hx
  · exact ro_6 nm tx n m w hx
  · exact ro_7 nm tx n m w hx
end Go.Proofs.Ytfmgkndljppffaa

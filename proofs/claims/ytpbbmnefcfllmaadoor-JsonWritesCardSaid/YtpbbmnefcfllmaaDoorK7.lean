import Derived.Test.YtpbbmnefcfllmaaDoorK6
/- Layer 3: the document's One, Name, among. -/
namespace Go.Proofs.YtpbbmnefcfllmaaDoor
open Go.RowKit Go.Maps
theorem let_or (b : UInt8) : letB b = true ↔ (b.toNat = 95 ∨ (97 ≤ b.toNat ∧ b.toNat ≤ 122) ∨ (65 ≤ b.toNat ∧ b.toNat ≤ 90)) := by
  unfold letB
  simp [UInt8.le_iff_toNat_le, ← UInt8.toNat_inj, or_assoc]
theorem dg_or (b : UInt8) : dgB b = true ↔ (48 ≤ b.toNat ∧ b.toNat ≤ 57) := by
  unfold dgB
  simp [UInt8.le_iff_toNat_le]

set_option maxRecDepth 20000 in
set_option maxHeartbeats 2000000 in
theorem rname_any (s : ByteArray) (w : World) (hs : s.size ≤ 1000000) : Calls Tryd.prog 47 #[.string s] w fun e w' => e = .returned (.bool (nmB s)) ∧ Below w.heap.size w w' := by
  obtain ⟨r, hr⟩ : ∃ r, r = nmB s := ⟨_, rfl⟩
  rw [← hr]
  have HR := Lib.hid hr
  clear hr
  go_enter Tryd.func47, Tryd.ntmps47
  go_wp2_with fail
  go_loop [3] (fun v => ∃ i : Nat, i ≤ s.size ∧ v = .int .i64 i ∧ Hid (∀ j (h : j < s.size), j < i → okAt s[j] j = true)) (fun v => s.size - (intOf v).toNat)
  case atStart => exact ⟨0, Nat.zero_le _, rfl, Lib.hid (fun j _ hj => absurd hj (Nat.not_lt_zero j))⟩
  case round =>
    obtain ⟨i, hi, rfl, HP⟩ := hrel
    by_cases hlt : i < s.size
    · obtain ⟨b, hb⟩ : ∃ b, b = s[i].toNat := ⟨_, rfl⟩
      have k0 : ∀ q : i < s.size, (s[i].toNat : Int) = (b : Nat) := fun q => by rw [hb]
      have HL := Lib.hid (let_val s[i])
      have HD := Lib.hid (dg_val s[i])
      have hb2 : b < 256 := by rw [hb]; exact UInt8.toNat_lt _
      rw [← hb] at HL HD
      clear hb
      have HN : Hid (okAt s[i] i = true → ∀ j (h : j < s.size), j < i + 1 → okAt s[j] j = true) := Lib.hid (fun ho j h hj => by
        by_cases e : j = i
        · subst e; exact ho
        · exact HP.out j h (by omega))
      have HB : Hid (okAt s[i] i = false → r = false) := Lib.hid (fun ho => HR.out.trans (nm_bad hlt ho))
      clear HP HR
      have hi0 : (0 : Int) ≤ (i : Int) := by omega
      rcases (by omega : (0 ≤ b ∧ b ≤ 47) ∨ (48 ≤ b ∧ b ≤ 57) ∨ (58 ≤ b ∧ b ≤ 64) ∨ (65 ≤ b ∧ b ≤ 90) ∨ (91 ≤ b ∧ b ≤ 94) ∨ (95 ≤ b ∧ b ≤ 95) ∨ (96 ≤ b ∧ b ≤ 96) ∨ (97 ≤ b ∧ b ≤ 122) ∨ (123 ≤ b ∧ b ≤ 255)) with ⟨r1, r2⟩ | ⟨r1, r2⟩ | ⟨r1, r2⟩ | ⟨r1, r2⟩ | ⟨r1, r2⟩ | ⟨r1, r2⟩ | ⟨r1, r2⟩ | ⟨r1, r2⟩ | ⟨r1, r2⟩
      · have hL : letB s[i] = false := by rw [HL.out]; simp; omega
        have hD : dgB s[i] = false := by rw [HD.out]; simp; omega
        have g95 : ((b : Int) == 95) = false := by rw [beq_eq_false_iff_ne]; omega
        have g97 : ¬ (97 : Int) ≤ b := by omega
        have g122 : (b : Int) ≤ 122 := by omega
        have g65 : ¬ (65 : Int) ≤ b := by omega
        have g90 : (b : Int) ≤ 90 := by omega
        have g48 : ¬ (48 : Int) ≤ b := by omega
        have g57 : (b : Int) ≤ 57 := by omega
        clear r1 r2 HL HD
        by_cases h0 : i = 0
        · subst h0
          have z0 : (((0 : Nat) : Int) == 0) = true := rfl
          have HO := Lib.hid (HB.out (by unfold okAt; rw [hL, hD]; rfl))
          clear HN HB hL hD
          go_wp2_with fail
          go_ret
          exact ⟨ret_bool HO.out.symm, Below.refl _ _⟩
        · have z0 : ((i : Int) == 0) = false := by rw [beq_eq_false_iff_ne]; omega
          have HO := Lib.hid (HB.out (by unfold okAt; rw [hL, hD]; simp))
          clear HN HB hL hD h0
          go_wp2_with fail
          go_ret
          exact ⟨ret_bool HO.out.symm, Below.refl _ _⟩
      · have hL : letB s[i] = false := by rw [HL.out]; simp; omega
        have hD : dgB s[i] = true := by rw [HD.out]; simp; omega
        have g95 : ((b : Int) == 95) = false := by rw [beq_eq_false_iff_ne]; omega
        have g97 : ¬ (97 : Int) ≤ b := by omega
        have g122 : (b : Int) ≤ 122 := by omega
        have g65 : ¬ (65 : Int) ≤ b := by omega
        have g90 : (b : Int) ≤ 90 := by omega
        have g48 : (48 : Int) ≤ b := by omega
        have g57 : (b : Int) ≤ 57 := by omega
        clear r1 r2 HL HD
        by_cases h0 : i = 0
        · subst h0
          have z0 : (((0 : Nat) : Int) == 0) = true := rfl
          have HO := Lib.hid (HB.out (by unfold okAt; rw [hL, hD]; rfl))
          clear HN HB hL hD
          go_wp2_with fail
          go_ret
          exact ⟨ret_bool HO.out.symm, Below.refl _ _⟩
        · have z0 : ((i : Int) == 0) = false := by rw [beq_eq_false_iff_ne]; omega
          have HO := Lib.hid (HN.out (by unfold okAt; rw [hL, hD]; simp [h0]))
          clear HN HB hL hD h0
          go_wp2_with fail
          go_round
          case rel => exact ⟨i + 1, by omega, by go_num, HO⟩
          case measure => simp [intOf]; omega
      · have hL : letB s[i] = false := by rw [HL.out]; simp; omega
        have hD : dgB s[i] = false := by rw [HD.out]; simp; omega
        have g95 : ((b : Int) == 95) = false := by rw [beq_eq_false_iff_ne]; omega
        have g97 : ¬ (97 : Int) ≤ b := by omega
        have g122 : (b : Int) ≤ 122 := by omega
        have g65 : ¬ (65 : Int) ≤ b := by omega
        have g90 : (b : Int) ≤ 90 := by omega
        have g48 : (48 : Int) ≤ b := by omega
        have g57 : ¬ (b : Int) ≤ 57 := by omega
        clear r1 r2 HL HD
        by_cases h0 : i = 0
        · subst h0
          have z0 : (((0 : Nat) : Int) == 0) = true := rfl
          have HO := Lib.hid (HB.out (by unfold okAt; rw [hL, hD]; rfl))
          clear HN HB hL hD
          go_wp2_with fail
          go_ret
          exact ⟨ret_bool HO.out.symm, Below.refl _ _⟩
        · have z0 : ((i : Int) == 0) = false := by rw [beq_eq_false_iff_ne]; omega
          have HO := Lib.hid (HB.out (by unfold okAt; rw [hL, hD]; simp))
          clear HN HB hL hD h0
          go_wp2_with fail
          go_ret
          exact ⟨ret_bool HO.out.symm, Below.refl _ _⟩
      · have hL : letB s[i] = true := by rw [HL.out]; simp; omega
        have hD : dgB s[i] = false := by rw [HD.out]; simp; omega
        have g95 : ((b : Int) == 95) = false := by rw [beq_eq_false_iff_ne]; omega
        have g97 : ¬ (97 : Int) ≤ b := by omega
        have g122 : (b : Int) ≤ 122 := by omega
        have g65 : (65 : Int) ≤ b := by omega
        have g90 : (b : Int) ≤ 90 := by omega
        have g48 : (48 : Int) ≤ b := by omega
        have g57 : ¬ (b : Int) ≤ 57 := by omega
        clear r1 r2 HL HD
        have HO := Lib.hid (HN.out (by unfold okAt; rw [hL, hD]; rfl))
        clear HN HB hL hD
        go_wp2_with fail
        go_round
        case rel => exact ⟨i + 1, by omega, by go_num, HO⟩
        case measure => simp [intOf]; omega
      · have hL : letB s[i] = false := by rw [HL.out]; simp; omega
        have hD : dgB s[i] = false := by rw [HD.out]; simp; omega
        have g95 : ((b : Int) == 95) = false := by rw [beq_eq_false_iff_ne]; omega
        have g97 : ¬ (97 : Int) ≤ b := by omega
        have g122 : (b : Int) ≤ 122 := by omega
        have g65 : (65 : Int) ≤ b := by omega
        have g90 : ¬ (b : Int) ≤ 90 := by omega
        have g48 : (48 : Int) ≤ b := by omega
        have g57 : ¬ (b : Int) ≤ 57 := by omega
        clear r1 r2 HL HD
        by_cases h0 : i = 0
        · subst h0
          have z0 : (((0 : Nat) : Int) == 0) = true := rfl
          have HO := Lib.hid (HB.out (by unfold okAt; rw [hL, hD]; rfl))
          clear HN HB hL hD
          go_wp2_with fail
          go_ret
          exact ⟨ret_bool HO.out.symm, Below.refl _ _⟩
        · have z0 : ((i : Int) == 0) = false := by rw [beq_eq_false_iff_ne]; omega
          have HO := Lib.hid (HB.out (by unfold okAt; rw [hL, hD]; simp))
          clear HN HB hL hD h0
          go_wp2_with fail
          go_ret
          exact ⟨ret_bool HO.out.symm, Below.refl _ _⟩
      · have hL : letB s[i] = true := by rw [HL.out]; simp; omega
        have hD : dgB s[i] = false := by rw [HD.out]; simp; omega
        have g95 : ((b : Int) == 95) = true := by rw [beq_iff_eq]; omega
        have g97 : ¬ (97 : Int) ≤ b := by omega
        have g122 : (b : Int) ≤ 122 := by omega
        have g65 : (65 : Int) ≤ b := by omega
        have g90 : ¬ (b : Int) ≤ 90 := by omega
        have g48 : (48 : Int) ≤ b := by omega
        have g57 : ¬ (b : Int) ≤ 57 := by omega
        clear r1 r2 HL HD
        have HO := Lib.hid (HN.out (by unfold okAt; rw [hL, hD]; rfl))
        clear HN HB hL hD
        go_wp2_with fail
        go_round
        case rel => exact ⟨i + 1, by omega, by go_num, HO⟩
        case measure => simp [intOf]; omega
      · have hL : letB s[i] = false := by rw [HL.out]; simp; omega
        have hD : dgB s[i] = false := by rw [HD.out]; simp; omega
        have g95 : ((b : Int) == 95) = false := by rw [beq_eq_false_iff_ne]; omega
        have g97 : ¬ (97 : Int) ≤ b := by omega
        have g122 : (b : Int) ≤ 122 := by omega
        have g65 : (65 : Int) ≤ b := by omega
        have g90 : ¬ (b : Int) ≤ 90 := by omega
        have g48 : (48 : Int) ≤ b := by omega
        have g57 : ¬ (b : Int) ≤ 57 := by omega
        clear r1 r2 HL HD
        by_cases h0 : i = 0
        · subst h0
          have z0 : (((0 : Nat) : Int) == 0) = true := rfl
          have HO := Lib.hid (HB.out (by unfold okAt; rw [hL, hD]; rfl))
          clear HN HB hL hD
          go_wp2_with fail
          go_ret
          exact ⟨ret_bool HO.out.symm, Below.refl _ _⟩
        · have z0 : ((i : Int) == 0) = false := by rw [beq_eq_false_iff_ne]; omega
          have HO := Lib.hid (HB.out (by unfold okAt; rw [hL, hD]; simp))
          clear HN HB hL hD h0
          go_wp2_with fail
          go_ret
          exact ⟨ret_bool HO.out.symm, Below.refl _ _⟩
      · have hL : letB s[i] = true := by rw [HL.out]; simp; omega
        have hD : dgB s[i] = false := by rw [HD.out]; simp; omega
        have g95 : ((b : Int) == 95) = false := by rw [beq_eq_false_iff_ne]; omega
        have g97 : (97 : Int) ≤ b := by omega
        have g122 : (b : Int) ≤ 122 := by omega
        have g65 : (65 : Int) ≤ b := by omega
        have g90 : ¬ (b : Int) ≤ 90 := by omega
        have g48 : (48 : Int) ≤ b := by omega
        have g57 : ¬ (b : Int) ≤ 57 := by omega
        clear r1 r2 HL HD
        have HO := Lib.hid (HN.out (by unfold okAt; rw [hL, hD]; rfl))
        clear HN HB hL hD
        go_wp2_with fail
        go_round
        case rel => exact ⟨i + 1, by omega, by go_num, HO⟩
        case measure => simp [intOf]; omega
      · have hL : letB s[i] = false := by rw [HL.out]; simp; omega
        have hD : dgB s[i] = false := by rw [HD.out]; simp; omega
        have g95 : ((b : Int) == 95) = false := by rw [beq_eq_false_iff_ne]; omega
        have g97 : (97 : Int) ≤ b := by omega
        have g122 : ¬ (b : Int) ≤ 122 := by omega
        have g65 : (65 : Int) ≤ b := by omega
        have g90 : ¬ (b : Int) ≤ 90 := by omega
        have g48 : (48 : Int) ≤ b := by omega
        have g57 : ¬ (b : Int) ≤ 57 := by omega
        clear r1 r2 HL HD
        by_cases h0 : i = 0
        · subst h0
          have z0 : (((0 : Nat) : Int) == 0) = true := rfl
          have HO := Lib.hid (HB.out (by unfold okAt; rw [hL, hD]; rfl))
          clear HN HB hL hD
          go_wp2_with fail
          go_ret
          exact ⟨ret_bool HO.out.symm, Below.refl _ _⟩
        · have z0 : ((i : Int) == 0) = false := by rw [beq_eq_false_iff_ne]; omega
          have HO := Lib.hid (HB.out (by unfold okAt; rw [hL, hD]; simp))
          clear HN HB hL hD h0
          go_wp2_with fail
          go_ret
          exact ⟨ret_bool HO.out.symm, Below.refl _ _⟩
    · have hge : ¬ ((i : Int) < s.size) := by omega
      cases he : em s with
      | true =>
        obtain rfl := em_yes he
        have HO := Lib.hid (HR.out.trans (show nmB ⟨#[]⟩ = false from rfl))
        clear he HP HR
        go_wp2_with fail
        go_ret
        exact ⟨ret_bool HO.out.symm, Below.refl _ _⟩
      | false =>
        have g : (0 : Int) < s.size := by have : s.size ≠ 0 := by unfold em at he; simpa using he
                                          omega
        have HO := Lib.hid (HR.out.trans ((nm_iff s).2 ⟨by unfold em at he; simpa using he, fun j h => HP.out j h (by omega)⟩))
        clear he HP HR
        go_wp2_with fail
        go_ret
        exact ⟨ret_bool (by rw [HO.out]; simp; omega), Below.refl _ _⟩

set_option maxRecDepth 20000 in
theorem ro_0 (nm tx : ByteArray) (n m : Int) (w : World) (hx : tx.size ≤ 1000000) : Calls Tryd.prog 39 #[.agg #[.int .u8 0, .string nm, .string tx, .int .i64 n, .int .i64 m]] w fun e w' => e = .returned (.bool (oneP ⟨0, nm, tx, n, m⟩)) ∧ Below w.heap.size w w' := by
  obtain ⟨r, hr⟩ : ∃ r, r = oneP ⟨0, nm, tx, n, m⟩ := ⟨_, rfl⟩
  rw [← hr]
  replace hr : r = (em tx && decide (m = 0) && decide (n = 0)) := hr
  cases he : em tx with
  | false =>
    have HB := Lib.hid (show r = false by rw [hr]; simp [*])
    clear hr
    have g := em_no he
    clear he
    go_enter Tryd.func39, Tryd.ntmps39
    go_wp2_with fail
    go_ret
    exact ⟨ret_bool HB.out.symm, (Below.refl _ _).alloc (Nat.le_refl _) _⟩
  | true =>
    by_cases hn : n = 0
    · skip
      by_cases hm : m = 0
      · skip
        have HB := Lib.hid (show r = true by rw [hr]; simp [*])
        clear hr
        obtain rfl := em_yes he
        clear he
        subst hn
        subst hm
        go_enter Tryd.func39, Tryd.ntmps39
        go_wp2_with fail
        go_ret
        exact ⟨ret_bool HB.out.symm, (Below.refl _ _).alloc (Nat.le_refl _) _⟩
      · skip
        have HB := Lib.hid (show r = false by rw [hr]; simp [*])
        clear hr
        obtain rfl := em_yes he
        clear he
        subst hn
        have gm : (m == 0) = false := by rw [beq_eq_false_iff_ne]; exact hm
        clear hm
        go_enter Tryd.func39, Tryd.ntmps39
        go_wp2_with fail
        go_ret
        exact ⟨ret_bool HB.out.symm, (Below.refl _ _).alloc (Nat.le_refl _) _⟩
    · skip
      have HB := Lib.hid (show r = false by rw [hr]; simp [*])
      clear hr
      obtain rfl := em_yes he
      clear he
      have gn : (n == 0) = false := by rw [beq_eq_false_iff_ne]; exact hn
      clear hn
      go_enter Tryd.func39, Tryd.ntmps39
      go_wp2_with fail
      go_ret
      exact ⟨ret_bool HB.out.symm, (Below.refl _ _).alloc (Nat.le_refl _) _⟩

set_option maxRecDepth 20000 in
theorem ro_1 (nm tx : ByteArray) (n m : Int) (w : World) (hx : tx.size ≤ 1000000) : Calls Tryd.prog 39 #[.agg #[.int .u8 1, .string nm, .string tx, .int .i64 n, .int .i64 m]] w fun e w' => e = .returned (.bool (oneP ⟨1, nm, tx, n, m⟩)) ∧ Below w.heap.size w w' := by
  obtain ⟨r, hr⟩ : ∃ r, r = oneP ⟨1, nm, tx, n, m⟩ := ⟨_, rfl⟩
  rw [← hr]
  replace hr : r = (em tx && decide (m = 0) && (decide (n = 0) || decide (n = 1))) := hr
  cases he : em tx with
  | false =>
    have HB := Lib.hid (show r = false by rw [hr]; simp [*])
    clear hr
    have g := em_no he
    clear he
    go_enter Tryd.func39, Tryd.ntmps39
    go_wp2_with fail
    go_ret
    exact ⟨ret_bool HB.out.symm, (Below.refl _ _).alloc (Nat.le_refl _) _⟩
  | true =>
    by_cases hn : n = 0
    · skip
      by_cases hm : m = 0
      · skip
        have HB := Lib.hid (show r = true by rw [hr]; simp [*])
        clear hr
        obtain rfl := em_yes he
        clear he
        subst hn
        subst hm
        go_enter Tryd.func39, Tryd.ntmps39
        go_wp2_with fail
        go_ret
        exact ⟨ret_bool HB.out.symm, (Below.refl _ _).alloc (Nat.le_refl _) _⟩
      · skip
        have HB := Lib.hid (show r = false by rw [hr]; simp [*])
        clear hr
        obtain rfl := em_yes he
        clear he
        subst hn
        have gm : (m == 0) = false := by rw [beq_eq_false_iff_ne]; exact hm
        clear hm
        go_enter Tryd.func39, Tryd.ntmps39
        go_wp2_with fail
        go_ret
        exact ⟨ret_bool HB.out.symm, (Below.refl _ _).alloc (Nat.le_refl _) _⟩
    by_cases hn1 : n = 1
    · skip
      by_cases hm : m = 0
      · skip
        have HB := Lib.hid (show r = true by rw [hr]; simp [*])
        clear hr
        obtain rfl := em_yes he
        clear he
        clear hn
        subst hn1
        subst hm
        go_enter Tryd.func39, Tryd.ntmps39
        go_wp2_with fail
        go_ret
        exact ⟨ret_bool HB.out.symm, (Below.refl _ _).alloc (Nat.le_refl _) _⟩
      · skip
        have HB := Lib.hid (show r = false by rw [hr]; simp [*])
        clear hr
        obtain rfl := em_yes he
        clear he
        clear hn
        subst hn1
        have gm : (m == 0) = false := by rw [beq_eq_false_iff_ne]; exact hm
        clear hm
        go_enter Tryd.func39, Tryd.ntmps39
        go_wp2_with fail
        go_ret
        exact ⟨ret_bool HB.out.symm, (Below.refl _ _).alloc (Nat.le_refl _) _⟩
    · skip
      have HB := Lib.hid (show r = false by rw [hr]; simp [*])
      clear hr
      obtain rfl := em_yes he
      clear he
      have gn : (n == 0) = false := by rw [beq_eq_false_iff_ne]; exact hn
      have gn1 : (n == 1) = false := by rw [beq_eq_false_iff_ne]; exact hn1
      clear hn hn1
      go_enter Tryd.func39, Tryd.ntmps39
      go_wp2_with fail
      go_ret
      exact ⟨ret_bool HB.out.symm, (Below.refl _ _).alloc (Nat.le_refl _) _⟩

set_option maxRecDepth 20000 in
theorem ro_2 (nm tx : ByteArray) (n m : Int) (w : World) (hx : tx.size ≤ 1000000) : Calls Tryd.prog 39 #[.agg #[.int .u8 2, .string nm, .string tx, .int .i64 n, .int .i64 m]] w fun e w' => e = .returned (.bool (oneP ⟨2, nm, tx, n, m⟩)) ∧ Below w.heap.size w w' := by
  obtain ⟨r, hr⟩ : ∃ r, r = oneP ⟨2, nm, tx, n, m⟩ := ⟨_, rfl⟩
  rw [← hr]
  replace hr : r = (em tx && decide (m = 0)) := hr
  cases he : em tx with
  | false =>
    have HB := Lib.hid (show r = false by rw [hr]; simp [*])
    clear hr
    have g := em_no he
    clear he
    go_enter Tryd.func39, Tryd.ntmps39
    go_wp2_with fail
    go_ret
    exact ⟨ret_bool HB.out.symm, (Below.refl _ _).alloc (Nat.le_refl _) _⟩
  | true =>
    by_cases hm : m = 0
    · skip
      have HB := Lib.hid (show r = true by rw [hr]; simp [*])
      clear hr
      obtain rfl := em_yes he
      clear he
      subst hm
      go_enter Tryd.func39, Tryd.ntmps39
      go_wp2_with fail
      go_ret
      exact ⟨ret_bool HB.out.symm, (Below.refl _ _).alloc (Nat.le_refl _) _⟩
    · skip
      have HB := Lib.hid (show r = false by rw [hr]; simp [*])
      clear hr
      obtain rfl := em_yes he
      clear he
      have gm : (m == 0) = false := by rw [beq_eq_false_iff_ne]; exact hm
      clear hm
      go_enter Tryd.func39, Tryd.ntmps39
      go_wp2_with fail
      go_ret
      exact ⟨ret_bool HB.out.symm, (Below.refl _ _).alloc (Nat.le_refl _) _⟩

set_option maxRecDepth 20000 in
theorem ro_3 (nm tx : ByteArray) (n m : Int) (w : World) (hx : tx.size ≤ 1000000) : Calls Tryd.prog 39 #[.agg #[.int .u8 3, .string nm, .string tx, .int .i64 n, .int .i64 m]] w fun e w' => e = .returned (.bool (oneP ⟨3, nm, tx, n, m⟩)) ∧ Below w.heap.size w w' := by
  obtain ⟨r, hr⟩ : ∃ r, r = oneP ⟨3, nm, tx, n, m⟩ := ⟨_, rfl⟩
  rw [← hr]
  replace hr : r = (decide (n = 0) && decide (m = 0) && ckB tx) := hr
  have HX := Lib.hid (fun W => rtxt_any tx W (Nat.le_trans hx (by decide)))
  cases he : ckB tx with
  | false =>
    have HB := Lib.hid (show r = false by rw [hr]; simp [*])
    clear hr
    rw [he] at HX
    clear he
    go_enter Tryd.func39, Tryd.ntmps39
    go_wp2_with fail
    with_reducible refine (HX.out _).mono ?_
    rintro e w1 ⟨rfl, b1⟩
    have B1 := Lib.hid (((Below.refl w.heap.size w).alloc (Nat.le_refl _) _).trans (b1.mono (by simp)))
    have c3 : w1.cell? ⟨w.heap.size, 3, none⟩ = some (.int .i64 n) := (b1.cell (p := ⟨w.heap.size, 3, none⟩) (by simp)).trans (by simp only [World.cell?, heap_alloc_new]; rfl)
    have c4 : w1.cell? ⟨w.heap.size, 4, none⟩ = some (.int .i64 m) := (b1.cell (p := ⟨w.heap.size, 4, none⟩) (by simp)).trans (by simp only [World.cell?, heap_alloc_new]; rfl)
    clear b1
    go_wp2_with fail
    go_ret
    exact ⟨ret_bool HB.out.symm, B1.out⟩
  | true =>
    by_cases hn : n = 0
    · skip
      by_cases hm : m = 0
      · skip
        have HB := Lib.hid (show r = true by rw [hr]; simp [*])
        clear hr
        rw [he] at HX
        clear he
        subst hn
        subst hm
        go_enter Tryd.func39, Tryd.ntmps39
        go_wp2_with fail
        with_reducible refine (HX.out _).mono ?_
        rintro e w1 ⟨rfl, b1⟩
        have B1 := Lib.hid (((Below.refl w.heap.size w).alloc (Nat.le_refl _) _).trans (b1.mono (by simp)))
        have c3 : w1.cell? ⟨w.heap.size, 3, none⟩ = some (.int .i64 0) := (b1.cell (p := ⟨w.heap.size, 3, none⟩) (by simp)).trans (by simp only [World.cell?, heap_alloc_new]; rfl)
        have c4 : w1.cell? ⟨w.heap.size, 4, none⟩ = some (.int .i64 0) := (b1.cell (p := ⟨w.heap.size, 4, none⟩) (by simp)).trans (by simp only [World.cell?, heap_alloc_new]; rfl)
        clear b1
        go_wp2_with fail
        go_ret
        exact ⟨ret_bool HB.out.symm, B1.out⟩
      · skip
        have HB := Lib.hid (show r = false by rw [hr]; simp [*])
        clear hr
        rw [he] at HX
        clear he
        subst hn
        have gm : (m == 0) = false := by rw [beq_eq_false_iff_ne]; exact hm
        clear hm
        go_enter Tryd.func39, Tryd.ntmps39
        go_wp2_with fail
        with_reducible refine (HX.out _).mono ?_
        rintro e w1 ⟨rfl, b1⟩
        have B1 := Lib.hid (((Below.refl w.heap.size w).alloc (Nat.le_refl _) _).trans (b1.mono (by simp)))
        have c3 : w1.cell? ⟨w.heap.size, 3, none⟩ = some (.int .i64 0) := (b1.cell (p := ⟨w.heap.size, 3, none⟩) (by simp)).trans (by simp only [World.cell?, heap_alloc_new]; rfl)
        have c4 : w1.cell? ⟨w.heap.size, 4, none⟩ = some (.int .i64 m) := (b1.cell (p := ⟨w.heap.size, 4, none⟩) (by simp)).trans (by simp only [World.cell?, heap_alloc_new]; rfl)
        clear b1
        go_wp2_with fail
        go_ret
        exact ⟨ret_bool HB.out.symm, B1.out⟩
    · skip
      have HB := Lib.hid (show r = false by rw [hr]; simp [*])
      clear hr
      rw [he] at HX
      clear he
      have gn : (n == 0) = false := by rw [beq_eq_false_iff_ne]; exact hn
      clear hn
      go_enter Tryd.func39, Tryd.ntmps39
      go_wp2_with fail
      with_reducible refine (HX.out _).mono ?_
      rintro e w1 ⟨rfl, b1⟩
      have B1 := Lib.hid (((Below.refl w.heap.size w).alloc (Nat.le_refl _) _).trans (b1.mono (by simp)))
      have c3 : w1.cell? ⟨w.heap.size, 3, none⟩ = some (.int .i64 n) := (b1.cell (p := ⟨w.heap.size, 3, none⟩) (by simp)).trans (by simp only [World.cell?, heap_alloc_new]; rfl)
      have c4 : w1.cell? ⟨w.heap.size, 4, none⟩ = some (.int .i64 m) := (b1.cell (p := ⟨w.heap.size, 4, none⟩) (by simp)).trans (by simp only [World.cell?, heap_alloc_new]; rfl)
      clear b1
      go_wp2_with fail
      go_ret
      exact ⟨ret_bool HB.out.symm, B1.out⟩

set_option maxRecDepth 20000 in
theorem ro_4 (nm tx : ByteArray) (n m : Int) (w : World) (hx : tx.size ≤ 1000000) : Calls Tryd.prog 39 #[.agg #[.int .u8 4, .string nm, .string tx, .int .i64 n, .int .i64 m]] w fun e w' => e = .returned (.bool (oneP ⟨4, nm, tx, n, m⟩)) ∧ Below w.heap.size w w' := by
  obtain ⟨r, hr⟩ : ∃ r, r = oneP ⟨4, nm, tx, n, m⟩ := ⟨_, rfl⟩
  rw [← hr]
  replace hr : r = (decide (n = 0) && decide (m = 0) && nmB tx) := hr
  have HX := Lib.hid (fun W => rname_any tx W (Nat.le_trans hx (by decide)))
  cases he : nmB tx with
  | false =>
    have HB := Lib.hid (show r = false by rw [hr]; simp [*])
    clear hr
    rw [he] at HX
    clear he
    go_enter Tryd.func39, Tryd.ntmps39
    go_wp2_with fail
    with_reducible refine (HX.out _).mono ?_
    rintro e w1 ⟨rfl, b1⟩
    have B1 := Lib.hid (((Below.refl w.heap.size w).alloc (Nat.le_refl _) _).trans (b1.mono (by simp)))
    have c3 : w1.cell? ⟨w.heap.size, 3, none⟩ = some (.int .i64 n) := (b1.cell (p := ⟨w.heap.size, 3, none⟩) (by simp)).trans (by simp only [World.cell?, heap_alloc_new]; rfl)
    have c4 : w1.cell? ⟨w.heap.size, 4, none⟩ = some (.int .i64 m) := (b1.cell (p := ⟨w.heap.size, 4, none⟩) (by simp)).trans (by simp only [World.cell?, heap_alloc_new]; rfl)
    clear b1
    go_wp2_with fail
    go_ret
    exact ⟨ret_bool HB.out.symm, B1.out⟩
  | true =>
    by_cases hn : n = 0
    · skip
      by_cases hm : m = 0
      · skip
        have HB := Lib.hid (show r = true by rw [hr]; simp [*])
        clear hr
        rw [he] at HX
        clear he
        subst hn
        subst hm
        go_enter Tryd.func39, Tryd.ntmps39
        go_wp2_with fail
        with_reducible refine (HX.out _).mono ?_
        rintro e w1 ⟨rfl, b1⟩
        have B1 := Lib.hid (((Below.refl w.heap.size w).alloc (Nat.le_refl _) _).trans (b1.mono (by simp)))
        have c3 : w1.cell? ⟨w.heap.size, 3, none⟩ = some (.int .i64 0) := (b1.cell (p := ⟨w.heap.size, 3, none⟩) (by simp)).trans (by simp only [World.cell?, heap_alloc_new]; rfl)
        have c4 : w1.cell? ⟨w.heap.size, 4, none⟩ = some (.int .i64 0) := (b1.cell (p := ⟨w.heap.size, 4, none⟩) (by simp)).trans (by simp only [World.cell?, heap_alloc_new]; rfl)
        clear b1
        go_wp2_with fail
        go_ret
        exact ⟨ret_bool HB.out.symm, B1.out⟩
      · skip
        have HB := Lib.hid (show r = false by rw [hr]; simp [*])
        clear hr
        rw [he] at HX
        clear he
        subst hn
        have gm : (m == 0) = false := by rw [beq_eq_false_iff_ne]; exact hm
        clear hm
        go_enter Tryd.func39, Tryd.ntmps39
        go_wp2_with fail
        with_reducible refine (HX.out _).mono ?_
        rintro e w1 ⟨rfl, b1⟩
        have B1 := Lib.hid (((Below.refl w.heap.size w).alloc (Nat.le_refl _) _).trans (b1.mono (by simp)))
        have c3 : w1.cell? ⟨w.heap.size, 3, none⟩ = some (.int .i64 0) := (b1.cell (p := ⟨w.heap.size, 3, none⟩) (by simp)).trans (by simp only [World.cell?, heap_alloc_new]; rfl)
        have c4 : w1.cell? ⟨w.heap.size, 4, none⟩ = some (.int .i64 m) := (b1.cell (p := ⟨w.heap.size, 4, none⟩) (by simp)).trans (by simp only [World.cell?, heap_alloc_new]; rfl)
        clear b1
        go_wp2_with fail
        go_ret
        exact ⟨ret_bool HB.out.symm, B1.out⟩
    · skip
      have HB := Lib.hid (show r = false by rw [hr]; simp [*])
      clear hr
      rw [he] at HX
      clear he
      have gn : (n == 0) = false := by rw [beq_eq_false_iff_ne]; exact hn
      clear hn
      go_enter Tryd.func39, Tryd.ntmps39
      go_wp2_with fail
      with_reducible refine (HX.out _).mono ?_
      rintro e w1 ⟨rfl, b1⟩
      have B1 := Lib.hid (((Below.refl w.heap.size w).alloc (Nat.le_refl _) _).trans (b1.mono (by simp)))
      have c3 : w1.cell? ⟨w.heap.size, 3, none⟩ = some (.int .i64 n) := (b1.cell (p := ⟨w.heap.size, 3, none⟩) (by simp)).trans (by simp only [World.cell?, heap_alloc_new]; rfl)
      have c4 : w1.cell? ⟨w.heap.size, 4, none⟩ = some (.int .i64 m) := (b1.cell (p := ⟨w.heap.size, 4, none⟩) (by simp)).trans (by simp only [World.cell?, heap_alloc_new]; rfl)
      clear b1
      go_wp2_with fail
      go_ret
      exact ⟨ret_bool HB.out.symm, B1.out⟩

set_option maxRecDepth 20000 in
theorem ro_5 (nm tx : ByteArray) (n m : Int) (w : World) (hx : tx.size ≤ 1000000) : Calls Tryd.prog 39 #[.agg #[.int .u8 5, .string nm, .string tx, .int .i64 n, .int .i64 m]] w fun e w' => e = .returned (.bool (oneP ⟨5, nm, tx, n, m⟩)) ∧ Below w.heap.size w w' := by
  obtain ⟨r, hr⟩ : ∃ r, r = oneP ⟨5, nm, tx, n, m⟩ := ⟨_, rfl⟩
  rw [← hr]
  replace hr : r = (decide (n = 0) && decide (m = 0) && nmB tx) := hr
  have HX := Lib.hid (fun W => rname_any tx W (Nat.le_trans hx (by decide)))
  cases he : nmB tx with
  | false =>
    have HB := Lib.hid (show r = false by rw [hr]; simp [*])
    clear hr
    rw [he] at HX
    clear he
    go_enter Tryd.func39, Tryd.ntmps39
    go_wp2_with fail
    with_reducible refine (HX.out _).mono ?_
    rintro e w1 ⟨rfl, b1⟩
    have B1 := Lib.hid (((Below.refl w.heap.size w).alloc (Nat.le_refl _) _).trans (b1.mono (by simp)))
    have c3 : w1.cell? ⟨w.heap.size, 3, none⟩ = some (.int .i64 n) := (b1.cell (p := ⟨w.heap.size, 3, none⟩) (by simp)).trans (by simp only [World.cell?, heap_alloc_new]; rfl)
    have c4 : w1.cell? ⟨w.heap.size, 4, none⟩ = some (.int .i64 m) := (b1.cell (p := ⟨w.heap.size, 4, none⟩) (by simp)).trans (by simp only [World.cell?, heap_alloc_new]; rfl)
    clear b1
    go_wp2_with fail
    go_ret
    exact ⟨ret_bool HB.out.symm, B1.out⟩
  | true =>
    by_cases hn : n = 0
    · skip
      by_cases hm : m = 0
      · skip
        have HB := Lib.hid (show r = true by rw [hr]; simp [*])
        clear hr
        rw [he] at HX
        clear he
        subst hn
        subst hm
        go_enter Tryd.func39, Tryd.ntmps39
        go_wp2_with fail
        with_reducible refine (HX.out _).mono ?_
        rintro e w1 ⟨rfl, b1⟩
        have B1 := Lib.hid (((Below.refl w.heap.size w).alloc (Nat.le_refl _) _).trans (b1.mono (by simp)))
        have c3 : w1.cell? ⟨w.heap.size, 3, none⟩ = some (.int .i64 0) := (b1.cell (p := ⟨w.heap.size, 3, none⟩) (by simp)).trans (by simp only [World.cell?, heap_alloc_new]; rfl)
        have c4 : w1.cell? ⟨w.heap.size, 4, none⟩ = some (.int .i64 0) := (b1.cell (p := ⟨w.heap.size, 4, none⟩) (by simp)).trans (by simp only [World.cell?, heap_alloc_new]; rfl)
        clear b1
        go_wp2_with fail
        go_ret
        exact ⟨ret_bool HB.out.symm, B1.out⟩
      · skip
        have HB := Lib.hid (show r = false by rw [hr]; simp [*])
        clear hr
        rw [he] at HX
        clear he
        subst hn
        have gm : (m == 0) = false := by rw [beq_eq_false_iff_ne]; exact hm
        clear hm
        go_enter Tryd.func39, Tryd.ntmps39
        go_wp2_with fail
        with_reducible refine (HX.out _).mono ?_
        rintro e w1 ⟨rfl, b1⟩
        have B1 := Lib.hid (((Below.refl w.heap.size w).alloc (Nat.le_refl _) _).trans (b1.mono (by simp)))
        have c3 : w1.cell? ⟨w.heap.size, 3, none⟩ = some (.int .i64 0) := (b1.cell (p := ⟨w.heap.size, 3, none⟩) (by simp)).trans (by simp only [World.cell?, heap_alloc_new]; rfl)
        have c4 : w1.cell? ⟨w.heap.size, 4, none⟩ = some (.int .i64 m) := (b1.cell (p := ⟨w.heap.size, 4, none⟩) (by simp)).trans (by simp only [World.cell?, heap_alloc_new]; rfl)
        clear b1
        go_wp2_with fail
        go_ret
        exact ⟨ret_bool HB.out.symm, B1.out⟩
    · skip
      have HB := Lib.hid (show r = false by rw [hr]; simp [*])
      clear hr
      rw [he] at HX
      clear he
      have gn : (n == 0) = false := by rw [beq_eq_false_iff_ne]; exact hn
      clear hn
      go_enter Tryd.func39, Tryd.ntmps39
      go_wp2_with fail
      with_reducible refine (HX.out _).mono ?_
      rintro e w1 ⟨rfl, b1⟩
      have B1 := Lib.hid (((Below.refl w.heap.size w).alloc (Nat.le_refl _) _).trans (b1.mono (by simp)))
      have c3 : w1.cell? ⟨w.heap.size, 3, none⟩ = some (.int .i64 n) := (b1.cell (p := ⟨w.heap.size, 3, none⟩) (by simp)).trans (by simp only [World.cell?, heap_alloc_new]; rfl)
      have c4 : w1.cell? ⟨w.heap.size, 4, none⟩ = some (.int .i64 m) := (b1.cell (p := ⟨w.heap.size, 4, none⟩) (by simp)).trans (by simp only [World.cell?, heap_alloc_new]; rfl)
      clear b1
      go_wp2_with fail
      go_ret
      exact ⟨ret_bool HB.out.symm, B1.out⟩

set_option maxRecDepth 20000 in
theorem ro_6 (nm tx : ByteArray) (n m : Int) (w : World) (hx : tx.size ≤ 1000000) : Calls Tryd.prog 39 #[.agg #[.int .u8 6, .string nm, .string tx, .int .i64 n, .int .i64 m]] w fun e w' => e = .returned (.bool (oneP ⟨6, nm, tx, n, m⟩)) ∧ Below w.heap.size w w' := by
  obtain ⟨r, hr⟩ : ∃ r, r = oneP ⟨6, nm, tx, n, m⟩ := ⟨_, rfl⟩
  rw [← hr]
  replace hr : r = (decide (n = 0) && em tx && decide (0 ≤ m)) := hr
  cases he : em tx with
  | false =>
    have HB := Lib.hid (show r = false by rw [hr]; simp [*])
    clear hr
    have g := em_no he
    clear he
    go_enter Tryd.func39, Tryd.ntmps39
    go_wp2_with fail
    go_ret
    exact ⟨ret_bool HB.out.symm, (Below.refl _ _).alloc (Nat.le_refl _) _⟩
  | true =>
    by_cases hn : n = 0
    · skip
      by_cases hm : 0 ≤ m
      · skip
        have HB := Lib.hid (show r = true by rw [hr]; simp [*])
        clear hr
        obtain rfl := em_yes he
        clear he
        subst hn
        go_enter Tryd.func39, Tryd.ntmps39
        go_wp2_with fail
        go_ret
        exact ⟨ret_bool HB.out.symm, (Below.refl _ _).alloc (Nat.le_refl _) _⟩
      · skip
        have HB := Lib.hid (show r = false by rw [hr]; simp [*])
        clear hr
        obtain rfl := em_yes he
        clear he
        subst hn
        go_enter Tryd.func39, Tryd.ntmps39
        go_wp2_with fail
        go_ret
        exact ⟨ret_bool HB.out.symm, (Below.refl _ _).alloc (Nat.le_refl _) _⟩
    · skip
      have HB := Lib.hid (show r = false by rw [hr]; simp [*])
      clear hr
      obtain rfl := em_yes he
      clear he
      have gn : (n == 0) = false := by rw [beq_eq_false_iff_ne]; exact hn
      clear hn
      go_enter Tryd.func39, Tryd.ntmps39
      go_wp2_with fail
      go_ret
      exact ⟨ret_bool HB.out.symm, (Below.refl _ _).alloc (Nat.le_refl _) _⟩

set_option maxRecDepth 20000 in
theorem ro_7 (nm tx : ByteArray) (n m : Int) (w : World) (hx : tx.size ≤ 1000000) : Calls Tryd.prog 39 #[.agg #[.int .u8 7, .string nm, .string tx, .int .i64 n, .int .i64 m]] w fun e w' => e = .returned (.bool (oneP ⟨7, nm, tx, n, m⟩)) ∧ Below w.heap.size w w' := by
  obtain ⟨r, hr⟩ : ∃ r, r = oneP ⟨7, nm, tx, n, m⟩ := ⟨_, rfl⟩
  rw [← hr]
  replace hr : r = (decide (n = 0) && em tx && decide (0 ≤ m)) := hr
  cases he : em tx with
  | false =>
    have HB := Lib.hid (show r = false by rw [hr]; simp [*])
    clear hr
    have g := em_no he
    clear he
    go_enter Tryd.func39, Tryd.ntmps39
    go_wp2_with fail
    go_ret
    exact ⟨ret_bool HB.out.symm, (Below.refl _ _).alloc (Nat.le_refl _) _⟩
  | true =>
    by_cases hn : n = 0
    · skip
      by_cases hm : 0 ≤ m
      · skip
        have HB := Lib.hid (show r = true by rw [hr]; simp [*])
        clear hr
        obtain rfl := em_yes he
        clear he
        subst hn
        go_enter Tryd.func39, Tryd.ntmps39
        go_wp2_with fail
        go_ret
        exact ⟨ret_bool HB.out.symm, (Below.refl _ _).alloc (Nat.le_refl _) _⟩
      · skip
        have HB := Lib.hid (show r = false by rw [hr]; simp [*])
        clear hr
        obtain rfl := em_yes he
        clear he
        subst hn
        go_enter Tryd.func39, Tryd.ntmps39
        go_wp2_with fail
        go_ret
        exact ⟨ret_bool HB.out.symm, (Below.refl _ _).alloc (Nat.le_refl _) _⟩
    · skip
      have HB := Lib.hid (show r = false by rw [hr]; simp [*])
      clear hr
      obtain rfl := em_yes he
      clear he
      have gn : (n == 0) = false := by rw [beq_eq_false_iff_ne]; exact hn
      clear hn
      go_enter Tryd.func39, Tryd.ntmps39
      go_wp2_with fail
      go_ret
      exact ⟨ret_bool HB.out.symm, (Below.refl _ _).alloc (Nat.le_refl _) _⟩

set_option maxRecDepth 20000 in
theorem ro_8 (k : Nat) (hk : 8 ≤ k) (nm tx : ByteArray) (n m : Int) (w : World) : Calls Tryd.prog 39 #[.agg #[.int .u8 k, .string nm, .string tx, .int .i64 n, .int .i64 m]] w fun e w' => e = .returned (.bool (oneP ⟨k, nm, tx, n, m⟩)) ∧ Below w.heap.size w w' := by
  have HB := Lib.hid (show oneP ⟨k, nm, tx, n, m⟩ = false by
    unfold oneP
    rw [if_neg (by show ¬ k = 0; omega), if_neg (by show ¬ k = 1; omega), if_neg (by show ¬ k = 2; omega), if_neg (by show ¬ k = 3; omega), if_neg (by show ¬ (k = 4 ∨ k = 5); omega), if_neg (by show ¬ (k = 6 ∨ k = 7); omega)])
  obtain ⟨r, hr⟩ : ∃ r, r = oneP ⟨k, nm, tx, n, m⟩ := ⟨_, rfl⟩
  rw [← hr] at HB ⊢
  have g0 : ((k : Int) == 0) = false := by rw [beq_eq_false_iff_ne]; omega
  have g1 : ((k : Int) == 1) = false := by rw [beq_eq_false_iff_ne]; omega
  have g2 : ((k : Int) == 2) = false := by rw [beq_eq_false_iff_ne]; omega
  have g3 : ((k : Int) == 3) = false := by rw [beq_eq_false_iff_ne]; omega
  have g4 : ((k : Int) == 4) = false := by rw [beq_eq_false_iff_ne]; omega
  have g5 : ((k : Int) == 5) = false := by rw [beq_eq_false_iff_ne]; omega
  have g6 : ((k : Int) == 6) = false := by rw [beq_eq_false_iff_ne]; omega
  have g7 : ((k : Int) == 7) = false := by rw [beq_eq_false_iff_ne]; omega
  clear hr hk
  go_enter Tryd.func39, Tryd.ntmps39
  go_wp2_with fail
  go_ret
  exact ⟨ret_bool HB.out.symm, (Below.refl _ _).alloc (Nat.le_refl _) _⟩
theorem rone_any (c : CR) (w : World) (hx : c.tx.size ≤ 1000000) : Calls Tryd.prog 39 #[.agg #[.int .u8 c.k, .string c.nm, .string c.tx, .int .i64 c.n, .int .i64 c.m]] w fun e w' => e = .returned (.bool (oneP c)) ∧ Below w.heap.size w w' := by
  obtain ⟨k, nm, tx, n, m⟩ := c
  show Calls Tryd.prog 39 #[.agg #[.int .u8 k, .string nm, .string tx, .int .i64 n, .int .i64 m]] w fun e w' => e = .returned (.bool (oneP ⟨k, nm, tx, n, m⟩)) ∧ Below w.heap.size w w'
  by_cases h8 : 8 ≤ k
  · exact ro_8 k h8 nm tx n m w
  rcases (by omega : k = 0 ∨ k = 1 ∨ k = 2 ∨ k = 3 ∨ k = 4 ∨ k = 5 ∨ k = 6 ∨ k = 7) with rfl | rfl | rfl | rfl | rfl | rfl | rfl | rfl
  · exact ro_0 nm tx n m w hx
  · exact ro_1 nm tx n m w hx
  · exact ro_2 nm tx n m w hx
  · exact ro_3 nm tx n m w hx
  · exact ro_4 nm tx n m w hx
  · exact ro_5 nm tx n m w hx
  · exact ro_6 nm tx n m w hx
  · exact ro_7 nm tx n m w hx
end Go.Proofs.YtpbbmnefcfllmaaDoor
/- Layer 3: the document's Behind. -/
namespace Go.Proofs.YtpbbmnefcfllmaaDoor
open Go.RowKit Go.Maps
theorem str_ne {x y : ByteArray} (h : x ≠ y) : (x.toList == y.toList) = false := by rw [str_eq]; simpa using h
theorem str_yes {x y : ByteArray} (h : x = y) : (x.toList == y.toList) = true := by rw [str_eq]; simpa using h
set_option maxRecDepth 20000 in
theorem ramong_any (a : Option Addr) (n cap : Nat) (s : Nat → ByteArray) (x : ByteArray) (w : World) (hv : NV w a n s) (hn : n ≤ 1000000) : Calls Tryd.prog 41 #[.slice a n cap, .string x] w fun e w' => e = .returned (.bool ((List.range n).any fun i => decide (s i = x))) ∧ w' = w := by
  obtain ⟨r, hr⟩ : ∃ r, r = ((List.range n).any fun i => decide (s i = x)) := ⟨_, rfl⟩
  rw [← hr]
  have HR := Lib.hid hr
  have HV := Lib.hid hv
  have hn0 : (n : Int) ≤ 1000000 := by omega
  clear hr hv
  go_enter Tryd.func41, Tryd.ntmps41
  go_wp2_with fail
  go_loop [5] (fun v => ∃ i : Nat, i ≤ n ∧ v = .int .i64 i ∧ Hid (∀ j, j < i → s j ≠ x)) (fun v => n - (intOf v).toNat)
  case atStart => exact ⟨0, Nat.zero_le _, rfl, Lib.hid (fun j hj => absurd hj (Nat.not_lt_zero j))⟩
  case round =>
    obtain ⟨i, hi, rfl, HP⟩ := hrel
    by_cases hlt : i < n
    · obtain ⟨b, off, rfl, _, c⟩ := HV.out i hlt
      have hi0 : (0 : Int) ≤ (i : Int) := by omega
      have hi1 : (i : Int) < n := by omega
      by_cases he : s i = x
      · have g := str_yes he
        have HO := Lib.hid (HR.out.trans (List.any_eq_true.2 ⟨i, List.mem_range.2 hlt, by simpa using he⟩))
        clear he HP HR
        obtain ⟨y, hy⟩ : ∃ y, y = s i := ⟨_, rfl⟩
        rw [← hy] at c g
        clear hy
        go_wp2_with fail
        go_ret
        exact ⟨ret_bool HO.out.symm, rfl⟩
      · have g := str_ne he
        have HN : Hid (∀ j, j < i + 1 → s j ≠ x) := Lib.hid (fun j hj => by
          by_cases e : j = i
          · subst e; exact he
          · exact HP.out j (by omega))
        clear he HP HR
        obtain ⟨y, hy⟩ : ∃ y, y = s i := ⟨_, rfl⟩
        rw [← hy] at c g
        clear hy
        go_wp2_with fail
        go_round
        case rel => exact ⟨i + 1, by omega, by go_num, HN⟩
        case measure => simp [intOf]; omega
    · have hge : ¬ ((i : Int) < n) := by omega
      have HO : Hid (r = false) := Lib.hid (HR.out.trans (by
        rw [List.any_eq_false]
        intro j hj
        have := HP.out j (by have := List.mem_range.1 hj; omega)
        simpa using this))
      clear HP HR
      go_wp2_with fail
      go_ret
      exact ⟨ret_bool HO.out.symm, rfl⟩
def wkI (o : Option Nat) : Int := match o with
  | none => -1
  | some e => e
def BPost (W : World) (o : Option Nat) (e : Ending) (w' : World) : Prop := e = .returned (.int .i64 (wkI o)) ∧ Below W.heap.size W w'
theorem BPost.no {W w' : World} {o : Option Nat} (h : o = none) (b : Below W.heap.size W w') : BPost W o (.returned (.int .i64 (-1))) w' := by subst h; exact ⟨rfl, b⟩
theorem BPost.yes {W w' : World} {o : Option Nat} {e : Nat} {v : Int} (h : o = some e) (hv : v = e) (b : Below W.heap.size W w') : BPost W o (.returned (.int .i64 v)) w' := by subst h hv; exact ⟨rfl, b⟩
/-- The names met, in a row of the call's own. -/
def NL (w : World) (B : Nat) (v : Value) (L : List ByteArray) : Prop := w.ownsRow B 9 1 v L.length (L.map Value.string)
theorem NL.nv {w : World} {B : Nat} {v : Value} {L : List ByteArray} (h : NL w B v L) : ∃ na nc, v = .slice na L.length nc ∧ NV w na L.length (fun i => L.getD i ⟨#[]⟩) := by
  rcases h.2 with ⟨rfl, hn⟩ | ⟨q, cap, cur, rfl, hg, hgg, h1, h2, h3, h4⟩
  · rw [hn]
    exact ⟨none, 0, rfl, fun i hi => by omega⟩
  · refine ⟨some ⟨q, 0, none⟩, cap, rfl, fun k hk => ⟨q, 0, rfl, (Array.getElem?_eq_some_iff.1 hgg).1, ?_⟩⟩
    rw [Nat.zero_add, h.cellAt k (by omega), List.getElem?_map, List.getElem?_eq_getElem hk]
    show some (Value.string L[k]) = some (Value.string (L.getD k ⟨#[]⟩))
    rw [List.getD_eq_getElem?_getD, List.getElem?_eq_getElem hk]; rfl
theorem any_range (L : List ByteArray) (x : ByteArray) : ((List.range L.length).any fun i => decide (L.getD i ⟨#[]⟩ = x)) = L.any (fun y => decide (y = x)) := by
  rw [Bool.eq_iff_iff, List.any_eq_true, List.any_eq_true]
  constructor
  · rintro ⟨i, hi, h⟩
    have hi' := List.mem_range.1 hi
    refine ⟨L[i], List.getElem_mem hi', ?_⟩
    rw [List.getD_eq_getElem?_getD, List.getElem?_eq_getElem hi'] at h
    exact h
  · rintro ⟨y, hy, h⟩
    obtain ⟨i, hi, rfl⟩ := List.getElem_of_mem hy
    refine ⟨i, List.mem_range.2 hi, ?_⟩
    rw [List.getD_eq_getElem?_getD, List.getElem?_eq_getElem hi]
    exact h
theorem among_nl (names RL : List ByteArray) (hrl : RL = names.reverse) (hl : names.length ≤ 1000000) (x : ByteArray) (b : Bool) (hb : names.any (fun y => decide (y = x)) = b) (B : Nat) (na : Option Addr) (nc : Nat) (w : World) (h : NL w B (.slice na RL.length nc) RL) :
    Calls Tryd.prog 41 #[.slice na RL.length nc, .string x] w fun e wx => e = .returned (.bool b) ∧ wx = w := by
  obtain ⟨na', nc', e1, hnv⟩ := h.nv
  simp only [Value.slice.injEq, true_and] at e1
  obtain ⟨rfl, rfl⟩ := e1
  have hh := ramong_any na RL.length nc (fun i => RL.getD i ⟨#[]⟩) x w hnv (by have := congrArg List.length hrl; rw [List.length_reverse] at this; omega)
  have e : ((List.range RL.length).any fun i => decide (RL.getD i ⟨#[]⟩ = x)) = b := by rw [any_range, hrl, List.any_reverse, hb]
  rw [e] at hh
  exact hh
/-- What the loop's test reads. -/
def BS (w1 : World) (B BX b o : Nat) (c : CR) (nm : ByteArray) (v : Value) (L : List ByteArray) (w' : World) : Prop :=
  w'.cell? ⟨BX, 0, none⟩ = some (.int .u8 c.k) ∧ w'.cell? ⟨b, o, none⟩ = some (.string nm) ∧ Below w1.heap.size w1 w' ∧ NL w' B v L
theorem BS.up {w1 : World} {B BX b o : Nat} {c : CR} {nm : ByteArray} {v : Value} {L : List ByteArray} {w' w2 : World} (h : BS w1 B BX b o c nm v L w') (k : Below w'.heap.size w' w2) : BS w1 B BX b o c nm v L w2 :=
  ⟨(k.cell (World.block_lt_of_cell? _ _ h.1)).trans h.1, (k.cell (World.block_lt_of_cell? _ _ h.2.1)).trans h.2.1, h.2.2.1.trans (k.mono h.2.2.1.size), own_below h.2.2.2 k⟩
end Go.Proofs.YtpbbmnefcfllmaaDoor
/- Layer 3: the document's Behind, but for its loop. -/
namespace Go.Proofs.YtpbbmnefcfllmaaDoor
open Go.RowKit Go.Maps
set_option maxRecDepth 20000 in
theorem beh_end (a : Option Addr) (n cap : Nat) (g : Nat → CR) (hcw : CW n g) (hn : n ≤ 2048) (r : Nat) (dv : Int) (p : Nat) (W : World) (hv : CV W a n g) (hp : n ≤ p) (hpm : p ≤ 1000000) : Calls Tryd.prog 27 #[.slice a n cap, .int .i64 (p : Nat), .int .i64 dv] W (BPost W (wk g n r p)) := by
  have HR : Hid (wk g n r p = none) := Lib.hid (by cases r with
    | zero => rw [wk_z, if_pos hp]
    | succ r => rw [wk_s, if_pos hp])
  obtain ⟨res, hres⟩ : ∃ x, x = wk g n r p := ⟨_, rfl⟩
  rw [← hres] at HR ⊢
  clear hres
  have g1 : ¬ ((p : Int) < 0) := by omega
  have g2 : (n : Int) ≤ p := by omega
  clear hp hcw hv
  go_enter Tryd.func27, Tryd.ntmps27
  go_wp2_with fail
  go_ret
  exact BPost.no HR.out (Below.refl _ _)
set_option maxRecDepth 20000 in
theorem beh_misfit (a : Option Addr) (n cap : Nat) (g : Nat → CR) (hcw : CW n g) (hn : n ≤ 2048) (r : Nat) (dv : Int) (p : Nat) (W : World) (hv : CV W a n g) (hp : p < n) (ho : oneP (g p) = false) : Calls Tryd.prog 27 #[.slice a n cap, .int .i64 (p : Nat), .int .i64 dv] W (BPost W (wk g n r p)) := by
  have HR : Hid (wk g n r p = none) := Lib.hid (by cases r with
    | zero => rw [wk_z, if_neg (by omega), ho]; rfl
    | succ r => rw [wk_s, if_neg (by omega), ho]; rfl)
  obtain ⟨res, hres⟩ : ∃ x, x = wk g n r p := ⟨_, rfl⟩
  rw [← hres] at HR ⊢
  clear hres
  obtain ⟨b, off, rfl, hb, k0, k1, k2, k3, k4⟩ := hv p hp
  have HO := Lib.hid (fun W' => rone_any (g p) W' (hcw p hp).2.2.1)
  rw [ho] at HO
  obtain ⟨c, hc⟩ : ∃ c, c = g p := ⟨_, rfl⟩
  rw [← hc] at k0 k1 k2 k3 k4 HO
  have g1 : ¬ ((p : Int) < 0) := by omega
  have g2 : ¬ ((n : Int) ≤ p) := by omega
  have g3 : (p : Int) < n := by omega
  have g4 : (0 : Int) ≤ p := by omega
  clear hc hp hcw hv ho
  go_enter Tryd.func27, Tryd.ntmps27
  go_wp2_with fail
  with_reducible refine (HO.out W).mono ?_
  rintro e w1 ⟨rfl, b1⟩
  have B1 := Lib.hid b1
  clear b1
  go_wp2_with fail
  go_ret
  exact BPost.no HR.out B1.out
set_option maxRecDepth 20000 in
theorem beh_leaf (a : Option Addr) (n cap : Nat) (g : Nat → CR) (hcw : CW n g) (hn : n ≤ 2048) (r : Nat) (dv : Int) (p : Nat) (W : World) (hv : CV W a n g) (hp : p < n) (ho : oneP (g p) = true) (hh : headP (g p) = false) : Calls Tryd.prog 27 #[.slice a n cap, .int .i64 (p : Nat), .int .i64 dv] W (BPost W (wk g n r p)) := by
  have HR : Hid (wk g n r p = some (p + 1)) := Lib.hid (by cases r with
    | zero => rw [wk_z, if_neg (by omega), ho, hh]; rfl
    | succ r => rw [wk_s, if_neg (by omega), ho, hh]; rfl)
  obtain ⟨res, hres⟩ : ∃ x, x = wk g n r p := ⟨_, rfl⟩
  rw [← hres] at HR ⊢
  clear hres
  obtain ⟨b, off, rfl, hb, k0, k1, k2, k3, k4⟩ := hv p hp
  have HO := Lib.hid (fun W' => rone_any (g p) W' (hcw p hp).2.2.1)
  have HH : (g p).k ≠ 6 ∧ (g p).k ≠ 7 := by simpa [headP] using hh
  rw [ho] at HO
  obtain ⟨c, hc⟩ : ∃ c, c = g p := ⟨_, rfl⟩
  rw [← hc] at k0 k1 k2 k3 k4 HO HH
  have g1 : ¬ ((p : Int) < 0) := by omega
  have g2 : ¬ ((n : Int) ≤ p) := by omega
  have g3 : (p : Int) < n := by omega
  have g4 : (0 : Int) ≤ p := by omega
  have g5 : (n : Int) ≤ 2048 := by omega
  have h6 : ((c.k : Int) != 6) = true := by simp; omega
  have h7 : ((c.k : Int) != 7) = true := by simp; omega
  clear hc hp hcw hv ho hh HH
  go_enter Tryd.func27, Tryd.ntmps27
  go_wp2_with fail
  with_reducible refine (HO.out W).mono ?_
  rintro e w1 ⟨rfl, b1⟩
  have B1 := Lib.hid b1
  have d0 := (b1.cell (World.block_lt_of_cell? _ _ k0)).trans k0
  have d1 := (b1.cell (World.block_lt_of_cell? _ _ k1)).trans k1
  have d2 := (b1.cell (World.block_lt_of_cell? _ _ k2)).trans k2
  have d3 := (b1.cell (World.block_lt_of_cell? _ _ k3)).trans k3
  have d4 := (b1.cell (World.block_lt_of_cell? _ _ k4)).trans k4
  clear b1 k0 k1 k2 k3 k4
  go_wp2_with fail
  go_ret
  exact BPost.yes HR.out (by omega) (B1.out.alloc B1.out.size _)
set_option maxRecDepth 20000 in
theorem beh_deep (a : Option Addr) (n cap : Nat) (g : Nat → CR) (hcw : CW n g) (hn : n ≤ 2048) (r : Nat) (dv : Int) (p : Nat) (W : World) (hv : CV W a n g) (hp : p < n) (ho : oneP (g p) = true) (hh : headP (g p) = true) (hr : r = 0) (hd : dv = 0) : Calls Tryd.prog 27 #[.slice a n cap, .int .i64 (p : Nat), .int .i64 dv] W (BPost W (wk g n r p)) := by
  have HR : Hid (wk g n r p = none) := Lib.hid (by subst hr; rw [wk_z, if_neg (by omega), ho, hh]; rfl)
  obtain ⟨res, hres⟩ : ∃ x, x = wk g n r p := ⟨_, rfl⟩
  rw [← hres] at HR ⊢
  clear hres
  obtain ⟨b, off, rfl, hb, k0, k1, k2, k3, k4⟩ := hv p hp
  have HO := Lib.hid (fun W' => rone_any (g p) W' (hcw p hp).2.2.1)
  have HH : (g p).k = 6 ∨ (g p).k = 7 := by simpa [headP] using hh
  rw [ho] at HO
  obtain ⟨c, hc⟩ : ∃ c, c = g p := ⟨_, rfl⟩
  rw [← hc] at k0 k1 k2 k3 k4 HO HH
  have g1 : ¬ ((p : Int) < 0) := by omega
  have g2 : ¬ ((n : Int) ≤ p) := by omega
  have g3 : (p : Int) < n := by omega
  have g4 : (0 : Int) ≤ p := by omega
  have g5 : (n : Int) ≤ 2048 := by omega
  subst hd
  rcases HH with h | h
  · have h6 : ((c.k : Int) != 6) = false := by simp; omega
    clear hc hp hcw hv ho hh h
    go_enter Tryd.func27, Tryd.ntmps27
    go_wp2_with fail
    with_reducible refine (HO.out W).mono ?_
    rintro e w1 ⟨rfl, b1⟩
    have B1 := Lib.hid b1
    have d0 := (b1.cell (World.block_lt_of_cell? _ _ k0)).trans k0
    have d1 := (b1.cell (World.block_lt_of_cell? _ _ k1)).trans k1
    have d2 := (b1.cell (World.block_lt_of_cell? _ _ k2)).trans k2
    have d3 := (b1.cell (World.block_lt_of_cell? _ _ k3)).trans k3
    have d4 := (b1.cell (World.block_lt_of_cell? _ _ k4)).trans k4
    clear b1 k0 k1 k2 k3 k4
    go_wp2_with fail
    go_ret
    exact BPost.no HR.out (B1.out.alloc B1.out.size _)
  · have h6 : ((c.k : Int) != 6) = true := by simp; omega
    have h7 : ((c.k : Int) != 7) = false := by simp; omega
    clear hc hp hcw hv ho hh h
    go_enter Tryd.func27, Tryd.ntmps27
    go_wp2_with fail
    with_reducible refine (HO.out W).mono ?_
    rintro e w1 ⟨rfl, b1⟩
    have B1 := Lib.hid b1
    have d0 := (b1.cell (World.block_lt_of_cell? _ _ k0)).trans k0
    have d1 := (b1.cell (World.block_lt_of_cell? _ _ k1)).trans k1
    have d2 := (b1.cell (World.block_lt_of_cell? _ _ k2)).trans k2
    have d3 := (b1.cell (World.block_lt_of_cell? _ _ k3)).trans k3
    have d4 := (b1.cell (World.block_lt_of_cell? _ _ k4)).trans k4
    clear b1 k0 k1 k2 k3 k4
    go_wp2_with fail
    go_ret
    exact BPost.no HR.out (B1.out.alloc B1.out.size _)
end Go.Proofs.YtpbbmnefcfllmaaDoor

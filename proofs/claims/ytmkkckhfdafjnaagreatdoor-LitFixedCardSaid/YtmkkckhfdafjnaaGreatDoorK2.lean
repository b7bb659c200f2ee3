import Derived.Test.YtmkkckhfdafjnaaGreatDoorK1
import Derived.LoopTactic
import Derived.Maps.OwnSet
import Derived.Maps.AppendAt
import Derived.Laws.ResultCell
import Derived.Laws.EntriesVeiled
import Derived.StringKeys
import Derived.IntWalk
/- Layer 3: names, and the checks of the kinds by their numbers. -/
namespace Go.Proofs.YtmkkckhfdafjnaaGreatDoor
open Go.RowKit
/-- What a name may have at a place. -/
def okAt (b : UInt8) (j : Nat) : Bool := letB b || (decide (j ≠ 0) && dgB b)
theorem all_from : ∀ (l : List UInt8) (j : Nat), (∀ i (h : i < l.length), okAt l[i] (j + 1 + i) = true) ↔ l.all (fun c => letB c || dgB c) = true
  | [], _ => by simp
  | b :: r, j => by
    have ih := all_from r (j + 1)
    rw [List.all_cons, Bool.and_eq_true, ← ih]
    constructor
    · intro h
      refine ⟨?_, fun i hi => ?_⟩
      · have := h 0 (by simp)
        simpa [okAt] using this
      · have := h (i + 1) (by simpa using hi)
        rw [show j + 1 + (i + 1) = j + 1 + 1 + i by omega] at this
        exact this
    · rintro ⟨h1, h2⟩ i hi
      cases i with
      | zero => simpa [okAt] using h1
      | succ i =>
        have := h2 i (by simpa using hi)
        rw [show j + 1 + (i + 1) = j + 1 + 1 + i by omega]
        exact this
theorem nm_iff (s : ByteArray) : nmB s = true ↔ s.size ≠ 0 ∧ ∀ i (h : i < s.size), okAt s[i] i = true := by
  have e : s.size = s.data.toList.length := by rw [Array.length_toList]; rfl
  have hget : ∀ i (h : i < s.size), s[i] = s.data.toList[i]'(by rw [← e]; exact h) := fun i h => rfl
  have key : (∀ i (h : i < s.size), okAt s[i] i = true) ↔ ∀ i (h : i < s.data.toList.length), okAt s.data.toList[i] i = true :=
    ⟨fun k i h => by have := k i (by rw [e]; exact h); rw [hget] at this; exact this, fun k i h => by rw [hget]; exact k i _⟩
  rw [key, e]
  unfold nmB
  generalize s.data.toList = l
  cases l with
  | nil => simp [nmL]
  | cons b r =>
    have := all_from r 0
    unfold nmL
    rw [Bool.and_eq_true, ← this]
    constructor
    · rintro ⟨h1, h2⟩
      refine ⟨by simp, fun i hi => ?_⟩
      cases i with
      | zero => simpa [okAt] using h1
      | succ i =>
        have := h2 i (by simpa using hi)
        rw [show 0 + 1 + i = i + 1 by omega] at this
        exact this
    · rintro ⟨_, h⟩
      refine ⟨?_, fun i hi => ?_⟩
      · have := h 0 (by simp)
        simpa [okAt] using this
      · have := h (i + 1) (by simpa using hi)
        rw [show 0 + 1 + i = i + 1 by omega]
        exact this
theorem nm_bad {s : ByteArray} {i : Nat} (h : i < s.size) (hb : okAt s[i] i = false) : nmB s = false := by
  cases hn : nmB s with
  | false => rfl
  | true => rw [((nm_iff s).1 hn).2 i h] at hb; cases hb
theorem by256c {P : UInt8 → Bool} (h : (List.range 256).all (fun n => P (UInt8.ofNat n)) = true) (b : UInt8) : P b = true := by
  have := List.all_eq_true.1 h b.toNat (List.mem_range.2 (UInt8.toNat_lt b))
  simpa using this
theorem let_val (b : UInt8) : letB b = (decide (b.toNat = 95) || (decide (97 ≤ b.toNat) && decide (b.toNat ≤ 122)) || (decide (65 ≤ b.toNat) && decide (b.toNat ≤ 90))) := by
  have := by256c (P := fun b => letB b == (decide (b.toNat = 95) || (decide (97 ≤ b.toNat) && decide (b.toNat ≤ 122)) || (decide (65 ≤ b.toNat) && decide (b.toNat ≤ 90)))) (by decide +kernel) b
  simpa using this
theorem dg_val (b : UInt8) : dgB b = (decide (48 ≤ b.toNat) && decide (b.toNat ≤ 57)) := by
  have := by256c (P := fun b => dgB b == (decide (48 ≤ b.toNat) && decide (b.toNat ≤ 57))) (by decide +kernel) b
  simpa using this
set_option maxRecDepth 20000 in
set_option maxHeartbeats 2000000 in
theorem name_any (s : ByteArray) (w : World) (hs : s.size ≤ 1000000) : Calls Tryz.prog 95 #[.string s] w fun e w' => e = .returned (.bool (nmB s)) ∧ w' = w := by
  obtain ⟨r, hr⟩ : ∃ r, r = nmB s := ⟨_, rfl⟩
  rw [← hr]
  have HR := Lib.hid hr
  clear hr
  go_enter Tryz.func95, Tryz.ntmps95
  go_wp2_with fail
  go_loop [3] (fun v => ∃ i : Nat, i ≤ s.size ∧ v = .int .i64 i ∧ Hid (∀ j (h : j < s.size), j < i → okAt s[j] j = true)) (fun v => s.size - (intOf v).toNat)
  case atStart => exact ⟨0, Nat.zero_le _, rfl, Lib.hid (fun j _ hj => absurd hj (Nat.not_lt_zero j))⟩
  case round =>
    obtain ⟨i, hi, rfl, HP⟩ := hrel
    by_cases hlt : i < s.size
    · obtain ⟨b, hb⟩ : ∃ b, b = s[i].toNat := ⟨_, rfl⟩
      have k0 : ∀ q : i < s.size, (s[i].toNat : Int) = (b : Nat) := fun q => by rw [hb]
      have HL := Lib.hid (let_val s[i])
      have HD := Lib.hid (dg_val s[i])
      have hb2 : b < 256 := by rw [hb]; exact UInt8.toNat_lt _
      rw [← hb] at HL HD
      clear hb
      have HN : Hid (okAt s[i] i = true → ∀ j (h : j < s.size), j < i + 1 → okAt s[j] j = true) := Lib.hid (fun ho j h hj => by
        by_cases e : j = i
        · subst e; exact ho
        · exact HP.out j h (by omega))
      have HB : Hid (okAt s[i] i = false → r = false) := Lib.hid (fun ho => HR.out.trans (nm_bad hlt ho))
      clear HP HR
      have hi0 : (0 : Int) ≤ (i : Int) := by omega
      rcases (by omega : (0 ≤ b ∧ b ≤ 47) ∨ (48 ≤ b ∧ b ≤ 57) ∨ (58 ≤ b ∧ b ≤ 64) ∨ (65 ≤ b ∧ b ≤ 90) ∨ (91 ≤ b ∧ b ≤ 94) ∨ (95 ≤ b ∧ b ≤ 95) ∨ (96 ≤ b ∧ b ≤ 96) ∨ (97 ≤ b ∧ b ≤ 122) ∨ (123 ≤ b ∧ b ≤ 255)) with ⟨r1, r2⟩ | ⟨r1, r2⟩ | ⟨r1, r2⟩ | ⟨r1, r2⟩ | ⟨r1, r2⟩ | ⟨r1, r2⟩ | ⟨r1, r2⟩ | ⟨r1, r2⟩ | ⟨r1, r2⟩
      · have hL : letB s[i] = false := by rw [HL.out]; simp; omega
        have hD : dgB s[i] = false := by rw [HD.out]; simp; omega
        have g95 : ((b : Int) == 95) = false := by rw [beq_eq_false_iff_ne]; omega
        have g97 : ¬ (97 : Int) ≤ b := by omega
        have g122 : (b : Int) ≤ 122 := by omega
        have g65 : ¬ (65 : Int) ≤ b := by omega
        have g90 : (b : Int) ≤ 90 := by omega
        have g48 : (b : Int) < 48 := by omega
        have g57 : ¬ (57 : Int) < b := by omega
        clear r1 r2 HL HD
        by_cases h0 : i = 0
        · subst h0
          have z0 : (((0 : Nat) : Int) == 0) = true := rfl
          have HO := Lib.hid (HB.out (by unfold okAt; rw [hL, hD]; rfl))
          clear HN HB hL hD
          go_wp2_with fail
          go_ret
          exact ⟨ret_bool HO.out.symm, rfl⟩
        · have z0 : ((i : Int) == 0) = false := by rw [beq_eq_false_iff_ne]; omega
          have HO := Lib.hid (HB.out (by unfold okAt; rw [hL, hD]; simp))
          clear HN HB hL hD h0
          go_wp2_with fail
          go_ret
          exact ⟨ret_bool HO.out.symm, rfl⟩
      · have hL : letB s[i] = false := by rw [HL.out]; simp; omega
        have hD : dgB s[i] = true := by rw [HD.out]; simp; omega
        have g95 : ((b : Int) == 95) = false := by rw [beq_eq_false_iff_ne]; omega
        have g97 : ¬ (97 : Int) ≤ b := by omega
        have g122 : (b : Int) ≤ 122 := by omega
        have g65 : ¬ (65 : Int) ≤ b := by omega
        have g90 : (b : Int) ≤ 90 := by omega
        have g48 : ¬ (b : Int) < 48 := by omega
        have g57 : ¬ (57 : Int) < b := by omega
        clear r1 r2 HL HD
        by_cases h0 : i = 0
        · subst h0
          have z0 : (((0 : Nat) : Int) == 0) = true := rfl
          have HO := Lib.hid (HB.out (by unfold okAt; rw [hL, hD]; rfl))
          clear HN HB hL hD
          go_wp2_with fail
          go_ret
          exact ⟨ret_bool HO.out.symm, rfl⟩
        · have z0 : ((i : Int) == 0) = false := by rw [beq_eq_false_iff_ne]; omega
          have HO := Lib.hid (HN.out (by unfold okAt; rw [hL, hD]; simp [h0]))
          clear HN HB hL hD h0
          go_wp2_with fail
          go_round
          case rel => exact ⟨i + 1, by omega, by go_num, HO⟩
          case measure => simp [intOf]; omega
      · have hL : letB s[i] = false := by rw [HL.out]; simp; omega
        have hD : dgB s[i] = false := by rw [HD.out]; simp; omega
        have g95 : ((b : Int) == 95) = false := by rw [beq_eq_false_iff_ne]; omega
        have g97 : ¬ (97 : Int) ≤ b := by omega
        have g122 : (b : Int) ≤ 122 := by omega
        have g65 : ¬ (65 : Int) ≤ b := by omega
        have g90 : (b : Int) ≤ 90 := by omega
        have g48 : ¬ (b : Int) < 48 := by omega
        have g57 : (57 : Int) < b := by omega
        clear r1 r2 HL HD
        by_cases h0 : i = 0
        · subst h0
          have z0 : (((0 : Nat) : Int) == 0) = true := rfl
          have HO := Lib.hid (HB.out (by unfold okAt; rw [hL, hD]; rfl))
          clear HN HB hL hD
          go_wp2_with fail
          go_ret
          exact ⟨ret_bool HO.out.symm, rfl⟩
        · have z0 : ((i : Int) == 0) = false := by rw [beq_eq_false_iff_ne]; omega
          have HO := Lib.hid (HB.out (by unfold okAt; rw [hL, hD]; simp))
          clear HN HB hL hD h0
          go_wp2_with fail
          go_ret
          exact ⟨ret_bool HO.out.symm, rfl⟩
      · have hL : letB s[i] = true := by rw [HL.out]; simp; omega
        have hD : dgB s[i] = false := by rw [HD.out]; simp; omega
        have g95 : ((b : Int) == 95) = false := by rw [beq_eq_false_iff_ne]; omega
        have g97 : ¬ (97 : Int) ≤ b := by omega
        have g122 : (b : Int) ≤ 122 := by omega
        have g65 : (65 : Int) ≤ b := by omega
        have g90 : (b : Int) ≤ 90 := by omega
        have g48 : ¬ (b : Int) < 48 := by omega
        have g57 : (57 : Int) < b := by omega
        clear r1 r2 HL HD
        have HO := Lib.hid (HN.out (by unfold okAt; rw [hL, hD]; rfl))
        clear HN HB hL hD
        go_wp2_with fail
        go_round
        case rel => exact ⟨i + 1, by omega, by go_num, HO⟩
        case measure => simp [intOf]; omega
      · have hL : letB s[i] = false := by rw [HL.out]; simp; omega
        have hD : dgB s[i] = false := by rw [HD.out]; simp; omega
        have g95 : ((b : Int) == 95) = false := by rw [beq_eq_false_iff_ne]; omega
        have g97 : ¬ (97 : Int) ≤ b := by omega
        have g122 : (b : Int) ≤ 122 := by omega
        have g65 : (65 : Int) ≤ b := by omega
        have g90 : ¬ (b : Int) ≤ 90 := by omega
        have g48 : ¬ (b : Int) < 48 := by omega
        have g57 : (57 : Int) < b := by omega
        clear r1 r2 HL HD
        by_cases h0 : i = 0
        · subst h0
          have z0 : (((0 : Nat) : Int) == 0) = true := rfl
          have HO := Lib.hid (HB.out (by unfold okAt; rw [hL, hD]; rfl))
          clear HN HB hL hD
          go_wp2_with fail
          go_ret
          exact ⟨ret_bool HO.out.symm, rfl⟩
        · have z0 : ((i : Int) == 0) = false := by rw [beq_eq_false_iff_ne]; omega
          have HO := Lib.hid (HB.out (by unfold okAt; rw [hL, hD]; simp))
          clear HN HB hL hD h0
          go_wp2_with fail
          go_ret
          exact ⟨ret_bool HO.out.symm, rfl⟩
      · have hL : letB s[i] = true := by rw [HL.out]; simp; omega
        have hD : dgB s[i] = false := by rw [HD.out]; simp; omega
        have g95 : ((b : Int) == 95) = true := by rw [beq_iff_eq]; omega
        have g97 : ¬ (97 : Int) ≤ b := by omega
        have g122 : (b : Int) ≤ 122 := by omega
        have g65 : (65 : Int) ≤ b := by omega
        have g90 : ¬ (b : Int) ≤ 90 := by omega
        have g48 : ¬ (b : Int) < 48 := by omega
        have g57 : (57 : Int) < b := by omega
        clear r1 r2 HL HD
        have HO := Lib.hid (HN.out (by unfold okAt; rw [hL, hD]; rfl))
        clear HN HB hL hD
        go_wp2_with fail
        go_round
        case rel => exact ⟨i + 1, by omega, by go_num, HO⟩
        case measure => simp [intOf]; omega
      · have hL : letB s[i] = false := by rw [HL.out]; simp; omega
        have hD : dgB s[i] = false := by rw [HD.out]; simp; omega
        have g95 : ((b : Int) == 95) = false := by rw [beq_eq_false_iff_ne]; omega
        have g97 : ¬ (97 : Int) ≤ b := by omega
        have g122 : (b : Int) ≤ 122 := by omega
        have g65 : (65 : Int) ≤ b := by omega
        have g90 : ¬ (b : Int) ≤ 90 := by omega
        have g48 : ¬ (b : Int) < 48 := by omega
        have g57 : (57 : Int) < b := by omega
        clear r1 r2 HL HD
        by_cases h0 : i = 0
        · subst h0
          have z0 : (((0 : Nat) : Int) == 0) = true := rfl
          have HO := Lib.hid (HB.out (by unfold okAt; rw [hL, hD]; rfl))
          clear HN HB hL hD
          go_wp2_with fail
          go_ret
          exact ⟨ret_bool HO.out.symm, rfl⟩
        · have z0 : ((i : Int) == 0) = false := by rw [beq_eq_false_iff_ne]; omega
          have HO := Lib.hid (HB.out (by unfold okAt; rw [hL, hD]; simp))
          clear HN HB hL hD h0
          go_wp2_with fail
          go_ret
          exact ⟨ret_bool HO.out.symm, rfl⟩
      · have hL : letB s[i] = true := by rw [HL.out]; simp; omega
        have hD : dgB s[i] = false := by rw [HD.out]; simp; omega
        have g95 : ((b : Int) == 95) = false := by rw [beq_eq_false_iff_ne]; omega
        have g97 : (97 : Int) ≤ b := by omega
        have g122 : (b : Int) ≤ 122 := by omega
        have g65 : (65 : Int) ≤ b := by omega
        have g90 : ¬ (b : Int) ≤ 90 := by omega
        have g48 : ¬ (b : Int) < 48 := by omega
        have g57 : (57 : Int) < b := by omega
        clear r1 r2 HL HD
        have HO := Lib.hid (HN.out (by unfold okAt; rw [hL, hD]; rfl))
        clear HN HB hL hD
        go_wp2_with fail
        go_round
        case rel => exact ⟨i + 1, by omega, by go_num, HO⟩
        case measure => simp [intOf]; omega
      · have hL : letB s[i] = false := by rw [HL.out]; simp; omega
        have hD : dgB s[i] = false := by rw [HD.out]; simp; omega
        have g95 : ((b : Int) == 95) = false := by rw [beq_eq_false_iff_ne]; omega
        have g97 : (97 : Int) ≤ b := by omega
        have g122 : ¬ (b : Int) ≤ 122 := by omega
        have g65 : (65 : Int) ≤ b := by omega
        have g90 : ¬ (b : Int) ≤ 90 := by omega
        have g48 : ¬ (b : Int) < 48 := by omega
        have g57 : (57 : Int) < b := by omega
        clear r1 r2 HL HD
        by_cases h0 : i = 0
        · subst h0
          have z0 : (((0 : Nat) : Int) == 0) = true := rfl
          have HO := Lib.hid (HB.out (by unfold okAt; rw [hL, hD]; rfl))
          clear HN HB hL hD
          go_wp2_with fail
          go_ret
          exact ⟨ret_bool HO.out.symm, rfl⟩
        · have z0 : ((i : Int) == 0) = false := by rw [beq_eq_false_iff_ne]; omega
          have HO := Lib.hid (HB.out (by unfold okAt; rw [hL, hD]; simp))
          clear HN HB hL hD h0
          go_wp2_with fail
          go_ret
          exact ⟨ret_bool HO.out.symm, rfl⟩
    · have hge : ¬ ((i : Int) < s.size) := by omega
      cases he : em s with
      | true =>
        obtain rfl := em_yes he
        have HO := Lib.hid (HR.out.trans (show nmB ⟨#[]⟩ = false from rfl))
        clear he HP HR
        go_wp2_with fail
        go_ret
        exact ⟨ret_bool HO.out.symm, rfl⟩
      | false =>
        have g := em_no he
        have HO := Lib.hid (HR.out.trans ((nm_iff s).2 ⟨by unfold em at he; simpa using he, fun j h => HP.out j h (by omega)⟩))
        clear he HP HR
        go_wp2_with fail
        go_ret
        exact ⟨ret_bool HO.out.symm, rfl⟩
end Go.Proofs.YtmkkckhfdafjnaaGreatDoor
/- Layer 3: the checks of the kinds, by the kind's number; the array of them. -/
namespace Go.Proofs.YtmkkckhfdafjnaaGreatDoor
open Go.RowKit
theorem ck_yes {s : ByteArray} (h : ckB s = true) : ckE s = 0 := by unfold ckB at h; simpa using h
theorem ck_no {s : ByteArray} (h : ckB s = false) : ckE s ≠ 0 := by unfold ckB at h; simpa using h
set_option maxRecDepth 20000 in
theorem fit0 (c : CR) (w : World) : Calls Tryz.prog 89 #[cv c] w fun e w' => e = .returned (.bool ((em c.tx && decide (c.m = 0)) && (decide (c.n = 0)))) ∧ Below w.heap.size w w' := by
  obtain ⟨r, hr⟩ : ∃ r, r = ((em c.tx && decide (c.m = 0)) && (decide (c.n = 0))) := ⟨_, rfl⟩
  rw [← hr]
  obtain ⟨q, hq⟩ : ∃ q, q = (em c.tx && decide (c.m = 0)) := ⟨_, rfl⟩
  have HC := Lib.hid (bare_any c)
  rw [← hq] at HC hr
  clear hq
  obtain ⟨k, nm, tx, n, m⟩ := c
  unfold cv at HC ⊢
  simp only [] at hr HC ⊢
  cases q with
  | false =>
    have HB := Lib.hid (show r = false by rw [hr]; rfl)
    clear hr
    go_enter Tryz.func89, Tryz.ntmps89
    go_wp2_with fail
    with_reducible refine (HC.out _).mono ?_
    rintro e w1 ⟨rfl, b1⟩
    have B1 := Lib.hid (((Below.refl w.heap.size w).alloc (Nat.le_refl _) (.cells #[.int .u8 k, .string nm, .string tx, .int .i64 n, .int .i64 m] 46)).trans (b1.mono (by simp)))
    have c2 : w1.cell? ⟨w.heap.size, 2, none⟩ = some (.string tx) := by rw [b1.cell (p := ⟨w.heap.size, 2, none⟩) (by simp)]; simp
    have c3 : w1.cell? ⟨w.heap.size, 3, none⟩ = some (.int .i64 n) := by rw [b1.cell (p := ⟨w.heap.size, 3, none⟩) (by simp)]; simp
    clear b1
    go_wp2_with fail
    go_ret
    exact ⟨ret_bool HB.out.symm, B1.out⟩
  | true =>
    by_cases h : n = 0
    · have HB := Lib.hid (show r = true by rw [hr, h]; rfl)
      subst h
      clear hr
      go_enter Tryz.func89, Tryz.ntmps89
      go_wp2_with fail
      with_reducible refine (HC.out _).mono ?_
      rintro e w1 ⟨rfl, b1⟩
      have B1 := Lib.hid (((Below.refl w.heap.size w).alloc (Nat.le_refl _) (.cells #[.int .u8 k, .string nm, .string tx, .int .i64 0, .int .i64 m] 46)).trans (b1.mono (by simp)))
      have c2 : w1.cell? ⟨w.heap.size, 2, none⟩ = some (.string tx) := by rw [b1.cell (p := ⟨w.heap.size, 2, none⟩) (by simp)]; simp
      have c3 : w1.cell? ⟨w.heap.size, 3, none⟩ = some (.int .i64 0) := by rw [b1.cell (p := ⟨w.heap.size, 3, none⟩) (by simp)]; simp
      clear b1
      go_wp2_with fail
      go_ret
      exact ⟨ret_bool HB.out.symm, B1.out⟩
    · have HB := Lib.hid (show r = false by rw [hr, decide_eq_false h]; rfl)
      have g : (n == 0) = false := by rw [beq_eq_false_iff_ne]; exact h
      clear hr h
      go_enter Tryz.func89, Tryz.ntmps89
      go_wp2_with fail
      with_reducible refine (HC.out _).mono ?_
      rintro e w1 ⟨rfl, b1⟩
      have B1 := Lib.hid (((Below.refl w.heap.size w).alloc (Nat.le_refl _) (.cells #[.int .u8 k, .string nm, .string tx, .int .i64 n, .int .i64 m] 46)).trans (b1.mono (by simp)))
      have c2 : w1.cell? ⟨w.heap.size, 2, none⟩ = some (.string tx) := by rw [b1.cell (p := ⟨w.heap.size, 2, none⟩) (by simp)]; simp
      have c3 : w1.cell? ⟨w.heap.size, 3, none⟩ = some (.int .i64 n) := by rw [b1.cell (p := ⟨w.heap.size, 3, none⟩) (by simp)]; simp
      clear b1
      go_wp2_with fail
      go_ret
      exact ⟨ret_bool HB.out.symm, B1.out⟩
set_option maxRecDepth 20000 in
theorem fit1 (c : CR) (w : World) : Calls Tryz.prog 91 #[cv c] w fun e w' => e = .returned (.bool ((em c.tx && decide (c.m = 0)) && (decide (c.n = 0) || decide (c.n = 1)))) ∧ Below w.heap.size w w' := by
  obtain ⟨r, hr⟩ : ∃ r, r = ((em c.tx && decide (c.m = 0)) && (decide (c.n = 0) || decide (c.n = 1))) := ⟨_, rfl⟩
  rw [← hr]
  obtain ⟨q, hq⟩ : ∃ q, q = (em c.tx && decide (c.m = 0)) := ⟨_, rfl⟩
  have HC := Lib.hid (bare_any c)
  rw [← hq] at HC hr
  clear hq
  obtain ⟨k, nm, tx, n, m⟩ := c
  unfold cv at HC ⊢
  simp only [] at hr HC ⊢
  cases q with
  | false =>
    have HB := Lib.hid (show r = false by rw [hr]; rfl)
    clear hr
    go_enter Tryz.func91, Tryz.ntmps91
    go_wp2_with fail
    with_reducible refine (HC.out _).mono ?_
    rintro e w1 ⟨rfl, b1⟩
    have B1 := Lib.hid (((Below.refl w.heap.size w).alloc (Nat.le_refl _) (.cells #[.int .u8 k, .string nm, .string tx, .int .i64 n, .int .i64 m] 46)).trans (b1.mono (by simp)))
    have c2 : w1.cell? ⟨w.heap.size, 2, none⟩ = some (.string tx) := by rw [b1.cell (p := ⟨w.heap.size, 2, none⟩) (by simp)]; simp
    have c3 : w1.cell? ⟨w.heap.size, 3, none⟩ = some (.int .i64 n) := by rw [b1.cell (p := ⟨w.heap.size, 3, none⟩) (by simp)]; simp
    clear b1
    go_wp2_with fail
    go_ret
    exact ⟨ret_bool HB.out.symm, B1.out⟩
  | true =>
    by_cases h : n = 0
    · have HB := Lib.hid (show r = true by rw [hr, h]; rfl)
      subst h
      clear hr
      go_enter Tryz.func91, Tryz.ntmps91
      go_wp2_with fail
      with_reducible refine (HC.out _).mono ?_
      rintro e w1 ⟨rfl, b1⟩
      have B1 := Lib.hid (((Below.refl w.heap.size w).alloc (Nat.le_refl _) (.cells #[.int .u8 k, .string nm, .string tx, .int .i64 0, .int .i64 m] 46)).trans (b1.mono (by simp)))
      have c2 : w1.cell? ⟨w.heap.size, 2, none⟩ = some (.string tx) := by rw [b1.cell (p := ⟨w.heap.size, 2, none⟩) (by simp)]; simp
      have c3 : w1.cell? ⟨w.heap.size, 3, none⟩ = some (.int .i64 0) := by rw [b1.cell (p := ⟨w.heap.size, 3, none⟩) (by simp)]; simp
      clear b1
      go_wp2_with fail
      go_ret
      exact ⟨ret_bool HB.out.symm, B1.out⟩
    · have g : (n == 0) = false := by rw [beq_eq_false_iff_ne]; exact h
      by_cases h1 : n = 1
      · have HB := Lib.hid (show r = true by rw [hr, h1]; rfl)
        subst h1
        clear hr h g
        go_enter Tryz.func91, Tryz.ntmps91
        go_wp2_with fail
        with_reducible refine (HC.out _).mono ?_
        rintro e w1 ⟨rfl, b1⟩
        have B1 := Lib.hid (((Below.refl w.heap.size w).alloc (Nat.le_refl _) (.cells #[.int .u8 k, .string nm, .string tx, .int .i64 1, .int .i64 m] 46)).trans (b1.mono (by simp)))
        have c2 : w1.cell? ⟨w.heap.size, 2, none⟩ = some (.string tx) := by rw [b1.cell (p := ⟨w.heap.size, 2, none⟩) (by simp)]; simp
        have c3 : w1.cell? ⟨w.heap.size, 3, none⟩ = some (.int .i64 1) := by rw [b1.cell (p := ⟨w.heap.size, 3, none⟩) (by simp)]; simp
        clear b1
        go_wp2_with fail
        go_ret
        exact ⟨ret_bool HB.out.symm, B1.out⟩
      · have HB := Lib.hid (show r = false by rw [hr, decide_eq_false h, decide_eq_false h1]; rfl)
        have g1 : (n == 1) = false := by rw [beq_eq_false_iff_ne]; exact h1
        clear hr h h1
        go_enter Tryz.func91, Tryz.ntmps91
        go_wp2_with fail
        with_reducible refine (HC.out _).mono ?_
        rintro e w1 ⟨rfl, b1⟩
        have B1 := Lib.hid (((Below.refl w.heap.size w).alloc (Nat.le_refl _) (.cells #[.int .u8 k, .string nm, .string tx, .int .i64 n, .int .i64 m] 46)).trans (b1.mono (by simp)))
        have c2 : w1.cell? ⟨w.heap.size, 2, none⟩ = some (.string tx) := by rw [b1.cell (p := ⟨w.heap.size, 2, none⟩) (by simp)]; simp
        have c3 : w1.cell? ⟨w.heap.size, 3, none⟩ = some (.int .i64 n) := by rw [b1.cell (p := ⟨w.heap.size, 3, none⟩) (by simp)]; simp
        clear b1
        go_wp2_with fail
        go_ret
        exact ⟨ret_bool HB.out.symm, B1.out⟩
set_option maxRecDepth 20000 in
theorem fit3 (c : CR) (w : World) (hs : c.tx.size ≤ 1000000) : Calls Tryz.prog 92 #[cv c] w fun e w' => e = .returned (.bool ((decide (c.n = 0) && decide (c.m = 0)) && (ckB c.tx))) ∧ Below w.heap.size w w' := by
  obtain ⟨r, hr⟩ : ∃ r, r = ((decide (c.n = 0) && decide (c.m = 0)) && (ckB c.tx)) := ⟨_, rfl⟩
  rw [← hr]
  obtain ⟨q, hq⟩ : ∃ q, q = (decide (c.n = 0) && decide (c.m = 0)) := ⟨_, rfl⟩
  have HC := Lib.hid (only_any c)
  rw [← hq] at HC hr
  clear hq
  obtain ⟨k, nm, tx, n, m⟩ := c
  unfold cv at HC ⊢
  simp only [] at hr hs HC ⊢
  cases q with
  | false =>
    have HB := Lib.hid (show r = false by rw [hr]; rfl)
    clear hr
    go_enter Tryz.func92, Tryz.ntmps92
    go_wp2_with fail
    with_reducible refine (HC.out _).mono ?_
    rintro e w1 ⟨rfl, b1⟩
    have B1 := Lib.hid (((Below.refl w.heap.size w).alloc (Nat.le_refl _) (.cells #[.int .u8 k, .string nm, .string tx, .int .i64 n, .int .i64 m] 46)).trans (b1.mono (by simp)))
    have c2 : w1.cell? ⟨w.heap.size, 2, none⟩ = some (.string tx) := by rw [b1.cell (p := ⟨w.heap.size, 2, none⟩) (by simp)]; simp
    have c3 : w1.cell? ⟨w.heap.size, 3, none⟩ = some (.int .i64 n) := by rw [b1.cell (p := ⟨w.heap.size, 3, none⟩) (by simp)]; simp
    clear b1
    go_wp2_with fail
    go_ret
    exact ⟨ret_bool HB.out.symm, B1.out⟩
  | true =>
    have HK := Lib.hid (fun W => check_any tx W (by unfold maxLen; omega))
    obtain ⟨z, hz⟩ : ∃ z, z = ckE tx := ⟨_, rfl⟩
    rw [← hz] at HK
    cases hk : ckB tx with
    | true =>
      have hz0 := hz.trans (ck_yes hk)
      subst hz0
      have HB := Lib.hid (show r = true by rw [hr, hk]; rfl)
      clear hr hk hz hs
      go_enter Tryz.func92, Tryz.ntmps92
      go_wp2_with fail
      with_reducible refine (HC.out _).mono ?_
      rintro e w1 ⟨rfl, b1⟩
      have B1 := Lib.hid (((Below.refl w.heap.size w).alloc (Nat.le_refl _) (.cells #[.int .u8 k, .string nm, .string tx, .int .i64 n, .int .i64 m] 46)).trans (b1.mono (by simp)))
      have c2 : w1.cell? ⟨w.heap.size, 2, none⟩ = some (.string tx) := by rw [b1.cell (p := ⟨w.heap.size, 2, none⟩) (by simp)]; simp
      have c3 : w1.cell? ⟨w.heap.size, 3, none⟩ = some (.int .i64 n) := by rw [b1.cell (p := ⟨w.heap.size, 3, none⟩) (by simp)]; simp
      clear b1
      go_wp2_with fail
      with_reducible refine (HK.out w1).mono ?_
      rintro e w2 ⟨rfl, b2⟩
      have B2 := Lib.hid (B1.out.trans (b2.mono B1.out.size))
      clear b2 B1
      go_wp2_with fail
      go_ret
      exact ⟨ret_bool HB.out.symm, B2.out⟩
    | false =>
      have g : (z == 0) = false := by rw [beq_eq_false_iff_ne, hz]; exact ck_no hk
      have HB := Lib.hid (show r = false by rw [hr, hk]; rfl)
      clear hr hk hz hs
      go_enter Tryz.func92, Tryz.ntmps92
      go_wp2_with fail
      with_reducible refine (HC.out _).mono ?_
      rintro e w1 ⟨rfl, b1⟩
      have B1 := Lib.hid (((Below.refl w.heap.size w).alloc (Nat.le_refl _) (.cells #[.int .u8 k, .string nm, .string tx, .int .i64 n, .int .i64 m] 46)).trans (b1.mono (by simp)))
      have c2 : w1.cell? ⟨w.heap.size, 2, none⟩ = some (.string tx) := by rw [b1.cell (p := ⟨w.heap.size, 2, none⟩) (by simp)]; simp
      have c3 : w1.cell? ⟨w.heap.size, 3, none⟩ = some (.int .i64 n) := by rw [b1.cell (p := ⟨w.heap.size, 3, none⟩) (by simp)]; simp
      clear b1
      go_wp2_with fail
      with_reducible refine (HK.out w1).mono ?_
      rintro e w2 ⟨rfl, b2⟩
      have B2 := Lib.hid (B1.out.trans (b2.mono B1.out.size))
      clear b2 B1
      go_wp2_with fail
      go_ret
      exact ⟨ret_bool HB.out.symm, B2.out⟩
set_option maxRecDepth 20000 in
theorem fit4 (c : CR) (w : World) (hs : c.tx.size ≤ 1000000) : Calls Tryz.prog 94 #[cv c] w fun e w' => e = .returned (.bool ((decide (c.n = 0) && decide (c.m = 0)) && (nmB c.tx))) ∧ Below w.heap.size w w' := by
  obtain ⟨r, hr⟩ : ∃ r, r = ((decide (c.n = 0) && decide (c.m = 0)) && (nmB c.tx)) := ⟨_, rfl⟩
  rw [← hr]
  obtain ⟨q, hq⟩ : ∃ q, q = (decide (c.n = 0) && decide (c.m = 0)) := ⟨_, rfl⟩
  have HC := Lib.hid (only_any c)
  rw [← hq] at HC hr
  clear hq
  obtain ⟨k, nm, tx, n, m⟩ := c
  unfold cv at HC ⊢
  simp only [] at hr hs HC ⊢
  cases q with
  | false =>
    have HB := Lib.hid (show r = false by rw [hr]; rfl)
    clear hr
    go_enter Tryz.func94, Tryz.ntmps94
    go_wp2_with fail
    with_reducible refine (HC.out _).mono ?_
    rintro e w1 ⟨rfl, b1⟩
    have B1 := Lib.hid (((Below.refl w.heap.size w).alloc (Nat.le_refl _) (.cells #[.int .u8 k, .string nm, .string tx, .int .i64 n, .int .i64 m] 46)).trans (b1.mono (by simp)))
    have c2 : w1.cell? ⟨w.heap.size, 2, none⟩ = some (.string tx) := by rw [b1.cell (p := ⟨w.heap.size, 2, none⟩) (by simp)]; simp
    have c3 : w1.cell? ⟨w.heap.size, 3, none⟩ = some (.int .i64 n) := by rw [b1.cell (p := ⟨w.heap.size, 3, none⟩) (by simp)]; simp
    clear b1
    go_wp2_with fail
    go_ret
    exact ⟨ret_bool HB.out.symm, B1.out⟩
  | true =>
    have HK := Lib.hid (fun W => name_any tx W hs)
    obtain ⟨z, hz⟩ : ∃ z, z = nmB tx := ⟨_, rfl⟩
    rw [← hz] at HK
    have HB := Lib.hid (show r = z by rw [hr, hz]; rfl)
    clear hr hz hs
    go_enter Tryz.func94, Tryz.ntmps94
    go_wp2_with fail
    with_reducible refine (HC.out _).mono ?_
    rintro e w1 ⟨rfl, b1⟩
    have B1 := Lib.hid (((Below.refl w.heap.size w).alloc (Nat.le_refl _) (.cells #[.int .u8 k, .string nm, .string tx, .int .i64 n, .int .i64 m] 46)).trans (b1.mono (by simp)))
    have c2 : w1.cell? ⟨w.heap.size, 2, none⟩ = some (.string tx) := by rw [b1.cell (p := ⟨w.heap.size, 2, none⟩) (by simp)]; simp
    have c3 : w1.cell? ⟨w.heap.size, 3, none⟩ = some (.int .i64 n) := by rw [b1.cell (p := ⟨w.heap.size, 3, none⟩) (by simp)]; simp
    clear b1
    go_wp2_with fail
    have K := HK.out w1
    with_reducible refine K.mono ?_
    rintro e w2 ⟨rfl, hq1⟩
    have hq2 := hq1.symm
    clear hq1 K
    subst hq2
    cases z <;> (go_wp2_with fail; go_ret; exact ⟨ret_bool HB.out.symm, B1.out⟩)
set_option maxRecDepth 20000 in
theorem fit5 (c : CR) (w : World) (hs : c.tx.size ≤ 1000000) : Calls Tryz.prog 96 #[cv c] w fun e w' => e = .returned (.bool ((decide (c.n = 0) && decide (c.m = 0)) && (nmB c.tx))) ∧ Below w.heap.size w w' := by
  obtain ⟨r, hr⟩ : ∃ r, r = ((decide (c.n = 0) && decide (c.m = 0)) && (nmB c.tx)) := ⟨_, rfl⟩
  rw [← hr]
  obtain ⟨q, hq⟩ : ∃ q, q = (decide (c.n = 0) && decide (c.m = 0)) := ⟨_, rfl⟩
  have HC := Lib.hid (only_any c)
  rw [← hq] at HC hr
  clear hq
  obtain ⟨k, nm, tx, n, m⟩ := c
  unfold cv at HC ⊢
  simp only [] at hr hs HC ⊢
  cases q with
  | false =>
    have HB := Lib.hid (show r = false by rw [hr]; rfl)
    clear hr
    go_enter Tryz.func96, Tryz.ntmps96
    go_wp2_with fail
    with_reducible refine (HC.out _).mono ?_
    rintro e w1 ⟨rfl, b1⟩
    have B1 := Lib.hid (((Below.refl w.heap.size w).alloc (Nat.le_refl _) (.cells #[.int .u8 k, .string nm, .string tx, .int .i64 n, .int .i64 m] 46)).trans (b1.mono (by simp)))
    have c2 : w1.cell? ⟨w.heap.size, 2, none⟩ = some (.string tx) := by rw [b1.cell (p := ⟨w.heap.size, 2, none⟩) (by simp)]; simp
    have c3 : w1.cell? ⟨w.heap.size, 3, none⟩ = some (.int .i64 n) := by rw [b1.cell (p := ⟨w.heap.size, 3, none⟩) (by simp)]; simp
    clear b1
    go_wp2_with fail
    go_ret
    exact ⟨ret_bool HB.out.symm, B1.out⟩
  | true =>
    have HK := Lib.hid (fun W => name_any tx W hs)
    obtain ⟨z, hz⟩ : ∃ z, z = nmB tx := ⟨_, rfl⟩
    rw [← hz] at HK
    have HB := Lib.hid (show r = z by rw [hr, hz]; rfl)
    clear hr hz hs
    go_enter Tryz.func96, Tryz.ntmps96
    go_wp2_with fail
    with_reducible refine (HC.out _).mono ?_
    rintro e w1 ⟨rfl, b1⟩
    have B1 := Lib.hid (((Below.refl w.heap.size w).alloc (Nat.le_refl _) (.cells #[.int .u8 k, .string nm, .string tx, .int .i64 n, .int .i64 m] 46)).trans (b1.mono (by simp)))
    have c2 : w1.cell? ⟨w.heap.size, 2, none⟩ = some (.string tx) := by rw [b1.cell (p := ⟨w.heap.size, 2, none⟩) (by simp)]; simp
    have c3 : w1.cell? ⟨w.heap.size, 3, none⟩ = some (.int .i64 n) := by rw [b1.cell (p := ⟨w.heap.size, 3, none⟩) (by simp)]; simp
    clear b1
    go_wp2_with fail
    have K := HK.out w1
    with_reducible refine K.mono ?_
    rintro e w2 ⟨rfl, hq1⟩
    have hq2 := hq1.symm
    clear hq1 K
    subst hq2
    cases z <;> (go_wp2_with fail; go_ret; exact ⟨ret_bool HB.out.symm, B1.out⟩)
/-- The function that checks a kind. -/
def fo : Nat → Nat
  | 0 => 89
  | 1 => 91
  | 2 => 90
  | 3 => 92
  | 4 => 94
  | 5 => 96
  | _ => 97
theorem fit_any (c : CR) (w : World) (hk : c.k < 8) (hs : c.tx.size ≤ 1000000) : Calls Tryz.prog (fo c.k) #[cv c] w fun e w' => e = .returned (.bool (oneP c)) ∧ Below w.heap.size w w' := by
  have C0 := fit0 c w
  have C1 := fit1 c w
  have C2 := bare_any c w
  have C3 := fit3 c w hs
  have C4 := fit4 c w hs
  have C5 := fit5 c w hs
  have C6 := head_any c w
  unfold oneP
  rcases (by omega : c.k = 0 ∨ c.k = 1 ∨ c.k = 2 ∨ c.k = 3 ∨ c.k = 4 ∨ c.k = 5 ∨ c.k = 6 ∨ c.k = 7) with e | e | e | e | e | e | e | e <;> rw [e]
  · exact C0
  · exact C1
  · exact C2
  · exact C3
  · exact C4
  · exact C5
  · exact C6
  · exact C6
/-- The array of the checks. -/
def rulesA : Array Value := #[.func (.func (fo 0)) #[] #[], .func (.func (fo 1)) #[] #[], .func (.func (fo 2)) #[] #[], .func (.func (fo 3)) #[] #[], .func (.func (fo 4)) #[] #[], .func (.func (fo 5)) #[] #[], .func (.func (fo 6)) #[] #[], .func (.func (fo 7)) #[] #[]]
end Go.Proofs.YtmkkckhfdafjnaaGreatDoor
/- Layer 3: the array of the checks; the names that an object's members have had. -/
namespace Go.Proofs.YtmkkckhfdafjnaaGreatDoor
open Go.RowKit Go.Maps Go.WideMaps
theorem infoRules : (Tryz.prog.info? 147).map (·.size) = some 8 := by
  have h := Tryz.typeInfo147 default
  unfold typeInfo at h
  cases hq : Tryz.prog.info? 147 with
  | none => simp [hq] at h
  | some i =>
    simp [hq] at h
    rw [h]; rfl
theorem ret_rules {R : Ending → World → Prop} {fn : Func} {tmps : Array Value} {w : World} {g : Nat} {cs : Array Value} (hr : fn.results = #[.cell 0 147]) (h2 : tmps.getD 0 undef = .pointer (some ⟨g, 0, none⟩)) (hg : w.heap[g]? = some (.cells cs 147)) (hs : cs.size = 8)
    (hR : R (.returned (.agg cs)) w) : bodyPost Tryz.prog fn R .ret ⟨tmps, []⟩ w := by
  refine bodyPost_ret (v := .agg cs) ?_ rfl hR
  exact results_cell_row hr tmps w g 147 cs (0, 0) _ h2 hg Tryz.underlying147 rfl (by rw [infoRules, hs])
set_option maxRecDepth 20000 in
theorem rules_any (w : World) : Calls Tryz.prog 80 #[] w fun e w' => e = .returned (.agg rulesA) ∧ Below w.heap.size w w' := by
  have HA := Lib.hid (heap_alloc_new w (.cells rulesA 147))
  unfold rulesA fo at HA ⊢
  go_enter Tryz.func80, Tryz.ntmps80
  go_wp2_with fail

  exact ret_rules Tryz.results80 rfl HA.out rfl ⟨rfl, (Below.refl _ w).alloc (Nat.le_refl _) _⟩
theorem law9 : Keyed Tryz.prog 9 := string_keyed Tryz.underlying9
theorem zeroU (w : World) : (zeroValue 68).run Tryz.prog w = .ok (.agg #[]) w := by kernel_rfl
def keyL (s : ByteArray) : Lit := .string s.data.toList
def setN (names : List ByteArray) : DataW Unit := setOf (.agg []) (names.reverse.map keyL)
theorem setN_cons (s : ByteArray) (names : List ByteArray) : setN (s :: names) = (setN names).put (keyL s) (.agg []) := by
  unfold setN
  rw [List.reverse_cons, List.map_append]
  exact setOf_snoc _ _ _
theorem has_setN (names : List ByteArray) (s : ByteArray) : Maps.has (setN names) (keyL s) = names.any (fun x => decide (x = s)) := by
  unfold setN
  rw [has_setOf _ _ _ (fun x hx => by obtain ⟨y, _, rfl⟩ := List.mem_map.1 hx; trivial)]
  rw [List.any_map, Bool.eq_iff_iff, List.any_eq_true, List.any_eq_true]
  have e : ∀ x : ByteArray, ((fun x => x.sameKey (keyL s)) ∘ keyL) x = decide (x = s) := fun x => by
    rw [Bool.eq_iff_iff, decide_eq_true_eq]
    show (x.data.toList == s.data.toList) = true ↔ _
    rw [beq_iff_eq, Array.toList_inj]
    exact ⟨fun h => ByteArray.ext h, fun h => by rw [h]⟩
  constructor
  · rintro ⟨x, hx, h⟩
    rw [e] at h
    exact ⟨x, List.mem_reverse.1 hx, h⟩
  · rintro ⟨x, hx, h⟩
    exact ⟨x, List.mem_reverse.2 hx, by rw [e]; exact h⟩
/-- A map that holds the names met. -/
def Met (w : World) (b n : Nat) (names : List ByteArray) : Prop := w.ownsMap Tryz.prog 9 (unitElem (H := Unit)) b n (setN names)
set_option maxRecDepth 20000 in
theorem named_item (m : Value) (s : ByteArray) (w : World) : Calls Tryz.prog 83 #[m, .int .u8 6, .string s] w fun e w' => e = .returned (.bool (namedP false [] s)) ∧ w' = w := by
  cases h : em s with
  | true =>
    have HB := Lib.hid (show namedP false [] s = true by unfold namedP; exact h)
    obtain ⟨r, hr⟩ : ∃ r, r = namedP false [] s := ⟨_, rfl⟩
    rw [← hr] at HB ⊢
    clear hr
    obtain rfl := em_yes h
    clear h
    go_enter Tryz.func83, Tryz.ntmps83
    go_wp2_with fail
    go_ret
    exact ⟨ret_bool HB.out.symm, rfl⟩
  | false =>
    have HB := Lib.hid (show namedP false [] s = false by unfold namedP; exact h)
    obtain ⟨r, hr⟩ : ∃ r, r = namedP false [] s := ⟨_, rfl⟩
    rw [← hr] at HB ⊢
    clear hr
    have g := em_no h
    clear h
    go_enter Tryz.func83, Tryz.ntmps83
    go_wp2_with fail
    go_ret
    exact ⟨ret_bool HB.out.symm, rfl⟩
set_option maxRecDepth 20000 in
set_option maxHeartbeats 1000000 in
theorem named_obj (b n : Nat) (names : List ByteArray) (s : ByteArray) (w : World) (hs : s.size ≤ maxLen) (hown : Met w b n names) (hn : n ≤ 1000000) :
    Calls Tryz.prog 83 #[.map (some b), .int .u8 7, .string s] w fun e w' => e = .returned (.bool (namedP true names s)) ∧ Met w' b (n + 1) (s :: names) ∧ w.grownBy w' (some b) := by
  obtain ⟨r, hr⟩ : ∃ r, r = namedP true names s := ⟨_, rfl⟩
  rw [← hr]
  have HK := Lib.hid (fun W => check_any s W hs)
  obtain ⟨z, hz⟩ : ∃ z, z = ckE s := ⟨_, rfl⟩
  rw [← hz] at HK
  have hkey : keyOf Tryz.prog 9 (.string s) = some (keyL s) := keyOf_string_mk Tryz.underlying9 hs
  have hh := has_setN names s
  obtain ⟨t, ht⟩ : ∃ t, t = names.any (fun x => decide (x = s)) := ⟨_, rfl⟩
  rw [← ht] at hh
  have HR : Hid (r = (!t && !em s && ckB s)) := Lib.hid (by rw [hr, ht]; rfl)
  have HZ : Hid (ckB s = decide (z = 0)) := Lib.hid (by unfold ckB; rw [hz])
  have HKEY := Lib.hid hkey
  have HH := Lib.hid hh
  have HOWN := Lib.hid hown
  clear hr hz hkey hh ht hown hs
  have base : ∀ W : World, W.ownsMap Tryz.prog 9 (unitElem (H := Unit)) b (n + 1) ((setN names).put (keyL s) (.agg [])) → Met W b (n + 1) (s :: names) := fun W h => by unfold Met; rw [setN_cons]; exact h
  have BASE := Lib.hid base
  clear base
  cases t with
  | true =>
    have HB := Lib.hid (show r = false by rw [HR.out]; rfl)
    clear HR HZ HK
    go_enter Tryz.func83, Tryz.ntmps83
    go_wp2_with (first
      | (at_lookup; refine wpList_lookup_own_unit _ rfl _ _ 98 rfl 9 68 law9 Tryz.underlying98 (zeroU _) b n _ rfl HOWN.out _ _ rfl HKEY.out ?_; rw [HH.out])
      | (at_mapUpdate; refine wpList_mapUpdate_own _ rfl _ _ _ 98 rfl 9 68 law9 Tryz.underlying98 (unitElem (H := Unit)) b n _ rfl (HOWN.out.alloc _) (by unfold maxLen; omega) _ _ _ rfl rfl HKEY.out _ [] unitElem_mk ?_; intro w1 hown1 hg1; have M1 := Lib.hid (BASE.out _ hown1); have G1 : Hid (w.grownBy w1 (some b)) := Lib.hid ((World.grownBy_alloc w _ _).trans hg1); clear hown1 hg1))
    go_ret
    exact ⟨ret_bool HB.out.symm, M1.out, G1.out⟩
  | false =>
    cases h : em s with
    | true =>
      have HB := Lib.hid (show r = false by rw [HR.out, h]; rfl)
      obtain rfl := em_yes h
      clear h HR HZ HK
      go_enter Tryz.func83, Tryz.ntmps83
      go_wp2_with (first
        | (at_lookup; refine wpList_lookup_own_unit _ rfl _ _ 98 rfl 9 68 law9 Tryz.underlying98 (zeroU _) b n _ rfl HOWN.out _ _ rfl HKEY.out ?_; rw [HH.out])
        | (at_mapUpdate; refine wpList_mapUpdate_own _ rfl _ _ _ 98 rfl 9 68 law9 Tryz.underlying98 (unitElem (H := Unit)) b n _ rfl (HOWN.out.alloc _) (by unfold maxLen; omega) _ _ _ rfl rfl HKEY.out _ [] unitElem_mk ?_; intro w1 hown1 hg1; have M1 := Lib.hid (BASE.out _ hown1); have G1 : Hid (w.grownBy w1 (some b)) := Lib.hid ((World.grownBy_alloc w _ _).trans hg1); clear hown1 hg1))
      go_ret
      exact ⟨ret_bool HB.out.symm, M1.out, G1.out⟩
    | false =>
      have g := em_no h
      have HB := Lib.hid (show r = decide (z = 0) by rw [HR.out, h, HZ.out]; simp)
      clear h HR HZ
      go_enter Tryz.func83, Tryz.ntmps83
      go_wp2_with (first
        | (at_lookup; refine wpList_lookup_own_unit _ rfl _ _ 98 rfl 9 68 law9 Tryz.underlying98 (zeroU _) b n _ rfl HOWN.out _ _ rfl HKEY.out ?_; rw [HH.out])
        | (at_mapUpdate; refine wpList_mapUpdate_own _ rfl _ _ _ 98 rfl 9 68 law9 Tryz.underlying98 (unitElem (H := Unit)) b n _ rfl (HOWN.out.alloc _) (by unfold maxLen; omega) _ _ _ rfl rfl HKEY.out _ [] unitElem_mk ?_; intro w1 hown1 hg1; have M1 := Lib.hid (BASE.out _ hown1); have G1 : Hid (w.grownBy w1 (some b)) := Lib.hid ((World.grownBy_alloc w _ _).trans hg1); clear hown1 hg1))
      with_reducible refine (HK.out w1).mono ?_
      rintro e w2 ⟨rfl, b2⟩
      have G2 : Hid (w1.grownBy w2 none) := Lib.hid ⟨b2.os, b2.tape, b2.output, b2.size, fun k hk _ => b2.block k hk⟩
      have M2 : Hid (Met w2 b (n + 1) (s :: names)) := Lib.hid (M1.out.kept G2.out (by simp))
      have G3 : Hid (w.grownBy w2 (some b)) := Lib.hid (G1.out.trans ⟨b2.os, b2.tape, b2.output, b2.size, fun k hk _ => b2.block k hk⟩)
      clear b2 M1 G1 HK
      by_cases hz : z = 0
      · subst hz
        go_wp2_with fail
        go_ret
        exact ⟨ret_bool HB.out.symm, M2.out, G3.out⟩
      · have gz : (z == 0) = false := by rw [beq_eq_false_iff_ne]; exact hz
        replace HB := Lib.hid (HB.out.trans (decide_eq_false hz))
        clear hz
        go_wp2_with fail
        go_ret
        exact ⟨ret_bool HB.out.symm, M2.out, G3.out⟩
end Go.Proofs.YtmkkckhfdafjnaaGreatDoor
/- Layer 3: cells in memory; what the closure of Check finds. -/
namespace Go.Proofs.YtmkkckhfdafjnaaGreatDoor
open Go.RowKit Go.Maps
/-- A row of cells reads so. -/
def CV (w : World) (a : Option Addr) (n : Nat) (g : Nat → CR) : Prop :=
  ∀ i, i < n → ∃ b off, a = some ⟨b, off, none⟩ ∧ b < w.heap.size ∧ w.cell? ⟨b, off + i * 5, none⟩ = some (.int .u8 (g i).k) ∧ w.cell? ⟨b, off + i * 5 + 1, none⟩ = some (.string (g i).nm) ∧ w.cell? ⟨b, off + i * 5 + 2, none⟩ = some (.string (g i).tx) ∧ w.cell? ⟨b, off + i * 5 + 3, none⟩ = some (.int .i64 (g i).n) ∧ w.cell? ⟨b, off + i * 5 + 4, none⟩ = some (.int .i64 (g i).m)
/-- How large they are. -/
def CW (n : Nat) (g : Nat → CR) : Prop := ∀ i, i < n → (g i).k < 256 ∧ (g i).nm.size ≤ maxLen ∧ (g i).tx.size ≤ 1000000 ∧ -9223372036854775808 ≤ (g i).m ∧ (g i).m ≤ 9223372036854775807
theorem CV.same {w w' : World} {a : Option Addr} {n : Nat} {g : Nat → CR} (h : CV w a n g) (hs : w.heap.size ≤ w'.heap.size) (hb : ∀ b off, a = some ⟨b, off, none⟩ → b < w.heap.size → w'.heap[b]? = w.heap[b]?) : CV w' a n g := fun i hi => by
  obtain ⟨b, off, e, h0, h1, h2, h3, h4, h5⟩ := h i hi
  have hh := hb b off e h0
  have c : ∀ o, w'.cell? ⟨b, o, none⟩ = w.cell? ⟨b, o, none⟩ := fun o => World.cell?_of_block hh
  exact ⟨b, off, e, by omega, by rw [c]; exact h1, by rw [c]; exact h2, by rw [c]; exact h3, by rw [c]; exact h4, by rw [c]; exact h5⟩
theorem CV.below {w w' : World} {a : Option Addr} {n : Nat} {g : Nat → CR} (h : CV w a n g) (hb : Below w.heap.size w w') : CV w' a n g :=
  h.same hb.size fun b _ _ hl => hb.block b hl
theorem World.grownBy.far {w w1 w2 : World} {p : Option Nat} {b : Nat} (h : w.grownBy w1 p) (k : w1.grownBy w2 (some b)) (hb : w.heap.size ≤ b) : w.grownBy w2 p :=
  ⟨k.os.trans h.os, k.tape.trans h.tape, k.output.trans h.output, Nat.le_trans h.size k.size, fun i hi hne => (k.block i (Nat.lt_of_lt_of_le hi h.size) (fun e => by cases e; omega)).trans (h.block i hi hne)⟩
theorem Below.grown' {w w1 w2 : World} {p : Option Nat} (h : w.grownBy w1 p) (k : Below w1.heap.size w1 w2) : w.grownBy w2 p :=
  ⟨k.os.trans h.os, k.tape.trans h.tape, k.output.trans h.output, Nat.le_trans h.size k.size, fun i hi hne => (k.block i (Nat.lt_of_lt_of_le hi h.size)).trans (h.block i hi hne)⟩
/-- What the closure has captured, but for where it is. -/
structure Env (W : World) (pa pv pr pw : Nat) (a : Option Addr) (n cap : Nat) (g : Nat → CR) : Prop where
  v : W.cell? ⟨pv, 0, none⟩ = some (.slice a n cap)
  rules : ∀ k, k < 8 → W.cell? ⟨pr, k, none⟩ = some (.func (.func (fo k)) #[] #[])
  walk : W.cell? ⟨pw, 0, none⟩ = some (.func (.func 81) #[] #[.pointer (some ⟨pa, 0, none⟩), .pointer (some ⟨pv, 0, none⟩), .pointer (some ⟨pr, 0, none⟩), .pointer (some ⟨pw, 0, none⟩)])
  cv : CV W a n g
  n1 : pv ≠ pa
  n2 : pr ≠ pa
  n3 : pw ≠ pa
  n4 : ∀ b off, a = some ⟨b, off, none⟩ → b ≠ pa
theorem Env.up {W W' : World} {pa pv pr pw : Nat} {a : Option Addr} {n cap : Nat} {g : Nat → CR} (h : Env W pa pv pr pw a n cap g) (k : W.grownBy W' (some pa)) : Env W' pa pv pr pw a n cap g :=
  have f : ∀ {q : Nat} {o : Nat} {x : Value}, q ≠ pa → W.cell? ⟨q, o, none⟩ = some x → W'.cell? ⟨q, o, none⟩ = some x := fun hq hx => k.cell hx (fun e => hq (by cases e; rfl))
  ⟨f h.n1 h.v, fun i hi => f h.n2 (h.rules i hi), f h.n3 h.walk, h.cv.same k.size (fun b off e hl => k.block b hl (fun q => h.n4 b off e (by cases q; rfl))), h.n1, h.n2, h.n3, h.n4⟩
/-- Where it is. -/
def At (W : World) (pa p : Nat) : Prop := W.heap[pa]? = some (.cells #[.int .i64 (p : Nat)] 3)
theorem At.c {W : World} {pa p : Nat} (h : At W pa p) : W.cell? ⟨pa, 0, none⟩ = some (.int .i64 (p : Nat)) := by simp [World.cell?, show W.heap[pa]? = _ from h]
theorem At.f {W : World} {pa p : Nat} (h : At W pa p) : W.frozen? ⟨pa, 0, none⟩ = false := by simp [World.frozen?, show W.heap[pa]? = _ from h]
theorem At.lt {W : World} {pa p : Nat} (h : At W pa p) : pa < W.heap.size := (Array.getElem?_eq_some_iff.1 h).1
theorem At.set {W : World} {pa p : Nat} (h : At W pa p) (q : Nat) : At (W.setCell ⟨pa, 0, none⟩ (.int .i64 (q : Nat))) pa q := by
  unfold At at h ⊢
  simp [World.setCell, Array.getElem?_modify, h]
theorem At.keep {W W' : World} {pa p : Nat} {row : Option Nat} (h : At W pa p) (k : W.grownBy W' row) (hne : some pa ≠ row) : At W' pa p := (k.block pa h.lt hne).trans h
theorem grown_set (W : World) (pa : Nat) (v : Value) : W.grownBy (W.setCell ⟨pa, 0, none⟩ v) (some pa) :=
  ⟨rfl, rfl, rfl, by simp [World.setCell], fun i _ hne => RowKit.Below.heap_setCell _ _ _ _ (fun e => hne (by rw [show i = pa from e]))⟩
theorem grown_drew {W W' : World} {row : Option Nat} (h : W.grownBy W' row) (d : Nat) : W.grownBy (W'.drewN d) row := ⟨h.os, h.tape, h.output, h.size, h.block⟩
theorem grown_drew1 {W W' : World} {row : Option Nat} (h : W.grownBy W' row) : W.grownBy W'.drew row := ⟨h.os, h.tape, h.output, h.size, h.block⟩
theorem grown_refl (W : World) (row : Option Nat) : W.grownBy W row := ⟨rfl, rfl, rfl, Nat.le_refl _, fun _ _ _ => rfl⟩
end Go.Proofs.YtmkkckhfdafjnaaGreatDoor
/- Layer 3: the closure of Check: what ends it at once. -/
namespace Go.Proofs.YtmkkckhfdafjnaaGreatDoor
open Go.RowKit Go.Maps
def WkPost (W : World) (pa : Nat) (res : Option Nat) (e : Ending) (W' : World) : Prop :=
  e = .returned (.bool res.isSome) ∧ W.grownBy W' (some pa) ∧ ∃ q, At W' pa q ∧ ∀ e', res = some e' → q = e'
/-- What holds while a cell's copy is looked at. -/
def FS (W : World) (pa p B pr fk : Nat) (c : CR) (w' : World) : Prop :=
  w'.cell? ⟨B, 0, none⟩ = some (.int .u8 c.k) ∧ w'.cell? ⟨B, 1, none⟩ = some (.string c.nm) ∧ w'.cell? ⟨B, 2, none⟩ = some (.string c.tx) ∧ w'.cell? ⟨B, 3, none⟩ = some (.int .i64 c.n) ∧ w'.cell? ⟨B, 4, none⟩ = some (.int .i64 c.m) ∧ w'.cell? ⟨pr, c.k, none⟩ = some (.func (.func fk) #[] #[]) ∧ W.grownBy w' (some pa) ∧ At w' pa p
theorem FS.up {W : World} {pa p B pr fk : Nat} {c : CR} {w w' : World} (h : FS W pa p B pr fk c w) (b : Below w.heap.size w w') : FS W pa p B pr fk c w' := by
  obtain ⟨h0, h1, h2, h3, h4, h5, h6, h7⟩ := h
  have f : ∀ {q o : Nat} {x : Value}, w.cell? ⟨q, o, none⟩ = some x → w'.cell? ⟨q, o, none⟩ = some x := fun hx => (b.cell (World.block_lt_of_cell? _ _ hx)).trans hx
  exact ⟨f h0, f h1, f h2, f h3, f h4, f h5, Below.grown' h6 b, (b.block pa h7.lt).trans h7⟩
theorem WkPost.no {W W' : World} {pa q : Nat} {res : Option Nat} {b : Bool} (hr : res = none) (hb : b = false) (hg : W.grownBy W' (some pa)) (ha : At W' pa q) : WkPost W pa res (.returned (.bool b)) W' := by
  subst hr hb; exact ⟨rfl, hg, q, ha, fun e' h => by cases h⟩
theorem WkPost.yes {W W' : World} {pa q : Nat} {res : Option Nat} {b : Bool} (hr : res = some q) (hb : b = true) (hg : W.grownBy W' (some pa)) (ha : At W' pa q) : WkPost W pa res (.returned (.bool b)) W' := by
  subst hr hb; exact ⟨rfl, hg, q, ha, fun e' h => by cases h; rfl⟩
theorem fo_call (k : Nat) (hk : k < 8) (args : Array Value) (w : World) : (callFunc (fo k) args).run Tryz.prog w = .ok (.enter (fo k) args) w := by
  rcases (by omega : k = 0 ∨ k = 1 ∨ k = 2 ∨ k = 3 ∨ k = 4 ∨ k = 5 ∨ k = 6 ∨ k = 7) with rfl | rfl | rfl | rfl | rfl | rfl | rfl | rfl <;> kernel_rfl
set_option maxRecDepth 20000 in
theorem walk_end (d : Int) (W : World) {pa pv pr pw : Nat} {a : Option Addr} {n cap : Nat} {g : Nat → CR} (E : Env W pa pv pr pw a n cap g) {p : Nat} (A : At W pa p) (hp : n ≤ p) (r : Nat) :
    Calls Tryz.prog 81 #[.int .i64 d, .pointer (some ⟨pa, 0, none⟩), .pointer (some ⟨pv, 0, none⟩), .pointer (some ⟨pr, 0, none⟩), .pointer (some ⟨pw, 0, none⟩)] W (WkPost W pa (wk g n r p)) := by
  have HR : Hid (wk g n r p = none) := Lib.hid (by cases r with
    | zero => rw [wk_z, if_pos hp]
    | succ r => rw [wk_s, if_pos hp])
  obtain ⟨res, hres⟩ : ∃ x, x = wk g n r p := ⟨_, rfl⟩
  rw [← hres] at HR ⊢
  clear hres
  have c0 := A.c
  have c1 := E.v
  have hp' : (n : Int) ≤ p := by omega
  have HA := Lib.hid A
  clear A E hp
  go_enter Tryz.func81, Tryz.ntmps81
  go_wp2_with fail
  go_ret
  exact WkPost.no HR.out rfl (grown_refl _ _) HA.out
set_option maxRecDepth 20000 in
set_option maxHeartbeats 1000000 in
theorem walk_bad8 (d : Int) (W : World) {pa pv pr pw : Nat} {a : Option Addr} {n cap : Nat} {g : Nat → CR} (E : Env W pa pv pr pw a n cap g) (hcw : CW n g) {p : Nat} (A : At W pa p) (hp : p < n) (hm : n ≤ 2048) (r : Nat) (h8 : 8 ≤ (g p).k) :
    Calls Tryz.prog 81 #[.int .i64 d, .pointer (some ⟨pa, 0, none⟩), .pointer (some ⟨pv, 0, none⟩), .pointer (some ⟨pr, 0, none⟩), .pointer (some ⟨pw, 0, none⟩)] W (WkPost W pa (wk g n r p)) := by
  have ho : oneP (g p) = false := by
    unfold oneP
    rw [if_neg (by omega), if_neg (by omega), if_neg (by omega), if_neg (by omega), if_neg (by omega), if_neg (by omega)]
  have HR : Hid (wk g n r p = none) := Lib.hid (by cases r with
    | zero => rw [wk_z, if_neg (by omega), ho]; rfl
    | succ r => rw [wk_s, if_neg (by omega), ho]; rfl)
  obtain ⟨res, hres⟩ : ∃ x, x = wk g n r p := ⟨_, rfl⟩
  rw [← hres] at HR ⊢
  clear hres ho
  have c0 := A.c
  have c1 := E.v
  obtain ⟨b, off, rfl, hb, k0, k1, k2, k3, k4⟩ := E.cv p hp
  have hk := (hcw p hp).1
  obtain ⟨c, hc⟩ : ∃ c, c = g p := ⟨_, rfl⟩
  rw [← hc] at k0 k1 k2 k3 k4 h8 hk
  clear hc
  have hp1 : (0 : Int) ≤ p := by omega
  have hp2 : (p : Int) < n := by omega
  have h8' : (8 : Int) ≤ (c.k : Int) := by omega
  have HA := Lib.hid A
  have hlt := A.lt
  clear A E hp h8
  go_enter Tryz.func81, Tryz.ntmps81
  go_wp2_with fail
  go_quiet (fail)
  go_wp2_with fail
  go_ret
  exact WkPost.no HR.out rfl (grown_drew (World.grownBy_alloc _ _ _) _) (HA.out.keep (row := none) (grown_drew (World.grownBy_alloc _ _ _) _) (by simp))
set_option maxRecDepth 20000 in
set_option maxHeartbeats 2000000 in
theorem walk_misfit (d : Int) (W : World) {pa pv pr pw : Nat} {a : Option Addr} {n cap : Nat} {g : Nat → CR} (E : Env W pa pv pr pw a n cap g) (hcw : CW n g) {p : Nat} (A : At W pa p) (hp : p < n) (hm : n ≤ 2048) (r : Nat) (h8 : (g p).k < 8) (ho : oneP (g p) = false) :
    Calls Tryz.prog 81 #[.int .i64 d, .pointer (some ⟨pa, 0, none⟩), .pointer (some ⟨pv, 0, none⟩), .pointer (some ⟨pr, 0, none⟩), .pointer (some ⟨pw, 0, none⟩)] W (WkPost W pa (wk g n r p)) := by
  have HR : Hid (wk g n r p = none) := Lib.hid (by cases r with
    | zero => rw [wk_z, if_neg (by omega), ho]; rfl
    | succ r => rw [wk_s, if_neg (by omega), ho]; rfl)
  obtain ⟨res, hres⟩ : ∃ x, x = wk g n r p := ⟨_, rfl⟩
  rw [← hres] at HR ⊢
  clear hres
  have c0 := A.c
  have c1 := E.v
  have hmm := (hcw p hp).2.2.2
  obtain ⟨b, off, rfl, hb, k0, k1, k2, k3, k4⟩ := E.cv p hp
  have HF := Lib.hid (fun W' => fit_any (g p) W' h8 (hcw p hp).2.2.1)
  rw [ho] at HF
  obtain ⟨c, hc⟩ : ∃ c, c = g p := ⟨_, rfl⟩
  rw [← hc] at k0 k1 k2 k3 k4 h8 HF hmm
  clear hc ho
  have r0 := E.rules c.k h8
  have hp1 : (0 : Int) ≤ p := by omega
  have hp2 : (p : Int) < n := by omega
  have hp3 : (n : Int) ≤ 2048 := by omega
  have h8a : (0 : Int) ≤ (c.k : Int) := by omega
  have h8b : (c.k : Int) < 8 := by omega
  have h8c : decide (8 ≤ c.k) = false := by simpa using h8
  have h8e : decide ((8 : Int) ≤ (c.k : Int)) = false := by simp; omega
  have h8w : IntKind.i64.wrap (c.k : Int) = (c.k : Int) := IntWalk.i64_in _ (by omega)
  have HA := Lib.hid A
  have HE := Lib.hid E
  have hlt := A.lt
  unfold cv at HF
  obtain ⟨fk, hfk⟩ : ∃ x, x = fo c.k := ⟨_, rfl⟩
  have hcall := fo_call c.k h8
  rw [← hfk] at r0 HF hcall
  have hn2 := E.n2
  have hprl := World.block_lt_of_cell? _ _ r0
  clear A E hp h8 hfk
  go_enter Tryz.func81, Tryz.ntmps81
  go_wp2_with fail
  obtain ⟨W1, hW1⟩ : ∃ x, x = W.alloc (.cells #[.int .u8 c.k, .string c.nm, .string c.tx, .int .i64 c.n, .int .i64 c.m] 46) := ⟨_, rfl⟩
  have G1 : Hid (W.grownBy W1 (some pa)) := Lib.hid (by rw [hW1]; exact World.grownBy_alloc _ _ _)
  have d0 : W1.cell? ⟨W.heap.size, 0, none⟩ = some (.int .u8 c.k) := by rw [hW1]; simp
  have d1 : W1.cell? ⟨W.heap.size, 1, none⟩ = some (.string c.nm) := by rw [hW1]; simp
  have d2 : W1.cell? ⟨W.heap.size, 2, none⟩ = some (.string c.tx) := by rw [hW1]; simp
  have d3 : W1.cell? ⟨W.heap.size, 3, none⟩ = some (.int .i64 c.n) := by rw [hW1]; simp
  have d4 : W1.cell? ⟨W.heap.size, 4, none⟩ = some (.int .i64 c.m) := by rw [hW1]; simp
  have r1 : W1.cell? ⟨pr, c.k, none⟩ = some (.func (.func fk) #[] #[]) := G1.out.cell r0 (fun e => hn2 (by cases e; rfl))
  have A1 := Lib.hid (HA.out.keep (row := none) (show W.grownBy W1 none by rw [hW1]; exact World.grownBy_alloc _ _ _) (by simp))
  rw [← hW1]
  clear hW1 c0 c1 k0 k1 k2 k3 k4 r0
  obtain ⟨B, hB⟩ : ∃ x, x = W.heap.size := ⟨_, rfl⟩
  rw [← hB] at d0 d1 d2 d3 d4 ⊢
  replace hB := Lib.hid hB
  have hSS : FS W pa p B pr fk c W1.drew := ⟨d0, d1, d2, d3, d4, r1, grown_drew1 G1.out, A1.out⟩
  have HC : Hid (∀ w', FS W pa p B pr fk c w' → Calls Tryz.prog fk #[.agg #[.int .u8 c.k, .string c.nm, .string c.tx, .int .i64 c.n, .int .i64 c.m]] w' fun e w2 => e = .returned (.bool false) ∧ FS W pa p B pr fk c w2) := Lib.hid (fun w' h => (HF.out w').mono fun e w2 ⟨h1, h2⟩ => ⟨h1, h.up h2⟩)
  clear HF G1 A1
  go_region_held3 (fun w' => w'.cell? ⟨B, 0, none⟩ = some (.int .u8 c.k) ∧ w'.cell? ⟨B, 1, none⟩ = some (.string c.nm) ∧ w'.cell? ⟨B, 2, none⟩ = some (.string c.tx) ∧ w'.cell? ⟨B, 3, none⟩ = some (.int .i64 c.n) ∧ w'.cell? ⟨B, 4, none⟩ = some (.int .i64 c.m) ∧ w'.cell? ⟨pr, c.k, none⟩ = some (.func (.func fk) #[] #[]) ∧ W.grownBy w' (some pa) ∧ At w' pa p)
    ((first | exact hSS | assumption))
    (first | ((with_reducible refine (HC.out _ (by assumption)).mono ?_); rintro e w' ⟨rfl, hS2⟩; unfold FS at hS2))
  rename_i hH
  clear hH
  clear d0 d1 d2 d3 d4 r1 hSS HC hcall h8w h8e h8c
  obtain ⟨d0, d1, d2, d3, d4, r1, G2, A2⟩ := hS2
  replace G2 := Lib.hid G2
  replace A2 := Lib.hid A2
  clear r1
  go_wp2_with fail
  go_ret
  exact WkPost.no HR.out rfl G2.out A2.out
set_option maxRecDepth 20000 in
set_option maxHeartbeats 2000000 in
theorem walk_leaf (d : Int) (W : World) {pa pv pr pw : Nat} {a : Option Addr} {n cap : Nat} {g : Nat → CR} (E : Env W pa pv pr pw a n cap g) (hcw : CW n g) {p : Nat} (A : At W pa p) (hp : p < n) (hm : n ≤ 2048) (r : Nat) (h8 : (g p).k < 8) (ho : oneP (g p) = true) (hhead : headP (g p) = false) :
    Calls Tryz.prog 81 #[.int .i64 d, .pointer (some ⟨pa, 0, none⟩), .pointer (some ⟨pv, 0, none⟩), .pointer (some ⟨pr, 0, none⟩), .pointer (some ⟨pw, 0, none⟩)] W (WkPost W pa (wk g n r p)) := by
  have HR : Hid (wk g n r p = some (p + 1)) := Lib.hid (by 
    have hh : headP (g p) = false := hhead
    cases r with
    | zero => rw [wk_z, if_neg (by omega), ho, hh]; rfl
    | succ r => rw [wk_s, if_neg (by omega), ho, hh]; rfl)
  obtain ⟨res, hres⟩ : ∃ x, x = wk g n r p := ⟨_, rfl⟩
  rw [← hres] at HR ⊢
  clear hres
  have c0 := A.c
  have c1 := E.v
  have hmm := (hcw p hp).2.2.2
  obtain ⟨b, off, rfl, hb, k0, k1, k2, k3, k4⟩ := E.cv p hp
  have HF := Lib.hid (fun W' => fit_any (g p) W' h8 (hcw p hp).2.2.1)
  rw [ho] at HF
  have HM := Lib.hid (fun W' => more_any (g p) W')
  rw [show (decide ((g p).k = 6) || decide ((g p).k = 7)) = false from hhead] at HM
  obtain ⟨c, hc⟩ : ∃ c, c = g p := ⟨_, rfl⟩
  rw [← hc] at k0 k1 k2 k3 k4 h8 HF hmm HM
  clear hc ho hhead
  have r0 := E.rules c.k h8
  have hp1 : (0 : Int) ≤ p := by omega
  have hp2 : (p : Int) < n := by omega
  have hp3 : (n : Int) ≤ 2048 := by omega
  have h8a : (0 : Int) ≤ (c.k : Int) := by omega
  have h8b : (c.k : Int) < 8 := by omega
  have h8c : decide (8 ≤ c.k) = false := by simpa using h8
  have h8e : decide ((8 : Int) ≤ (c.k : Int)) = false := by simp; omega
  have h8w : IntKind.i64.wrap (c.k : Int) = (c.k : Int) := IntWalk.i64_in _ (by omega)
  have HA := Lib.hid A
  have HE := Lib.hid E
  have hlt := A.lt
  unfold cv at HF HM
  obtain ⟨fk, hfk⟩ : ∃ x, x = fo c.k := ⟨_, rfl⟩
  have hcall := fo_call c.k h8
  rw [← hfk] at r0 HF hcall
  have hn2 := E.n2
  have hprl := World.block_lt_of_cell? _ _ r0
  clear A E hp h8 hfk
  go_enter Tryz.func81, Tryz.ntmps81
  go_wp2_with fail
  obtain ⟨W1, hW1⟩ : ∃ x, x = W.alloc (.cells #[.int .u8 c.k, .string c.nm, .string c.tx, .int .i64 c.n, .int .i64 c.m] 46) := ⟨_, rfl⟩
  have G1 : Hid (W.grownBy W1 (some pa)) := Lib.hid (by rw [hW1]; exact World.grownBy_alloc _ _ _)
  have d0 : W1.cell? ⟨W.heap.size, 0, none⟩ = some (.int .u8 c.k) := by rw [hW1]; simp
  have d1 : W1.cell? ⟨W.heap.size, 1, none⟩ = some (.string c.nm) := by rw [hW1]; simp
  have d2 : W1.cell? ⟨W.heap.size, 2, none⟩ = some (.string c.tx) := by rw [hW1]; simp
  have d3 : W1.cell? ⟨W.heap.size, 3, none⟩ = some (.int .i64 c.n) := by rw [hW1]; simp
  have d4 : W1.cell? ⟨W.heap.size, 4, none⟩ = some (.int .i64 c.m) := by rw [hW1]; simp
  have r1 : W1.cell? ⟨pr, c.k, none⟩ = some (.func (.func fk) #[] #[]) := G1.out.cell r0 (fun e => hn2 (by cases e; rfl))
  have A1 := Lib.hid (HA.out.keep (row := none) (show W.grownBy W1 none by rw [hW1]; exact World.grownBy_alloc _ _ _) (by simp))
  rw [← hW1]
  clear hW1 c0 c1 k0 k1 k2 k3 k4 r0
  obtain ⟨B, hB⟩ : ∃ x, x = W.heap.size := ⟨_, rfl⟩
  rw [← hB] at d0 d1 d2 d3 d4 ⊢
  replace hB := Lib.hid hB
  have hSS : FS W pa p B pr fk c W1.drew := ⟨d0, d1, d2, d3, d4, r1, grown_drew1 G1.out, A1.out⟩
  have HC : Hid (∀ w', FS W pa p B pr fk c w' → Calls Tryz.prog fk #[.agg #[.int .u8 c.k, .string c.nm, .string c.tx, .int .i64 c.n, .int .i64 c.m]] w' fun e w2 => e = .returned (.bool true) ∧ FS W pa p B pr fk c w2) := Lib.hid (fun w' h => (HF.out w').mono fun e w2 ⟨h1, h2⟩ => ⟨h1, h.up h2⟩)
  clear HF G1 A1
  go_region_held3 (fun w' => w'.cell? ⟨B, 0, none⟩ = some (.int .u8 c.k) ∧ w'.cell? ⟨B, 1, none⟩ = some (.string c.nm) ∧ w'.cell? ⟨B, 2, none⟩ = some (.string c.tx) ∧ w'.cell? ⟨B, 3, none⟩ = some (.int .i64 c.n) ∧ w'.cell? ⟨B, 4, none⟩ = some (.int .i64 c.m) ∧ w'.cell? ⟨pr, c.k, none⟩ = some (.func (.func fk) #[] #[]) ∧ W.grownBy w' (some pa) ∧ At w' pa p)
    ((first | exact hSS | assumption))
    (first | ((with_reducible refine (HC.out _ (by assumption)).mono ?_); rintro e w' ⟨rfl, hS2⟩; unfold FS at hS2))
  rename_i hH
  clear hH
  clear d0 d1 d2 d3 d4 r1 hSS HC hcall h8w h8e h8c
  obtain ⟨d0, d1, d2, d3, d4, r1, G2, A2⟩ := hS2
  have c2 := A2.c
  have f2 := A2.f
  replace G2 := Lib.hid G2
  replace A2 := Lib.hid A2
  clear r1
  have hpa : B ≠ pa := by rw [hB.out]; omega
  obtain ⟨W3, hW3⟩ : ∃ x, x = w'.setCell ⟨pa, 0, none⟩ (.int .i64 ((p : Int) + 1)) := ⟨_, rfl⟩
  have hS3 : Hid (At W3 pa (p + 1) ∧ W.grownBy W3 (some pa) ∧ w'.grownBy W3 (some pa)) := Lib.hid (by
    rw [hW3]
    have g := grown_set w' pa (.int .i64 ((p : Int) + 1))
    exact ⟨A2.out.set (p + 1), G2.out.trans g, g⟩)
  have e0 := hS3.out.2.2.cell d0 (fun e => hpa (by cases e; rfl))
  have e1 := hS3.out.2.2.cell d1 (fun e => hpa (by cases e; rfl))
  have e2 := hS3.out.2.2.cell d2 (fun e => hpa (by cases e; rfl))
  have e3 := hS3.out.2.2.cell d3 (fun e => hpa (by cases e; rfl))
  have e4 := hS3.out.2.2.cell d4 (fun e => hpa (by cases e; rfl))
  have HW3 := Lib.hid hW3
  rw [hW3] at e0 e1 e2 e3 e4
  clear hW3 d0 d1 d2 d3 d4 A2 G2 hpa
  go_wp2_with fail
  rw [← HW3.out] at e0 e1 e2 e3 e4 ⊢
  clear HW3 c2 f2
  with_reducible refine (HM.out W3).mono ?_
  rintro e w4 ⟨rfl, b4⟩
  have S4 : Hid (At w4 pa (p + 1) ∧ W.grownBy w4 (some pa) ∧ W3.heap.size ≤ w4.heap.size) := Lib.hid ⟨(b4.block pa hS3.out.1.lt).trans hS3.out.1, Below.grown' hS3.out.2.1 b4, b4.size⟩
  have q0 := (b4.cell (World.block_lt_of_cell? _ _ e0)).trans e0
  have q4 := (b4.cell (World.block_lt_of_cell? _ _ e4)).trans e4
  clear b4 e0 e1 e2 e3 e4 HM
  go_wp2_with fail
  go_ret
  exact WkPost.yes HR.out rfl S4.out.2.1 S4.out.1
set_option maxRecDepth 20000 in
set_option maxHeartbeats 2000000 in
theorem walk_deep (d : Int) (W : World) {pa pv pr pw : Nat} {a : Option Addr} {n cap : Nat} {g : Nat → CR} (E : Env W pa pv pr pw a n cap g) (hcw : CW n g) {p : Nat} (A : At W pa p) (hp : p < n) (hm : n ≤ 2048) (r : Nat) (h8 : (g p).k < 8) (ho : oneP (g p) = true) (hhead : headP (g p) = true) (hr : r = 0) (hd : d = 16) :
    Calls Tryz.prog 81 #[.int .i64 d, .pointer (some ⟨pa, 0, none⟩), .pointer (some ⟨pv, 0, none⟩), .pointer (some ⟨pr, 0, none⟩), .pointer (some ⟨pw, 0, none⟩)] W (WkPost W pa (wk g n r p)) := by
  have HR : Hid (wk g n r p = none) := Lib.hid (by 
    subst hr
    rw [wk_z, if_neg (by omega), ho, hhead]; rfl)
  obtain ⟨res, hres⟩ : ∃ x, x = wk g n r p := ⟨_, rfl⟩
  rw [← hres] at HR ⊢
  clear hres
  have c0 := A.c
  have c1 := E.v
  have hmm := (hcw p hp).2.2.2
  obtain ⟨b, off, rfl, hb, k0, k1, k2, k3, k4⟩ := E.cv p hp
  have HF := Lib.hid (fun W' => fit_any (g p) W' h8 (hcw p hp).2.2.1)
  rw [ho] at HF
  have HM := Lib.hid (fun W' => more_any (g p) W')
  rw [show (decide ((g p).k = 6) || decide ((g p).k = 7)) = true from hhead] at HM
  obtain ⟨c, hc⟩ : ∃ c, c = g p := ⟨_, rfl⟩
  rw [← hc] at k0 k1 k2 k3 k4 h8 HF hmm HM
  clear hc ho hhead hr
  subst hd
  have r0 := E.rules c.k h8
  have hp1 : (0 : Int) ≤ p := by omega
  have hp2 : (p : Int) < n := by omega
  have hp3 : (n : Int) ≤ 2048 := by omega
  have h8a : (0 : Int) ≤ (c.k : Int) := by omega
  have h8b : (c.k : Int) < 8 := by omega
  have h8c : decide (8 ≤ c.k) = false := by simpa using h8
  have h8e : decide ((8 : Int) ≤ (c.k : Int)) = false := by simp; omega
  have h8w : IntKind.i64.wrap (c.k : Int) = (c.k : Int) := IntWalk.i64_in _ (by omega)
  have HA := Lib.hid A
  have HE := Lib.hid E
  have hlt := A.lt
  unfold cv at HF HM
  obtain ⟨fk, hfk⟩ : ∃ x, x = fo c.k := ⟨_, rfl⟩
  have hcall := fo_call c.k h8
  rw [← hfk] at r0 HF hcall
  have hn2 := E.n2
  have hprl := World.block_lt_of_cell? _ _ r0
  clear A E hp h8 hfk
  go_enter Tryz.func81, Tryz.ntmps81
  go_wp2_with fail
  obtain ⟨W1, hW1⟩ : ∃ x, x = W.alloc (.cells #[.int .u8 c.k, .string c.nm, .string c.tx, .int .i64 c.n, .int .i64 c.m] 46) := ⟨_, rfl⟩
  have G1 : Hid (W.grownBy W1 (some pa)) := Lib.hid (by rw [hW1]; exact World.grownBy_alloc _ _ _)
  have d0 : W1.cell? ⟨W.heap.size, 0, none⟩ = some (.int .u8 c.k) := by rw [hW1]; simp
  have d1 : W1.cell? ⟨W.heap.size, 1, none⟩ = some (.string c.nm) := by rw [hW1]; simp
  have d2 : W1.cell? ⟨W.heap.size, 2, none⟩ = some (.string c.tx) := by rw [hW1]; simp
  have d3 : W1.cell? ⟨W.heap.size, 3, none⟩ = some (.int .i64 c.n) := by rw [hW1]; simp
  have d4 : W1.cell? ⟨W.heap.size, 4, none⟩ = some (.int .i64 c.m) := by rw [hW1]; simp
  have r1 : W1.cell? ⟨pr, c.k, none⟩ = some (.func (.func fk) #[] #[]) := G1.out.cell r0 (fun e => hn2 (by cases e; rfl))
  have A1 := Lib.hid (HA.out.keep (row := none) (show W.grownBy W1 none by rw [hW1]; exact World.grownBy_alloc _ _ _) (by simp))
  rw [← hW1]
  clear hW1 c0 c1 k0 k1 k2 k3 k4 r0
  obtain ⟨B, hB⟩ : ∃ x, x = W.heap.size := ⟨_, rfl⟩
  rw [← hB] at d0 d1 d2 d3 d4 ⊢
  replace hB := Lib.hid hB
  have hSS : FS W pa p B pr fk c W1.drew := ⟨d0, d1, d2, d3, d4, r1, grown_drew1 G1.out, A1.out⟩
  have HC : Hid (∀ w', FS W pa p B pr fk c w' → Calls Tryz.prog fk #[.agg #[.int .u8 c.k, .string c.nm, .string c.tx, .int .i64 c.n, .int .i64 c.m]] w' fun e w2 => e = .returned (.bool true) ∧ FS W pa p B pr fk c w2) := Lib.hid (fun w' h => (HF.out w').mono fun e w2 ⟨h1, h2⟩ => ⟨h1, h.up h2⟩)
  clear HF G1 A1
  go_region_held3 (fun w' => w'.cell? ⟨B, 0, none⟩ = some (.int .u8 c.k) ∧ w'.cell? ⟨B, 1, none⟩ = some (.string c.nm) ∧ w'.cell? ⟨B, 2, none⟩ = some (.string c.tx) ∧ w'.cell? ⟨B, 3, none⟩ = some (.int .i64 c.n) ∧ w'.cell? ⟨B, 4, none⟩ = some (.int .i64 c.m) ∧ w'.cell? ⟨pr, c.k, none⟩ = some (.func (.func fk) #[] #[]) ∧ W.grownBy w' (some pa) ∧ At w' pa p)
    ((first | exact hSS | assumption))
    (first | ((with_reducible refine (HC.out _ (by assumption)).mono ?_); rintro e w' ⟨rfl, hS2⟩; unfold FS at hS2))
  rename_i hH
  clear hH
  clear d0 d1 d2 d3 d4 r1 hSS HC hcall h8w h8e h8c
  obtain ⟨d0, d1, d2, d3, d4, r1, G2, A2⟩ := hS2
  have c2 := A2.c
  have f2 := A2.f
  replace G2 := Lib.hid G2
  replace A2 := Lib.hid A2
  clear r1
  have hpa : B ≠ pa := by rw [hB.out]; omega
  obtain ⟨W3, hW3⟩ : ∃ x, x = w'.setCell ⟨pa, 0, none⟩ (.int .i64 ((p : Int) + 1)) := ⟨_, rfl⟩
  have hS3 : Hid (At W3 pa (p + 1) ∧ W.grownBy W3 (some pa) ∧ w'.grownBy W3 (some pa)) := Lib.hid (by
    rw [hW3]
    have g := grown_set w' pa (.int .i64 ((p : Int) + 1))
    exact ⟨A2.out.set (p + 1), G2.out.trans g, g⟩)
  have e0 := hS3.out.2.2.cell d0 (fun e => hpa (by cases e; rfl))
  have e1 := hS3.out.2.2.cell d1 (fun e => hpa (by cases e; rfl))
  have e2 := hS3.out.2.2.cell d2 (fun e => hpa (by cases e; rfl))
  have e3 := hS3.out.2.2.cell d3 (fun e => hpa (by cases e; rfl))
  have e4 := hS3.out.2.2.cell d4 (fun e => hpa (by cases e; rfl))
  have HW3 := Lib.hid hW3
  rw [hW3] at e0 e1 e2 e3 e4
  clear hW3 d0 d1 d2 d3 d4 A2 G2 hpa
  go_wp2_with fail
  rw [← HW3.out] at e0 e1 e2 e3 e4 ⊢
  clear HW3 c2 f2
  with_reducible refine (HM.out W3).mono ?_
  rintro e w4 ⟨rfl, b4⟩
  have S4 : Hid (At w4 pa (p + 1) ∧ W.grownBy w4 (some pa) ∧ W3.heap.size ≤ w4.heap.size) := Lib.hid ⟨(b4.block pa hS3.out.1.lt).trans hS3.out.1, Below.grown' hS3.out.2.1 b4, b4.size⟩
  have q0 := (b4.cell (World.block_lt_of_cell? _ _ e0)).trans e0
  have q4 := (b4.cell (World.block_lt_of_cell? _ _ e4)).trans e4
  clear b4 e0 e1 e2 e3 e4 HM
  go_wp2_with fail
  go_ret
  exact WkPost.no HR.out rfl S4.out.2.1 S4.out.1
end Go.Proofs.YtmkkckhfdafjnaaGreatDoor

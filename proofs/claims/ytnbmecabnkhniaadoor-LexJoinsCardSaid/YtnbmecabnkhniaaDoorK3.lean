import Derived.Test.YtnbmecabnkhniaaDoorK2
import Derived.Test.YtnbmecabnkhniaaDoorK1
import Derived.BigQuiet
import Derived.Deep.RegionHeld3
import Derived.Deep.DeepCutAuto
import Derived.Deep.QuietTactic
import Derived.LoopTactic
import Derived.Laws.AppendOwn
import Derived.Below
import Derived.Deep.LoopGhost
import Derived.Deep.RegionLaw
import Derived.Lib.Hide
import Derived.Outline
import Derived.WalkKit
import Derived.WalkLawsBesides
import Derived.WalkSpells
import Derived.Test.YtnbmecabnkhniaaDoorShelf
import Derived.Laws.Externs
import Derived.Lib.Strings
/- Layer 3: what a cell's checks tell. -/
namespace Go.Proofs.YtnbmecabnkhniaaDoor
open Go.RowKit
def cv (c : CR) : Value := .agg #[.int .u8 c.k, .string c.nm, .string c.tx, .int .i64 c.n, .int .i64 c.m]
def ccells (c : CR) : Array Value := #[.int .u8 c.k, .string c.nm, .string c.tx, .int .i64 c.n, .int .i64 c.m]
theorem size_nil {s : ByteArray} (h : s.toList = []) : s.size = 0 := by
  rw [ByteArray.toList_eq] at h
  have : s.data = #[] := by simpa using h
  show s.data.size = 0
  rw [this]; rfl
theorem em_yes {s : ByteArray} (h : em s = true) : s = ⟨#[]⟩ := em_eq h
theorem em_no {s : ByteArray} (h : em s = false) : s.toList.isEmpty = false := by
  unfold em at h
  simp only [decide_eq_false_iff_not] at h
  cases hs : s.toList with
  | nil =>
    exfalso
    apply h
    exact size_nil hs
  | cons _ _ => rfl
end Go.Proofs.YtnbmecabnkhniaaDoor
/- Layer 3: names, and the checks of the kinds by their numbers. -/
namespace Go.Proofs.YtnbmecabnkhniaaDoor
open Go.RowKit
/-- What a name may have at a place. -/
def okAt (b : UInt8) (j : Nat) : Bool := letB b || (decide (j ≠ 0) && dgB b)
theorem all_from : ∀ (l : List UInt8) (j : Nat), (∀ i (h : i < l.length), okAt l[i] (j + 1 + i) = true) ↔ l.all (fun c => letB c || dgB c) = true
  | [], _ => by simp
  | b :: r, j => by
    have ih := all_from r (j + 1)
    rw [List.all_cons, Bool.and_eq_true, ← ih]
    constructor
    · intro h
      refine ⟨?_, fun i hi => ?_⟩
      · have := h 0 (by simp)
        simpa [okAt] using this
      · have := h (i + 1) (by simpa using hi)
        rw [show j + 1 + (i + 1) = j + 1 + 1 + i by omega] at this
        exact this
    · rintro ⟨h1, h2⟩ i hi
      cases i with
      | zero => simpa [okAt] using h1
      | succ i =>
        have := h2 i (by simpa using hi)
        rw [show j + 1 + (i + 1) = j + 1 + 1 + i by omega]
        exact this
theorem nm_iff (s : ByteArray) : nmB s = true ↔ s.size ≠ 0 ∧ ∀ i (h : i < s.size), okAt s[i] i = true := by
  have e : s.size = s.data.toList.length := by rw [Array.length_toList]; rfl
  have hget : ∀ i (h : i < s.size), s[i] = s.data.toList[i]'(by rw [← e]; exact h) := fun i h => rfl
  have key : (∀ i (h : i < s.size), okAt s[i] i = true) ↔ ∀ i (h : i < s.data.toList.length), okAt s.data.toList[i] i = true :=
    ⟨fun k i h => by have := k i (by rw [e]; exact h); rw [hget] at this; exact this, fun k i h => by rw [hget]; exact k i _⟩
  rw [key, e]
  unfold nmB
  generalize s.data.toList = l
  cases l with
  | nil => simp [nmL]
  | cons b r =>
    have := all_from r 0
    unfold nmL
    rw [Bool.and_eq_true, ← this]
    constructor
    · rintro ⟨h1, h2⟩
      refine ⟨by simp, fun i hi => ?_⟩
      cases i with
      | zero => simpa [okAt] using h1
      | succ i =>
        have := h2 i (by simpa using hi)
        rw [show 0 + 1 + i = i + 1 by omega] at this
        exact this
    · rintro ⟨_, h⟩
      refine ⟨?_, fun i hi => ?_⟩
      · have := h 0 (by simp)
        simpa [okAt] using this
      · have := h (i + 1) (by simpa using hi)
        rw [show 0 + 1 + i = i + 1 by omega]
        exact this
theorem nm_bad {s : ByteArray} {i : Nat} (h : i < s.size) (hb : okAt s[i] i = false) : nmB s = false := by
  cases hn : nmB s with
  | false => rfl
  | true => rw [((nm_iff s).1 hn).2 i h] at hb; cases hb
theorem by256c {P : UInt8 → Bool} (h : (List.range 256).all (fun n => P (UInt8.ofNat n)) = true) (b : UInt8) : P b = true := by
  have := List.all_eq_true.1 h b.toNat (List.mem_range.2 (UInt8.toNat_lt b))
  simpa using this
theorem let_val (b : UInt8) : letB b = (decide (b.toNat = 95) || (decide (97 ≤ b.toNat) && decide (b.toNat ≤ 122)) || (decide (65 ≤ b.toNat) && decide (b.toNat ≤ 90))) := by
  have := by256c (P := fun b => letB b == (decide (b.toNat = 95) || (decide (97 ≤ b.toNat) && decide (b.toNat ≤ 122)) || (decide (65 ≤ b.toNat) && decide (b.toNat ≤ 90)))) (by decide +kernel) b
  simpa using this
theorem dg_val (b : UInt8) : dgB b = (decide (48 ≤ b.toNat) && decide (b.toNat ≤ 57)) := by
  have := by256c (P := fun b => dgB b == (decide (48 ≤ b.toNat) && decide (b.toNat ≤ 57))) (by decide +kernel) b
  simpa using this
end Go.Proofs.YtnbmecabnkhniaaDoor
/- Layer 3: the document's One, Name, among. -/
namespace Go.Proofs.YtnbmecabnkhniaaDoor
open Go.RowKit Go.Maps
theorem let_or (b : UInt8) : letB b = true ↔ (b.toNat = 95 ∨ (97 ≤ b.toNat ∧ b.toNat ≤ 122) ∨ (65 ≤ b.toNat ∧ b.toNat ≤ 90)) := by
  unfold letB
  simp [UInt8.le_iff_toNat_le, ← UInt8.toNat_inj, or_assoc]
theorem dg_or (b : UInt8) : dgB b = true ↔ (48 ≤ b.toNat ∧ b.toNat ≤ 57) := by
  unfold dgB
  simp [UInt8.le_iff_toNat_le]

set_option maxRecDepth 20000 in
set_option maxHeartbeats 2000000 in
theorem rname_any (s : ByteArray) (w : World) (hs : s.size ≤ 1000000) : Calls Tryd.prog 22 #[.string s] w fun e w' => e = .returned (.bool (nmB s)) ∧ Below w.heap.size w w' := by
  obtain ⟨r, hr⟩ : ∃ r, r = nmB s := ⟨_, rfl⟩
  rw [← hr]
  have HR := Lib.hid hr
  clear hr
  go_enter Tryd.func22, Tryd.ntmps22
  go_wp2_with fail
  go_loop [3] (fun v => ∃ i : Nat, i ≤ s.size ∧ v = .int .i64 i ∧ Hid (∀ j (h : j < s.size), j < i → okAt s[j] j = true)) (fun v => s.size - (intOf v).toNat)
  case atStart => exact ⟨0, Nat.zero_le _, rfl, Lib.hid (fun j _ hj => absurd hj (Nat.not_lt_zero j))⟩
  case round =>
    obtain ⟨i, hi, rfl, HP⟩ := hrel
    by_cases hlt : i < s.size
    · obtain ⟨b, hb⟩ : ∃ b, b = s[i].toNat := ⟨_, rfl⟩
      have k0 : ∀ q : i < s.size, (s[i].toNat : Int) = (b : Nat) := fun q => by rw [hb]
      have HL := Lib.hid (let_val s[i])
      have HD := Lib.hid (dg_val s[i])
      have hb2 : b < 256 := by rw [hb]; exact UInt8.toNat_lt _
      rw [← hb] at HL HD
      clear hb
      have HN : Hid (okAt s[i] i = true → ∀ j (h : j < s.size), j < i + 1 → okAt s[j] j = true) := Lib.hid (fun ho j h hj => by
        by_cases e : j = i
        · subst e; exact ho
        · exact HP.out j h (by omega))
      have HB : Hid (okAt s[i] i = false → r = false) := Lib.hid (fun ho => HR.out.trans (nm_bad hlt ho))
      clear HP HR
      have hi0 : (0 : Int) ≤ (i : Int) := by omega
      rcases (by omega : (0 ≤ b ∧ b ≤ 47) ∨ (48 ≤ b ∧ b ≤ 57) ∨ (58 ≤ b ∧ b ≤ 64) ∨ (65 ≤ b ∧ b ≤ 90) ∨ (91 ≤ b ∧ b ≤ 94) ∨ (95 ≤ b ∧ b ≤ 95) ∨ (96 ≤ b ∧ b ≤ 96) ∨ (97 ≤ b ∧ b ≤ 122) ∨ (123 ≤ b ∧ b ≤ 255)) with ⟨r1, r2⟩ | ⟨r1, r2⟩ | ⟨r1, r2⟩ | ⟨r1, r2⟩ | ⟨r1, r2⟩ | ⟨r1, r2⟩ | ⟨r1, r2⟩ | ⟨r1, r2⟩ | ⟨r1, r2⟩
      · have hL : letB s[i] = false := by rw [HL.out]; simp; omega
        have hD : dgB s[i] = false := by rw [HD.out]; simp; omega
        have g95 : ((b : Int) == 95) = false := by rw [beq_eq_false_iff_ne]; omega
        have g97 : ¬ (97 : Int) ≤ b := by omega
        have g122 : (b : Int) ≤ 122 := by omega
        have g65 : ¬ (65 : Int) ≤ b := by omega
        have g90 : (b : Int) ≤ 90 := by omega
        have g48 : ¬ (48 : Int) ≤ b := by omega
        have g57 : (b : Int) ≤ 57 := by omega
        clear r1 r2 HL HD
        by_cases h0 : i = 0
        · subst h0
          have z0 : (((0 : Nat) : Int) == 0) = true := rfl
          have HO := Lib.hid (HB.out (by unfold okAt; rw [hL, hD]; rfl))
          clear HN HB hL hD
          go_wp2_with fail
          go_ret
          exact ⟨ret_bool HO.out.symm, Below.refl _ _⟩
        · have z0 : ((i : Int) == 0) = false := by rw [beq_eq_false_iff_ne]; omega
          have HO := Lib.hid (HB.out (by unfold okAt; rw [hL, hD]; simp))
          clear HN HB hL hD h0
          go_wp2_with fail
          go_ret
          exact ⟨ret_bool HO.out.symm, Below.refl _ _⟩
      · have hL : letB s[i] = false := by rw [HL.out]; simp; omega
        have hD : dgB s[i] = true := by rw [HD.out]; simp; omega
        have g95 : ((b : Int) == 95) = false := by rw [beq_eq_false_iff_ne]; omega
        have g97 : ¬ (97 : Int) ≤ b := by omega
        have g122 : (b : Int) ≤ 122 := by omega
        have g65 : ¬ (65 : Int) ≤ b := by omega
        have g90 : (b : Int) ≤ 90 := by omega
        have g48 : (48 : Int) ≤ b := by omega
        have g57 : (b : Int) ≤ 57 := by omega
        clear r1 r2 HL HD
        by_cases h0 : i = 0
        · subst h0
          have z0 : (((0 : Nat) : Int) == 0) = true := rfl
          have HO := Lib.hid (HB.out (by unfold okAt; rw [hL, hD]; rfl))
          clear HN HB hL hD
          go_wp2_with fail
          go_ret
          exact ⟨ret_bool HO.out.symm, Below.refl _ _⟩
        · have z0 : ((i : Int) == 0) = false := by rw [beq_eq_false_iff_ne]; omega
          have HO := Lib.hid (HN.out (by unfold okAt; rw [hL, hD]; simp [h0]))
          clear HN HB hL hD h0
          go_wp2_with fail
          go_round
          case rel => exact ⟨i + 1, by omega, by go_num, HO⟩
          case measure => simp [intOf]; omega
      · have hL : letB s[i] = false := by rw [HL.out]; simp; omega
        have hD : dgB s[i] = false := by rw [HD.out]; simp; omega
        have g95 : ((b : Int) == 95) = false := by rw [beq_eq_false_iff_ne]; omega
        have g97 : ¬ (97 : Int) ≤ b := by omega
        have g122 : (b : Int) ≤ 122 := by omega
        have g65 : ¬ (65 : Int) ≤ b := by omega
        have g90 : (b : Int) ≤ 90 := by omega
        have g48 : (48 : Int) ≤ b := by omega
        have g57 : ¬ (b : Int) ≤ 57 := by omega
        clear r1 r2 HL HD
        by_cases h0 : i = 0
        · subst h0
          have z0 : (((0 : Nat) : Int) == 0) = true := rfl
          have HO := Lib.hid (HB.out (by unfold okAt; rw [hL, hD]; rfl))
          clear HN HB hL hD
          go_wp2_with fail
          go_ret
          exact ⟨ret_bool HO.out.symm, Below.refl _ _⟩
        · have z0 : ((i : Int) == 0) = false := by rw [beq_eq_false_iff_ne]; omega
          have HO := Lib.hid (HB.out (by unfold okAt; rw [hL, hD]; simp))
          clear HN HB hL hD h0
          go_wp2_with fail
          go_ret
          exact ⟨ret_bool HO.out.symm, Below.refl _ _⟩
      · have hL : letB s[i] = true := by rw [HL.out]; simp; omega
        have hD : dgB s[i] = false := by rw [HD.out]; simp; omega
        have g95 : ((b : Int) == 95) = false := by rw [beq_eq_false_iff_ne]; omega
        have g97 : ¬ (97 : Int) ≤ b := by omega
        have g122 : (b : Int) ≤ 122 := by omega
        have g65 : (65 : Int) ≤ b := by omega
        have g90 : (b : Int) ≤ 90 := by omega
        have g48 : (48 : Int) ≤ b := by omega
        have g57 : ¬ (b : Int) ≤ 57 := by omega
        clear r1 r2 HL HD
        have HO := Lib.hid (HN.out (by unfold okAt; rw [hL, hD]; rfl))
        clear HN HB hL hD
        go_wp2_with fail
        go_round
        case rel => exact ⟨i + 1, by omega, by go_num, HO⟩
        case measure => simp [intOf]; omega
      · have hL : letB s[i] = false := by rw [HL.out]; simp; omega
        have hD : dgB s[i] = false := by rw [HD.out]; simp; omega
        have g95 : ((b : Int) == 95) = false := by rw [beq_eq_false_iff_ne]; omega
        have g97 : ¬ (97 : Int) ≤ b := by omega
        have g122 : (b : Int) ≤ 122 := by omega
        have g65 : (65 : Int) ≤ b := by omega
        have g90 : ¬ (b : Int) ≤ 90 := by omega
        have g48 : (48 : Int) ≤ b := by omega
        have g57 : ¬ (b : Int) ≤ 57 := by omega
        clear r1 r2 HL HD
        by_cases h0 : i = 0
        · subst h0
          have z0 : (((0 : Nat) : Int) == 0) = true := rfl
          have HO := Lib.hid (HB.out (by unfold okAt; rw [hL, hD]; rfl))
          clear HN HB hL hD
          go_wp2_with fail
          go_ret
          exact ⟨ret_bool HO.out.symm, Below.refl _ _⟩
        · have z0 : ((i : Int) == 0) = false := by rw [beq_eq_false_iff_ne]; omega
          have HO := Lib.hid (HB.out (by unfold okAt; rw [hL, hD]; simp))
          clear HN HB hL hD h0
          go_wp2_with fail
          go_ret
          exact ⟨ret_bool HO.out.symm, Below.refl _ _⟩
      · have hL : letB s[i] = true := by rw [HL.out]; simp; omega
        have hD : dgB s[i] = false := by rw [HD.out]; simp; omega
        have g95 : ((b : Int) == 95) = true := by rw [beq_iff_eq]; omega
        have g97 : ¬ (97 : Int) ≤ b := by omega
        have g122 : (b : Int) ≤ 122 := by omega
        have g65 : (65 : Int) ≤ b := by omega
        have g90 : ¬ (b : Int) ≤ 90 := by omega
        have g48 : (48 : Int) ≤ b := by omega
        have g57 : ¬ (b : Int) ≤ 57 := by omega
        clear r1 r2 HL HD
        have HO := Lib.hid (HN.out (by unfold okAt; rw [hL, hD]; rfl))
        clear HN HB hL hD
        go_wp2_with fail
        go_round
        case rel => exact ⟨i + 1, by omega, by go_num, HO⟩
        case measure => simp [intOf]; omega
      · have hL : letB s[i] = false := by rw [HL.out]; simp; omega
        have hD : dgB s[i] = false := by rw [HD.out]; simp; omega
        have g95 : ((b : Int) == 95) = false := by rw [beq_eq_false_iff_ne]; omega
        have g97 : ¬ (97 : Int) ≤ b := by omega
        have g122 : (b : Int) ≤ 122 := by omega
        have g65 : (65 : Int) ≤ b := by omega
        have g90 : ¬ (b : Int) ≤ 90 := by omega
        have g48 : (48 : Int) ≤ b := by omega
        have g57 : ¬ (b : Int) ≤ 57 := by omega
        clear r1 r2 HL HD
        by_cases h0 : i = 0
        · subst h0
          have z0 : (((0 : Nat) : Int) == 0) = true := rfl
          have HO := Lib.hid (HB.out (by unfold okAt; rw [hL, hD]; rfl))
          clear HN HB hL hD
          go_wp2_with fail
          go_ret
          exact ⟨ret_bool HO.out.symm, Below.refl _ _⟩
        · have z0 : ((i : Int) == 0) = false := by rw [beq_eq_false_iff_ne]; omega
          have HO := Lib.hid (HB.out (by unfold okAt; rw [hL, hD]; simp))
          clear HN HB hL hD h0
          go_wp2_with fail
          go_ret
          exact ⟨ret_bool HO.out.symm, Below.refl _ _⟩
      · have hL : letB s[i] = true := by rw [HL.out]; simp; omega
        have hD : dgB s[i] = false := by rw [HD.out]; simp; omega
        have g95 : ((b : Int) == 95) = false := by rw [beq_eq_false_iff_ne]; omega
        have g97 : (97 : Int) ≤ b := by omega
        have g122 : (b : Int) ≤ 122 := by omega
        have g65 : (65 : Int) ≤ b := by omega
        have g90 : ¬ (b : Int) ≤ 90 := by omega
        have g48 : (48 : Int) ≤ b := by omega
        have g57 : ¬ (b : Int) ≤ 57 := by omega
        clear r1 r2 HL HD
        have HO := Lib.hid (HN.out (by unfold okAt; rw [hL, hD]; rfl))
        clear HN HB hL hD
        go_wp2_with fail
        go_round
        case rel => exact ⟨i + 1, by omega, by go_num, HO⟩
        case measure => simp [intOf]; omega
      · have hL : letB s[i] = false := by rw [HL.out]; simp; omega
        have hD : dgB s[i] = false := by rw [HD.out]; simp; omega
        have g95 : ((b : Int) == 95) = false := by rw [beq_eq_false_iff_ne]; omega
        have g97 : (97 : Int) ≤ b := by omega
        have g122 : ¬ (b : Int) ≤ 122 := by omega
        have g65 : (65 : Int) ≤ b := by omega
        have g90 : ¬ (b : Int) ≤ 90 := by omega
        have g48 : (48 : Int) ≤ b := by omega
        have g57 : ¬ (b : Int) ≤ 57 := by omega
        clear r1 r2 HL HD
        by_cases h0 : i = 0
        · subst h0
          have z0 : (((0 : Nat) : Int) == 0) = true := rfl
          have HO := Lib.hid (HB.out (by unfold okAt; rw [hL, hD]; rfl))
          clear HN HB hL hD
          go_wp2_with fail
          go_ret
          exact ⟨ret_bool HO.out.symm, Below.refl _ _⟩
        · have z0 : ((i : Int) == 0) = false := by rw [beq_eq_false_iff_ne]; omega
          have HO := Lib.hid (HB.out (by unfold okAt; rw [hL, hD]; simp))
          clear HN HB hL hD h0
          go_wp2_with fail
          go_ret
          exact ⟨ret_bool HO.out.symm, Below.refl _ _⟩
    · have hge : ¬ ((i : Int) < s.size) := by omega
      cases he : em s with
      | true =>
        obtain rfl := em_yes he
        have HO := Lib.hid (HR.out.trans (show nmB ⟨#[]⟩ = false from rfl))
        clear he HP HR
        go_wp2_with fail
        go_ret
        exact ⟨ret_bool HO.out.symm, Below.refl _ _⟩
      | false =>
        have g : (0 : Int) < s.size := by have : s.size ≠ 0 := by unfold em at he; simpa using he
                                          omega
        have HO := Lib.hid (HR.out.trans ((nm_iff s).2 ⟨by unfold em at he; simpa using he, fun j h => HP.out j h (by omega)⟩))
        clear he HP HR
        go_wp2_with fail
        go_ret
        exact ⟨ret_bool (by rw [HO.out]; simp; omega), Below.refl _ _⟩

end Go.Proofs.YtnbmecabnkhniaaDoor
/- Layer 31, ServeWrites: a text quoted (plain), and appends of bytes. -/
namespace Go.Proofs.YtnbmecabnkhniaaDoor
open Go.RowKit
def hexI (x : Int) : Int := if x < 10 then 48 + x else 87 + x
def shortI (x : Int) : Int := if x = 34 then 34 else if x = 92 then 92 else if x = 8 then 98 else if x = 9 then 116 else if x = 10 then 110 else if x = 12 then 102 else if x = 13 then 114 else 0
def escI (x : Int) : List Int := if shortI x ≠ 0 then [92, shortI x] else if x < 32 then [92, 117, 48, 48, hexI (x / 16), hexI (x % 16)] else [x]
def quL (s : ByteArray) : Nat → List Int
  | 0 => [34]
  | k + 1 => quL s k ++ escI (byt s k)
theorem esc_len (x : Int) : (escI x).length ≤ 6 := by unfold escI; split <;> (try split) <;> simp
theorem quL_len (s : ByteArray) (k : Nat) : (quL s k).length ≤ 6 * k + 1 := by
  induction k with
  | zero => exact Nat.le_refl _
  | succ k ih => unfold quL; rw [List.length_append]; have := esc_len (byt s k); omega
theorem short_range (x : Int) : 0 ≤ shortI x ∧ shortI x < 256 := by unfold shortI; repeat' split <;> (try omega)
theorem esc_range (x : Int) (h0 : 0 ≤ x) (h1 : x < 256) : ∀ y ∈ escI x, 0 ≤ y ∧ y < 256 := by
  have hs := short_range x
  unfold escI
  split
  · intro y hy; simp at hy; rcases hy with rfl | rfl <;> omega
  · split
    · intro y hy
      simp at hy
      unfold hexI at hy
      rcases hy with rfl | rfl | rfl | rfl | rfl <;> (first | omega | (split <;> omega))
    · intro y hy; simp at hy; omega
theorem quL_range (s : ByteArray) (k : Nat) : ∀ y ∈ quL s k, 0 ≤ y ∧ y < 256 := by
  induction k with
  | zero => intro y hy; simp [quL] at hy; omega
  | succ k ih =>
    intro y hy
    unfold quL at hy
    rcases List.mem_append.1 hy with hy | hy
    · exact ih y hy
    · exact esc_range _ (byt_range s k).1 (byt_range s k).2 y hy
/-- A text, quoted. -/
def quT (s : ByteArray) : ByteArray := mkB (quL s s.size ++ [34])
theorem qu_end (s : ByteArray) : ∀ y ∈ quL s s.size ++ [34], 0 ≤ y ∧ y < 256 := by
  intro y hy
  rcases List.mem_append.1 hy with hy | hy
  · exact quL_range s _ y hy
  · simp at hy; omega
theorem infoB : ∃ i, Tryd.prog.info? 5 = some i ∧ i.zero = some (.int .u8 0) ∧ i.size = 1 ∧ i.bytes = 1 := by
  have h := Tryd.typeInfo5 default
  unfold typeInfo at h
  cases hq : Tryd.prog.info? 5 with
  | none => simp [hq] at h
  | some i =>
    simp [hq] at h
    exact ⟨i, rfl, by rw [h]; rfl, by rw [h]; rfl, by rw [h]; rfl⟩
def BO (w0 w : World) (v : Value) (L : List Int) : Prop := w.ownsRow w0.heap.size 5 1 v L.length (L.map (Value.int .u8)) ∧ Below w0.heap.size w0 w
theorem BO.nil (w : World) : BO w w (.slice none 0 0) [] := ⟨World.ownsRow_nil _ _ _ _, Below.refl _ _⟩
theorem BO.alloc {w0 w : World} {v : Value} {L : List Int} (h : BO w0 w v L) (o : Obj) : BO w0 (w.alloc o) v L := ⟨h.1.alloc o, h.2.alloc h.2.size o⟩
theorem BO.drew {w0 w : World} {v : Value} {L : List Int} (h : BO w0 w v L) : BO w0 w.drew v L := ⟨h.1.drew, h.2.drew⟩
theorem BO.slice {w0 w : World} {v : Value} {L : List Int} (h : BO w0 w v L) : ∃ ad c, v = .slice ad L.length c := by
  rcases h.1.2 with ⟨rfl, hn⟩ | ⟨g, cap, cur, rfl, _⟩
  · exact ⟨none, 0, by rw [hn]⟩
  · exact ⟨_, _, rfl⟩
theorem news_bytes {w : World} {b : Nat} {M : List Int} (hb : w.heap[b]? = some (.cells (M.map (Value.int .u8)).toArray 5)) : ∀ j u, (M.map (Value.int .u8))[j]? = some u → w.cell? ((⟨b, 0, none⟩ : Addr).add j) = some u := fun j u hj => by
  rw [Addr.add_lit]
  simp [World.cell?, hb]
  simpa using hj
theorem bo_run {w0 w : World} {v : Value} {L M : List Int} {b : Nat} (ty : TypeId) (hO : BO w0 w v L) (hb : w.heap[b]? = some (.cells (M.map (Value.int .u8)).toArray 5)) (hL : L.length + M.length ≤ 1000000000) :
    ∃ v' w', (Builtin.append_ #[41, 41] ty #[v, .slice (some ⟨b, 0, none⟩) M.length M.length]).run Tryd.prog w = .ok v' w' ∧ BO w0 w' v' (L ++ M) := by
  obtain ⟨i, h2, h3, h4, h5⟩ := infoB
  obtain ⟨v', w', hrun, r1, r2, _⟩ := run_append_own (P := Tryd.prog) (w := w) w0.heap.size 41 ty 5 i _ 1 1 Tryd.underlying41 h2 h3 h4 h5 rfl (by decide) v L.length (L.map (Value.int .u8)) hO.1 ⟨b, 0, none⟩ M.length M.length (M.map (Value.int .u8)) (by simp) (news_bytes hb) (by intro u hu; obtain ⟨x, _, rfl⟩ := List.mem_map.1 hu; rfl) (by unfold maxLen; omega) (by omega) hO.2.size
  refine ⟨v', w', hrun, ?_, hO.2.grown r2 hO.2.size (fun k hk => ?_)⟩
  · rw [List.length_append, List.map_append]; exact r1
  · rcases hO.1.2 with ⟨rfl, _⟩ | ⟨g, cap, cur, rfl, hg, _⟩
    · cases hk
    · simp only [Value.ownBlock, Option.some.injEq] at hk
      subst hk; exact hg
theorem app_bytes {ops : Array Oper} {rest : List Oper} {o : Oper} {a : Act} {w0 w : World} {Q : Exit → Act → World → Prop} (hgd : o.guard = none) (s x : Operand)
    (ho : o.op = .call { callee := .builtin .append, args := #[s, x], argTypes := #[41, 41] }) (v : Value) (L M : List Int) (b : Nat) (hs : a.eval s = v) (hx : a.eval x = .slice (some ⟨b, 0, none⟩) M.length M.length) (hO : BO w0 w v L) (hb : w.heap[b]? = some (.cells (M.map (Value.int .u8)).toArray 5)) (hL : L.length + M.length ≤ 1000000000)
    (h : ∀ v' w', BO w0 w' v' (L ++ M) → wpList Tryd.prog ops Q rest (a.put o.dst v') w') : wpList Tryd.prog ops Q (o :: rest) a w := by
  obtain ⟨v', w', hrun, hB⟩ := bo_run o.type hO hb hL
  refine wpList_plain hgd fun K hK => ?_
  unfold Oper.wp
  simp [execOp, ho, resolve, invoke, builtin, hs, hx, hrun, Result.andThen]
  exact hK _ _ (h v' w' hB)
theorem step_bytes {ops : Array Oper} {o : Oper} {a : Act} {w0 w : World} {K : Act → World → Prop} {Q : Exit → Act → World → Prop} {E : Prop} (hgd : o.guard = none) (s x : Operand)
    (ho : o.op = .call { callee := .builtin .append, args := #[s, x], argTypes := #[41, 41] }) (v : Value) (L M : List Int) (b : Nat) (hs : a.eval s = v) (hx : a.eval x = .slice (some ⟨b, 0, none⟩) M.length M.length) (hO : BO w0 w v L) (hb : w.heap[b]? = some (.cells (M.map (Value.int .u8)).toArray 5)) (hL : L.length + M.length ≤ 1000000000)
    (hK : ∀ v' w', BO w0 w' v' (L ++ M) → K (a.put o.dst v') w') : if Region.wanted o (yielded ops a.tmps) = true then Oper.wp Tryd.prog o a w K Q else E := by
  have hw : Region.wanted o (yielded ops a.tmps) = true := by simp [Region.wanted, hgd]
  rw [if_pos hw]
  obtain ⟨v', w', hrun, hB⟩ := bo_run o.type hO hb hL
  unfold Oper.wp
  simp [execOp, ho, resolve, invoke, builtin, hs, hx, hrun, Result.andThen]
  exact hK v' w' hB
end Go.Proofs.YtnbmecabnkhniaaDoor
/- Layer 31, ServeWrites: a text quoted, by the program and by the document. -/
namespace Go.Proofs.YtnbmecabnkhniaaDoor
open Go.RowKit
set_option maxRecDepth 20000 in
theorem short_any (x : Int) (w : World) : Calls Tryd.prog 32 #[.int .u8 x] w fun e w' => e = .returned (.int .u8 (shortI x)) ∧ w' = w := by
  by_cases h1 : x = 34
  · subst h1; go_enter Tryd.func32, Tryd.ntmps32; go_wp2_with fail; go_ret; exact ⟨rfl, rfl⟩
  by_cases h2 : x = 92
  · subst h2; go_enter Tryd.func32, Tryd.ntmps32; go_wp2_with fail; go_ret; exact ⟨rfl, rfl⟩
  by_cases h3 : x = 8
  · subst h3; go_enter Tryd.func32, Tryd.ntmps32; go_wp2_with fail; go_ret; exact ⟨rfl, rfl⟩
  by_cases h4 : x = 9
  · subst h4; go_enter Tryd.func32, Tryd.ntmps32; go_wp2_with fail; go_ret; exact ⟨rfl, rfl⟩
  by_cases h5 : x = 10
  · subst h5; go_enter Tryd.func32, Tryd.ntmps32; go_wp2_with fail; go_ret; exact ⟨rfl, rfl⟩
  by_cases h6 : x = 12
  · subst h6; go_enter Tryd.func32, Tryd.ntmps32; go_wp2_with fail; go_ret; exact ⟨rfl, rfl⟩
  by_cases h7 : x = 13
  · subst h7; go_enter Tryd.func32, Tryd.ntmps32; go_wp2_with fail; go_ret; exact ⟨rfl, rfl⟩
  have HX : Hid (shortI x = 0) := Lib.hid (by unfold shortI; rw [if_neg h1, if_neg h2, if_neg h3, if_neg h4, if_neg h5, if_neg h6, if_neg h7])
  have g1 : (x == 34) = false := by rw [beq_eq_false_iff_ne]; exact h1
  have g2 : (x == 92) = false := by rw [beq_eq_false_iff_ne]; exact h2
  have g3 : (x == 8) = false := by rw [beq_eq_false_iff_ne]; exact h3
  have g4 : (x == 9) = false := by rw [beq_eq_false_iff_ne]; exact h4
  have g5 : (x == 10) = false := by rw [beq_eq_false_iff_ne]; exact h5
  have g6 : (x == 12) = false := by rw [beq_eq_false_iff_ne]; exact h6
  have g7 : (x == 13) = false := by rw [beq_eq_false_iff_ne]; exact h7
  clear h1 h2 h3 h4 h5 h6 h7
  go_enter Tryd.func32, Tryd.ntmps32
  go_wp2_with fail
  go_ret
  exact ⟨by rw [HX.out]; rfl, rfl⟩
theorem byt_nat {s : ByteArray} {i : Nat} (h : i < s.size) : byt s i = (s[i].toNat : Int) := by unfold byt; rw [dif_pos h]
theorem esc_short {x : Int} (h : shortI x ≠ 0) : escI x = [92, shortI x] := by unfold escI; rw [if_pos h]
theorem esc_low {x : Int} (h : shortI x = 0) (h2 : x < 32) : escI x = [92, 117, 48, 48, hexI (x / 16), hexI (x % 16)] := by unfold escI; rw [if_neg (by simpa using h), if_pos h2]
theorem esc_own {x : Int} (h : shortI x = 0) (h2 : ¬ x < 32) : escI x = [x] := by unfold escI; rw [if_neg (by simpa using h), if_neg h2]
theorem andF (x : Int) (h0 : 0 ≤ x) (h1 : x < 256) : bits BinOp.and IntKind.u8 x 15 = x % 16 := by
  have h : ∀ n : Fin 256, bits BinOp.and IntKind.u8 (n.val : Int) 15 = (n.val : Int) % 16 := by decide +kernel
  have := h ⟨x.toNat, by omega⟩
  rw [show ((⟨x.toNat, by omega⟩ : Fin 256).val : Int) = x by simp; omega] at this
  exact this
theorem hexL_at (n : Int) (h0 : 0 ≤ n) (h : n < 16) (w : World) (k : IntKind) : (Instr.index 9 (.string ⟨#[48, 49, 50, 51, 52, 53, 54, 55, 56, 57, 97, 98, 99, 100, 101, 102]⟩) (.int k n)).run Tryd.prog w = .ok (.int .u8 (hexI n)) w := by
  rw [run_index_string _ _ _ _ _ Tryd.underlying9]
  rcases (show n = 0 ∨ n = 1 ∨ n = 2 ∨ n = 3 ∨ n = 4 ∨ n = 5 ∨ n = 6 ∨ n = 7 ∨ n = 8 ∨ n = 9 ∨ n = 10 ∨ n = 11 ∨ n = 12 ∨ n = 13 ∨ n = 14 ∨ n = 15 by omega) with rfl | rfl | rfl | rfl | rfl | rfl | rfl | rfl | rfl | rfl | rfl | rfl | rfl | rfl | rfl | rfl <;> rfl
set_option maxRecDepth 20000 in
set_option maxHeartbeats 2000000 in
theorem jquote_any (s : ByteArray) (w : World) (hs : s.size ≤ 100000000) : Calls Tryd.prog 18 #[.slice none 0 0, .string s] w fun e w' => ∃ v, e = .returned v ∧ BO w w' v (quL s s.size ++ [34]) := by
  have hs1 : (s.size : Int) ≤ 100000000 := by omega
  go_enter Tryd.func18, Tryd.ntmps18
  go_wp2_with (at_builtin; refine app_bytes rfl (.tmp 8) (.tmp 9) rfl (.slice none 0 0) [] [34] w.heap.size (by simp [Act.eval, Act.put]) (by simp [Act.eval, Act.put]) ((BO.nil w).alloc _) (heap_alloc_new _ _) (by simp) ?_; intro v1 w1 b1; have B1 := Lib.hid b1; clear b1)
  go_loopw [0, 5, 6, 7] (fun v0 v5 _ _ wr => ∃ (i : Nat) (v : Value), i ≤ s.size ∧ v5 = .int .i64 i ∧ v = v0 ∧ Hid (BO w wr v (quL s i))) (fun _ v5 _ _ _ => s.size - (intOf v5).toNat)
  case atStart => exact ⟨0, _, Nat.zero_le _, rfl, rfl, B1⟩
  case round =>
    obtain ⟨i, v, hi, rfl, rfl, HB⟩ := hrel
    have HL := Lib.hid (quL_len s i)
    by_cases hlt : i < s.size
    · have hlt' : (i : Int) < s.size := by omega
      have hge : (0 : Int) ≤ i := by omega
      have HQ : Hid (quL s (i + 1) = quL s i ++ escI (byt s i)) := Lib.hid rfl
      rw [byt_nat hlt] at HQ
      have hx1 := UInt8.toNat_lt s[i]
      go_wp2_with fail
      obtain ⟨x, hx⟩ : ∃ x : Int, x = (s[i].toNat : Int) := ⟨_, rfl⟩
      rw [← hx] at HQ ⊢
      have hx0 : 0 ≤ x := by omega
      have hx2 : x < 256 := by omega
      clear hx hx1
      refine (short_any x wr).mono ?_
      rintro e w2 ⟨rfl, h2⟩
      obtain rfl : wr = w2 := h2.symm
      obtain ⟨y, hy⟩ : ∃ y, y = shortI x := ⟨_, rfl⟩
      rw [← hy]
      by_cases hy0 : y = 0
      · subst hy0
        by_cases hlo : x < 32
        · rw [esc_low hy.symm hlo] at HQ
          clear hy
          have HBD := Lib.hid HB.out.drew
          have i1 := fun W => hexL_at (x / 16) (by omega) (by omega) W .u8
          have i2 := fun W => hexL_at (x % 16) (by omega) (by omega) W .u8
          have i3 := andF x hx0 hx2
          go_wp2_with fail
          go_region_law (first
            | (refine step_bytes rfl (.tmp 36) (.tmp 43) rfl v (quL s i) [92, 117, 48, 48, hexI (x / 16), hexI (x % 16)] wr.heap.size (by simp [Act.eval, Act.put]) (by simp [Act.eval, Act.put]) (HBD.out.alloc _) (heap_alloc_new _ _) (by have := HL.out; simp; omega) ?_; intro v2 w2 b2; rw [← HQ.out] at b2; have B2 := Lib.hid b2; clear b2))
          all_goals
            go_wp2_with fail
            go_roundw
            case rel => exact ⟨i + 1, _, by omega, by go_num, rfl, B2⟩
            case measure => simp [intOf]; omega
        · rw [esc_own hy.symm hlo] at HQ
          clear hy
          go_wp2_with (at_builtin; refine app_bytes rfl (.tmp 22) (.tmp 24) rfl v (quL s i) [x] wr.heap.size (by simp [Act.eval, Act.put]) (by simp [Act.eval, Act.put]) (HB.out.alloc _) (heap_alloc_new _ _) (by have := HL.out; simp; omega) ?_; intro v2 w2 b2; rw [← HQ.out] at b2; have B2 := Lib.hid b2; clear b2)
          go_roundw
          case rel => exact ⟨i + 1, _, by omega, by go_num, rfl, B2⟩
          case measure => simp [intOf]; omega
      · rw [esc_short (by rw [← hy]; exact hy0), ← hy] at HQ
        have g0 : (y != 0) = true := by simpa using hy0
        clear hy hy0
        go_wp2_with (at_builtin; refine app_bytes rfl (.tmp 29) (.tmp 31) rfl v (quL s i) [92, y] wr.heap.size (by simp [Act.eval, Act.put]) (by simp [Act.eval, Act.put]) (HB.out.alloc _) (heap_alloc_new _ _) (by have := HL.out; simp; omega) ?_; intro v2 w2 b2; rw [← HQ.out] at b2; have B2 := Lib.hid b2; clear b2)
        go_roundw
        case rel => exact ⟨i + 1, _, by omega, by go_num, rfl, B2⟩
        case measure => simp [intOf]; omega
    · have him : i = s.size := by omega
      subst him
      have hz : ¬ ((s.size : Int) < (s.size : Int)) := by omega
      go_wp2_with (at_builtin; refine app_bytes rfl (.tmp 45) (.tmp 46) rfl v (quL s s.size) [34] wr.heap.size (by simp [Act.eval, Act.put]) (by simp [Act.eval, Act.put]) (HB.out.alloc _) (heap_alloc_new _ _) (by have := HL.out; simp; omega) ?_; intro v2 w2 b2; have B2 := Lib.hid b2; clear b2)
      go_ret
      exact ⟨_, rfl, B2.out⟩
end Go.Proofs.YtnbmecabnkhniaaDoor
/- Layer 31, ServeWrites: the document's Quoted. -/
namespace Go.Proofs.YtnbmecabnkhniaaDoor
open Go.RowKit
theorem bo_lit (w : World) (x : Int) : BO w (w.alloc (.cells #[.int .u8 x] 5)) (.slice (some ⟨w.heap.size, 0, none⟩) 1 1) [x] :=
  ⟨⟨rfl, .inr ⟨w.heap.size, 1, #[.int .u8 x], rfl, Nat.le_refl _, heap_alloc_new w _, Nat.le_refl _, by unfold maxLen; omega, rfl, rfl⟩⟩, (Below.refl _ _).alloc (Nat.le_refl _) _⟩
theorem short_no {x : Int} (h1 : x ≠ 34) (h2 : x ≠ 92) (h3 : x ≠ 8) (h4 : x ≠ 9) (h5 : x ≠ 10) (h6 : x ≠ 12) (h7 : x ≠ 13) : shortI x = 0 := by unfold shortI; rw [if_neg h1, if_neg h2, if_neg h3, if_neg h4, if_neg h5, if_neg h6, if_neg h7]
set_option maxRecDepth 20000 in
set_option maxHeartbeats 4000000 in
theorem rQuoted_any (s : ByteArray) (w : World) (hs : s.size ≤ 100000000) : Calls Tryd.prog 37 #[.string s] w fun e w' => e = .returned (.string (quT s)) ∧ Below w.heap.size w w' := by
  have hs1 : (s.size : Int) ≤ 100000000 := by omega
  have B0 := Lib.hid (bo_lit w 34)
  go_enter Tryd.func37, Tryd.ntmps37
  go_wp2_with fail
  go_loopw [3, 5, 6] (fun v3 v5 _ wr => ∃ (i : Nat) (v : Value), i ≤ s.size ∧ v5 = .int .i64 i ∧ v = v3 ∧ Hid (BO w wr v (quL s i))) (fun _ v5 _ _ => s.size - (intOf v5).toNat)
  case atStart => exact ⟨0, _, Nat.zero_le _, rfl, rfl, B0⟩
  case round =>
    obtain ⟨i, v, hi, rfl, rfl, HB⟩ := hrel
    have HL := Lib.hid (quL_len s i)
    by_cases hlt : i < s.size
    · have hlt' : (i : Int) < s.size := by omega
      have hge : (0 : Int) ≤ i := by omega
      have HQ : Hid (quL s (i + 1) = quL s i ++ escI (byt s i)) := Lib.hid rfl
      rw [byt_nat hlt] at HQ
      have hx1 := UInt8.toNat_lt s[i]
      obtain ⟨x, hx⟩ : ∃ x : Int, x = (s[i].toNat : Int) := ⟨_, rfl⟩
      have hxs := hx.symm
      rw [← hx] at HQ
      have hx0 : 0 ≤ x := by omega
      have hx2 : x < 256 := by omega
      clear hx hx1
      by_cases c34 : x = 34
      · subst c34
        replace HQ : Hid (quL s (i + 1) = quL s i ++ [92, 34]) := Lib.hid HQ.out
        go_wp2_with (at_builtin; refine app_bytes rfl (.tmp 28) (.tmp 30) rfl v (quL s i) [92, 34] wr.heap.size (by simp [Act.eval, Act.put]) (by simp [Act.eval, Act.put]) (HB.out.alloc _) (heap_alloc_new _ _) (by have := HL.out; simp; omega) ?_; intro v2 w2 b2; rw [← HQ.out] at b2; have B2 := Lib.hid b2; clear b2)
        go_roundw
        case rel => exact ⟨i + 1, _, by omega, by go_num, rfl, B2⟩
        case measure => simp [intOf]; omega
      by_cases c92 : x = 92
      · subst c92
        replace HQ : Hid (quL s (i + 1) = quL s i ++ [92, 92]) := Lib.hid HQ.out
        go_wp2_with (at_builtin; refine app_bytes rfl (.tmp 28) (.tmp 30) rfl v (quL s i) [92, 92] wr.heap.size (by simp [Act.eval, Act.put]) (by simp [Act.eval, Act.put]) (HB.out.alloc _) (heap_alloc_new _ _) (by have := HL.out; simp; omega) ?_; intro v2 w2 b2; rw [← HQ.out] at b2; have B2 := Lib.hid b2; clear b2)
        go_roundw
        case rel => exact ⟨i + 1, _, by omega, by go_num, rfl, B2⟩
        case measure => simp [intOf]; omega
      by_cases c8 : x = 8
      · subst c8
        replace HQ : Hid (quL s (i + 1) = quL s i ++ [92, 98]) := Lib.hid HQ.out
        go_wp2_with (at_builtin; refine app_bytes rfl (.tmp 43) (.tmp 48) rfl v (quL s i) [92, 98] wr.heap.size (by simp [Act.eval, Act.put]) (by simp [Act.eval, Act.put]) (HB.out.alloc _) (heap_alloc_new _ _) (by have := HL.out; simp; omega) ?_; intro v2 w2 b2; rw [← HQ.out] at b2; have B2 := Lib.hid b2; clear b2)
        go_roundw
        case rel => exact ⟨i + 1, _, by omega, by go_num, rfl, B2⟩
        case measure => simp [intOf]; omega
      by_cases c9 : x = 9
      · subst c9
        replace HQ : Hid (quL s (i + 1) = quL s i ++ [92, 116]) := Lib.hid HQ.out
        go_wp2_with (at_builtin; refine app_bytes rfl (.tmp 43) (.tmp 48) rfl v (quL s i) [92, 116] wr.heap.size (by simp [Act.eval, Act.put]) (by simp [Act.eval, Act.put]) (HB.out.alloc _) (heap_alloc_new _ _) (by have := HL.out; simp; omega) ?_; intro v2 w2 b2; rw [← HQ.out] at b2; have B2 := Lib.hid b2; clear b2)
        go_roundw
        case rel => exact ⟨i + 1, _, by omega, by go_num, rfl, B2⟩
        case measure => simp [intOf]; omega
      by_cases c10 : x = 10
      · subst c10
        replace HQ : Hid (quL s (i + 1) = quL s i ++ [92, 110]) := Lib.hid HQ.out
        go_wp2_with (at_builtin; refine app_bytes rfl (.tmp 43) (.tmp 48) rfl v (quL s i) [92, 110] wr.heap.size (by simp [Act.eval, Act.put]) (by simp [Act.eval, Act.put]) (HB.out.alloc _) (heap_alloc_new _ _) (by have := HL.out; simp; omega) ?_; intro v2 w2 b2; rw [← HQ.out] at b2; have B2 := Lib.hid b2; clear b2)
        go_roundw
        case rel => exact ⟨i + 1, _, by omega, by go_num, rfl, B2⟩
        case measure => simp [intOf]; omega
      by_cases c12 : x = 12
      · subst c12
        replace HQ : Hid (quL s (i + 1) = quL s i ++ [92, 102]) := Lib.hid HQ.out
        go_wp2_with (at_builtin; refine app_bytes rfl (.tmp 43) (.tmp 48) rfl v (quL s i) [92, 102] wr.heap.size (by simp [Act.eval, Act.put]) (by simp [Act.eval, Act.put]) (HB.out.alloc _) (heap_alloc_new _ _) (by have := HL.out; simp; omega) ?_; intro v2 w2 b2; rw [← HQ.out] at b2; have B2 := Lib.hid b2; clear b2)
        go_roundw
        case rel => exact ⟨i + 1, _, by omega, by go_num, rfl, B2⟩
        case measure => simp [intOf]; omega
      by_cases c13 : x = 13
      · subst c13
        replace HQ : Hid (quL s (i + 1) = quL s i ++ [92, 114]) := Lib.hid HQ.out
        go_wp2_with (at_builtin; refine app_bytes rfl (.tmp 43) (.tmp 48) rfl v (quL s i) [92, 114] wr.heap.size (by simp [Act.eval, Act.put]) (by simp [Act.eval, Act.put]) (HB.out.alloc _) (heap_alloc_new _ _) (by have := HL.out; simp; omega) ?_; intro v2 w2 b2; rw [← HQ.out] at b2; have B2 := Lib.hid b2; clear b2)
        go_roundw
        case rel => exact ⟨i + 1, _, by omega, by go_num, rfl, B2⟩
        case measure => simp [intOf]; omega
      have HS := Lib.hid (short_no c34 c92 c8 c9 c10 c12 c13)
      have g1 : (x == 34) = false := by rw [beq_eq_false_iff_ne]; exact c34
      have g2 : (x == 92) = false := by rw [beq_eq_false_iff_ne]; exact c92
      by_cases hlo : x < 32
      · rw [esc_low HS.out hlo] at HQ
        have HBD := Lib.hid HB.out.drew
        have i1 := fun W => hexL_at (x / 16) (by omega) (by omega) W .u8
        have i2 := fun W => hexL_at (x % 16) (by omega) (by omega) W .u8
        have t1 : x.tdiv 16 = x / 16 := Int.tdiv_eq_ediv_of_nonneg hx0
        have t2 : x.tmod 16 = x % 16 := Int.tmod_eq_emod_of_nonneg hx0
        have t3 : IntKind.u8.wrap (x / 16) = x / 16 := by rw [IntKind.wrap_u8]; omega
        have t4 : IntKind.u8.wrap (x % 16) = x % 16 := by rw [IntKind.wrap_u8]; omega
        by_cases c11 : x = 11
        · have g3 : (x != 11) = false := by rw [c11]; rfl
          have g4 : 8 ≤ x := by omega
          have g5 : x ≤ 13 := by omega
          clear c11 c34 c92 c8 c9 c10 c12 c13
          go_wp2_with fail
          go_region_law (first
            | (refine step_bytes rfl (.tmp 53) (.tmp 60) rfl v (quL s i) [92, 117, 48, 48, hexI (x / 16), hexI (x % 16)] wr.heap.size (by simp [Act.eval, Act.put]) (by simp [Act.eval, Act.put]) (HBD.out.alloc _) (heap_alloc_new _ _) (by have := HL.out; simp; omega) ?_; intro v2 w2 b2; rw [← HQ.out] at b2; have B2 := Lib.hid b2; clear b2))
          all_goals
            go_wp2_with fail
            go_roundw
            case rel => exact ⟨i + 1, _, by omega, by go_num, rfl, B2⟩
            case measure => simp [intOf]; omega
        · by_cases c7 : x < 8
          · have g4 : ¬ 8 ≤ x := by omega
            clear c7 c11 c34 c92 c8 c9 c10 c12 c13
            go_wp2_with fail
            go_region_law (first
              | (refine step_bytes rfl (.tmp 53) (.tmp 60) rfl v (quL s i) [92, 117, 48, 48, hexI (x / 16), hexI (x % 16)] wr.heap.size (by simp [Act.eval, Act.put]) (by simp [Act.eval, Act.put]) (HBD.out.alloc _) (heap_alloc_new _ _) (by have := HL.out; simp; omega) ?_; intro v2 w2 b2; rw [← HQ.out] at b2; have B2 := Lib.hid b2; clear b2))
            all_goals
              go_wp2_with fail
              go_roundw
              case rel => exact ⟨i + 1, _, by omega, by go_num, rfl, B2⟩
              case measure => simp [intOf]; omega
          · have g4 : 8 ≤ x := by omega
            have g5 : ¬ x ≤ 13 := by omega
            clear c7 c11 c34 c92 c8 c9 c10 c12 c13
            go_wp2_with fail
            go_region_law (first
              | (refine step_bytes rfl (.tmp 53) (.tmp 60) rfl v (quL s i) [92, 117, 48, 48, hexI (x / 16), hexI (x % 16)] wr.heap.size (by simp [Act.eval, Act.put]) (by simp [Act.eval, Act.put]) (HBD.out.alloc _) (heap_alloc_new _ _) (by have := HL.out; simp; omega) ?_; intro v2 w2 b2; rw [← HQ.out] at b2; have B2 := Lib.hid b2; clear b2))
            all_goals
              go_wp2_with fail
              go_roundw
              case rel => exact ⟨i + 1, _, by omega, by go_num, rfl, B2⟩
              case measure => simp [intOf]; omega
      · rw [esc_own HS.out hlo] at HQ
        have g4 : 8 ≤ x := by omega
        have g5 : ¬ x ≤ 13 := by omega
        clear c34 c92 c8 c9 c10 c12 c13
        go_wp2_with (at_builtin; refine app_bytes rfl (.tmp 17) (.tmp 19) rfl v (quL s i) [x] wr.heap.size (by simp [Act.eval, Act.put]) (by simp [Act.eval, Act.put]) (HB.out.alloc _) (heap_alloc_new _ _) (by have := HL.out; simp; omega) ?_; intro v2 w2 b2; rw [← HQ.out] at b2; have B2 := Lib.hid b2; clear b2)
        go_roundw
        case rel => exact ⟨i + 1, _, by omega, by go_num, rfl, B2⟩
        case measure => simp [intOf]; omega
    · have him : i = s.size := by omega
      subst him
      have hz : ¬ ((s.size : Int) < (s.size : Int)) := by omega
      go_wp2_with (at_builtin; refine app_bytes rfl (.tmp 62) (.tmp 63) rfl v (quL s s.size) [34] wr.heap.size (by simp [Act.eval, Act.put]) (by simp [Act.eval, Act.put]) (HB.out.alloc _) (heap_alloc_new _ _) (by have := HL.out; simp; omega) ?_; intro v2 w2 b2; have hcv := conv_own b2.1 (qu_end s); have B2 := Lib.hid b2; clear b2)
      go_ret
      exact ⟨rfl, B2.out.2⟩
end Go.Proofs.YtnbmecabnkhniaaDoor
/- Layer 31, ServeWrites: a text quoted, what is no text as the empty one. -/
namespace Go.Proofs.YtnbmecabnkhniaaDoor
open Go.RowKit
def sqT (s : ByteArray) : ByteArray := if isTx s then quT s else ⟨#[34, 34]⟩
theorem ck_small {s : ByteArray} (h : s.size ≤ 16384) : ckE s = if isTx s = true then 0 else 10 := by unfold ckE; rw [if_neg (by omega)]
theorem quT_nil : quT ⟨#[]⟩ = ⟨#[34, 34]⟩ := by rfl
set_option maxRecDepth 20000 in
theorem jQuote_any (s : ByteArray) (w : World) (hs : s.size ≤ 16384) : Calls Tryd.prog 10 #[.string s] w fun e w' => e = .returned (.tuple #[.string (if isTx s then quT s else ⟨#[]⟩), .int .i64 (ckE s)]) ∧ Below w.heap.size w w' := by
  have HC := Lib.hid (check_any s w (by unfold maxLen; omega))
  have HJ := Lib.hid (fun W => jquote_any s W (by omega))
  obtain ⟨b, hb⟩ : ∃ b, b = isTx s := ⟨_, rfl⟩
  have HE : Hid (ckE s = if b = true then 0 else 10) := Lib.hid (by rw [hb]; exact ck_small hs)
  rw [HE.out] at HC ⊢
  rw [← hb]
  clear hb HE
  cases b with
  | false =>
    go_enter Tryd.func10, Tryd.ntmps10
    go_wp2_with fail
    refine HC.out.mono ?_
    rintro e w1 ⟨rfl, b1⟩
    have B1 := Lib.hid b1
    clear b1
    go_wp2_with fail
    go_ret2
    exact ⟨rfl, B1.out⟩
  | true =>
    go_enter Tryd.func10, Tryd.ntmps10
    go_wp2_with fail
    refine HC.out.mono ?_
    rintro e w1 ⟨rfl, b1⟩
    have B1 := Lib.hid b1
    clear b1
    go_wp2_with fail
    refine (HJ.out w1).mono ?_
    rintro e w2 ⟨v, rfl, bo⟩
    have hcv := conv_own bo.1 (qu_end s)
    have B2 := Lib.hid (B1.out.trans (bo.2.mono B1.out.size))
    clear bo HJ HC
    go_wp2_with fail
    go_ret2
    exact ⟨rfl, B2.out⟩
end Go.Proofs.YtnbmecabnkhniaaDoor
/- Plain facts on numbers for layer 2: what fits 64 bits, with its sign. No program in sight. -/
namespace Go.Proofs.YtnbmecabnkhniaaDoor.Nm
open Go.RowKit

/-- Does a number fit an int64? -/
def fits (z : Int) : Bool := decide (-9223372036854775808 ≤ z ∧ z ≤ 9223372036854775807)
/-- What comes of a number: itself or 0. -/
def val (z : Int) : Int := if fits z then z else 0
/-- Its error: none or 20. -/
def err (z : Int) : Int := if fits z then 0 else 20
/-- A sign and a size. -/
def sv (s m : Int) : Int := if s = 0 then -m else m

theorem fits_yes {z : Int} (h0 : -9223372036854775808 ≤ z) (h1 : z ≤ 9223372036854775807) : fits z = true := by unfold fits; simp; omega
theorem fits_no {z : Int} (h : z < -9223372036854775808 ∨ 9223372036854775807 < z) : fits z = false := by unfold fits; simp; omega
theorem val_yes {z : Int} (h0 : -9223372036854775808 ≤ z) (h1 : z ≤ 9223372036854775807) : val z = z := by unfold val; rw [fits_yes h0 h1]; rfl
theorem err_yes {z : Int} (h0 : -9223372036854775808 ≤ z) (h1 : z ≤ 9223372036854775807) : err z = 0 := by unfold err; rw [fits_yes h0 h1]; rfl
theorem val_no {z : Int} (h : z < -9223372036854775808 ∨ 9223372036854775807 < z) : val z = 0 := by unfold val; rw [fits_no h]; rfl
theorem err_no {z : Int} (h : z < -9223372036854775808 ∨ 9223372036854775807 < z) : err z = 20 := by unfold err; rw [fits_no h]; rfl
theorem fits_cases (z : Int) : (-9223372036854775808 ≤ z ∧ z ≤ 9223372036854775807 ∧ val z = z ∧ err z = 0) ∨ ((z < -9223372036854775808 ∨ 9223372036854775807 < z) ∧ val z = 0 ∧ err z = 20) := by
  by_cases h : -9223372036854775808 ≤ z ∧ z ≤ 9223372036854775807
  · exact .inl ⟨h.1, h.2, val_yes h.1 h.2, err_yes h.1 h.2⟩
  · have h' : z < -9223372036854775808 ∨ 9223372036854775807 < z := by omega
    exact .inr ⟨h', val_no h', err_no h'⟩
theorem val_range (z : Int) : -9223372036854775808 ≤ val z ∧ val z ≤ 9223372036854775807 := by
  rcases fits_cases z with ⟨h0, h1, h2, _⟩ | ⟨_, h2, _⟩ <;> rw [h2] <;> omega
theorem err_two (z : Int) : err z = 0 ∨ err z = 20 := by rcases fits_cases z with ⟨_, _, _, h⟩ | ⟨_, _, h⟩ <;> simp [h]

theorem ret2 {k l : IntKind} {a b c d : Int} (h : a = b) (g : c = d) : Ending.returned (.tuple #[.int k a, .int l c]) = .returned (.tuple #[.int k b, .int l d]) := by rw [h, g]
theorem ret_bool {a b : Bool} (h : a = b) : Ending.returned (.bool a) = .returned (.bool b) := by rw [h]
theorem neg_wrap (n : Int) (h : -9223372036854775808 ≤ n) (hn : n < 0) : IntKind.u64.wrap (-IntKind.u64.wrap n) = -n := by
  rw [IntKind.wrap_u64, IntKind.wrap_u64]; omega
theorem back_wrap (m : Int) (h0 : 0 ≤ m) (h1 : m ≤ 9223372036854775808) : wrap64 (IntKind.u64.wrap (-m)) = -m := by
  rw [IntKind.wrap_u64]; unfold wrap64; omega
end Go.Proofs.YtnbmecabnkhniaaDoor.Nm
namespace Go.Proofs.YtnbmecabnkhniaaDoor.Nm
open Go.RowKit

/-- What the table of limits holds. -/
def Lim (w : World) : Prop := w.cell? ⟨1, 0, none⟩ = some (.int .u64 9223372036854775808) ∧ w.cell? ⟨1, 1, none⟩ = some (.int .u64 9223372036854775807)

theorem limit0 (w : World) (l : Lim w) : Calls Tryd.prog 50 #[.int .u8 0] w fun e w' => e = .returned (.int .u64 9223372036854775808) ∧ w = w' := by
  obtain ⟨l0, _⟩ := l
  go_enter Tryd.func50, Tryd.ntmps50
  go_wp2
  go_ret
  exact ⟨rfl, rfl⟩
theorem limit1 (w : World) (l : Lim w) : Calls Tryd.prog 50 #[.int .u8 1] w fun e w' => e = .returned (.int .u64 9223372036854775807) ∧ w = w' := by
  obtain ⟨_, l1⟩ := l
  go_enter Tryd.func50, Tryd.ntmps50
  go_wp2
  go_ret
  exact ⟨rfl, rfl⟩
theorem add64_run (x y : Int) (hx : 0 ≤ x) (hy : 0 ≤ y) (w : World) : (callFunc 40 #[.int .u64 x, .int .u64 y, .int .u64 0]).run Tryd.prog w = .ok (.value (.tuple #[.int .u64 ((x + y) % 18446744073709551616), .int .u64 ((x + y) / 18446744073709551616)])) w := by
  rw [run_callFunc_extern Tryd.func40 (by kernel_rfl) (by kernel_rfl) (by kernel_rfl) (e := add64Entry) (by kernel_rfl), run_add64 x y 0 hx hy (by omega) (by omega)]
  simp only [Result.andThen, Int.add_zero]

theorem join_any (s m : Int) (w : World) (l : Lim w) (hs : s = 0 ∨ s = 1) (h0 : 0 ≤ m) (h1 : m < 18446744073709551616) :
    Calls Tryd.prog 41 #[.int .u8 s, .int .u64 m] w fun e w' => e = .returned (.tuple #[.int .i64 (val (sv s m)), .int .i64 (err (sv s m))]) ∧ w = w' := by
  rcases hs with rfl | rfl
  · by_cases h : m ≤ 9223372036854775808
    · go_enter Tryd.func41, Tryd.ntmps41
      go_wp2_with (go_at_call 50; refine (limit0 _ l).mono ?_; rintro e w' ⟨rfl, rfl⟩)
      go_ret2
      have hz : sv 0 m = -m := by simp [sv]
      exact ⟨ret2 (by rw [hz, back_wrap m h0 h, val_yes (by omega) (by omega)]) (by rw [hz, err_yes (by omega) (by omega)]), rfl⟩
    · go_enter Tryd.func41, Tryd.ntmps41
      go_wp2_with (go_at_call 50; refine (limit0 _ l).mono ?_; rintro e w' ⟨rfl, rfl⟩)
      go_ret2
      have hz : sv 0 m = -m := by simp [sv]
      exact ⟨ret2 (by rw [hz, val_no (by omega)]) (by rw [hz, err_no (by omega)]), rfl⟩
  · by_cases h : m ≤ 9223372036854775807
    · go_enter Tryd.func41, Tryd.ntmps41
      go_wp2_with (go_at_call 50; refine (limit1 _ l).mono ?_; rintro e w' ⟨rfl, rfl⟩)
      go_ret2
      have hz : sv 1 m = m := by simp [sv]
      exact ⟨ret2 (by rw [hz, val_yes (by omega) (by omega)]) (by rw [hz, err_yes (by omega) (by omega)]), rfl⟩
    · go_enter Tryd.func41, Tryd.ntmps41
      go_wp2_with (go_at_call 50; refine (limit1 _ l).mono ?_; rintro e w' ⟨rfl, rfl⟩)
      go_ret2
      have hz : sv 1 m = m := by simp [sv]
      exact ⟨ret2 (by rw [hz, val_no (by omega)]) (by rw [hz, err_no (by omega)]), rfl⟩

end Go.Proofs.YtnbmecabnkhniaaDoor.Nm
/- Plain facts for layer 2: digits and what they tell. No program in sight. -/
namespace Go.Proofs.YtnbmecabnkhniaaDoor.Nm
open Go.RowKit

/-- The byte at a place; 0 behind the end. -/
def byt (s : ByteArray) (i : Nat) : Int := if h : i < s.size then (s[i].toNat : Int) else 0
theorem byt_range (s : ByteArray) (i : Nat) : 0 ≤ byt s i ∧ byt s i < 256 := by
  unfold byt; split
  · have := UInt8.toNat_lt s[i]; omega
  · omega
theorem byt_eq (s : ByteArray) (i : Nat) (h : i < s.size) : (s[i].toNat : Int) = byt s i := by simp [byt, h]
/-- Are the first k bytes digits? -/
def allD (s : ByteArray) : Nat → Bool
  | 0 => true
  | k + 1 => allD s k && decide (48 ≤ byt s k ∧ byt s k ≤ 57)
/-- Are they 0, or digits the first of which is not 0? -/
def areD (s : ByteArray) : Bool := decide (0 < s.size) && !(decide (byt s 0 = 48) && decide (s.size ≠ 1)) && allD s s.size
/-- What the first k digits tell. -/
def valD (s : ByteArray) : Nat → Int
  | 0 => 0
  | k + 1 => valD s k * 10 + (byt s k - 48)
theorem allD_mono (s : ByteArray) : ∀ k j, j ≤ k → allD s k = true → allD s j = true := by
  intro k
  induction k with
  | zero => intro j hj h; rw [Nat.le_zero.1 hj]; exact h
  | succ k ih =>
    intro j hj h
    by_cases e : j = k + 1
    · rw [e]; exact h
    · simp only [allD, Bool.and_eq_true] at h
      exact ih j (by omega) h.1
theorem allD_byte (s : ByteArray) (k j : Nat) (hj : j < k) (h : allD s k = true) : 48 ≤ byt s j ∧ byt s j ≤ 57 := by
  have := allD_mono s k (j + 1) hj h
  simp only [allD, Bool.and_eq_true, decide_eq_true_eq] at this
  exact this.2
theorem valD_nonneg (s : ByteArray) : ∀ k, allD s k = true → 0 ≤ valD s k := by
  intro k
  induction k with
  | zero => intro _; exact Int.le_refl _
  | succ k ih =>
    intro h
    simp only [allD, Bool.and_eq_true, decide_eq_true_eq] at h
    have := ih h.1
    simp only [valD]; omega
theorem valD_mono (s : ByteArray) : ∀ k j, j ≤ k → allD s k = true → valD s j ≤ valD s k := by
  intro k
  induction k with
  | zero => intro j hj _; rw [Nat.le_zero.1 hj]; exact Int.le_refl _
  | succ k ih =>
    intro j hj h
    by_cases e : j = k + 1
    · rw [e]; exact Int.le_refl _
    · have h' := h
      simp only [allD, Bool.and_eq_true, decide_eq_true_eq] at h'
      have h1 := ih j (by omega) h'.1
      have h2 := valD_nonneg s k h'.1
      simp only [valD]; omega
theorem areD_parts {s : ByteArray} (h : areD s = true) : 0 < s.size ∧ (byt s 0 = 48 → s.size = 1) ∧ allD s s.size = true := by
  simp only [areD, Bool.and_eq_true, decide_eq_true_eq, Bool.not_eq_true', Bool.and_eq_false_iff, decide_eq_false_iff_not] at h
  refine ⟨h.1.1, fun hb => ?_, h.2⟩
  rcases h.1.2 with g | g
  · exact absurd hb g
  · exact Classical.not_not.1 g
theorem list_one (s : ByteArray) (h0 : 0 < s.size) (hb : byt s 0 = 48) : (s.toList == [48]) = decide (s.size = 1) := by
  rw [Lib.toList_data, Bool.eq_iff_iff, beq_iff_eq, decide_eq_true_eq, Lib.size_eq]
  constructor
  · intro h; rw [h]; rfl
  · intro h
    have h1 : 0 < s.data.toList.length := by omega
    obtain ⟨x, hx⟩ := List.length_eq_one_iff.1 h
    have e0 : s[0]'h0 = x := by
      have : s.data.toList[0]'h1 = x := by simp [hx]
      rw [← this]; rfl
    rw [hx]
    have := byt_eq s 0 h0
    rw [hb, e0] at this
    have hx : x = 48 := UInt8.toNat_inj.1 (by have h48 : (48 : UInt8).toNat = 48 := rfl; omega)
    rw [hx]
theorem list_empty (s : ByteArray) : s.toList.isEmpty = decide (s.size = 0) := by
  rw [Lib.toList_data, Bool.eq_iff_iff, decide_eq_true_eq, Lib.size_eq, List.isEmpty_iff, List.length_eq_zero_iff]
/-- The text without a leading '-', and whether it has one. -/
def isNeg (s : ByteArray) : Bool := decide (0 < s.size) && decide (byt s 0 = 45)
def bare (s : ByteArray) : ByteArray := if isNeg s then s.extract 1 s.size else s
def sgn (s : ByteArray) : Int := if isNeg s then 0 else 1
/-- What Read tells: a number, and an error. -/
def rdZ (s : ByteArray) : Int := sv (sgn s) (valD (bare s) (bare s).size)
def rdV (s : ByteArray) : Int := if areD (bare s) then val (rdZ s) else 0
def rdE (s : ByteArray) : Int := if areD (bare s) then err (rdZ s) else 21
end Go.Proofs.YtnbmecabnkhniaaDoor.Nm
namespace Go.Proofs.YtnbmecabnkhniaaDoor.Nm
open Go.RowKit

theorem digits_any (s : ByteArray) (w : World) (hs : s.size ≤ maxLen) :
    Calls Tryd.prog 38 #[.string s] w fun e w' => e = .returned (.bool (areD s)) ∧ w = w' := by
  unfold maxLen at hs
  by_cases h0 : s.size = 0
  · have he : s.toList.isEmpty = true := by rw [list_empty]; simp [h0]
    have hr : Hid (areD s = false) := Lib.hid (by unfold areD; simp [h0])
    clear h0
    go_enter Tryd.func38, Tryd.ntmps38
    go_wp2_with fail
    go_ret
    exact ⟨ret_bool hr.out.symm, rfl⟩
  · have he : s.toList.isEmpty = false := by rw [list_empty]; simp [h0]
    have hpos : 0 < s.size := by omega
    have hb0 := byt_eq s 0 hpos
    by_cases hz : byt s 0 = 48 ∧ s.size ≠ 1
    · have hr : Hid (areD s = false) := Lib.hid (by unfold areD; simp [hz.1, hz.2])
      have hl : (s.toList == [48]) = false := by rw [list_one s hpos hz.1]; simp [hz.2]
      have ht : ((s[0].toNat : Int) == 48) = true := by rw [hb0, hz.1]; rfl
      clear h0 hz hb0
      go_enter Tryd.func38, Tryd.ntmps38
      go_wp2_with fail
      go_ret
      exact ⟨ret_bool hr.out.symm, rfl⟩
    · have hr : areD s = allD s s.size := by
        unfold areD
        by_cases hb : byt s 0 = 48
        · have : s.size = 1 := by omega
          simp [hb, this]
        · simp [hb, hpos]
      have HR := Lib.hid hr
      clear hr
      have htest : ((s[0].toNat : Int) == 48) = false ∨ ((s[0].toNat : Int) == 48) = true ∧ (s.toList == [48]) = true := by
        rw [hb0]
        by_cases hb : byt s 0 = 48
        · right; rw [list_one s hpos hb, hb]; simp; omega
        · left; simp [hb]
      clear h0 hz hb0
      rcases htest with ht | ⟨ht, hl⟩
      all_goals
        go_enter Tryd.func38, Tryd.ntmps38
        go_wp2_with fail
        go_loopw [2, 3] (fun b i wr => ∃ k : Nat, k ≤ s.size ∧ i = .int .i64 k ∧ b = .bool false ∧ allD s k = true ∧ w = wr) (fun _ i _ => s.size - (intOf i).toNat)
        case atStart => exact ⟨0, by omega, rfl, rfl, rfl, rfl⟩
        case round =>
          obtain ⟨k, hk, rfl, rfl, ha, rfl⟩ := hrel
          by_cases hlt : k < s.size
          · have hbk := byt_eq s k hlt
            by_cases h1 : byt s k < 48
            · have hf : Hid (allD s s.size = false) := Lib.hid (by
                cases hh : allD s s.size
                · rfl
                · have := allD_byte s _ k hlt hh; omega)
              have ht1 : (s[k].toNat : Int) < 48 := by omega
              clear ha hbk h1
              go_wp2_with fail
              go_ret
              exact ⟨ret_bool (by rw [HR.out, hf.out]), rfl⟩
            · by_cases h2 : 57 < byt s k
              · have hf : Hid (allD s s.size = false) := Lib.hid (by
                  cases hh : allD s s.size
                  · rfl
                  · have := allD_byte s _ k hlt hh; omega)
                have ht1 : ¬ (s[k].toNat : Int) < 48 := by omega
                have ht2 : 57 < (s[k].toNat : Int) := by omega
                clear ha hbk h1 h2
                go_wp2_with fail
                go_ret
                exact ⟨ret_bool (by rw [HR.out, hf.out]), rfl⟩
              · have hf : Hid (allD s (k + 1) = true) := Lib.hid (by simp only [allD, ha, Bool.true_and, decide_eq_true_eq]; omega)
                have ht1 : ¬ (s[k].toNat : Int) < 48 := by omega
                have ht2 : ¬ 57 < (s[k].toNat : Int) := by omega
                clear ha hbk h1 h2
                go_wp2_with fail
                go_roundw
                case rel => exact ⟨k + 1, by omega, by go_num, rfl, hf.out, trivial⟩
                case measure => simp [intOf]; omega
          · obtain rfl : k = s.size := by omega
            have HA := Lib.hid ha
            clear ha
            go_wp2_with fail
            go_ret
            exact ⟨ret_bool (by rw [HR.out, HA.out]), rfl⟩
end Go.Proofs.YtnbmecabnkhniaaDoor.Nm

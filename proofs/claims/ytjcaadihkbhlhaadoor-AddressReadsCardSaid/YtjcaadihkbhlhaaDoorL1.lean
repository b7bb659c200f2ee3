import Derived.Test.YtjcaadihkbhlhaaDoorC3
import Derived.Test.YtjcaadihkbhlhaaDoorJJ
namespace Go.Proofs.YtjcaadihkbhlhaaDoor
open Go.RowKit
/-- The first place of one of some bytes; the length: none. -/
def fdN (m : List UInt8) : List UInt8 → Nat
  | [] => 0
  | b :: r => if m.contains b then 0 else fdN m r + 1
theorem fdN_le (m : List UInt8) : ∀ l : List UInt8, fdN m l ≤ l.length
  | [] => Nat.le_refl _
  | b :: r => by
    unfold fdN
    have := fdN_le m r
    split
    · exact Nat.zero_le _
    · simp; omega
theorem fdN_at (m : List UInt8) (l : List UInt8) (i : Nat) (h : i < l.length) (hno : ∀ j, (hj : j < i) → m.contains (l[j]'(by omega)) = false) : i ≤ fdN m l := by
  induction l generalizing i with
  | nil => simp at h
  | cons b r ih =>
    cases i with
    | zero => exact Nat.zero_le _
    | succ i =>
      unfold fdN
      have h0 := hno 0 (by omega)
      simp only [List.getElem_cons_zero] at h0
      rw [h0]
      simp only [Bool.false_eq_true, if_false]
      have := ih i (by simpa using h) (fun j hj => by have := hno (j + 1) (by omega); simpa using this)
      omega
theorem fdN_drop (m : List UInt8) : ∀ (l : List UInt8) (k : Nat), k ≤ fdN m l → fdN m (l.drop k) = fdN m l - k
  | [], k, _ => by simp [fdN]
  | b :: r, 0, _ => by simp
  | b :: r, k + 1, h => by
    cases hb : m.contains b with
    | true => unfold fdN at h; rw [hb] at h; simp at h
    | false =>
      have e : fdN m (b :: r) = fdN m r + 1 := by
        conv => lhs; unfold fdN
        rw [hb]; rfl
      rw [e] at h ⊢
      rw [List.drop_succ_cons, fdN_drop m r k (by omega)]
      omega
theorem fdN_take (m : List UInt8) : ∀ (l : List UInt8) (k : Nat), k ≤ l.length → fdN m (l.take k) = min (fdN m l) k
  | [], k, h => by simp [fdN]
  | b :: r, 0, _ => by simp [fdN]
  | b :: r, k + 1, h => by
    rw [List.take_succ_cons]
    cases hb : m.contains b with
    | true => unfold fdN; rw [hb]; simp
    | false =>
      have e : ∀ x, fdN m (b :: x) = fdN m x + 1 := fun x => by
        conv => lhs; unfold fdN
        rw [hb]; rfl
      rw [e, e, fdN_take m r k (by simpa using h)]
      omega
theorem fdN_hit (m : List UInt8) : ∀ (l : List UInt8) (h : fdN m l < l.length), m.contains (l[fdN m l]'h) = true
  | [], h => by simp at h
  | b :: r, h => by
    cases hb : m.contains b with
    | true =>
      have e : fdN m (b :: r) = 0 := by unfold fdN; rw [hb]; rfl
      simp only [e, List.getElem_cons_zero]; exact hb
    | false =>
      have e : fdN m (b :: r) = fdN m r + 1 := by
        conv => lhs; unfold fdN
        rw [hb]; rfl
      have h2 : fdN m r < r.length := by rw [e] at h; simpa using h
      simp only [e, List.getElem_cons_succ]
      exact fdN_hit m r h2
theorem fdN_before (m : List UInt8) : ∀ (l : List UInt8) (j : Nat) (hj : j < fdN m l) (h : j < l.length), m.contains (l[j]'h) = false
  | [], j, _, h => by simp at h
  | b :: r, j, hj, h => by
    cases hb : m.contains b with
    | true => unfold fdN at hj; rw [hb] at hj; simp at hj
    | false =>
      have e : fdN m (b :: r) = fdN m r + 1 := by
        conv => lhs; unfold fdN
        rw [hb]; rfl
      rw [e] at hj
      cases j with
      | zero => exact hb
      | succ j => exact fdN_before m r j (by omega) (by simpa using h)
theorem any_fd (m : List UInt8) : ∀ l : List UInt8, Lib.indexAny l m = if fdN m l < l.length then (fdN m l : Int) else -1
  | [] => by simp [fdN, Lib.indexAny]
  | b :: r => by
    unfold Lib.indexAny
    rw [any_fd m r]
    cases hb : m.contains b with
    | true =>
      have e : fdN m (b :: r) = 0 := by unfold fdN; rw [hb]; rfl
      rw [e]; simp
    | false =>
      have e : fdN m (b :: r) = fdN m r + 1 := by
        conv => lhs; unfold fdN
        rw [hb]; rfl
      rw [e]
      by_cases h : fdN m r < r.length
      · rw [if_pos h]
        have : ((fdN m r : Int) == -1) = false := by rw [beq_eq_false_iff_ne]; omega
        simp [this, h]
      · rw [if_neg h]; simp [h]
theorem byte_fd (c : UInt8) : ∀ l : List UInt8, Lib.indexByte l c = if fdN [c] l < l.length then (fdN [c] l : Int) else -1
  | [] => by simp [fdN, Lib.indexByte]
  | b :: r => by
    unfold Lib.indexByte
    rw [byte_fd c r]
    have hbc : ([c] : List UInt8).contains b = (b == c) := by simp only [List.contains, List.elem]; cases (b == c) <;> rfl
    cases hb : (b == c) with
    | true =>
      have e : fdN [c] (b :: r) = 0 := by unfold fdN; rw [hbc, hb]; rfl
      rw [e]; simp
    | false =>
      have e : fdN [c] (b :: r) = fdN [c] r + 1 := by
        conv => lhs; unfold fdN
        rw [hbc, hb]; rfl
      rw [e]
      by_cases h : fdN [c] r < r.length
      · rw [if_pos h]
        have : ((fdN [c] r : Int) == -1) = false := by rw [beq_eq_false_iff_ne]; omega
        simp [this, h]
      · rw [if_neg h]; simp [h]
theorem cut_fd (c : UInt8) (l : List UInt8) : Lib.cut l [c] = (l.take (fdN [c] l), l.drop (fdN [c] l + 1), decide (fdN [c] l < l.length)) := by
  unfold Lib.cut
  rw [index1, byte_fd]
  have hle := fdN_le [c] l
  by_cases h : fdN [c] l < l.length
  · rw [if_pos h, if_pos (by omega)]
    simp [h]
  · have e : fdN [c] l = l.length := by omega
    rw [if_neg h, if_neg (by decide)]
    simp [e]
def FindAt (w : World) (s : ByteArray) (m : List UInt8) (v : Value) (W : World) : Prop := ∃ i : Nat, i ≤ s.size ∧ v = .int .i64 i ∧ W = w ∧ i ≤ fdN m s.data.toList
set_option maxRecDepth 20000 in
set_option maxHeartbeats 1000000 in
theorem find_any (s t : ByteArray) (ht : t.size ≤ 1000000) (hs : s.size ≤ 1000000) (w : World) : Calls Tryd.prog 21 #[.string s, .string t] w fun e w' => e = .returned (.int .i64 (fdN t.data.toList s.data.toList : Nat)) ∧ w' = w := by
  have HA := Lib.hid (fun b W => among_any b t ht W)
  obtain ⟨m, hm⟩ : ∃ m, m = t.data.toList := ⟨_, rfl⟩
  rw [← hm] at HA ⊢
  clear hm
  have hlen := Lib.hid (data_len s)
  have hle := fdN_le m s.data.toList
  rw [hlen.out] at hle
  go_enter Tryd.func21, Tryd.ntmps21
  go_wp2_with fail
  go_loopw [5] (fun s5 wr => FindAt w s m s5 wr) (fun s5 _ => s.size - (intOf s5).toNat)
  case atStart => exact ⟨0, Nat.zero_le _, rfl, rfl, Nat.zero_le _⟩
  case round =>
    obtain ⟨i, hi, rfl, hw, hno⟩ := hrel
    subst hw
    by_cases hlt : i < s.size
    · have hlt' : (i : Int) < s.size := by omega
      have hll : i < s.data.toList.length := by rw [hlen.out]; exact hlt
      obtain ⟨b, hb⟩ : ∃ b, b = s[i] := ⟨_, rfl⟩
      have hbl : s.data.toList[i] = b := by rw [hb]; rfl
      have k0 : ∀ q : i < s.size, (s[i].toNat : Int) = (b.toNat : Nat) := fun q => by rw [hb]
      have HB := Lib.hid (fun W => HA.out b W)
      have hat : i < fdN m s.data.toList → m.contains b = false := fun q => by rw [← hbl]; exact fdN_before m _ i q hll
      have hit : m.contains b = true → fdN m s.data.toList = i := fun q => by
        apply Classical.byContradiction
        intro hne
        rw [hat (by omega)] at q
        cases q
      have hgo : m.contains b = false → i + 1 ≤ fdN m s.data.toList := fun q => by
        apply Classical.byContradiction
        intro hne
        have e : fdN m s.data.toList = i := by omega
        have := fdN_hit m s.data.toList (by omega)
        simp only [e, hbl] at this
        rw [this] at q
        cases q
      have HIT := Lib.hid hit
      have HGO := Lib.hid hgo
      clear hit hgo hat hbl hb hno hle
      obtain ⟨g, hg⟩ : ∃ g, g = m.contains b := ⟨_, rfl⟩
      rw [← hg] at HB HIT HGO
      clear hg
      cases g with
      | true =>
        have e := Lib.hid (HIT.out rfl)
        go_wp2_with fail
        refine (HB.out _).mono ?_
        rintro e w1 ⟨rfl, rfl⟩
        go_wp2_with fail
        go_ret
        exact ⟨by rw [e.out]; rfl, rfl⟩
      | false =>
        have e := Lib.hid (HGO.out rfl)
        go_wp2_with fail
        refine (HB.out _).mono ?_
        rintro e w1 ⟨rfl, rfl⟩
        go_wp2_with fail
        go_roundw
        case rel => exact ⟨i + 1, by omega, by go_num, rfl, e.out⟩
        case measure => simp [intOf]; omega
    · obtain rfl : i = s.size := by omega
      have e := Lib.hid (show fdN m s.data.toList = s.size from by omega)
      clear hno hle
      go_wp2_with fail
      go_ret
      exact ⟨by rw [e.out]; rfl, rfl⟩
end Go.Proofs.YtjcaadihkbhlhaaDoor

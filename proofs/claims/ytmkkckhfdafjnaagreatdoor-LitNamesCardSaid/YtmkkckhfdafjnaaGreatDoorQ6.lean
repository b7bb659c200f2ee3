import Derived.Test.YtmkkckhfdafjnaaGreatDoorQ5
import Derived.Test.YtmkkckhfdafjnaaGreatDoorQ3
import Derived.Lib.IndexLaws
import Derived.Below
import Derived.Deep.DeepCutAuto
import Derived.Deep.LoopGhost
import Derived.Laws.AppendOwn
import Derived.Laws.AppendOwnNone
import Derived.Deep.QuietTactic
import Derived.Lib.Join
import Derived.Test.YtmkkckhfdafjnaaGreatDoorQ1
import Derived.BigQuiet
import Derived.Deep.RegionWith
import Derived.Lib.AppendStr
import Derived.Lib.ItoaLen
import Derived.Test.YtmkkckhfdafjnaaGreatDoorQ4
import Derived.Test.YtmkkckhfdafjnaaGreatDoorQ2
import Derived.Lib.ItoaMem
import Derived.Lib.Replace
import Derived.Lib.IndexBytes
import Derived.Lib.SplitLaws
/- Layer 17: letters, names, Ints, marks, by both. -/
namespace Go.Proofs.YtmkkckhfdafjnaaGreatDoor
open Go.RowKit Go.Maps
theorem isletter_any (x : UInt8) (w : World) : Calls Tryz.prog 68 #[.int .u8 (x.toNat : Nat)] w fun e w' => e = .returned (.bool (letB x)) ∧ w' = w := by
  have HL := Lib.hid (let_val x)
  obtain ⟨b, hb⟩ : ∃ b, b = x.toNat := ⟨_, rfl⟩
  have hb2 : b < 256 := by rw [hb]; exact UInt8.toNat_lt _
  rw [← hb] at HL ⊢
  clear hb
  rcases (by omega : (0 ≤ b ∧ b ≤ 64) ∨ (65 ≤ b ∧ b ≤ 90) ∨ (91 ≤ b ∧ b ≤ 94) ∨ (95 ≤ b ∧ b ≤ 95) ∨ (96 ≤ b ∧ b ≤ 96) ∨ (97 ≤ b ∧ b ≤ 122) ∨ (123 ≤ b ∧ b ≤ 255)) with ⟨r1, r2⟩ | ⟨r1, r2⟩ | ⟨r1, r2⟩ | ⟨r1, r2⟩ | ⟨r1, r2⟩ | ⟨r1, r2⟩ | ⟨r1, r2⟩
  · have hL : letB x = false := by rw [HL.out]; simp; omega
    have g95 : ((b : Int) == 95) = false := by rw [beq_eq_false_iff_ne]; omega
    have g97 : ¬ (97 : Int) ≤ b := by omega
    have g65 : ¬ (65 : Int) ≤ b := by omega
    rw [hL]
    clear r1 r2 HL hL
    go_enter Tryz.func68, Tryz.ntmps68
    go_wp2_with fail
    go_ret
    exact ⟨rfl, rfl⟩
  · have hL : letB x = true := by rw [HL.out]; simp; omega
    have g95 : ((b : Int) == 95) = false := by rw [beq_eq_false_iff_ne]; omega
    have g97 : ¬ (97 : Int) ≤ b := by omega
    have g65 : (65 : Int) ≤ b := by omega
    have g90 : (b : Int) ≤ 90 := by omega
    rw [hL]
    clear r1 r2 HL hL
    go_enter Tryz.func68, Tryz.ntmps68
    go_wp2_with fail
    go_ret
    exact ⟨rfl, rfl⟩
  · have hL : letB x = false := by rw [HL.out]; simp; omega
    have g95 : ((b : Int) == 95) = false := by rw [beq_eq_false_iff_ne]; omega
    have g97 : ¬ (97 : Int) ≤ b := by omega
    have g65 : (65 : Int) ≤ b := by omega
    have g90 : ¬ (b : Int) ≤ 90 := by omega
    rw [hL]
    clear r1 r2 HL hL
    go_enter Tryz.func68, Tryz.ntmps68
    go_wp2_with fail
    go_ret
    exact ⟨rfl, rfl⟩
  · have hL : letB x = true := by rw [HL.out]; simp; omega
    have g95 : ((b : Int) == 95) = true := by rw [beq_iff_eq]; omega
    rw [hL]
    clear r1 r2 HL hL
    go_enter Tryz.func68, Tryz.ntmps68
    go_wp2_with fail
    go_ret
    exact ⟨rfl, rfl⟩
  · have hL : letB x = false := by rw [HL.out]; simp; omega
    have g95 : ((b : Int) == 95) = false := by rw [beq_eq_false_iff_ne]; omega
    have g97 : ¬ (97 : Int) ≤ b := by omega
    have g65 : (65 : Int) ≤ b := by omega
    have g90 : ¬ (b : Int) ≤ 90 := by omega
    rw [hL]
    clear r1 r2 HL hL
    go_enter Tryz.func68, Tryz.ntmps68
    go_wp2_with fail
    go_ret
    exact ⟨rfl, rfl⟩
  · have hL : letB x = true := by rw [HL.out]; simp; omega
    have g95 : ((b : Int) == 95) = false := by rw [beq_eq_false_iff_ne]; omega
    have g97 : (97 : Int) ≤ b := by omega
    have g122 : (b : Int) ≤ 122 := by omega
    rw [hL]
    clear r1 r2 HL hL
    go_enter Tryz.func68, Tryz.ntmps68
    go_wp2_with fail
    go_ret
    exact ⟨rfl, rfl⟩
  · have hL : letB x = false := by rw [HL.out]; simp; omega
    have g95 : ((b : Int) == 95) = false := by rw [beq_eq_false_iff_ne]; omega
    have g97 : (97 : Int) ≤ b := by omega
    have g122 : ¬ (b : Int) ≤ 122 := by omega
    have g65 : (65 : Int) ≤ b := by omega
    have g90 : ¬ (b : Int) ≤ 90 := by omega
    rw [hL]
    clear r1 r2 HL hL
    go_enter Tryz.func68, Tryz.ntmps68
    go_wp2_with fail
    go_ret
    exact ⟨rfl, rfl⟩
theorem isdigit_any (x : UInt8) (w : World) : Calls Tryz.prog 69 #[.int .u8 (x.toNat : Nat)] w fun e w' => e = .returned (.bool (dgB x)) ∧ w' = w := by
  have HL := Lib.hid (dg_val x)
  obtain ⟨b, hb⟩ : ∃ b, b = x.toNat := ⟨_, rfl⟩
  have hb2 : b < 256 := by rw [hb]; exact UInt8.toNat_lt _
  rw [← hb] at HL ⊢
  clear hb
  rcases (by omega : (0 ≤ b ∧ b ≤ 47) ∨ (48 ≤ b ∧ b ≤ 57) ∨ (58 ≤ b ∧ b ≤ 255)) with ⟨r1, r2⟩ | ⟨r1, r2⟩ | ⟨r1, r2⟩
  · have hL : dgB x = false := by rw [HL.out]; simp; omega
    have g48 : ¬ (48 : Int) ≤ b := by omega
    rw [hL]
    clear r1 r2 HL hL
    go_enter Tryz.func69, Tryz.ntmps69
    go_wp2_with fail
    go_ret
    exact ⟨rfl, rfl⟩
  · have hL : dgB x = true := by rw [HL.out]; simp; omega
    have g48 : (48 : Int) ≤ b := by omega
    have g57 : (b : Int) ≤ 57 := by omega
    rw [hL]
    clear r1 r2 HL hL
    go_enter Tryz.func69, Tryz.ntmps69
    go_wp2_with fail
    go_ret
    exact ⟨rfl, rfl⟩
  · have hL : dgB x = false := by rw [HL.out]; simp; omega
    have g48 : (48 : Int) ≤ b := by omega
    have g57 : ¬ (b : Int) ≤ 57 := by omega
    rw [hL]
    clear r1 r2 HL hL
    go_enter Tryz.func69, Tryz.ntmps69
    go_wp2_with fail
    go_ret
    exact ⟨rfl, rfl⟩
theorem nil_lst : (⟨#[]⟩ : ByteArray).toList = [] := by first | (unfold ByteArray.toList; unfold ByteArray.toList.loop; rfl) | simp [ByteArray.toList, ByteArray.toList.loop]
theorem empty_lst {s : ByteArray} (h : s.size = 0) : s.toList = [] := by
  have e : s = ⟨#[]⟩ := by apply ByteArray.ext; exact Array.eq_empty_of_size_eq_zero h
  rw [e]; exact nil_lst
theorem full_lst {s : ByteArray} (h : s.size ≠ 0) : s.toList.isEmpty = false := List.isEmpty_eq_false_iff.2 (fun k => h (size_nil k))
set_option maxRecDepth 20000 in
theorem lname_any (s : ByteArray) (w : World) (hs : s.size ≤ 1000000) : Calls Tryz.prog 43 #[.string s] w fun e w' => e = .returned (.bool (nmB s)) ∧ w' = w := by
  obtain ⟨r, hr⟩ : ∃ r, r = nmB s := ⟨_, rfl⟩
  rw [← hr]
  have HR := Lib.hid hr
  clear hr
  go_enter Tryz.func43, Tryz.ntmps43
  go_wp2_with fail
  go_loop [3] (fun v => ∃ i : Nat, i ≤ s.size ∧ v = .int .i64 i ∧ Hid (∀ j (h : j < s.size), j < i → okAt s[j] j = true)) (fun v => s.size - (intOf v).toNat)
  case atStart => exact ⟨0, Nat.zero_le _, rfl, Lib.hid (fun j _ hj => absurd hj (Nat.not_lt_zero j))⟩
  case round =>
    obtain ⟨i, hi, rfl, HP⟩ := hrel
    by_cases hlt : i < s.size
    · have HN : Hid (okAt s[i] i = true → ∀ j (h : j < s.size), j < i + 1 → okAt s[j] j = true) := Lib.hid (fun ho j h hj => by
        by_cases e : j = i
        · subst e; exact ho
        · exact HP.out j h (by omega))
      have HB : Hid (okAt s[i] i = false → r = false) := Lib.hid (fun ho => HR.out.trans (nm_bad hlt ho))
      have HLA := Lib.hid (fun W => isletter_any s[i] W)
      have HDA := Lib.hid (fun W => isdigit_any s[i] W)
      have HOK : Hid (okAt s[i] i = (letB s[i] || (decide (i ≠ 0) && dgB s[i]))) := Lib.hid (by unfold okAt; first | rfl | (cases letB s[i] <;> cases dgB s[i] <;> by_cases h0 : i = 0 <;> simp [h0]))
      obtain ⟨x, hx⟩ : ∃ x, x = letB s[i] := ⟨_, rfl⟩
      obtain ⟨y, hy⟩ : ∃ y, y = dgB s[i] := ⟨_, rfl⟩
      rw [← hx] at HLA HOK
      rw [← hy] at HDA HOK
      clear hx hy HP HR
      have hi0 : (0 : Int) ≤ (i : Int) := by omega
      have hii : (i : Int) < s.size := by omega
      cases x with
      | true =>
        have HO := Lib.hid (HN.out (by rw [HOK.out]; rfl))
        go_wp2_with (first | (go_at_call 68; refine (HLA.out _).mono ?_; rintro e w' ⟨rfl, rfl⟩))
        go_round
        case rel => exact ⟨i + 1, by omega, by go_num, HO⟩
        case measure => simp [intOf]; omega
      | false =>
        by_cases h0 : i = 0
        · subst h0
          have z0 : (((0 : Nat) : Int) == 0) = true := rfl
          have HO := Lib.hid (HB.out (by rw [HOK.out]; simp))
          clear HN HB
          go_wp2_with (first | (go_at_call 68; refine (HLA.out _).mono ?_; rintro e w' ⟨rfl, rfl⟩))
          go_ret
          exact ⟨ret_bool HO.out.symm, rfl⟩
        · have z0 : ((i : Int) == 0) = false := by rw [beq_eq_false_iff_ne]; omega
          cases y with
          | true =>
            have HO := Lib.hid (HN.out (by rw [HOK.out]; simp [h0]))
            clear h0
            go_wp2_with (first | (go_at_call 68; refine (HLA.out _).mono ?_; rintro e w' ⟨rfl, rfl⟩) | (go_at_call 69; refine (HDA.out _).mono ?_; rintro e w' ⟨rfl, rfl⟩))
            go_round
            case rel => exact ⟨i + 1, by omega, by go_num, HO⟩
            case measure => simp [intOf]; omega
          | false =>
            have HO := Lib.hid (HB.out (by rw [HOK.out]; simp))
            clear h0
            go_wp2_with (first | (go_at_call 68; refine (HLA.out _).mono ?_; rintro e w' ⟨rfl, rfl⟩) | (go_at_call 69; refine (HDA.out _).mono ?_; rintro e w' ⟨rfl, rfl⟩))
            go_ret
            exact ⟨ret_bool HO.out.symm, rfl⟩
    · have hz : ¬ ((i : Int) < s.size) := by omega
      by_cases he : s.size = 0
      · have hn := empty_lst he
        have HO : Hid (r = false) := Lib.hid (by
          rw [HR.out]
          cases h : nmB s with
          | false => rfl
          | true => exact absurd he ((nm_iff s).1 h).1)
        clear he
        go_wp2_with fail
        go_ret
        exact ⟨ret_bool HO.out.symm, rfl⟩
      · have hn := full_lst he
        have HO := Lib.hid (HR.out.trans ((nm_iff s).2 ⟨he, fun j h => HP.out j h (by omega)⟩))
        clear he
        go_wp2_with fail
        go_ret
        exact ⟨ret_bool HO.out.symm, rfl⟩
/-! ### Ints -/
def intB (s : ByteArray) : Bool := Nm.areD (Nm.bare s)
set_option maxRecDepth 20000 in
theorem lint_any (s : ByteArray) (w : World) (l : Nm.Lim w) (hs : s.size ≤ maxLen) : Calls Tryz.prog 100 #[.string s] w fun e w' => e = .returned (.bool (intB s)) ∧ Below w.heap.size w w' := by
  have HC := Lib.hid (Nm.read_rest s w l hs)
  have HE : Hid (Nm.rdE s = if intB s = true then Nm.err (Nm.rdZ s) else 21) := Lib.hid rfl
  obtain ⟨E, hE⟩ : ∃ E, E = Nm.rdE s := ⟨_, rfl⟩
  obtain ⟨b, hb⟩ : ∃ b, b = intB s := ⟨_, rfl⟩
  rw [← hE] at HC HE
  rw [← hb] at HE ⊢
  have hx : (E != 21) = b := by
    rw [HE.out]
    cases b with
    | false => rfl
    | true =>
      rw [if_pos rfl]
      rcases Nm.err_two (Nm.rdZ s) with h | h <;> rw [h] <;> rfl
  clear hE hb HE
  go_enter Tryz.func100, Tryz.ntmps100
  go_wp2_with fail
  refine HC.out.mono ?_
  rintro e w1 ⟨rfl, b1⟩
  have B1 := Lib.hid b1
  clear b1
  go_wp2_with fail
  go_ret
  exact ⟨rfl, B1.out⟩
end Go.Proofs.YtmkkckhfdafjnaaGreatDoor
/- Layer 17: marks and Ints, by both. -/
namespace Go.Proofs.YtmkkckhfdafjnaaGreatDoor
open Go.RowKit Go.Maps
/-- Is a text a mark? -/
def pmB (s : ByteArray) : Bool := (s.toList == [46, 46, 46]) || (List.range 13).any (fun i => s.toList == ((⟨#[33, 36, 38, 40, 41, 58, 61, 64, 91, 93, 123, 124, 125]⟩ : ByteArray).extract i (i + 1)).toList)
theorem mk_dots {s : ByteArray} (h : s.toList = [46, 46, 46]) : pmB s = true := by unfold pmB; rw [h]; rfl
theorem mk_none {s : ByteArray} (h : ∀ j, j < 13 → (s.toList == ((⟨#[33, 36, 38, 40, 41, 58, 61, 64, 91, 93, 123, 124, 125]⟩ : ByteArray).extract j (j + 1)).toList) = false) : pmB s = (s.toList == [46, 46, 46]) := by
  unfold pmB
  rw [List.any_eq_false.2 (fun j hj => by rw [h j (List.mem_range.1 hj)]; simp), Bool.or_false]
theorem cut_list (j : Nat) (hj : j < 13) : ((⟨#[33, 36, 38, 40, 41, 58, 61, 64, 91, 93, 123, 124, 125]⟩ : ByteArray).extract j (j + 1)).toList = [(⟨#[33, 36, 38, 40, 41, 58, 61, 64, 91, 93, 123, 124, 125]⟩ : ByteArray).data.toList.getD j 0] := by
  rw [Lib.toList_data, Lib.extract_data]
  revert hj
  revert j
  decide
theorem mk_long {s : ByteArray} (h1 : s.size ≠ 1) (h3 : ¬ s.toList = [46, 46, 46]) : pmB s = false := by
  rw [mk_none, beq_eq_false_iff_ne]
  · exact h3
  · intro j hj
    rw [cut_list j hj, beq_eq_false_iff_ne]
    intro h
    exact h1 (by rw [Lib.size_eq, ← Lib.toList_data, h]; rfl)
theorem all_bytes (p : UInt8 → Bool) (h : (List.range 256).all (fun n => p (UInt8.ofNat n)) = true) (c : UInt8) : p c = true := by
  have := List.all_eq_true.1 h c.toNat (List.mem_range.2 (UInt8.toNat_lt c))
  simpa using this
theorem mk_one (c : UInt8) : pmB ⟨#[c]⟩ = decide (0 ≤ Lib.indexByte (⟨#[33, 36, 38, 40, 41, 58, 61, 64, 91, 93, 123, 124, 125]⟩ : ByteArray).data.toList c) := by
  have h0 : (⟨#[c]⟩ : ByteArray).toList = [c] := by rw [Lib.toList_data]
  have h1 : (List.range 13).any (fun i => [c] == ((⟨#[33, 36, 38, 40, 41, 58, 61, 64, 91, 93, 123, 124, 125]⟩ : ByteArray).extract i (i + 1)).toList) = (List.range 13).any (fun i => [c] == [(⟨#[33, 36, 38, 40, 41, 58, 61, 64, 91, 93, 123, 124, 125]⟩ : ByteArray).data.toList.getD i 0]) := by
    rw [Bool.eq_iff_iff, List.any_eq_true, List.any_eq_true]
    constructor
    · rintro ⟨i, hi, h⟩; exact ⟨i, hi, by rw [cut_list i (List.mem_range.1 hi)] at h; exact h⟩
    · rintro ⟨i, hi, h⟩; exact ⟨i, hi, by rw [cut_list i (List.mem_range.1 hi)]; exact h⟩
  unfold pmB
  rw [h0, h1]
  have := all_bytes (fun c => (([c] == [46, 46, 46]) || (List.range 13).any (fun i => [c] == [(⟨#[33, 36, 38, 40, 41, 58, 61, 64, 91, 93, 123, 124, 125]⟩ : ByteArray).data.toList.getD i 0])) == decide (0 ≤ Lib.indexByte (⟨#[33, 36, 38, 40, 41, 58, 61, 64, 91, 93, 123, 124, 125]⟩ : ByteArray).data.toList c)) (by decide +kernel) c
  exact beq_iff_eq.1 this
set_option maxRecDepth 20000 in
theorem lmark_any (s : ByteArray) (w : World) : Calls Tryz.prog 101 #[.string s] w fun e w' => e = .returned (.bool (pmB s)) ∧ w' = w := by
  by_cases h3 : s.toList = [46, 46, 46]
  · have HO := Lib.hid (mk_dots h3)
    go_enter Tryz.func101, Tryz.ntmps101
    go_wp2_with fail
    go_ret
    exact ⟨ret_bool HO.out.symm, rfl⟩
  · by_cases hs : s.size = 1
    · have h1 : (s.size : Int) = 1 := by omega
      have HC : Hid (∀ W, Calls Tryz.prog 110 #[.string (⟨#[33, 36, 38, 40, 41, 58, 61, 64, 91, 93, 123, 124, 125]⟩ : ByteArray), .string s] W fun e w' => e = .returned (.bool (pmB s)) ∧ w' = W) := Lib.hid (fun W => by
        obtain ⟨c, hc⟩ : ∃ c : UInt8, s = ⟨#[c]⟩ := by
          rw [Lib.size_eq] at hs
          obtain ⟨x, hx⟩ := List.length_eq_one_iff.1 hs
          exact ⟨x, by apply ByteArray.ext; apply Array.ext'; rw [hx]⟩
        rw [hc, mk_one]
        exact Tryz.strings_Contains_one _ c W)
      clear hs
      go_enter Tryz.func101, Tryz.ntmps101
      go_wp2_with (go_at_call 110; refine (HC.out _).mono ?_; rintro e w' ⟨rfl, rfl⟩)
      go_ret
      exact ⟨ret_bool (by rw [beq_eq_false_iff_ne.2 h3, Bool.false_or]), rfl⟩
    · have h1 : ((s.size : Int) == 1) = false := by rw [beq_eq_false_iff_ne]; omega
      have HO := Lib.hid (mk_long hs h3)
      clear hs
      go_enter Tryz.func101, Tryz.ntmps101
      go_wp2_with fail
      go_ret
      exact ⟨ret_bool ((beq_eq_false_iff_ne.2 h3).trans HO.out.symm), rfl⟩
/-! ### Ints, by the document -/
end Go.Proofs.YtmkkckhfdafjnaaGreatDoor
/- Layer 17: tokens in memory; whether a token may be, by both. -/
namespace Go.Proofs.YtmkkckhfdafjnaaGreatDoor
open Go.RowKit Go.Maps
structure TkR where
  k : Int
  s : ByteArray
  a : Int
/-- Tokens in memory. -/
def TkV (w : World) (a : Option Addr) (n : Nat) (g : Nat → TkR) : Prop :=
  ∀ i, i < n → ∃ b off, a = some ⟨b, off, none⟩ ∧ b < w.heap.size ∧ w.cell? ⟨b, off + i * 3, none⟩ = some (.int .u8 (g i).k) ∧ w.cell? ⟨b, off + i * 3 + 1, none⟩ = some (.string (g i).s) ∧ w.cell? ⟨b, off + i * 3 + 2, none⟩ = some (.int .i64 (g i).a)
theorem TkV.below {w w' : World} {a : Option Addr} {n : Nat} {g : Nat → TkR} (h : TkV w a n g) (hb : Below w.heap.size w w') : TkV w' a n g := fun i hi => by
  obtain ⟨b, off, e, h0, h1, h2, h3⟩ := h i hi
  have c : ∀ o, w'.cell? ⟨b, o, none⟩ = w.cell? ⟨b, o, none⟩ := fun o => World.cell?_of_block (hb.block b h0)
  exact ⟨b, off, e, Nat.lt_of_lt_of_le h0 hb.size, by rw [c]; exact h1, by rw [c]; exact h2, by rw [c]; exact h3⟩
theorem TkV.at_ {w : World} {b off n : Nat} {g : Nat → TkR} (h : TkV w (some ⟨b, off, none⟩) n g) {i : Nat} (hi : i < n) : b < w.heap.size ∧ w.cell? ⟨b, off + i * 3, none⟩ = some (.int .u8 (g i).k) ∧ w.cell? ⟨b, off + i * 3 + 1, none⟩ = some (.string (g i).s) ∧ w.cell? ⟨b, off + i * 3 + 2, none⟩ = some (.int .i64 (g i).a) := by
  obtain ⟨b', off', e, k⟩ := h i hi
  cases e
  exact k
theorem TkV.addr {w : World} {a : Option Addr} {n : Nat} {g : Nat → TkR} (h : TkV w a n g) (h0 : 0 < n) : ∃ b off, a = some ⟨b, off, none⟩ := by
  obtain ⟨b, off, e, _⟩ := h 0 h0
  exact ⟨b, off, e⟩
/-- May a token be? -/
def okT (x : TkR) : Bool := if x.k = 0 then x.s.toList.isEmpty else if x.k = 1 then nmB x.s else if x.k = 2 then intB x.s else if x.k = 3 then (ckE x.s == 0) else if x.k = 4 then pmB x.s else false
theorem lim_big {w : World} (l : Nm.Lim w) : 1 < w.heap.size := by
  by_cases h : 1 < w.heap.size
  · exact h
  · have h1 := l.1
    have : w.heap[1]? = none := Array.getElem?_eq_none (by omega)
    simp [World.cell?, this] at h1
theorem lim_up {w w' : World} (l : Nm.Lim w) (hb : Below w.heap.size w w') : Nm.Lim w' := ⟨by rw [hb.cell (lim_big l)]; exact l.1, by rw [hb.cell (lim_big l)]; exact l.2⟩
theorem below_box (w : World) (o : Obj) : Below w.heap.size w (w.alloc o) := (Below.refl _ _).alloc (Nat.le_refl _) _
theorem below_boxed {w w' : World} {o : Obj} (h : Below (w.alloc o).heap.size (w.alloc o) w') : Below w.heap.size w w' := (below_box w o).trans (h.mono (below_box w o).size)
theorem ret_intL {k : IntKind} {a b : Int} (h : a = b) : Ending.returned (.int k a) = .returned (.int k b) := by rw [h]
set_option maxRecDepth 20000 in
set_option maxHeartbeats 1000000 in
theorem lcheck_any (x : TkR) (w : World) (l : Nm.Lim w) (hs : x.s.size ≤ 1000000) : Calls Tryz.prog 87 #[.agg #[.int .u8 x.k, .string x.s, .int .i64 x.a]] w fun e w' => e = .returned (.int .i64 (if (okT x) then 0 else 8)) ∧ Below w.heap.size w w' := by
  obtain ⟨k, s, a⟩ := x
  obtain ⟨r, hr⟩ : ∃ r, r = okT ⟨k, s, a⟩ := ⟨_, rfl⟩
  rw [← hr]
  obtain ⟨E, hE⟩ : ∃ E : Int, E = if r then 0 else 8 := ⟨_, rfl⟩
  rw [← hE]
  have HE := Lib.hid hE
  clear hE
  unfold okT at hr
  have HS := Lib.hid hs
  have HL := Lib.hid l
  clear hs l
  dsimp only at hr HS ⊢
  rcases (by omega : k = 0 ∨ k = 1 ∨ k = 2 ∨ k = 3 ∨ k = 4 ∨ (k ≠ 0 ∧ k ≠ 1 ∧ k ≠ 2 ∧ k ≠ 3 ∧ k ≠ 4)) with rfl | rfl | rfl | rfl | rfl | ⟨k0, k1, k2, k3, k4⟩
  · by_cases hz : s.size = 0
    · have hn := empty_lst hz
      have HR : Hid (r = true) := Lib.hid (by rw [hr, if_pos rfl, hn]; rfl)
      clear hr hz
      go_enter Tryz.func87, Tryz.ntmps87
      go_wp2_with fail
      go_ret
      exact ⟨ret_intL (by rw [HE.out, HR.out]; rfl), below_box _ _⟩
    · have hn := full_lst hz
      have HR : Hid (r = false) := Lib.hid (by rw [hr, if_pos rfl, hn])
      clear hr hz
      go_enter Tryz.func87, Tryz.ntmps87
      go_wp2_with fail
      go_ret
      exact ⟨ret_intL (by rw [HE.out, HR.out]; rfl), below_box _ _⟩
  · have hr2 : r = nmB s := by rw [hr, if_neg (by decide), if_pos rfl]
    clear hr
    have HC : Hid (∀ W, Below w.heap.size w W → Calls Tryz.prog 43 #[.string s] W fun e w' => e = .returned (.bool (nmB s)) ∧ Below W.heap.size W w') := Lib.hid (fun W hW => (lname_any s W HS.out).mono (fun e w' h => ⟨h.1, by rw [h.2]; exact Below.refl _ _⟩))
    cases hb : nmB s
    all_goals
      rw [hb] at hr2
      have HR := Lib.hid hr2
      rw [hb] at HC
      clear hr2 hb
      go_enter Tryz.func87, Tryz.ntmps87
      go_wp2_with fail
      refine (HC.out _ (below_box _ _)).mono ?_
      rintro e w1 ⟨rfl, b1⟩
      have B1 := Lib.hid (below_boxed b1)
      clear b1
      go_wp2_with fail
      go_ret
      exact ⟨ret_intL (by rw [HE.out, HR.out]; rfl), B1.out⟩
  · have hr2 : r = intB s := by rw [hr, if_neg (by decide), if_neg (by decide), if_pos rfl]
    clear hr
    have HC : Hid (∀ W, Below w.heap.size w W → Calls Tryz.prog 100 #[.string s] W fun e w' => e = .returned (.bool (intB s)) ∧ Below W.heap.size W w') := Lib.hid (fun W hW => lint_any s W (lim_up HL.out hW) (by have := HS.out; unfold maxLen; omega))
    cases hb : intB s
    all_goals
      rw [hb] at hr2
      have HR := Lib.hid hr2
      rw [hb] at HC
      clear hr2 hb
      go_enter Tryz.func87, Tryz.ntmps87
      go_wp2_with fail
      refine (HC.out _ (below_box _ _)).mono ?_
      rintro e w1 ⟨rfl, b1⟩
      have B1 := Lib.hid (below_boxed b1)
      clear b1
      go_wp2_with fail
      go_ret
      exact ⟨ret_intL (by rw [HE.out, HR.out]; rfl), B1.out⟩
  · have hr2 : r = (ckE s == 0) := by rw [hr, if_neg (by decide), if_neg (by decide), if_neg (by decide), if_pos rfl]
    clear hr
    have HC : Hid (∀ W, Below w.heap.size w W → Calls Tryz.prog 27 #[.string s] W fun e w' => e = .returned (.int .i64 (ckE s)) ∧ Below W.heap.size W w') := Lib.hid (fun W hW => check_any s W (by have := HS.out; unfold maxLen; omega))
    cases hb : (ckE s == 0)
    all_goals
      rw [hb] at hr2
      have HR := Lib.hid hr2
      have hb2 := hb
      clear hr2 hb
      go_enter Tryz.func87, Tryz.ntmps87
      go_wp2_with fail
      refine (HC.out _ (below_box _ _)).mono ?_
      rintro e w1 ⟨rfl, b1⟩
      have B1 := Lib.hid (below_boxed b1)
      clear b1
      go_wp2_with fail
      go_ret
      exact ⟨ret_intL (by rw [HE.out, HR.out]; rfl), B1.out⟩
  · have hr2 : r = pmB s := by rw [hr, if_neg (by decide), if_neg (by decide), if_neg (by decide), if_neg (by decide), if_pos rfl]
    clear hr
    have HC : Hid (∀ W, Below w.heap.size w W → Calls Tryz.prog 101 #[.string s] W fun e w' => e = .returned (.bool (pmB s)) ∧ Below W.heap.size W w') := Lib.hid (fun W hW => (lmark_any s W).mono (fun e w' h => ⟨h.1, by rw [h.2]; exact Below.refl _ _⟩))
    cases hb : pmB s
    all_goals
      rw [hb] at hr2
      have HR := Lib.hid hr2
      rw [hb] at HC
      clear hr2 hb
      go_enter Tryz.func87, Tryz.ntmps87
      go_wp2_with fail
      refine (HC.out _ (below_box _ _)).mono ?_
      rintro e w1 ⟨rfl, b1⟩
      have B1 := Lib.hid (below_boxed b1)
      clear b1
      go_wp2_with fail
      go_ret
      exact ⟨ret_intL (by rw [HE.out, HR.out]; rfl), B1.out⟩
  · have HR : Hid (r = false) := Lib.hid (by rw [hr, if_neg k0, if_neg k1, if_neg k2, if_neg k3, if_neg k4])
    clear hr
    go_enter Tryz.func87, Tryz.ntmps87
    go_wp2_with fail
    go_ret
    exact ⟨ret_intL (by rw [HE.out, HR.out]; rfl), below_box _ _⟩
end Go.Proofs.YtmkkckhfdafjnaaGreatDoor
/- Layer 17: Great, Tell, Joined, Join by the document. -/
namespace Go.Proofs.YtmkkckhfdafjnaaGreatDoor
open Go.RowKit Go.Maps
/-! ### What a token tells -/
def tellT (x : TkR) : ByteArray := if x.k = 3 then quT x.s else x.s
end Go.Proofs.YtmkkckhfdafjnaaGreatDoor
/- Layer 17: Join by the document; Same; rows of tokens of one's own. -/
namespace Go.Proofs.YtmkkckhfdafjnaaGreatDoor
open Go.RowKit Go.Maps
end Go.Proofs.YtmkkckhfdafjnaaGreatDoor
/- Layer 17: rows of texts, joined by spaces. -/
namespace Go.Proofs.YtmkkckhfdafjnaaGreatDoor
open Go.RowKit
/-- A row of texts of the call's own. -/
def SO (B : Nat) (w : World) (v : Value) (L : List ByteArray) : Prop := w.ownsRow B 9 1 v L.length (L.map Value.string) ∧ B ≤ w.heap.size
theorem SO.nil (w : World) : SO w.heap.size w (.slice none 0 0) [] := ⟨World.ownsRow_nil _ _ _ _, Nat.le_refl _⟩
theorem SO.alloc {B : Nat} {w : World} {v : Value} {L : List ByteArray} (h : SO B w v L) (o : Obj) : SO B (w.alloc o) v L := ⟨h.1.alloc o, by simp; have := h.2; omega⟩
theorem SO.drew {B : Nat} {w : World} {v : Value} {L : List ByteArray} (h : SO B w v L) : SO B w.drew v L := ⟨h.1.drew, h.2⟩
theorem SO.up {B : Nat} {w w' : World} {v : Value} {L : List ByteArray} (h : SO B w v L) (hb : Below w.heap.size w w') : SO B w' v L := ⟨own_below h.1 hb, Nat.le_trans h.2 hb.size⟩
theorem SO.base {B C : Nat} {w : World} {v : Value} {L : List ByteArray} (h : SO B w v L) (hc : C ≤ B) : SO C w v L := by
  refine ⟨⟨h.1.1, ?_⟩, Nat.le_trans hc h.2⟩
  rcases h.1.2 with h1 | ⟨g, cap, cur, e, hg, rest⟩
  · exact .inl h1
  · exact .inr ⟨g, cap, cur, e, Nat.le_trans hc hg, rest⟩
/-- What append did left all below the row's base. -/
theorem SO.below {B : Nat} {w w' : World} {v : Value} {L : List ByteArray} (h : SO B w v L) (hg : w.grownBy w' v.ownBlock) : Below B w w' :=
  (Below.refl B w).grown hg h.2 (fun k hk => by
    rcases h.1.2 with ⟨rfl, _⟩ | ⟨g, cap, cur, rfl, hg, _⟩
    · cases hk
    · simp only [Value.ownBlock, Option.some.injEq] at hk
      subst hk; exact hg)
end Go.Proofs.YtmkkckhfdafjnaaGreatDoor
/- Layer 17: the program's Join. -/
namespace Go.Proofs.YtmkkckhfdafjnaaGreatDoor
open Go.RowKit Go.Maps
end Go.Proofs.YtmkkckhfdafjnaaGreatDoor
/- Layer 17: the walk of LexJoins. -/
namespace Go.Proofs.YtmkkckhfdafjnaaGreatDoor
open Go.RowKit Go.Maps
def rw3 (g : Nat → TkR) : Nat → List Value
  | 0 => []
  | n + 1 => rw3 g n ++ [.int .u8 (g n).k, .string (g n).s, .int .i64 (g n).a]
theorem rw3_len (g : Nat → TkR) : ∀ n, (rw3 g n).length = n * 3
  | 0 => rfl
  | n + 1 => by
    show (rw3 g n ++ [_, _, _]).length = _
    rw [List.length_append, rw3_len g n]
    show n * 3 + 3 = _
    omega
theorem rw3_at (g : Nat → TkR) : ∀ n i, i < n → (rw3 g n)[i * 3]? = some (.int .u8 (g i).k) ∧ (rw3 g n)[i * 3 + 1]? = some (.string (g i).s) ∧ (rw3 g n)[i * 3 + 2]? = some (.int .i64 (g i).a)
  | 0, i, h => absurd h (Nat.not_lt_zero i)
  | n + 1, i, h => by
    have hl := rw3_len g n
    show (rw3 g n ++ [_, _, _])[i * 3]? = _ ∧ (rw3 g n ++ [_, _, _])[i * 3 + 1]? = _ ∧ (rw3 g n ++ [_, _, _])[i * 3 + 2]? = _
    by_cases e : i = n
    · subst e
      rw [List.getElem?_append_right (by omega), List.getElem?_append_right (by omega), List.getElem?_append_right (by omega), hl]
      rw [show i * 3 - i * 3 = 0 by omega, show i * 3 + 1 - i * 3 = 1 by omega, show i * 3 + 2 - i * 3 = 2 by omega]
      exact ⟨rfl, rfl, rfl⟩
    · rw [List.getElem?_append_left (by omega), List.getElem?_append_left (by omega), List.getElem?_append_left (by omega)]
      exact rw3_at g n i (by omega)
theorem own_tk {w : World} {B n : Nat} {v : Value} {g : Nat → TkR} (h : w.ownsRow B 59 3 v n (rw3 g n)) : ∃ a c, v = .slice a n c ∧ TkV w a n g := by
  rcases h.2 with ⟨rfl, rfl⟩ | ⟨q, cap, cur, rfl, hq, hb, h1, h2, h3, h4⟩
  · exact ⟨none, 0, rfl, fun i hi => absurd hi (Nat.not_lt_zero i)⟩
  · refine ⟨_, cap, rfl, fun i hi => ?_⟩
    have hc : ∀ j u, (rw3 g n)[j]? = some u → w.cell? ⟨q, 0 + j, none⟩ = some u := fun j u hj => by
      have hlt := (List.getElem?_eq_some_iff.1 hj).1
      rw [rw3_len] at hlt
      have e : cur.toList[j]? = some u := by
        have : (cur.toList.take (n * 3))[j]? = (rw3 g n)[j]? := by rw [h4]
        rw [List.getElem?_take, if_pos hlt] at this
        rw [this, hj]
      rw [Nat.zero_add]
      simp [World.cell?, hb]
      simpa using e
    obtain ⟨a0, a1, a2⟩ := rw3_at g n i hi
    exact ⟨q, 0, rfl, (Array.getElem?_eq_some_iff.1 hb).1, hc _ _ a0, by rw [Nat.add_assoc]; exact hc _ _ a1, by rw [Nat.add_assoc]; exact hc _ _ a2⟩
theorem infoT : ∃ i, Tryz.prog.info? 59 = some i ∧ i.zero = some (.agg #[.int .u8 0, .string ⟨#[]⟩, .int .i64 0]) ∧ i.size = 3 ∧ i.bytes = 32 := by
  have h := Tryz.typeInfo59 default
  unfold typeInfo at h
  cases hq : Tryz.prog.info? 59 with
  | none => simp [hq] at h
  | some i =>
    simp [hq] at h
    exact ⟨i, rfl, by rw [h]; rfl, by rw [h]; rfl, by rw [h]; rfl⟩
end Go.Proofs.YtmkkckhfdafjnaaGreatDoor
/- Layer 4: bytes of texts as lists; what is appended to a row of bytes (with S0's BO). -/
namespace Go.Proofs.YtmkkckhfdafjnaaGreatDoor
open Go.RowKit
def bI (s : ByteArray) : List Int := s.data.toList.map fun b => (b.toNat : Int)
theorem bI_len (s : ByteArray) : (bI s).length = s.size := by unfold bI; rw [List.length_map, Array.length_toList]; rfl
theorem bI_mk {L : List Int} (h : ∀ y ∈ L, 0 ≤ y ∧ y < 256) : bI (mkB L) = L := by
  unfold bI mkB
  rw [List.map_map]
  conv => rhs; rw [← List.map_id L]
  apply List.map_congr_left
  intro x hx
  have := h x hx
  simp only [Function.comp, id]
  rw [UInt8.toNat_ofNat']
  omega
theorem BO.up {w0 w w' : World} {v : Value} {L : List Int} (h : BO w0 w v L) (hb : Below w.heap.size w w') : BO w0 w' v L := ⟨own_below h.1 hb, h.2.trans (hb.mono h.2.size)⟩
/-! ### A value's JSON (plain) -/
def itT (n : Int) : ByteArray := ⟨(Lib.itoa n).toArray⟩
end Go.Proofs.YtmkkckhfdafjnaaGreatDoor
/- Layer 4: what stands at a place; words and strings that are read (plain). -/
namespace Go.Proofs.YtmkkckhfdafjnaaGreatDoor
open Go.RowKit
/-- Those bytes stand at a place. -/
def AtL (s : ByteArray) : Nat → List Int → Prop
  | i, [] => i ≤ s.size
  | i, c :: r => i < s.size ∧ byt s i = c ∧ AtL s (i + 1) r
theorem at_le {s : ByteArray} : ∀ {L : List Int} {i : Nat}, AtL s i L → i + L.length ≤ s.size
  | [], i, h => h
  | c :: r, i, h => by have := at_le h.2.2; simp; omega
theorem at_app {s : ByteArray} : ∀ {A B : List Int} {i : Nat}, AtL s i (A ++ B) ↔ AtL s i A ∧ AtL s (i + A.length) B
  | [], B, i => ⟨fun h => ⟨by have := at_le h; show i ≤ s.size; simp at this; omega, h⟩, fun h => h.2⟩
  | c :: r, B, i => by
    have ih := at_app (s := s) (A := r) (B := B) (i := i + 1)
    have e : i + 1 + r.length = i + (c :: r).length := by simp; omega
    rw [e] at ih
    exact ⟨fun h => ⟨⟨h.1, h.2.1, (ih.1 h.2.2).1⟩, (ih.1 h.2.2).2⟩, fun h => ⟨h.1.1, h.1.2.1, ih.2 ⟨h.1.2.2, h.2⟩⟩⟩
theorem bI_at (s : ByteArray) (i : Nat) (h : i < s.size) : (bI s)[i]? = some (byt s i) := by
  unfold bI
  rw [List.getElem?_map, Array.getElem?_toList, Array.getElem?_eq_getElem (show i < s.data.size from h), ← byt_eq s i h]
  rfl
theorem at_drop (s : ByteArray) : ∀ f i, i + f = s.size → AtL s i ((bI s).drop i)
  | 0, i, h => by
    rw [List.drop_eq_nil_of_le (by rw [bI_len]; omega)]
    show i ≤ s.size
    omega
  | f + 1, i, h => by
    have hi : i < (bI s).length := by rw [bI_len]; omega
    rw [List.drop_eq_getElem_cons hi]
    have e := bI_at s i (by omega)
    rw [List.getElem?_eq_getElem hi] at e
    exact ⟨by omega, (Option.some.inj e).symm, at_drop s f (i + 1) (by omega)⟩
theorem at_all (s : ByteArray) : AtL s 0 (bI s) := by
  have h := at_drop s s.size 0 (by omega)
  rwa [List.drop_zero] at h
theorem enc_low (x : Int) (h : x < 128) : enc x = [x] := by unfold enc; rw [if_pos h]
end Go.Proofs.YtmkkckhfdafjnaaGreatDoor
/- Layer 4: what is written is a text (plain). -/
namespace Go.Proofs.YtmkkckhfdafjnaaGreatDoor
open Go.RowKit
/-- From a place on code points stand, up to another place. -/
inductive Tw (s : ByteArray) : Nat → Nat → Prop
  | nil (a : Nat) : Tw s a a
  | step {a b : Nat} : a < s.size → decIs s a = true → Tw s (a + leadN (byt s a)) b → Tw s a b
theorem Tw.trans {s : ByteArray} {a b c : Nat} (h : Tw s a b) (k : Tw s b c) : Tw s a c := by
  induction h with
  | nil => exact k
  | step h1 h2 _ ih => exact .step h1 h2 (ih k)
theorem Tw.tx {s : ByteArray} {a b : Nat} (h : Tw s a b) (hb : b = s.size) : ∀ f, s.size - a ≤ f → txF s f a = true := by
  induction h with
  | nil a => intro f _; exact txF_end (by omega)
  | step h1 h2 _ ih =>
    intro f hf
    have h3 := (decIs_lead h2).1
    rw [txF_step h1 hf, h2, ih hb (f - 1) (by omega)]
    rfl
theorem tw_of {s : ByteArray} : ∀ (f a : Nat), s.size - a ≤ f → a ≤ s.size → txF s f a = true → Tw s a s.size
  | 0, a, hf, ha, _ => by
    obtain rfl : a = s.size := by omega
    exact .nil _
  | f + 1, a, hf, ha, h => by
    by_cases e : a < s.size
    · rw [txF_step e hf, Bool.and_eq_true] at h
      have h3 := (decIs_lead h.1).1
      exact .step e h.1 (tw_of f _ (by omega) (dec_in e h.1) h.2)
    · obtain rfl : a = s.size := by omega
      exact .nil _
theorem isTx_tw {t : ByteArray} (h : isTx t = true) : Tw t 0 t.size := tw_of t.size 0 (by omega) (Nat.zero_le _) h
end Go.Proofs.YtmkkckhfdafjnaaGreatDoor
/- Layer 17: small plain facts (as in layer 4). -/
namespace Go.Proofs.YtmkkckhfdafjnaaGreatDoor
open Go.RowKit
theorem byt_end {s : ByteArray} {i : Nat} (h : s.size ≤ i) : byt s i = 0 := by unfold byt; rw [dif_neg (by omega)]
end Go.Proofs.YtmkkckhfdafjnaaGreatDoor
/- Layer 2: a number's digits tell it (as in whole's Plain3). -/
namespace Go.Proofs.YtmkkckhfdafjnaaGreatDoor.Nm
open Go.RowKit Go.Lib
end Go.Proofs.YtmkkckhfdafjnaaGreatDoor.Nm
/- Layer 2: what is read is written as the same digits, but -0 (as in whole's Plain3). -/
namespace Go.Proofs.YtmkkckhfdafjnaaGreatDoor.Nm
open Go.RowKit Go.Lib
end Go.Proofs.YtmkkckhfdafjnaaGreatDoor.Nm
/- Layer 4: what is read of a text are texts (plain). -/
namespace Go.Proofs.YtmkkckhfdafjnaaGreatDoor
open Go.RowKit
/-- Bytes of code points. -/
def PtL (l : List Int) : Prop := ∃ ps : List Int, (∀ p ∈ ps, isPt p = true) ∧ l = ps.flatMap enc
theorem PtL.nil : PtL [] := ⟨[], by simp, rfl⟩
theorem PtL.one {p : Int} (h : isPt p = true) : PtL (enc p) := ⟨[p], by simpa using h, by simp⟩
theorem PtL.low {b : Int} (h0 : 0 ≤ b) (h : b < 128) : PtL [b] := by
  rw [← enc_low b h]
  exact PtL.one (by unfold isPt; simp; omega)
theorem PtL.range {l : List Int} (h : PtL l) : ∀ y ∈ l, 0 ≤ y ∧ y < 256 := by
  obtain ⟨ps, h1, rfl⟩ := h
  intro y hy
  obtain ⟨p, hp, hy⟩ := List.mem_flatMap.1 hy
  have hr := isPt_range (h1 p hp)
  exact enc_range hr.1 hr.2 y hy
theorem at_getD {s : ByteArray} : ∀ {L : List Int} {i : Nat}, AtL s i L → ∀ k, k < L.length → byt s (i + k) = L.getD k 0
  | [], _, _, k, hk => by simp at hk
  | c :: r, i, h, k, hk => by
    cases k with
    | zero => exact h.2.1
    | succ k =>
      have := at_getD h.2.2 k (by simpa using hk)
      rw [show i + (k + 1) = i + 1 + k by omega]
      exact this
theorem tw_encs {s : ByteArray} : ∀ (ps : List Int) (i : Nat), (∀ p ∈ ps, isPt p = true) → AtL s i (ps.flatMap enc) → Tw s i (i + (ps.flatMap enc).length)
  | [], i, _, _ => .nil _
  | p :: r, i, hp, h => by
    have e : (p :: r).flatMap enc = enc p ++ r.flatMap enc := rfl
    rw [e, at_app] at h
    rw [e, List.length_append, ← Nat.add_assoc]
    have hl := at_le h.1
    obtain ⟨d1, d2, d3⟩ := dec_enc (hp p (by simp)) hl (at_getD h.1)
    have h1 := enc_len p
    refine .step (by omega) d1 ?_
    rw [d3]
    exact tw_encs r _ (fun q hq => hp q (by simp [hq])) h.2
theorem PtL.tx {l : List Int} (h : PtL l) : isTx (mkB l) = true := by
  have hb : bI (mkB l) = l := bI_mk h.range
  obtain ⟨ps, h1, rfl⟩ := h
  have ha := at_all (mkB (ps.flatMap enc))
  rw [hb] at ha
  have hw := tw_encs ps 0 h1 ha
  rw [Nat.zero_add, ← mkB_size] at hw
  exact Tw.tx hw rfl _ (by omega)
theorem Tw.le {s : ByteArray} {a b : Nat} (h : Tw s a b) : a ≤ b := by
  induction h with
  | nil => exact Nat.le_refl _
  | step h1 h2 _ ih => exact Nat.le_trans (Nat.le_add_right _ _) ih
/-- From a place to another one no byte but ASCII's. -/
structure Asc (s : ByteArray) (i j : Nat) : Prop where
  le : i ≤ j
  lt : ∀ k, i ≤ k → k < j → byt s k < 128
theorem Asc.refl (s : ByteArray) (i : Nat) : Asc s i i := ⟨Nat.le_refl _, fun k h1 h2 => by omega⟩
theorem Asc.trans {s : ByteArray} {i j k : Nat} (h : Asc s i j) (g : Asc s j k) : Asc s i k := ⟨Nat.le_trans h.le g.le, fun x h1 h2 => by
  by_cases e : x < j
  · exact h.lt x h1 e
  · exact g.lt x (by omega) h2⟩
theorem Asc.one {s : ByteArray} {i : Nat} (h : byt s i < 128) : Asc s i (i + 1) := ⟨by omega, fun k h1 h2 => by
  obtain rfl : k = i := by omega
  exact h⟩
end Go.Proofs.YtmkkckhfdafjnaaGreatDoor
/- Layer 17, Lex: what a text's tokens are (plain). -/
namespace Go.Proofs.YtmkkckhfdafjnaaGreatDoor
open Go.RowKit
def ltI (b : Int) : Bool := decide (b = 95) || (decide (97 ≤ b) && decide (b ≤ 122)) || (decide (65 ≤ b) && decide (b ≤ 90))
def wcI (b : Int) : Bool := ltI b || isDg b
def wdF (s : ByteArray) : Nat → Nat → Nat
  | 0, j => j
  | f + 1, j => if wcI (byt s j) then wdF s f (j + 1) else j
/-- Behind letters and digits. -/
def wd (s : ByteArray) (j : Nat) : Nat := wdF s (s.size - j) j
theorem wd_step {s : ByteArray} {j : Nat} (h : wcI (byt s j) = true) : wd s j = wd s (j + 1) := by
  have hj : j < s.size := byt_in (by intro e; rw [e] at h; exact absurd h (by decide))
  unfold wd
  rw [show s.size - j = (s.size - (j + 1)) + 1 by omega]
  show (if wcI (byt s j) then wdF s (s.size - (j + 1)) (j + 1) else j) = _
  rw [if_pos h]
theorem wd_stop {s : ByteArray} {j : Nat} (h : wcI (byt s j) = false) : wd s j = j := by
  unfold wd
  cases s.size - j with
  | zero => rfl
  | succ f => show (if wcI (byt s j) then wdF s f (j + 1) else j) = j; rw [h]; rfl
def quF (s : ByteArray) : Nat → Nat → Option Nat
  | 0, _ => none
  | f + 1, j => if s.size ≤ j then none else if byt s j = 34 then some (j + 1) else if byt s j = 92 ∧ 32 ≤ byt s (j + 1) then quF s f (j + 2) else if byt s j = 92 ∨ (byt s j < 32 ∧ byt s j ≠ 9) then none else quF s f (j + 1)
/-- Behind the quoted text that begins there. -/
def quM (s : ByteArray) (a : Nat) : Option Nat := quF s (s.size - a) (a + 1)
def tabL : List Int → List Int
  | [] => []
  | c :: r => if c = 9 then 92 :: 116 :: tabL r else c :: tabL r
/-- A text with \t for each tab. -/
def tabT (t : ByteArray) : ByteArray := mkB (tabL (bI t))
/-- What a reader tells: nothing of its kind begins there; what may not be; a token, and the place behind it. -/
inductive Rq where
  | no : Rq
  | bad : Rq
  | ok (t : TkR) (n : Nat) : Rq
def namR (s : ByteArray) (a : Nat) : Rq := if ltI (byt s a) then .ok ⟨1, s.extract a (wd s (a + 1)), a⟩ (wd s (a + 1)) else .no
def intR (s : ByteArray) (a : Nat) : Rq :=
  if byt s a = 45 ∨ isDg (byt s a) = true then
    (if byt s (dg s (a + 1)) = 46 ∨ ltI (byt s (dg s (a + 1))) = true ∨ intB (s.extract a (dg s (a + 1))) = false then .bad else .ok ⟨2, s.extract a (dg s (a + 1)), a⟩ (dg s (a + 1)))
  else .no
/-- What a quoted text's bytes end in. -/
def txt2 (s : ByteArray) (a n : Nat) (Z : Rs (List CR)) : Rq := match Z with
  | .bad _ => .bad
  | .ok M => if (gl M 0).tx = ⟨#[]⟩ ∧ byt s n = 34 then .bad else .ok ⟨3, (gl M 0).tx, a⟩ n
def txt1 (s : ByteArray) (a : Nat) (o : Option Nat) : Rq := match o with
  | none => .bad
  | some n => txt2 s a n (readM (tabT (s.extract a n)))
def txtR (s : ByteArray) (a : Nat) : Rq := if byt s a = 34 then txt1 s a (quM s a) else .no
def mrkR (s : ByteArray) (a : Nat) : Rq :=
  if byt s a = 46 ∧ byt s (a + 1) = 46 ∧ byt s (a + 2) = 46 then .ok ⟨4, ⟨#[46, 46, 46]⟩, a⟩ (a + 3)
  else if pmB (s.extract a (a + 1)) = true then .ok ⟨4, s.extract a (a + 1), a⟩ (a + 1) else .no
def Rq.tok (x : Rq) (y : Option (TkR × Nat)) : Option (TkR × Nat) := match x with
  | .ok t n => some (t, n)
  | .bad => none
  | .no => y
/-- The token that begins at a place. -/
def tokM (s : ByteArray) (a : Nat) : Option (TkR × Nat) := (namR s a).tok ((intR s a).tok ((txtR s a).tok ((mrkR s a).tok none)))
def bkF (s : ByteArray) : Nat → Nat → Bool → Nat × Bool
  | 0, j, _ => (j, false)
  | f + 1, j, ins =>
    if s.size ≤ j then (j, false)
    else if byt s j = 10 ∨ byt s j = 13 then bkF s f (j + 1) false
    else if ins = true ∧ byt s j < 32 ∧ byt s j ≠ 9 then (j, true)
    else if ins = true ∨ byt s j = 32 ∨ byt s j = 9 ∨ byt s j = 44 then bkF s f (j + 1) ins
    else if byt s j = 35 then bkF s f (j + 1) true
    else if byt s j = 239 ∧ byt s (j + 1) = 187 ∧ byt s (j + 2) = 191 then bkF s f (j + 3) ins
    else (j, false)
/-- Behind all that counts for nothing; or where there is what may not be. -/
def bk (s : ByteArray) (j : Nat) : Nat × Bool := bkF s (s.size - j + 1) j false
inductive LxR where
  | ok (l : List TkR) : LxR
  | bad (at' : Nat) (e : Int) : LxR
def lexK (j : Nat) (x : Option (TkR × Nat)) (k : TkR → Nat → LxR) : LxR := match x with
  | none => .bad j 170
  | some y => k y.1 y.2
def lexF (s : ByteArray) : Nat → Nat → List TkR → LxR
  | 0, i, l => if (bk s i).2 = true then .bad (bk s i).1 170 else if (bk s i).1 = s.size then .ok (l ++ [⟨0, ⟨#[]⟩, (bk s i).1⟩]) else .bad (bk s i).1 171
  | n + 1, i, l => if (bk s i).2 = true then .bad (bk s i).1 170 else if (bk s i).1 = s.size then .ok (l ++ [⟨0, ⟨#[]⟩, (bk s i).1⟩]) else
    lexK (bk s i).1 (tokM s (bk s i).1) (fun t k => lexF s n k (l ++ [t]))
/-- A text's tokens, or the place where none stands. -/
def lexM (s : ByteArray) : LxR := if ckE s ≠ 0 then .bad 0 (ckE s) else lexF s 1024 0 []
/-- What a reader's call ends in. -/
def RdQ (a : Nat) (w : World) (x : Rq) (e : Ending) (w' : World) : Prop := Below w.heap.size w w' ∧ match x with
  | .no => ∃ (t : TkR) (n : Int), e = .returned (.tuple #[.agg #[.int .u8 t.k, .string t.s, .int .i64 t.a], .int .i64 n, .bool false])
  | .bad => ∃ t : TkR, e = .returned (.tuple #[.agg #[.int .u8 t.k, .string t.s, .int .i64 t.a], .int .i64 a, .bool true])
  | .ok t n => e = .returned (.tuple #[.agg #[.int .u8 t.k, .string t.s, .int .i64 t.a], .int .i64 n, .bool true])
theorem results_ctt {fn : Func} {p u v : Tmp} {ty : TypeId} (h : fn.results = #[.cell p ty, .tmp u, .tmp v]) (tmps : Array Value) (P : Program) (w : World) :
    (results fn tmps).run P w =
      ((asAddr (tmps.getD p undef)).run P w).andThen fun a w₁ => ((loadVar ty a).run P w₁).andThen fun x w₂ => .ok (.tuple #[x, tmps.getD u undef, tmps.getD v undef]) w₂ := by
  simp only [results, h]
  simp [Sem.run_bind, Result.andThen]
theorem load_tok {w : World} {N : Nat} {a c : Int} {b : ByteArray} (c0 : w.cell? ⟨N, 0, none⟩ = some (.int .u8 a)) (c1 : w.cell? ⟨N, 1, none⟩ = some (.string b)) (c2 : w.cell? ⟨N, 2, none⟩ = some (.int .i64 c)) : (loadVar 59 ⟨N, 0, none⟩).run Tryz.prog w = .ok (.agg #[.int .u8 a, .string b, .int .i64 c]) w := by
  simp [loadVar, go_sem, c0, c1, c2]
theorem ret_rd {fn : Func} (hr : fn.results = #[.cell 6 59, .tmp 7, .tmp 8]) {Q : Ending → World → Prop} {tmps : Array Value} {w : World} {N : Nat} {a c n : Int} {b : ByteArray} {g : Bool} (h6 : tmps.getD 6 undef = .pointer (some ⟨N, 0, none⟩)) (h7 : tmps.getD 7 undef = .int .i64 n) (h8 : tmps.getD 8 undef = .bool g) (c0 : w.cell? ⟨N, 0, none⟩ = some (.int .u8 a)) (c1 : w.cell? ⟨N, 1, none⟩ = some (.string b)) (c2 : w.cell? ⟨N, 2, none⟩ = some (.int .i64 c))
    (hQ : Q (.returned (.tuple #[.agg #[.int .u8 a, .string b, .int .i64 c], .int .i64 n, .bool g])) w) : bodyPost Tryz.prog fn Q .ret ⟨tmps, []⟩ w := by
  refine bodyPost_ret (v := .tuple #[.agg #[.int .u8 a, .string b, .int .i64 c], .int .i64 n, .bool g]) ?_ rfl hQ
  rw [results_ctt (p := 6) (u := 7) (v := 8) (ty := 59) hr, h6, h7, h8]
  simp [asAddr, Result.andThen, load_tok c0 c1 c2]
theorem all_eq (p : UInt8 → Bool) (q : Int → Bool) (h : (List.range 256).all (fun n => p (UInt8.ofNat n) == q (n : Nat)) = true) (x : UInt8) : p x = q (x.toNat : Nat) := by
  have hx := UInt8.toNat_lt x
  have k := List.all_eq_true.1 h x.toNat (List.mem_range.2 (by omega))
  have e : UInt8.ofNat x.toNat = x := by simp
  rw [e] at k
  exact eq_of_beq k
theorem ltI_eq (x : UInt8) : letB x = ltI (x.toNat : Nat) := all_eq (fun c => letB c) (fun b => ltI b) (by decide +kernel) x
theorem dgI_eq (x : UInt8) : dgB x = isDg (x.toNat : Nat) := all_eq (fun c => dgB c) (fun b => isDg b) (by decide +kernel) x
theorem isl_any (b : Int) (w : World) (h0 : 0 ≤ b) (h1 : b < 256) : Calls Tryz.prog 68 #[.int .u8 b] w fun e w' => e = .returned (.bool (ltI b)) ∧ w' = w := by
  have h := isletter_any (UInt8.ofNat b.toNat) w
  have e : (((UInt8.ofNat b.toNat).toNat : Nat) : Int) = b := by simp; omega
  rw [ltI_eq, e] at h
  exact h
theorem isd_any (b : Int) (w : World) (h0 : 0 ≤ b) (h1 : b < 256) : Calls Tryz.prog 69 #[.int .u8 b] w fun e w' => e = .returned (.bool (isDg b)) ∧ w' = w := by
  have h := isdigit_any (UInt8.ofNat b.toNat) w
  have e : (((UInt8.ofNat b.toNat).toNat : Nat) : Int) = b := by simp; omega
  rw [dgI_eq, e] at h
  exact h
end Go.Proofs.YtmkkckhfdafjnaaGreatDoor
/- Layer 17, Lex: names. -/
namespace Go.Proofs.YtmkkckhfdafjnaaGreatDoor
open Go.RowKit Go.Maps
/-- How far a name has been gone through. -/
def NmP (s : ByteArray) (a j : Nat) : Prop := j = a ∨ (a < j ∧ ltI (byt s a) = true ∧ wd s (a + 1) = wd s j)
theorem NmP.step {s : ByteArray} {a j : Nat} (h : NmP s a j) (k : (j = a ∧ ltI (byt s j) = true) ∨ wcI (byt s j) = true ∧ a < j) : NmP s a (j + 1) := by
  rcases h with rfl | ⟨h1, h2, h3⟩
  · rcases k with ⟨_, k⟩ | ⟨_, k⟩
    · exact .inr ⟨by omega, k, rfl⟩
    · omega
  · rcases k with ⟨k, _⟩ | ⟨k, _⟩
    · omega
    · exact .inr ⟨by omega, h2, by rw [h3, wd_step k]⟩
theorem NmP.fin {s : ByteArray} {a j : Nat} (h : NmP s a j) (k : a < j) (hw : wcI (byt s j) = false) : namR s a = .ok ⟨1, s.extract a j, a⟩ j := by
  rcases h with rfl | ⟨_, h2, h3⟩
  · omega
  · unfold namR
    rw [if_pos h2, h3, wd_stop hw]
/-- A reader's end, where its result has been laid last. -/
theorem rd_end {fn : Func} (hr : fn.results = #[.cell 6 59, .tmp 7, .tmp 8]) {Q : Ending → World → Prop} {tmps : Array Value} {w : World} {o1 : Obj} {a c n : Int} {b : ByteArray} {g : Bool} (h6 : tmps.getD 6 undef = .pointer (some ⟨w.heap.size + 1, 0, none⟩)) (h7 : tmps.getD 7 undef = .int .i64 n) (h8 : tmps.getD 8 undef = .bool g)
    (hQ : Q (.returned (.tuple #[.agg #[.int .u8 a, .string b, .int .i64 c], .int .i64 n, .bool g])) ((w.alloc o1).alloc (.cells #[.int .u8 a, .string b, .int .i64 c] 59))) : bodyPost Tryz.prog fn Q .ret ⟨tmps, []⟩ ((w.alloc o1).alloc (.cells #[.int .u8 a, .string b, .int .i64 c] 59)) := by
  have hg : ((w.alloc o1).alloc (.cells #[.int .u8 a, .string b, .int .i64 c] 59)).heap[w.heap.size + 1]? = some (.cells #[.int .u8 a, .string b, .int .i64 c] 59) := by
    have e := heap_alloc_new (w.alloc o1) (.cells #[.int .u8 a, .string b, .int .i64 c] 59)
    simpa using e
  refine ret_rd hr h6 h7 h8 ?_ ?_ ?_ hQ <;> (unfold World.cell?; dsimp only; rw [hg]; rfl)
set_option maxRecDepth 20000 in
set_option maxHeartbeats 2000000 in
theorem names_any (s : ByteArray) (a : Nat) (w : World) (ha : a < s.size) (hs : s.size ≤ 1000000) : Calls Tryz.prog 144 #[.agg #[], .string s, .int .i64 a] w (RdQ a w (namR s a)) := by
  obtain ⟨X, hX⟩ : ∃ X, X = namR s a := ⟨_, rfl⟩
  rw [← hX]
  have HX := Lib.hid hX
  have HB : Hid (∀ o1 o2, Below w.heap.size w ((w.alloc o1).alloc o2)) := Lib.hid (fun o1 o2 => ((Below.refl _ _).alloc (Nat.le_refl _) _).alloc (by simp) _)
  have hsi : (s.size : Int) ≤ 1000000 := by omega
  have ha0 : (0 : Int) ≤ a := by omega
  clear hX
  go_enter Tryz.func144, Tryz.ntmps144
  go_wp2_with fail
  go_loopg [9] (s.size + 1) (fun f v9 wr => ∃ j : Nat, s.size + 1 - j ≤ f ∧ a ≤ j ∧ j ≤ s.size ∧ v9 = .int .i64 j ∧ Hid (NmP s a j) ∧ Hid (wr = (w.alloc (.cells #[] 135)).alloc (.cells #[.int .u8 0, .string ⟨#[]⟩, .int .i64 0] 59)))
  case atStart => exact ⟨a, by omega, Nat.le_refl _, by omega, rfl, Lib.hid (.inl rfl), Lib.hid rfl⟩
  case round =>
    obtain ⟨j, hf, haj, hj, rfl, HP, HW⟩ := hrel
    obtain rfl := HW.out
    have hj0 : (0 : Int) ≤ j := by omega
    by_cases hlt : j < s.size
    · have hji : (j : Int) < s.size := by omega
      have hbe : (s[j].toNat : Int) = byt s j := byt_eq s j hlt
      have hx := UInt8.toNat_lt s[j]
      have HL := Lib.hid (fun W => isl_any (s[j].toNat : Nat) W (by omega) (by omega))
      have HD := Lib.hid (fun W => isd_any (s[j].toNat : Nat) W (by omega) (by omega))
      rw [hbe] at HL HD
      rw [← hbe] at HL HD
      cases hl : ltI (s[j].toNat : Nat) with
      | true =>
        rw [hl] at HL
        rw [hbe] at hl
        have HN : Hid (NmP s a (j + 1)) := Lib.hid (HP.out.step (by
          by_cases e : j = a
          · exact .inl ⟨e, hl⟩
          · exact .inr ⟨by unfold wcI; rw [hl]; rfl, by omega⟩))
        clear hl hbe hx
        go_wp2_with fail
        refine (HL.out _).mono ?_
        rintro e w1 ⟨rfl, hw⟩
        obtain rfl := hw.symm
        go_wp2_with fail
        go_roundg (gk - 1)
        case rel => exact ⟨j + 1, by omega, by omega, by omega, by go_num, HN, Lib.hid rfl⟩
        case measure => omega
      | false =>
        rw [hl] at HL
        rw [hbe] at hl
        by_cases hja : a < j
        · have hjai : (a : Int) < j := by omega
          cases hd : isDg (s[j].toNat : Nat) with
          | true =>
            rw [hd] at HD
            rw [hbe] at hd
            have HN : Hid (NmP s a (j + 1)) := Lib.hid (HP.out.step (.inr ⟨by unfold wcI; rw [hl, hd]; rfl, hja⟩))
            clear hl hd hbe hx
            go_wp2_with fail
            refine (HL.out _).mono ?_
            rintro e w1 ⟨rfl, hw⟩
            obtain rfl := hw.symm
            go_wp2_with fail
            refine (HD.out _).mono ?_
            rintro e w1 ⟨rfl, hw⟩
            obtain rfl := hw.symm
            go_wp2_with fail
            go_roundg (gk - 1)
            case rel => exact ⟨j + 1, by omega, by omega, by omega, by go_num, HN, Lib.hid rfl⟩
            case measure => omega
          | false =>
            rw [hd] at HD
            rw [hbe] at hd
            have HF := Lib.hid (HP.out.fin hja (by unfold wcI; rw [hl, hd]; rfl))
            clear hl hd hbe hx
            go_wp2_with fail
            refine (HL.out _).mono ?_
            rintro e w1 ⟨rfl, hw⟩
            obtain rfl := hw.symm
            go_wp2_with fail
            refine (HD.out _).mono ?_
            rintro e w1 ⟨rfl, hw⟩
            obtain rfl := hw.symm
            go_wp2_with fail
            refine rd_end Tryz.results144 rfl rfl rfl ?_
            refine ⟨HB.out _ _, ?_⟩
            rw [HX.out, HF.out]
        · have hjai : ¬ (a : Int) < j := by omega
          obtain rfl : j = a := by omega
          have HF : Hid (X = .no) := Lib.hid (by rw [HX.out]; unfold namR; rw [hl]; rfl)
          clear hl hbe hx
          go_wp2_with fail
          refine (HL.out _).mono ?_
          rintro e w1 ⟨rfl, hw⟩
          obtain rfl := hw.symm
          go_wp2_with fail
          refine rd_end Tryz.results144 rfl rfl rfl ?_
          refine ⟨HB.out _ _, ?_⟩
          rw [HF.out]
          exact ⟨⟨1, _, _⟩, _, rfl⟩
    · obtain rfl : j = s.size := by omega
      have HF := Lib.hid (HP.out.fin (by omega) (by rw [byt_end (Nat.le_refl _)]; rfl))
      have hjai : (a : Int) < s.size := by omega
      go_wp2_with fail
      refine rd_end Tryz.results144 rfl rfl rfl ?_
      refine ⟨HB.out _ _, ?_⟩
      rw [HX.out, HF.out]
end Go.Proofs.YtmkkckhfdafjnaaGreatDoor
/- Layer 17, Lex: a text with \t for each tab; beginnings of three bytes (plain). -/
namespace Go.Proofs.YtmkkckhfdafjnaaGreatDoor
open Go.RowKit
def tabB : List UInt8 → List UInt8
  | [] => []
  | c :: r => if c = 9 then 92 :: 116 :: tabB r else c :: tabB r
theorem tabB_app (b : List UInt8) : ∀ a : List UInt8, tabB (a ++ b) = tabB a ++ tabB b
  | [] => rfl
  | c :: r => by
    by_cases h : c = 9
    · simp [tabB, h, tabB_app b r]
    · simp [tabB, h, tabB_app b r]
theorem tabB_none : ∀ l : List UInt8, (∀ x ∈ l, x ≠ 9) → tabB l = l
  | [], _ => rfl
  | c :: r, h => by
    unfold tabB
    rw [if_neg (h c (by simp)), tabB_none r (fun x hx => h x (by simp [hx]))]
theorem repK_tab : ∀ (k : Nat) (l : List UInt8), l.count 9 ≤ k → Lib.replaceK [9] [92, 116] k l = tabB l
  | 0, l, h => by
    have h0 : l.count 9 = 0 := by omega
    exact (tabB_none l (fun x hx e => by subst e; exact absurd (List.count_pos_iff.2 hx) (by omega))).symm
  | k + 1, l, h => by
    rcases Lib.index_spec l [9] with ⟨h1, _⟩ | ⟨i, h1, _, _⟩
    · have h0 : l.count 9 = 0 := by rw [← Lib.count_one]; exact Lib.count_miss h1
      rw [tabB_none l (fun x hx e => by subst e; exact absurd (List.count_pos_iff.2 hx) (by omega))]
      unfold Lib.replaceK
      rw [h1]
      rfl
    · rw [Lib.replaceK_hit _ _ _ _ _ h1]
      have h2 := h1
      rw [Lib.index_one] at h2
      obtain ⟨e1, e2⟩ := Lib.indexByte_some h2
      have hc := Lib.count_hit (s := l) (sub := [9]) (by simp) h1
      rw [Lib.count_one, Lib.count_one] at hc
      simp only [List.length_singleton] at hc ⊢
      rw [repK_tab k _ (by omega)]
      have hi : i < l.length := (List.getElem?_eq_some_iff.1 e1).1
      have hl : l = l.take i ++ (9 :: l.drop (i + 1)) := by
        have q := List.drop_eq_getElem_cons hi
        have q2 : l[i] = 9 := by rw [List.getElem?_eq_getElem hi] at e1; exact Option.some.inj e1
        rw [q2] at q
        rw [← q, List.take_append_drop]
      conv => rhs; rw [hl]
      rw [tabB_app, tabB_none (l.take i) (fun x hx e => by
        obtain ⟨j, hj, q⟩ := List.mem_iff_getElem.1 hx
        rw [List.length_take] at hj
        rw [List.getElem_take] at q
        exact e2 j (by omega) (by rw [List.getElem?_eq_getElem (by omega), q, e]))]
      show _ = l.take i ++ tabB (9 :: l.drop (i + 1))
      conv => rhs; unfold tabB
      rw [if_pos rfl]
      simp
theorem tabB_L : ∀ l : List UInt8, (tabB l).map (fun b => ((b.toNat : Nat) : Int)) = tabL (l.map fun b => ((b.toNat : Nat) : Int))
  | [] => rfl
  | c :: r => by
    unfold tabB
    rw [List.map_cons, tabL]
    by_cases h : c = 9
    · subst h
      rw [if_pos rfl, if_pos (by rfl), ← tabB_L r]
      rfl
    · rw [if_neg h, if_neg (fun e => h (by
        have : c.toNat = 9 := by omega
        exact UInt8.toNat_inj.1 this)), ← tabB_L r]
      rfl
theorem rep_tab (s : ByteArray) : (⟨(Lib.replaceAll s.data.toList [9] [92, 116]).toArray⟩ : ByteArray) = tabT s := by
  have e : Lib.replaceAll s.data.toList [9] [92, 116] = tabB s.data.toList := by
    unfold Lib.replaceAll Lib.replace
    rw [if_neg (by decide)]
    have hn : Lib.replaceNum s.data.toList [9] (-1) = Lib.count s.data.toList [9] := by unfold Lib.replaceNum; rw [if_pos (.inl (by decide))]
    rw [hn]
    exact repK_tab _ _ (by rw [Lib.count_one]; exact Nat.le_refl _)
  rw [e]
  unfold tabT
  have hb : bI s = s.data.toList.map fun b => ((b.toNat : Nat) : Int) := rfl
  rw [hb, ← tabB_L, mkB, List.map_map]
  congr 2
  conv => lhs; rw [← List.map_id (tabB s.data.toList)]
  apply List.map_congr_left
  intro x _
  simp
theorem tail_at (s : ByteArray) (a : Nat) : (s.extract a s.size).data.toList = s.data.toList.drop a := by
  simp [ByteArray.data_extract]
  apply List.take_of_length_le
  rw [List.length_drop, Array.length_toList]
  exact Nat.le_refl _
theorem drop_at (s : ByteArray) (a : Nat) (h : a < s.size) : s.data.toList.drop a = s[a] :: s.data.toList.drop (a + 1) := by
  have hl : a < s.data.toList.length := by simpa using h
  rw [List.drop_eq_getElem_cons hl]
  rfl
theorem pre3 (s : ByteArray) (a : Nat) (x y z : UInt8) (h0 : x ≠ 0 ∧ y ≠ 0 ∧ z ≠ 0) : Lib.hasPrefix (s.extract a s.size).data.toList [x, y, z] = decide (byt s a = x.toNat ∧ byt s (a + 1) = y.toNat ∧ byt s (a + 2) = z.toNat) := by
  have key : ∀ (i : Nat) (c : UInt8) (p : List UInt8), c ≠ 0 → (c :: p).isPrefixOf (s.data.toList.drop i) = (decide (byt s i = c.toNat) && p.isPrefixOf (s.data.toList.drop (i + 1))) := by
    intro i c p hc
    by_cases h : i < s.size
    · rw [drop_at s i h, List.isPrefixOf]
      have hb := byt_eq s i h
      have e : (c == s[i]) = decide (byt s i = c.toNat) := by
        rw [← hb, Bool.eq_iff_iff, beq_iff_eq, decide_eq_true_eq]
        constructor
        · intro e; rw [e]
        · intro e; exact (UInt8.toNat_inj.1 (by omega)).symm
      rw [e]
    · have hd : s.data.toList.drop i = [] := List.drop_eq_nil_of_le (by simpa using (by omega : s.size ≤ i))
      have hb : byt s i = 0 := by unfold byt; rw [dif_neg h]
      rw [hd, hb]
      have : ¬ ((0 : Int) = (c.toNat : Nat)) := fun e => hc (by
        have h2 : c.toNat = 0 := by omega
        exact UInt8.toNat_inj.1 (by rw [h2]; rfl))
      rw [decide_eq_false this]
      rfl
  unfold Lib.hasPrefix
  rw [tail_at, key a x _ h0.1, key (a + 1) y _ h0.2.1, key (a + 1 + 1) z _ h0.2.2]
  rw [Bool.eq_iff_iff]
  simp
end Go.Proofs.YtmkkckhfdafjnaaGreatDoor
/- Layer 17, Lex: Ints. -/
namespace Go.Proofs.YtmkkckhfdafjnaaGreatDoor
open Go.RowKit Go.Maps
/-- What the lexer's callees do: isInt; json.Read of quoted texts; \t for each tab. -/
structure LxC (w : World) : Prop where
  intc : ∀ W, Below w.heap.size w W → ∀ x : ByteArray, x.size ≤ 1000000 → Calls Tryz.prog 100 #[.string x] W fun e w' => e = .returned (.bool (intB x)) ∧ Below W.heap.size W w'
  rdc : ∀ W, Below w.heap.size w W → ∀ x : ByteArray, byt x 0 = 34 → x.size ≤ 10000000 → Calls Tryz.prog 148 #[.string x] W (RdP W (readM x))
  rpc : ∀ W, Below w.heap.size w W → ∀ x : ByteArray, x.size ≤ 1000000 → Calls Tryz.prog 149 #[.string x, .string ⟨#[9]⟩, .string ⟨#[92, 116]⟩] W fun e w' => e = .returned (.string (tabT x)) ∧ Below W.heap.size W w'
theorem LxC.up {w w' : World} (h : LxC w) (b : Below w.heap.size w w') : LxC w' :=
  ⟨fun W k => h.intc W (b.trans (k.mono b.size)), fun W k => h.rdc W (b.trans (k.mono b.size)), fun W k => h.rpc W (b.trans (k.mono b.size))⟩
theorem ba_cut {s : ByteArray} {a n : Nat} : (s.extract a n).size ≤ s.size := by simp; omega
/-- A reader's token block, behind a callee. -/
theorem tok_kept {w w2 : World} {o1 : Obj} {cs : Array Value} (b : Below ((w.alloc o1).alloc (.cells cs 59)).heap.size ((w.alloc o1).alloc (.cells cs 59)) w2) : w2.heap[w.heap.size + 1]? = some (.cells cs 59) := by
  rw [b.block _ (by simp)]
  have e := heap_alloc_new (w.alloc o1) (.cells cs 59)
  simpa using e
theorem tok_cells {w2 : World} {N : Nat} {x y z : Value} (hg : w2.heap[N]? = some (.cells #[x, y, z] 59)) : w2.cell? ⟨N, 0, none⟩ = some x ∧ w2.cell? ⟨N, 1, none⟩ = some y ∧ w2.cell? ⟨N, 2, none⟩ = some z ∧ ∀ o, w2.frozen? ⟨N, o, none⟩ = false := by
  refine ⟨?_, ?_, ?_, fun o => ?_⟩
  · unfold World.cell?; dsimp only; rw [hg]; rfl
  · unfold World.cell?; dsimp only; rw [hg]; rfl
  · unfold World.cell?; dsimp only; rw [hg]; rfl
  · simp [World.frozen?, hg]
theorem set3_heap {w2 : World} {N : Nat} {x y z p q r : Value} (hg : w2.heap[N]? = some (.cells #[x, y, z] 59)) : (((w2.setCell ⟨N, 0, none⟩ p).setCell ⟨N, 1, none⟩ q).setCell ⟨N, 2, none⟩ r).heap[N]? = some (.cells #[p, q, r] 59) := by
  simp [World.setCell, Array.getElem?_modify, hg]
theorem set3_below {w2 : World} {N B : Nat} {p q r : Value} (h : B ≤ N) : Below B w2 (((w2.setCell ⟨N, 0, none⟩ p).setCell ⟨N, 1, none⟩ q).setCell ⟨N, 2, none⟩ r) :=
  ⟨rfl, rfl, rfl, by simp, fun k hk => by
    rw [Below.heap_setCell _ ⟨N, 2, none⟩ _ k (by dsimp only; omega), Below.heap_setCell _ ⟨N, 1, none⟩ _ k (by dsimp only; omega), Below.heap_setCell _ ⟨N, 0, none⟩ _ k (by dsimp only; omega)]⟩
/-- A reader's end, where its result has been stored. -/
theorem rd_set {fn : Func} (hr : fn.results = #[.cell 6 59, .tmp 7, .tmp 8]) {Q : Ending → World → Prop} {tmps : Array Value} {w2 : World} {N : Nat} {x y z : Value} {a c n : Int} {b : ByteArray} {g : Bool} (hg : w2.heap[N]? = some (.cells #[x, y, z] 59)) (h6 : tmps.getD 6 undef = .pointer (some ⟨N, 0, none⟩)) (h7 : tmps.getD 7 undef = .int .i64 n) (h8 : tmps.getD 8 undef = .bool g)
    (hQ : Q (.returned (.tuple #[.agg #[.int .u8 a, .string b, .int .i64 c], .int .i64 n, .bool g])) (((w2.setCell ⟨N, 0, none⟩ (.int .u8 a)).setCell ⟨N, 1, none⟩ (.string b)).setCell ⟨N, 2, none⟩ (.int .i64 c))) : bodyPost Tryz.prog fn Q .ret ⟨tmps, []⟩ (((w2.setCell ⟨N, 0, none⟩ (.int .u8 a)).setCell ⟨N, 1, none⟩ (.string b)).setCell ⟨N, 2, none⟩ (.int .i64 c)) := by
  obtain ⟨d0, d1, d2, _⟩ := tok_cells (set3_heap (p := .int .u8 a) (q := .string b) (r := .int .i64 c) hg)
  exact ret_rd hr h6 h7 h8 d0 d1 d2 hQ
theorem rd_below {w w2 : World} {o1 o2 : Obj} {p q r : Value} (b : Below ((w.alloc o1).alloc o2).heap.size ((w.alloc o1).alloc o2) w2) : Below w.heap.size w (((w2.setCell ⟨w.heap.size + 1, 0, none⟩ p).setCell ⟨w.heap.size + 1, 1, none⟩ q).setCell ⟨w.heap.size + 1, 2, none⟩ r) :=
  ((((Below.refl _ _).alloc (Nat.le_refl _) _).alloc (by simp) _).trans (b.mono (by simp; omega))).trans (set3_below (by omega))
set_option maxRecDepth 20000 in
set_option maxHeartbeats 4000000 in
theorem ints_any (s : ByteArray) (a : Nat) (w : World) (hc : LxC w) (ha : a < s.size) (hs : s.size ≤ 1000000) : Calls Tryz.prog 145 #[.agg #[], .string s, .int .i64 a] w (RdQ a w (intR s a)) := by
  obtain ⟨X, hX⟩ : ∃ X, X = intR s a := ⟨_, rfl⟩
  rw [← hX]
  have HX := Lib.hid hX
  have HB : Hid (∀ o1 o2, Below w.heap.size w ((w.alloc o1).alloc o2)) := Lib.hid (fun o1 o2 => ((Below.refl _ _).alloc (Nat.le_refl _) _).alloc (by simp) _)
  have HC := Lib.hid hc.intc
  have hsi : (s.size : Int) ≤ 1000000 := by omega
  have ha0 : (0 : Int) ≤ a := by omega
  have hai : (a : Int) < s.size := by omega
  have hbe : (s[a].toNat : Int) = byt s a := byt_eq s a ha
  have hx := UInt8.toNat_lt s[a]
  have HD := Lib.hid (fun W => isd_any (s[a].toNat : Nat) W (by omega) (by omega))
  clear hX hc
  by_cases hst : byt s a = 45 ∨ isDg (byt s a) = true
  · have HQQ : Hid (((s[a].toNat : Int) != 45) = false ∨ (((s[a].toNat : Int) != 45) = true ∧ isDg (s[a].toNat : Nat) = true)) := Lib.hid (by
      rw [hbe]
      by_cases e : byt s a = 45
      · rw [e]; exact .inl rfl
      · exact .inr ⟨by simp [e], hst.elim (fun k => absurd k e) id⟩)
    have HXX : Hid (X = (if byt s (dg s (a + 1)) = 46 ∨ ltI (byt s (dg s (a + 1))) = true ∨ intB (s.extract a (dg s (a + 1))) = false then .bad else .ok ⟨2, s.extract a (dg s (a + 1)), a⟩ (dg s (a + 1)))) := Lib.hid (by rw [HX.out]; unfold intR; rw [if_pos hst])
    have hdge := dg_ge s (a + 1)
    have hdle : dg s (a + 1) ≤ s.size := dg_le (by omega)
    obtain ⟨N, hN⟩ : ∃ N, N = dg s (a + 1) := ⟨_, rfl⟩
    have HN := Lib.hid hN
    rw [← hN] at HXX hdge hdle
    clear hN hst hbe hx HX
    rcases HQQ.out with q1 | ⟨q1, q2⟩
    · go_enter Tryz.func145, Tryz.ntmps145
      go_wp2_with fail
      go_loopg [9] (s.size + 1) (fun f v9 wr => ∃ j : Nat, s.size + 1 - j ≤ f ∧ a < j ∧ j ≤ s.size ∧ v9 = .int .i64 j ∧ Hid (dg s j = N) ∧ Hid (wr = (w.alloc (.cells #[] 136)).alloc (.cells #[.int .u8 0, .string ⟨#[]⟩, .int .i64 0] 59)))
      case atStart => exact ⟨a + 1, by omega, by omega, by omega, by go_num, Lib.hid HN.out.symm, Lib.hid rfl⟩
      case round =>
        obtain ⟨j, hf, haj, hj, rfl, HJ, HW⟩ := hrel
        obtain rfl := HW.out
        have hj0 : (0 : Int) ≤ j := by omega
        have haji : (a : Int) ≤ j := by omega
        have HIN := Lib.hid (HC.out _ (HB.out (.cells #[] 136) (.cells #[.int .u8 0, .string ⟨#[]⟩, .int .i64 0] 59)) (s.extract a N) (Nat.le_trans ba_cut hs))
        by_cases hlt : j < s.size
        · have hji : (j : Int) < s.size := by omega
          have hbj : (s[j].toNat : Int) = byt s j := byt_eq s j hlt
          have hxj := UInt8.toNat_lt s[j]
          have HDJ := Lib.hid (fun W => isd_any (s[j].toNat : Nat) W (by omega) (by omega))
          have HLJ := Lib.hid (fun W => isl_any (s[j].toNat : Nat) W (by omega) (by omega))
          cases hd : isDg (s[j].toNat : Nat) with
          | true =>
            rw [hd] at HDJ
            rw [hbj] at hd
            have HJN : Hid (dg s (j + 1) = N) := Lib.hid (by rw [← HJ.out]; exact (dg_step hd).symm)
            clear hd hbj hxj
            go_wp2_with fail
            refine (HDJ.out _).mono ?_
            rintro e w1 ⟨rfl, hw⟩
            obtain rfl := hw.symm
            go_wp2_with fail
            go_roundg (gk - 1)
            case rel => exact ⟨j + 1, by omega, by omega, by omega, by go_num, HJN, Lib.hid rfl⟩
            case measure => omega
          | false =>
            rw [hd] at HDJ
            rw [hbj] at hd
            obtain rfl : j = N := by rw [← HJ.out]; exact (dg_stop hd).symm
            by_cases h46 : byt s j = 46
            · have q46 : ((s[j].toNat : Int) == 46) = true := by rw [hbj, h46]; rfl
              have HF : Hid (X = .bad) := Lib.hid (by rw [HXX.out, if_pos (.inl h46)])
              clear hd hbj hxj h46
              go_wp2_with fail
              refine (HDJ.out _).mono ?_
              rintro e w1 ⟨rfl, hw⟩
              obtain rfl := hw.symm
              go_wp2_with fail
              (try simp only [Exit.inBlock, Exit.then])
              refine rd_end Tryz.results145 rfl rfl rfl ?_
              refine ⟨HB.out _ _, ?_⟩
              rw [HF.out]
              exact ⟨⟨0, _, 0⟩, rfl⟩
            have q46 : ((s[j].toNat : Int) == 46) = false := by rw [hbj]; exact beq_eq_false_iff_ne.2 h46
            cases hl : ltI (s[j].toNat : Nat) with
            | true =>
              rw [hl] at HLJ
              have HF : Hid (X = .bad) := Lib.hid (by rw [HXX.out, if_pos (.inr (.inl (by rw [← hbj]; exact hl)))])
              clear hd hbj hxj h46 hl
              go_wp2_with fail
              refine (HDJ.out _).mono ?_
              rintro e w1 ⟨rfl, hw⟩
              obtain rfl := hw.symm
              go_wp2_with fail
              refine (HLJ.out _).mono ?_
              rintro e w1 ⟨rfl, hw⟩
              obtain rfl := hw.symm
              go_wp2_with fail
              (try simp only [Exit.inBlock, Exit.then])
              refine rd_end Tryz.results145 rfl rfl rfl ?_
              refine ⟨HB.out _ _, ?_⟩
              rw [HF.out]
              exact ⟨⟨0, _, 0⟩, rfl⟩
            | false =>
              rw [hl] at HLJ
              rw [hbj] at hl
              have HXY : Hid (X = if intB (s.extract a j) = false then .bad else .ok ⟨2, s.extract a j, a⟩ j) := Lib.hid (by
                rw [HXX.out]
                by_cases e : intB (s.extract a j) = false
                · rw [if_pos (.inr (.inr e)), if_pos e]
                · rw [if_neg (by rintro (k | k | k); exact h46 k; rw [hl] at k; cases k; exact e k), if_neg e])
              clear hd hbj hxj h46 hl HXX
              go_wp2_with fail
              refine (HDJ.out _).mono ?_
              rintro e w1 ⟨rfl, hw⟩
              obtain rfl := hw.symm
              go_wp2_with fail
              refine (HLJ.out _).mono ?_
              rintro e w1 ⟨rfl, hw⟩
              obtain rfl := hw.symm
              go_wp2_with fail
              refine HIN.out.mono ?_
              rintro e w2 ⟨rfl, b2⟩
              have hg := tok_kept b2
              obtain ⟨d0, d1, d2, dz⟩ := tok_cells hg
              have dz0 := dz 0
              have dz1 := dz 1
              have dz2 := dz 2
              have HG := Lib.hid (And.intro hg b2)
              clear hg b2 dz
              cases hi : intB (s.extract a j) with
              | true =>
                have HF : Hid (X = .ok ⟨2, s.extract a j, a⟩ j) := Lib.hid (by rw [HXY.out, if_neg (by rw [hi]; decide)])
                go_wp2_with fail
                refine rd_set Tryz.results145 HG.out.1 rfl rfl rfl ?_
                refine ⟨rd_below HG.out.2, ?_⟩
                rw [HF.out]
              | false =>
                have HF : Hid (X = .bad) := Lib.hid (by rw [HXY.out, if_pos hi])
                go_wp2_with fail
                (try simp only [Exit.inBlock, Exit.then])
                refine rd_set Tryz.results145 HG.out.1 rfl rfl rfl ?_
                refine ⟨rd_below HG.out.2, ?_⟩
                rw [HF.out]
                exact ⟨⟨0, _, 0⟩, rfl⟩
        · obtain rfl : j = s.size := by omega
          obtain rfl : s.size = N := by rw [← HJ.out]; exact (dg_stop (by rw [byt_end (Nat.le_refl _)]; rfl)).symm
          have HXY : Hid (X = if intB (s.extract a s.size) = false then .bad else .ok ⟨2, s.extract a s.size, a⟩ s.size) := Lib.hid (by
            rw [HXX.out, byt_end (Nat.le_refl _)]
            by_cases e : intB (s.extract a s.size) = false
            · rw [if_pos (.inr (.inr e)), if_pos e]
            · rw [if_neg (by rintro (k | k | k); cases k; cases k; exact e k), if_neg e])
          clear HXX
          go_wp2_with fail
          refine HIN.out.mono ?_
          rintro e w2 ⟨rfl, b2⟩
          have hg := tok_kept b2
          obtain ⟨d0, d1, d2, dz⟩ := tok_cells hg
          have dz0 := dz 0
          have dz1 := dz 1
          have dz2 := dz 2
          have HG := Lib.hid (And.intro hg b2)
          clear hg b2 dz
          cases hi : intB (s.extract a s.size) with
          | true =>
            have HF : Hid (X = .ok ⟨2, s.extract a s.size, a⟩ s.size) := Lib.hid (by rw [HXY.out, if_neg (by rw [hi]; decide)])
            go_wp2_with fail
            refine rd_set Tryz.results145 HG.out.1 rfl rfl rfl ?_
            refine ⟨rd_below HG.out.2, ?_⟩
            rw [HF.out]
          | false =>
            have HF : Hid (X = .bad) := Lib.hid (by rw [HXY.out, if_pos hi])
            go_wp2_with fail
            (try simp only [Exit.inBlock, Exit.then])
            refine rd_set Tryz.results145 HG.out.1 rfl rfl rfl ?_
            refine ⟨rd_below HG.out.2, ?_⟩
            rw [HF.out]
            exact ⟨⟨0, _, 0⟩, rfl⟩
    · rw [q2] at HD
      go_enter Tryz.func145, Tryz.ntmps145
      go_wp2_with fail
      refine (HD.out _).mono ?_
      rintro e w1 ⟨rfl, hw⟩
      obtain rfl := hw.symm
      go_wp2_with fail
      go_loopg [9] (s.size + 1) (fun f v9 wr => ∃ j : Nat, s.size + 1 - j ≤ f ∧ a < j ∧ j ≤ s.size ∧ v9 = .int .i64 j ∧ Hid (dg s j = N) ∧ Hid (wr = (w.alloc (.cells #[] 136)).alloc (.cells #[.int .u8 0, .string ⟨#[]⟩, .int .i64 0] 59)))
      case atStart => exact ⟨a + 1, by omega, by omega, by omega, by go_num, Lib.hid HN.out.symm, Lib.hid rfl⟩
      case round =>
        obtain ⟨j, hf, haj, hj, rfl, HJ, HW⟩ := hrel
        obtain rfl := HW.out
        have hj0 : (0 : Int) ≤ j := by omega
        have haji : (a : Int) ≤ j := by omega
        have HIN := Lib.hid (HC.out _ (HB.out (.cells #[] 136) (.cells #[.int .u8 0, .string ⟨#[]⟩, .int .i64 0] 59)) (s.extract a N) (Nat.le_trans ba_cut hs))
        by_cases hlt : j < s.size
        · have hji : (j : Int) < s.size := by omega
          have hbj : (s[j].toNat : Int) = byt s j := byt_eq s j hlt
          have hxj := UInt8.toNat_lt s[j]
          have HDJ := Lib.hid (fun W => isd_any (s[j].toNat : Nat) W (by omega) (by omega))
          have HLJ := Lib.hid (fun W => isl_any (s[j].toNat : Nat) W (by omega) (by omega))
          cases hd : isDg (s[j].toNat : Nat) with
          | true =>
            rw [hd] at HDJ
            rw [hbj] at hd
            have HJN : Hid (dg s (j + 1) = N) := Lib.hid (by rw [← HJ.out]; exact (dg_step hd).symm)
            clear hd hbj hxj
            go_wp2_with fail
            refine (HDJ.out _).mono ?_
            rintro e w1 ⟨rfl, hw⟩
            obtain rfl := hw.symm
            go_wp2_with fail
            go_roundg (gk - 1)
            case rel => exact ⟨j + 1, by omega, by omega, by omega, by go_num, HJN, Lib.hid rfl⟩
            case measure => omega
          | false =>
            rw [hd] at HDJ
            rw [hbj] at hd
            obtain rfl : j = N := by rw [← HJ.out]; exact (dg_stop hd).symm
            by_cases h46 : byt s j = 46
            · have q46 : ((s[j].toNat : Int) == 46) = true := by rw [hbj, h46]; rfl
              have HF : Hid (X = .bad) := Lib.hid (by rw [HXX.out, if_pos (.inl h46)])
              clear hd hbj hxj h46
              go_wp2_with fail
              refine (HDJ.out _).mono ?_
              rintro e w1 ⟨rfl, hw⟩
              obtain rfl := hw.symm
              go_wp2_with fail
              (try simp only [Exit.inBlock, Exit.then])
              refine rd_end Tryz.results145 rfl rfl rfl ?_
              refine ⟨HB.out _ _, ?_⟩
              rw [HF.out]
              exact ⟨⟨0, _, 0⟩, rfl⟩
            have q46 : ((s[j].toNat : Int) == 46) = false := by rw [hbj]; exact beq_eq_false_iff_ne.2 h46
            cases hl : ltI (s[j].toNat : Nat) with
            | true =>
              rw [hl] at HLJ
              have HF : Hid (X = .bad) := Lib.hid (by rw [HXX.out, if_pos (.inr (.inl (by rw [← hbj]; exact hl)))])
              clear hd hbj hxj h46 hl
              go_wp2_with fail
              refine (HDJ.out _).mono ?_
              rintro e w1 ⟨rfl, hw⟩
              obtain rfl := hw.symm
              go_wp2_with fail
              refine (HLJ.out _).mono ?_
              rintro e w1 ⟨rfl, hw⟩
              obtain rfl := hw.symm
              go_wp2_with fail
              (try simp only [Exit.inBlock, Exit.then])
              refine rd_end Tryz.results145 rfl rfl rfl ?_
              refine ⟨HB.out _ _, ?_⟩
              rw [HF.out]
              exact ⟨⟨0, _, 0⟩, rfl⟩
            | false =>
              rw [hl] at HLJ
              rw [hbj] at hl
              have HXY : Hid (X = if intB (s.extract a j) = false then .bad else .ok ⟨2, s.extract a j, a⟩ j) := Lib.hid (by
                rw [HXX.out]
                by_cases e : intB (s.extract a j) = false
                · rw [if_pos (.inr (.inr e)), if_pos e]
                · rw [if_neg (by rintro (k | k | k); exact h46 k; rw [hl] at k; cases k; exact e k), if_neg e])
              clear hd hbj hxj h46 hl HXX
              go_wp2_with fail
              refine (HDJ.out _).mono ?_
              rintro e w1 ⟨rfl, hw⟩
              obtain rfl := hw.symm
              go_wp2_with fail
              refine (HLJ.out _).mono ?_
              rintro e w1 ⟨rfl, hw⟩
              obtain rfl := hw.symm
              go_wp2_with fail
              refine HIN.out.mono ?_
              rintro e w2 ⟨rfl, b2⟩
              have hg := tok_kept b2
              obtain ⟨d0, d1, d2, dz⟩ := tok_cells hg
              have dz0 := dz 0
              have dz1 := dz 1
              have dz2 := dz 2
              have HG := Lib.hid (And.intro hg b2)
              clear hg b2 dz
              cases hi : intB (s.extract a j) with
              | true =>
                have HF : Hid (X = .ok ⟨2, s.extract a j, a⟩ j) := Lib.hid (by rw [HXY.out, if_neg (by rw [hi]; decide)])
                go_wp2_with fail
                refine rd_set Tryz.results145 HG.out.1 rfl rfl rfl ?_
                refine ⟨rd_below HG.out.2, ?_⟩
                rw [HF.out]
              | false =>
                have HF : Hid (X = .bad) := Lib.hid (by rw [HXY.out, if_pos hi])
                go_wp2_with fail
                (try simp only [Exit.inBlock, Exit.then])
                refine rd_set Tryz.results145 HG.out.1 rfl rfl rfl ?_
                refine ⟨rd_below HG.out.2, ?_⟩
                rw [HF.out]
                exact ⟨⟨0, _, 0⟩, rfl⟩
        · obtain rfl : j = s.size := by omega
          obtain rfl : s.size = N := by rw [← HJ.out]; exact (dg_stop (by rw [byt_end (Nat.le_refl _)]; rfl)).symm
          have HXY : Hid (X = if intB (s.extract a s.size) = false then .bad else .ok ⟨2, s.extract a s.size, a⟩ s.size) := Lib.hid (by
            rw [HXX.out, byt_end (Nat.le_refl _)]
            by_cases e : intB (s.extract a s.size) = false
            · rw [if_pos (.inr (.inr e)), if_pos e]
            · rw [if_neg (by rintro (k | k | k); cases k; cases k; exact e k), if_neg e])
          clear HXX
          go_wp2_with fail
          refine HIN.out.mono ?_
          rintro e w2 ⟨rfl, b2⟩
          have hg := tok_kept b2
          obtain ⟨d0, d1, d2, dz⟩ := tok_cells hg
          have dz0 := dz 0
          have dz1 := dz 1
          have dz2 := dz 2
          have HG := Lib.hid (And.intro hg b2)
          clear hg b2 dz
          cases hi : intB (s.extract a s.size) with
          | true =>
            have HF : Hid (X = .ok ⟨2, s.extract a s.size, a⟩ s.size) := Lib.hid (by rw [HXY.out, if_neg (by rw [hi]; decide)])
            go_wp2_with fail
            refine rd_set Tryz.results145 HG.out.1 rfl rfl rfl ?_
            refine ⟨rd_below HG.out.2, ?_⟩
            rw [HF.out]
          | false =>
            have HF : Hid (X = .bad) := Lib.hid (by rw [HXY.out, if_pos hi])
            go_wp2_with fail
            (try simp only [Exit.inBlock, Exit.then])
            refine rd_set Tryz.results145 HG.out.1 rfl rfl rfl ?_
            refine ⟨rd_below HG.out.2, ?_⟩
            rw [HF.out]
            exact ⟨⟨0, _, 0⟩, rfl⟩
  · have q1 : ((s[a].toNat : Int) != 45) = true := by rw [hbe]; simp; exact fun e => hst (.inl e)
    have q2 : isDg (s[a].toNat : Nat) = false := by
      rw [hbe]
      cases e : isDg (byt s a) with
      | true => exact absurd (.inr e) hst
      | false => rfl
    rw [q2] at HD
    have HF : Hid (X = .no) := Lib.hid (by rw [HX.out]; unfold intR; rw [if_neg hst])
    clear hst hbe hx
    go_enter Tryz.func145, Tryz.ntmps145
    go_wp2_with fail
    refine (HD.out _).mono ?_
    rintro e w1 ⟨rfl, hw⟩
    obtain rfl := hw.symm
    go_wp2_with fail
    (try simp only [Exit.inBlock, Exit.then])
    refine rd_end Tryz.results145 rfl rfl rfl ?_
    refine ⟨HB.out _ _, ?_⟩
    rw [HF.out]
    exact ⟨⟨0, _, 0⟩, a, rfl⟩
end Go.Proofs.YtmkkckhfdafjnaaGreatDoor
/- Layer 17, Lex: quoted. -/
namespace Go.Proofs.YtmkkckhfdafjnaaGreatDoor
open Go.RowKit Go.Maps
theorem quF_step {s : ByteArray} {f j : Nat} (h : 1 ≤ f) : quF s f j = if s.size ≤ j then none else if byt s j = 34 then some (j + 1) else if byt s j = 92 ∧ 32 ≤ byt s (j + 1) then quF s (f - 1) (j + 2) else if byt s j = 92 ∨ (byt s j < 32 ∧ byt s j ≠ 9) then none else quF s (f - 1) (j + 1) := by
  match f, h with
  | f + 1, _ => rfl
def quV (a : Nat) (x : Option Nat) : Int := match x with
  | none => a
  | some n => n
set_option maxRecDepth 20000 in
set_option maxHeartbeats 2000000 in
theorem quoted_any (s : ByteArray) (a : Nat) (w : World) (ha : a < s.size) (hs : s.size ≤ 1000000) : Calls Tryz.prog 147 #[.string s, .int .i64 a] w fun e w' => e = .returned (.int .i64 (quV a (quM s a))) ∧ w' = w := by
  obtain ⟨X, hX⟩ : ∃ X, X = quM s a := ⟨_, rfl⟩
  rw [← hX]
  have HX : Hid (quF s (s.size - a) (a + 1) = X) := Lib.hid hX.symm
  have hsi : (s.size : Int) ≤ 1000000 := by omega
  have ha0 : (0 : Int) ≤ a := by omega
  have ha1 : (a : Int) < s.size := by omega
  clear hX
  go_enter Tryz.func147, Tryz.ntmps147
  go_wp2_with fail
  go_loopg [5, 6] (s.size - a) (fun f v5 _ wr => ∃ j : Nat, s.size - j + 1 ≤ f ∧ a < j ∧ j ≤ s.size ∧ v5 = .int .i64 j ∧ Hid (quF s f j = X) ∧ Hid (wr = w))
  case atStart => exact ⟨a + 1, by omega, by omega, by omega, by go_num, HX, Lib.hid rfl⟩
  case round =>
    obtain ⟨j, hf, haj, hj, rfl, HQ, HW⟩ := hrel
    obtain rfl := HW.out
    have hj0 : (0 : Int) ≤ j := by omega
    have hst := HQ.out
    rw [quF_step (by omega)] at hst
    by_cases hlt : j < s.size
    · have hji : (j : Int) < s.size := by omega
      have hbe : (s[j].toNat : Int) = byt s j := byt_eq s j hlt
      rw [if_neg (by omega)] at hst
      by_cases h34 : byt s j = 34
      · rw [if_pos h34] at hst
        have HO := Lib.hid hst
        have q1 : ((s[j].toNat : Int) == 34) = true := by rw [hbe, h34]; rfl
        clear hst h34 hbe
        go_wp2_with fail
        go_ret
        rw [← HO.out]
        exact ⟨by unfold quV; rfl, rfl⟩
      rw [if_neg h34] at hst
      have q1 : ((s[j].toNat : Int) == 34) = false := by rw [hbe]; exact beq_eq_false_iff_ne.2 h34
      by_cases h92 : byt s j = 92
      · have q2 : ((s[j].toNat : Int) == 92) = true := by rw [hbe, h92]; rfl
        by_cases hl2 : j + 1 < s.size
        · have hji2 : (j : Int) + 1 < s.size := by omega
          have hbe2 : (s[j + 1].toNat : Int) = byt s (j + 1) := byt_eq s (j + 1) hl2
          by_cases h32 : 32 ≤ byt s (j + 1)
          · rw [if_pos ⟨h92, h32⟩] at hst
            have HO := Lib.hid hst
            have q3 : 32 ≤ (s[j + 1].toNat : Int) := by rw [hbe2]; exact h32
            clear hst h34 hbe hbe2 h92 h32
            go_wp2_with fail
            go_roundg (gk - 1)
            case rel => exact ⟨j + 2, by omega, by omega, by omega, by go_num, HO, Lib.hid rfl⟩
            case measure => omega
          · rw [if_neg (fun e => h32 e.2), if_pos (.inl h92)] at hst
            have HO := Lib.hid hst
            have q3 : ¬ 32 ≤ (s[j + 1].toNat : Int) := by rw [hbe2]; exact h32
            clear hst h34 hbe hbe2 h92 h32
            go_wp2_with fail
            go_ret
            rw [← HO.out]
            exact ⟨rfl, rfl⟩
        · have hji2 : ¬ (j : Int) + 1 < s.size := by omega
          have h0 : byt s (j + 1) = 0 := by unfold byt; rw [dif_neg hl2]
          rw [if_neg (fun e => by omega), if_pos (.inl h92)] at hst
          have HO := Lib.hid hst
          clear hst h34 hbe h92 h0
          go_wp2_with fail
          go_ret
          rw [← HO.out]
          exact ⟨rfl, rfl⟩
      have q2 : ((s[j].toNat : Int) == 92) = false := by rw [hbe]; exact beq_eq_false_iff_ne.2 h92
      rw [if_neg (fun e => h92 e.1)] at hst
      by_cases hc : byt s j < 32
      · have q4 : (s[j].toNat : Int) < 32 := by rw [hbe]; exact hc
        by_cases h9 : byt s j = 9
        · rw [if_neg (by rintro (e | e); exact h92 e; exact e.2 h9)] at hst
          have q5 : ((s[j].toNat : Int) != 9) = false := by rw [hbe, h9]; rfl
          have HO := Lib.hid hst
          clear hst h34 hbe h92 hc h9
          go_wp2_with fail
          go_roundg (gk - 1)
          case rel => exact ⟨j + 1, by omega, by omega, by omega, by go_num, HO, Lib.hid rfl⟩
          case measure => omega
        · rw [if_pos (.inr ⟨hc, h9⟩)] at hst
          have q5 : ((s[j].toNat : Int) != 9) = true := by rw [hbe]; simp [h9]
          have HO := Lib.hid hst
          clear hst h34 hbe h92 hc h9
          go_wp2_with fail
          go_ret
          rw [← HO.out]
          exact ⟨rfl, rfl⟩
      · rw [if_neg (by rintro (e | e); exact h92 e; exact hc e.1)] at hst
        have q4 : ¬ (s[j].toNat : Int) < 32 := by rw [hbe]; exact hc
        have HO := Lib.hid hst
        clear hst h34 hbe h92 hc
        go_wp2_with fail
        go_roundg (gk - 1)
        case rel => exact ⟨j + 1, by omega, by omega, by omega, by go_num, HO, Lib.hid rfl⟩
        case measure => omega
    · obtain rfl : j = s.size := by omega
      rw [if_pos (Nat.le_refl _)] at hst
      have HO := Lib.hid hst
      clear hst
      go_wp2_with fail
      go_ret
      rw [← HO.out]
      exact ⟨rfl, rfl⟩
end Go.Proofs.YtmkkckhfdafjnaaGreatDoor
/- Layer 17: no error of json.Read is 0 (as in layer 4). -/
namespace Go.Proofs.YtmkkckhfdafjnaaGreatDoor
open Go.RowKit Go.Maps
/-- No error is 0. -/
def NZ {α : Type} (x : Rs α) : Prop := ∀ e, x = .bad e → e ≠ 0
theorem nz_ok {α : Type} (a : α) : NZ (Rs.ok a) := fun e h => by cases h
theorem nz_bad {α : Type} {e : Int} (h : e ≠ 0) : NZ (Rs.bad e : Rs α) := fun e' h' => by cases h'; exact h
theorem nz_bind {α β : Type} {x : Rs α} {f : α → Rs β} (h : NZ x) (k : ∀ a, NZ (f a)) : NZ (x.bind f) := by
  cases x with
  | ok a => exact k a
  | bad e => exact fun e' h' => by cases h'; exact h e rfl
theorem nz_ite {α : Type} {c : Prop} [Decidable c] {x y : Rs α} (h : NZ x) (k : NZ y) : NZ (if c then x else y) := by
  split
  · exact h
  · exact k
theorem nz_word (s : ByteArray) : ∀ (l : List Int) (i : Nat), NZ (wordM s l i)
  | [], i => nz_ok _
  | c :: l, i => nz_ite (nz_word s l (i + 1)) (nz_bad (by decide))
theorem nz_four (s : ByteArray) : ∀ (k i : Nat) (n : Int), NZ (fourF s k i n)
  | 0, _, _ => nz_ok _
  | k + 1, _, _ => nz_ite (nz_bad (by decide)) (nz_four s k _ _)
theorem nz_point (s : ByteArray) (i : Nat) : NZ (pointM s i) := nz_bind (nz_four s 4 i 0) fun x => nz_ite (nz_bind (nz_word s _ _) fun j => nz_bind (nz_four s 4 j 0) fun y => nz_ite (nz_bad (by decide)) (nz_ok _)) (nz_ite (nz_ok _) (nz_bad (by decide)))
theorem nz_esc (s : ByteArray) (i : Nat) : NZ (escM s i) := by
  unfold escM
  dsimp only
  exact nz_ite (nz_ok _) (nz_ite (nz_ok _) (nz_ite (nz_ok _) (nz_ite (nz_ok _) (nz_ite (nz_ok _) (nz_ite (nz_ok _) (nz_ite (nz_bind (nz_point s _) fun x => nz_ok _) (nz_bad (by decide))))))))
theorem nz_strF (s : ByteArray) : ∀ (f j : Nat) (l : List Int), NZ (strF s f j l)
  | 0, _, _ => nz_bad (by decide)
  | f + 1, j, l => nz_ite (nz_ok _) (nz_ite (nz_bind (nz_esc s _) fun x => nz_strF s f _ _) (nz_ite (nz_bad (by decide)) (nz_strF s f _ _)))
theorem nz_str (s : ByteArray) (i : Nat) : NZ (strM s i) := nz_bind (nz_word s _ _) fun j => nz_strF s _ _ _
theorem nz_num (s : ByteArray) (i : Nat) : NZ (numM s i) := by
  unfold numM intM
  exact nz_bind (nz_ite (nz_ok _) (nz_ite (nz_bad (by decide)) (nz_ok _))) fun b => nz_ite (nz_ok _) (nz_bad (by decide))
theorem nz_lstF {s : ByteArray} {V : Nat → List CR → Rs Out} (hV : ∀ i L, NZ (V i L)) (h : Nat) : ∀ (f i : Nat) (L : List CR), NZ (lstF s V h f i L)
  | 0, _, _ => nz_bad (by decide)
  | f + 1, _, _ => nz_ite (nz_bind (hV _ _) fun x => nz_lstF hV h f _ _) (nz_bind (nz_word s _ _) fun j => nz_ok _)
theorem nz_lst {s : ByteArray} {V : Nat → List CR → Rs Out} (hV : ∀ i L, NZ (V i L)) (h i : Nat) (L : List CR) : NZ (lstM s V h i L) := nz_ite (nz_ok _) (nz_bind (hV _ _) fun x => nz_lstF hV h _ _ _)
theorem nz_mem {s : ByteArray} {V : ByteArray → Nat → List CR → Rs Out} (hV : ∀ nm i L, NZ (V nm i L)) (h i : Nat) (ns : List ByteArray) (L : List CR) : NZ (memM s V h i ns L) := nz_bind (nz_str s i) fun x => nz_ite (nz_bad (by decide)) (nz_ite (nz_bad (by decide)) (nz_bind (nz_word s _ _) fun k => nz_bind (hV _ _ _) fun y => nz_ok _))
theorem nz_objF {s : ByteArray} {V : ByteArray → Nat → List CR → Rs Out} (hV : ∀ nm i L, NZ (V nm i L)) (h : Nat) : ∀ (f i : Nat) (ns : List ByteArray) (L : List CR), NZ (objF s V h f i ns L)
  | 0, _, _, _ => nz_bad (by decide)
  | f + 1, _, _, _ => nz_ite (nz_bind (nz_mem hV h _ _ _) fun x => nz_objF hV h f _ _ _) (nz_bind (nz_word s _ _) fun j => nz_ok _)
theorem nz_obj {s : ByteArray} {V : ByteArray → Nat → List CR → Rs Out} (hV : ∀ nm i L, NZ (V nm i L)) (h i : Nat) (L : List CR) : NZ (objM s V h i L) := nz_ite (nz_ok _) (nz_bind (nz_mem hV h _ _ _) fun x => nz_objF hV h _ _ _ _)
theorem nz_val (s : ByteArray) : ∀ (f : Nat) (nm : ByteArray) (op i : Nat) (L : List CR), NZ (valM s f nm op i L)
  | 0, _, _, _, _ => nz_bad (by decide)
  | f + 1, nm, op, i, L => by
    have ih := nz_val s f
    unfold valM
    exact nz_ite (nz_bad (by decide)) (nz_ite (nz_bad (by decide)) (nz_ite (nz_bad (by decide)) (nz_ite (nz_obj (fun _ _ _ => ih _ _ _ _) _ _ _) (nz_ite (nz_lst (fun _ _ => ih _ _ _ _) _ _ _) (nz_ite (nz_bind (nz_str s i) fun x => nz_ok _) (nz_ite (nz_bind (nz_word s _ _) fun x => nz_ok _) (nz_ite (nz_bind (nz_word s _ _) fun x => nz_ok _) (nz_ite (nz_bind (nz_word s _ _) fun x => nz_ok _) (nz_bind (nz_num s i) fun x => nz_ok _)))))))))
theorem bad_ne {s : ByteArray} {m : Int} (h : readM s = .bad m) : m ≠ 0 := by
  unfold readM at h
  split at h
  · cases h
    assumption
  · exact nz_bind (nz_val s _ _ _ _ _) (fun x => nz_ite (nz_bad (by decide)) (nz_ok _)) m h
end Go.Proofs.YtmkkckhfdafjnaaGreatDoor

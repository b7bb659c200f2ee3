import Derived.Test.YtmkkckhfdafjnaaGreatDoorK8
import Derived.Lib.IndexLaws
import Derived.Below
import Derived.Deep.DeepCutAuto
import Derived.Deep.LoopGhost
import Derived.Laws.AppendOwn
import Derived.Laws.AppendOwnNone
import Derived.Deep.QuietTactic
import Derived.Lib.Join
import Derived.Test.YtmkkckhfdafjnaaGreatDoorK4
import Derived.BigQuiet
import Derived.Deep.RegionWith
import Derived.Lib.AppendStr
import Derived.Lib.ItoaLen
import Derived.Test.YtmkkckhfdafjnaaGreatDoorK7
import Derived.Lib.ItoaMem
/- Layer 17: marks and Ints, by both. -/
namespace Go.Proofs.YtmkkckhfdafjnaaGreatDoor
open Go.RowKit Go.Maps
/-- Is a text a mark? -/
def pmB (s : ByteArray) : Bool := (s.toList == [46, 46, 46]) || (List.range 13).any (fun i => s.toList == ((⟨#[33, 36, 38, 40, 41, 58, 61, 64, 91, 93, 123, 124, 125]⟩ : ByteArray).extract i (i + 1)).toList)
theorem mk_dots {s : ByteArray} (h : s.toList = [46, 46, 46]) : pmB s = true := by unfold pmB; rw [h]; rfl
theorem mk_hit {s : ByteArray} {i : Nat} (hi : i < 13) (h : (s.toList == ((⟨#[33, 36, 38, 40, 41, 58, 61, 64, 91, 93, 123, 124, 125]⟩ : ByteArray).extract i (i + 1)).toList) = true) : pmB s = true := by
  unfold pmB
  rw [List.any_eq_true.2 ⟨i, List.mem_range.2 hi, h⟩, Bool.or_true]
theorem mk_none {s : ByteArray} (h : ∀ j, j < 13 → (s.toList == ((⟨#[33, 36, 38, 40, 41, 58, 61, 64, 91, 93, 123, 124, 125]⟩ : ByteArray).extract j (j + 1)).toList) = false) : pmB s = (s.toList == [46, 46, 46]) := by
  unfold pmB
  rw [List.any_eq_false.2 (fun j hj => by rw [h j (List.mem_range.1 hj)]; simp), Bool.or_false]
theorem cut_list (j : Nat) (hj : j < 13) : ((⟨#[33, 36, 38, 40, 41, 58, 61, 64, 91, 93, 123, 124, 125]⟩ : ByteArray).extract j (j + 1)).toList = [(⟨#[33, 36, 38, 40, 41, 58, 61, 64, 91, 93, 123, 124, 125]⟩ : ByteArray).data.toList.getD j 0] := by
  rw [Lib.toList_data, Lib.extract_data]
  revert hj
  revert j
  decide
theorem mk_long {s : ByteArray} (h1 : s.size ≠ 1) (h3 : ¬ s.toList = [46, 46, 46]) : pmB s = false := by
  rw [mk_none, beq_eq_false_iff_ne]
  · exact h3
  · intro j hj
    rw [cut_list j hj, beq_eq_false_iff_ne]
    intro h
    exact h1 (by rw [Lib.size_eq, ← Lib.toList_data, h]; rfl)
theorem all_bytes (p : UInt8 → Bool) (h : (List.range 256).all (fun n => p (UInt8.ofNat n)) = true) (c : UInt8) : p c = true := by
  have := List.all_eq_true.1 h c.toNat (List.mem_range.2 (UInt8.toNat_lt c))
  simpa using this
theorem mk_one (c : UInt8) : pmB ⟨#[c]⟩ = decide (0 ≤ Lib.indexByte (⟨#[33, 36, 38, 40, 41, 58, 61, 64, 91, 93, 123, 124, 125]⟩ : ByteArray).data.toList c) := by
  have h0 : (⟨#[c]⟩ : ByteArray).toList = [c] := by rw [Lib.toList_data]
  have h1 : (List.range 13).any (fun i => [c] == ((⟨#[33, 36, 38, 40, 41, 58, 61, 64, 91, 93, 123, 124, 125]⟩ : ByteArray).extract i (i + 1)).toList) = (List.range 13).any (fun i => [c] == [(⟨#[33, 36, 38, 40, 41, 58, 61, 64, 91, 93, 123, 124, 125]⟩ : ByteArray).data.toList.getD i 0]) := by
    rw [Bool.eq_iff_iff, List.any_eq_true, List.any_eq_true]
    constructor
    · rintro ⟨i, hi, h⟩; exact ⟨i, hi, by rw [cut_list i (List.mem_range.1 hi)] at h; exact h⟩
    · rintro ⟨i, hi, h⟩; exact ⟨i, hi, by rw [cut_list i (List.mem_range.1 hi)]; exact h⟩
  unfold pmB
  rw [h0, h1]
  have := all_bytes (fun c => (([c] == [46, 46, 46]) || (List.range 13).any (fun i => [c] == [(⟨#[33, 36, 38, 40, 41, 58, 61, 64, 91, 93, 123, 124, 125]⟩ : ByteArray).data.toList.getD i 0])) == decide (0 ≤ Lib.indexByte (⟨#[33, 36, 38, 40, 41, 58, 61, 64, 91, 93, 123, 124, 125]⟩ : ByteArray).data.toList c)) (by decide +kernel) c
  exact beq_iff_eq.1 this
set_option maxRecDepth 20000 in
theorem lmark_any (s : ByteArray) (w : World) : Calls Tryz.prog 101 #[.string s] w fun e w' => e = .returned (.bool (pmB s)) ∧ w' = w := by
  by_cases h3 : s.toList = [46, 46, 46]
  · have HO := Lib.hid (mk_dots h3)
    go_enter Tryz.func101, Tryz.ntmps101
    go_wp2_with fail
    go_ret
    exact ⟨ret_bool HO.out.symm, rfl⟩
  · by_cases hs : s.size = 1
    · have h1 : (s.size : Int) = 1 := by omega
      have HC : Hid (∀ W, Calls Tryz.prog 110 #[.string (⟨#[33, 36, 38, 40, 41, 58, 61, 64, 91, 93, 123, 124, 125]⟩ : ByteArray), .string s] W fun e w' => e = .returned (.bool (pmB s)) ∧ w' = W) := Lib.hid (fun W => by
        obtain ⟨c, hc⟩ : ∃ c : UInt8, s = ⟨#[c]⟩ := by
          rw [Lib.size_eq] at hs
          obtain ⟨x, hx⟩ := List.length_eq_one_iff.1 hs
          exact ⟨x, by apply ByteArray.ext; apply Array.ext'; rw [hx]⟩
        rw [hc, mk_one]
        exact Tryz.strings_Contains_one _ c W)
      clear hs
      go_enter Tryz.func101, Tryz.ntmps101
      go_wp2_with (go_at_call 110; refine (HC.out _).mono ?_; rintro e w' ⟨rfl, rfl⟩)
      go_ret
      exact ⟨ret_bool (by rw [beq_eq_false_iff_ne.2 h3, Bool.false_or]), rfl⟩
    · have h1 : ((s.size : Int) == 1) = false := by rw [beq_eq_false_iff_ne]; omega
      have HO := Lib.hid (mk_long hs h3)
      clear hs
      go_enter Tryz.func101, Tryz.ntmps101
      go_wp2_with fail
      go_ret
      exact ⟨ret_bool ((beq_eq_false_iff_ne.2 h3).trans HO.out.symm), rfl⟩
/-! ### Ints, by the document -/
def dgA (s : ByteArray) : Bool := decide (0 < s.size) && Nm.allD s s.size
theorem int_tails (t : ByteArray) : (dgA t = false ∧ Nm.areD t = false) ∨ (dgA t = true ∧ ∃ h : 0 < t.size, ¬ (t[0].toNat : Int) = 48 ∧ Nm.areD t = true) ∨ (dgA t = true ∧ ∃ h : 0 < t.size, (t[0].toNat : Int) = 48 ∧ (t.size : Int) = 1 ∧ Nm.areD t = true) ∨ (dgA t = true ∧ ∃ h : 0 < t.size, (t[0].toNat : Int) = 48 ∧ ¬ (t.size : Int) = 1 ∧ Nm.areD t = false) := by
  cases hd : dgA t with
  | false =>
    refine .inl ⟨rfl, ?_⟩
    unfold dgA at hd
    unfold Nm.areD
    cases h0 : decide (0 < t.size) with
    | false => rfl
    | true => rw [h0, Bool.true_and] at hd; rw [hd, Bool.and_false]
  | true =>
    have hd' := hd
    simp only [dgA, Bool.and_eq_true, decide_eq_true_eq] at hd'
    have hb := Nm.byt_eq t 0 hd'.1
    by_cases h48 : Nm.byt t 0 = 48
    · by_cases h1 : t.size = 1
      · exact .inr (.inr (.inl ⟨rfl, hd'.1, by rw [hb, h48], by omega, by unfold Nm.areD; simp [h48, h1, ← hd'.2]⟩))
      · exact .inr (.inr (.inr ⟨rfl, hd'.1, by rw [hb, h48], by omega, by unfold Nm.areD; simp [h48, h1]⟩))
    · exact .inr (.inl ⟨rfl, hd'.1, by rw [hb]; exact h48, by unfold Nm.areD; simp [h48, hd'.1, hd'.2]⟩)
end Go.Proofs.YtmkkckhfdafjnaaGreatDoor
/- Layer 17: tokens in memory; whether a token may be, by both. -/
namespace Go.Proofs.YtmkkckhfdafjnaaGreatDoor
open Go.RowKit Go.Maps
structure TkR where
  k : Int
  s : ByteArray
  a : Int
/-- Tokens in memory. -/
def TkV (w : World) (a : Option Addr) (n : Nat) (g : Nat → TkR) : Prop :=
  ∀ i, i < n → ∃ b off, a = some ⟨b, off, none⟩ ∧ b < w.heap.size ∧ w.cell? ⟨b, off + i * 3, none⟩ = some (.int .u8 (g i).k) ∧ w.cell? ⟨b, off + i * 3 + 1, none⟩ = some (.string (g i).s) ∧ w.cell? ⟨b, off + i * 3 + 2, none⟩ = some (.int .i64 (g i).a)
theorem TkV.below {w w' : World} {a : Option Addr} {n : Nat} {g : Nat → TkR} (h : TkV w a n g) (hb : Below w.heap.size w w') : TkV w' a n g := fun i hi => by
  obtain ⟨b, off, e, h0, h1, h2, h3⟩ := h i hi
  have c : ∀ o, w'.cell? ⟨b, o, none⟩ = w.cell? ⟨b, o, none⟩ := fun o => World.cell?_of_block (hb.block b h0)
  exact ⟨b, off, e, Nat.lt_of_lt_of_le h0 hb.size, by rw [c]; exact h1, by rw [c]; exact h2, by rw [c]; exact h3⟩
theorem TkV.at_ {w : World} {b off n : Nat} {g : Nat → TkR} (h : TkV w (some ⟨b, off, none⟩) n g) {i : Nat} (hi : i < n) : b < w.heap.size ∧ w.cell? ⟨b, off + i * 3, none⟩ = some (.int .u8 (g i).k) ∧ w.cell? ⟨b, off + i * 3 + 1, none⟩ = some (.string (g i).s) ∧ w.cell? ⟨b, off + i * 3 + 2, none⟩ = some (.int .i64 (g i).a) := by
  obtain ⟨b', off', e, k⟩ := h i hi
  cases e
  exact k
theorem TkV.addr {w : World} {a : Option Addr} {n : Nat} {g : Nat → TkR} (h : TkV w a n g) (h0 : 0 < n) : ∃ b off, a = some ⟨b, off, none⟩ := by
  obtain ⟨b, off, e, _⟩ := h 0 h0
  exact ⟨b, off, e⟩
/-- May a token be? -/
def okT (x : TkR) : Bool := if x.k = 0 then x.s.toList.isEmpty else if x.k = 1 then nmB x.s else if x.k = 2 then intB x.s else if x.k = 3 then (ckE x.s == 0) else if x.k = 4 then pmB x.s else false
theorem lim_big {w : World} (l : Nm.Lim w) : 1 < w.heap.size := by
  by_cases h : 1 < w.heap.size
  · exact h
  · have h1 := l.1
    have : w.heap[1]? = none := Array.getElem?_eq_none (by omega)
    simp [World.cell?, this] at h1
theorem lim_up {w w' : World} (l : Nm.Lim w) (hb : Below w.heap.size w w') : Nm.Lim w' := ⟨by rw [hb.cell (lim_big l)]; exact l.1, by rw [hb.cell (lim_big l)]; exact l.2⟩
theorem below_box (w : World) (o : Obj) : Below w.heap.size w (w.alloc o) := (Below.refl _ _).alloc (Nat.le_refl _) _
theorem below_boxed {w w' : World} {o : Obj} (h : Below (w.alloc o).heap.size (w.alloc o) w') : Below w.heap.size w w' := (below_box w o).trans (h.mono (below_box w o).size)
theorem ret_intL {k : IntKind} {a b : Int} (h : a = b) : Ending.returned (.int k a) = .returned (.int k b) := by rw [h]
set_option maxRecDepth 20000 in
set_option maxHeartbeats 1000000 in
theorem lcheck_any (x : TkR) (w : World) (l : Nm.Lim w) (hs : x.s.size ≤ 1000000) : Calls Tryz.prog 87 #[.agg #[.int .u8 x.k, .string x.s, .int .i64 x.a]] w fun e w' => e = .returned (.int .i64 (if (okT x) then 0 else 8)) ∧ Below w.heap.size w w' := by
  obtain ⟨k, s, a⟩ := x
  obtain ⟨r, hr⟩ : ∃ r, r = okT ⟨k, s, a⟩ := ⟨_, rfl⟩
  rw [← hr]
  obtain ⟨E, hE⟩ : ∃ E : Int, E = if r then 0 else 8 := ⟨_, rfl⟩
  rw [← hE]
  have HE := Lib.hid hE
  clear hE
  unfold okT at hr
  have HS := Lib.hid hs
  have HL := Lib.hid l
  clear hs l
  dsimp only at hr HS ⊢
  rcases (by omega : k = 0 ∨ k = 1 ∨ k = 2 ∨ k = 3 ∨ k = 4 ∨ (k ≠ 0 ∧ k ≠ 1 ∧ k ≠ 2 ∧ k ≠ 3 ∧ k ≠ 4)) with rfl | rfl | rfl | rfl | rfl | ⟨k0, k1, k2, k3, k4⟩
  · by_cases hz : s.size = 0
    · have hn := empty_lst hz
      have HR : Hid (r = true) := Lib.hid (by rw [hr, if_pos rfl, hn]; rfl)
      clear hr hz
      go_enter Tryz.func87, Tryz.ntmps87
      go_wp2_with fail
      go_ret
      exact ⟨ret_intL (by rw [HE.out, HR.out]; rfl), below_box _ _⟩
    · have hn := full_lst hz
      have HR : Hid (r = false) := Lib.hid (by rw [hr, if_pos rfl, hn])
      clear hr hz
      go_enter Tryz.func87, Tryz.ntmps87
      go_wp2_with fail
      go_ret
      exact ⟨ret_intL (by rw [HE.out, HR.out]; rfl), below_box _ _⟩
  · have hr2 : r = nmB s := by rw [hr, if_neg (by decide), if_pos rfl]
    clear hr
    have HC : Hid (∀ W, Below w.heap.size w W → Calls Tryz.prog 43 #[.string s] W fun e w' => e = .returned (.bool (nmB s)) ∧ Below W.heap.size W w') := Lib.hid (fun W hW => (lname_any s W HS.out).mono (fun e w' h => ⟨h.1, by rw [h.2]; exact Below.refl _ _⟩))
    cases hb : nmB s
    all_goals
      rw [hb] at hr2
      have HR := Lib.hid hr2
      rw [hb] at HC
      clear hr2 hb
      go_enter Tryz.func87, Tryz.ntmps87
      go_wp2_with fail
      refine (HC.out _ (below_box _ _)).mono ?_
      rintro e w1 ⟨rfl, b1⟩
      have B1 := Lib.hid (below_boxed b1)
      clear b1
      go_wp2_with fail
      go_ret
      exact ⟨ret_intL (by rw [HE.out, HR.out]; rfl), B1.out⟩
  · have hr2 : r = intB s := by rw [hr, if_neg (by decide), if_neg (by decide), if_pos rfl]
    clear hr
    have HC : Hid (∀ W, Below w.heap.size w W → Calls Tryz.prog 100 #[.string s] W fun e w' => e = .returned (.bool (intB s)) ∧ Below W.heap.size W w') := Lib.hid (fun W hW => lint_any s W (lim_up HL.out hW) (by have := HS.out; unfold maxLen; omega))
    cases hb : intB s
    all_goals
      rw [hb] at hr2
      have HR := Lib.hid hr2
      rw [hb] at HC
      clear hr2 hb
      go_enter Tryz.func87, Tryz.ntmps87
      go_wp2_with fail
      refine (HC.out _ (below_box _ _)).mono ?_
      rintro e w1 ⟨rfl, b1⟩
      have B1 := Lib.hid (below_boxed b1)
      clear b1
      go_wp2_with fail
      go_ret
      exact ⟨ret_intL (by rw [HE.out, HR.out]; rfl), B1.out⟩
  · have hr2 : r = (ckE s == 0) := by rw [hr, if_neg (by decide), if_neg (by decide), if_neg (by decide), if_pos rfl]
    clear hr
    have HC : Hid (∀ W, Below w.heap.size w W → Calls Tryz.prog 27 #[.string s] W fun e w' => e = .returned (.int .i64 (ckE s)) ∧ Below W.heap.size W w') := Lib.hid (fun W hW => check_any s W (by have := HS.out; unfold maxLen; omega))
    cases hb : (ckE s == 0)
    all_goals
      rw [hb] at hr2
      have HR := Lib.hid hr2
      have hb2 := hb
      clear hr2 hb
      go_enter Tryz.func87, Tryz.ntmps87
      go_wp2_with fail
      refine (HC.out _ (below_box _ _)).mono ?_
      rintro e w1 ⟨rfl, b1⟩
      have B1 := Lib.hid (below_boxed b1)
      clear b1
      go_wp2_with fail
      go_ret
      exact ⟨ret_intL (by rw [HE.out, HR.out]; rfl), B1.out⟩
  · have hr2 : r = pmB s := by rw [hr, if_neg (by decide), if_neg (by decide), if_neg (by decide), if_neg (by decide), if_pos rfl]
    clear hr
    have HC : Hid (∀ W, Below w.heap.size w W → Calls Tryz.prog 101 #[.string s] W fun e w' => e = .returned (.bool (pmB s)) ∧ Below W.heap.size W w') := Lib.hid (fun W hW => (lmark_any s W).mono (fun e w' h => ⟨h.1, by rw [h.2]; exact Below.refl _ _⟩))
    cases hb : pmB s
    all_goals
      rw [hb] at hr2
      have HR := Lib.hid hr2
      rw [hb] at HC
      clear hr2 hb
      go_enter Tryz.func87, Tryz.ntmps87
      go_wp2_with fail
      refine (HC.out _ (below_box _ _)).mono ?_
      rintro e w1 ⟨rfl, b1⟩
      have B1 := Lib.hid (below_boxed b1)
      clear b1
      go_wp2_with fail
      go_ret
      exact ⟨ret_intL (by rw [HE.out, HR.out]; rfl), B1.out⟩
  · have HR : Hid (r = false) := Lib.hid (by rw [hr, if_neg k0, if_neg k1, if_neg k2, if_neg k3, if_neg k4])
    clear hr
    go_enter Tryz.func87, Tryz.ntmps87
    go_wp2_with fail
    go_ret
    exact ⟨ret_intL (by rw [HE.out, HR.out]; rfl), below_box _ _⟩
end Go.Proofs.YtmkkckhfdafjnaaGreatDoor
/- Layer 17: Great, Tell, Joined, Join by the document. -/
namespace Go.Proofs.YtmkkckhfdafjnaaGreatDoor
open Go.RowKit Go.Maps
theorem app_size (a b : ByteArray) : (a ++ b).size = a.size + b.size := ByteArray.size_append
theorem quT_size (s : ByteArray) : (quT s).size ≤ 6 * s.size + 2 := by
  unfold quT
  rw [mkB_size, List.length_append, List.length_singleton]
  have := quL_len s s.size
  omega
def gsum (g : Nat → TkR) : Nat → Nat
  | 0 => 0
  | i + 1 => gsum g i + min (g i).s.size 10000
theorem gsum_mono (g : Nat → TkR) : ∀ {n j : Nat}, j ≤ n → gsum g j ≤ gsum g n := by
  intro n
  induction n with
  | zero => intro j hj; rw [Nat.le_zero.1 hj]; exact Nat.le_refl _
  | succ n ih =>
    intro j hj
    by_cases e : j = n + 1
    · rw [e]; exact Nat.le_refl _
    · have := ih (j := j) (by omega)
      have e2 : gsum g (n + 1) = gsum g n + min (g n).s.size 10000 := rfl
      omega
theorem gsum_le (g : Nat → TkR) : ∀ n, gsum g n ≤ 10000 * n
  | 0 => Nat.le_refl _
  | n + 1 => by have := gsum_le g n; unfold gsum; omega
def SmT (g : Nat → TkR) (n : Nat) : Prop := ∀ i, i < n → (g i).s.size ≤ 3000
theorem gsum_small {g : Nat → TkR} {n : Nat} (h : gsum g n ≤ 3000) : SmT g n := fun i hi => by
  have h1 := gsum_mono g (show i + 1 ≤ n from hi)
  have e2 : gsum g (i + 1) = gsum g i + min (g i).s.size 10000 := rfl
  omega
def GtP (g : Nat → TkR) (n : Nat) (w : World) (r : Ending) (w' : World) : Prop := ∃ x, r = .returned (.bool x) ∧ (x = false → n ≤ 200 ∧ SmT g n) ∧ w' = w
set_option maxRecDepth 20000 in
theorem rgreat_any (a : Option Addr) (n cap : Nat) (g : Nat → TkR) (w : World) (hv : TkV w a n g) (hn : n ≤ maxLen) : Calls Tryz.prog 18 #[.slice a n cap] w (GtP g n w) := by
  unfold maxLen at hn
  have HV := Lib.hid hv
  clear hv
  have hn' : (n : Int) ≤ 9223372036854775807 := by omega
  go_enter Tryz.func18, Tryz.ntmps18
  go_wp2_with fail
  go_loop [3, 4] (fun v3 v4 => ∃ i : Nat, i ≤ n ∧ i ≤ 300 ∧ v4 = .int .i64 i ∧ v3 = .int .i64 (gsum g i)) (fun _ v4 => 300 - (intOf v4).toNat)
  case atStart => exact ⟨0, Nat.zero_le _, Nat.zero_le _, rfl, rfl⟩
  case round =>
    obtain ⟨i, hi, him, rfl, rfl⟩ := hrel
    have hle := gsum_le g i
    by_cases h1 : i < n
    · by_cases h2 : i < 300
      · obtain ⟨b, off, rfl⟩ := HV.out.addr (by omega)
        obtain ⟨_, _, c1, _⟩ := HV.out.at_ h1
        have hg1 : (i : Int) < n := by omega
        have hg0 : (0 : Int) ≤ i := by omega
        have hg2 : (i : Int) < 300 := by omega
        obtain ⟨s, hs⟩ : ∃ s, s = (g i).s := ⟨_, rfl⟩
        have HN : Hid (gsum g (i + 1) = gsum g i + min s.size 10000) := Lib.hid (by rw [hs]; rfl)
        rw [← hs] at c1
        obtain ⟨S, hS⟩ : ∃ S, S = gsum g i := ⟨_, rfl⟩
        rw [← hS] at HN hle ⊢
        clear hs hS
        have hm0 : (0 : Int) ≤ min (s.size : Int) 10000 := by omega
        have hm1 : min (s.size : Int) 10000 ≤ 10000 := by omega
        have hSi : (S : Int) ≤ 3000000 := by omega
        clear hle
        go_wp2_with fail
        go_round
        case rel => exact ⟨i + 1, by omega, by omega, by go_num, by rw [HN.out]; go_num⟩
        case measure => simp [intOf]; omega
      · have hg1 : (i : Int) < n := by omega
        have hg2 : ¬ (i : Int) < 300 := by omega
        have hg3 : (200 : Int) < n := by omega
        go_wp2_with fail
        go_ret
        exact ⟨_, rfl, fun h => by simp at h, rfl⟩
    · obtain rfl : i = n := by omega
      have HN : Hid (gsum g i ≤ 3000 → SmT g i) := Lib.hid gsum_small
      obtain ⟨S, hS⟩ : ∃ S, S = gsum g i := ⟨_, rfl⟩
      rw [← hS] at HN hle ⊢
      clear hS
      have hg1 : ¬ (i : Int) < i := by omega
      by_cases h2 : 200 < i
      · have hg3 : (200 : Int) < i := by omega
        go_wp2_with fail
        go_ret
        exact ⟨_, rfl, fun h => by simp at h, rfl⟩
      · have hg3 : ¬ (200 : Int) < i := by omega
        by_cases h3 : 3000 < S
        · have hg4 : (3000 : Int) < S := by omega
          go_wp2_with fail
          go_ret
          exact ⟨_, rfl, fun h => by simp at h, rfl⟩
        · have hg4 : ¬ (3000 : Int) < S := by omega
          go_wp2_with fail
          go_ret
          exact ⟨_, rfl, fun _ => ⟨by omega, HN.out (by omega)⟩, rfl⟩
/-! ### What a token tells -/
def tellT (x : TkR) : ByteArray := if x.k = 3 then quT x.s else x.s
def jdW (g : Nat → TkR) : Nat → ByteArray
  | 0 => ⟨#[]⟩
  | k + 1 => (if 0 < k ∧ (g k).k ≠ 0 then jdW g k ++ ⟨#[32]⟩ else jdW g k) ++ tellT (g k)
theorem tellT_size (x : TkR) : (tellT x).size ≤ 6 * x.s.size + 2 := by
  unfold tellT
  split
  · exact quT_size _
  · omega
theorem jdW_size {g : Nat → TkR} : ∀ (n : Nat), SmT g n → (jdW g n).size ≤ 18003 * n
  | 0, _ => Nat.zero_le _
  | n + 1, h => by
    have ih := jdW_size (g := g) n (fun i hi => h i (by omega))
    have h1 := tellT_size (g n)
    have h2 := h n (by omega)
    unfold jdW
    rw [app_size]
    have e1 : (if 0 < n ∧ (g n).k ≠ 0 then jdW g n ++ (⟨#[32]⟩ : ByteArray) else jdW g n).size ≤ (jdW g n).size + 1 := by
      split
      · rw [app_size]; exact Nat.le_refl _
      · omega
    omega
end Go.Proofs.YtmkkckhfdafjnaaGreatDoor
/- Layer 17: Join by the document; Same; rows of tokens of one's own. -/
namespace Go.Proofs.YtmkkckhfdafjnaaGreatDoor
open Go.RowKit Go.Maps
/-- May the token at a place be, there? -/
def goodT (g : Nat → TkR) (n i : Nat) : Bool := okT (g i) && (decide ((g i).k ≠ 0) || decide (n ≤ i + 1))
def okAll (g : Nat → TkR) (n : Nat) : Bool := (List.range n).all (goodT g n)
theorem okAll_yes {g : Nat → TkR} {n : Nat} (h : ∀ i, i < n → goodT g n i = true) : okAll g n = true := List.all_eq_true.2 (fun i hi => h i (List.mem_range.1 hi))
theorem okAll_no {g : Nat → TkR} {n i : Nat} (hi : i < n) (h : goodT g n i = false) : okAll g n = false := by
  cases e : okAll g n with
  | false => rfl
  | true => have := List.all_eq_true.1 e i (List.mem_range.2 hi); rw [h] at this; cases this
def jnR (g : Nat → TkR) (n : Nat) : ByteArray := if okAll g n then jdW g n else ⟨#[]⟩
def jnE (g : Nat → TkR) (n : Nat) : Int := if okAll g n then 0 else 8
theorem jn_ret {s s' : ByteArray} {e e' : Int} (h : s = s') (k : e = e') : Ending.returned (.tuple #[.string s, .int .i64 e]) = .returned (.tuple #[.string s', .int .i64 e']) := by rw [h, k]
end Go.Proofs.YtmkkckhfdafjnaaGreatDoor
/- Layer 17: rows of texts, joined by spaces. -/
namespace Go.Proofs.YtmkkckhfdafjnaaGreatDoor
open Go.RowKit
theorem infoS : ∃ i, Tryz.prog.info? 9 = some i ∧ i.zero = some (.string ⟨#[]⟩) ∧ i.size = 1 ∧ i.bytes = 16 := by
  have h := Tryz.typeInfo9 default
  unfold typeInfo at h
  cases hq : Tryz.prog.info? 9 with
  | none => simp [hq] at h
  | some i =>
    simp [hq] at h
    exact ⟨i, rfl, by rw [h]; rfl, by rw [h]; rfl, by rw [h]; rfl⟩
/-- A row of texts of the call's own. -/
def SO (B : Nat) (w : World) (v : Value) (L : List ByteArray) : Prop := w.ownsRow B 9 1 v L.length (L.map Value.string) ∧ B ≤ w.heap.size
theorem SO.nil (w : World) : SO w.heap.size w (.slice none 0 0) [] := ⟨World.ownsRow_nil _ _ _ _, Nat.le_refl _⟩
theorem SO.alloc {B : Nat} {w : World} {v : Value} {L : List ByteArray} (h : SO B w v L) (o : Obj) : SO B (w.alloc o) v L := ⟨h.1.alloc o, by simp; have := h.2; omega⟩
theorem SO.drew {B : Nat} {w : World} {v : Value} {L : List ByteArray} (h : SO B w v L) : SO B w.drew v L := ⟨h.1.drew, h.2⟩
theorem SO.up {B : Nat} {w w' : World} {v : Value} {L : List ByteArray} (h : SO B w v L) (hb : Below w.heap.size w w') : SO B w' v L := ⟨own_below h.1 hb, Nat.le_trans h.2 hb.size⟩
theorem SO.base {B C : Nat} {w : World} {v : Value} {L : List ByteArray} (h : SO B w v L) (hc : C ≤ B) : SO C w v L := by
  refine ⟨⟨h.1.1, ?_⟩, Nat.le_trans hc h.2⟩
  rcases h.1.2 with h1 | ⟨g, cap, cur, e, hg, rest⟩
  · exact .inl h1
  · exact .inr ⟨g, cap, cur, e, Nat.le_trans hc hg, rest⟩
theorem news_str {w : World} {b : Nat} {M : List ByteArray} (hb : w.heap[b]? = some (.cells (M.map Value.string).toArray 9)) : ∀ j u, (M.map Value.string)[j]? = some u → w.cell? ((⟨b, 0, none⟩ : Addr).add j) = some u := fun j u hj => by
  rw [Addr.add_lit]
  simp [World.cell?, hb]
  simpa using hj
theorem so_run {B : Nat} {w : World} {v : Value} {L M : List ByteArray} {b : Nat} (ty : TypeId) (hO : SO B w v L) (hb : w.heap[b]? = some (.cells (M.map Value.string).toArray 9)) (hL : L.length + M.length ≤ 1000000000) :
    ∃ v' w', (Builtin.append_ #[233, 233] ty #[v, .slice (some ⟨b, 0, none⟩) M.length M.length]).run Tryz.prog w = .ok v' w' ∧ SO B w' v' (L ++ M) ∧ w.grownBy w' v.ownBlock := by
  obtain ⟨i, h2, h3, h4, h5⟩ := infoS
  obtain ⟨v', w', hrun, r1, r2, _⟩ := run_append_own (P := Tryz.prog) (w := w) B 233 ty 9 i _ 1 16 Tryz.underlying233 h2 h3 h4 h5 rfl (by decide) v L.length (L.map Value.string) hO.1 ⟨b, 0, none⟩ M.length M.length (M.map Value.string) (by simp) (news_str hb) (by intro u hu; obtain ⟨x, _, rfl⟩ := List.mem_map.1 hu; rfl) (by unfold maxLen; omega) (by omega) hO.2
  refine ⟨v', w', hrun, ⟨?_, Nat.le_trans hO.2 r2.size⟩, r2⟩
  rw [List.length_append, List.map_append]; exact r1
theorem app_str {ops : Array Oper} {rest : List Oper} {o : Oper} {a : Act} {B : Nat} {w : World} {Q : Exit → Act → World → Prop} (hgd : o.guard = none) (s x : Operand)
    (ho : o.op = .call { callee := .builtin .append, args := #[s, x], argTypes := #[233, 233] }) (v : Value) (L M : List ByteArray) (b : Nat) (hs : a.eval s = v) (hx : a.eval x = .slice (some ⟨b, 0, none⟩) M.length M.length) (hO : SO B w v L) (hb : w.heap[b]? = some (.cells (M.map Value.string).toArray 9)) (hL : L.length + M.length ≤ 1000000000)
    (h : ∀ v' w', SO B w' v' (L ++ M) → w.grownBy w' v.ownBlock → wpList Tryz.prog ops Q rest (a.put o.dst v') w') : wpList Tryz.prog ops Q (o :: rest) a w := by
  obtain ⟨v', w', hrun, hB, hg⟩ := so_run o.type hO hb hL
  refine wpList_plain hgd fun K hK => ?_
  unfold Oper.wp
  simp [execOp, ho, resolve, invoke, builtin, hs, hx, hrun, Result.andThen]
  exact hK _ _ (h v' w' hB hg)
theorem step_str {ops : Array Oper} {o : Oper} {a : Act} {B : Nat} {w : World} {K : Act → World → Prop} {Q : Exit → Act → World → Prop} {E : Prop} (hgd : o.guard = none) (s x : Operand)
    (ho : o.op = .call { callee := .builtin .append, args := #[s, x], argTypes := #[233, 233] }) (v : Value) (L M : List ByteArray) (b : Nat) (hs : a.eval s = v) (hx : a.eval x = .slice (some ⟨b, 0, none⟩) M.length M.length) (hO : SO B w v L) (hb : w.heap[b]? = some (.cells (M.map Value.string).toArray 9)) (hL : L.length + M.length ≤ 1000000000)
    (hK : ∀ v' w', SO B w' v' (L ++ M) → w.grownBy w' v.ownBlock → K (a.put o.dst v') w') : if Region.wanted o (yielded ops a.tmps) = true then Oper.wp Tryz.prog o a w K Q else E := by
  have hw : Region.wanted o (yielded ops a.tmps) = true := by simp [Region.wanted, hgd]
  rw [if_pos hw]
  obtain ⟨v', w', hrun, hB, hg⟩ := so_run o.type hO hb hL
  unfold Oper.wp
  simp [execOp, ho, resolve, invoke, builtin, hs, hx, hrun, Result.andThen]
  exact hK v' w' hB hg
/-- What append did left all below the row's base. -/
theorem SO.below {B : Nat} {w w' : World} {v : Value} {L : List ByteArray} (h : SO B w v L) (hg : w.grownBy w' v.ownBlock) : Below B w w' :=
  (Below.refl B w).grown hg h.2 (fun k hk => by
    rcases h.1.2 with ⟨rfl, _⟩ | ⟨g, cap, cur, rfl, hg, _⟩
    · cases hk
    · simp only [Value.ownBlock, Option.some.injEq] at hk
      subst hk; exact hg)
/-- Texts joined by spaces. -/
def jnT (L : List ByteArray) : ByteArray := ⟨(Lib.join (L.map (·.data.toList)) [32]).toArray⟩
theorem jnT_nil : jnT [] = ⟨#[]⟩ := rfl
theorem jnT_one (x : ByteArray) : jnT [x] = x := by
  unfold jnT
  rw [List.map_cons, List.map_nil, Lib.join_one]
theorem jnT_snoc (L : List ByteArray) (x : ByteArray) (h : L ≠ []) : jnT (L ++ [x]) = jnT L ++ ⟨#[32]⟩ ++ x := by
  cases L with
  | nil => exact absurd rfl h
  | cons y r =>
    apply ByteArray.ext
    apply Array.toList_inj.1
    unfold jnT
    rw [List.cons_append, List.map_cons, List.map_append, List.map_cons, List.map_nil, Lib.join_cons, List.map_cons, Lib.join_cons]
    simp [Lib.joinTail]
theorem jnT_cat (L : List ByteArray) (x : ByteArray) : jnT (L ++ [x]) = (if 0 < L.length then jnT L ++ ⟨#[32]⟩ else jnT L) ++ x := by
  by_cases h : L = []
  · subst h
    rw [List.nil_append, jnT_one]
    rw [if_neg (by simp), jnT_nil]
    apply ByteArray.ext
    simp
  · rw [jnT_snoc L x h, if_pos (List.length_pos_iff.2 h)]
end Go.Proofs.YtmkkckhfdafjnaaGreatDoor
/- Layer 17: the program's Join. -/
namespace Go.Proofs.YtmkkckhfdafjnaaGreatDoor
open Go.RowKit Go.Maps
def tlL (g : Nat → TkR) : Nat → List ByteArray
  | 0 => []
  | i + 1 => if (g i).k = 0 then tlL g i else tlL g i ++ [tellT (g i)]
theorem tlL_len (g : Nat → TkR) : ∀ i, (tlL g i).length ≤ i
  | 0 => Nat.le_refl _
  | i + 1 => by
    have := tlL_len g i
    unfold tlL
    split
    · omega
    · rw [List.length_append, List.length_singleton]; omega
theorem tlL_jn {g : Nat → TkR} : ∀ i, (∀ j, j < i → (g j).k ≠ 0) → (tlL g i).length = i ∧ jnT (tlL g i) = jdW g i
  | 0, _ => ⟨rfl, rfl⟩
  | i + 1, h => by
    obtain ⟨h1, h2⟩ := tlL_jn (g := g) i (fun j hj => h j (by omega))
    have hk := h i (by omega)
    have e : tlL g (i + 1) = tlL g i ++ [tellT (g i)] := by
      show (if (g i).k = 0 then tlL g i else tlL g i ++ [tellT (g i)]) = _
      rw [if_neg hk]
    rw [e]
    refine ⟨by rw [List.length_append, h1]; rfl, ?_⟩
    rw [jnT_cat, h1, h2]
    show _ = (if 0 < i ∧ (g i).k ≠ 0 then jdW g i ++ ⟨#[32]⟩ else jdW g i) ++ tellT (g i)
    by_cases h0 : 0 < i
    · rw [if_pos h0, if_pos ⟨h0, hk⟩]
    · rw [if_neg h0, if_neg (fun c => h0 c.1)]
theorem ba_nil (x : ByteArray) : x ++ ⟨#[]⟩ = x := by apply ByteArray.ext; simp
theorem tlL_all {g : Nat → TkR} {n : Nat} (h : ∀ i, i < n → goodT g n i = true) : jnT (tlL g n) = jdW g n := by
  cases n with
  | zero => rfl
  | succ m =>
    have hk : ∀ j, j < m → (g j).k ≠ 0 := fun j hj => by
      have := h j (by omega)
      unfold goodT at this
      simp only [Bool.and_eq_true, Bool.or_eq_true, decide_eq_true_eq] at this
      rcases this.2 with h1 | h1
      · exact h1
      · omega
    by_cases h0 : (g m).k = 0
    · obtain ⟨h1, h2⟩ := tlL_jn m hk
      have e : tlL g (m + 1) = tlL g m := by
        show (if (g m).k = 0 then tlL g m else tlL g m ++ [tellT (g m)]) = _
        rw [if_pos h0]
      have ht : tellT (g m) = ⟨#[]⟩ := by
        have h3 := h m (by omega)
        unfold goodT okT at h3
        rw [if_pos h0] at h3
        simp only [Bool.and_eq_true] at h3
        have h4 := List.isEmpty_iff.1 h3.1
        unfold tellT
        rw [if_neg (by omega)]
        apply ByteArray.ext
        rw [Lib.toList_data] at h4
        apply Array.ext'
        rw [h4]
      rw [e, h2]
      show _ = (if 0 < m ∧ (g m).k ≠ 0 then jdW g m ++ ⟨#[32]⟩ else jdW g m) ++ tellT (g m)
      rw [if_neg (fun c => c.2 h0), ht, ba_nil]
    · exact (tlL_jn (m + 1) (fun j hj => by
        by_cases e : j = m
        · subst e; exact h0
        · exact hk j (by omega))).2
end Go.Proofs.YtmkkckhfdafjnaaGreatDoor
/- Layer 17: the walk of LexJoins. -/
namespace Go.Proofs.YtmkkckhfdafjnaaGreatDoor
open Go.RowKit Go.Maps
def rw3 (g : Nat → TkR) : Nat → List Value
  | 0 => []
  | n + 1 => rw3 g n ++ [.int .u8 (g n).k, .string (g n).s, .int .i64 (g n).a]
theorem rw3_len (g : Nat → TkR) : ∀ n, (rw3 g n).length = n * 3
  | 0 => rfl
  | n + 1 => by
    show (rw3 g n ++ [_, _, _]).length = _
    rw [List.length_append, rw3_len g n]
    show n * 3 + 3 = _
    omega
theorem rw3_at (g : Nat → TkR) : ∀ n i, i < n → (rw3 g n)[i * 3]? = some (.int .u8 (g i).k) ∧ (rw3 g n)[i * 3 + 1]? = some (.string (g i).s) ∧ (rw3 g n)[i * 3 + 2]? = some (.int .i64 (g i).a)
  | 0, i, h => absurd h (Nat.not_lt_zero i)
  | n + 1, i, h => by
    have hl := rw3_len g n
    show (rw3 g n ++ [_, _, _])[i * 3]? = _ ∧ (rw3 g n ++ [_, _, _])[i * 3 + 1]? = _ ∧ (rw3 g n ++ [_, _, _])[i * 3 + 2]? = _
    by_cases e : i = n
    · subst e
      rw [List.getElem?_append_right (by omega), List.getElem?_append_right (by omega), List.getElem?_append_right (by omega), hl]
      rw [show i * 3 - i * 3 = 0 by omega, show i * 3 + 1 - i * 3 = 1 by omega, show i * 3 + 2 - i * 3 = 2 by omega]
      exact ⟨rfl, rfl, rfl⟩
    · rw [List.getElem?_append_left (by omega), List.getElem?_append_left (by omega), List.getElem?_append_left (by omega)]
      exact rw3_at g n i (by omega)
theorem rw3_one (g : Nat → TkR) : ∀ n, ∀ u ∈ rw3 g n, u.oneCell' = true
  | 0, u, h => by cases h
  | n + 1, u, h => by
    rcases List.mem_append.1 h with h | h
    · exact rw3_one g n u h
    · simp at h
      rcases h with rfl | rfl | rfl <;> rfl
theorem tk_news {w : World} {ad : Addr} {n : Nat} {g : Nat → TkR} (h : TkV w (some ad) n g) : ∀ j u, (rw3 g n)[j]? = some u → w.cell? (ad.add j) = some u := by
  intro j u hj
  have hlt := (List.getElem?_eq_some_iff.1 hj).1
  rw [rw3_len] at hlt
  have hi : j / 3 < n := by omega
  obtain ⟨b, off, e, _, c0, c1, c2⟩ := h (j / 3) hi
  cases e
  obtain ⟨a0, a1, a2⟩ := rw3_at g n (j / 3) hi
  rw [Addr.add_lit]
  show w.cell? ⟨b, off + j, none⟩ = some u
  rcases (by omega : j = j / 3 * 3 ∨ j = j / 3 * 3 + 1 ∨ j = j / 3 * 3 + 2) with e | e | e
  · rw [e] at hj ⊢; rw [a0] at hj; rw [c0]; exact hj
  · rw [e] at hj ⊢; rw [a1] at hj; rw [← Nat.add_assoc, c1]; exact hj
  · rw [e] at hj ⊢; rw [a2] at hj; rw [← Nat.add_assoc, c2]; exact hj
theorem own_tk {w : World} {B n : Nat} {v : Value} {g : Nat → TkR} (h : w.ownsRow B 59 3 v n (rw3 g n)) : ∃ a c, v = .slice a n c ∧ TkV w a n g := by
  rcases h.2 with ⟨rfl, rfl⟩ | ⟨q, cap, cur, rfl, hq, hb, h1, h2, h3, h4⟩
  · exact ⟨none, 0, rfl, fun i hi => absurd hi (Nat.not_lt_zero i)⟩
  · refine ⟨_, cap, rfl, fun i hi => ?_⟩
    have hc : ∀ j u, (rw3 g n)[j]? = some u → w.cell? ⟨q, 0 + j, none⟩ = some u := fun j u hj => by
      have hlt := (List.getElem?_eq_some_iff.1 hj).1
      rw [rw3_len] at hlt
      have e : cur.toList[j]? = some u := by
        have : (cur.toList.take (n * 3))[j]? = (rw3 g n)[j]? := by rw [h4]
        rw [List.getElem?_take, if_pos hlt] at this
        rw [this, hj]
      rw [Nat.zero_add]
      simp [World.cell?, hb]
      simpa using e
    obtain ⟨a0, a1, a2⟩ := rw3_at g n i hi
    exact ⟨q, 0, rfl, (Array.getElem?_eq_some_iff.1 hb).1, hc _ _ a0, by rw [Nat.add_assoc]; exact hc _ _ a1, by rw [Nat.add_assoc]; exact hc _ _ a2⟩
theorem infoT : ∃ i, Tryz.prog.info? 59 = some i ∧ i.zero = some (.agg #[.int .u8 0, .string ⟨#[]⟩, .int .i64 0]) ∧ i.size = 3 ∧ i.bytes = 32 := by
  have h := Tryz.typeInfo59 default
  unfold typeInfo at h
  cases hq : Tryz.prog.info? 59 with
  | none => simp [hq] at h
  | some i =>
    simp [hq] at h
    exact ⟨i, rfl, by rw [h]; rfl, by rw [h]; rfl, by rw [h]; rfl⟩
theorem own_empty (w : World) : (w.alloc (.cells #[] 59)).ownsRow w.heap.size 59 3 (.slice (some ⟨w.heap.size, 0, none⟩) 0 0) 0 [] := ⟨rfl, .inr ⟨w.heap.size, 0, #[], rfl, Nat.le_refl _, heap_alloc_new _ _, Nat.le_refl _, by decide, rfl, rfl⟩⟩
end Go.Proofs.YtmkkckhfdafjnaaGreatDoor
/- Layer 4: bytes of texts as lists; what is appended to a row of bytes (with S0's BO). -/
namespace Go.Proofs.YtmkkckhfdafjnaaGreatDoor
open Go.RowKit
def bI (s : ByteArray) : List Int := s.data.toList.map fun b => (b.toNat : Int)
theorem bI_len (s : ByteArray) : (bI s).length = s.size := by unfold bI; rw [List.length_map, Array.length_toList]; rfl
theorem bI_app (a b : ByteArray) : bI (a ++ b) = bI a ++ bI b := by
  unfold bI
  rw [show (a ++ b).data.toList = a.data.toList ++ b.data.toList by simp, List.map_append]
theorem bI_range (s : ByteArray) : ∀ y ∈ bI s, 0 ≤ y ∧ y < 256 := by
  intro y hy
  obtain ⟨b, _, rfl⟩ := List.mem_map.1 hy
  have := UInt8.toNat_lt b
  omega
theorem bI_mk {L : List Int} (h : ∀ y ∈ L, 0 ≤ y ∧ y < 256) : bI (mkB L) = L := by
  unfold bI mkB
  rw [List.map_map]
  conv => rhs; rw [← List.map_id L]
  apply List.map_congr_left
  intro x hx
  have := h x hx
  simp only [Function.comp, id]
  rw [UInt8.toNat_ofNat']
  omega
theorem mk_bI (s : ByteArray) : mkB (bI s) = s := by
  apply ByteArray.ext
  apply Array.toList_inj.1
  unfold mkB bI
  simp only [List.map_map]
  conv => rhs; rw [← List.map_id s.data.toList]
  apply List.map_congr_left
  intro x _
  simp
theorem bI_cells (s : ByteArray) : Lib.strCells s = (bI s).map (Value.int .u8) := by
  unfold Lib.strCells bI
  rw [List.map_map]
  rfl
theorem bI_qu (s : ByteArray) : bI (quT s) = quL s s.size ++ [34] := bI_mk (qu_end s)
theorem bo_str {w0 w : World} {v : Value} {L : List Int} (ty : TypeId) (hO : BO w0 w v L) (s : ByteArray) (hL : L.length + s.size ≤ 1000000000) :
    ∃ v' w', (Builtin.append_ #[26, 9] ty #[v, .string s]).run Tryz.prog w = .ok v' w' ∧ BO w0 w' v' (L ++ bI s) := by
  obtain ⟨i, h2, h3, h4, h5⟩ := infoB
  obtain ⟨v', w', hrun, r1, r2, _⟩ := Lib.run_append_own_string (P := Tryz.prog) w w0.heap.size 26 9 ty 5 i Tryz.underlying26 Tryz.underlying9 h2 h3 h4 h5 v L.length (L.map (Value.int .u8)) hO.1 s (by unfold maxLen; omega) (by omega) hO.2.size
  refine ⟨v', w', hrun, ?_, hO.2.grown r2 hO.2.size (fun k hk => ?_)⟩
  · rw [List.length_append, bI_len, List.map_append, ← bI_cells]; exact r1
  · rcases hO.1.2 with ⟨rfl, _⟩ | ⟨g, cap, cur, rfl, hg, _⟩
    · cases hk
    · simp only [Value.ownBlock, Option.some.injEq] at hk
      subst hk; exact hg
theorem app_text {ops : Array Oper} {rest : List Oper} {o : Oper} {a : Act} {w0 w : World} {Q : Exit → Act → World → Prop} (hgd : o.guard = none) (sl x : Operand)
    (ho : o.op = .call { callee := .builtin .append, args := #[sl, x], argTypes := #[26, 9] }) (v : Value) (L : List Int) (s : ByteArray) (hs : a.eval sl = v) (hx : a.eval x = .string s) (hO : BO w0 w v L) (hL : L.length + s.size ≤ 1000000000)
    (h : ∀ v' w', BO w0 w' v' (L ++ bI s) → wpList Tryz.prog ops Q rest (a.put o.dst v') w') : wpList Tryz.prog ops Q (o :: rest) a w := by
  obtain ⟨v', w', hrun, hB⟩ := bo_str o.type hO s hL
  refine wpList_plain hgd fun K hK => ?_
  unfold Oper.wp
  simp [execOp, ho, resolve, invoke, builtin, hs, hx, hrun, Result.andThen]
  exact hK _ _ (h v' w' hB)
theorem BO.up {w0 w w' : World} {v : Value} {L : List Int} (h : BO w0 w v L) (hb : Below w.heap.size w w') : BO w0 w' v L := ⟨own_below h.1 hb, h.2.trans (hb.mono h.2.size)⟩
/-! ### A value's JSON (plain) -/
def itT (n : Int) : ByteArray := ⟨(Lib.itoa n).toArray⟩
/-- The first k items of the value at p. -/
def jki (V : Nat → ByteArray) (g : Nat → CR) (n : Nat) (obj : Bool) (p : Nat) : Nat → ByteArray
  | 0 => ⟨#[]⟩
  | k + 1 => (if obj then (if 0 < k then jki V g n obj p k ++ ⟨#[44]⟩ else jki V g n obj p k) ++ (quT (g (bd g n (p + 1) k)).nm ++ ⟨#[58]⟩) else (if 0 < k then jki V g n obj p k ++ ⟨#[44]⟩ else jki V g n obj p k)) ++ V (bd g n (p + 1) k)
/-- The text of the value at p (plain values alone). -/
def jtx (g : Nat → CR) (n : Nat) : Nat → Nat → ByteArray
  | 0, _ => ⟨#[]⟩
  | f + 1, p =>
    if (g p).k = 0 then ⟨#[110, 117, 108, 108]⟩
    else if (g p).k = 1 then (if (g p).n = 1 then ⟨#[116, 114, 117, 101]⟩ else ⟨#[102, 97, 108, 115, 101]⟩)
    else if (g p).k = 2 then itT (g p).n
    else if (g p).k = 3 then quT (g p).tx
    else if (g p).k = 7 then ⟨#[123]⟩ ++ jki (jtx g n f) g n true p (g p).m.toNat ++ ⟨#[125]⟩
    else ⟨#[91]⟩ ++ jki (jtx g n f) g n false p (g p).m.toNat ++ ⟨#[93]⟩
end Go.Proofs.YtmkkckhfdafjnaaGreatDoor
/- Layer 4: what stands at a place; words and strings that are read (plain). -/
namespace Go.Proofs.YtmkkckhfdafjnaaGreatDoor
open Go.RowKit
/-- Those bytes stand at a place. -/
def AtL (s : ByteArray) : Nat → List Int → Prop
  | i, [] => i ≤ s.size
  | i, c :: r => i < s.size ∧ byt s i = c ∧ AtL s (i + 1) r
theorem at_le {s : ByteArray} : ∀ {L : List Int} {i : Nat}, AtL s i L → i + L.length ≤ s.size
  | [], i, h => h
  | c :: r, i, h => by have := at_le h.2.2; simp; omega
theorem at_app {s : ByteArray} : ∀ {A B : List Int} {i : Nat}, AtL s i (A ++ B) ↔ AtL s i A ∧ AtL s (i + A.length) B
  | [], B, i => ⟨fun h => ⟨by have := at_le h; show i ≤ s.size; simp at this; omega, h⟩, fun h => h.2⟩
  | c :: r, B, i => by
    have ih := at_app (s := s) (A := r) (B := B) (i := i + 1)
    have e : i + 1 + r.length = i + (c :: r).length := by simp; omega
    rw [e] at ih
    exact ⟨fun h => ⟨⟨h.1, h.2.1, (ih.1 h.2.2).1⟩, (ih.1 h.2.2).2⟩, fun h => ⟨h.1.1, h.1.2.1, ih.2 ⟨h.1.2.2, h.2⟩⟩⟩
theorem bI_at (s : ByteArray) (i : Nat) (h : i < s.size) : (bI s)[i]? = some (byt s i) := by
  unfold bI
  rw [List.getElem?_map, Array.getElem?_toList, Array.getElem?_eq_getElem (show i < s.data.size from h), ← byt_eq s i h]
  rfl
theorem at_drop (s : ByteArray) : ∀ f i, i + f = s.size → AtL s i ((bI s).drop i)
  | 0, i, h => by
    rw [List.drop_eq_nil_of_le (by rw [bI_len]; omega)]
    show i ≤ s.size
    omega
  | f + 1, i, h => by
    have hi : i < (bI s).length := by rw [bI_len]; omega
    rw [List.drop_eq_getElem_cons hi]
    have e := bI_at s i (by omega)
    rw [List.getElem?_eq_getElem hi] at e
    exact ⟨by omega, (Option.some.inj e).symm, at_drop s f (i + 1) (by omega)⟩
theorem at_all (s : ByteArray) : AtL s 0 (bI s) := by
  have h := at_drop s s.size 0 (by omega)
  rwa [List.drop_zero] at h
/-- Two texts with the same bytes there. -/
theorem at_take {s : ByteArray} : ∀ {L : List Int} {i : Nat}, AtL s i L → (bI s).drop i = L ++ (bI s).drop (i + L.length)
  | [], i, _ => by simp
  | c :: r, i, h => by
    have hi : i < (bI s).length := by rw [bI_len]; exact h.1
    rw [List.drop_eq_getElem_cons hi]
    have e := bI_at s i h.1
    rw [List.getElem?_eq_getElem hi, h.2.1] at e
    have ih := at_take h.2.2
    rw [Option.some.inj e, ih, show i + 1 + r.length = i + (c :: r).length by simp; omega]
    rfl
theorem bI_inj {a b : ByteArray} (h : bI a = bI b) : a = b := by rw [← mk_bI a, ← mk_bI b, h]
theorem bI_extract (s : ByteArray) (a b : Nat) : bI (s.extract a b) = ((bI s).take b).drop a := by
  unfold bI
  rw [ByteArray.data_extract, Array.toList_extract, List.extract_eq_take_drop, List.map_take, List.map_drop, List.drop_take]
theorem at_extract {s : ByteArray} {L : List Int} {i : Nat} (h : AtL s i L) : bI (s.extract i (i + L.length)) = L := by
  rw [bI_extract, List.drop_take, at_take h, Nat.add_sub_cancel_left]
  exact List.take_left
theorem word_at {s : ByteArray} : ∀ {L : List Int} {i : Nat}, AtL s i L → wordM s L i = .ok (i + L.length)
  | [], i, _ => rfl
  | c :: r, i, h => by
    unfold wordM
    rw [if_pos h.2.1, word_at h.2.2]
    simp
    omega
theorem hex_hexI (d : Int) (h0 : 0 ≤ d) (h1 : d < 16) : hexV (hexI d) = d := by
  unfold hexI hexV
  split
  · rw [if_pos (by omega)]; omega
  · rw [if_neg (by omega), if_pos (by omega)]; omega
theorem short_back (x : Int) (h : shortI x ≠ 0) : escM = escM ∧ (x = 34 ∨ x = 92 ∨ x = 8 ∨ x = 9 ∨ x = 10 ∨ x = 12 ∨ x = 13) := by
  refine ⟨rfl, ?_⟩
  unfold shortI at h
  (repeat' split at h) <;> first | omega | exact absurd rfl h
theorem low_point {s : ByteArray} {j : Nat} {x : Int} (h0 : 0 ≤ x) (h : x < 32) (a1 : byt s j = 48) (a2 : byt s (j + 1) = 48) (a3 : byt s (j + 1 + 1) = hexI (x / 16)) (a4 : byt s (j + 1 + 1 + 1) = hexI (x % 16)) : pointM s j = .ok (x, j + 4) := by
  have e1 := hex_hexI (x / 16) (by omega) (by omega)
  have e2 := hex_hexI (x % 16) (by omega) (by omega)
  have z : hexV 48 = 0 := by decide
  have f : fourF s 4 j 0 = .ok (x, j + 4) := by
    unfold fourF; rw [a1, z, if_neg (by decide)]
    unfold fourF; rw [a2, z, if_neg (by decide)]
    unfold fourF; rw [a3, e1, if_neg (by omega)]
    unfold fourF; rw [a4, e2, if_neg (by omega)]
    unfold fourF
    rw [show ((((0 : Int) * 16 + 0) * 16 + 0) * 16 + x / 16) * 16 + x % 16 = x by omega]
  unfold pointM
  rw [f, Rs.bind_ok]
  dsimp only
  rw [if_neg (by omega), if_pos (by unfold isPt; simp; omega)]
theorem enc_low (x : Int) (h : x < 128) : enc x = [x] := by unfold enc; rw [if_pos h]
/-- One byte, as it is quoted, is read. -/
theorem esc_read {s : ByteArray} {x : Int} {j f : Nat} {l : List Int} (h0 : 0 ≤ x) (h : AtL s j (escI x)) : strF s (f + 1) j l = strF s f (j + (escI x).length) (l ++ [x]) := by
  by_cases hs : shortI x ≠ 0
  · rw [esc_short hs] at h ⊢
    obtain ⟨_, b1, _, b2, _⟩ := h
    have e : escM s (j + 1) = .ok ([x], j + 2) := by
      have hx := (short_back x hs).2
      unfold escM
      dsimp only
      rw [b2]
      rcases hx with rfl | rfl | rfl | rfl | rfl | rfl | rfl <;> rfl
    rw [strF, b1, if_neg (by decide), if_pos rfl, e]
    rfl
  · have hs' : shortI x = 0 := by simpa using hs
    by_cases hl : x < 32
    · rw [esc_low hs' hl] at h ⊢
      obtain ⟨_, b1, _, b2, _, b3, _, b4, _, b5, _, b6, _⟩ := h
      have e : escM s (j + 1) = .ok ([x], j + 6) := by
        unfold escM
        dsimp only
        rw [b2]
        rw [if_neg (by decide), if_neg (by decide), if_neg (by decide), if_neg (by decide), if_neg (by decide), if_neg (by decide), if_pos rfl, low_point h0 hl b3 b4 b5 b6, Rs.bind_ok]
        dsimp only
        rw [enc_low x (by omega)]
      rw [strF, b1, if_neg (by decide), if_pos rfl, e]
      rfl
    · rw [esc_own hs' hl] at h ⊢
      obtain ⟨_, b1, _⟩ := h
      have n34 : x ≠ 34 := fun e => hs (by rw [e]; decide)
      have n92 : x ≠ 92 := fun e => hs (by rw [e]; decide)
      rw [strF, b1, if_neg n34, if_neg n92, if_neg hl]
      rfl
def esL (L : List Int) : List Int := L.flatMap escI
theorem esc_pos (x : Int) : 1 ≤ (escI x).length := by unfold escI; split <;> (try split) <;> simp
theorem esL_len : ∀ L : List Int, L.length ≤ (esL L).length
  | [] => Nat.le_refl _
  | x :: r => by
    have := esL_len r
    have := esc_pos x
    show (x :: r).length ≤ (escI x ++ esL r).length
    simp; omega
theorem str_read {s : ByteArray} : ∀ (L : List Int) (f j : Nat) (l : List Int), (∀ x ∈ L, 0 ≤ x) → AtL s j (esL L ++ [34]) → L.length < f → strF s f j l = .ok (l ++ L, j + (esL L).length + 1)
  | [], f, j, l, _, h, hf => by
    obtain ⟨f', rfl⟩ : ∃ f', f = f' + 1 := ⟨f - 1, by omega⟩
    have h2 : byt s j = 34 := h.2.1
    unfold strF
    rw [if_pos h2, List.append_nil]
    rfl
  | x :: r, f, j, l, h0, h, hf => by
    obtain ⟨f', rfl⟩ : ∃ f', f = f' + 1 := ⟨f - 1, by omega⟩
    have e : esL (x :: r) ++ [34] = escI x ++ (esL r ++ [34]) := by show (escI x ++ esL r) ++ [34] = _; rw [List.append_assoc]
    rw [e, at_app] at h
    rw [esc_read (h0 x (by simp)) h.1, str_read r f' _ _ (fun y hy => h0 y (by simp [hy])) h.2 (by simp at hf; omega)]
    have e2 : (esL (x :: r)).length = (escI x).length + (esL r).length := by show (escI x ++ esL r).length = _; rw [List.length_append]
    rw [e2]
    simp
    omega
theorem quL_esL (t : ByteArray) : ∀ k, k ≤ t.size → quL t k = 34 :: esL ((bI t).take k)
  | 0, _ => rfl
  | k + 1, h => by
    have hk : k < (bI t).length := by rw [bI_len]; omega
    have e := bI_at t k (by omega)
    rw [List.getElem?_eq_getElem hk] at e
    unfold quL
    rw [quL_esL t k (by omega), List.take_succ_eq_append_getElem hk, Option.some.inj e]
    unfold esL
    rw [List.flatMap_append]
    simp
theorem quT_bI (t : ByteArray) : bI (quT t) = 34 :: (esL (bI t) ++ [34]) := by
  rw [bI_qu, quL_esL t t.size (Nat.le_refl _), List.take_of_length_le (by rw [bI_len]; exact Nat.le_refl _)]
  rfl
/-- A text that is quoted is read. -/
theorem quT_read {s t : ByteArray} {i : Nat} (h : AtL s i (bI (quT t))) : strM s i = .ok (bI t, i + (quT t).size) := by
  have hsz : (quT t).size = (esL (bI t)).length + 2 := by rw [← bI_len, quT_bI]; simp
  rw [quT_bI] at h
  obtain ⟨h1, h2, h3⟩ := h
  have hl := at_le h3
  have hl2 := esL_len (bI t)
  rw [List.length_append] at hl
  simp at hl
  unfold strM wordM
  rw [if_pos h2]
  unfold wordM
  rw [Rs.bind_ok, str_read (bI t) _ (i + 1) [] (fun x hx => (bI_range t x hx).1) h3 (by omega), hsz]
  simp
  omega
end Go.Proofs.YtmkkckhfdafjnaaGreatDoor
/- Layer 4: what is written is a text (plain). -/
namespace Go.Proofs.YtmkkckhfdafjnaaGreatDoor
open Go.RowKit
/-- From a place on code points stand, up to another place. -/
inductive Tw (s : ByteArray) : Nat → Nat → Prop
  | nil (a : Nat) : Tw s a a
  | step {a b : Nat} : a < s.size → decIs s a = true → Tw s (a + leadN (byt s a)) b → Tw s a b
theorem Tw.trans {s : ByteArray} {a b c : Nat} (h : Tw s a b) (k : Tw s b c) : Tw s a c := by
  induction h with
  | nil => exact k
  | step h1 h2 _ ih => exact .step h1 h2 (ih k)
theorem Tw.tx {s : ByteArray} {a b : Nat} (h : Tw s a b) (hb : b = s.size) : ∀ f, s.size - a ≤ f → txF s f a = true := by
  induction h with
  | nil a => intro f _; exact txF_end (by omega)
  | step h1 h2 _ ih =>
    intro f hf
    have h3 := (decIs_lead h2).1
    rw [txF_step h1 hf, h2, ih hb (f - 1) (by omega)]
    rfl
theorem tw_of {s : ByteArray} : ∀ (f a : Nat), s.size - a ≤ f → a ≤ s.size → txF s f a = true → Tw s a s.size
  | 0, a, hf, ha, _ => by
    obtain rfl : a = s.size := by omega
    exact .nil _
  | f + 1, a, hf, ha, h => by
    by_cases e : a < s.size
    · rw [txF_step e hf, Bool.and_eq_true] at h
      have h3 := (decIs_lead h.1).1
      exact .step e h.1 (tw_of f _ (by omega) (dec_in e h.1) h.2)
    · obtain rfl : a = s.size := by omega
      exact .nil _
theorem isTx_tw {t : ByteArray} (h : isTx t = true) : Tw t 0 t.size := tw_of t.size 0 (by omega) (Nat.zero_le _) h
theorem asc_dec {s : ByteArray} {a : Nat} (h : byt s a < 128) : decIs s a = true ∧ leadN (byt s a) = 1 := by
  have h0 := (byt_range s a).1
  have e1 : leadN (byt s a) = 1 := by unfold leadN; rw [if_pos h]
  have e2 : leadB (byt s a) = byt s a := by unfold leadB; rw [if_pos h]
  refine ⟨?_, e1⟩
  unfold decIs
  rw [e1, e2]
  simp only [Nat.sub_self, conts, acc]
  have e3 : isPt (byt s a) = true := by unfold isPt; simp; omega
  have e4 : szOf (byt s a) = 1 := by unfold szOf; rw [if_pos h]
  rw [e3, e4]
  rfl
theorem tw_asc {s : ByteArray} : ∀ {L : List Int} {i : Nat}, (∀ c ∈ L, c < 128) → AtL s i L → Tw s i (i + L.length)
  | [], i, _, _ => .nil _
  | c :: r, i, hc, h => by
    have hb : byt s i < 128 := by rw [h.2.1]; exact hc c (by simp)
    obtain ⟨h1, h2⟩ := asc_dec hb
    have ih := tw_asc (fun x hx => hc x (by simp [hx])) h.2.2
    rw [show i + 1 + r.length = i + (c :: r).length by simp; omega] at ih
    exact .step h.1 h1 (by rw [h2]; exact ih)
theorem conts_as {s t : ByteArray} {a j : Nat} : ∀ k, (∀ i, i < k → byt s (j + i) = byt t (a + i)) → j + k ≤ s.size → conts t a k = true → conts s j k = true
  | 0, _, _, _ => rfl
  | k + 1, h, hs, hc => by
    simp only [conts, Bool.and_eq_true, decide_eq_true_eq] at hc ⊢
    have := h k (by omega)
    exact ⟨conts_as k (fun i hi => h i (by omega)) (by omega) hc.1, by omega⟩
theorem acc_as {s t : ByteArray} {a j : Nat} (p : Int) : ∀ k, (∀ i, i < k → byt s (j + i) = byt t (a + i)) → acc s j p k = acc t a p k
  | 0, _ => rfl
  | k + 1, h => by
    simp only [acc]
    rw [acc_as p k (fun i hi => h i (by omega)), h k (by omega)]
theorem dec_as {s t : ByteArray} {a j : Nat} (hd : decIs t a = true) (h : ∀ k, k < leadN (byt t a) → byt s (j + k) = byt t (a + k)) (hs : j + leadN (byt t a) ≤ s.size) : decIs s j = true ∧ byt s j = byt t a := by
  have h1 := (decIs_lead hd).1
  have e0 : byt s j = byt t a := h 0 (by omega)
  refine ⟨?_, e0⟩
  have hc := (decIs_lead hd).2
  have hk : ∀ i, i < leadN (byt t a) - 1 → byt s (j + 1 + i) = byt t (a + 1 + i) := fun i hi => by
    have := h (i + 1) (by omega)
    rw [show j + 1 + i = j + (i + 1) by omega, show a + 1 + i = a + (i + 1) by omega]
    exact this
  unfold decIs at hd ⊢
  rw [e0, acc_as _ _ hk]
  simp only [Bool.and_eq_true] at hd ⊢
  exact ⟨⟨⟨hd.1.1.1, conts_as _ hk (by omega) hc⟩, hd.1.2⟩, hd.2⟩
theorem esc_asc {x : Int} (h0 : 0 ≤ x) (h : x < 128) : ∀ c ∈ escI x, c < 128 := by
  unfold escI shortI hexI
  intro c hc
  (repeat' split at hc) <;> simp at hc <;> omega
theorem esc_high {x : Int} (h : 128 ≤ x) : escI x = [x] := by
  have hs : shortI x = 0 := by unfold shortI; (repeat' split) <;> omega
  exact esc_own hs (by omega)
theorem esL_high : ∀ {L : List Int}, (∀ c ∈ L, 128 ≤ c) → esL L = L
  | [], _ => rfl
  | x :: r, h => by
    show escI x ++ esL r = x :: r
    rw [esc_high (h x (by simp)), esL_high (fun c hc => h c (by simp [hc]))]
    rfl
theorem conts_byt {s : ByteArray} {a : Nat} : ∀ k, conts s a k = true → ∀ i, i < k → 128 ≤ byt s (a + i)
  | 0, _, i, h => by omega
  | k + 1, hc, i, h => by
    simp only [conts, Bool.and_eq_true, decide_eq_true_eq] at hc
    by_cases e : i = k
    · subst e; omega
    · exact conts_byt k hc.1 i (by omega)
theorem drop_chunk (t : ByteArray) : ∀ (z a : Nat), a + z ≤ t.size → (bI t).drop a = ((List.range z).map fun k => byt t (a + k)) ++ (bI t).drop (a + z)
  | 0, a, _ => by simp
  | z + 1, a, h => by
    have hi : a < (bI t).length := by rw [bI_len]; omega
    have e := bI_at t a (by omega)
    rw [List.getElem?_eq_getElem hi] at e
    rw [List.drop_eq_getElem_cons hi, Option.some.inj e, drop_chunk t z (a + 1) (by omega), List.range_succ_eq_map]
    simp only [List.map_cons, List.map_map, List.cons_append, Nat.add_zero, List.cons.injEq, true_and]
    rw [show a + 1 + z = a + (z + 1) by omega]
    congr 1
    apply List.map_congr_left
    intro x _
    show byt t (a + 1 + x) = byt t (a + (x + 1))
    rw [show a + 1 + x = a + (x + 1) by omega]
theorem at_map {s : ByteArray} {F : Nat → Int} : ∀ {z j : Nat}, AtL s j ((List.range z).map F) → ∀ k, k < z → byt s (j + k) = F k := by
  intro z
  induction z generalizing F with
  | zero => intro j _ k hk; omega
  | succ z ih =>
    intro j h k hk
    rw [List.range_succ_eq_map, List.map_cons, List.map_map] at h
    cases k with
    | zero => exact h.2.1
    | succ k =>
      have := ih (F := F ∘ Nat.succ) h.2.2 k (by omega)
      rw [show j + (k + 1) = j + 1 + k by omega]
      exact this
/-- A text's bytes, as they are quoted, are code points. -/
theorem tw_esc {s t : ByteArray} {a b : Nat} (h : Tw t a b) (hb : b = t.size) : ∀ j, AtL s j (esL ((bI t).drop a)) → Tw s j (j + (esL ((bI t).drop a)).length) := by
  induction h with
  | nil a =>
    intro j _
    rw [List.drop_eq_nil_of_le (by rw [bI_len]; omega)]
    exact .nil _
  | @step a b h1 h2 _ ih =>
    intro j hat
    have hz := (decIs_lead h2).1
    have hin := dec_in h1 h2
    have hch := drop_chunk t (leadN (byt t a)) a hin
    have he : esL ((bI t).drop a) = esL ((List.range (leadN (byt t a))).map fun k => byt t (a + k)) ++ esL ((bI t).drop (a + leadN (byt t a))) := by
      rw [hch]; unfold esL; rw [List.flatMap_append]
    rw [he] at hat ⊢
    rw [at_app] at hat
    have hrest := ih hb _ hat.2
    rw [List.length_append, ← Nat.add_assoc]
    refine Tw.trans ?_ hrest
    by_cases hlow : byt t a < 128
    · have hl1 := (asc_dec hlow).2
      rw [hl1] at hat ⊢
      have e1 : ((List.range 1).map fun k => byt t (a + k)) = [byt t a] := rfl
      rw [e1] at hat ⊢
      have e2 : esL [byt t a] = escI (byt t a) := by unfold esL; simp
      rw [e2] at hat ⊢
      exact tw_asc (esc_asc (byt_range t a).1 hlow) hat.1
    · have hcb := conts_byt _ (decIs_lead h2).2
      have hall : ∀ c ∈ ((List.range (leadN (byt t a))).map fun k => byt t (a + k)), 128 ≤ c := by
        intro c hc
        obtain ⟨k, hk, rfl⟩ := List.mem_map.1 hc
        have hk := List.mem_range.1 hk
        cases k with
        | zero => show 128 ≤ byt t a; omega
        | succ k =>
          have := hcb k (by omega)
          rw [show a + (k + 1) = a + 1 + k by omega]
          exact this
      rw [esL_high hall] at hat ⊢
      have hlen : ((List.range (leadN (byt t a))).map fun k => byt t (a + k)).length = leadN (byt t a) := by simp
      have hle := at_le hat.1
      rw [hlen] at hle ⊢
      obtain ⟨d1, d2⟩ := dec_as h2 (at_map hat.1) hle
      refine .step (by omega) d1 ?_
      rw [d2]
      exact .nil _
/-- A text that is quoted is one. -/
theorem tw_qu {s t : ByteArray} {i : Nat} (ht : isTx t = true) (h : AtL s i (bI (quT t))) : Tw s i (i + (quT t).size) := by
  have hsz : (quT t).size = (esL (bI t)).length + 2 := by rw [← bI_len, quT_bI]; simp
  rw [quT_bI] at h
  have h : AtL s i ([34] ++ (esL (bI t) ++ [34])) := h
  rw [at_app, at_app] at h
  obtain ⟨h1, h2, h3⟩ := h
  have w1 := tw_asc (by intro c hc; simp at hc; omega) h1
  have e0 : (bI t).drop 0 = bI t := rfl
  have w2 := tw_esc (isTx_tw ht) rfl (i + 1) (by rw [e0]; exact h2)
  rw [e0] at w2
  have w3 := tw_asc (by intro c hc; simp at hc; omega) h3
  have w := (w1.trans w2).trans w3
  rw [hsz, show i + ((esL (bI t)).length + 2) = i + 1 + (esL (bI t)).length + 1 by omega]
  exact w
end Go.Proofs.YtmkkckhfdafjnaaGreatDoor
/- Layer 17: small plain facts (as in layer 4). -/
namespace Go.Proofs.YtmkkckhfdafjnaaGreatDoor
open Go.RowKit
theorem word1 {s : ByteArray} {c : Int} {i j : Nat} (h : wordM s [c] i = .ok j) : byt s i = c ∧ j = i + 1 := by
  unfold wordM at h
  split at h
  · unfold wordM at h
    cases h
    exact ⟨by assumption, rfl⟩
  · cases h
theorem str_here {s : ByteArray} {i : Nat} {x : List Int × Nat} (e : strM s i = .ok x) : i < s.size := by
  unfold strM at e
  cases hw : wordM s [34] i with
  | bad m => rw [hw] at e; cases e
  | ok j => exact byt_in (by rw [(word1 hw).1]; decide)
theorem byt_end {s : ByteArray} {i : Nat} (h : s.size ≤ i) : byt s i = 0 := by unfold byt; rw [dif_neg (by omega)]
end Go.Proofs.YtmkkckhfdafjnaaGreatDoor
/- Layer 2: a number's digits tell it (as in whole's Plain3). -/
namespace Go.Proofs.YtmkkckhfdafjnaaGreatDoor.Nm
open Go.RowKit Go.Lib
theorem byt_mk (l : List UInt8) (k : Nat) : byt ⟨l.toArray⟩ k = ((l.getD k 0).toNat : Int) := by
  unfold byt
  have hsz : (⟨l.toArray⟩ : ByteArray).size = l.length := rfl
  by_cases h : k < l.length
  · rw [dif_pos (by rw [hsz]; exact h)]
    have : (⟨l.toArray⟩ : ByteArray)[k]'(by rw [hsz]; exact h) = l[k] := rfl
    rw [this]; simp [List.getD, h]
  · rw [dif_neg (by rw [hsz]; exact h)]; simp [List.getD, h]
theorem byt_app (l m : List UInt8) (k : Nat) (h : k < l.length) : byt ⟨(l ++ m).toArray⟩ k = byt ⟨l.toArray⟩ k := by
  rw [byt_mk, byt_mk]; simp [List.getD, List.getElem?_append_left h]
theorem byt_last (l : List UInt8) (c : UInt8) : byt ⟨(l ++ [c]).toArray⟩ l.length = (c.toNat : Int) := by
  rw [byt_mk]; simp [List.getD]
theorem allD_app (l m : List UInt8) : ∀ k, k ≤ l.length → allD ⟨(l ++ m).toArray⟩ k = allD ⟨l.toArray⟩ k := by
  intro k
  induction k with
  | zero => intro _; rfl
  | succ k ih => intro h; simp only [allD]; rw [ih (by omega), byt_app l m k (by omega)]
theorem valD_app (l m : List UInt8) : ∀ k, k ≤ l.length → valD ⟨(l ++ m).toArray⟩ k = valD ⟨l.toArray⟩ k := by
  intro k
  induction k with
  | zero => intro _; rfl
  | succ k ih => intro h; simp only [valD]; rw [ih (by omega), byt_app l m k (by omega)]
/-- What digits tell, as a list. -/
def valL (l : List UInt8) : Int := valD ⟨l.toArray⟩ l.length
def allL (l : List UInt8) : Bool := allD ⟨l.toArray⟩ l.length
theorem valL_snoc (l : List UInt8) (c : UInt8) : valL (l ++ [c]) = valL l * 10 + ((c.toNat : Int) - 48) := by
  unfold valL
  rw [List.length_append, List.length_singleton]
  simp only [valD]
  rw [valD_app l [c] l.length (Nat.le_refl _), byt_last]
theorem allL_snoc (l : List UInt8) (c : UInt8) : allL (l ++ [c]) = (allL l && decide (48 ≤ (c.toNat : Int) ∧ (c.toNat : Int) ≤ 57)) := by
  unfold allL
  rw [List.length_append, List.length_singleton]
  simp only [allD]
  rw [allD_app l [c] l.length (Nat.le_refl _), byt_last]
theorem digit_toNat (d : Nat) (h : d < 10) : (UInt8.ofNat (48 + d)).toNat = 48 + d := by simp; omega
theorem dec_all (u : Nat) : allL (decDigits u) = true ∧ valL (decDigits u) = u ∧ (byt ⟨(decDigits u).toArray⟩ 0 = 48 → u = 0) ∧ 0 < (decDigits u).length := by
  induction u using Nat.strongRecOn with
  | _ u ih =>
    by_cases h : u < 10
    · rw [decDigits, dif_pos h]
      have hd := digit_toNat u h
      have e : [UInt8.ofNat (48 + u)] = [] ++ [UInt8.ofNat (48 + u)] := rfl
      refine ⟨?_, ?_, ?_, by simp⟩
      · rw [e, allL_snoc, hd]; simp [allL, allD]; omega
      · rw [e, valL_snoc, hd]; simp [valL, valD]; omega
      · intro hb; rw [byt_mk] at hb; simp only [List.getD_cons_zero] at hb; rw [hd] at hb; omega
    · obtain ⟨i1, i2, i3, i4⟩ := ih (u / 10) (by omega)
      rw [decDigits, dif_neg h]
      have hd := digit_toNat (u % 10) (by omega)
      refine ⟨?_, ?_, ?_, by simp⟩
      · rw [allL_snoc, hd, i1]; simp; omega
      · rw [valL_snoc, hd, i2]; omega
      · intro hb; rw [byt_app _ _ 0 i4] at hb; have := i3 hb; omega
theorem valL_pos (l : List UInt8) (h : allL l = true) (h0 : 0 < l.length) (h1 : byt ⟨l.toArray⟩ 0 ≠ 48) : 1 ≤ valL l := by
  have hb := allD_byte _ _ 0 h0 h
  have hm := valD_mono _ _ 1 h0 h
  have e : valD ⟨l.toArray⟩ 1 = 0 * 10 + (byt ⟨l.toArray⟩ 0 - 48) := rfl
  unfold valL; omega
/-- Digits are those of what they tell. -/
theorem dec_back : ∀ (n : Nat) (l : List UInt8), l.length = n + 1 → allL l = true → (byt ⟨l.toArray⟩ 0 = 48 → l.length = 1) → decDigits (valL l).toNat = l := by
  intro n
  induction n with
  | zero =>
    intro l hl ha _
    obtain ⟨c, rfl⟩ := List.length_eq_one_iff.1 hl
    have e : [c] = [] ++ [c] := rfl
    rw [e, allL_snoc] at ha
    simp only [Bool.and_eq_true, decide_eq_true_eq] at ha
    rw [e, valL_snoc]
    have e0 : valL [] = 0 := rfl
    rw [e0, decDigits, dif_pos (by omega)]
    simp only [List.nil_append, List.cons.injEq, and_true]
    apply UInt8.toNat_inj.1
    rw [digit_toNat _ (by omega)]; omega
  | succ n ih =>
    intro l hl ha h0
    obtain ⟨m, c, rfl⟩ : ∃ m c, l = m ++ [c] := ⟨l.dropLast, l.getLast (by intro h; rw [h] at hl; simp at hl), (List.dropLast_concat_getLast _).symm⟩
    have hm : m.length = n + 1 := by simp at hl; omega
    rw [allL_snoc] at ha
    simp only [Bool.and_eq_true, decide_eq_true_eq] at ha
    rw [byt_app m [c] 0 (by omega)] at h0
    have h48 : byt ⟨m.toArray⟩ 0 ≠ 48 := fun h => by have := h0 h; simp at this; omega
    have hp := valL_pos m ha.1 (by omega) h48
    have i := ih m hm ha.1 (fun h => absurd h h48)
    rw [valL_snoc, decDigits, dif_neg (by omega)]
    rw [show (valL m * 10 + ((c.toNat : Int) - 48)).toNat / 10 = (valL m).toNat from by omega, i]
    congr 1
    simp only [List.cons.injEq, and_true]
    apply UInt8.toNat_inj.1
    rw [digit_toNat _ (by omega)]; omega
/-- A text by its list. -/
theorem mk_list (s : ByteArray) : (⟨s.data.toList.toArray⟩ : ByteArray) = s := rfl
theorem areD_list (l : List UInt8) (h0 : 0 < l.length) (h1 : byt ⟨l.toArray⟩ 0 = 48 → l.length = 1) (ha : allL l = true) : areD ⟨l.toArray⟩ = true := by
  have hsz : (⟨l.toArray⟩ : ByteArray).size = l.length := rfl
  unfold areD
  rw [hsz]
  have : allD ⟨l.toArray⟩ l.length = true := ha
  by_cases hb : byt ⟨l.toArray⟩ 0 = 48
  · simp [hb, h1 hb, ← this]
  · simp [h0, hb, this]
theorem dec_first (u : Nat) : byt ⟨(decDigits u).toArray⟩ 0 = 48 → (decDigits u).length = 1 := by
  intro h
  have := (dec_all u).2.2.1 h
  subst this; rw [decDigits, dif_pos (by decide)]; rfl
theorem bare_minus (l : List UInt8) : bare ⟨(45 :: l).toArray⟩ = ⟨l.toArray⟩ ∧ sgn ⟨(45 :: l).toArray⟩ = 0 := by
  have hn : isNeg ⟨(45 :: l).toArray⟩ = true := by
    unfold isNeg
    have hsz : (⟨(45 :: l).toArray⟩ : ByteArray).size = l.length + 1 := rfl
    rw [hsz, byt_mk]; simp
  unfold bare sgn
  rw [hn]
  refine ⟨?_, rfl⟩
  simp only [if_true]
  rw [Lib.extract_eq]
  have hsz : (⟨(45 :: l).toArray⟩ : ByteArray).size = l.length + 1 := rfl
  rw [hsz]
  simp
/-- What is written is read. -/
theorem read_itoa (n : Int) (h0 : -9223372036854775808 ≤ n) (h1 : n ≤ 9223372036854775807) : rdV ⟨(itoa n).toArray⟩ = n ∧ rdE ⟨(itoa n).toArray⟩ = 0 := by
  by_cases hn : n < 0
  · have e : itoa n = 45 :: decDigits n.natAbs := by unfold itoa; rw [if_pos hn]
    obtain ⟨d1, d2, _, d4⟩ := dec_all n.natAbs
    have ha := areD_list _ d4 (dec_first n.natAbs) d1
    have hz : rdZ ⟨(itoa n).toArray⟩ = n := by
      unfold rdZ
      rw [e, (bare_minus _).1, (bare_minus _).2]
      have : valD ⟨(decDigits n.natAbs).toArray⟩ (⟨(decDigits n.natAbs).toArray⟩ : ByteArray).size = n.natAbs := d2
      rw [this]; simp [sv]; omega
    unfold rdV rdE
    rw [hz]
    rw [e, (bare_minus _).1, ha]
    exact ⟨val_yes h0 h1, err_yes h0 h1⟩
  · have e : itoa n = decDigits n.toNat := by unfold itoa; rw [if_neg hn]
    obtain ⟨d1, d2, _, d4⟩ := dec_all n.toNat
    have ha := areD_list _ d4 (dec_first n.toNat) d1
    have hf : isNeg ⟨(decDigits n.toNat).toArray⟩ = false := by
      unfold isNeg
      have hb := allD_byte _ _ 0 d4 d1
      have : ¬ byt ⟨(decDigits n.toNat).toArray⟩ 0 = 45 := by omega
      simp [this]
    have hb : bare ⟨(decDigits n.toNat).toArray⟩ = ⟨(decDigits n.toNat).toArray⟩ := by unfold bare; rw [hf]; rfl
    have hs : sgn ⟨(decDigits n.toNat).toArray⟩ = 1 := by unfold sgn; rw [hf]; rfl
    have hz : rdZ ⟨(itoa n).toArray⟩ = n := by
      unfold rdZ
      rw [e, hb, hs]
      have : valD ⟨(decDigits n.toNat).toArray⟩ (⟨(decDigits n.toNat).toArray⟩ : ByteArray).size = n.toNat := d2
      rw [this]; simp [sv]; omega
    unfold rdV rdE
    rw [hz]
    rw [e, hb, ha]
    exact ⟨val_yes h0 h1, err_yes h0 h1⟩
end Go.Proofs.YtmkkckhfdafjnaaGreatDoor.Nm
/- Layer 2: what is read is written as the same digits, but -0 (as in whole's Plain3). -/
namespace Go.Proofs.YtmkkckhfdafjnaaGreatDoor.Nm
open Go.RowKit Go.Lib
/-- What is read is written as the same digits, but -0. -/
theorem itoa_read (s : ByteArray) (h : rdE s = 0) : itoa (rdV s) = s.data.toList ∨ (s.data.toList = [45, 48] ∧ rdV s = 0) := by
  have hd : areD (bare s) = true := by
    cases hh : areD (bare s)
    · unfold rdE at h; rw [hh] at h; simp at h
    · rfl
  unfold rdE at h
  rw [hd] at h
  simp only [if_true] at h
  have hv : rdV s = rdZ s ∧ -9223372036854775808 ≤ rdZ s ∧ rdZ s ≤ 9223372036854775807 := by
    unfold rdV; rw [hd]
    rcases fits_cases (rdZ s) with ⟨a, b, c, _⟩ | ⟨_, _, c⟩
    · exact ⟨by simpa using c, a, b⟩
    · rw [c] at h; omega
  obtain ⟨p1, p2, p3⟩ := areD_parts hd
  have hl : (bare s).data.toList.length = (bare s).size := rfl
  have hb := dec_back ((bare s).size - 1) (bare s).data.toList (by rw [hl]; omega) p3 (fun h => by rw [hl]; exact p2 h)
  have hnn : 0 ≤ valL (bare s).data.toList := valD_nonneg _ _ p3
  rw [hv.1]
  cases hn : isNeg s
  · have h1 : bare s = s := by unfold bare; rw [hn]; rfl
    have h2 : sgn s = 1 := by unfold sgn; rw [hn]; rfl
    have hz : rdZ s = valL s.data.toList := by unfold rdZ; rw [h1, h2]; rfl
    rw [h1] at hb hnn
    left
    rw [hz]; unfold itoa
    rw [if_neg (by omega), hb]
  · have h2 : sgn s = 0 := by unfold sgn; rw [hn]; rfl
    have hz : rdZ s = -(valL (bare s).data.toList) := by unfold rdZ; rw [h2]; rfl
    have hbs : bare s = s.extract 1 s.size := by unfold bare; rw [hn]; rfl
    unfold isNeg at hn
    simp only [Bool.and_eq_true, decide_eq_true_eq] at hn
    have hs : s.data.toList = 45 :: (bare s).data.toList := by
      rw [hbs, Lib.extract_data]
      have hpos := hn.1
      have hv45 := hn.2
      have hb0 := byt_eq s 0 hpos
      rw [hv45] at hb0
      have hc : s[0]'hpos = 45 := UInt8.toNat_inj.1 (by have h45 : (45 : UInt8).toNat = 45 := rfl; omega)
      have hdr : s.data.toList = s[0]'hpos :: s.data.toList.drop 1 := by
        have := List.drop_eq_getElem_cons (l := s.data.toList) (i := 0) (by exact hpos)
        have h3 : s[0]'hpos = s.data[0]'hpos := rfl
        rw [h3]
        simpa using this
      rw [hc] at hdr
      have hlen : s.data.toList.length = s.size := rfl
      have ht : (s.data.toList.drop 1).take (s.size - 1) = s.data.toList.drop 1 := List.take_of_length_le (by simp [hlen])
      rw [ht]; exact hdr
    by_cases h0 : valL (bare s).data.toList = 0
    · right
      rw [hz, h0]
      have hb2 := hb
      rw [h0] at hb2
      rw [hs, ← hb2]
      refine ⟨?_, rfl⟩
      rw [show ((0 : Int).toNat) = 0 from rfl, decDigits, dif_pos (by decide)]; rfl
    · left
      rw [hz, hs]
      unfold itoa
      rw [if_pos (by omega)]
      congr 1
      rw [show (-(valL (bare s).data.toList)).natAbs = (valL (bare s).data.toList).toNat from by omega]
      exact hb
theorem read_range (s : ByteArray) (h : rdE s = 0) : -9223372036854775808 ≤ rdV s ∧ rdV s ≤ 9223372036854775807 := by
  have hd : areD (bare s) = true := by
    cases hh : areD (bare s)
    · unfold rdE at h; rw [hh] at h; simp at h
    · rfl
  unfold rdE at h
  rw [hd] at h
  simp only [if_true] at h
  unfold rdV; rw [hd]
  rcases fits_cases (rdZ s) with ⟨a, b, c, _⟩ | ⟨_, _, c⟩
  · simp only [if_true]
    rw [c]
    exact ⟨a, b⟩
  · rw [c] at h; omega
end Go.Proofs.YtmkkckhfdafjnaaGreatDoor.Nm
/- Layer 4: what is read of a text are texts (plain). -/
namespace Go.Proofs.YtmkkckhfdafjnaaGreatDoor
open Go.RowKit
/-- Bytes of code points. -/
def PtL (l : List Int) : Prop := ∃ ps : List Int, (∀ p ∈ ps, isPt p = true) ∧ l = ps.flatMap enc
theorem PtL.nil : PtL [] := ⟨[], by simp, rfl⟩
theorem PtL.app {a b : List Int} (h : PtL a) (k : PtL b) : PtL (a ++ b) := by
  obtain ⟨p, p1, rfl⟩ := h
  obtain ⟨q, q1, rfl⟩ := k
  exact ⟨p ++ q, fun x hx => (List.mem_append.1 hx).elim (p1 x) (q1 x), by rw [List.flatMap_append]⟩
theorem PtL.one {p : Int} (h : isPt p = true) : PtL (enc p) := ⟨[p], by simpa using h, by simp⟩
theorem PtL.low {b : Int} (h0 : 0 ≤ b) (h : b < 128) : PtL [b] := by
  rw [← enc_low b h]
  exact PtL.one (by unfold isPt; simp; omega)
theorem PtL.range {l : List Int} (h : PtL l) : ∀ y ∈ l, 0 ≤ y ∧ y < 256 := by
  obtain ⟨ps, h1, rfl⟩ := h
  intro y hy
  obtain ⟨p, hp, hy⟩ := List.mem_flatMap.1 hy
  have hr := isPt_range (h1 p hp)
  exact enc_range hr.1 hr.2 y hy
theorem at_getD {s : ByteArray} : ∀ {L : List Int} {i : Nat}, AtL s i L → ∀ k, k < L.length → byt s (i + k) = L.getD k 0
  | [], _, _, k, hk => by simp at hk
  | c :: r, i, h, k, hk => by
    cases k with
    | zero => exact h.2.1
    | succ k =>
      have := at_getD h.2.2 k (by simpa using hk)
      rw [show i + (k + 1) = i + 1 + k by omega]
      exact this
theorem tw_encs {s : ByteArray} : ∀ (ps : List Int) (i : Nat), (∀ p ∈ ps, isPt p = true) → AtL s i (ps.flatMap enc) → Tw s i (i + (ps.flatMap enc).length)
  | [], i, _, _ => .nil _
  | p :: r, i, hp, h => by
    have e : (p :: r).flatMap enc = enc p ++ r.flatMap enc := rfl
    rw [e, at_app] at h
    rw [e, List.length_append, ← Nat.add_assoc]
    have hl := at_le h.1
    obtain ⟨d1, d2, d3⟩ := dec_enc (hp p (by simp)) hl (at_getD h.1)
    have h1 := enc_len p
    refine .step (by omega) d1 ?_
    rw [d3]
    exact tw_encs r _ (fun q hq => hp q (by simp [hq])) h.2
theorem PtL.tx {l : List Int} (h : PtL l) : isTx (mkB l) = true := by
  have hb : bI (mkB l) = l := bI_mk h.range
  obtain ⟨ps, h1, rfl⟩ := h
  have ha := at_all (mkB (ps.flatMap enc))
  rw [hb] at ha
  have hw := tw_encs ps 0 h1 ha
  rw [Nat.zero_add, ← mkB_size] at hw
  exact Tw.tx hw rfl _ (by omega)
theorem Tw.le {s : ByteArray} {a b : Nat} (h : Tw s a b) : a ≤ b := by
  induction h with
  | nil => exact Nat.le_refl _
  | step h1 h2 _ ih => exact Nat.le_trans (Nat.le_add_right _ _) ih
theorem Tw.inv {s : ByteArray} {a b : Nat} (h : Tw s a b) (hne : a ≠ b) : a < s.size ∧ decIs s a = true ∧ Tw s (a + leadN (byt s a)) b := by
  cases h with
  | nil => exact absurd rfl hne
  | step h1 h2 h3 => exact ⟨h1, h2, h3⟩
/-- From a place to another one no byte but ASCII's. -/
structure Asc (s : ByteArray) (i j : Nat) : Prop where
  le : i ≤ j
  lt : ∀ k, i ≤ k → k < j → byt s k < 128
theorem Asc.refl (s : ByteArray) (i : Nat) : Asc s i i := ⟨Nat.le_refl _, fun k h1 h2 => by omega⟩
theorem Asc.trans {s : ByteArray} {i j k : Nat} (h : Asc s i j) (g : Asc s j k) : Asc s i k := ⟨Nat.le_trans h.le g.le, fun x h1 h2 => by
  by_cases e : x < j
  · exact h.lt x h1 e
  · exact g.lt x (by omega) h2⟩
theorem Asc.one {s : ByteArray} {i : Nat} (h : byt s i < 128) : Asc s i (i + 1) := ⟨by omega, fun k h1 h2 => by
  obtain rfl : k = i := by omega
  exact h⟩
theorem Tw.asc {s : ByteArray} {i j : Nat} (h : Tw s i s.size) (a : Asc s i j) (hj : j ≤ s.size) : Tw s j s.size := by
  obtain ⟨d, rfl⟩ : ∃ d, j = i + d := ⟨j - i, by have := a.le; omega⟩
  induction d generalizing i with
  | zero => exact h
  | succ d ih =>
    · obtain ⟨h1, h2, h3⟩ := h.inv (by omega)
      have hb := a.lt i (Nat.le_refl _) (by omega)
      rw [(asc_dec hb).2] at h3
      have := ih h3 ⟨by omega, fun k k1 k2 => a.lt k (by omega) (by omega)⟩ (by omega)
      rw [show i + (d + 1) = i + 1 + d by omega]
      exact this
theorem bl_asc (s : ByteArray) (i : Nat) : Asc s i (bl s i) := by
  have key : ∀ f i, s.size - i ≤ f → Asc s i (bl s i) := by
    intro f
    induction f with
    | zero =>
      intro i hf
      rw [bl_stop (by rw [byt_end (by omega)]; decide)]
      exact .refl _ _
    | succ f ih =>
      intro i hf
      cases hb : isBl (byt s i) with
      | false => rw [bl_stop hb]; exact .refl _ _
      | true =>
        rw [bl_step hb]
        refine Asc.trans (Asc.one ?_) (ih (i + 1) (by omega))
        unfold isBl at hb
        simp only [Bool.or_eq_true, decide_eq_true_eq] at hb
        omega
  exact key _ i (Nat.le_refl _)
theorem dg_ascii (s : ByteArray) (i : Nat) : Asc s i (dg s i) := by
  have key : ∀ f i, s.size - i ≤ f → Asc s i (dg s i) := by
    intro f
    induction f with
    | zero =>
      intro i hf
      rw [dg_stop (by rw [byt_end (by omega)]; decide)]
      exact .refl _ _
    | succ f ih =>
      intro i hf
      cases hb : isDg (byt s i) with
      | false => rw [dg_stop hb]; exact .refl _ _
      | true =>
        rw [dg_step hb]
        refine Asc.trans (Asc.one ?_) (ih (i + 1) (by omega))
        unfold isDg at hb
        simp only [Bool.and_eq_true, decide_eq_true_eq] at hb
        omega
  exact key _ i (Nat.le_refl _)
theorem word_asc {s : ByteArray} : ∀ {l : List Int} {i j : Nat}, (∀ c ∈ l, c < 128) → wordM s l i = .ok j → Asc s i j
  | [], i, j, _, e => by cases e; exact .refl _ _
  | c :: r, i, j, hc, e => by
    unfold wordM at e
    split at e
    · rename_i hb
      exact Asc.trans (Asc.one (by rw [hb]; exact hc c (by simp))) (word_asc (fun x hx => hc x (by simp [hx])) e)
    · cases e
theorem num_asc {s : ByteArray} {i d : Nat} {n : Int} (e : numM s i = .ok (n, d)) : Asc s i d := by
  unfold numM at e
  cases hb : intM s i with
  | bad m => rw [hb] at e; cases e
  | ok b =>
    rw [hb] at e
    simp only [Rs.bind_ok] at e
    have hde : expoM s (fracM s b) = d := by
      split at e
      · cases e; rfl
      · cases e
    have a1 : Asc s i b := by
      unfold intM at hb
      obtain ⟨a, ha⟩ : ∃ a, a = if byt s i = 45 then i + 1 else i := ⟨_, rfl⟩
      have ha1 : Asc s i a := by
        rw [ha]
        split
        · exact Asc.one (by omega)
        · exact .refl _ _
      simp only [← ha] at hb
      split at hb
      · cases hb; exact ha1.trans (Asc.one (by omega))
      · split at hb
        · cases hb
        · cases hb; exact ha1.trans (dg_ascii s a)
    have a2 : Asc s b (fracM s b) := by
      unfold fracM
      split
      · split
        · exact .refl _ _
        · exact (Asc.one (by omega)).trans (dg_ascii s (b + 1))
      · exact .refl _ _
    have a3 : Asc s (fracM s b) (expoM s (fracM s b)) := by
      obtain ⟨c, hc⟩ : ∃ c, c = fracM s b := ⟨_, rfl⟩
      rw [← hc]
      unfold expoM
      split
      · dsimp only
        obtain ⟨c5, hc5⟩ : ∃ c5, c5 = if byt s (c + 1) = 43 ∨ byt s (c + 1) = 45 then c + 2 else c + 1 := ⟨_, rfl⟩
        rw [← hc5]
        split
        · exact .refl _ _
        · have q : Asc s c c5 := by
            rw [hc5]
            split
            · exact (Asc.one (by omega)).trans (Asc.one (by omega))
            · exact Asc.one (by omega)
          exact q.trans (dg_ascii s c5)
      · exact .refl _ _
    rw [← hde]
    exact (a1.trans a2).trans a3
theorem hex_asc {b : Int} (h : ¬ hexV b < 0) : b < 128 := by
  unfold hexV at h
  (repeat' split at h) <;> omega
theorem four_asc {s : ByteArray} : ∀ {k i : Nat} {n : Int} {x : Int × Nat}, fourF s k i n = .ok x → Asc s i x.2
  | 0, i, n, x, e => by cases e; exact .refl _ _
  | k + 1, i, n, x, e => by
    unfold fourF at e
    split at e
    · cases e
    · rename_i hh
      exact (Asc.one (hex_asc hh)).trans (four_asc e)
theorem point_asc {s : ByteArray} {i : Nat} {x : Int × Nat} (e : pointM s i = .ok x) : Asc s i x.2 ∧ isPt x.1 = true := by
  unfold pointM at e
  cases h1 : fourF s 4 i 0 with
  | bad m => rw [h1] at e; cases e
  | ok y =>
    rw [h1] at e
    have a1 := four_asc h1
    simp only [Rs.bind_ok] at e
    split at e
    · rename_i hh
      cases h2 : wordM s [92, 117] y.2 with
      | bad m => rw [h2] at e; cases e
      | ok j =>
        rw [h2] at e
        have a2 := word_asc (by decide) h2
        simp only [Rs.bind_ok] at e
        cases h3 : fourF s 4 j 0 with
        | bad m => rw [h3] at e; cases e
        | ok z =>
          rw [h3] at e
          have a3 := four_asc h3
          simp only [Rs.bind_ok] at e
          split at e
          · cases e
          · cases e
            refine ⟨(a1.trans a2).trans a3, ?_⟩
            unfold isPt
            simp
            omega
    · split at e
      · cases e
        exact ⟨a1, by assumption⟩
      · cases e
theorem esc_pt {s : ByteArray} {i j : Nat} {m : List Int} (e : escM s i = .ok (m, j)) : Asc s i j ∧ PtL m := by
  have hr := byt_range s i
  unfold escM at e
  dsimp only at e
  split at e
  · cases e
    exact ⟨Asc.one (by omega), PtL.low hr.1 (by omega)⟩
  split at e
  · cases e
    exact ⟨Asc.one (by omega), PtL.low (by decide) (by decide)⟩
  split at e
  · cases e
    exact ⟨Asc.one (by omega), PtL.low (by decide) (by decide)⟩
  split at e
  · cases e
    exact ⟨Asc.one (by omega), PtL.low (by decide) (by decide)⟩
  split at e
  · cases e
    exact ⟨Asc.one (by omega), PtL.low (by decide) (by decide)⟩
  split at e
  · cases e
    exact ⟨Asc.one (by omega), PtL.low (by decide) (by decide)⟩
  split at e
  · cases hp : pointM s (i + 1) with
    | bad m' => rw [hp] at e; cases e
    | ok x =>
      rw [hp] at e
      obtain ⟨p1, p2⟩ := point_asc hp
      simp only [Rs.bind_ok] at e
      cases e
      exact ⟨(Asc.one (by omega)).trans p1, PtL.one p2⟩
  · cases e
/-- Raw bytes from 128 on are taken as they are. -/
theorem strF_raw {s : ByteArray} : ∀ (z f j : Nat) (l : List Int) (x : List Int × Nat), (∀ k, k < z → 128 ≤ byt s (j + k)) → strF s f j l = .ok x → ∃ f', f' + z = f ∧ strF s f' (j + z) (l ++ (List.range z).map fun k => byt s (j + k)) = .ok x
  | 0, f, j, l, x, _, e => ⟨f, rfl, by simpa using e⟩
  | z + 1, f, j, l, x, h, e => by
    cases f with
    | zero => cases e
    | succ f =>
      have h0 := h 0 (by omega)
      rw [Nat.add_zero] at h0
      rw [strF, if_neg (by omega), if_neg (by omega), if_neg (by omega)] at e
      obtain ⟨f', h1, h2⟩ := strF_raw z f (j + 1) _ x (fun k hk => by have := h (k + 1) (by omega); rw [show j + 1 + k = j + (k + 1) by omega]; exact this) e
      refine ⟨f', by omega, ?_⟩
      rw [show j + (z + 1) = j + 1 + z by omega, List.range_succ_eq_map, List.map_cons, List.map_map]
      rw [List.append_assoc] at h2
      have e3 : ((fun k => byt s (j + k)) ∘ Nat.succ) = fun k => byt s (j + 1 + k) := by
        funext k
        show byt s (j + (k + 1)) = byt s (j + 1 + k)
        rw [show j + (k + 1) = j + 1 + k by omega]
      rw [e3]
      exact h2
theorem map_range_eq {s : ByteArray} {a : Nat} {L : List Int} (h : ∀ k, k < L.length → byt s (a + k) = L.getD k 0) : ((List.range L.length).map fun k => byt s (a + k)) = L := by
  apply List.ext_getElem?
  intro k
  rw [List.getElem?_map]
  by_cases hk : k < L.length
  · rw [List.getElem?_range hk, Option.map_some, h k hk, List.getD_eq_getElem?_getD, List.getElem?_eq_getElem hk]; rfl
  · rw [List.getElem?_eq_none (by simpa using hk), List.getElem?_eq_none (by omega)]; rfl
theorem strF_pt {s : ByteArray} : ∀ (n f j : Nat) (l : List Int) (x : List Int × Nat), f ≤ n → Tw s j s.size → PtL l → strF s f j l = .ok x → PtL x.1 ∧ Tw s x.2 s.size
  | 0, f, j, l, x, hn, _, _, e => by
    obtain rfl : f = 0 := by omega
    cases e
  | n + 1, f, j, l, x, hn, hw, hl, e => by
    cases f with
    | zero => cases e
    | succ f =>
      have hj : j < s.size := by
        by_cases k : j < s.size
        · exact k
        · rw [strF, byt_end (by omega)] at e
          cases e
      obtain ⟨_, hd, hw2⟩ := hw.inv (by omega)
      by_cases hb : byt s j < 128
      · rw [(asc_dec hb).2] at hw2
        rw [strF] at e
        split at e
        · cases e
          exact ⟨hl, hw2⟩
        split at e
        · cases he : escM s (j + 1) with
          | bad m => rw [he] at e; cases e
          | ok y =>
            obtain ⟨m, j'⟩ := y
            rw [he] at e
            obtain ⟨a1, a2⟩ := esc_pt he
            exact strF_pt n f j' _ x (by omega) (hw2.asc a1 (escM_ok he).2.1) (hl.app a2) e
        split at e
        · cases e
        · exact strF_pt n f (j + 1) _ x (by omega) hw2 (hl.app (PtL.low (byt_range s j).1 hb)) e
      · have h1 := (decIs_lead hd).1
        have hcb := conts_byt _ (decIs_lead hd).2
        obtain ⟨f', e1, e2⟩ := strF_raw (leadN (byt s j)) (f + 1) j l x (fun k hk => by
          cases k with
          | zero => rw [Nat.add_zero]; omega
          | succ k =>
            have := hcb k (by omega)
            rw [show j + (k + 1) = j + 1 + k by omega]
            exact this) e
        obtain ⟨q1, q2⟩ := enc_dec hd
        rw [← q1] at q2
        have hm := map_range_eq q2
        rw [q1] at hm
        rw [hm] at e2
        have hpt : isPt (decP s j) = true := by
          have hdd := hd
          unfold decIs at hdd
          simp only [Bool.and_eq_true] at hdd
          unfold decP
          rw [hd]
          exact hdd.1.2
        exact strF_pt n f' _ _ x (by omega) hw2 (hl.app (PtL.one hpt)) e2
theorem strM_pt {s : ByteArray} {i : Nat} {x : List Int × Nat} (hw : Tw s i s.size) (e : strM s i = .ok x) : PtL x.1 ∧ Tw s x.2 s.size := by
  have hi := str_here e
  unfold strM at e
  cases h1 : wordM s [34] i with
  | bad m => rw [h1] at e; cases e
  | ok j =>
    rw [h1] at e
    obtain ⟨w1, rfl⟩ := word1 h1
    exact strF_pt _ _ _ _ _ (Nat.le_refl _) (hw.asc (Asc.one (by omega)) (by omega)) PtL.nil e
end Go.Proofs.YtmkkckhfdafjnaaGreatDoor

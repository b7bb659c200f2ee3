import Derived.Test.YtfphejndbnmfeaaDoorD7
import Derived.Deep.QuietTactic
import Derived.Deep.DeepCutAuto
namespace Go.Proofs.YtfphejndbnmfeaaDoor
open Go.RowKit

/-- The reader lies in a block of its own: its text, how far it has come, and whether it is bad. -/
def R (w : World) (B : Nat) (s : ByteArray) (p : Nat) (b : Bool) : Prop :=
  w.cell? ⟨B, 0, none⟩ = some (.string s) ∧ w.cell? ⟨B, 1, none⟩ = some (.int .i64 p) ∧ w.cell? ⟨B, 2, none⟩ = some (.bool b) ∧ w.frozen? ⟨B, 1, none⟩ = false ∧ w.frozen? ⟨B, 2, none⟩ = false ∧ B < w.heap.size
theorem R.drewN {w : World} {B : Nat} {s : ByteArray} {p : Nat} {b : Bool} (h : R w B s p b) : ∀ n, R (w.drewN n) B s p b
  | 0 => h
  | n + 1 => (R.drewN h n : R (w.drewN n) B s p b)
theorem R.setp {w : World} {B : Nat} {s : ByteArray} {p : Nat} {b : Bool} (h : R w B s p b) (q : Nat) : R (w.setCell ⟨B, 1, none⟩ (.int .i64 q)) B s q b := by
  obtain ⟨h0, h1, h2, f1, f2, hz⟩ := h
  refine ⟨(World.cell?_setCell_other _ _ _ _ (by simp)).trans h0, World.cell?_setCell_same _ _ _ h1, (World.cell?_setCell_other _ _ _ _ (by simp)).trans h2, (World.frozen?_setCell _ _ _ _).trans f1, (World.frozen?_setCell _ _ _ _).trans f2, ?_⟩
  simpa [World.setCell] using hz
theorem R.setb {w : World} {B : Nat} {s : ByteArray} {p : Nat} {b : Bool} (h : R w B s p b) : R (w.setCell ⟨B, 2, none⟩ (.bool true)) B s p true := by
  obtain ⟨h0, h1, h2, f1, f2, hz⟩ := h
  refine ⟨(World.cell?_setCell_other _ _ _ _ (by simp)).trans h0, (World.cell?_setCell_other _ _ _ _ (by simp)).trans h1, World.cell?_setCell_same _ _ _ h2, (World.frozen?_setCell _ _ _ _).trans f1, (World.frozen?_setCell _ _ _ _).trans f2, ?_⟩
  simpa [World.setCell] using hz
theorem below_dr {B : Nat} {w w1 : World} (h : Below B w w1) (n : Nat) : Below B w (w1.drewN n) := by
  induction n with
  | zero => exact h
  | succ n ih => exact ih.drew
theorem ru8 {a b : Int} (h : a = b) : Ending.returned (.int .u8 a) = .returned (.int .u8 b) := by rw [h]
theorem peek_any (B : Nat) (s : ByteArray) (p : Nat) (b : Bool) (w : World) (hR : R w B s p b) (hs : s.size ≤ maxLen) (hp : p ≤ s.size) :
    Calls Tryd.prog 62 #[.pointer (some ⟨B, 0, none⟩)] w fun e w' => e = .returned (.int .u8 (bt s p)) ∧ R w' B s p b ∧ Below B w w' := by
  have HR := Lib.hid hR
  obtain ⟨h0, h1, -, -, -, -⟩ := hR
  unfold maxLen at hs
  clear hs
  by_cases hlt : p < s.size
  · have HB := Lib.hid (bt_eq s p hlt)
    have hlt' : (p : Int) < s.size := by omega
    obtain ⟨x, hx⟩ : ∃ x : Int, x = bt s p := ⟨_, rfl⟩
    have hix : ∀ h : p < s.size, (s[p].toNat : Int) = x := fun h => (bt_eq s p h).trans hx.symm
    rw [← hx]
    clear hx hp
    go_enter Tryd.func62, Tryd.ntmps62
    go_wp2_with fail
    go_quiet (fail)
    go_wp2_with fail
    go_quiet (fail)
    go_wp2_with fail
    go_ret
    exact ⟨rfl, (by first | exact HR.out.drewN _ | exact (HR.out.drewN _).drewN _), (by first | exact below_dr (Below.refl _ _) _ | exact below_dr (below_dr (Below.refl _ _) _) _)⟩
  · have HB : Hid (bt s p = 0) := Lib.hid (bt_out s p hlt)
    have hlt' : ¬ (p : Int) < s.size := by omega
    have hd : decide (p < s.size) = false := by simpa using hlt
    clear hp
    go_enter Tryd.func62, Tryd.ntmps62
    go_wp2_with fail
    go_quiet (fail)
    go_wp2_with fail
    go_ret
    exact ⟨ru8 HB.out.symm, (by first | exact HR.out.drewN _ | exact (HR.out.drewN _).drewN _), (by first | exact below_dr (Below.refl _ _) _ | exact below_dr (below_dr (Below.refl _ _) _) _)⟩
theorem isDigit_any (B : Nat) (s : ByteArray) (p : Nat) (b : Bool) (w : World) (hR : R w B s p b) (hs : s.size ≤ maxLen) (hp : p ≤ s.size) :
    Calls Tryd.prog 64 #[.pointer (some ⟨B, 0, none⟩)] w fun e w' => e = .returned (.bool (isDg (bt s p))) ∧ R w' B s p b ∧ Below B w w' := by
  have HP := Lib.hid (fun W hW => peek_any B s p b W hW hs hp)
  have HR := Lib.hid hR
  have hd : isDg (bt s p) = decide (48 ≤ bt s p ∧ bt s p ≤ 57) := rfl
  obtain ⟨x, hx⟩ : ∃ x : Int, x = bt s p := ⟨_, rfl⟩
  rw [← hx] at HP hd ⊢
  have hb : (0 : Int) ≤ x ∧ x < 256 := by rw [hx]; exact bt_range s p
  obtain ⟨hb1, hb2⟩ := hb
  clear hR hx
  by_cases h1 : 48 ≤ x
  · by_cases h2 : x ≤ 57
    · have HD : Hid (isDg x = true) := Lib.hid (by rw [hd]; exact decide_eq_true ⟨h1, h2⟩)
      clear hd
      go_enter Tryd.func64, Tryd.ntmps64
      go_wp2_with fail
      refine (HP.out _ HR.out).mono ?_
      rintro e w1 ⟨rfl, r1, b1⟩
      have R1 := Lib.hid r1
      have B1 := Lib.hid b1
      clear r1 b1
      go_wp2_with fail
      refine (HP.out _ R1.out).mono ?_
      rintro e w2 ⟨rfl, r2, b2⟩
      have R2 := Lib.hid r2
      have B2 := Lib.hid (B1.out.trans b2)
      clear r2 b2
      go_wp2_with fail
      go_ret
      exact ⟨rbool HD.out.symm, R2.out, B2.out⟩
    · have HD : Hid (isDg x = false) := Lib.hid (by rw [hd]; exact decide_eq_false (fun h => h2 h.2))
      have h2' : decide (x ≤ 57) = false := by simpa using h2
      clear hd
      go_enter Tryd.func64, Tryd.ntmps64
      go_wp2_with fail
      refine (HP.out _ HR.out).mono ?_
      rintro e w1 ⟨rfl, r1, b1⟩
      have R1 := Lib.hid r1
      have B1 := Lib.hid b1
      clear r1 b1
      go_wp2_with fail
      refine (HP.out _ R1.out).mono ?_
      rintro e w2 ⟨rfl, r2, b2⟩
      have R2 := Lib.hid r2
      have B2 := Lib.hid (B1.out.trans b2)
      clear r2 b2
      go_wp2_with fail
      go_ret
      exact ⟨rbool HD.out.symm, R2.out, B2.out⟩
  · have HD : Hid (isDg x = false) := Lib.hid (by rw [hd]; exact decide_eq_false (fun h => h1 h.1))
    clear hd
    go_enter Tryd.func64, Tryd.ntmps64
    go_wp2_with fail
    refine (HP.out _ HR.out).mono ?_
    rintro e w1 ⟨rfl, r1, b1⟩
    have R1 := Lib.hid r1
    have B1 := Lib.hid b1
    clear r1 b1
    go_wp2_with fail
    go_ret
    exact ⟨rbool HD.out.symm, R1.out, B1.out⟩
/-- What a number that is taken leaves behind. -/
def NumPost (B : Nat) (s : ByteArray) (p k lo hi : Nat) (b : Bool) (w : World) (e : Ending) (w' : World) : Prop :=
  ∃ v p' : Nat, e = .returned (.int .i64 v) ∧ lo ≤ v ∧ v ≤ hi ∧ p' ≤ s.size ∧ R w' B s p' (b || !okN s p k lo hi) ∧ (okN s p k lo hi = true → p' = p + k ∧ v = numv s p k) ∧ Below B w w'
theorem digs_mono {s : ByteArray} {p k i : Nat} (h : digs s p k = true) (hi : i ≤ k) : digs s p i = true := by
  induction k with
  | zero => obtain rfl : i = 0 := by omega
            rfl
  | succ k ih =>
    by_cases e : i = k + 1
    · rw [e]; exact h
    · simp only [digs, Bool.and_eq_true] at h
      exact ih h.1 (by omega)
theorem numv_bound {s : ByteArray} {p k : Nat} (h : digs s p k = true) (hk : k ≤ 9) : numv s p k < 1000000000 := by
  have := numv_lt s p k h
  have : 10 ^ k ≤ 10 ^ 9 := Nat.pow_le_pow_right (by decide) hk
  omega
set_option maxRecDepth 10000 in
theorem number_any (B : Nat) (s : ByteArray) (p k lo hi : Nat) (b : Bool) (w : World) (hR : R w B s p b) (hs : s.size ≤ maxLen) (hp : p ≤ s.size) (hk : k ≤ 9) (hlo : lo ≤ hi) (hhi : hi ≤ 1000000000) :
    Calls Tryd.prog 60 #[.pointer (some ⟨B, 0, none⟩), .int .i64 k, .int .i64 lo, .int .i64 hi] w (NumPost B s p k lo hi b w) := by
  have HS := Lib.hid hs
  have HR := Lib.hid hR
  have hs2 := hs
  unfold maxLen at hs2
  clear hR hs
  go_enter Tryd.func60, Tryd.ntmps60
  go_wp2_with fail
  go_loopg [9, 11] k (fun f nv iv wr => ∃ i : Nat, f + i = k ∧ nv = .int .i64 (numv s p i : Nat) ∧ iv = .int .i64 i ∧ digs s p i = true ∧ p + i ≤ s.size ∧ R wr B s (p + i) b ∧ Below B w wr)
  case atStart => exact ⟨0, by omega, rfl, rfl, rfl, hp, HR.out, Below.refl _ _⟩
  case round =>
    obtain ⟨i, hf, rfl, rfl, hd, hpi, hr, hbl⟩ := hrel
    have HF := Lib.hid hf
    have HD := Lib.hid hd
    have HRI := Lib.hid hr
    have HB := Lib.hid hbl
    have hnb := numv_bound hd (by omega)
    obtain ⟨n, hn⟩ : ∃ n, n = numv s p i := ⟨_, rfl⟩
    have HN := Lib.hid hn
    rw [← hn] at hnb ⊢
    clear hf hd hr hbl hn
    cases gk with
    | zero =>
      obtain rfl : i = k := by have := HF.out; omega
      have HNX : Hid (numv s p i = n) := Lib.hid HN.out.symm
      obtain ⟨h0, h1, h2, f1, f2, hz⟩ := HRI.out
      by_cases hl : n < lo
      · have HO : Hid (okN s p i lo hi = false) := Lib.hid (by unfold okN; rw [HD.out, HNX.out, decide_eq_false (by omega)]; rfl)
        have g1 : (n : Int) < lo := by omega
        clear hl
        go_wp2_with fail
        go_ret
        exact ⟨lo, p + i, rfl, Nat.le_refl _, hlo, hpi, by rw [HO.out, Bool.not_false, Bool.or_true]; exact HRI.out.setb, fun h => absurd h (by rw [HO.out]; simp), HB.out.setCell (Nat.le_refl _) _⟩
      · have g1 : decide (n < lo) = false := by simp; omega
        by_cases hh : hi < n
        · have HO : Hid (okN s p i lo hi = false) := Lib.hid (by unfold okN; rw [HD.out, HNX.out, decide_eq_false (by omega)]; rfl)
          have g2 : (hi : Int) < n := by omega
          have g3 : decide (hi < n) = true := by simp; omega
          clear hl hh
          go_wp2_with fail
          go_ret
          exact ⟨lo, p + i, rfl, Nat.le_refl _, hlo, hpi, by rw [HO.out, Bool.not_false, Bool.or_true]; exact HRI.out.setb, fun h => absurd h (by rw [HO.out]; simp), HB.out.setCell (Nat.le_refl _) _⟩
        · have HO : Hid (okN s p i lo hi = true) := Lib.hid (by unfold okN; rw [HD.out, HNX.out, decide_eq_true (by omega)]; rfl)
          have g3 : decide (hi < n) = false := by simp; omega
          have HL : Hid (lo ≤ n ∧ n ≤ hi) := Lib.hid (by omega)
          clear hl hh
          go_wp2_with fail
          go_ret
          exact ⟨n, p + i, rfl, HL.out.1, HL.out.2, hpi, by rw [HO.out, Bool.not_true, Bool.or_false]; exact HRI.out, fun _ => ⟨rfl, HN.out⟩, HB.out⟩
    | succ g =>
      have hik : i < k := by have := HF.out; omega
      have hik' : (i : Int) < k := by omega
      have HI := Lib.hid (fun W hW => isDigit_any B s (p + i) b W hW HS.out hpi)
      cases hdg : isDg (bt s (p + i)) with
      | false =>
        rw [hdg] at HI
        have HO : Hid (okN s p k lo hi = false) := Lib.hid (by
          unfold okN
          cases h : digs s p k with
          | false => rfl
          | true =>
            have := digs_mono h (show i + 1 ≤ k by omega)
            simp only [digs, hdg, Bool.and_false] at this
            cases this)
        clear hdg
        go_wp2_with fail
        refine (HI.out _ HRI.out).mono ?_
        rintro e w1 ⟨rfl, r1, b1⟩
        have R1 := Lib.hid r1
        have B1 := Lib.hid (HB.out.trans b1)
        obtain ⟨h0, h1, h2, f1, f2, hz⟩ := r1
        clear b1
        go_wp2_with fail
        go_ret
        exact ⟨lo, p + i, rfl, Nat.le_refl _, hlo, hpi, by rw [HO.out, Bool.not_false, Bool.or_true]; exact R1.out.setb, fun h => absurd h (by rw [HO.out]; simp), B1.out.setCell (Nat.le_refl _) _⟩
      | true =>
        rw [hdg] at HI
        have hc : 48 ≤ bt s (p + i) ∧ bt s (p + i) ≤ 57 := by simpa [isDg] using hdg
        have hlt : p + i < s.size := bt_in s (p + i) (by omega)
        obtain ⟨q, hq⟩ : ∃ q : Nat, bt s (p + i) = 48 + (q : Int) := ⟨(bt s (p + i) - 48).toNat, by omega⟩
        have hq9 : q ≤ 9 := by omega
        have HP := Lib.hid (fun W hW => peek_any B s (p + i) b W hW HS.out hpi)
        rw [hq] at HP
        have HNQ : Hid (numv s p (i + 1) = 10 * n + q) := Lib.hid (by
          show 10 * numv s p i + (bt s (p + i) - 48).toNat = _
          rw [← HN.out, hq]; omega)
        have HDQ : Hid (digs s p (i + 1) = true) := Lib.hid (by simp only [digs, HD.out, hdg]; rfl)
        clear hdg hc hq
        go_wp2_with fail
        refine (HI.out _ HRI.out).mono ?_
        rintro e w1 ⟨rfl, r1, b1⟩
        have R1 := Lib.hid r1
        have B1 := Lib.hid (HB.out.trans b1)
        clear r1 b1
        go_wp2_with fail
        refine (HP.out _ R1.out).mono ?_
        rintro e w2 ⟨rfl, r2, b2⟩
        have R2 := Lib.hid r2
        have B2 := Lib.hid (B1.out.trans b2)
        obtain ⟨h0, h1, h2, f1, f2, hz⟩ := r2
        clear b2
        go_wp2_with fail
        go_roundg g
        case rel => exact ⟨i + 1, by have := HF.out; omega, by rw [HNQ.out]; go_num, by go_num, HDQ.out, by omega, R2.out.setp (p + (i + 1)), B2.out.setCell (Nat.le_refl _) _⟩
        case measure => omega
end Go.Proofs.YtfphejndbnmfeaaDoor

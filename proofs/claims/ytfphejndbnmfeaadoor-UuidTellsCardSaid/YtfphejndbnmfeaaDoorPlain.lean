/- Plain facts for layer 13: UUIDs and their texts. No program in sight. -/
import Derived.WalkKit
namespace Go.Proofs.YtfphejndbnmfeaaDoor
open Go.RowKit

/-- The byte at a place; 0 behind the end. -/
def byt (s : ByteArray) (i : Nat) : Int := if h : i < s.size then (s[i].toNat : Int) else 0
theorem byt_range (s : ByteArray) (i : Nat) : 0 ≤ byt s i ∧ byt s i < 256 := by
  unfold byt; split
  · have := UInt8.toNat_lt s[i]; omega
  · omega
theorem byt_eq (s : ByteArray) (i : Nat) (h : i < s.size) : (s[i].toNat : Int) = byt s i := by simp [byt, h]
def mkB (L : List Int) : ByteArray := ⟨(L.map (fun x => UInt8.ofNat x.toNat)).toArray⟩
theorem mkB_size (L : List Int) : (mkB L).size = L.length := by simp [mkB, ByteArray.size]
theorem mkB_byt (L : List Int) (i : Nat) (h : i < L.length) (hr : 0 ≤ L.getD i 0 ∧ L.getD i 0 < 256) : byt (mkB L) i = L.getD i 0 := by
  have hs : i < (mkB L).size := by rw [mkB_size]; exact h
  unfold byt
  rw [dif_pos hs]
  simp only [List.getD, List.getElem?_eq_getElem h, Option.getD_some] at hr ⊢
  have e : (mkB L)[i] = UInt8.ofNat (L[i]).toNat := by simp [mkB, ByteArray.getElem_eq_getElem_data]
  rw [e, UInt8.toNat_ofNat']; omega
theorem byt_ext {s t : ByteArray} (hs : s.size = t.size) (h : ∀ i, i < s.size → byt s i = byt t i) : s = t := by
  apply ByteArray.ext
  apply Array.ext
  · exact hs
  · intro i h1 h2
    have h1' : i < s.size := h1
    have h2' : i < t.size := h2
    have := h i h1'
    unfold byt at this
    rw [dif_pos h1', dif_pos h2'] at this
    have e : s[i].toNat = t[i].toNat := by omega
    exact UInt8.toNat_inj.1 e

/-- What a digit tells. -/
def hx (b : Int) : Int := if 48 ≤ b ∧ b ≤ 57 then b - 48 else if 97 ≤ b ∧ b ≤ 102 then b - 97 + 10 else if 65 ≤ b ∧ b ≤ 70 then b - 65 + 10 else -1
def dg (n : Int) : Int := if n < 10 then 48 + n else 87 + n
theorem hx_range (b : Int) : -1 ≤ hx b ∧ hx b < 16 := by unfold hx; (repeat' split) <;> omega
theorem hx_dg {n : Int} (h0 : 0 ≤ n) (h1 : n < 16) : hx (dg n) = n := by unfold hx dg; (repeat' split) <;> omega
theorem dg_hx {b : Int} (h : 0 ≤ hx b) : dg (hx b) = b ∨ (65 ≤ b ∧ b ≤ 70 ∧ dg (hx b) = b + 32) := by
  unfold hx at h ⊢; unfold dg; (repeat' split at h) <;> (repeat' split) <;> omega
theorem dg_range {n : Int} (h0 : 0 ≤ n) (h1 : n < 16) : 48 ≤ dg n ∧ dg n < 103 := by unfold dg; split <;> omega
theorem dg_lt {m n : Int} (h0 : 0 ≤ m) (h1 : n < 16) (h : m < n) : dg m < dg n := by unfold dg; (repeat' split) <;> omega

/-- Does a mark stand at a place of a text? -/
def mk (k : Nat) : Bool := k == 8 || k == 13 || k == 18 || k == 23
/-- How many digits stand ahead of a place. -/
def half : Nat → Nat
  | 0 => 0
  | k + 1 => if mk k then half k else half k + 1
theorem half_lt : ∀ k, k < 36 → mk k = false → half k < 32 := by decide
theorem half_le : ∀ k, k < 37 → half k ≤ 32 := by decide
def okTo (s : ByteArray) : Nat → Bool
  | 0 => true
  | k + 1 => okTo s k && (if mk k then byt s k == 45 else decide (0 ≤ hx (byt s k)))
theorem okTo_le {s : ByteArray} {j k : Nat} (hjk : j ≤ k) (h : okTo s k = true) : okTo s j = true := by
  induction k with
  | zero => obtain rfl : j = 0 := by omega
            exact h
  | succ k ih =>
    by_cases e : j = k + 1
    · subst e; exact h
    · simp only [okTo, Bool.and_eq_true] at h
      exact ih (by omega) h.1
/-- The bytes, as far as they are told by the first k bytes of a text. -/
def arr (s : ByteArray) : Nat → List Int
  | 0 => [0, 0, 0, 0, 0, 0, 0, 0, 0, 0, 0, 0, 0, 0, 0, 0]
  | k + 1 => if mk k then arr s k else (arr s k).set (half k / 2) ((arr s k).getD (half k / 2) 0 * 16 % 256 + hx (byt s k))
theorem arr_length (s : ByteArray) : ∀ k, (arr s k).length = 16
  | 0 => rfl
  | k + 1 => by
    simp only [arr]
    split
    · exact arr_length s k
    · rw [List.length_set]; exact arr_length s k
/-- The place of a byte's first digit. -/
def mr (i : Nat) : Bool := i == 3 || i == 5 || i == 7 || i == 9
def pos : Nat → Nat
  | 0 => 0
  | i + 1 => if mr i then pos i + 2 + 1 else pos i + 2
theorem pos_le : ∀ i, i < 16 → pos i ≤ 34 := by decide
theorem pos_le2 : ∀ i, i < 16 → mr i = true → pos i ≤ 21 := by decide
theorem pos_all : ∀ k, k < 36 → mk k = true ∨ ∃ i, i < 16 ∧ (k = pos i ∨ k = pos i + 1) := by decide
def vb (s : ByteArray) (i : Nat) : Int := 16 * hx (byt s (pos i)) + hx (byt s (pos i + 1))
def upV (s : ByteArray) : List Int := [vb s 0, vb s 1, vb s 2, vb s 3, vb s 4, vb s 5, vb s 6, vb s 7, vb s 8, vb s 9, vb s 10, vb s 11, vb s 12, vb s 13, vb s 14, vb s 15]
def okS (s : ByteArray) : Bool := decide (s.size = 36) && okTo s 36
def z16 : List Int := [0, 0, 0, 0, 0, 0, 0, 0, 0, 0, 0, 0, 0, 0, 0, 0]
/-- What a text tells. -/
def upL (s : ByteArray) : List Int := if okS s then upV s else z16
def upE (s : ByteArray) : Int := if okS s then 0 else 130
theorem okTo_at {s : ByteArray} {k : Nat} (h : okTo s 36 = true) (hk : k < 36) : if mk k then byt s k = 45 else 0 ≤ hx (byt s k) := by
  have := okTo_le (show k + 1 ≤ 36 by omega) h
  simp only [okTo, Bool.and_eq_true] at this
  have h2 := this.2
  split at h2
  · rename_i hm; rw [if_pos hm]; simpa using h2
  · rename_i hm; rw [if_neg hm]; simpa using h2
theorem ok_digit {s : ByteArray} {k : Nat} (h : okTo s 36 = true) (hk : k < 36) (hm : mk k = false) : 0 ≤ hx (byt s k) ∧ hx (byt s k) < 16 := by
  have := okTo_at h hk
  rw [hm] at this
  exact ⟨by simpa using this, (hx_range _).2⟩
theorem two_digits {a b : Int} (h0 : 0 ≤ a ∧ a < 16) (h1 : 0 ≤ b ∧ b < 16) : ((0 : Int) * 16 % 256 + a) * 16 % 256 + b = 16 * a + b := by omega
theorem arr_all {s : ByteArray} (h : okTo s 36 = true) : arr s 36 = upV s := by
  have d := fun k hk hm => ok_digit (k := k) h hk hm
  have e : ∀ k, arr s (k + 1) = if mk k then arr s k else (arr s k).set (half k / 2) ((arr s k).getD (half k / 2) 0 * 16 % 256 + hx (byt s k)) := fun _ => rfl
  have two := fun k l (hk : k < 36) (hm : mk k = false) (hl : l < 36) (hm2 : mk l = false) => two_digits (d k hk hm) (d l hl hm2)
  have a0 : arr s 0 = [0, 0, 0, 0, 0, 0, 0, 0, 0, 0, 0, 0, 0, 0, 0, 0] := rfl
  have st : ∀ (k i : Nat) (L : List Int), arr s k = L → mk k = false → mk (k + 1) = false → k + 1 < 36 → half k / 2 = i → half (k + 1) / 2 = i → i < L.length → L.getD i 0 = 0 →
      arr s (k + 2) = L.set i (16 * hx (byt s k) + hx (byt s (k + 1))) := by
    intro k i L hL m1 m2 hk h1 h2 hi h0
    rw [e (k + 1), if_neg (by simp [m2]), e k, if_neg (by simp [m1]), hL, h1, h2, List.set_set, h0]
    congr 1
    have : (L.set i (0 * 16 % 256 + hx (byt s k))).getD i 0 = 0 * 16 % 256 + hx (byt s k) := by simp [List.getD, hi]
    rw [this]
    exact two k (k + 1) (by omega) m1 hk m2
  have sm : ∀ (k : Nat) (L : List Int), arr s k = L → mk k = true → arr s (k + 1) = L := by
    intro k L hL m; rw [e k, if_pos m]; exact hL
  have x1 := st 0 0 _ a0 rfl rfl (by decide) (by kernel_rfl) (by kernel_rfl) (by simp) (by kernel_rfl)
  have x2 := st 2 1 _ x1 rfl rfl (by decide) (by kernel_rfl) (by kernel_rfl) (by simp) (by kernel_rfl)
  have x3 := st 4 2 _ x2 rfl rfl (by decide) (by kernel_rfl) (by kernel_rfl) (by simp) (by kernel_rfl)
  have x4 := st 6 3 _ x3 rfl rfl (by decide) (by kernel_rfl) (by kernel_rfl) (by simp) (by kernel_rfl)
  have y4 := sm 8 _ x4 rfl
  have x5 := st 9 4 _ y4 rfl rfl (by decide) (by kernel_rfl) (by kernel_rfl) (by simp) (by kernel_rfl)
  have x6 := st 11 5 _ x5 rfl rfl (by decide) (by kernel_rfl) (by kernel_rfl) (by simp) (by kernel_rfl)
  have y6 := sm 13 _ x6 rfl
  have x7 := st 14 6 _ y6 rfl rfl (by decide) (by kernel_rfl) (by kernel_rfl) (by simp) (by kernel_rfl)
  have x8 := st 16 7 _ x7 rfl rfl (by decide) (by kernel_rfl) (by kernel_rfl) (by simp) (by kernel_rfl)
  have y8 := sm 18 _ x8 rfl
  have x9 := st 19 8 _ y8 rfl rfl (by decide) (by kernel_rfl) (by kernel_rfl) (by simp) (by kernel_rfl)
  have x10 := st 21 9 _ x9 rfl rfl (by decide) (by kernel_rfl) (by kernel_rfl) (by simp) (by kernel_rfl)
  have y10 := sm 23 _ x10 rfl
  have x11 := st 24 10 _ y10 rfl rfl (by decide) (by kernel_rfl) (by kernel_rfl) (by simp) (by kernel_rfl)
  have x12 := st 26 11 _ x11 rfl rfl (by decide) (by kernel_rfl) (by kernel_rfl) (by simp) (by kernel_rfl)
  have x13 := st 28 12 _ x12 rfl rfl (by decide) (by kernel_rfl) (by kernel_rfl) (by simp) (by kernel_rfl)
  have x14 := st 30 13 _ x13 rfl rfl (by decide) (by kernel_rfl) (by kernel_rfl) (by simp) (by kernel_rfl)
  have x15 := st 32 14 _ x14 rfl rfl (by decide) (by kernel_rfl) (by kernel_rfl) (by simp) (by kernel_rfl)
  have x16 := st 34 15 _ x15 rfl rfl (by decide) (by kernel_rfl) (by kernel_rfl) (by simp) (by kernel_rfl)
  exact x16.trans (by kernel_rfl)

/-- The text of bytes. -/
def txR (L : List Int) : Nat → List Int
  | 0 => []
  | i + 1 => txR L i ++ ([dg (L.getD i 0 / 16), dg (L.getD i 0 % 16)] ++ if mr i then [45] else [])
def dgs (L : List Int) (a : Nat) : Nat → List Int
  | 0 => []
  | j + 1 => dgs L a j ++ [dg (L.getD (a + j) 0 / 16), dg (L.getD (a + j) 0 % 16)]
def szs : List Nat := [4, 2, 2, 2, 6]
def ofs : Nat → Nat
  | 0 => 0
  | i + 1 => ofs i + szs.getD i 0
def txP (L : List Int) : Nat → List Int
  | 0 => []
  | i + 1 => (txP L i ++ if i = 0 then [] else [45]) ++ dgs L (ofs i) (szs.getD i 0)
theorem txP_txR (L : List Int) : txP L 5 = txR L 16 := by kernel_rfl
def txL (L : List Int) : List Int := txR L 16
def txS (L : List Int) : ByteArray := mkB (txL L)
theorem txL_length (L : List Int) : (txL L).length = 36 := by kernel_rfl
theorem txS_size (L : List Int) : (txS L).size = 36 := by unfold txS; rw [mkB_size, txL_length]
theorem txL_digit (L : List Int) : ∀ i, i < 16 → (txL L).getD (pos i) 0 = dg (L.getD i 0 / 16) ∧ (txL L).getD (pos i + 1) 0 = dg (L.getD i 0 % 16) := by
  intro i hi
  rcases (show i = 0 ∨ i = 1 ∨ i = 2 ∨ i = 3 ∨ i = 4 ∨ i = 5 ∨ i = 6 ∨ i = 7 ∨ i = 8 ∨ i = 9 ∨ i = 10 ∨ i = 11 ∨ i = 12 ∨ i = 13 ∨ i = 14 ∨ i = 15 by omega) with rfl | rfl | rfl | rfl | rfl | rfl | rfl | rfl | rfl | rfl | rfl | rfl | rfl | rfl | rfl | rfl
  all_goals exact ⟨by kernel_rfl, by kernel_rfl⟩
theorem txL_mark (L : List Int) : ∀ k, k < 36 → mk k = true → (txL L).getD k 0 = 45 := by
  intro k hk hm
  simp only [mk, Bool.or_eq_true, beq_iff_eq] at hm
  rcases hm with ((rfl | rfl) | rfl) | rfl <;> kernel_rfl
def okB (L : List Int) : Prop := ∀ i, 0 ≤ L.getD i 0 ∧ L.getD i 0 < 256
theorem txL_range {L : List Int} (h : okB L) : ∀ k, k < 36 → 0 ≤ (txL L).getD k 0 ∧ (txL L).getD k 0 < 256 := by
  intro k hk
  rcases pos_all k hk with hm | ⟨i, hi, rfl | rfl⟩
  · rw [txL_mark L k hk hm]; omega
  · have := h i
    rw [(txL_digit L i hi).1]
    have := dg_range (n := L.getD i 0 / 16) (by omega) (by omega); omega
  · have := h i
    rw [(txL_digit L i hi).2]
    have := dg_range (n := L.getD i 0 % 16) (by omega) (by omega); omega
theorem txL_mem {L : List Int} (h : okB L) : ∀ x ∈ txL L, 0 ≤ x ∧ x < 256 := by
  intro x hx
  obtain ⟨k, hk, rfl⟩ := List.getElem_of_mem hx
  have := txL_range h k (by rw [txL_length] at hk; exact hk)
  simp only [List.getD, List.getElem?_eq_getElem hk, Option.getD_some] at this
  exact this
theorem txS_byt {L : List Int} (h : okB L) {k : Nat} (hk : k < 36) : byt (txS L) k = (txL L).getD k 0 :=
  mkB_byt _ _ (by rw [txL_length]; exact hk) (txL_range h k hk)
theorem mk_pos : ∀ i, i < 16 → mk (pos i) = false ∧ mk (pos i + 1) = false := by decide
theorem tx_ok {L : List Int} (h : okB L) : okTo (txS L) 36 = true := by
  have : ∀ k, k ≤ 36 → okTo (txS L) k = true := by
    intro k
    induction k with
    | zero => intro _; rfl
    | succ k ih =>
      intro hk
      simp only [okTo, ih (by omega), Bool.true_and]
      rw [txS_byt h (by omega)]
      rcases pos_all k (by omega) with hm | ⟨i, hi, rfl | rfl⟩
      · rw [if_pos hm, txL_mark L k (by omega) hm]; rfl
      · have := h i
        rw [if_neg (by rw [(mk_pos i hi).1]; simp), (txL_digit L i hi).1, hx_dg (by omega) (by omega)]
        exact decide_eq_true (by omega)
      · have := h i
        rw [if_neg (by rw [(mk_pos i hi).2]; simp), (txL_digit L i hi).2, hx_dg (by omega) (by omega)]
        exact decide_eq_true (by omega)
  exact this 36 (Nat.le_refl _)
theorem vb_tx {L : List Int} (h : okB L) {i : Nat} (hi : i < 16) : vb (txS L) i = L.getD i 0 := by
  have hp := pos_le i hi
  have := h i
  unfold vb
  rw [txS_byt h (by omega), txS_byt h (by omega), (txL_digit L i hi).1, (txL_digit L i hi).2, hx_dg (by omega) (by omega), hx_dg (by omega) (by omega)]
  omega
theorem list16 {L M : List Int} (h1 : L.length = 16) (h2 : M.length = 16) (h : ∀ i, i < 16 → L.getD i 0 = M.getD i 0) : L = M := by
  apply List.ext_getElem (by omega)
  intro i a b
  have := h i (by omega)
  simpa [List.getD, List.getElem?_eq_getElem a, List.getElem?_eq_getElem b] using this
theorem upV_at (s : ByteArray) : ∀ i, i < 16 → (upV s).getD i 0 = vb s i := by
  intro i hi
  rcases (show i = 0 ∨ i = 1 ∨ i = 2 ∨ i = 3 ∨ i = 4 ∨ i = 5 ∨ i = 6 ∨ i = 7 ∨ i = 8 ∨ i = 9 ∨ i = 10 ∨ i = 11 ∨ i = 12 ∨ i = 13 ∨ i = 14 ∨ i = 15 by omega) with rfl | rfl | rfl | rfl | rfl | rfl | rfl | rfl | rfl | rfl | rfl | rfl | rfl | rfl | rfl | rfl
  all_goals rfl
theorem back_ok {L : List Int} (h : okB L) : okS (txS L) = true := by
  unfold okS; rw [txS_size, tx_ok h]; rfl
theorem back_text {L : List Int} (h : okB L) (hl : L.length = 16) : upL (txS L) = L ∧ upE (txS L) = 0 := by
  unfold upL upE
  rw [back_ok h]
  refine ⟨list16 rfl hl (fun i hi => ?_), rfl⟩
  rw [if_pos rfl, upV_at _ i hi, vb_tx h hi]
theorem okS_parts {s : ByteArray} (h : okS s = true) : s.size = 36 ∧ okTo s 36 = true := by
  simpa [okS] using h
theorem upL_length (s : ByteArray) : (upL s).length = 16 := by unfold upL; split <;> rfl
theorem upL_okB (s : ByteArray) : okB (upL s) := by
  intro i
  by_cases hi : i < 16
  · unfold upL
    split
    · rename_i h
      have hp := pos_le i hi
      have hm := mk_pos i hi
      have h1 := ok_digit (okS_parts h).2 (show pos i < 36 by omega) hm.1
      have h2 := ok_digit (okS_parts h).2 (show pos i + 1 < 36 by omega) hm.2
      rw [upV_at s i hi]; unfold vb; omega
    · rcases (show i = 0 ∨ i = 1 ∨ i = 2 ∨ i = 3 ∨ i = 4 ∨ i = 5 ∨ i = 6 ∨ i = 7 ∨ i = 8 ∨ i = 9 ∨ i = 10 ∨ i = 11 ∨ i = 12 ∨ i = 13 ∨ i = 14 ∨ i = 15 by omega) with rfl | rfl | rfl | rfl | rfl | rfl | rfl | rfl | rfl | rfl | rfl | rfl | rfl | rfl | rfl | rfl <;> simp [z16]
  · have : (upL s).getD i 0 = 0 := by
      have := upL_length s
      simp [List.getD, List.getElem?_eq_none (show (upL s).length ≤ i by omega)]
    rw [this]; omega
/-- What a text tells has a text that differs by great letters alone. -/
theorem canon_byte {s : ByteArray} (h : okS s = true) {k : Nat} (hk : k < 36) :
    byt (txS (upL s)) k = byt s k ∨ (65 ≤ byt s k ∧ byt s k ≤ 70 ∧ byt (txS (upL s)) k = byt s k + 32) := by
  have hb := upL_okB s
  have hh := (okS_parts h).2
  rw [txS_byt hb hk]
  rcases pos_all k hk with hm | ⟨i, hi, rfl | rfl⟩
  · have := okTo_at hh hk
    rw [if_pos hm] at this
    rw [txL_mark _ k hk hm, this]; omega
  · have hp := pos_le i hi
    have hm := mk_pos i hi
    have h1 := ok_digit hh (show pos i < 36 by omega) hm.1
    have h2 := ok_digit hh (show pos i + 1 < 36 by omega) hm.2
    have hv : (upL s).getD i 0 = 16 * hx (byt s (pos i)) + hx (byt s (pos i + 1)) := by unfold upL; rw [if_pos h, upV_at s i hi]; rfl
    rw [(txL_digit _ i hi).1, hv, show (16 * hx (byt s (pos i)) + hx (byt s (pos i + 1))) / 16 = hx (byt s (pos i)) by omega]
    exact dg_hx h1.1
  · have hp := pos_le i hi
    have hm := mk_pos i hi
    have h1 := ok_digit hh (show pos i < 36 by omega) hm.1
    have h2 := ok_digit hh (show pos i + 1 < 36 by omega) hm.2
    have hv : (upL s).getD i 0 = 16 * hx (byt s (pos i)) + hx (byt s (pos i + 1)) := by unfold upL; rw [if_pos h, upV_at s i hi]; rfl
    rw [(txL_digit _ i hi).2, hv, show (16 * hx (byt s (pos i)) + hx (byt s (pos i + 1))) % 16 = hx (byt s (pos i + 1)) by omega]
    exact dg_hx h2.1
end Go.Proofs.YtfphejndbnmfeaaDoor

/- Layer 4: what stands at a place; words and strings that are read (plain). -/
import Derived.Test.YtoicmcjpaodgpaaDoorK9
import Derived.Test.YtoicmcjpaodgpaaDoorK5
namespace Go.Proofs.YtoicmcjpaodgpaaDoor
open Go.RowKit
/-- Those bytes stand at a place. -/
def AtL (s : ByteArray) : Nat → List Int → Prop
  | i, [] => i ≤ s.size
  | i, c :: r => i < s.size ∧ byt s i = c ∧ AtL s (i + 1) r
theorem at_le {s : ByteArray} : ∀ {L : List Int} {i : Nat}, AtL s i L → i + L.length ≤ s.size
  | [], i, h => h
  | c :: r, i, h => by have := at_le h.2.2; simp; omega
theorem at_app {s : ByteArray} : ∀ {A B : List Int} {i : Nat}, AtL s i (A ++ B) ↔ AtL s i A ∧ AtL s (i + A.length) B
  | [], B, i => ⟨fun h => ⟨by have := at_le h; show i ≤ s.size; simp at this; omega, h⟩, fun h => h.2⟩
  | c :: r, B, i => by
    have ih := at_app (s := s) (A := r) (B := B) (i := i + 1)
    have e : i + 1 + r.length = i + (c :: r).length := by simp; omega
    rw [e] at ih
    exact ⟨fun h => ⟨⟨h.1, h.2.1, (ih.1 h.2.2).1⟩, (ih.1 h.2.2).2⟩, fun h => ⟨h.1.1, h.1.2.1, ih.2 ⟨h.1.2.2, h.2⟩⟩⟩
theorem bI_at (s : ByteArray) (i : Nat) (h : i < s.size) : (bI s)[i]? = some (byt s i) := by
  unfold bI
  rw [List.getElem?_map, Array.getElem?_toList, Array.getElem?_eq_getElem (show i < s.data.size from h), ← byt_eq s i h]
  rfl
theorem at_drop (s : ByteArray) : ∀ f i, i + f = s.size → AtL s i ((bI s).drop i)
  | 0, i, h => by
    rw [List.drop_eq_nil_of_le (by rw [bI_len]; omega)]
    show i ≤ s.size
    omega
  | f + 1, i, h => by
    have hi : i < (bI s).length := by rw [bI_len]; omega
    rw [List.drop_eq_getElem_cons hi]
    have e := bI_at s i (by omega)
    rw [List.getElem?_eq_getElem hi] at e
    exact ⟨by omega, (Option.some.inj e).symm, at_drop s f (i + 1) (by omega)⟩
theorem at_all (s : ByteArray) : AtL s 0 (bI s) := by
  have h := at_drop s s.size 0 (by omega)
  rwa [List.drop_zero] at h
/-- Two texts with the same bytes there. -/
theorem at_take {s : ByteArray} : ∀ {L : List Int} {i : Nat}, AtL s i L → (bI s).drop i = L ++ (bI s).drop (i + L.length)
  | [], i, _ => by simp
  | c :: r, i, h => by
    have hi : i < (bI s).length := by rw [bI_len]; exact h.1
    rw [List.drop_eq_getElem_cons hi]
    have e := bI_at s i h.1
    rw [List.getElem?_eq_getElem hi, h.2.1] at e
    have ih := at_take h.2.2
    rw [Option.some.inj e, ih, show i + 1 + r.length = i + (c :: r).length by simp; omega]
    rfl
theorem bI_inj {a b : ByteArray} (h : bI a = bI b) : a = b := by rw [← mk_bI a, ← mk_bI b, h]
theorem bI_extract (s : ByteArray) (a b : Nat) : bI (s.extract a b) = ((bI s).take b).drop a := by
  unfold bI
  rw [ByteArray.data_extract, Array.toList_extract, List.extract_eq_take_drop, List.map_take, List.map_drop, List.drop_take]
theorem at_extract {s : ByteArray} {L : List Int} {i : Nat} (h : AtL s i L) : bI (s.extract i (i + L.length)) = L := by
  rw [bI_extract, List.drop_take, at_take h, Nat.add_sub_cancel_left]
  exact List.take_left
theorem word_at {s : ByteArray} : ∀ {L : List Int} {i : Nat}, AtL s i L → wordM s L i = .ok (i + L.length)
  | [], i, _ => rfl
  | c :: r, i, h => by
    unfold wordM
    rw [if_pos h.2.1, word_at h.2.2]
    simp
    omega
theorem hex_hexI (d : Int) (h0 : 0 ≤ d) (h1 : d < 16) : hexV (hexI d) = d := by
  unfold hexI hexV
  split
  · rw [if_pos (by omega)]; omega
  · rw [if_neg (by omega), if_pos (by omega)]; omega
theorem short_back (x : Int) (h : shortI x ≠ 0) : escM = escM ∧ (x = 34 ∨ x = 92 ∨ x = 8 ∨ x = 9 ∨ x = 10 ∨ x = 12 ∨ x = 13) := by
  refine ⟨rfl, ?_⟩
  unfold shortI at h
  (repeat' split at h) <;> first | omega | exact absurd rfl h
theorem low_point {s : ByteArray} {j : Nat} {x : Int} (h0 : 0 ≤ x) (h : x < 32) (a1 : byt s j = 48) (a2 : byt s (j + 1) = 48) (a3 : byt s (j + 1 + 1) = hexI (x / 16)) (a4 : byt s (j + 1 + 1 + 1) = hexI (x % 16)) : pointM s j = .ok (x, j + 4) := by
  have e1 := hex_hexI (x / 16) (by omega) (by omega)
  have e2 := hex_hexI (x % 16) (by omega) (by omega)
  have z : hexV 48 = 0 := by decide
  have f : fourF s 4 j 0 = .ok (x, j + 4) := by
    unfold fourF; rw [a1, z, if_neg (by decide)]
    unfold fourF; rw [a2, z, if_neg (by decide)]
    unfold fourF; rw [a3, e1, if_neg (by omega)]
    unfold fourF; rw [a4, e2, if_neg (by omega)]
    unfold fourF
    rw [show ((((0 : Int) * 16 + 0) * 16 + 0) * 16 + x / 16) * 16 + x % 16 = x by omega]
  unfold pointM
  rw [f, Rs.bind_ok]
  dsimp only
  rw [if_neg (by omega), if_pos (by unfold isPt; simp; omega)]
theorem enc_low (x : Int) (h : x < 128) : enc x = [x] := by unfold enc; rw [if_pos h]
/-- One byte, as it is quoted, is read. -/
theorem esc_read {s : ByteArray} {x : Int} {j f : Nat} {l : List Int} (h0 : 0 ≤ x) (h : AtL s j (escI x)) : strF s (f + 1) j l = strF s f (j + (escI x).length) (l ++ [x]) := by
  by_cases hs : shortI x ≠ 0
  · rw [esc_short hs] at h ⊢
    obtain ⟨_, b1, _, b2, _⟩ := h
    have e : escM s (j + 1) = .ok ([x], j + 2) := by
      have hx := (short_back x hs).2
      unfold escM
      dsimp only
      rw [b2]
      rcases hx with rfl | rfl | rfl | rfl | rfl | rfl | rfl <;> rfl
    rw [strF, b1, if_neg (by decide), if_pos rfl, e]
    rfl
  · have hs' : shortI x = 0 := by simpa using hs
    by_cases hl : x < 32
    · rw [esc_low hs' hl] at h ⊢
      obtain ⟨_, b1, _, b2, _, b3, _, b4, _, b5, _, b6, _⟩ := h
      have e : escM s (j + 1) = .ok ([x], j + 6) := by
        unfold escM
        dsimp only
        rw [b2]
        rw [if_neg (by decide), if_neg (by decide), if_neg (by decide), if_neg (by decide), if_neg (by decide), if_neg (by decide), if_pos rfl, low_point h0 hl b3 b4 b5 b6, Rs.bind_ok]
        dsimp only
        rw [enc_low x (by omega)]
      rw [strF, b1, if_neg (by decide), if_pos rfl, e]
      rfl
    · rw [esc_own hs' hl] at h ⊢
      obtain ⟨_, b1, _⟩ := h
      have n34 : x ≠ 34 := fun e => hs (by rw [e]; decide)
      have n92 : x ≠ 92 := fun e => hs (by rw [e]; decide)
      rw [strF, b1, if_neg n34, if_neg n92, if_neg hl]
      rfl
def esL (L : List Int) : List Int := L.flatMap escI
theorem esc_pos (x : Int) : 1 ≤ (escI x).length := by unfold escI; split <;> (try split) <;> simp
theorem esL_len : ∀ L : List Int, L.length ≤ (esL L).length
  | [] => Nat.le_refl _
  | x :: r => by
    have := esL_len r
    have := esc_pos x
    show (x :: r).length ≤ (escI x ++ esL r).length
    simp; omega
theorem str_read {s : ByteArray} : ∀ (L : List Int) (f j : Nat) (l : List Int), (∀ x ∈ L, 0 ≤ x) → AtL s j (esL L ++ [34]) → L.length < f → strF s f j l = .ok (l ++ L, j + (esL L).length + 1)
  | [], f, j, l, _, h, hf => by
    obtain ⟨f', rfl⟩ : ∃ f', f = f' + 1 := ⟨f - 1, by omega⟩
    have h2 : byt s j = 34 := h.2.1
    unfold strF
    rw [if_pos h2, List.append_nil]
    rfl
  | x :: r, f, j, l, h0, h, hf => by
    obtain ⟨f', rfl⟩ : ∃ f', f = f' + 1 := ⟨f - 1, by omega⟩
    have e : esL (x :: r) ++ [34] = escI x ++ (esL r ++ [34]) := by show (escI x ++ esL r) ++ [34] = _; rw [List.append_assoc]
    rw [e, at_app] at h
    rw [esc_read (h0 x (by simp)) h.1, str_read r f' _ _ (fun y hy => h0 y (by simp [hy])) h.2 (by simp at hf; omega)]
    have e2 : (esL (x :: r)).length = (escI x).length + (esL r).length := by show (escI x ++ esL r).length = _; rw [List.length_append]
    rw [e2]
    simp
    omega
theorem quL_esL (t : ByteArray) : ∀ k, k ≤ t.size → quL t k = 34 :: esL ((bI t).take k)
  | 0, _ => rfl
  | k + 1, h => by
    have hk : k < (bI t).length := by rw [bI_len]; omega
    have e := bI_at t k (by omega)
    rw [List.getElem?_eq_getElem hk] at e
    unfold quL
    rw [quL_esL t k (by omega), List.take_succ_eq_append_getElem hk, Option.some.inj e]
    unfold esL
    rw [List.flatMap_append]
    simp
theorem quT_bI (t : ByteArray) : bI (quT t) = 34 :: (esL (bI t) ++ [34]) := by
  rw [bI_qu, quL_esL t t.size (Nat.le_refl _), List.take_of_length_le (by rw [bI_len]; exact Nat.le_refl _)]
  rfl
/-- A text that is quoted is read. -/
theorem quT_read {s t : ByteArray} {i : Nat} (h : AtL s i (bI (quT t))) : strM s i = .ok (bI t, i + (quT t).size) := by
  have hsz : (quT t).size = (esL (bI t)).length + 2 := by rw [← bI_len, quT_bI]; simp
  rw [quT_bI] at h
  obtain ⟨h1, h2, h3⟩ := h
  have hl := at_le h3
  have hl2 := esL_len (bI t)
  rw [List.length_append] at hl
  simp at hl
  unfold strM wordM
  rw [if_pos h2]
  unfold wordM
  rw [Rs.bind_ok, str_read (bI t) _ (i + 1) [] (fun x hx => (bI_range t x hx).1) h3 (by omega), hsz]
  simp
  omega
end Go.Proofs.YtoicmcjpaodgpaaDoor

/- Layer 4: what is read is plain, and no longer than what it was read of (plain). -/
import Derived.Test.YtoicmcjpaodgpaaDoorBN
namespace Go.Proofs.YtoicmcjpaodgpaaDoor
open Go.RowKit
def ow (c : CR) : Nat := if c.k = 2 then (itT c.n).size else if c.k = 3 then (quT c.tx).size else if c.k = 0 ∨ c.k = 1 then 5 else 2
def nw (nm : ByteArray) : Nat := if nm = ⟨#[]⟩ then 0 else (quT nm).size + 1
/-- A cell's share of a text. -/
def wc (c : CR) : Nat := ow c + nw c.nm + 1
def wts (L : List CR) : Nat := (L.map wc).sum
theorem wts_app (A B : List CR) : wts (A ++ B) = wts A + wts B := by unfold wts; rw [List.map_append, List.sum_append]
theorem wts_cons (c : CR) (B : List CR) : wts (c :: B) = wc c + wts B := rfl
structure Okc (c : CR) : Prop where
  en : enB c = false
  k : c.k < 256
  nm : c.nm.size ≤ 3000
  tx : c.tx.size ≤ 3000
  nn : i64ok c.n
  mm : 0 ≤ c.m ∧ c.m ≤ 2048
theorem wk_tr {g1 g2 : Nat → CR} {n1 n2 r a e : Nat} (h : wk g1 n1 r a = some e) (hg : ∀ t, a ≤ t → t < e → g1 t = g2 t) (he : e ≤ n2) : wk g2 n2 r a = some e := by
  have h2 := wk_shift (g1 := g1) (g2 := g2) (n1 := n1) (n2 := n2) (s1 := 0) (s2 := 0) r a e h (fun t h1 h2 => by rw [Nat.add_zero, hg t h1 h2]; exact ⟨rfl, rfl, rfl, rfl, fun _ => rfl⟩) he
  exact h2
theorem wk_sh {g1 g2 : Nat → CR} {n1 n2 r e s : Nat} (h : wk g1 n1 r 0 = some e) (hg : ∀ t, t < e → g1 t = g2 (t + s)) (he : e + s ≤ n2) : wk g2 n2 r s = some (e + s) := by
  have h2 := wk_shift (g1 := g1) (g2 := g2) (n1 := n1) (n2 := n2) (s1 := 0) (s2 := s) r 0 e h (fun t h1 h2 => by rw [Nat.add_zero, hg t h2]; exact ⟨rfl, rfl, rfl, rfl, fun _ => rfl⟩) he
  rwa [Nat.zero_add] at h2
/-- So many items stand behind the first cell. -/
inductive Kd (g : Nat → CR) (n r : Nat) (obj : Bool) : Nat → List ByteArray → Nat → Prop
  | nil : Kd g n r obj 0 [] 1
  | snoc {m b b' : Nat} {ns : List ByteArray} : Kd g n r obj m ns b → namedP obj ns (g b).nm = true → wk g n r b = some b' → Kd g n r obj (m + 1) (if obj then (g b).nm :: ns else ns) b'
theorem Kd.le {g : Nat → CR} {n r : Nat} {obj : Bool} {m b : Nat} {ns : List ByteArray} (h : Kd g n r obj m ns b) : m + 1 ≤ b := by
  induction h with
  | nil => exact Nat.le_refl _
  | snoc _ _ hw ih => have := wk_lt _ _ _ hw; omega
theorem Kd.fold {g : Nat → CR} {n r : Nat} {obj : Bool} {m b : Nat} {ns : List ByteArray} (h : Kd g n r obj m ns b) : ∀ d, kidsF (wk g n r) g n obj (m + d) [] 1 = kidsF (wk g n r) g n obj d ns b := by
  induction h with
  | nil => intro d; rw [Nat.zero_add]
  | @snoc m b b' ns hk hn hw ih =>
    intro d
    have hlt := wk_lt _ _ _ hw
    rw [show m + 1 + d = m + (d + 1) by omega, ih (d + 1)]
    rw [kidsF, if_neg (by omega), if_pos hn, hw]
theorem Kd.tr {g1 g2 : Nat → CR} {n1 n2 r : Nat} {obj : Bool} {m b : Nat} {ns : List ByteArray} (h : Kd g1 n1 r obj m ns b) (hg : ∀ t, 1 ≤ t → t < b → g1 t = g2 t) (hb : b ≤ n2) : Kd g2 n2 r obj m ns b := by
  induction h with
  | nil => exact .nil
  | @snoc m b b' ns hk hn hw ih =>
    have hlt := wk_lt _ _ _ hw
    have hle := hk.le
    have i := ih (fun t h1 h2 => hg t h1 (by omega)) (by omega)
    have e := hg b (by omega) (by omega)
    have := Kd.snoc i (by rw [← e]; exact hn) (wk_tr hw (fun t h1 h2 => hg t (by omega) h2) hb)
    rw [← e] at this
    exact this
/-- Cells are one value, of a name. -/
structure SV (r : Nat) (nm : ByteArray) (N : List CR) : Prop where
  wk : wk (gl N) N.length r 0 = some N.length
  hd : (gl N 0).nm = nm
  pos : 0 < N.length
  ok : ∀ c ∈ N, Okc c
theorem wk_leaf {c : CR} (r : Nat) (h1 : oneP c = true) (h2 : headP c = false) : wk (gl [c]) 1 r 0 = some 1 := by
  have e : gl [c] 0 = c := rfl
  cases r with
  | zero => rw [wk_z, e, h1, h2]; rfl
  | succ r => rw [wk_s, e, h1, h2]; rfl
theorem SV.leaf {c : CR} {r : Nat} (h1 : oneP c = true) (h2 : headP c = false) (h3 : Okc c) : SV r c.nm [c] := ⟨wk_leaf r h1 h2, rfl, Nat.zero_lt_one, fun x hx => by rw [List.mem_singleton] at hx; rw [hx]; exact h3⟩
/-- Within brackets: what has been read. -/
structure LS (s : ByteArray) (r : Nat) (obj : Bool) (kd : Nat) (L : List CR) (nm : ByteArray) (i0 i k : Nat) (ns : List ByteArray) (M : List CR) : Prop where
  ex : ∃ C, M = L ++ [⟨kd, nm, ⟨#[]⟩, 0, k⟩] ++ C ∧ Kd (gl (⟨kd, nm, ⟨#[]⟩, 0, k⟩ :: C)) (C.length + 1) r obj k ns (C.length + 1) ∧ (∀ c ∈ C, Okc c) ∧ wts C + 2 * i0 ≤ 2 * i
  len : M.length ≤ 2048
  tw : Tw s i s.size
theorem gl_cons_app {H H' : CR} {C N : List CR} {t : Nat} (h1 : 1 ≤ t) (h2 : t < C.length + 1) : gl (H :: C) t = gl (H' :: (C ++ N)) t := by
  obtain ⟨u, rfl⟩ : ∃ u, t = u + 1 := ⟨t - 1, by omega⟩
  unfold gl
  simp only [List.getD_eq_getElem?_getD, List.getElem?_cons_succ]
  rw [List.getElem?_append_left (by omega)]
theorem gl_cons_new {H' : CR} {C N : List CR} {t : Nat} : gl N t = gl (H' :: (C ++ N)) (t + (C.length + 1)) := by
  unfold gl
  rw [show t + (C.length + 1) = (t + C.length) + 1 by omega]
  simp only [List.getD_eq_getElem?_getD, List.getElem?_cons_succ]
  rw [List.getElem?_append_right (by omega), Nat.add_sub_cancel]
theorem LS.add {s : ByteArray} {r kd i0 i k j : Nat} {obj : Bool} {L M N : List CR} {nm nm' : ByteArray} {ns : List ByteArray} (h : LS s r obj kd L nm i0 i k ns M) (hN : SV r nm' N) (hn : namedP obj ns nm' = true) (hw : wts N + 2 * i ≤ 2 * j) (hl : (M ++ N).length ≤ 2048) (ht : Tw s j s.size) : LS s r obj kd L nm i0 j (k + 1) (if obj then nm' :: ns else ns) (incC (M ++ N) L.length) := by
  obtain ⟨C, rfl, hk, hc, hwt⟩ := h.ex
  have e1 : incC (L ++ [⟨kd, nm, ⟨#[]⟩, 0, k⟩] ++ C ++ N) L.length = L ++ [⟨kd, nm, ⟨#[]⟩, 0, (k + 1 : Nat)⟩] ++ (C ++ N) := by
    rw [List.append_assoc (L ++ [_]), incC_last]
    have ee : ((k : Int) + 1) = ((k + 1 : Nat) : Int) := by omega
    dsimp only
    rw [ee]
  refine ⟨⟨C ++ N, e1, ?_, fun c hx => (List.mem_append.1 hx).elim (hc c) (hN.ok c), by rw [wts_app]; omega⟩, ?_, ht⟩
  · have k1 := hk.tr (g2 := gl (⟨kd, nm, ⟨#[]⟩, 0, (k + 1 : Nat)⟩ :: (C ++ N))) (n2 := (C ++ N).length + 1) (fun t h1 h2 => gl_cons_app h1 h2) (by rw [List.length_append]; omega)
    have e2 : (gl (⟨kd, nm, ⟨#[]⟩, 0, (k + 1 : Nat)⟩ :: (C ++ N)) (C.length + 1)).nm = nm' := by
      have := gl_cons_new (H' := ⟨kd, nm, ⟨#[]⟩, 0, (k + 1 : Nat)⟩) (C := C) (N := N) (t := 0)
      rw [Nat.zero_add] at this
      rw [← this]
      exact hN.hd
    have k2 := wk_sh hN.wk (g2 := gl (⟨kd, nm, ⟨#[]⟩, 0, (k + 1 : Nat)⟩ :: (C ++ N))) (s := C.length + 1) (n2 := (C ++ N).length + 1) (fun t _ => gl_cons_new) (by rw [List.length_append]; omega)
    have k3 := Kd.snoc k1 (by rw [e2]; exact hn) k2
    rw [e2] at k3
    rw [show N.length + (C.length + 1) = (C ++ N).length + 1 by rw [List.length_append]; omega] at k3
    exact k3
  · rw [e1]
    simp only [List.length_append, List.length_cons, List.length_nil] at hl ⊢
    omega
theorem LS.move {s : ByteArray} {r kd i0 i k j : Nat} {obj : Bool} {L M : List CR} {nm : ByteArray} {ns : List ByteArray} (h : LS s r obj kd L nm i0 i k ns M) (a : Asc s i j) (hj : j ≤ s.size) : LS s r obj kd L nm i0 j k ns M := by
  obtain ⟨C, h1, h2, h3, h4⟩ := h.ex
  exact ⟨⟨C, h1, h2, h3, by have := a.le; omega⟩, h.len, h.tw.asc a hj⟩
/-- What holds of items holds behind all. -/
theorem alF_inv {σ : Type} {s : ByteArray} {it : Nat → σ → Rs (Nat × σ)} {P : Nat → σ → Prop} {shut : Int} (hsh : shut = 93 ∨ shut = 125) (mv : ∀ i j x, P i x → Asc s i j → j ≤ s.size → P j x) (hi : ∀ i x y, i ≤ s.size → P i x → it i x = .ok y → P y.1 y.2 ∧ y.1 ≤ s.size ∧ i ≤ y.1) : ∀ (f i : Nat) (x : σ) (y : Nat × σ), i ≤ s.size → P i x → alF s it shut f i x = .ok y → ∃ i1, P i1 y.2 ∧ y.1 = i1 + 1 ∧ byt s i1 = shut ∧ i ≤ i1
  | 0, _, _, _, _, _, e => by cases e
  | f + 1, i, x, y, hs, hp, e => by
    unfold alF at e
    split at e
    · rename_i h44
      have hin : i < s.size := byt_in (by omega)
      have hb1 := bl_ge s (i + 1)
      have hb2 : bl s (i + 1) ≤ s.size := bl_le (by omega)
      have p1 := mv _ _ _ hp ((Asc.one (by omega)).trans (bl_asc s (i + 1))) hb2
      cases hz : it (bl s (i + 1)) x with
      | bad m => rw [hz] at e; cases e
      | ok z =>
        rw [hz] at e
        simp only [Rs.bind_ok] at e
        obtain ⟨p2, z1, z2⟩ := hi _ _ _ hb2 p1 hz
        have hb3 : bl s z.1 ≤ s.size := bl_le z1
        obtain ⟨i1, q1, q2, q3, q4⟩ := alF_inv hsh mv hi f _ _ _ hb3 (mv _ _ _ p2 (bl_asc s z.1) hb3) e
        have hb4 := bl_ge s z.1
        exact ⟨i1, q1, q2, q3, by omega⟩
    · cases hw : wordM s [shut] i with
      | bad m => rw [hw] at e; cases e
      | ok j =>
        rw [hw] at e
        obtain ⟨w1, rfl⟩ := word1 hw
        cases e
        exact ⟨i, hp, rfl, w1, Nat.le_refl _⟩
theorem alM_inv {σ : Type} {s : ByteArray} {it : Nat → σ → Rs (Nat × σ)} {P : Nat → σ → Prop} {shut : Int} (hsh : shut = 93 ∨ shut = 125) (mv : ∀ i j x, P i x → Asc s i j → j ≤ s.size → P j x) (hi : ∀ i x y, i ≤ s.size → P i x → it i x = .ok y → P y.1 y.2 ∧ y.1 ≤ s.size ∧ i ≤ y.1) {i : Nat} {x : σ} {y : Nat × σ} (hs : i ≤ s.size) (hp : P i x) (e : alM s it shut i x = .ok y) : ∃ i1, P i1 y.2 ∧ y.1 = i1 + 1 ∧ byt s i1 = shut ∧ i ≤ i1 := by
  unfold alM at e
  split at e
  · cases e
    exact ⟨i, hp, rfl, by assumption, Nat.le_refl _⟩
  · cases hz : it i x with
    | bad m => rw [hz] at e; cases e
    | ok z =>
      rw [hz] at e
      simp only [Rs.bind_ok] at e
      obtain ⟨p2, z1, z2⟩ := hi _ _ _ hs hp hz
      have hb3 : bl s z.1 ≤ s.size := bl_le z1
      have hb4 := bl_ge s z.1
      obtain ⟨i1, q1, q2, q3, q4⟩ := alF_inv hsh mv hi _ _ _ _ hb3 (mv _ _ _ p2 (bl_asc s z.1) hb3) e
      exact ⟨i1, q1, q2, q3, by omega⟩
theorem four_len {s : ByteArray} : ∀ {k i : Nat} {n : Int} {x : Int × Nat}, fourF s k i n = .ok x → x.2 = i + k
  | 0, i, n, x, e => by cases e; rfl
  | k + 1, i, n, x, e => by
    unfold fourF at e
    split at e
    · cases e
    · have := four_len e; omega
theorem point_len {s : ByteArray} {i : Nat} {x : Int × Nat} (e : pointM s i = .ok x) : i + 4 ≤ x.2 := by
  unfold pointM at e
  cases h1 : fourF s 4 i 0 with
  | bad m => rw [h1] at e; cases e
  | ok y =>
    rw [h1] at e
    have a1 := four_len h1
    simp only [Rs.bind_ok] at e
    split at e
    · cases h2 : wordM s [92, 117] y.2 with
      | bad m => rw [h2] at e; cases e
      | ok j =>
        rw [h2] at e
        have a2 := (word_asc (by decide) h2).le
        simp only [Rs.bind_ok] at e
        cases h3 : fourF s 4 j 0 with
        | bad m => rw [h3] at e; cases e
        | ok z =>
          rw [h3] at e
          have a3 := four_len h3
          simp only [Rs.bind_ok] at e
          split at e
          · cases e
          · cases e
            show i + 4 ≤ z.2
            omega
    · split at e
      · cases e; omega
      · cases e
theorem esL_one (x : Int) : esL [x] = escI x := by unfold esL; simp
theorem esL_app (a b : List Int) : esL (a ++ b) = esL a ++ esL b := by unfold esL; rw [List.flatMap_append]
theorem enc_es {p : Int} (h : isPt p = true) : (esL (enc p)).length ≤ 6 := by
  by_cases hl : p < 128
  · rw [enc_low p hl, esL_one]
    exact esc_len p
  · have hh : ∀ c ∈ enc p, 128 ≤ c := by
      have hr := isPt_range h
      intro c hc
      unfold enc at hc
      rw [if_neg hl] at hc
      (repeat' split at hc) <;> simp at hc <;> omega
    rw [esL_high hh]
    have := (enc_len p).2
    omega
theorem esc_es {s : ByteArray} {i j : Nat} {m : List Int} (e : escM s i = .ok (m, j)) : (esL m).length + i ≤ j + 1 := by
  unfold escM at e
  dsimp only at e
  split at e
  · rename_i hb
    cases e
    rw [esL_one]
    have h2 : (escI (byt s i)).length ≤ 2 := by rcases hb with hb | hb | hb <;> rw [hb] <;> decide
    omega
  split at e
  · cases e; rw [esL_one]; have : (escI 8).length = 2 := rfl; omega
  split at e
  · cases e; rw [esL_one]; have : (escI 12).length = 2 := rfl; omega
  split at e
  · cases e; rw [esL_one]; have : (escI 10).length = 2 := rfl; omega
  split at e
  · cases e; rw [esL_one]; have : (escI 13).length = 2 := rfl; omega
  split at e
  · cases e; rw [esL_one]; have : (escI 9).length = 2 := rfl; omega
  split at e
  · cases hp : pointM s (i + 1) with
    | bad m' => rw [hp] at e; cases e
    | ok x =>
      rw [hp] at e
      have h1 := point_len hp
      have h2 := enc_es (point_asc hp).2
      simp only [Rs.bind_ok] at e
      cases e
      omega
  · cases e
theorem strF_es {s : ByteArray} : ∀ (f j : Nat) (l m : List Int) (k : Nat), strF s f j l = .ok (m, k) → (esL m).length + j + 1 ≤ (esL l).length + k
  | 0, j, l, m, k, e => by cases e
  | f + 1, j, l, m, k, e => by
    rw [strF] at e
    split at e
    · cases e; omega
    split at e
    · cases he : escM s (j + 1) with
      | bad m' => rw [he] at e; cases e
      | ok y =>
        obtain ⟨y1, j'⟩ := y
        rw [he] at e
        have h1 := esc_es he
        have h2 := strF_es f j' _ m k e
        rw [esL_app, List.length_append] at h2
        dsimp only at h2
        omega
    split at e
    · cases e
    · rename_i n1 n2 n3
      have h2 := strF_es f (j + 1) _ m k e
      have h3 : (esL [byt s j]).length = 1 := by
        rw [esL_one, esc_own _ n3]
        · rfl
        · unfold shortI
          rw [if_neg n1, if_neg n2, if_neg (by omega), if_neg (by omega), if_neg (by omega), if_neg (by omega), if_neg (by omega)]
      rw [esL_app, List.length_append, h3] at h2
      omega
theorem strM_es {s : ByteArray} {i k : Nat} {m : List Int} (hw : Tw s i s.size) (e : strM s i = .ok (m, k)) : (quT (mkB m)).size + i ≤ k := by
  have hp := (strM_pt hw e).1
  unfold strM at e
  cases h1 : wordM s [34] i with
  | bad m' => rw [h1] at e; cases e
  | ok j =>
    rw [h1] at e
    obtain ⟨w1, rfl⟩ := word1 h1
    have h := strF_es _ _ _ _ _ e
    have hsz : (quT (mkB m)).size = (esL m).length + 2 := by rw [← bI_len, quT_bI, bI_mk hp.range]; simp
    rw [hsz]
    have e0 : (esL []).length = 0 := rfl
    rw [e0] at h
    omega
theorem num_es {s : ByteArray} {i d : Nat} {n : Int} (hi : i ≤ s.size) (e : numM s i = .ok (n, d)) : (itT n).size + i ≤ d ∧ i64ok n := by
  obtain ⟨h1, h2⟩ := numM_ok hi e
  unfold numM at e
  cases hb : intM s i with
  | bad m => rw [hb] at e; cases e
  | ok b =>
    rw [hb] at e
    simp only [Rs.bind_ok] at e
    split at e
    · rename_i hE
      cases e
      have hr := Nm.read_range _ hE
      refine ⟨?_, hr⟩
      have hx : (s.extract i (expoM s (fracM s b))).size = expoM s (fracM s b) - i := by simp; omega
      have hit : ∀ x, (itT x).size = (Lib.itoa x).length := fun x => rfl
      rcases Nm.itoa_read _ hE with k | ⟨k1, k2⟩
      · rw [hit, k]
        have : (s.extract i (expoM s (fracM s b))).data.toList.length = (s.extract i (expoM s (fracM s b))).size := rfl
        omega
      · rw [k2]
        have : (itT 0).size = 1 := by rw [hit]; simp [Lib.itoa, Lib.decDigits]
        omega
    · cases e
end Go.Proofs.YtoicmcjpaodgpaaDoor

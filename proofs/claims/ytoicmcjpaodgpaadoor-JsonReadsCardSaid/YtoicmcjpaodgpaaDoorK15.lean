import Derived.Test.YtoicmcjpaodgpaaDoorK14
import Derived.Test.YtoicmcjpaodgpaaDoorK12
/- Layer 4: what is read is plain, and no longer than what it was read of (plain). -/
namespace Go.Proofs.YtoicmcjpaodgpaaDoor
open Go.RowKit
def ow (c : CR) : Nat := if c.k = 2 then (itT c.n).size else if c.k = 3 then (quT c.tx).size else if c.k = 0 ∨ c.k = 1 then 5 else 2
def nw (nm : ByteArray) : Nat := if nm = ⟨#[]⟩ then 0 else (quT nm).size + 1
/-- A cell's share of a text. -/
def wc (c : CR) : Nat := ow c + nw c.nm + 1
def wts (L : List CR) : Nat := (L.map wc).sum
theorem wts_app (A B : List CR) : wts (A ++ B) = wts A + wts B := by unfold wts; rw [List.map_append, List.sum_append]
theorem wts_cons (c : CR) (B : List CR) : wts (c :: B) = wc c + wts B := rfl
structure Okc (c : CR) : Prop where
  en : enB c = false
  k : c.k < 256
  nm : c.nm.size ≤ 3000
  tx : c.tx.size ≤ 3000
  nn : i64ok c.n
  mm : 0 ≤ c.m ∧ c.m ≤ 2048
theorem wk_tr {g1 g2 : Nat → CR} {n1 n2 r a e : Nat} (h : wk g1 n1 r a = some e) (hg : ∀ t, a ≤ t → t < e → g1 t = g2 t) (he : e ≤ n2) : wk g2 n2 r a = some e := by
  have h2 := wk_shift (g1 := g1) (g2 := g2) (n1 := n1) (n2 := n2) (s1 := 0) (s2 := 0) r a e h (fun t h1 h2 => by rw [Nat.add_zero, hg t h1 h2]; exact ⟨rfl, rfl, rfl, rfl, fun _ => rfl⟩) he
  exact h2
theorem wk_sh {g1 g2 : Nat → CR} {n1 n2 r e s : Nat} (h : wk g1 n1 r 0 = some e) (hg : ∀ t, t < e → g1 t = g2 (t + s)) (he : e + s ≤ n2) : wk g2 n2 r s = some (e + s) := by
  have h2 := wk_shift (g1 := g1) (g2 := g2) (n1 := n1) (n2 := n2) (s1 := 0) (s2 := s) r 0 e h (fun t h1 h2 => by rw [Nat.add_zero, hg t h2]; exact ⟨rfl, rfl, rfl, rfl, fun _ => rfl⟩) he
  rwa [Nat.zero_add] at h2
/-- So many items stand behind the first cell. -/
inductive Kd (g : Nat → CR) (n r : Nat) (obj : Bool) : Nat → List ByteArray → Nat → Prop
  | nil : Kd g n r obj 0 [] 1
  | snoc {m b b' : Nat} {ns : List ByteArray} : Kd g n r obj m ns b → namedP obj ns (g b).nm = true → wk g n r b = some b' → Kd g n r obj (m + 1) (if obj then (g b).nm :: ns else ns) b'
theorem Kd.le {g : Nat → CR} {n r : Nat} {obj : Bool} {m b : Nat} {ns : List ByteArray} (h : Kd g n r obj m ns b) : m + 1 ≤ b := by
  induction h with
  | nil => exact Nat.le_refl _
  | snoc _ _ hw ih => have := wk_lt _ _ _ hw; omega
theorem Kd.fold {g : Nat → CR} {n r : Nat} {obj : Bool} {m b : Nat} {ns : List ByteArray} (h : Kd g n r obj m ns b) : ∀ d, kidsF (wk g n r) g n obj (m + d) [] 1 = kidsF (wk g n r) g n obj d ns b := by
  induction h with
  | nil => intro d; rw [Nat.zero_add]
  | @snoc m b b' ns hk hn hw ih =>
    intro d
    have hlt := wk_lt _ _ _ hw
    rw [show m + 1 + d = m + (d + 1) by omega, ih (d + 1)]
    rw [kidsF, if_neg (by omega), if_pos hn, hw]
theorem Kd.tr {g1 g2 : Nat → CR} {n1 n2 r : Nat} {obj : Bool} {m b : Nat} {ns : List ByteArray} (h : Kd g1 n1 r obj m ns b) (hg : ∀ t, 1 ≤ t → t < b → g1 t = g2 t) (hb : b ≤ n2) : Kd g2 n2 r obj m ns b := by
  induction h with
  | nil => exact .nil
  | @snoc m b b' ns hk hn hw ih =>
    have hlt := wk_lt _ _ _ hw
    have hle := hk.le
    have i := ih (fun t h1 h2 => hg t h1 (by omega)) (by omega)
    have e := hg b (by omega) (by omega)
    have := Kd.snoc i (by rw [← e]; exact hn) (wk_tr hw (fun t h1 h2 => hg t (by omega) h2) hb)
    rw [← e] at this
    exact this
/-- Cells are one value, of a name. -/
structure SV (r : Nat) (nm : ByteArray) (N : List CR) : Prop where
  wk : wk (gl N) N.length r 0 = some N.length
  hd : (gl N 0).nm = nm
  pos : 0 < N.length
  ok : ∀ c ∈ N, Okc c
theorem wk_leaf {c : CR} (r : Nat) (h1 : oneP c = true) (h2 : headP c = false) : wk (gl [c]) 1 r 0 = some 1 := by
  have e : gl [c] 0 = c := rfl
  cases r with
  | zero => rw [wk_z, e, h1, h2]; rfl
  | succ r => rw [wk_s, e, h1, h2]; rfl
theorem SV.leaf {c : CR} {r : Nat} (h1 : oneP c = true) (h2 : headP c = false) (h3 : Okc c) : SV r c.nm [c] := ⟨wk_leaf r h1 h2, rfl, Nat.zero_lt_one, fun x hx => by rw [List.mem_singleton] at hx; rw [hx]; exact h3⟩
/-- Within brackets: what has been read. -/
structure LS (s : ByteArray) (r : Nat) (obj : Bool) (kd : Nat) (L : List CR) (nm : ByteArray) (i0 i k : Nat) (ns : List ByteArray) (M : List CR) : Prop where
  ex : ∃ C, M = L ++ [⟨kd, nm, ⟨#[]⟩, 0, k⟩] ++ C ∧ Kd (gl (⟨kd, nm, ⟨#[]⟩, 0, k⟩ :: C)) (C.length + 1) r obj k ns (C.length + 1) ∧ (∀ c ∈ C, Okc c) ∧ wts C + 2 * i0 ≤ 2 * i
  len : M.length ≤ 2048
  tw : Tw s i s.size
theorem gl_cons_app {H H' : CR} {C N : List CR} {t : Nat} (h1 : 1 ≤ t) (h2 : t < C.length + 1) : gl (H :: C) t = gl (H' :: (C ++ N)) t := by
  obtain ⟨u, rfl⟩ : ∃ u, t = u + 1 := ⟨t - 1, by omega⟩
  unfold gl
  simp only [List.getD_eq_getElem?_getD, List.getElem?_cons_succ]
  rw [List.getElem?_append_left (by omega)]
theorem gl_cons_new {H' : CR} {C N : List CR} {t : Nat} : gl N t = gl (H' :: (C ++ N)) (t + (C.length + 1)) := by
  unfold gl
  rw [show t + (C.length + 1) = (t + C.length) + 1 by omega]
  simp only [List.getD_eq_getElem?_getD, List.getElem?_cons_succ]
  rw [List.getElem?_append_right (by omega), Nat.add_sub_cancel]
theorem LS.add {s : ByteArray} {r kd i0 i k j : Nat} {obj : Bool} {L M N : List CR} {nm nm' : ByteArray} {ns : List ByteArray} (h : LS s r obj kd L nm i0 i k ns M) (hN : SV r nm' N) (hn : namedP obj ns nm' = true) (hw : wts N + 2 * i ≤ 2 * j) (hl : (M ++ N).length ≤ 2048) (ht : Tw s j s.size) : LS s r obj kd L nm i0 j (k + 1) (if obj then nm' :: ns else ns) (incC (M ++ N) L.length) := by
  obtain ⟨C, rfl, hk, hc, hwt⟩ := h.ex
  have e1 : incC (L ++ [⟨kd, nm, ⟨#[]⟩, 0, k⟩] ++ C ++ N) L.length = L ++ [⟨kd, nm, ⟨#[]⟩, 0, (k + 1 : Nat)⟩] ++ (C ++ N) := by
    rw [List.append_assoc (L ++ [_]), incC_last]
    have ee : ((k : Int) + 1) = ((k + 1 : Nat) : Int) := by omega
    dsimp only
    rw [ee]
  refine ⟨⟨C ++ N, e1, ?_, fun c hx => (List.mem_append.1 hx).elim (hc c) (hN.ok c), by rw [wts_app]; omega⟩, ?_, ht⟩
  · have k1 := hk.tr (g2 := gl (⟨kd, nm, ⟨#[]⟩, 0, (k + 1 : Nat)⟩ :: (C ++ N))) (n2 := (C ++ N).length + 1) (fun t h1 h2 => gl_cons_app h1 h2) (by rw [List.length_append]; omega)
    have e2 : (gl (⟨kd, nm, ⟨#[]⟩, 0, (k + 1 : Nat)⟩ :: (C ++ N)) (C.length + 1)).nm = nm' := by
      have := gl_cons_new (H' := ⟨kd, nm, ⟨#[]⟩, 0, (k + 1 : Nat)⟩) (C := C) (N := N) (t := 0)
      rw [Nat.zero_add] at this
      rw [← this]
      exact hN.hd
    have k2 := wk_sh hN.wk (g2 := gl (⟨kd, nm, ⟨#[]⟩, 0, (k + 1 : Nat)⟩ :: (C ++ N))) (s := C.length + 1) (n2 := (C ++ N).length + 1) (fun t _ => gl_cons_new) (by rw [List.length_append]; omega)
    have k3 := Kd.snoc k1 (by rw [e2]; exact hn) k2
    rw [e2] at k3
    rw [show N.length + (C.length + 1) = (C ++ N).length + 1 by rw [List.length_append]; omega] at k3
    exact k3
  · rw [e1]
    simp only [List.length_append, List.length_cons, List.length_nil] at hl ⊢
    omega
theorem LS.move {s : ByteArray} {r kd i0 i k j : Nat} {obj : Bool} {L M : List CR} {nm : ByteArray} {ns : List ByteArray} (h : LS s r obj kd L nm i0 i k ns M) (a : Asc s i j) (hj : j ≤ s.size) : LS s r obj kd L nm i0 j k ns M := by
  obtain ⟨C, h1, h2, h3, h4⟩ := h.ex
  exact ⟨⟨C, h1, h2, h3, by have := a.le; omega⟩, h.len, h.tw.asc a hj⟩
/-- What holds of items holds behind all. -/
theorem alF_inv {σ : Type} {s : ByteArray} {it : Nat → σ → Rs (Nat × σ)} {P : Nat → σ → Prop} {shut : Int} (hsh : shut = 93 ∨ shut = 125) (mv : ∀ i j x, P i x → Asc s i j → j ≤ s.size → P j x) (hi : ∀ i x y, i ≤ s.size → P i x → it i x = .ok y → P y.1 y.2 ∧ y.1 ≤ s.size ∧ i ≤ y.1) : ∀ (f i : Nat) (x : σ) (y : Nat × σ), i ≤ s.size → P i x → alF s it shut f i x = .ok y → ∃ i1, P i1 y.2 ∧ y.1 = i1 + 1 ∧ byt s i1 = shut ∧ i ≤ i1
  | 0, _, _, _, _, _, e => by cases e
  | f + 1, i, x, y, hs, hp, e => by
    unfold alF at e
    split at e
    · rename_i h44
      have hin : i < s.size := byt_in (by omega)
      have hb1 := bl_ge s (i + 1)
      have hb2 : bl s (i + 1) ≤ s.size := bl_le (by omega)
      have p1 := mv _ _ _ hp ((Asc.one (by omega)).trans (bl_asc s (i + 1))) hb2
      cases hz : it (bl s (i + 1)) x with
      | bad m => rw [hz] at e; cases e
      | ok z =>
        rw [hz] at e
        simp only [Rs.bind_ok] at e
        obtain ⟨p2, z1, z2⟩ := hi _ _ _ hb2 p1 hz
        have hb3 : bl s z.1 ≤ s.size := bl_le z1
        obtain ⟨i1, q1, q2, q3, q4⟩ := alF_inv hsh mv hi f _ _ _ hb3 (mv _ _ _ p2 (bl_asc s z.1) hb3) e
        have hb4 := bl_ge s z.1
        exact ⟨i1, q1, q2, q3, by omega⟩
    · cases hw : wordM s [shut] i with
      | bad m => rw [hw] at e; cases e
      | ok j =>
        rw [hw] at e
        obtain ⟨w1, rfl⟩ := word1 hw
        cases e
        exact ⟨i, hp, rfl, w1, Nat.le_refl _⟩
theorem alM_inv {σ : Type} {s : ByteArray} {it : Nat → σ → Rs (Nat × σ)} {P : Nat → σ → Prop} {shut : Int} (hsh : shut = 93 ∨ shut = 125) (mv : ∀ i j x, P i x → Asc s i j → j ≤ s.size → P j x) (hi : ∀ i x y, i ≤ s.size → P i x → it i x = .ok y → P y.1 y.2 ∧ y.1 ≤ s.size ∧ i ≤ y.1) {i : Nat} {x : σ} {y : Nat × σ} (hs : i ≤ s.size) (hp : P i x) (e : alM s it shut i x = .ok y) : ∃ i1, P i1 y.2 ∧ y.1 = i1 + 1 ∧ byt s i1 = shut ∧ i ≤ i1 := by
  unfold alM at e
  split at e
  · cases e
    exact ⟨i, hp, rfl, by assumption, Nat.le_refl _⟩
  · cases hz : it i x with
    | bad m => rw [hz] at e; cases e
    | ok z =>
      rw [hz] at e
      simp only [Rs.bind_ok] at e
      obtain ⟨p2, z1, z2⟩ := hi _ _ _ hs hp hz
      have hb3 : bl s z.1 ≤ s.size := bl_le z1
      have hb4 := bl_ge s z.1
      obtain ⟨i1, q1, q2, q3, q4⟩ := alF_inv hsh mv hi _ _ _ _ hb3 (mv _ _ _ p2 (bl_asc s z.1) hb3) e
      exact ⟨i1, q1, q2, q3, by omega⟩
theorem four_len {s : ByteArray} : ∀ {k i : Nat} {n : Int} {x : Int × Nat}, fourF s k i n = .ok x → x.2 = i + k
  | 0, i, n, x, e => by cases e; rfl
  | k + 1, i, n, x, e => by
    unfold fourF at e
    split at e
    · cases e
    · have := four_len e; omega
theorem point_len {s : ByteArray} {i : Nat} {x : Int × Nat} (e : pointM s i = .ok x) : i + 4 ≤ x.2 := by
  unfold pointM at e
  cases h1 : fourF s 4 i 0 with
  | bad m => rw [h1] at e; cases e
  | ok y =>
    rw [h1] at e
    have a1 := four_len h1
    simp only [Rs.bind_ok] at e
    split at e
    · cases h2 : wordM s [92, 117] y.2 with
      | bad m => rw [h2] at e; cases e
      | ok j =>
        rw [h2] at e
        have a2 := (word_asc (by decide) h2).le
        simp only [Rs.bind_ok] at e
        cases h3 : fourF s 4 j 0 with
        | bad m => rw [h3] at e; cases e
        | ok z =>
          rw [h3] at e
          have a3 := four_len h3
          simp only [Rs.bind_ok] at e
          split at e
          · cases e
          · cases e
            show i + 4 ≤ z.2
            omega
    · split at e
      · cases e; omega
      · cases e
theorem esL_one (x : Int) : esL [x] = escI x := by unfold esL; simp
theorem esL_app (a b : List Int) : esL (a ++ b) = esL a ++ esL b := by unfold esL; rw [List.flatMap_append]
theorem enc_es {p : Int} (h : isPt p = true) : (esL (enc p)).length ≤ 6 := by
  by_cases hl : p < 128
  · rw [enc_low p hl, esL_one]
    exact esc_len p
  · have hh : ∀ c ∈ enc p, 128 ≤ c := by
      have hr := isPt_range h
      intro c hc
      unfold enc at hc
      rw [if_neg hl] at hc
      (repeat' split at hc) <;> simp at hc <;> omega
    rw [esL_high hh]
    have := (enc_len p).2
    omega
theorem esc_es {s : ByteArray} {i j : Nat} {m : List Int} (e : escM s i = .ok (m, j)) : (esL m).length + i ≤ j + 1 := by
  unfold escM at e
  dsimp only at e
  split at e
  · rename_i hb
    cases e
    rw [esL_one]
    have h2 : (escI (byt s i)).length ≤ 2 := by rcases hb with hb | hb | hb <;> rw [hb] <;> decide
    omega
  split at e
  · cases e; rw [esL_one]; have : (escI 8).length = 2 := rfl; omega
  split at e
  · cases e; rw [esL_one]; have : (escI 12).length = 2 := rfl; omega
  split at e
  · cases e; rw [esL_one]; have : (escI 10).length = 2 := rfl; omega
  split at e
  · cases e; rw [esL_one]; have : (escI 13).length = 2 := rfl; omega
  split at e
  · cases e; rw [esL_one]; have : (escI 9).length = 2 := rfl; omega
  split at e
  · cases hp : pointM s (i + 1) with
    | bad m' => rw [hp] at e; cases e
    | ok x =>
      rw [hp] at e
      have h1 := point_len hp
      have h2 := enc_es (point_asc hp).2
      simp only [Rs.bind_ok] at e
      cases e
      omega
  · cases e
theorem strF_es {s : ByteArray} : ∀ (f j : Nat) (l m : List Int) (k : Nat), strF s f j l = .ok (m, k) → (esL m).length + j + 1 ≤ (esL l).length + k
  | 0, j, l, m, k, e => by cases e
  | f + 1, j, l, m, k, e => by
    rw [strF] at e
    split at e
    · cases e; omega
    split at e
    · cases he : escM s (j + 1) with
      | bad m' => rw [he] at e; cases e
      | ok y =>
        obtain ⟨y1, j'⟩ := y
        rw [he] at e
        have h1 := esc_es he
        have h2 := strF_es f j' _ m k e
        rw [esL_app, List.length_append] at h2
        dsimp only at h2
        omega
    split at e
    · cases e
    · rename_i n1 n2 n3
      have h2 := strF_es f (j + 1) _ m k e
      have h3 : (esL [byt s j]).length = 1 := by
        rw [esL_one, esc_own _ n3]
        · rfl
        · unfold shortI
          rw [if_neg n1, if_neg n2, if_neg (by omega), if_neg (by omega), if_neg (by omega), if_neg (by omega), if_neg (by omega)]
      rw [esL_app, List.length_append, h3] at h2
      omega
theorem strM_es {s : ByteArray} {i k : Nat} {m : List Int} (hw : Tw s i s.size) (e : strM s i = .ok (m, k)) : (quT (mkB m)).size + i ≤ k := by
  have hp := (strM_pt hw e).1
  unfold strM at e
  cases h1 : wordM s [34] i with
  | bad m' => rw [h1] at e; cases e
  | ok j =>
    rw [h1] at e
    obtain ⟨w1, rfl⟩ := word1 h1
    have h := strF_es _ _ _ _ _ e
    have hsz : (quT (mkB m)).size = (esL m).length + 2 := by rw [← bI_len, quT_bI, bI_mk hp.range]; simp
    rw [hsz]
    have e0 : (esL []).length = 0 := rfl
    rw [e0] at h
    omega
theorem num_es {s : ByteArray} {i d : Nat} {n : Int} (hi : i ≤ s.size) (e : numM s i = .ok (n, d)) : (itT n).size + i ≤ d ∧ i64ok n := by
  obtain ⟨h1, h2⟩ := numM_ok hi e
  unfold numM at e
  cases hb : intM s i with
  | bad m => rw [hb] at e; cases e
  | ok b =>
    rw [hb] at e
    simp only [Rs.bind_ok] at e
    split at e
    · rename_i hE
      cases e
      have hr := Nm.read_range _ hE
      refine ⟨?_, hr⟩
      have hx : (s.extract i (expoM s (fracM s b))).size = expoM s (fracM s b) - i := by simp; omega
      have hit : ∀ x, (itT x).size = (Lib.itoa x).length := fun x => rfl
      rcases Nm.itoa_read _ hE with k | ⟨k1, k2⟩
      · rw [hit, k]
        have : (s.extract i (expoM s (fracM s b))).data.toList.length = (s.extract i (expoM s (fracM s b))).size := rfl
        omega
      · rw [k2]
        have : (itT 0).size = 1 := by rw [hit]; simp [Lib.itoa, Lib.decDigits]
        omega
    · cases e
end Go.Proofs.YtoicmcjpaodgpaaDoor
/- Layer 4: what is read is plain, the whole of it (plain). -/
namespace Go.Proofs.YtoicmcjpaodgpaaDoor
open Go.RowKit
theorem cont_end {s : ByteArray} {f kd i0 i1 k : Nat} {obj : Bool} {L M : List CR} {nm : ByteArray} {ns : List ByteArray} (hkd : (kd = 7 ∧ obj = true) ∨ (kd = 6 ∧ obj = false)) (hnm : nm.size ≤ 3000) (h : LS s f obj kd L nm i0 i1 k ns M) : ∃ N, M = L ++ N ∧ SV (f + 1) nm N ∧ wts N + 2 * i0 ≤ 2 * i1 + nw nm + 3 := by
  obtain ⟨C, h1, h2, h3, h4⟩ := h.ex
  have hle := h2.le
  have hlen := h.len
  rw [h1] at hlen
  simp only [List.length_append, List.length_cons, List.length_nil] at hlen
  have hfold := h2.fold 0
  rw [Nat.add_zero, kidsF] at hfold
  refine ⟨⟨kd, nm, ⟨#[]⟩, 0, k⟩ :: C, by rw [h1, List.append_assoc]; rfl, ⟨?_, rfl, Nat.zero_lt_succ _, ?_⟩, ?_⟩
  · have e : gl (⟨kd, nm, ⟨#[]⟩, 0, k⟩ :: C) 0 = ⟨kd, nm, ⟨#[]⟩, 0, k⟩ := rfl
    have ho : oneP ⟨kd, nm, ⟨#[]⟩, 0, k⟩ = true := by
      unfold oneP
      dsimp only
      rw [if_neg (by omega), if_neg (by omega), if_neg (by omega), if_neg (by omega), if_neg (by omega), if_pos (by omega)]
      show (decide ((0 : Int) = 0) && em ⟨#[]⟩ && decide ((0 : Int) ≤ (k : Int))) = true
      rw [decide_eq_true (show (0 : Int) ≤ (k : Int) by omega)]
      rfl
    have hh : headP ⟨kd, nm, ⟨#[]⟩, 0, k⟩ = true := by
      unfold headP
      dsimp only
      rcases hkd with ⟨e1, _⟩ | ⟨e1, _⟩ <;> rw [e1] <;> rfl
    rw [wk_s, e, if_neg (by simp), ho, if_pos rfl, hh, if_pos rfl]
    have hd : decide (kd = 7) = obj := by rcases hkd with ⟨e1, e2⟩ | ⟨e1, e2⟩ <;> rw [e1, e2] <;> rfl
    dsimp only
    rw [hd, Int.toNat_natCast]
    exact hfold
  · intro c hc
    rcases List.mem_cons.1 hc with rfl | hc
    · refine ⟨?_, ?_, hnm, by dsimp only; decide, ⟨by dsimp only; decide, by dsimp only; decide⟩, ⟨by dsimp only; omega, by dsimp only; omega⟩⟩
      · unfold enB
        dsimp only
        rcases hkd with ⟨e1, _⟩ | ⟨e1, _⟩ <;> rw [e1] <;> rfl
      · dsimp only; omega
    · exact h3 c hc
  · rw [wts_cons]
    have ew : wc ⟨kd, nm, ⟨#[]⟩, 0, k⟩ = 2 + nw nm + 1 := by
      unfold wc ow
      dsimp only
      rw [if_neg (by omega), if_neg (by omega), if_neg (by omega)]
    rw [ew]
    omega
theorem leafEnd {s : ByteArray} {f i j : Nat} {L : List CR} {c : CR} (h1 : oneP c = true) (h2 : headP c = false) (h3 : Okc c) (hw : ow c + 1 + 2 * i ≤ 2 * j) (ht : Tw s j s.size) : ∃ N, L ++ [c] = L ++ N ∧ SV f c.nm N ∧ wts N + 2 * i ≤ 2 * j + nw c.nm ∧ Tw s j s.size := by
  refine ⟨[c], rfl, SV.leaf h1 h2 h3, ?_, ht⟩
  rw [wts_cons]
  have e : wts [] = 0 := rfl
  rw [e]
  unfold wc
  omega
theorem ckB_of {t : ByteArray} (h : isTx t = true) (hs : t.size ≤ 3000) : ckB t = true := by
  unfold ckB ckE
  rw [if_neg (by omega), if_pos h]
  rfl
theorem vs_body (s : ByteArray) (hs : s.size ≤ 3000) (f : Nat) (IH : ∀ f', f = f' + 1 → ∀ (op : Nat) (nm : ByteArray) (i : Nat) (L : List CR) (j : Nat) (M : List CR), op + f' = 16 → nm.size ≤ 3000 → Tw s i s.size → i ≤ s.size → L.length ≤ 2048 → valM s (f' + 1) nm op i L = .ok (j, M) → ∃ N, M = L ++ N ∧ SV f' nm N ∧ wts N + 2 * i ≤ 2 * j + nw nm ∧ Tw s j s.size) : ∀ (op : Nat) (nm : ByteArray) (i : Nat) (L : List CR) (j : Nat) (M : List CR), op + f = 16 → nm.size ≤ 3000 → Tw s i s.size → i ≤ s.size → L.length ≤ 2048 → valM s (f + 1) nm op i L = .ok (j, M) → ∃ N, M = L ++ N ∧ SV f nm N ∧ wts N + 2 * i ≤ 2 * j + nw nm ∧ Tw s j s.size := by
  intro op nm i L j M hop hnm hw hi hL e
  obtain ⟨o1, o2, o3, o4, o5⟩ := valM_ok s (f + 1) op nm i L j M hi hL e
  unfold valM at e
  split at e
  · cases e
  split at e
  · cases e
  rename_i h16
  split at e
  · cases e
  rename_i h4
  have hb1 := bl_ge s (i + 1)
  split at e
  · rename_i hb
    have hin : i < s.size := byt_in (by omega)
    obtain ⟨f', rfl⟩ : ∃ f', f = f' + 1 := ⟨f - 1, by omega⟩
    have ih := IH f' rfl
    have hb2 : bl s (i + 1) ≤ s.size := bl_le (by omega)
    obtain ⟨i0', hi0⟩ : ∃ i0', i0' = bl s (i + 1) := ⟨_, rfl⟩
    have hA : Asc s i (bl s (i + 1)) := (Asc.one (by omega)).trans (bl_asc s (i + 1))
    rw [obj_al] at e
    cases ha : alM s (objI s (fun nm' j M => valM s (f' + 1) nm' (op + 1) j M) L.length) 125 (bl s (i + 1)) ([], L ++ [⟨7, nm, ⟨#[]⟩, 0, 0⟩]) with
    | bad m => rw [ha] at e; cases e
    | ok y =>
      rw [ha] at e
      simp only [Rs.bind_ok] at e
      have inv := alM_inv (P := fun i x => ∃ k, LS s f' true 7 L nm i0' i k x.1 x.2) (.inr rfl) (fun i j x ⟨k, h⟩ a hj => ⟨k, h.move a hj⟩) (fun ii x z hii ⟨k, h⟩ ez => by
        unfold objI memM at ez
        cases hst : strM s ii with
        | bad m => rw [hst] at ez; cases ez
        | ok t =>
          obtain ⟨l, k1⟩ := t
          obtain ⟨p1, p2⟩ := strM_pt h.tw hst
          dsimp only at p1 p2
          have p3 := strM_es h.tw hst
          obtain ⟨q1, q2⟩ := strM_ok hst
          rw [hst] at ez
          simp only [Rs.bind_ok] at ez
          split at ez
          · cases ez
          rename_i n1
          split at ez
          · cases ez
          rename_i n2
          cases hc : wordM s [58] (bl s k1) with
          | bad m => rw [hc] at ez; cases ez
          | ok k2 =>
            rw [hc] at ez
            simp only [Rs.bind_ok] at ez
            obtain ⟨w1, rfl⟩ := word1 hc
            have hcin : bl s k1 < s.size := byt_in (by omega)
            have hb3 := bl_ge s k1
            have hb4 := bl_ge s (bl s k1 + 1)
            have hb5 : bl s (bl s k1 + 1) ≤ s.size := bl_le (by omega)
            have tw2 : Tw s (bl s (bl s k1 + 1)) s.size := p2.asc (((bl_asc s k1).trans (Asc.one (by omega))).trans (bl_asc s _)) hb5
            have hmk : (mkB l).size = l.length := mkB_size l
            have hq : (quT (mkB l)).size = (esL l).length + 2 := by rw [← bI_len, quT_bI, bI_mk p1.range]; simp
            have hll := esL_len l
            cases hv : valM s (f' + 1) (mkB l) (op + 1) (bl s (bl s k1 + 1)) x.2 with
            | bad m => rw [hv] at ez; cases ez
            | ok u =>
              obtain ⟨jj, MM⟩ := u
              rw [hv] at ez
              simp only [Rs.bind_ok] at ez
              cases ez
              have hok := valM_ok s (f' + 1) (op + 1) (mkB l) _ _ _ _ hb5 h.len hv
              obtain ⟨N, rfl, sv, wt, tw3⟩ := ih (op + 1) (mkB l) _ x.2 jj _ (by omega) (by omega) tw2 hb5 h.len hv
              have hne : mkB l ≠ ⟨#[]⟩ := fun e0 => n1 (List.eq_nil_of_length_eq_zero (by rw [← hmk, e0]; rfl))
              have hnw : nw (mkB l) = (quT (mkB l)).size + 1 := by unfold nw; rw [if_neg hne]
              have hname : namedP true x.1 (mkB l) = true := by
                unfold namedP
                have e1 : em (mkB l) = false := by
                  cases ee : em (mkB l) with
                  | true => exact absurd (em_eq ee) hne
                  | false => rfl
                have e2 : x.1.any (fun y => decide (y = mkB l)) = false := by
                  cases ee : x.1.any (fun y => decide (y = mkB l)) with
                  | true => exact absurd ee n2
                  | false => rfl
                rw [if_pos rfl, e1, e2, ckB_of p1.tx (by omega)]
                rfl
              have hadd := h.add (j := jj) sv hname (by omega) hok.2.2.2.1 tw3
              exact ⟨⟨k + 1, hadd⟩, hok.2.1, by omega⟩) hb2 ⟨0, ⟨[], by simp, Kd.nil, (by intro c hc; cases hc), by show 0 + _ ≤ _; omega⟩, by simp; omega, hw.asc hA hb2⟩ ha
      obtain ⟨i1, ⟨k, hls⟩, e1, e2, e3⟩ := inv
      obtain ⟨N, c1, c2, c3⟩ := cont_end (.inl ⟨rfl, rfl⟩) hnm hls
      cases e
      have hi1 : i1 < s.size := byt_in (by omega)
      exact ⟨N, c1, c2, by omega, by rw [e1]; exact hls.tw.asc (Asc.one (by omega)) (by omega)⟩
  split at e
  · rename_i hb0 hb
    have hin : i < s.size := byt_in (by omega)
    obtain ⟨f', rfl⟩ : ∃ f', f = f' + 1 := ⟨f - 1, by omega⟩
    have ih := IH f' rfl
    have hb2 : bl s (i + 1) ≤ s.size := bl_le (by omega)
    obtain ⟨i0', hi0⟩ : ∃ i0', i0' = bl s (i + 1) := ⟨_, rfl⟩
    have hA : Asc s i (bl s (i + 1)) := (Asc.one (by omega)).trans (bl_asc s (i + 1))
    rw [lst_al] at e
    have inv := alM_inv (P := fun i x => ∃ k, LS s f' false 6 L nm i0' i k [] x) (.inl rfl) (fun i j x ⟨k, h⟩ a hj => ⟨k, h.move a hj⟩) (fun ii x z hii ⟨k, h⟩ ez => by
      unfold litI at ez
      dsimp only at ez
      cases hv : valM s (f' + 1) ⟨#[]⟩ (op + 1) ii x with
      | bad m => rw [hv] at ez; cases ez
      | ok u =>
        obtain ⟨jj, MM⟩ := u
        rw [hv] at ez
        simp only [Rs.bind_ok] at ez
        cases ez
        have hok := valM_ok s (f' + 1) (op + 1) ⟨#[]⟩ _ _ _ _ hii h.len hv
        obtain ⟨N, rfl, sv, wt, tw3⟩ := ih (op + 1) ⟨#[]⟩ _ x jj _ (by omega) (by decide) h.tw hii h.len hv
        have hnw : nw ⟨#[]⟩ = 0 := rfl
        have hadd := h.add (j := jj) sv rfl (by omega) hok.2.2.2.1 tw3
        exact ⟨⟨k + 1, hadd⟩, hok.2.1, by show ii ≤ jj; omega⟩) hb2 ⟨0, ⟨[], by simp, Kd.nil, (by intro c hc; cases hc), by show 0 + _ ≤ _; omega⟩, by simp; omega, hw.asc hA hb2⟩ e
    obtain ⟨i1, ⟨k, hls⟩, e1, e2, e3⟩ := inv
    obtain ⟨N, c1, c2, c3⟩ := cont_end (.inr ⟨rfl, rfl⟩) hnm hls
    have hi1 : i1 < s.size := byt_in (by omega)
    dsimp only at e1 c1
    exact ⟨N, c1, c2, by omega, by rw [e1]; exact hls.tw.asc (Asc.one (by omega)) (by omega)⟩
  split at e
  · cases hst : strM s i with
    | bad m => rw [hst] at e; cases e
    | ok t =>
      obtain ⟨l, k1⟩ := t
      rw [hst] at e
      simp only [Rs.bind_ok] at e
      cases e
      obtain ⟨p1, p2⟩ := strM_pt hw hst
      dsimp only at p1 p2
      have p4 := (strM_ok hst).2
      have p3 := strM_es hw hst
      have hmk : (mkB l).size = l.length := mkB_size l
      have hq : (quT (mkB l)).size = (esL l).length + 2 := by rw [← bI_len, quT_bI, bI_mk p1.range]; simp
      have hll := esL_len l
      exact leafEnd (c := ⟨3, nm, mkB l, 0, 0⟩) (by unfold oneP; dsimp only; rw [if_neg (by decide), if_neg (by decide), if_neg (by decide), if_pos rfl, ckB_of p1.tx (by omega)]; rfl) rfl ⟨rfl, by dsimp only; decide, hnm, by dsimp only; omega, ⟨by dsimp only; decide, by dsimp only; decide⟩, ⟨by dsimp only; decide, by dsimp only; decide⟩⟩ (by show (quT (mkB l)).size + 1 + 2 * i ≤ _; omega) p2
  split at e
  · cases hst : wordM s [116, 114, 117, 101] i with
    | bad m => rw [hst] at e; cases e
    | ok t =>
      rw [hst] at e
      simp only [Rs.bind_ok] at e
      cases e
      have h5 := wordM_ok _ _ _ (by decide) hi hst
      simp at h5
      exact leafEnd (c := ⟨1, nm, ⟨#[]⟩, 1, 0⟩) rfl rfl ⟨rfl, by dsimp only; decide, hnm, by dsimp only; decide, ⟨by dsimp only; decide, by dsimp only; decide⟩, ⟨by dsimp only; decide, by dsimp only; decide⟩⟩ (by show 5 + 1 + 2 * i ≤ _; omega) (hw.asc (word_asc (by decide) hst) (by omega))
  split at e
  · cases hst : wordM s [102, 97, 108, 115, 101] i with
    | bad m => rw [hst] at e; cases e
    | ok t =>
      rw [hst] at e
      simp only [Rs.bind_ok] at e
      cases e
      have h5 := wordM_ok _ _ _ (by decide) hi hst
      simp at h5
      exact leafEnd (c := ⟨1, nm, ⟨#[]⟩, 0, 0⟩) rfl rfl ⟨rfl, by dsimp only; decide, hnm, by dsimp only; decide, ⟨by dsimp only; decide, by dsimp only; decide⟩, ⟨by dsimp only; decide, by dsimp only; decide⟩⟩ (by show 5 + 1 + 2 * i ≤ _; omega) (hw.asc (word_asc (by decide) hst) (by omega))
  split at e
  · cases hst : wordM s [110, 117, 108, 108] i with
    | bad m => rw [hst] at e; cases e
    | ok t =>
      rw [hst] at e
      simp only [Rs.bind_ok] at e
      cases e
      have h5 := wordM_ok _ _ _ (by decide) hi hst
      simp at h5
      exact leafEnd (c := ⟨0, nm, ⟨#[]⟩, 0, 0⟩) rfl rfl ⟨rfl, by dsimp only; decide, hnm, by dsimp only; decide, ⟨by dsimp only; decide, by dsimp only; decide⟩, ⟨by dsimp only; decide, by dsimp only; decide⟩⟩ (by show 5 + 1 + 2 * i ≤ _; omega) (hw.asc (word_asc (by decide) hst) (by omega))
  · cases hst : numM s i with
    | bad m => rw [hst] at e; cases e
    | ok t =>
      obtain ⟨n, d⟩ := t
      rw [hst] at e
      simp only [Rs.bind_ok] at e
      cases e
      obtain ⟨n1, n2⟩ := num_es hi hst
      have n3 := numM_ok hi hst
      exact leafEnd (c := ⟨2, nm, ⟨#[]⟩, n, 0⟩) rfl rfl ⟨rfl, by dsimp only; decide, hnm, by dsimp only; decide, n2, ⟨by dsimp only; decide, by dsimp only; decide⟩⟩ (by show (itT n).size + 1 + 2 * i ≤ _; omega) (hw.asc (num_asc hst) n3.2)
theorem vs_all {s : ByteArray} (hs : s.size ≤ 3000) : ∀ (f op : Nat) (nm : ByteArray) (i : Nat) (L : List CR) (j : Nat) (M : List CR), op + f = 16 → nm.size ≤ 3000 → Tw s i s.size → i ≤ s.size → L.length ≤ 2048 → valM s (f + 1) nm op i L = .ok (j, M) → ∃ N, M = L ++ N ∧ SV f nm N ∧ wts N + 2 * i ≤ 2 * j + nw nm ∧ Tw s j s.size := by
  intro f
  induction f with
  | zero =>
    intro op nm i L j M hop hnm hw hi hL e
    exact vs_body s hs 0 (fun f' hf => by omega) op nm i L j M hop hnm hw hi hL e
  | succ f ih =>
    intro op nm i L j M hop hnm hw hi hL e
    exact vs_body s hs (f + 1) (fun f' hf => by obtain rfl : f' = f := by omega
                                                exact ih) op nm i L j M hop hnm hw hi hL e
end Go.Proofs.YtoicmcjpaodgpaaDoor
/- Layer 4, the document's Read: what is left of a bracket's items (plain). -/
namespace Go.Proofs.YtoicmcjpaodgpaaDoor
open Go.RowKit Go.Maps
/-- What is left, at an item's end, tells Y. -/
def Cont (s : ByteArray) (it : Nat → Itm → Rs (Nat × Itm)) (shut : Int) (i : Nat) (x : Itm) (Y : Rs (Nat × Itm)) : Prop :=
  (x = (0, [], []) ∧ alM s it shut i (0, [], []) = Y) ∨ (0 < x.1 ∧ ∃ f, s.size - i + 1 ≤ f ∧ alF s it shut f i x = Y)
/-- What is left, ahead of an item, tells Y. -/
def Nxt (s : ByteArray) (it : Nat → Itm → Rs (Nat × Itm)) (shut : Int) (i0 i : Nat) (x : Itm) (Y : Rs (Nat × Itm)) : Prop :=
  ∃ g : Nat → Nat, (∀ j, i0 < j → j ≤ s.size → s.size - j + 1 ≤ g j) ∧ (it i x).bind (fun y => alF s it shut (g y.1) (bl s y.1) y.2) = Y
theorem Cont.fin {s : ByteArray} {it : Nat → Itm → Rs (Nat × Itm)} {shut : Int} {i : Nat} {x : Itm} {Y : Rs (Nat × Itm)} (h : Cont s it shut i x Y) (hb : byt s i = shut) (h44 : shut ≠ 44) : Y = .ok (i + 1, x) := by
  rcases h with ⟨rfl, e⟩ | ⟨h0, f, hf, e⟩
  · rw [← e]; unfold alM; rw [if_pos hb]
  · obtain ⟨f, rfl⟩ : ∃ k, f = k + 1 := ⟨f - 1, by omega⟩
    rw [← e]; unfold alF; rw [if_neg (by rw [hb]; exact h44)]
    unfold wordM; rw [if_pos hb]; rfl
theorem Cont.next0 {s : ByteArray} {it : Nat → Itm → Rs (Nat × Itm)} {shut : Int} {i : Nat} {x : Itm} {Y : Rs (Nat × Itm)} (h : Cont s it shut i x Y) (hb : byt s i ≠ shut) (h0 : x.1 = 0) : Nxt s it shut i i x Y := by
  rcases h with ⟨rfl, e⟩ | ⟨h1, _⟩
  · refine ⟨fun j => s.size - j + 1, fun j _ _ => Nat.le_refl _, ?_⟩
    rw [← e]; unfold alM; rw [if_neg hb]
  · omega
theorem Cont.nextc {s : ByteArray} {it : Nat → Itm → Rs (Nat × Itm)} {shut : Int} {i : Nat} {x : Itm} {Y : Rs (Nat × Itm)} (h : Cont s it shut i x Y) (hb : byt s i = 44) (h0 : 0 < x.1) : Nxt s it shut i (bl s (i + 1)) x Y := by
  rcases h with ⟨rfl, e⟩ | ⟨h1, f, hf, e⟩
  · exact absurd h0 (Nat.lt_irrefl 0)
  · obtain ⟨f, rfl⟩ : ∃ k, f = k + 1 := ⟨f - 1, by omega⟩
    refine ⟨fun _ => f, fun j h1 h2 => by show s.size - j + 1 ≤ f; omega, ?_⟩
    rw [← e]; conv => rhs; unfold alF
    rw [if_pos hb]
theorem Cont.bad {s : ByteArray} {it : Nat → Itm → Rs (Nat × Itm)} {shut : Int} {i : Nat} {x : Itm} {Y : Rs (Nat × Itm)} (h : Cont s it shut i x Y) (hb : byt s i ≠ shut) (hc : byt s i ≠ 44) (h0 : 0 < x.1) : Y = .bad 40 := by
  rcases h with ⟨rfl, e⟩ | ⟨h1, f, hf, e⟩
  · exact absurd h0 (Nat.lt_irrefl 0)
  · obtain ⟨f, rfl⟩ : ∃ k, f = k + 1 := ⟨f - 1, by omega⟩
    rw [← e]; unfold alF; rw [if_neg hc]
    unfold wordM; rw [if_neg hb]; rfl
theorem Nxt.ok {s : ByteArray} {it : Nat → Itm → Rs (Nat × Itm)} {shut : Int} {i0 i : Nat} {x : Itm} {Y y : _} (h : Nxt s it shut i0 i x Y) (e : it i x = .ok y) (h1 : i0 < y.1) (h2 : y.1 ≤ s.size) (h3 : 0 < y.2.1) : Cont s it shut (bl s y.1) y.2 Y := by
  obtain ⟨g, hg, q⟩ := h
  rw [e] at q
  have := hg y.1 h1 h2
  have hb := bl_ge s y.1
  exact .inr ⟨h3, g y.1, by omega, q⟩
theorem Nxt.bad {s : ByteArray} {it : Nat → Itm → Rs (Nat × Itm)} {shut : Int} {i0 i : Nat} {x : Itm} {Y : _} {m : Int} (h : Nxt s it shut i0 i x Y) (e : it i x = .bad m) : Y = .bad m := by
  obtain ⟨g, hg, q⟩ := h
  rw [e] at q
  exact q.symm
/-- What is known of a value that is read. -/
theorem valR_ok {s : ByteArray} (hs : s.size ≤ 3000) {f op i j : Nat} {nm : ByteArray} {L N : List CR} (hop : op + f = 17) (hnm : nm.size ≤ 3000) (hi : i ≤ s.size) (hL : 2 * L.length ≤ i + op) (hw : Tw s i s.size) (e : valR s f nm op i = .ok (j, N)) : i < j ∧ j ≤ s.size ∧ 2 * (L ++ N).length ≤ j + op + 1 ∧ Tw s j s.size := by
  have hb := bl_ge s i
  have hb2 := bl_le hi
  have q := valM_R hs f op i nm L hop (by omega)
  rw [e] at q
  simp only [Rs.bind_ok] at q
  have k1 := valM_ok s f op nm (bl s i) L j (L ++ N) hb2 (by omega) q
  have k2 := valM_few f op nm (bl s i) L j (L ++ N) (by omega) q
  obtain ⟨f, rfl⟩ : ∃ k, f = k + 1 := by
    cases f with
    | zero => cases e
    | succ f => exact ⟨f, rfl⟩
  obtain ⟨_, _, _, _, k3⟩ := vs_all hs f op nm (bl s i) L j (L ++ N) (by omega) hnm (hw.asc (bl_asc s i) hb2) hb2 (by omega) q
  exact ⟨by omega, k1.2.1, k2, k3⟩
theorem numM_bad {s : ByteArray} {i : Nat} {m : Int} (e : numM s i = .bad m) : m ≠ 0 := by
  unfold numM at e
  cases hb : intM s i with
  | bad m' =>
    rw [hb] at e
    cases e
    unfold intM at hb
    dsimp only at hb
    generalize (if byt s i = 45 then i + 1 else i) = a at hb
    split at hb
    · cases hb
    · split at hb
      · cases hb; decide
      · cases hb
  | ok b =>
    rw [hb] at e
    simp only [Rs.bind_ok] at e
    split at e
    · cases e
    · cases e; decide
theorem strM_bad {s : ByteArray} {i : Nat} {m : Int} (hw : Tw s i s.size) (e : strM s i = .bad m) : m = 40 := by
  rw [strM_P hw] at e
  cases h1 : wordM s [34] i with
  | bad m' => rw [h1] at e; cases e; exact wordM_bad _ _ _ h1
  | ok j =>
    rw [h1] at e
    simp only [Rs.bind_ok] at e
    cases h2 : stP s (s.size - j + 1) j [] with
    | bad m' => rw [h2] at e; cases e; exact stP_bad _ _ _ _ h2
    | ok y => rw [h2] at e; cases e
theorem conv_one (c : Int) (w : World) (h0 : 0 ≤ c) (h1 : c < 256) : (convert 44 9 (.slice (some ⟨w.heap.size, 0, none⟩) 1 1)).run Tryd.prog (w.alloc (.cells #[.int .u8 c] 5)) = .ok (.string (mkB [c])) (w.alloc (.cells #[.int .u8 c] 5)) := by
  have ho := World.ownsRow_lit (base := w.heap.size) (e := 5) (size := 1) w #[.int .u8 c] 1 (Nat.le_refl _) (by unfold maxLen; omega) rfl
  exact conv_own (L := [c]) ho (fun x hx => by obtain rfl := List.mem_singleton.1 hx; exact ⟨h0, h1⟩)
end Go.Proofs.YtoicmcjpaodgpaaDoor
/- Layer 4, the document's Read: a value where an error stands; a list. -/
namespace Go.Proofs.YtoicmcjpaodgpaaDoor
open Go.RowKit Go.Maps
set_option maxRecDepth 20000 in
set_option maxHeartbeats 1000000 in
theorem rvalue_err {p i : Nat} {s : ByteArray} {v : Value} {L : List CR} {e0 : Int} (nm : ByteArray) (op : Int) (w : World) (h : RfB w p s i v L e0) (he : e0 ≠ 0) (hs : s.size ≤ 1000000) (hi : i ≤ s.size) : Calls Tryd.prog 23 #[.pointer (some ⟨p, 0, none⟩), .string nm, .int .i64 op] w fun e w' => e = .returned (.tuple #[]) ∧ RfB w' p s i v L e0 ∧ Fr p v v w w' := by
  have HB := Lib.hid (rblanks_err w h he hs hi)
  have HLK := Lib.hid (fun W (r : RfB W p s i v L e0) => rlook_any W r (by omega) (by omega))
  have e1 : lk s e0 i = 0 := by unfold lk; rw [if_neg he]
  rw [e1] at HLK
  have hb : (e0 == 0) = false := beq_eq_false_iff_ne.2 he
  have hb2 : (e0 != 0) = true := by simp [he]
  clear h e1 hs hi he
  go_enter Tryd.func23, Tryd.ntmps23
  go_wp2_with fail
  refine HB.out.mono ?_
  rintro e w1 ⟨rfl, r1, f1⟩
  have R1 := Lib.hid (And.intro r1 f1)
  clear r1 f1
  go_wp2_with fail
  refine (HLK.out _ R1.out.1).mono ?_
  rintro e w2 ⟨rfl, d⟩
  have R2 := Lib.hid (And.intro (R1.out.1.dr d).1 (R1.out.2.trans (R1.out.1.dr d).2))
  have c3 := R2.out.1.c3
  clear d
  go_wp2_with fail
  (try simp only [Exit.inBlock, Exit.then])
  refine bodyPost_ret (results_none rfl _ _ _) rfl ?_
  exact ⟨rfl, R2.out.1, R2.out.2⟩
/-- An error is noted; where the reader stands, and what it holds, is left open. -/
def MnE (p : Nat) (s : ByteArray) (v : Value) (w W : World) (m : Int) : Prop := ∃ (vr : Value) (L : List CR) (j : Nat), j ≤ s.size ∧ RfB W p s j vr L m ∧ Fr p v vr w W
/-- What a value ends in. -/
def RfW (p : Nat) (s : ByteArray) (v : Value) (L : List CR) (w : World) (x : Rs (Nat × List CR)) (e : Ending) (w' : World) : Prop := match x with
  | .ok r => e = .returned (.tuple #[]) ∧ ∃ v', RfB w' p s r.1 v' (L ++ r.2) 0 ∧ Fr p v v' w w'
  | .bad m => e = .returned (.tuple #[]) ∧ m ≠ 0 ∧ MnE p s v w w' m
/-- A value is read, so many more brackets being allowed (one more than they). -/
def VR (s : ByteArray) (f : Nat) : Prop := ∀ (p i op : Nat) (ov : Int) (v : Value) (L : List CR) (nm : ByteArray) (w : World), ov = (op : Int) → op + f = 17 → op ≤ 16 → nm.size ≤ 3000 → RfB w p s i v L 0 → i ≤ s.size → Tw s i s.size → 2 * L.length ≤ i + op → Calls Tryd.prog 23 #[.pointer (some ⟨p, 0, none⟩), .string nm, .int .i64 ov] w (RfW p s v L w (valR s f nm op i))
/-- What brackets end in. -/
def RfM (p : Nat) (s : ByteArray) (v : Value) (L0 : List CR) (K : Nat) (nm : ByteArray) (w : World) (x : Rs (Nat × Itm)) (e : Ending) (w' : World) : Prop := match x with
  | .ok y => e = .returned (.tuple #[]) ∧ ∃ v', RfB w' p s y.1 v' (L0 ++ [⟨K, nm, ⟨#[]⟩, 0, y.2.1⟩] ++ y.2.2.2) 0 ∧ Fr p v v' w w'
  | .bad m => e = .returned (.tuple #[]) ∧ m ≠ 0 ∧ MnE p s v w w' m
/-- Within brackets: the reader, and the names. -/
structure MnS (B p : Nat) (s : ByteArray) (v : Value) (M : List CR) (w W : World) (i : Nat) (e : Int) (vr vn : Value) (names : List ByteArray) : Prop where
  rd : RfB W p s i vr M e
  fr : Fr p v vr w W
  own : OwN B W vn names
  apart : ∀ k, vn.ownBlock = some k → vr.ownBlock ≠ some k
theorem MnS.step {B p : Nat} {s : ByteArray} {v : Value} {M M' : List CR} {w W W' : World} {i i' : Nat} {e e' : Int} {vr vr' vn : Value} {names : List ByteArray} (h : MnS B p s v M w W i e vr vn names) (r : RfB W' p s i' vr' M' e') (f : Fr p vr vr' W W') (hp : p < B) : MnS B p s v M' w W' i' e' vr' vn names :=
  ⟨r, h.fr.trans f, (h.own.fr f hp h.apart).1, (h.own.fr f hp h.apart).2⟩
theorem MnS.below {B p : Nat} {s : ByteArray} {v : Value} {M : List CR} {w W W' : World} {i : Nat} {e : Int} {vr vn : Value} {names : List ByteArray} (h : MnS B p s v M w W i e vr vn names) (b : Below W.heap.size W W') (hp : p < B) : MnS B p s v M w W' i e vr vn names :=
  h.step (h.rd.below b).1 (h.rd.below b).2 hp
theorem MnS.err {B p : Nat} {s : ByteArray} {v : Value} {M L' : List CR} {w W W' : World} {i j : Nat} {e : Int} {vr vr' vn : Value} {names : List ByteArray} {m : Int} (h : MnS B p s v M w W i e vr vn names) (r : RfB W' p s j vr' L' m) (f : Fr p vr vr' W W') (hj : j ≤ s.size) : MnE p s v w W' m :=
  ⟨vr', L', j, hj, r, h.fr.trans f⟩
theorem MnS.addn {B p : Nat} {s : ByteArray} {v : Value} {M : List CR} {w W W' : World} {i : Nat} {e : Int} {vr vn vn' : Value} {names : List ByteArray} {x : ByteArray} (h : MnS B p s v M w W i e vr vn names) (hB : B = w.heap.size) (o : Obj) (ho : W'.ownsRow B 9 1 vn' (names.length + 1) (names.map Value.string ++ [.string x])) (hg : (W.alloc o).grownBy W' vn.ownBlock) (ha : vn'.ownBlock = vn.ownBlock ∨ vn'.ownBlock = some (W.alloc o).heap.size) (hp : p < B) : MnS B p s v M w W' i e vr vn' (names ++ [x]) := by
  have hs : (W.alloc o).heap.size = W.heap.size + 1 := by simp
  have kept : ∀ k, k < W.heap.size → vn.ownBlock ≠ some k → W'.heap[k]? = W.heap[k]? := fun k h1 h2 => (hg.block k (by omega) (fun e => h2 e.symm)).trans (heap_alloc_old _ _ h1)
  have hsz : W.heap.size ≤ W'.heap.size := Nat.le_trans (by omega) hg.size
  refine ⟨⟨?_, ?_⟩, ⟨hg.os.trans h.fr.os, hg.tape.trans h.fr.tape, hg.output.trans h.fr.output, Nat.le_trans h.fr.size hsz, fun j h1 h2 h3 => ?_, h.fr.own⟩, ⟨by rw [List.length_append, List.map_append]; exact ho, Nat.le_trans h.own.2 hsz⟩, fun k hk hv => ?_⟩
  · rw [kept p h.rd.lt (fun e => by have := (h.own.1.lt p e).1; omega)]
    exact h.rd.box
  · exact own_move h.rd.row (fun j hj => kept j (h.rd.row.lt j hj).2 (fun e => h.apart j e hj))
  · rw [kept j (Nat.lt_of_lt_of_le h1 h.fr.size) (fun e => by have := (h.own.1.lt j e).1; omega)]
    exact h.fr.kept j h1 h2 h3
  · rcases ha with ha | ha
    · exact h.apart k (ha ▸ hk) hv
    · rw [ha] at hk
      cases hk
      have := (h.rd.row.lt _ hv).2
      omega
theorem set_mid (L N : List CR) (c c' : CR) : (L ++ [c] ++ N).set L.length c' = L ++ [c'] ++ N := by simp
theorem gl_mid (L N : List CR) (c : CR) : gl (L ++ [c] ++ N) L.length = c := by unfold gl; simp [List.getD]
theorem byt_one (c : Int) (h0 : 0 ≤ c) (h1 : c < 256) : bI (mkB [c]) = [c] ∧ byt (mkB [c]) 0 = c := by
  have e : bI (mkB [c]) = [c] := bI_mk (fun x hx => by obtain rfl := List.mem_singleton.1 hx; exact ⟨h0, h1⟩)
  refine ⟨e, ?_⟩
  have q := bI_at (mkB [c]) 0 (by rw [mkB_size]; exact Nat.one_pos)
  rw [e] at q
  exact (Option.some.inj q).symm
theorem Nxt.obj {s : ByteArray} {V : ByteArray → Nat → Rs (Nat × List CR)} {shut : Int} {i0 i n : Nat} {names : List ByteArray} {N : List CR} {Y : Rs (Nat × Itm)} (h : Nxt s (itO s V) shut i0 i (n, names, N) Y) : (∀ m, strM s i = .bad m → Y = .bad m) ∧ ∀ t, strM s i = .ok t → (t.1 = [] → Y = .bad 8) ∧ (t.1 ≠ [] → (names.any (fun y => decide (y = mkB t.1)) = true → Y = .bad 42) ∧ (names.any (fun y => decide (y = mkB t.1)) = false → (∀ m, wordM s [58] (bl s t.2) = .bad m → Y = .bad m) ∧ ∀ k, wordM s [58] (bl s t.2) = .ok k → (∀ m, V (mkB t.1) k = .bad m → Y = .bad m) ∧ ∀ j N2, V (mkB t.1) k = .ok (j, N2) → i0 < j → j ≤ s.size → Cont s (itO s V) shut (bl s j) (n + 1, names ++ [mkB t.1], N ++ N2) Y)) := by
  refine ⟨fun m e => h.bad (by unfold itO; rw [e]; rfl), fun t e => ⟨fun e1 => h.bad (by unfold itO; rw [e, Rs.bind_ok, if_pos e1]), fun e1 => ⟨fun e2 => h.bad (by unfold itO; rw [e, Rs.bind_ok, if_neg e1, if_pos e2]), fun e2 => ⟨fun m e3 => h.bad (by unfold itO; rw [e, Rs.bind_ok, if_neg e1, if_neg (by rw [e2]; decide), e3]; rfl), fun k e3 => ⟨fun m e4 => h.bad (by unfold itO; rw [e, Rs.bind_ok, if_neg e1, if_neg (by rw [e2]; decide), e3, Rs.bind_ok, e4]; rfl), fun j N2 e4 h1 h2 => ?_⟩⟩⟩⟩⟩
  exact h.ok (y := (j, (n + 1, names ++ [mkB t.1], N ++ N2))) (by unfold itO; rw [e, Rs.bind_ok, if_neg e1, if_neg (by rw [e2]; decide), e3, Rs.bind_ok, e4]; rfl) h1 h2 (Nat.succ_pos n)
theorem str_size {s : ByteArray} {i k : Nat} {m : List Int} (hw : Tw s i s.size) (e : strM s i = .ok (m, k)) : m.length ≤ k := by
  have h := strM_es hw e
  have p1 := (strM_pt hw e).1
  have hq : (quT (mkB m)).size = (esL m).length + 2 := by rw [← bI_len, quT_bI, bI_mk p1.range]; simp
  have hl := esL_len m
  omega
theorem Nxt.list {s : ByteArray} {V : ByteArray → Nat → Rs (Nat × List CR)} {shut : Int} {i0 i n : Nat} {names : List ByteArray} {N : List CR} {Y : Rs (Nat × Itm)} (h : Nxt s (itL V) shut i0 i (n, names, N) Y) : (∀ m, V ⟨#[]⟩ i = .bad m → Y = .bad m) ∧ ∀ j N2, V ⟨#[]⟩ i = .ok (j, N2) → i0 < j → j ≤ s.size → Cont s (itL V) shut (bl s j) (n + 1, names, N ++ N2) Y := by
  refine ⟨fun m e => h.bad (by unfold itL; rw [e]; rfl), fun j N2 e h1 h2 => ?_⟩
  exact h.ok (y := (j, (n + 1, names, N ++ N2))) (by unfold itL; rw [e]; rfl) h1 h2 (Nat.succ_pos n)
set_option maxRecDepth 20000 in
set_option maxHeartbeats 0 in
theorem rmanyL_any {s nm : ByteArray} {p op i f : Nat} {v : Value} {L0 : List CR} (w : World) (hV : VR s f) (hop : op + 1 + f = 17) (hop2 : op ≤ 15) (h : RfB w p s i v (L0 ++ [⟨6, nm, ⟨#[]⟩, 0, 0⟩]) 0) (hb : byt s i = 91) (hs : s.size ≤ 3000) (hw : Tw s i s.size) (hL : 2 * (L0.length + 1) ≤ i + 1 + (op + 1)) : Calls Tryd.prog 37 #[.pointer (some ⟨p, 0, none⟩), .int .i64 L0.length, .int .i64 op] w (RfM p s v L0 6 nm w (alM s (itL (fun nm' j => valR s f nm' (op + 1) j)) 93 (bl s (i + 1)) (0, [], []))) := by
  have hi := byt_in (s := s) (i := i) (by omega)
  have HV := Lib.hid hV
  obtain ⟨V, hVV⟩ : ∃ V : ByteArray → Nat → Rs (Nat × List CR), V = fun nm' j => valR s f nm' (op + 1) j := ⟨_, rfl⟩
  rw [← hVV]
  have HVV : Hid (∀ nm' j, V nm' j = valR s f nm' (op + 1) j) := Lib.hid (fun nm' j => by rw [hVV])
  obtain ⟨Y, hY⟩ : ∃ Y, Y = alM s (itL V) 93 (bl s (i + 1)) (0, [], []) := ⟨_, rfl⟩
  rw [← hY]
  have HY0 : Hid (Cont s (itL V) 93 (bl s (i + 1)) (0, [], []) Y) := Lib.hid (.inl ⟨rfl, hY.symm⟩)
  have HLT : Hid (p < w.heap.size) := Lib.hid h.lt
  have HTW : Hid (Tw s (bl s (i + 1)) s.size) := Lib.hid (hw.asc ((Asc.one (by omega)).trans (bl_asc s (i + 1))) (bl_le (by omega)))
  have hbl := bl_ge s (i + 1)
  have hbl2 : bl s (i + 1) ≤ s.size := bl_le (by omega)
  have HLK := Lib.hid (rlook_any w h (by omega) (by omega))
  have e1 : lk s 0 i = 91 := hb
  rw [e1] at HLK
  have H := Lib.hid h
  have hopi : ((op : Int) == 16) = false := beq_eq_false_iff_ne.2 (by omega)
  have hop3 : (op : Int) ≤ 15 := by omega
  have hii : (i : Int) ≤ 3000 := by omega
  have hlen : L0.length ≤ 2000 := by omega
  obtain ⟨k, hk⟩ : ∃ k, k = L0.length := ⟨_, rfl⟩
  have HK := Lib.hid hk
  rw [← hk]
  have hk0 : (0 : Int) ≤ (k : Int) := by omega
  obtain ⟨B, hB⟩ : ∃ B, B = w.heap.size := ⟨_, rfl⟩
  rw [← hB] at HLT
  have HB := Lib.hid hB
  obtain ⟨i9, hi9⟩ : ∃ i9, i9 = bl s (i + 1) := ⟨_, rfl⟩
  rw [← hi9] at HY0 HTW hbl hbl2
  have HI9 := Lib.hid hi9
  clear h hb e1 hV hVV hY hk hB hi9 hw
  go_enter Tryd.func37, Tryd.ntmps37
  go_wp2_with fail
  refine HLK.out.mono ?_
  rintro e w1 ⟨rfl, d⟩
  have R1 := Lib.hid (H.out.dr d)
  clear d
  have c1 := R1.out.1.c1
  have z1 := R1.out.1.z 1
  have hat := R1.out.1.at_ (i + 1) ((i : Int) + 1) (by omega)
  have R2 := Lib.hid (And.intro hat.1 (R1.out.2.trans hat.2))
  clear hat
  go_wp2_with fail
  refine (rblanks_any _ R2.out.1 (by omega) (by omega)).mono ?_
  rintro e w3 ⟨rfl, r3, f3⟩
  rw [← HI9.out] at r3
  have hf3 := (R2.out.2.trans f3)
  have HS0 : Hid (MnS B p s v (L0 ++ [⟨6, nm, ⟨#[]⟩, 0, 0⟩]) w w3 i9 0 v (.slice none 0 0) []) := Lib.hid ⟨r3, hf3, OwN.nil (by rw [HB.out]; exact hf3.size), fun _ e => by cases e⟩
  clear r3 f3 hf3 c1 z1
  go_wp2_with fail
  go_loopg [8, 9, 10] (s.size + 2) (fun f8 v8 v9 _ wr => ∃ (n : Nat) (vn : Value), 1 ≤ f8 ∧ v9 = .int .i64 n ∧ vn = v8 ∧ ((∃ (i1 : Nat) (vr : Value) (N M : List CR) (names : List ByteArray), s.size - i1 + 2 ≤ f8 ∧ i1 ≤ s.size ∧ n ≤ i1 ∧ names.length ≤ i1 ∧ M.length ≤ 2000 ∧ Hid (M = L0 ++ [⟨6, nm, ⟨#[]⟩, 0, 0⟩] ++ N) ∧ Hid (MnS B p s v M w wr i1 0 vr vn names ∧ Tw s i1 s.size ∧ 2 * M.length ≤ i1 + (op + 1) + 1 ∧ (n = 0 → 2 * M.length ≤ i1 + (op + 1)) ∧ Cont s (itL V) 93 i1 (n, names, N) Y)) ∨ (∃ m, Hid (MnE p s v w wr m ∧ m ≠ 0 ∧ Y = .bad m))))
  case atStart => exact ⟨0, _, by omega, rfl, rfl, .inl ⟨i9, v, [], _, [], by omega, hbl2, Nat.zero_le _, Nat.zero_le _, by simp; omega, Lib.hid (List.append_nil _).symm, Lib.hid ⟨HS0.out, HTW.out, by simp; omega, fun _ => by simp; omega, HY0.out⟩⟩⟩
  case round =>
    obtain ⟨n, vn, hf1, rfl, rfl, hmode⟩ := hrel
    rcases hmode with ⟨i1, vr, N, M, names, hf8, hi1, hn1, hnl, hM, HM, HS⟩ | ⟨m, HE⟩
    · have c3 := HS.out.1.rd.c3
      have HLK1 := Lib.hid (rlook_any wr HS.out.1.rd (by omega) (by omega))
      have e1 : lk s 0 i1 = byt s i1 := rfl
      rw [e1] at HLK1
      have hni : (n : Int) ≤ 3000 := by omega
      have hn0 : (0 : Int) ≤ n := by omega
      have hbr := byt_range s i1
      have HIN : Hid (byt s i1 ≠ 0 → i1 < s.size) := Lib.hid (fun e => byt_in e)
      have HBY : Hid (∀ b, b = byt s i1 → (b = 93 → Y = .ok (i1 + 1, (n, names, N)) ∧ wordM s [93] i1 = .ok (i1 + 1)) ∧ (b ≠ 93 → (n = 0 → Nxt s (itL V) 93 i1 i1 (n, names, N) Y) ∧ (0 < n → b = 44 → Nxt s (itL V) 93 i1 (bl s (i1 + 1)) (n, names, N) Y ∧ wordM s [44] i1 = .ok (i1 + 1) ∧ Tw s (bl s (i1 + 1)) s.size) ∧ (0 < n → b ≠ 44 → Y = .bad 40 ∧ wordM s [44] i1 = .bad 40))) := Lib.hid (fun b e => by
        subst e
        refine ⟨fun e => ⟨HS.out.2.2.2.2.fin e (by decide), by unfold wordM; rw [if_pos e]; rfl⟩, fun e => ⟨fun h0 => HS.out.2.2.2.2.next0 e h0, fun h0 h44 => ⟨HS.out.2.2.2.2.nextc h44 h0, by unfold wordM; rw [if_pos h44]; rfl, ?_⟩, fun h0 h44 => ⟨HS.out.2.2.2.2.bad e h44 h0, by unfold wordM; rw [if_neg h44]⟩⟩⟩
        have := byt_in (s := s) (i := i1) (by omega)
        exact HS.out.2.1.asc ((Asc.one (by omega)).trans (bl_asc s (i1 + 1))) (bl_le (by omega)))
      obtain ⟨b, hb⟩ : ∃ b, b = byt s i1 := ⟨_, rfl⟩
      rw [← hb] at HLK1 hbr HIN
      have HBB := Lib.hid (HBY.out b hb)
      clear hb HBY e1
      by_cases hsh : b = 93
      · have HY := Lib.hid (HBB.out.1 hsh)
        subst hsh
        clear HBB
        go_wp2_with fail
        refine HLK1.out.mono ?_
        rintro e w4 ⟨rfl, d⟩
        have S4 := Lib.hid (HS.out.1.step (HS.out.1.rd.dr d).1 (HS.out.1.rd.dr d).2 HLT.out)
        clear d
        have cv := conv_one 93 w4 (by decide) (by decide)
        have S5 := Lib.hid (S4.out.below (W' := w4.alloc (.cells #[.int .u8 93] 5)) ((Below.refl _ _).alloc (Nat.le_refl _) _) HLT.out)
        have HTK := Lib.hid (rtake_any (mkB [93]) _ S5.out.rd (by omega) hi1 (by rw [mkB_size]; decide) (by rw [(byt_one 93 (by decide) (by decide)).1]; decide))
        rw [(byt_one 93 (by decide) (by decide)).1, HY.out.2] at HTK
        go_wp2_with fail
        refine HTK.out.mono ?_
        rintro e w6 ⟨rfl, r6, f6⟩
        have S6 := Lib.hid (S5.out.step r6 f6 HLT.out)
        clear r6 f6 cv
        have hkM : k < M.length := by rw [HM.out, HK.out]; simp
        have hkMi : (k : Int) < M.length := by omega
        have c3 := S6.out.rd.c3
        obtain ⟨q, cap, rfl, hpq, hqw⟩ := S6.out.rd.addr (by omega)
        have c2 := S6.out.rd.c2
        have d4 := (S6.out.rd.cells hkM).2.2.2.2
        have z4 := S6.out.rd.cellz (k * 5 + 4)
        have hgm : gl M k = ⟨6, nm, ⟨#[]⟩, 0, 0⟩ := by rw [HM.out, HK.out]; exact gl_mid _ _ _
        rw [hgm] at d4
        dsimp only at d4
        have R7 := Lib.hid (S6.out.rd.setF hpq hkM 4 (by decide) (.int .i64 n) ⟨6, nm, ⟨#[]⟩, 0, n⟩ (by rw [hgm]; rfl))
        have hset : M.set k ⟨6, nm, ⟨#[]⟩, 0, n⟩ = L0 ++ [⟨6, nm, ⟨#[]⟩, 0, n⟩] ++ N := by rw [HM.out, HK.out]; exact set_mid _ _ _ _
        rw [hset] at R7
        clear hgm hset hpq hqw
        go_wp2_with fail
        go_end0
        rw [HY.out.1]
        exact ⟨rfl, _, R7.out.1, S6.out.fr.trans R7.out.2⟩
      · have HBC := Lib.hid (HBB.out.2 hsh)
        have hne : (b != 93) = true := by simp [hsh]
        clear HBB
        go_wp2_with fail
        refine HLK1.out.mono ?_
        rintro e w4 ⟨rfl, d⟩
        have S4 := Lib.hid (HS.out.1.step (HS.out.1.rd.dr d).1 (HS.out.1.rd.dr d).2 HLT.out)
        clear d
        go_upto_if 40 with fail
        go_cut [] (fun wx => Hid ((∃ (i2 : Nat) (vr2 : Value), i1 ≤ i2 ∧ i2 ≤ s.size ∧ MnS B p s v M w wx i2 0 vr2 vn names ∧ Tw s i2 s.size ∧ 2 * M.length ≤ i2 + (op + 1) ∧ Nxt s (itL V) 93 i1 i2 (n, names, N) Y) ∨ (Y = .bad 40 ∧ ∃ (j5 : Nat) (vr5 : Value), j5 ≤ s.size ∧ MnS B p s v M w wx j5 40 vr5 vn names)))
        case first =>
          by_cases h0 : n = 0
          · have hq : ¬ (0 : Int) < (n : Int) := by omega
            have HX := Lib.hid (HBC.out.1 h0)
            have HLEN := Lib.hid (HS.out.2.2.2.1 h0)
            clear h0
            go_wp2_with fail
            go_meet
            exact Lib.hid (.inl ⟨i1, _, Nat.le_refl _, hi1, S4.out, HS.out.2.1, HLEN.out, HX.out⟩)
          · have hq : (0 : Int) < (n : Int) := by omega
            have h1n : 0 < n := by omega
            have e44 : bI ⟨#[44]⟩ = [44] := rfl
            have HTK := Lib.hid (rtake_any (⟨#[44]⟩ : ByteArray) _ S4.out.rd (by omega) hi1 (by decide) (by decide))
            rw [e44] at HTK
            clear e44 h0
            by_cases h44 : b = 44
            · have HX := Lib.hid (HBC.out.2.1 h1n h44)
              have hin := HIN.out (by omega)
              rw [HX.out.2.1] at HTK
              clear h44
              go_wp2_with fail
              refine HTK.out.mono ?_
              rintro e w5 ⟨rfl, r5, f5⟩
              have S5 := Lib.hid (S4.out.step r5 f5 HLT.out)
              clear r5 f5
              go_wp2_with fail
              refine (rblanks_any _ S5.out.rd (by omega) (by omega)).mono ?_
              rintro e w6 ⟨rfl, r6, f6⟩
              have S6 := Lib.hid (S5.out.step r6 f6 HLT.out)
              clear r6 f6
              go_wp2_with fail
              go_meet
              have hb9 := bl_ge s (i1 + 1)
              have hl9 := HS.out.2.2.1
              exact Lib.hid (.inl ⟨bl s (i1 + 1), _, by omega, bl_le (by omega), S6.out, HX.out.2.2, by omega, HX.out.1⟩)
            · have HX := Lib.hid (HBC.out.2.2 h1n h44)
              rw [HX.out.2] at HTK
              clear h44
              go_wp2_with fail
              refine HTK.out.mono ?_
              rintro e w5 ⟨rfl, j5, hj5, r5, f5⟩
              have S5 := Lib.hid (S4.out.step r5 f5 HLT.out)
              clear r5 f5
              go_wp2_with fail
              refine (rblanks_err _ S5.out.rd (by decide) (by omega) hj5).mono ?_
              rintro e w6 ⟨rfl, r6, f6⟩
              have S6 := Lib.hid (S5.out.step r6 f6 HLT.out)
              clear r6 f6
              go_wp2_with fail
              go_meet
              exact Lib.hid (.inr ⟨HX.out.1, j5, _, hj5, S6.out⟩)
        case rest =>
          have HC := hcut
          clear hcut
          rcases HC.out with ⟨i2, vr2, g1, g2, g3, g4, g5, g6⟩ | ⟨g1, g2⟩
          · have S5 := Lib.hid g3
            have HX := Lib.hid (Nxt.list g6)
            have HVC := Lib.hid (HV.out p i2 (op + 1) ((op : Int) + 1) vr2 M ⟨#[]⟩ _ (by omega) hop (by omega) (by decide) g3.rd g2 g4 g5)
            rw [← HVV.out] at HVC
            have HTW2 := Lib.hid g4
            clear g3 g4 g6 HC HBC
            cases hv : V ⟨#[]⟩ i2 with
            | bad m =>
              rw [hv] at HVC
              have HY9 := Lib.hid (HX.out.1 m hv)
              clear hv
              go_wp2_with fail
              refine HVC.out.mono ?_
              rintro e w8 ⟨rfl, hm0, vr8, L8, j8, hj8, r8, f8⟩
              have S8 := Lib.hid (And.intro r8 (S5.out.fr.trans f8))
              have HM0 := Lib.hid hm0
              clear r8 f8 hm0
              go_wp2_with fail
              refine (rblanks_err _ S8.out.1 (by exact HM0.out) (by omega) hj8).mono ?_
              rintro e w9 ⟨rfl, r9, f9⟩
              have S9 : Hid (MnE p s v w w9 m) := Lib.hid ⟨_, _, _, hj8, r9, S8.out.2.trans f9⟩
              clear r9 f9
              go_wp2_with fail
              go_roundg (gk - 1)
              case rel => exact ⟨n + 1, _, by omega, by go_num, rfl, .inr ⟨m, Lib.hid ⟨S9.out, HM0.out, HY9.out⟩⟩⟩
              case measure => omega
            | ok y =>
              obtain ⟨j, N2⟩ := y
              rw [hv] at HVC
              have HOK := Lib.hid (valR_ok (nm := ⟨#[]⟩) hs hop (by decide) g2 g5 HTW2.out (by rw [← HVV.out]; exact hv))
              obtain ⟨o1, o2, o3, _⟩ := HOK.out
              have HC2 := Lib.hid (HX.out.2 j N2 hv (by omega) o2)
              clear hv
              go_wp2_with fail
              refine HVC.out.mono ?_
              rintro e w8 ⟨rfl, vr8, r8, f8⟩
              have S8 := Lib.hid (S5.out.step r8 f8 HLT.out)
              clear r8 f8
              go_wp2_with fail
              refine (rblanks_any _ S8.out.rd (by omega) (by omega)).mono ?_
              rintro e w9 ⟨rfl, r9, f9⟩
              have S9 := Lib.hid (S8.out.step r9 f9 HLT.out)
              clear r9 f9
              go_wp2_with fail
              go_roundg (gk - 1)
              case rel =>
                have hb9 := bl_ge s j
                have hb8 : bl s j ≤ s.size := bl_le (by omega)
                exact ⟨n + 1, _, by omega, by go_num, rfl, .inl ⟨bl s j, _, N ++ N2, M ++ N2, _, by omega, hb8, by omega, by omega, by omega, Lib.hid (by rw [HM.out, List.append_assoc]), Lib.hid ⟨S9.out, HOK.out.2.2.2.asc (bl_asc s j) hb8, by omega, fun e => by omega, HC2.out⟩⟩⟩
              case measure => omega
          · obtain ⟨j5, vr5, hj5, g2⟩ := g2
            have S5 := Lib.hid (And.intro g2.rd g2.fr)
            have HY9 := Lib.hid g1
            have HVE := Lib.hid (fun W nm' (r : RfB W p s j5 vr5 M 40) => rvalue_err nm' ((op : Int) + 1) W r (by decide) (by omega) hj5)
            clear g2 g1 HC
            have hlt9 : 2 ≤ gk := by omega
            go_wp2_with fail
            refine (HVE.out _ _ S5.out.1).mono ?_
            rintro e w8 ⟨rfl, r8, f8⟩
            have S8 := Lib.hid (And.intro r8 (S5.out.2.trans f8))
            clear r8 f8
            go_wp2_with fail
            refine (rblanks_err _ S8.out.1 (by decide) (by omega) hj5).mono ?_
            rintro e w9 ⟨rfl, r9, f9⟩
            have S9 : Hid (MnE p s v w w9 40) := Lib.hid ⟨_, _, _, hj5, r9, S8.out.2.trans f9⟩
            clear r9 f9
            go_wp2_with fail
            go_roundg (gk - 1)
            case rel => exact ⟨n + 1, _, by omega, by go_num, rfl, .inr ⟨40, Lib.hid ⟨S9.out, by decide, HY9.out⟩⟩⟩
            case measure => omega
    · obtain ⟨⟨vr5, L5, j5, hj5, r5, f5⟩, hm0, hym⟩ := HE.out
      have S5 := Lib.hid (And.intro r5 f5)
      have c3 := r5.c3
      have HYM := Lib.hid hym
      have HM0 := Lib.hid hm0
      have hmb : (m == 0) = false := beq_eq_false_iff_ne.2 hm0
      have cv := conv_one 93 wr (by decide) (by decide)
      have S6 := Lib.hid (r5.below (w' := wr.alloc (.cells #[.int .u8 93] 5)) ((Below.refl _ _).alloc (Nat.le_refl _) _))
      have HTK := Lib.hid (rtake_err (mkB [93]) _ S6.out.1 hm0 (by omega) hj5 (by rw [mkB_size]; decide) (by rw [mkB_size]; decide) (by rw [(byt_one 93 (by decide) (by decide)).2]; decide))
      clear r5 f5 hm0 hym HE
      go_wp2_with fail
      refine HTK.out.mono ?_
      rintro e w7 ⟨rfl, r7, f7⟩
      have S7 := Lib.hid (And.intro r7 (S5.out.2.trans (S6.out.2.trans f7)))
      have c3 := r7.c3
      clear r7 f7 cv
      go_wp2_with fail
      go_end0
      rw [HYM.out]
      exact ⟨rfl, HM0.out, _, _, _, hj5, S7.out.1, S7.out.2⟩
end Go.Proofs.YtoicmcjpaodgpaaDoor

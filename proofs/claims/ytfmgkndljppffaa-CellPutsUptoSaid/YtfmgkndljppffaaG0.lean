/- Layer 3: a value's parts put together again (plain); rows of lists and of names that were built. -/
import Derived.Test.YtfmgkndljppffaaF0
namespace Go.Proofs.Ytfmgkndljppffaa
open Go.RowKit Go.Maps
/-- The items of a list have no names. -/
theorem items_bare {g : Nat → CR} {n r a e : Nat} (hr : r ≤ 16) (h : wk g n r a = some e) (hk : (g a).k = 6) : ∀ i, i < (g a).m.toNat → em (g (bd g n (a + 1) i)).nm = true := by
  have hc := (wk_open hr h).2.2.2
  have hb := (bd_chain _ _ _ hc).1
  cases r with
  | zero =>
    rw [wk_z] at h
    have : headP (g a) = true := by simp [headP, hk]
    rw [this] at h
    simp at h
  | succ r =>
    rw [wk_s] at h
    split at h
    · cases h
    · split at h
      · rw [if_pos (by simp [headP, hk]), hk] at h
        intro i hi
        have K : ∀ (m : Nat) (names : List ByteArray) (b : Nat → Nat), kidsF (wk g n r) g n false m names (b 0) = some e → (∀ i, i < m → wk g n 16 (b i) = some (b (i + 1))) → ∀ i, i < m → em (g (b i)).nm = true := by
          intro m
          induction m with
          | zero => intro _ _ _ _ i hi; omega
          | succ m ih =>
            intro names b hk hb i hi
            rw [kidsF] at hk
            split at hk
            · cases hk
            · split at hk
              · rename_i hnm
                cases hx : wk g n r (b 0) with
                | none => rw [hx] at hk; cases hk
                | some a' =>
                  rw [hx] at hk
                  have e1 := wk_up (r' := 16) (by omega) hx
                  rw [hb 0 (by omega)] at e1
                  simp only [Option.some.injEq] at e1
                  cases i with
                  | zero => simpa [namedP] using hnm
                  | succ i =>
                    rw [← e1] at hk
                    exact ih _ (fun t => b (t + 1)) hk (fun t ht => hb (t + 1) (by omega)) i (by omega)
              · cases hk
        exact K _ _ (bd g n (a + 1)) h hb i hi
      · cases h
def paF (g : Nat → CR) (n q i : Nat) : Nat := bd g n (q + 1) i
def paLen (g : Nat → CR) (n q i : Nat) : Nat := paF g n q (i + 1) - paF g n q i
def paG (g : Nat → CR) (n q i : Nat) : Nat → CR := gl (ren ⟨#[]⟩ (cut g (paF g n q i) (paF g n q (i + 1))))
def paS (g : Nat → CR) (n q i : Nat) : ByteArray := (g (paF g n q i)).nm
theorem cut_gl (L : List CR) (n : Nat) (h : L.length = n) : cut (gl L) 0 n = L := by
  refine gl_ext (by rw [cut_len]; omega) fun t ht => ?_
  rw [cut_len] at ht
  rw [cut_at _ _ _ _ (by omega), Nat.zero_add]
theorem cw_part {g : Nat → CR} {n a b : Nat} (h : CW n g) (hb : b ≤ n) : CW (b - a) (gl (ren ⟨#[]⟩ (cut g a b))) := by
  refine cw_small (by rw [ren_len, cut_len]) fun c hc => ?_
  have key : ∀ c, c ∈ cut g a b → c.k < 256 ∧ c.nm.size ≤ maxLen ∧ c.tx.size ≤ 1000000 ∧ -9223372036854775808 ≤ c.m ∧ c.m ≤ 9223372036854775807 := fun c hc => by
    unfold cut at hc
    obtain ⟨t, ht, rfl⟩ := List.mem_map.1 hc
    have ht' := List.mem_range.1 ht
    exact h (a + t) (by omega)
  cases hcl : cut g a b with
  | nil => rw [hcl] at hc; simp [ren] at hc
  | cons x r =>
    rw [hcl] at hc key
    rcases List.mem_cons.1 hc with rfl | hc
    · have := key x (by simp)
      exact ⟨this.1, by show (0 : Nat) ≤ maxLen; omega, this.2.2⟩
    · exact key c (by simp [hc])
theorem parts_facts {g : Nat → CR} {n q : Nat} (hc : ckC g n = true) (hq : q < n) :
    (∀ i, i < (g q).m.toNat → paF g n q i < n ∧ nx g n (paF g n q i) = paF g n q (i + 1) ∧ paF g n q i < paF g n q (i + 1) ∧ paF g n q (i + 1) ≤ n) ∧ paF g n q 0 = q + 1 ∧ paF g n q (g q).m.toNat = nx g n q ∧ (g q).m.toNat ≤ 2048 ∧ q < nx g n q ∧ nx g n q ≤ n ∧ ckL (ren ⟨#[]⟩ (cut g q (nx g n q))) = true ∧
    (∀ s, (g q).k = 6 → gE 6 (g q).m.toNat s (paLen g n q) (paG g n q) = 0 ∧ preL 6 (g q).m.toNat s (paLen g n q) (paG g n q) (g q).m.toNat = ren ⟨#[]⟩ (cut g q (nx g n q))) ∧
    ((g q).k = 7 → gE 7 (g q).m.toNat (paS g n q) (paLen g n q) (paG g n q) = 0 ∧ preL 7 (g q).m.toNat (paS g n q) (paLen g n q) (paG g n q) (g q).m.toNat = ren ⟨#[]⟩ (cut g q (nx g n q))) ∧
    ((g q).k ≠ 6 → (g q).k ≠ 7 → (g q).m.toNat = 0 ∧ nx g n q = q + 1) := by
  have hn := (ckC_parts hc).2.1
  obtain ⟨hw, hle⟩ := ck_at hc hq
  obtain ⟨o1, o2, o3, o4⟩ := wk_open (Nat.le_refl _) hw
  obtain ⟨b1, b2⟩ := bd_chain _ _ _ o4
  have hlt := wk_lt _ _ _ hw
  have hcl := Chain.le _ _ _ o4
  obtain ⟨m, hm⟩ : ∃ m, m = (g q).m.toNat := ⟨_, rfl⟩
  rw [← hm] at b1 b2 hcl ⊢
  have hS := sub_ck hw hn
  have hck : ∀ i, i < m → ckC (paG g n q i) (paLen g n q i) = true := fun i hi => by
    have := sub_ck (b1 i hi) hn
    unfold ckL at this
    rw [ren_len, cut_len] at this
    exact this
  have hcut : ∀ i, cut (paG g n q i) 0 (paLen g n q i) = ren ⟨#[]⟩ (cut g (paF g n q i) (paF g n q (i + 1))) := fun i => cut_gl _ _ (by rw [ren_len, cut_len]; rfl)
  have hU := parts_under hw ((List.range m).map fun i => cut g (bd g n (q + 1) i) (bd g n (q + 1) (i + 1))) (by simp [hm]) (fun i h1 => by simp)
  have hgen : ∀ (k : Nat) (s : Nat → ByteArray), (k = 6 ∨ k = 7) → (g q).k = k → (∀ i, i < m → lsF k s (paLen g n q) (paG g n q) i = cut g (paF g n q i) (paF g n q (i + 1))) →
      gE k m s (paLen g n q) (paG g n q) = 0 ∧ preL k m s (paLen g n q) (paG g n q) m = ren ⟨#[]⟩ (cut g q (nx g n q)) := fun k s hk hk2 hls => by
    have hp : preL k m s (paLen g n q) (paG g n q) m = ren ⟨#[]⟩ (cut g q (nx g n q)) := by
      rw [← hU]
      unfold preL under ren
      obtain ⟨h1, h2, h3, h4⟩ := one_head o2 (by unfold headP; rw [hk2]; rcases hk with e | e <;> simp [e])
      have e1 : hdC k m = { g q with nm := ⟨#[]⟩ } := by
        unfold hdC
        have := em_eq h2
        have hm' : ((m : Nat) : Int) = (g q).m := by omega
        rw [hm', ← hk2, ← this, ← h1]
      rw [e1]
      congr 2
      exact List.map_congr_left fun i hi => hls i (List.mem_range.1 hi)
    refine ⟨?_, hp⟩
    unfold gE
    rw [if_neg (by omega), if_pos (List.all_eq_true.2 fun i hi => hck i (List.mem_range.1 hi)), hp, hS]
    rfl
  have hpos : ∀ i, i < m → (cut g (paF g n q i) (paF g n q (i + 1))).length ≠ 0 ∧ (gl (cut g (paF g n q i) (paF g n q (i + 1))) 0) = g (paF g n q i) := fun i hi => by
    have := wk_lt _ _ _ (b1 i hi)
    have h2 : paF g n q i < paF g n q (i + 1) := this.1
    refine ⟨by rw [cut_len]; omega, ?_⟩
    rw [cut_at _ _ _ _ (by omega), Nat.add_zero]
  refine ⟨fun i hi => ⟨?_, rfl, ?_, ?_⟩, rfl, b2, by omega, hlt.1, hle, hS, fun s h6 => ?_, fun h7 => ?_, fun h6 h7 => ?_⟩
  · have := wk_lt _ _ _ (b1 i hi)
    show bd g n (q + 1) i < n
    omega
  · exact (wk_lt _ _ _ (b1 i hi)).1
  · exact (wk_lt _ _ _ (b1 i hi)).2
  · refine hgen 6 s (.inl rfl) h6 fun i hi => ?_
    unfold lsF
    rw [if_neg (by decide), hcut]
    refine ren_self ?_
    rw [(hpos i hi).2]
    exact em_eq (items_bare (Nat.le_refl 16) hw h6 i (by rw [← hm]; exact hi))
  · refine hgen 7 (paS g n q) (.inr rfl) h7 fun i hi => ?_
    unfold lsF
    rw [if_pos rfl, hcut, ren_ren]
    refine ren_self ?_
    rw [(hpos i hi).2]
    rfl
  · have := one_leaf o2 (by unfold headP; simp [h6, h7])
    have hm0 : m = 0 := by rw [hm, this]; rfl
    rw [hm0] at b2
    exact ⟨hm0, b2.symm⟩
/-- Rows of different kinds lie apart. -/
theorem own_apart {w : World} {B1 B2 s1 s2 n1 n2 : Nat} {e1 e2 : TypeId} {v1 v2 : Value} {x1 x2 : List Value} (h1 : w.ownsRow B1 e1 s1 v1 n1 x1) (h2 : w.ownsRow B2 e2 s2 v2 n2 x2) (he : e1 ≠ e2) : v1.ownBlock = none ∨ v1.ownBlock ≠ v2.ownBlock := by
  rcases h1.2 with ⟨rfl, _⟩ | ⟨q, cap, cur, rfl, _, hg, _⟩
  · exact .inl rfl
  · rcases h2.2 with ⟨rfl, _⟩ | ⟨q', cap', cur', rfl, _, hg', _⟩
    · exact .inr (by simp [Value.ownBlock])
    · refine .inr fun e => ?_
      simp only [Value.ownBlock, Option.some.injEq] at e
      rw [← e, hg] at hg'
      simp only [Option.some.injEq, Obj.cells.injEq] at hg'
      exact he hg'.2.1
theorem own_base {w : World} {B B' s n : Nat} {e : TypeId} {v : Value} {x : List Value} (h : w.ownsRow B e s v n x) (hb : B' ≤ B) : w.ownsRow B' e s v n x := by
  refine ⟨h.1, ?_⟩
  rcases h.2 with h | ⟨g', cap', cur, h', hb', rest⟩
  · exact .inl h
  · exact .inr ⟨g', cap', cur, h', Nat.le_trans hb hb', rest⟩
theorem own_below {w w' : World} {B s n : Nat} {e : TypeId} {v : Value} {x : List Value} (h : w.ownsRow B e s v n x) (b : Below w.heap.size w w') : w'.ownsRow B e s v n x :=
  h.kept (row := none) ⟨b.os, b.tape, b.output, b.size, fun k hk _ => b.block k hk⟩ (Classical.em _)
/-- A row of lists that was built. -/
def slL (ad : Nat → Option Addr) (len cp : Nat → Nat) (m : Nat) : List Value := (List.range m).map fun j => .slice (ad j) (len j) (cp j)
theorem slL_succ (ad : Nat → Option Addr) (len cp : Nat → Nat) (m : Nat) : slL ad len cp (m + 1) = slL ad len cp m ++ [.slice (ad m) (len m) (cp m)] := by unfold slL; rw [List.range_succ, List.map_append]; rfl
theorem slL_len (ad : Nat → Option Addr) (len cp : Nat → Nat) (m : Nat) : (slL ad len cp m).length = m := by simp [slL]
theorem slL_upd (ad : Nat → Option Addr) (len cp : Nat → Nat) (m : Nat) (a : Option Addr) (c : Nat) : slL (fun j => if j = m then a else ad j) len (fun j => if j = m then c else cp j) (m + 1) = slL ad len cp m ++ [.slice a (len m) c] := by
  rw [slL_succ, if_pos rfl, if_pos rfl]
  congr 1
  unfold slL
  refine List.map_congr_left fun j hj => ?_
  have := List.mem_range.1 hj
  show Value.slice (if j = m then a else ad j) (len j) (if j = m then c else cp j) = _
  rw [if_neg (by omega), if_neg (by omega)]
def stL (s : Nat → ByteArray) (m : Nat) : List Value := (List.range m).map fun j => .string (s j)
theorem stL_succ (s : Nat → ByteArray) (m : Nat) : stL s (m + 1) = stL s m ++ [.string (s m)] := by unfold stL; rw [List.range_succ, List.map_append]; rfl
theorem own_lin {w : World} {B m : Nat} {v : Value} {ad : Nat → Option Addr} {len cp : Nat → Nat} (h : w.ownsRow B 26 1 v m (slL ad len cp m)) : ∃ la lc, v = .slice la m lc ∧ ∀ i, i < m → ∃ b off, la = some ⟨b, off, none⟩ ∧ b < w.heap.size ∧ w.cell? ⟨b, off + i, none⟩ = some (.slice (ad i) (len i) (cp i)) := by
  rcases h.2 with ⟨rfl, hn⟩ | ⟨q, cap, cur, rfl, hg, hgg, h1, h2, h3, h4⟩
  · subst hn
    exact ⟨none, 0, rfl, fun i hi => by omega⟩
  · refine ⟨some ⟨q, 0, none⟩, cap, rfl, fun k hk => ⟨q, 0, rfl, (Array.getElem?_eq_some_iff.1 hgg).1, ?_⟩⟩
    rw [Nat.zero_add, h.cellAt k (by omega)]
    unfold slL
    rw [List.getElem?_map, List.getElem?_range hk]
    rfl
theorem own_nv {w : World} {B m : Nat} {v : Value} {s : Nat → ByteArray} (h : w.ownsRow B 9 1 v m (stL s m)) : ∃ na nc, v = .slice na m nc ∧ NV w na m s := by
  rcases h.2 with ⟨rfl, hn⟩ | ⟨q, cap, cur, rfl, hg, hgg, h1, h2, h3, h4⟩
  · subst hn
    exact ⟨none, 0, rfl, fun i hi => by omega⟩
  · refine ⟨some ⟨q, 0, none⟩, cap, rfl, fun k hk => ⟨q, 0, rfl, (Array.getElem?_eq_some_iff.1 hgg).1, ?_⟩⟩
    rw [Nat.zero_add, h.cellAt k (by omega)]
    unfold stL
    rw [List.getElem?_map, List.getElem?_range hk]
    rfl
theorem infoSl : ∃ i, Try.prog.info? 26 = some i ∧ i.zero = some (.slice none 0 0) ∧ i.size = 1 ∧ i.bytes = 24 := by
  have h := Try.typeInfo26 default
  unfold typeInfo at h
  cases hq : Try.prog.info? 26 with
  | none => simp [hq] at h
  | some i =>
    simp [hq] at h
    exact ⟨i, rfl, by rw [h]; rfl, by rw [h]; rfl, by rw [h]; rfl⟩
theorem infoStr : ∃ i, Try.prog.info? 9 = some i ∧ i.zero = some (.string ⟨#[]⟩) ∧ i.size = 1 ∧ i.bytes = 16 := by
  have h := Try.typeInfo9 default
  unfold typeInfo at h
  cases hq : Try.prog.info? 9 with
  | none => simp [hq] at h
  | some i =>
    simp [hq] at h
    exact ⟨i, rfl, by rw [h]; rfl, by rw [h]; rfl, by rw [h]; rfl⟩
end Go.Proofs.Ytfmgkndljppffaa

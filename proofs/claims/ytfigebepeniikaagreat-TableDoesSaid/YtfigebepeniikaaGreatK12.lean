import Derived.Test.YtfigebepeniikaaGreatK11
import Derived.Test.YtfigebepeniikaaGreatK5
import Derived.Deep.RegionLaw
import Derived.Deep.DeepCutAuto
import Derived.Deep.QuietTactic
/- Layer 3: a value's parts put together again (plain); rows of lists and of names that were built. -/
namespace Go.Proofs.YtfigebepeniikaaGreat.Rf
open Go.RowKit Go.Maps
/-- The items of a list have no names. -/
theorem items_bare {g : Nat → CR} {n r a e : Nat} (hr : r ≤ 16) (h : wk g n r a = some e) (hk : (g a).k = 6) : ∀ i, i < (g a).m.toNat → em (g (bd g n (a + 1) i)).nm = true := by
  have hc := (wk_open hr h).2.2.2
  have hb := (bd_chain _ _ _ hc).1
  cases r with
  | zero =>
    rw [wk_z] at h
    have : headP (g a) = true := by simp [headP, hk]
    rw [this] at h
    simp at h
  | succ r =>
    rw [wk_s] at h
    split at h
    · cases h
    · split at h
      · rw [if_pos (by simp [headP, hk]), hk] at h
        intro i hi
        have K : ∀ (m : Nat) (names : List ByteArray) (b : Nat → Nat), kidsF (wk g n r) g n false m names (b 0) = some e → (∀ i, i < m → wk g n 16 (b i) = some (b (i + 1))) → ∀ i, i < m → em (g (b i)).nm = true := by
          intro m
          induction m with
          | zero => intro _ _ _ _ i hi; omega
          | succ m ih =>
            intro names b hk hb i hi
            rw [kidsF] at hk
            split at hk
            · cases hk
            · split at hk
              · rename_i hnm
                cases hx : wk g n r (b 0) with
                | none => rw [hx] at hk; cases hk
                | some a' =>
                  rw [hx] at hk
                  have e1 := wk_up (r' := 16) (by omega) hx
                  rw [hb 0 (by omega)] at e1
                  simp only [Option.some.injEq] at e1
                  cases i with
                  | zero => simpa [namedP] using hnm
                  | succ i =>
                    rw [← e1] at hk
                    exact ih _ (fun t => b (t + 1)) hk (fun t ht => hb (t + 1) (by omega)) i (by omega)
              · cases hk
        exact K _ _ (bd g n (a + 1)) h hb i hi
      · cases h
def paF (g : Nat → CR) (n q i : Nat) : Nat := bd g n (q + 1) i
def paLen (g : Nat → CR) (n q i : Nat) : Nat := paF g n q (i + 1) - paF g n q i
def paG (g : Nat → CR) (n q i : Nat) : Nat → CR := gl (ren ⟨#[]⟩ (cut g (paF g n q i) (paF g n q (i + 1))))
def paS (g : Nat → CR) (n q i : Nat) : ByteArray := (g (paF g n q i)).nm
theorem cut_gl (L : List CR) (n : Nat) (h : L.length = n) : cut (gl L) 0 n = L := by
  refine gl_ext (by rw [cut_len]; omega) fun t ht => ?_
  rw [cut_len] at ht
  rw [cut_at _ _ _ _ (by omega), Nat.zero_add]
theorem cw_part {g : Nat → CR} {n a b : Nat} (h : CW n g) (hb : b ≤ n) : CW (b - a) (gl (ren ⟨#[]⟩ (cut g a b))) := by
  refine cw_small (by rw [ren_len, cut_len]) fun c hc => ?_
  have key : ∀ c, c ∈ cut g a b → c.k < 256 ∧ c.nm.size ≤ maxLen ∧ c.tx.size ≤ 1000000 ∧ -9223372036854775808 ≤ c.m ∧ c.m ≤ 9223372036854775807 := fun c hc => by
    unfold cut at hc
    obtain ⟨t, ht, rfl⟩ := List.mem_map.1 hc
    have ht' := List.mem_range.1 ht
    exact h (a + t) (by omega)
  cases hcl : cut g a b with
  | nil => rw [hcl] at hc; simp [ren] at hc
  | cons x r =>
    rw [hcl] at hc key
    rcases List.mem_cons.1 hc with rfl | hc
    · have := key x (by simp)
      exact ⟨this.1, by show (0 : Nat) ≤ maxLen; omega, this.2.2⟩
    · exact key c (by simp [hc])
theorem parts_facts {g : Nat → CR} {n q : Nat} (hc : ckC g n = true) (hq : q < n) :
    (∀ i, i < (g q).m.toNat → paF g n q i < n ∧ nx g n (paF g n q i) = paF g n q (i + 1) ∧ paF g n q i < paF g n q (i + 1) ∧ paF g n q (i + 1) ≤ n) ∧ paF g n q 0 = q + 1 ∧ paF g n q (g q).m.toNat = nx g n q ∧ (g q).m.toNat ≤ 2048 ∧ q < nx g n q ∧ nx g n q ≤ n ∧ ckL (ren ⟨#[]⟩ (cut g q (nx g n q))) = true ∧
    (∀ s, (g q).k = 6 → gE 6 (g q).m.toNat s (paLen g n q) (paG g n q) = 0 ∧ preL 6 (g q).m.toNat s (paLen g n q) (paG g n q) (g q).m.toNat = ren ⟨#[]⟩ (cut g q (nx g n q))) ∧
    ((g q).k = 7 → gE 7 (g q).m.toNat (paS g n q) (paLen g n q) (paG g n q) = 0 ∧ preL 7 (g q).m.toNat (paS g n q) (paLen g n q) (paG g n q) (g q).m.toNat = ren ⟨#[]⟩ (cut g q (nx g n q))) ∧
    ((g q).k ≠ 6 → (g q).k ≠ 7 → (g q).m.toNat = 0 ∧ nx g n q = q + 1) := by
  have hn := (ckC_parts hc).2.1
  obtain ⟨hw, hle⟩ := ck_at hc hq
  obtain ⟨o1, o2, o3, o4⟩ := wk_open (Nat.le_refl _) hw
  obtain ⟨b1, b2⟩ := bd_chain _ _ _ o4
  have hlt := wk_lt _ _ _ hw
  have hcl := Chain.le _ _ _ o4
  obtain ⟨m, hm⟩ : ∃ m, m = (g q).m.toNat := ⟨_, rfl⟩
  rw [← hm] at b1 b2 hcl ⊢
  have hS := sub_ck hw hn
  have hck : ∀ i, i < m → ckC (paG g n q i) (paLen g n q i) = true := fun i hi => by
    have := sub_ck (b1 i hi) hn
    unfold ckL at this
    rw [ren_len, cut_len] at this
    exact this
  have hcut : ∀ i, cut (paG g n q i) 0 (paLen g n q i) = ren ⟨#[]⟩ (cut g (paF g n q i) (paF g n q (i + 1))) := fun i => cut_gl _ _ (by rw [ren_len, cut_len]; rfl)
  have hU := parts_under hw ((List.range m).map fun i => cut g (bd g n (q + 1) i) (bd g n (q + 1) (i + 1))) (by simp [hm]) (fun i h1 => by simp)
  have hgen : ∀ (k : Nat) (s : Nat → ByteArray), (k = 6 ∨ k = 7) → (g q).k = k → (∀ i, i < m → lsF k s (paLen g n q) (paG g n q) i = cut g (paF g n q i) (paF g n q (i + 1))) →
      gE k m s (paLen g n q) (paG g n q) = 0 ∧ preL k m s (paLen g n q) (paG g n q) m = ren ⟨#[]⟩ (cut g q (nx g n q)) := fun k s hk hk2 hls => by
    have hp : preL k m s (paLen g n q) (paG g n q) m = ren ⟨#[]⟩ (cut g q (nx g n q)) := by
      rw [← hU]
      unfold preL under ren
      obtain ⟨h1, h2, h3, h4⟩ := one_head o2 (by unfold headP; rw [hk2]; rcases hk with e | e <;> simp [e])
      have e1 : hdC k m = { g q with nm := ⟨#[]⟩ } := by
        unfold hdC
        have := em_eq h2
        have hm' : ((m : Nat) : Int) = (g q).m := by omega
        rw [hm', ← hk2, ← this, ← h1]
      rw [e1]
      congr 2
      exact List.map_congr_left fun i hi => hls i (List.mem_range.1 hi)
    refine ⟨?_, hp⟩
    unfold gE
    rw [if_neg (by omega), if_pos (List.all_eq_true.2 fun i hi => hck i (List.mem_range.1 hi)), hp, hS]
    rfl
  have hpos : ∀ i, i < m → (cut g (paF g n q i) (paF g n q (i + 1))).length ≠ 0 ∧ (gl (cut g (paF g n q i) (paF g n q (i + 1))) 0) = g (paF g n q i) := fun i hi => by
    have := wk_lt _ _ _ (b1 i hi)
    have h2 : paF g n q i < paF g n q (i + 1) := this.1
    refine ⟨by rw [cut_len]; omega, ?_⟩
    rw [cut_at _ _ _ _ (by omega), Nat.add_zero]
  refine ⟨fun i hi => ⟨?_, rfl, ?_, ?_⟩, rfl, b2, by omega, hlt.1, hle, hS, fun s h6 => ?_, fun h7 => ?_, fun h6 h7 => ?_⟩
  · have := wk_lt _ _ _ (b1 i hi)
    show bd g n (q + 1) i < n
    omega
  · exact (wk_lt _ _ _ (b1 i hi)).1
  · exact (wk_lt _ _ _ (b1 i hi)).2
  · refine hgen 6 s (.inl rfl) h6 fun i hi => ?_
    unfold lsF
    rw [if_neg (by decide), hcut]
    refine ren_self ?_
    rw [(hpos i hi).2]
    exact em_eq (items_bare (Nat.le_refl 16) hw h6 i (by rw [← hm]; exact hi))
  · refine hgen 7 (paS g n q) (.inr rfl) h7 fun i hi => ?_
    unfold lsF
    rw [if_pos rfl, hcut, ren_ren]
    refine ren_self ?_
    rw [(hpos i hi).2]
    rfl
  · have := one_leaf o2 (by unfold headP; simp [h6, h7])
    have hm0 : m = 0 := by rw [hm, this]; rfl
    rw [hm0] at b2
    exact ⟨hm0, b2.symm⟩
/-- Rows of different kinds lie apart. -/
theorem own_apart {w : World} {B1 B2 s1 s2 n1 n2 : Nat} {e1 e2 : TypeId} {v1 v2 : Value} {x1 x2 : List Value} (h1 : w.ownsRow B1 e1 s1 v1 n1 x1) (h2 : w.ownsRow B2 e2 s2 v2 n2 x2) (he : e1 ≠ e2) : v1.ownBlock = none ∨ v1.ownBlock ≠ v2.ownBlock := by
  rcases h1.2 with ⟨rfl, _⟩ | ⟨q, cap, cur, rfl, _, hg, _⟩
  · exact .inl rfl
  · rcases h2.2 with ⟨rfl, _⟩ | ⟨q', cap', cur', rfl, _, hg', _⟩
    · exact .inr (by simp [Value.ownBlock])
    · refine .inr fun e => ?_
      simp only [Value.ownBlock, Option.some.injEq] at e
      rw [← e, hg] at hg'
      simp only [Option.some.injEq, Obj.cells.injEq] at hg'
      exact he hg'.2.1
theorem own_base {w : World} {B B' s n : Nat} {e : TypeId} {v : Value} {x : List Value} (h : w.ownsRow B e s v n x) (hb : B' ≤ B) : w.ownsRow B' e s v n x := by
  refine ⟨h.1, ?_⟩
  rcases h.2 with h | ⟨g', cap', cur, h', hb', rest⟩
  · exact .inl h
  · exact .inr ⟨g', cap', cur, h', Nat.le_trans hb hb', rest⟩
theorem own_below {w w' : World} {B s n : Nat} {e : TypeId} {v : Value} {x : List Value} (h : w.ownsRow B e s v n x) (b : Below w.heap.size w w') : w'.ownsRow B e s v n x :=
  h.kept (row := none) ⟨b.os, b.tape, b.output, b.size, fun k hk _ => b.block k hk⟩ (Classical.em _)
/-- A row of lists that was built. -/
def slL (ad : Nat → Option Addr) (len cp : Nat → Nat) (m : Nat) : List Value := (List.range m).map fun j => .slice (ad j) (len j) (cp j)
theorem slL_succ (ad : Nat → Option Addr) (len cp : Nat → Nat) (m : Nat) : slL ad len cp (m + 1) = slL ad len cp m ++ [.slice (ad m) (len m) (cp m)] := by unfold slL; rw [List.range_succ, List.map_append]; rfl
theorem slL_len (ad : Nat → Option Addr) (len cp : Nat → Nat) (m : Nat) : (slL ad len cp m).length = m := by simp [slL]
theorem slL_upd (ad : Nat → Option Addr) (len cp : Nat → Nat) (m : Nat) (a : Option Addr) (c : Nat) : slL (fun j => if j = m then a else ad j) len (fun j => if j = m then c else cp j) (m + 1) = slL ad len cp m ++ [.slice a (len m) c] := by
  rw [slL_succ, if_pos rfl, if_pos rfl]
  congr 1
  unfold slL
  refine List.map_congr_left fun j hj => ?_
  have := List.mem_range.1 hj
  show Value.slice (if j = m then a else ad j) (len j) (if j = m then c else cp j) = _
  rw [if_neg (by omega), if_neg (by omega)]
def stL (s : Nat → ByteArray) (m : Nat) : List Value := (List.range m).map fun j => .string (s j)
theorem stL_succ (s : Nat → ByteArray) (m : Nat) : stL s (m + 1) = stL s m ++ [.string (s m)] := by unfold stL; rw [List.range_succ, List.map_append]; rfl
theorem own_lin {w : World} {B m : Nat} {v : Value} {ad : Nat → Option Addr} {len cp : Nat → Nat} (h : w.ownsRow B 26 1 v m (slL ad len cp m)) : ∃ la lc, v = .slice la m lc ∧ ∀ i, i < m → ∃ b off, la = some ⟨b, off, none⟩ ∧ b < w.heap.size ∧ w.cell? ⟨b, off + i, none⟩ = some (.slice (ad i) (len i) (cp i)) := by
  rcases h.2 with ⟨rfl, hn⟩ | ⟨q, cap, cur, rfl, hg, hgg, h1, h2, h3, h4⟩
  · subst hn
    exact ⟨none, 0, rfl, fun i hi => by omega⟩
  · refine ⟨some ⟨q, 0, none⟩, cap, rfl, fun k hk => ⟨q, 0, rfl, (Array.getElem?_eq_some_iff.1 hgg).1, ?_⟩⟩
    rw [Nat.zero_add, h.cellAt k (by omega)]
    unfold slL
    rw [List.getElem?_map, List.getElem?_range hk]
    rfl
theorem own_nv {w : World} {B m : Nat} {v : Value} {s : Nat → ByteArray} (h : w.ownsRow B 9 1 v m (stL s m)) : ∃ na nc, v = .slice na m nc ∧ NV w na m s := by
  rcases h.2 with ⟨rfl, hn⟩ | ⟨q, cap, cur, rfl, hg, hgg, h1, h2, h3, h4⟩
  · subst hn
    exact ⟨none, 0, rfl, fun i hi => by omega⟩
  · refine ⟨some ⟨q, 0, none⟩, cap, rfl, fun k hk => ⟨q, 0, rfl, (Array.getElem?_eq_some_iff.1 hgg).1, ?_⟩⟩
    rw [Nat.zero_add, h.cellAt k (by omega)]
    unfold stL
    rw [List.getElem?_map, List.getElem?_range hk]
    rfl
theorem infoSl : ∃ i, Tryz.prog.info? 26 = some i ∧ i.zero = some (.slice none 0 0) ∧ i.size = 1 ∧ i.bytes = 24 := by
  have h := Tryz.typeInfo26 default
  unfold typeInfo at h
  cases hq : Tryz.prog.info? 26 with
  | none => simp [hq] at h
  | some i =>
    simp [hq] at h
    exact ⟨i, rfl, by rw [h]; rfl, by rw [h]; rfl, by rw [h]; rfl⟩
theorem infoStr : ∃ i, Tryz.prog.info? 9 = some i ∧ i.zero = some (.string ⟨#[]⟩) ∧ i.size = 1 ∧ i.bytes = 16 := by
  have h := Tryz.typeInfo9 default
  unfold typeInfo at h
  cases hq : Tryz.prog.info? 9 with
  | none => simp [hq] at h
  | some i =>
    simp [hq] at h
    exact ⟨i, rfl, by rw [h]; rfl, by rw [h]; rfl, by rw [h]; rfl⟩
end Go.Proofs.YtfigebepeniikaaGreat.Rf
/- Layer 27: tables that the document's own answer makes, in memory of their own. -/
namespace Go.Proofs.YtfigebepeniikaaGreat
open Go.RowKit Go.Maps Go.Shelf
abbrev RP := RC × Option Addr × Nat
def rg (p : RP) : List Value := [.string p.1.id, .slice p.2.1 p.1.d.length p.2.2]
def DOw (B : Nat) (w : World) (p : RP) : Prop := w.ownsRow B 47 5 (.slice p.2.1 p.1.d.length p.2.2) p.1.d.length (rw5 p.1.d)
/-- Rows of records, each in memory of its own. -/
structure GR (B : Nat) (w : World) (v : Value) (P : List RP) : Prop where
  row : w.ownsRow B 28 2 v P.length (P.flatMap rg)
  each : ∀ p ∈ P, DOw B w p
theorem GR.nil (B : Nat) (w : World) : GR B w (.slice none 0 0) [] := ⟨World.ownsRow_nil _ _ _ _, fun p h => by cases h⟩
theorem GR.up {B : Nat} {w w' : World} {v : Value} {P : List RP} (h : GR B w v P) (k : Below w.heap.size w w') : GR B w' v P := ⟨own_up h.row k, fun p hp => own_up (h.each p hp) k⟩
theorem GR.setB {B : Nat} {w : World} {v : Value} {P : List RP} {q k : Nat} {t : TypeId} {x0 x1 x2 x3 u : Value} (h : GR B w v P) (hp : Bx4 w q t x0 x1 x2 x3) (h1 : t ≠ 28) (h2 : t ≠ 47) : GR B (w.setCell ⟨q, k, none⟩ u) v P :=
  ⟨own_setB h.row hp h1, fun p hpp => own_setB (h.each p hpp) hp h2⟩
theorem GR.next {B : Nat} {w w' : World} {v v' : Value} {P : List RP} {p : RP} (h : GR B w v P) (hd : DOw B w p) (hg : w.grownBy w' v.ownBlock) (ho : w'.ownsRow B 28 2 v' (P.length + 1) (P.flatMap rg ++ rg p)) : GR B w' v' (P ++ [p]) := by
  refine ⟨?_, fun q hq => ?_⟩
  · rw [List.length_append, List.length_singleton, List.flatMap_append, List.flatMap_singleton]; exact ho
  · rcases List.mem_append.1 hq with hq | hq
    · exact World.ownsRow.kept (h.each q hq) hg (Rf.own_apart (h.each q hq) h.row (by decide))
    · rw [List.mem_singleton.1 hq]
      exact World.ownsRow.kept hd hg (Rf.own_apart hd h.row (by decide))
theorem fl2_at : ∀ (P : List RP) (i : Nat) (h : i < P.length), (P.flatMap rg)[i * 2]? = some (.string P[i].1.id) ∧ (P.flatMap rg)[i * 2 + 1]? = some (.slice P[i].2.1 P[i].1.d.length P[i].2.2)
  | p :: P, 0, _ => ⟨rfl, rfl⟩
  | p :: P, i + 1, h => by
    have ih := fl2_at P i (by simpa using h)
    rw [List.flatMap_cons, show (i + 1) * 2 = i * 2 + 2 by omega]
    show (Value.string p.1.id :: Value.slice p.2.1 p.1.d.length p.2.2 :: P.flatMap rg)[i * 2 + 2]? = _ ∧ (Value.string p.1.id :: Value.slice p.2.1 p.1.d.length p.2.2 :: P.flatMap rg)[i * 2 + 1 + 2]? = _
    simp only [List.getElem?_cons_succ]
    exact ih
theorem own_dvs {w : World} {B n : Nat} {ad : Option Addr} {cp : Nat} {L : List CR} (hl : L.length = n) (h : w.ownsRow B 47 5 (.slice ad n cp) n (rw5 L)) : DV B w ad cp L := by
  obtain ⟨ae, ce, e, hv⟩ := own_dv hl h
  simp only [Value.slice.injEq] at e
  obtain ⟨rfl, _, rfl⟩ := e
  exact hv
theorem GR.rv {B : Nat} {w : World} {v : Value} {P : List RP} (h : GR B w v P) : ∃ ad cap, v = .slice ad P.length cap ∧ P.length ≤ cap ∧ cap ≤ maxLen ∧ RV B w ad (P.map Prod.fst) ∧ (ad = none → P.length = 0 ∧ cap = 0) := by
  rcases h.row.2 with ⟨rfl, hn⟩ | ⟨g, cap, cur, rfl, hg, hgg, h1, h2, h3, h4⟩
  · refine ⟨none, 0, by rw [hn], by omega, Nat.zero_le _, fun i hi => ?_, fun _ => ⟨hn, rfl⟩⟩
    rw [List.length_map] at hi; omega
  · refine ⟨some ⟨g, 0, none⟩, cap, rfl, h1, h2, fun i hi => ?_, fun e => (by cases e)⟩
    rw [List.length_map] at hi
    obtain ⟨c0, c1⟩ := fl2_at P i hi
    have k0 := h.row.cellAt (i * 2) (by omega)
    have k1 := h.row.cellAt (i * 2 + 1) (by omega)
    have e : rl (P.map Prod.fst) i = P[i].1 := by rw [rl_get (by rw [List.length_map]; exact hi), List.getElem_map]
    rw [e]
    exact ⟨g, 0, _, _, rfl, hg, (Array.getElem?_eq_some_iff.1 hgg).1, by rw [Nat.zero_add, k0]; exact c0, by rw [Nat.zero_add, k1]; exact c1, own_dvs rfl (h.each _ (List.getElem_mem hi))⟩
theorem Bx4.kept {w w' : World} {q t n : Nat} {x0 x1 x2 x3 v : Value} {B : Nat} {xs : List Value} (h : Bx4 w q t x0 x1 x2 x3) (hr : w.ownsRow B 28 2 v n xs) (ht : t ≠ 28) (k : w.grownBy w' v.ownBlock) : Bx4 w' q t x0 x1 x2 x3 := by
  have hq := (Array.getElem?_eq_some_iff.1 h).1
  unfold Bx4 at h ⊢
  rw [k.block q hq ?_]
  · exact h
  · intro e
    rcases hr.2 with ⟨rfl, _⟩ | ⟨g, cap, cur, rfl, _, hg, _⟩
    · cases e
    · simp only [Value.ownBlock, Option.some.injEq] at e
      subst e
      rw [hg] at h
      simp only [Option.some.injEq, Obj.cells.injEq] at h
      exact ht h.2.1.symm
theorem own_base_le {w : World} {B e s n : Nat} {v : Value} {xs : List Value} (h : w.ownsRow B e s v n xs) : ∀ k, v.ownBlock = some k → B ≤ k := by
  rcases h.2 with ⟨rfl, _⟩ | ⟨g, cap, cur, rfl, hb, _⟩
  · intro k hk; cases hk
  · intro k hk
    simp only [Value.ownBlock, Option.some.injEq] at hk
    subst hk; exact hb
/-- A table under way, in a box of its own. -/
structure GS (w W : World) (q : Nat) (nm : ByteArray) (m : Int) (v1 v : Value) (L : List ByteArray) (P : List RP) : Prop where
  bl : Below w.heap.size w W
  qb : w.heap.size ≤ q
  bx : Bx4 W q 25 (.string nm) (.int .i64 m) v1 v
  u : W.ownsRow w.heap.size 9 1 v1 L.length (L.map Value.string)
  r : GR w.heap.size W v P
theorem GS.up {w W W' : World} {q : Nat} {nm : ByteArray} {m : Int} {v1 v : Value} {L : List ByteArray} {P : List RP} (h : GS w W q nm m v1 v L P) (k : Below W.heap.size W W') : GS w W' q nm m v1 v L P :=
  ⟨h.bl.trans (k.mono h.bl.size), h.qb, h.bx.up k, own_up h.u k, h.r.up k⟩
theorem GS.next {w W W' : World} {q : Nat} {nm : ByteArray} {m : Int} {v1 v v' : Value} {L : List ByteArray} {P : List RP} {p : RP} (h : GS w W q nm m v1 v L P) (hd : DOw w.heap.size W p) (hg : W.grownBy W' v.ownBlock) (ho : W'.ownsRow w.heap.size 28 2 v' (P.length + 1) (P.flatMap rg ++ rg p)) : Bx4 W' q 25 (.string nm) (.int .i64 m) v1 v ∧ GS w (W'.setCell ⟨q, 3, none⟩ v') q nm m v1 v' L (P ++ [p]) := by
  have bx := h.bx.kept h.r.row (by decide) hg
  refine ⟨bx, (h.bl.grown hg h.bl.size (own_base_le h.r.row)).setCell h.qb _, h.qb, bx.set3 _, own_setB (World.ownsRow.kept h.u hg (Rf.own_apart h.u h.r.row (by decide))) bx (by decide), (h.r.next hd hg ho).setB bx (by decide) (by decide)⟩
/-- What a table is that the document's own answer makes. -/
def GT' (w : World) (T : TM) (v : Value) (w' : World) : Prop := ∃ v1 v2 P, v = .agg #[.string T.name, .int .i64 T.most, v1, v2] ∧ w'.ownsRow w.heap.size 9 1 v1 T.uq.length (T.uq.map Value.string) ∧ GR w.heap.size w' v2 P ∧ P.map Prod.fst = T.rows
theorem GT'.up {w w' w2 : World} {T : TM} {v : Value} (h : GT' w T v w') (k : Below w'.heap.size w' w2) : GT' w T v w2 := by
  obtain ⟨v1, v2, P, h1, h2, h3, h4⟩ := h
  exact ⟨v1, v2, P, h1, own_up h2 k, h3.up k, h4⟩
theorem GT'.base {w w0 w' : World} {T : TM} {v : Value} (h : GT' w T v w') (k : w0.heap.size ≤ w.heap.size) : GT' w0 T v w' := by
  obtain ⟨v1, v2, P, h1, h2, h3, h4⟩ := h
  exact ⟨v1, v2, P, h1, ownsRow_mono h2 k, ⟨ownsRow_mono h3.row k, fun p hp => ownsRow_mono (h3.each p hp) k⟩, h4⟩
theorem GT'.tvs {w w' : World} {T : TM} {v : Value} (h : GT' w T v w') : ∃ a1 c1 a2 c2, v = tv T a1 c1 a2 c2 ∧ TVs w.heap.size w' T a1 c1 a2 c2 := by
  obtain ⟨v1, v2, P, rfl, h2, h3, h4⟩ := h
  obtain ⟨a1, c1, rfl, k1, k2, k3, k4, k5⟩ := sview_own h2
  obtain ⟨a2, c2, rfl, j1, j2, j3, j4⟩ := h3.rv
  have hl : P.length = T.rows.length := by rw [← h4, List.length_map]
  rw [h4] at j3
  refine ⟨a1, c1, a2, c2, ?_, k3, k1, k2, k4, k5, j3, by omega, j2, fun e => by have := j4 e; omega⟩
  unfold tv
  rw [hl]
theorem gt_zero (w w' : World) : GT' w zT (.agg #[.string ⟨#[]⟩, .int .i64 0, .slice none 0 0, .slice none 0 0]) w' :=
  ⟨_, _, [], rfl, World.ownsRow_nil _ _ _ _, GR.nil _ _, rfl⟩
set_option maxRecDepth 20000 in
set_option maxHeartbeats 1000000 in
theorem rtw_any (B : Nat) (r : RC) (ad : Option Addr) (cp : Nat) (w : World) (hd : DV B w ad cp r.d) (hl : r.d.length ≤ 1000000) : Calls Tryz.prog 23 #[rv r ad cp] w fun e w' => ∃ ae ce, e = .returned (.agg #[.string r.id, .slice ae r.d.length ce]) ∧ DOw w.heap.size w' (r, ae, ce) ∧ Below w.heap.size w w' := by
  have HT := Lib.hid (fun W (k : Below w.heap.size w W) => rtwin_any ad r.d.length cp (gl r.d) W (hd.1.below k) hl hd.2.2.2.1)
  unfold TwinPost at HT
  rw [Rf.cut_gl r.d r.d.length rfl] at HT
  obtain ⟨id, d⟩ := r
  show Calls Tryz.prog 23 #[.agg #[.string id, .slice ad d.length cp]] w fun e w' => ∃ ae ce, e = .returned (.agg #[.string id, .slice ae d.length ce]) ∧ w'.ownsRow w.heap.size 47 5 (.slice ae d.length ce) d.length (rw5 d) ∧ Below w.heap.size w w'
  dsimp only at HT
  generalize rw5 d = D at HT ⊢
  generalize d.length = n at HT ⊢
  obtain ⟨W, hW⟩ : ∃ W, W = (w.alloc (.cells #[.string id, .slice ad n cp] 28)).alloc (.cells #[.string ⟨#[]⟩, .slice none 0 0] 28) := ⟨_, rfl⟩
  have HB : Hid (Below w.heap.size w W) := Lib.hid (by rw [hW]; exact ((Below.refl _ _).alloc (Nat.le_refl _) _).alloc (by simp) _)
  have HQ : Hid (Bx2 W w.heap.size (.string id) (.slice ad n cp)) := Lib.hid (by rw [hW]; exact (bx2_new w _ _).up ((Below.refl _ _).alloc (Nat.le_refl _) _))
  have HP : Hid (Bx2 W (w.heap.size + 1) (.string ⟨#[]⟩) (.slice none 0 0)) := Lib.hid (by
    rw [hW]
    have h := bx2_new (w.alloc (.cells #[.string id, .slice ad n cp] 28)) (.string ⟨#[]⟩) (.slice none 0 0)
    simpa using h)
  have HSZ : Hid (w.heap.size + 2 = W.heap.size) := Lib.hid (by rw [hW]; simp)
  have HTC := Lib.hid (HT.out W.drew HB.out.drew)
  clear hd hl HT
  go_enter Tryz.func23, Tryz.ntmps23
  go_wp2_with fail
  rw [← hW]
  clear hW
  have x0 := HQ.out.c0
  have x1 := HQ.out.c1
  go_region_law (first
    | (go_simp; refine HTC.out.mono ?_; rintro e w4 ⟨v, rfl, o4, b4⟩; obtain ⟨a4, c4, rfl⟩ := own_slice o4; have B4 := Lib.hid ((Below.refl W.heap.size W).drew.trans b4); have O4 : Hid (w4.ownsRow W.heap.size 47 5 (.slice a4 n c4) n D) := Lib.hid o4; have Q4 := Lib.hid (HQ.out.up B4.out); have y0 := Q4.out.c0; have y1 := Q4.out.c1; have P4 := Lib.hid (HP.out.up B4.out); have z0 := P4.out.c0; have z1 := P4.out.c1; have f0 := P4.out.fz 0; have f1 := P4.out.fz 1; clear o4 b4))
  all_goals
    have B5 := Lib.hid (HB.out.trans (B4.out.mono HB.out.size))
    clear HTC x0 x1 y0 y1 HQ HP
    go_wp2_with fail
    refine ret_rc Tryz.results23 rfl (P4.out.set _ _) ⟨a4, c4, rfl, ?_, set2_below B5.out _ (by omega) _ _⟩
    exact ownsRow_mono (own_setL (own_setL O4.out (by have := HSZ.out; omega)) (by have := HSZ.out; omega)) (by have := HSZ.out; omega)
end Go.Proofs.YtfigebepeniikaaGreat
/- Layer 27: the document's Row and Twin. -/
namespace Go.Proofs.YtfigebepeniikaaGreat
open Go.RowKit Go.Maps Go.Shelf
theorem step_rec {ops : Array Oper} {o : Oper} {a : Act} {w0 w : World} {K : Act → World → Prop} {Q : Exit → Act → World → Prop} {E : Prop} {q : Nat} {nm : ByteArray} {m : Int} {v1 v : Value} {L : List ByteArray} {P : List RP}
    (hg : o.guard = none) (s x : Operand) (hop : o.op = Op.call { callee := Callee.builtin Builtin.append, args := #[s, x], argTypes := #[23, 23] })
    (p : RP) (b : Nat) (hG : GS w0 w q nm m v1 v L P) (hd : DOw w0.heap.size w p) (hs : a.eval s = v) (hx : a.eval x = .slice (some ⟨b, 0, none⟩) 1 1) (hb : w.heap[b]? = some (.cells #[.string p.1.id, .slice p.2.1 p.1.d.length p.2.2] 28)) (hP : P.length ≤ 1000)
    (hK : ∀ v' w', Bx4 w' q 25 (.string nm) (.int .i64 m) v1 v → GS w0 (w'.setCell ⟨q, 3, none⟩ v') q nm m v1 v' L (P ++ [p]) → K (a.put o.dst v') w') :
    if Region.wanted o (yielded ops a.tmps) = true then Oper.wp Tryz.prog o a w K Q else E := by
  obtain ⟨i, h2, h3, h4, h5⟩ := infoR
  have hw : Region.wanted o (yielded ops a.tmps) = true := by simp [Region.wanted, hg]
  rw [if_pos hw]
  have hnews : ∀ j u, (rg p)[j]? = some u → w.cell? ((⟨b, 0, none⟩ : Addr).add j) = some u := fun j u hj => by
    have hjl := (List.getElem?_eq_some_iff.1 hj).1
    rcases (show j = 0 ∨ j = 1 by simp [rg] at hjl; omega) with rfl | rfl <;> simp [rg] at hj <;> subst hj <;> simp [World.cell?, hb, Addr.add]
  obtain ⟨v', w', hrun, r1, r2, _⟩ := run_append_own (P := Tryz.prog) (w := w) w0.heap.size 23 o.type 28 i _ 2 40 Tryz.underlying23 h2 h3 h4 h5 rfl (by decide) v P.length (P.flatMap rg) hG.r.row ⟨b, 0, none⟩ 1 1 (rg p) rfl hnews (by intro u hu; simp [rg] at hu; rcases hu with rfl | rfl <;> rfl) (by unfold maxLen; omega) (by omega) hG.bl.size
  unfold Oper.wp
  simp [execOp, hop, resolve, invoke, builtin, hs, hx, hrun, Result.andThen]
  obtain ⟨k1, k2⟩ := hG.next hd r2 r1
  exact hK v' w' k1 k2
theorem step_names {ops : Array Oper} {o : Oper} {a : Act} {w : World} {K : Act → World → Prop} {Q : Exit → Act → World → Prop} {E : Prop}
    (hg : o.guard = none) (s x : Operand) (hop : o.op = Op.call { callee := Callee.builtin Builtin.append, args := #[s, x], argTypes := #[22, 22] })
    (B : Nat) (a1 : Option Addr) (c1 : Nat) (L : List ByteArray) (hs : a.eval s = .slice none 0 0) (hx : a.eval x = .slice a1 L.length c1) (hv : Ord.SView w a1 L.length L) (hn : L.length ≤ 1000) (h0 : a1 = none → L.length = 0 ∧ c1 = 0) (hB : B ≤ w.heap.size)
    (hK : ∀ v' w', w'.ownsRow B 9 1 v' L.length (L.map Value.string) → w.grownBy w' none → K (a.put o.dst v') w') :
    if Region.wanted o (yielded ops a.tmps) = true then Oper.wp Tryz.prog o a w K Q else E := by
  obtain ⟨i, h2, h3, h4, h5⟩ := infoN
  have hw : Region.wanted o (yielded ops a.tmps) = true := by simp [Region.wanted, hg]
  rw [if_pos hw]
  have hnil := World.ownsRow_nil w B 9 1
  cases a1 with
  | none =>
    obtain ⟨e1, rfl⟩ := h0 rfl
    have e2 : L = [] := List.length_eq_zero_iff.1 e1
    subst e2
    have hrun := run_append_owned_none (P := Tryz.prog) (w := w) B 22 o.type 9 i 1 Tryz.underlying22 h2 (.slice none 0 0) 0 [] hnil
    unfold Oper.wp
    simp [execOp, hop, resolve, invoke, builtin, hs, hx, hrun, Result.andThen]
    exact hK _ w hnil ⟨rfl, rfl, rfl, Nat.le_refl _, fun _ _ _ => rfl⟩
  | some ad =>
    obtain ⟨v', w', hrun, r1, r2, _⟩ := run_append_own (P := Tryz.prog) (w := w) B 22 o.type 9 i _ 1 16 Tryz.underlying22 h2 h3 h4 h5 rfl (by decide) (.slice none 0 0) 0 [] hnil ad L.length c1 (L.map Value.string) (by simp) (fun j u hj => by
      have hjl := (List.getElem?_eq_some_iff.1 hj).1
      rw [List.length_map] at hjl
      obtain ⟨b, off, e, _, hc⟩ := hv.2 j hjl
      cases e
      rw [List.getElem?_map, List.getElem?_eq_getElem hjl] at hj
      cases hj
      rw [nth_in hjl] at hc
      unfold Addr.add; split <;> simp_all) (by intro u hu; obtain ⟨x, _, rfl⟩ := List.mem_map.1 hu; rfl) (by unfold maxLen; omega) (by omega) hB
    rw [Nat.zero_add, List.nil_append] at r1
    unfold Oper.wp
    simp [execOp, hop, resolve, invoke, builtin, hs, hx, hrun, Result.andThen]
    exact hK v' w' r1 r2
def RowP (R : List RC) (s : ByteArray) (i : Int) : Prop := (∃ k, k < R.length ∧ (rl R k).id = s ∧ (∀ j, j < k → (rl R j).id ≠ s) ∧ i = (k : Nat)) ∨ ((∀ j, j < R.length → (rl R j).id ≠ s) ∧ i = -1)
set_option maxRecDepth 20000 in
set_option maxHeartbeats 1000000 in
theorem rRow_any (B : Nat) (T : TM) (a1 a2 : Option Addr) (c1 c2 : Nat) (s : ByteArray) (w : World) (hv : TVs B w T a1 c1 a2 c2) (hs : SmT T) : Calls Tryz.prog 27 #[tv T a1 c1 a2 c2, .string s] w fun e w' => (∃ i, e = .returned (.int .i64 i) ∧ RowP T.rows s i) ∧ Below w.heap.size w w' := by
  obtain ⟨nm, m, uq, R⟩ := T
  show Calls Tryz.prog 27 #[.agg #[.string nm, .int .i64 m, .slice a1 uq.length c1, .slice a2 R.length c2], .string s] w fun e w' => (∃ i, e = .returned (.int .i64 i) ∧ RowP R s i) ∧ Below w.heap.size w w'
  have hRn : R.length ≤ 1000 := hs.rows
  have hr : RV B w a2 R := hv.r
  obtain ⟨W, hW⟩ : ∃ W, W = w.alloc (.cells #[.string nm, .int .i64 m, .slice a1 uq.length c1, .slice a2 R.length c2] 25) := ⟨_, rfl⟩
  have HW : Hid (Below w.heap.size w W) := Lib.hid (by rw [hW]; exact (Below.refl _ _).alloc (Nat.le_refl _) _)
  have HQ : Hid (Bx4 W w.heap.size 25 (.string nm) (.int .i64 m) (.slice a1 uq.length c1) (.slice a2 R.length c2)) := Lib.hid (by rw [hW]; exact bx4_new w _ _ _ _ _)
  have HR := Lib.hid (hr.below HW.out)
  have r1 : (R.length : Int) ≤ 1000 := by omega
  clear hv hs hr
  go_enter Tryz.func27, Tryz.ntmps27
  go_wp2_with fail
  rw [← hW]
  clear hW
  have q3 := HQ.out.c3
  go_loop [5] (fun v5 => ∃ i : Nat, i ≤ R.length ∧ v5 = .int .i64 i ∧ Hid (∀ j, j < i → (rl R j).id ≠ s)) (fun v5 => R.length - (intOf v5).toNat)
  case atStart => exact ⟨0, Nat.zero_le _, rfl, Lib.hid (fun j hj => by omega)⟩
  case round =>
    obtain ⟨i, hi, rfl, HN⟩ := hrel
    by_cases hlt : i < R.length
    · have hlt' : (i : Int) < R.length := by omega
      have hge : (0 : Int) ≤ i := by omega
      obtain ⟨rb, ro, rfl⟩ := HR.out.addr (by omega)
      obtain ⟨_, _, _, _, d0, _, _⟩ := HR.out.at_ hlt
      by_cases he : (rl R i).id = s
      · have hse : ((rl R i).id.toList == s.toList) = true := by rw [str_is]; simpa using he
        have HF : Hid (RowP R s (i : Nat)) := Lib.hid (.inl ⟨i, hlt, he, HN.out, rfl⟩)
        clear he HN
        generalize (rl R i).id = id at d0 hse
        go_wp2_with fail
        go_ret
        exact ⟨⟨_, rfl, HF.out⟩, HW.out⟩
      · have hse : ((rl R i).id.toList == s.toList) = false := by rw [str_is]; simpa using he
        have HN2 : Hid (∀ j, j < i + 1 → (rl R j).id ≠ s) := Lib.hid (fun j hj => by
          by_cases e : j = i
          · subst e; exact he
          · exact HN.out j (by omega))
        clear he HN
        generalize (rl R i).id = id at d0 hse
        go_wp2_with fail
        go_round
        case rel => exact ⟨i + 1, by omega, by go_num, HN2⟩
        case measure => simp [intOf]; omega
    · have him : i = R.length := by omega
      subst him
      have hz : ¬ ((R.length : Int) < (R.length : Int)) := by omega
      have HF : Hid (RowP R s (-1)) := Lib.hid (.inr ⟨HN.out, rfl⟩)
      clear HN
      go_wp2_with fail
      go_ret
      exact ⟨⟨_, rfl, HF.out⟩, HW.out⟩
theorem ret_tabp {R : Ending → World → Prop} {fn : Func} {tmps : Array Value} {w : World} {p g : Nat} {x0 x1 x2 x3 : Value} (hr : fn.results = #[.cell p 25]) (h2 : tmps.getD p undef = .pointer (some ⟨g, 0, none⟩)) (hg : Bx4 w g 25 x0 x1 x2 x3)
    (hR : R (.returned (.agg #[x0, x1, x2, x3])) w) : bodyPost Tryz.prog fn R .ret ⟨tmps, []⟩ w := by
  refine bodyPost_ret (v := .agg #[x0, x1, x2, x3]) ?_ rfl hR
  exact results_cell_row hr tmps w g 25 #[x0, x1, x2, x3] (0, 0) _ h2 hg Tryz.underlying25 rfl (by rw [infoTk]; rfl)
end Go.Proofs.YtfigebepeniikaaGreat
/- Layer 27: the document's Twin. -/
namespace Go.Proofs.YtfigebepeniikaaGreat
open Go.RowKit Go.Maps Go.Shelf
theorem own_set4 {w : World} {B n e size p : Nat} {v : Value} {xs : List Value} {x0 x1 x2 x3 : Value} (h : w.ownsRow B e size v n xs) (hp : Bx4 w p 25 x0 x1 x2 x3) (he : 25 ≠ e) (v0 v1 v2 v3 : Value) : (W4 w p v0 v1 v2 v3).ownsRow B e size v n xs :=
  own_setB (own_setB (own_setB (own_setB h hp he) (hp.set0 v0) he) ((hp.set0 v0).set1 v1) he) (((hp.set0 v0).set1 v1).set2 v2) he
theorem GR.set4 {B p : Nat} {w : World} {v : Value} {P : List RP} {x0 x1 x2 x3 : Value} (h : GR B w v P) (hp : Bx4 w p 25 x0 x1 x2 x3) (v0 v1 v2 v3 : Value) : GR B (W4 w p v0 v1 v2 v3) v P :=
  ⟨own_set4 h.row hp (by decide) _ _ _ _, fun q hq => own_set4 (h.each q hq) hp (by decide) _ _ _ _⟩
theorem gs_new {w w' : World} {p : Nat} {nm : ByteArray} {m : Int} {v1 x0 x1 x2 x3 : Value} {L : List ByteArray} (hb : Below w.heap.size w w') (hp : Bx4 w' p 25 x0 x1 x2 x3) (hq : w.heap.size ≤ p) (o : w'.ownsRow w.heap.size 9 1 v1 L.length (L.map Value.string)) : GS w (W4 w' p (.string nm) (.int .i64 m) v1 (.slice none 0 0)) p nm m v1 (.slice none 0 0) L [] :=
  ⟨w4_below hb hq _ _ _ _, hq, hp.set4 _ _ _ _, own_set4 o hp (by decide) _ _ _ _, GR.nil _ _⟩
theorem gs_fold {w w' : World} {nm : ByteArray} {m : Int} {v1 : Value} {L : List ByteArray} (hb : Below w.heap.size w w') (o : w'.ownsRow w.heap.size 9 1 v1 L.length (L.map Value.string)) : GS w (w'.alloc (.cells #[.string nm, .int .i64 m, v1, .slice none 0 0] 25)) w'.heap.size nm m v1 (.slice none 0 0) L [] :=
  ⟨hb.alloc hb.size _, hb.size, bx4_new _ _ _ _ _ _, o.alloc _, GR.nil _ _⟩
theorem take_rl {R : List RC} {i : Nat} (h : i < R.length) : R.take (i + 1) = R.take i ++ [rl R i] := by
  rw [rl_get h, List.take_add_one, List.getElem?_eq_getElem h]; rfl
theorem GT'.of {w w' : World} {q : Nat} {nm : ByteArray} {m : Int} {v1 v : Value} {L : List ByteArray} {P : List RP} {R : List RC} (h : GS w w' q nm m v1 v L P) (hp : P.map Prod.fst = R) : GT' w ⟨nm, m, L, R⟩ (.agg #[.string nm, .int .i64 m, v1, v]) w' := ⟨v1, v, P, rfl, h.u, h.r, hp⟩
theorem GT'.set4 {w w' : World} {T : TM} {v : Value} {p : Nat} {x0 x1 x2 x3 : Value} (h : GT' w T v w') (hp : Bx4 w' p 25 x0 x1 x2 x3) (v0 v1 v2 v3 : Value) : GT' w T v (W4 w' p v0 v1 v2 v3) := by
  obtain ⟨y1, y2, P, h1, h2, h3, h4⟩ := h
  exact ⟨y1, y2, P, h1, own_set4 h2 hp (by decide) _ _ _ _, h3.set4 hp _ _ _ _, h4⟩
set_option maxRecDepth 20000 in
set_option maxHeartbeats 100000000 in
theorem rTwinT_any (B : Nat) (T : TM) (a1 a2 : Option Addr) (c1 c2 : Nat) (w : World) (hv : TVs B w T a1 c1 a2 c2) (hs : SmT T) : Calls Tryz.prog 6 #[tv T a1 c1 a2 c2] w fun e w' => (∃ v, e = .returned v ∧ GT' w T v w') ∧ Below w.heap.size w w' := by
  obtain ⟨nm, m, uq, R⟩ := T
  show Calls Tryz.prog 6 #[.agg #[.string nm, .int .i64 m, .slice a1 uq.length c1, .slice a2 R.length c2]] w fun e w' => (∃ v, e = .returned v ∧ GT' w ⟨nm, m, uq, R⟩ v w') ∧ Below w.heap.size w w'
  have hr : RV B w a2 R := hv.r
  have hu : Ord.SView w a1 uq.length uq := hv.u
  have hun : a1 = none → uq.length = 0 ∧ c1 = 0 := hv.un
  have hRn : R.length ≤ 1000 := hs.rows
  have hUn : uq.length ≤ 1000 := hs.uq
  obtain ⟨W, hW⟩ : ∃ W, W = (w.alloc (.cells #[.string nm, .int .i64 m, .slice a1 uq.length c1, .slice a2 R.length c2] 25)).alloc (.cells #[.string ⟨#[]⟩, .int .i64 0, .slice none 0 0, .slice none 0 0] 25) := ⟨_, rfl⟩
  have HW : Hid (Below w.heap.size w W) := Lib.hid (by rw [hW]; exact ((Below.refl _ _).alloc (Nat.le_refl _) _).alloc (by simp) _)
  have HQ1 : Hid (Bx4 W w.heap.size 25 (.string nm) (.int .i64 m) (.slice a1 uq.length c1) (.slice a2 R.length c2)) := Lib.hid (by rw [hW]; exact (bx4_new w _ _ _ _ _).up ((Below.refl _ _).alloc (Nat.le_refl _) _))
  have HQ2 : Hid (Bx4 W (w.heap.size + 1) 25 (.string ⟨#[]⟩) (.int .i64 0) (.slice none 0 0) (.slice none 0 0)) := Lib.hid (by
    rw [hW]
    have h := bx4_new (w.alloc (.cells #[.string nm, .int .i64 m, .slice a1 uq.length c1, .slice a2 R.length c2] 25)) 25 (.string ⟨#[]⟩) (.int .i64 0) (.slice none 0 0) (.slice none 0 0)
    simpa using h)
  have HSZ : Hid (w.heap.size + 2 = W.heap.size) := Lib.hid (by rw [hW]; simp)
  have HU := Lib.hid (fun V (k : Below W.heap.size W V) => (hu.below HW.out).below k)
  have HRV := Lib.hid (fun V (k : Below w.heap.size w V) => hr.below k)
  have HTW := Lib.hid (fun i (hi : i < R.length) ad cp V (hd : DV B V ad cp (rl R i).d) => rtw_any B (rl R i) ad cp V hd (by have h : (rl R i).d.length ≤ 100000 := (hs.each (rl R i) (rl_mem hi)).2.1; omega))
  unfold rv at HTW
  have HUN := Lib.hid hun
  have r1 : (R.length : Int) ≤ 1000 := by omega
  have HUn := Lib.hid hUn
  have D1 : Hid (Below W.heap.size W W.drew) := Lib.hid (Below.refl _ _).drew
  have D2 : Hid (Below W.heap.size W (W.alloc (.cells #[.string ⟨#[]⟩, .int .i64 0, .slice none 0 0, .slice none 0 0] 25)).drew) := Lib.hid ((Below.refl _ _).alloc (Nat.le_refl _) _).drew
  have A1 := Lib.hid (HQ1.out.up ((Below.refl W.heap.size W).alloc (Nat.le_refl _) (.cells #[.string ⟨#[]⟩, .int .i64 0, .slice none 0 0, .slice none 0 0] 25)))
  have a0 := A1.out.c0
  have a1' := A1.out.c1
  have a2' := A1.out.c2
  have x0 := HQ1.out.c0
  have x1 := HQ1.out.c1
  have x2 := HQ1.out.c2
  have hsz := HSZ.out
  clear hv hs hr hu hun hUn
  go_enter Tryz.func6, Tryz.ntmps6
  go_upto_region 1 with fail
  rw [← hW]
  clear hW
  go_cut [3] (fun v3 wx => ∃ q v1, v3 = .pointer (some ⟨q, 0, none⟩) ∧ Hid (GS W wx q nm m v1 (.slice none 0 0) uq []))
  case first =>
    as_aux_lemma =>
      go_region_law (first
        | (refine step_names rfl (.const (.slice none 0 0)) (.tmp 10) rfl W.heap.size a1 c1 uq (by simp [Act.eval]) (by simp [Act.eval, Act.put]) (HU.out _ (by first | exact D1.out | exact D2.out)) HUn.out HUN.out ?_ ?_; (first | exact D1.out.size | exact D2.out.size); intro v' w' o' g'; obtain ⟨ua, uc, rfl⟩ := own_slice o'; have O' := Lib.hid o'; have K' := Lib.hid ((Below.refl _ _).grown g' (Nat.le_refl _) (fun k hk => by cases hk)); have Q1' : Hid (Bx4 w' w.heap.size 25 (.string nm) (.int .i64 m) (.slice a1 uq.length c1) (.slice a2 R.length c2)) := Lib.hid (by first | exact (HQ1.out.up D1.out).up K'.out | exact (HQ1.out.up D2.out).up K'.out); have y0 := Q1'.out.c0; have y1 := Q1'.out.c1; have y2 := Q1'.out.c2; have A2 := Lib.hid (Q1'.out.up ((Below.refl w'.heap.size w').alloc (Nat.le_refl _) (.cells #[.string ⟨#[]⟩, .int .i64 0, .slice none 0 0, .slice none 0 0] 25))); have b0 := A2.out.c0; have b1 := A2.out.c1; (try (have P3 : Hid (Bx4 w' W.heap.size 25 (.string ⟨#[]⟩) (.int .i64 0) (.slice none 0 0) (.slice none 0 0)) := Lib.hid (((bx4_new W 25 (.string ⟨#[]⟩) (.int .i64 0) (.slice none 0 0) (.slice none 0 0)).up (Below.refl _ _).drew).up K'.out); have z0 := P3.out.c0; have z1 := P3.out.c1; have z2 := P3.out.c2; have z3 := P3.out.c3; have f0 := P3.out.fz 0; have f1 := P3.out.fz 1; have f2 := P3.out.fz 2; have f3 := P3.out.fz 3)); clear o' g'))
      all_goals go_wp2_with fail
      all_goals go_meet
      all_goals first
        | exact ⟨_, _, rfl, Lib.hid (gs_new (D2.out.trans (K'.out.mono D2.out.size)) P3.out (Nat.le_refl _) O'.out)⟩
        | exact ⟨_, _, rfl, Lib.hid (gs_fold (D1.out.trans (K'.out.mono D1.out.size)) O'.out)⟩
  case rest =>
    obtain ⟨q, v1, rfl, HG⟩ := hcut
    obtain ⟨ua, uc, hv1⟩ := own_slice HG.out.u
    subst hv1
    clear D1 D2 A1 a0 a1' a2' x0 x1 x2 HUN HUn HU
    go_wp2_with fail
    go_loopw [4] (fun v4 wr => ∃ i : Nat, i ≤ R.length ∧ v4 = .int .i64 i ∧ Hid (∃ v P, GS W wr q nm m (.slice ua uq.length uc) v uq P ∧ P.map Prod.fst = R.take i)) (fun v4 _ => R.length - (intOf v4).toNat)
    case atStart => exact ⟨0, Nat.zero_le _, rfl, Lib.hid ⟨_, [], HG.out, rfl⟩⟩
    case round =>
      obtain ⟨i, hi, rfl, HI⟩ := hrel
      obtain ⟨v, P, hg, hp⟩ := HI.out
      obtain ⟨va, vc, hv'⟩ := own_slice hg.r.row
      subst hv'
      have G := Lib.hid hg
      have HP := Lib.hid hp
      have HPL : Hid (P.length ≤ 1000) := Lib.hid (by have := congrArg List.length hp; rw [List.length_map, List.length_take] at this; omega)
      clear hg hp HI
      have Q1r := Lib.hid (HQ1.out.up G.out.bl)
      have x3 := Q1r.out.c3
      by_cases hlt : i < R.length
      · have hlt' : (i : Int) < R.length := by omega
        have hge : (0 : Int) ≤ i := by omega
        have HRr := Lib.hid (HRV.out wr (HW.out.trans (G.out.bl.mono HW.out.size)))
        obtain ⟨rb, ro, rfl⟩ := HRr.out.addr (by omega)
        obtain ⟨ai, ci, _, _, d0, d1, dv⟩ := HRr.out.at_ hlt
        have HTC := Lib.hid (HTW.out i hlt ai ci wr.drew (dv.below (Below.refl _ _).drew))
        have HTK := Lib.hid (take_rl hlt)
        obtain ⟨r0, hr0⟩ : ∃ r, r = rl R i := ⟨_, rfl⟩
        rw [← hr0] at d0 d1 HTC HTK
        have GD := Lib.hid (G.out.up (Below.refl wr.heap.size wr).drew)
        have y3 := G.out.bx.c3
        clear hr0 dv HTW HRV HRr
        go_wp2_with fail
        go_region_law (first
          | (refine step_rec rfl (.tmp 21) (.tmp 28) rfl (r0, ae, ce) w5.heap.size G5.out D5.out (by simp [Act.eval, Act.put]) (by simp [Act.eval, Act.put]) (heap_alloc_new _ _) HPL.out ?_; intro v' w6 bx6 gs6; obtain ⟨ra, rc, hv'⟩ := own_slice gs6.r.row; subst hv'; rw [show (P ++ [(r0, ae, ce)]).length = P.length + 1 by simp] at gs6; have G6 := Lib.hid gs6; have z3 := bx6.c3; have f3 := bx6.fz 3; clear bx6 gs6)
          | (go_simp; go_at_call 23; refine HTC.out.mono ?_; rintro e w5 ⟨ae, ce, rfl, d5, b5⟩; have G5' := Lib.hid (GD.out.up b5); have y5 := G5'.out.bx.c3; have G5 := Lib.hid (G5'.out.up ((Below.refl w5.heap.size w5).alloc (Nat.le_refl _) (.cells #[.string r0.id, .slice ae r0.d.length ce] 28))); have y6 := G5.out.bx.c3; have D5 : Hid (DOw W.heap.size (w5.alloc (.cells #[.string r0.id, .slice ae r0.d.length ce] 28)) (r0, ae, ce)) := Lib.hid (own_up (ownsRow_mono d5 GD.out.bl.size) ((Below.refl _ _).alloc (Nat.le_refl _) _)); clear d5 b5))
        all_goals
          clear HTC GD
          go_wp2_with fail
          go_roundw
          case rel => exact ⟨i + 1, by omega, by go_num, Lib.hid ⟨_, _, G6.out, by rw [List.map_append, HP.out, HTK.out]; rfl⟩⟩
          case measure => simp [intOf]; omega
      · have him : i = R.length := by omega
        subst him
        have hz : ¬ ((R.length : Int) < (R.length : Int)) := by omega
        have Q2r := Lib.hid (HQ2.out.up G.out.bl)
        have y0 := G.out.bx.c0
        have y1 := G.out.bx.c1
        have y2 := G.out.bx.c2
        have y3 := G.out.bx.c3
        have z0 := Q2r.out.c0
        have z1 := Q2r.out.c1
        have z2 := Q2r.out.c2
        have z3 := Q2r.out.c3
        have f0 := Q2r.out.fz 0
        have f1 := Q2r.out.fz 1
        have f2 := Q2r.out.fz 2
        have f3 := Q2r.out.fz 3
        have HPT : Hid (P.map Prod.fst = R) := Lib.hid (by rw [HP.out, List.take_length])
        have HF := Lib.hid (GT'.of G.out HPT.out)
        clear HTW HRV
        go_wp2_with fail
        exact ret_tabp Tryz.results6 rfl (Q2r.out.set4 _ _ _ _) ⟨⟨_, rfl, (HF.out.set4 Q2r.out _ _ _ _).base HW.out.size⟩, w4_below (HW.out.trans (G.out.bl.mono HW.out.size)) (by omega) _ _ _ _⟩
end Go.Proofs.YtfigebepeniikaaGreat
/- Layer 27: the document's Without. -/
namespace Go.Proofs.YtfigebepeniikaaGreat
open Go.RowKit Go.Maps Go.Shelf
/-- A table laid into a box of its own, its rows struck. -/
theorem gs_box {w w' : World} {T : TM} {v : Value} (h : GT' w T v w') (hb : Below w.heap.size w w') : ∃ ua uc va n vc, v = .agg #[.string T.name, .int .i64 T.most, .slice ua T.uq.length uc, .slice va n vc] ∧ GS w ((w'.alloc (.cells #[.string T.name, .int .i64 T.most, .slice ua T.uq.length uc, .slice va n vc] 25)).setCell ⟨w'.heap.size, 3, none⟩ (.slice none 0 0)) w'.heap.size T.name T.most (.slice ua T.uq.length uc) (.slice none 0 0) T.uq [] := by
  obtain ⟨v1, v2, P, rfl, h2, h3, h4⟩ := h
  obtain ⟨ua, uc, rfl⟩ := own_slice h2
  obtain ⟨va, vc, rfl⟩ := own_slice h3.row
  refine ⟨ua, uc, va, _, vc, rfl, (hb.alloc hb.size _).setCell hb.size _, hb.size, (bx4_new w' _ _ _ _ _).set3 _, own_setB (h2.alloc _) (bx4_new w' _ _ _ _ _) (by decide), GR.nil _ _⟩
theorem gs_box2 {w w' : World} {T : TM} {v : Value} (h : GT' w T v w') (hb : Below w.heap.size w w') : ∃ ua uc va n vc, v = .agg #[.string T.name, .int .i64 T.most, .slice ua T.uq.length uc, .slice va n vc] ∧ GS w (w'.alloc (.cells #[.string T.name, .int .i64 T.most, .slice ua T.uq.length uc, .slice none 0 0] 25)) w'.heap.size T.name T.most (.slice ua T.uq.length uc) (.slice none 0 0) T.uq [] := by
  obtain ⟨v1, v2, P, rfl, h2, h3, h4⟩ := h
  obtain ⟨ua, uc, rfl⟩ := own_slice h2
  obtain ⟨va, vc, rfl⟩ := own_slice h3.row
  exact ⟨ua, uc, va, _, vc, rfl, gs_fold hb h2⟩
def ftR (s : ByteArray) (L : List RC) : List RC := L.filter fun w => decide (w.id ≠ s)
theorem ft_yes {s : ByteArray} {L : List RC} {r : RC} (h : r.id ≠ s) : ftR s (L ++ [r]) = ftR s L ++ [r] := by unfold ftR; rw [List.filter_append, List.filter_cons, decide_eq_true h]; rfl
theorem ft_no {s : ByteArray} {L : List RC} {r : RC} (h : r.id = s) : ftR s (L ++ [r]) = ftR s L := by unfold ftR; rw [List.filter_append, List.filter_cons, decide_eq_false (by simpa using h)]; simp
theorem ft_len (s : ByteArray) (L : List RC) : (ftR s L).length ≤ L.length := List.length_filter_le _ _
set_option maxRecDepth 20000 in
set_option maxHeartbeats 8000000 in
theorem rWithout_any (B : Nat) (T : TM) (a1 a2 : Option Addr) (c1 c2 : Nat) (s : ByteArray) (w : World) (hv : TVs B w T a1 c1 a2 c2) (hs : SmT T) : Calls Tryz.prog 36 #[tv T a1 c1 a2 c2, .string s] w fun e w' => (∃ v, e = .returned v ∧ GT' w { T with rows := ftR s T.rows } v w') ∧ Below w.heap.size w w' := by
  obtain ⟨nm, m, uq, R⟩ := T
  show Calls Tryz.prog 36 #[.agg #[.string nm, .int .i64 m, .slice a1 uq.length c1, .slice a2 R.length c2], .string s] w fun e w' => (∃ v, e = .returned v ∧ GT' w ⟨nm, m, uq, ftR s R⟩ v w') ∧ Below w.heap.size w w'
  have hr : RV B w a2 R := hv.r
  have hRn : R.length ≤ 1000 := hs.rows
  obtain ⟨W, hW⟩ : ∃ W, W = (w.alloc (.cells #[.string nm, .int .i64 m, .slice a1 uq.length c1, .slice a2 R.length c2] 25)).alloc (.cells #[.string ⟨#[]⟩, .int .i64 0, .slice none 0 0, .slice none 0 0] 25) := ⟨_, rfl⟩
  have HW : Hid (Below w.heap.size w W) := Lib.hid (by rw [hW]; exact ((Below.refl _ _).alloc (Nat.le_refl _) _).alloc (by simp) _)
  have HQ1 : Hid (Bx4 W w.heap.size 25 (.string nm) (.int .i64 m) (.slice a1 uq.length c1) (.slice a2 R.length c2)) := Lib.hid (by rw [hW]; exact (bx4_new w _ _ _ _ _).up ((Below.refl _ _).alloc (Nat.le_refl _) _))
  have HQ2 : Hid (Bx4 W (w.heap.size + 1) 25 (.string ⟨#[]⟩) (.int .i64 0) (.slice none 0 0) (.slice none 0 0)) := Lib.hid (by
    rw [hW]
    have h := bx4_new (w.alloc (.cells #[.string nm, .int .i64 m, .slice a1 uq.length c1, .slice a2 R.length c2] 25)) 25 (.string ⟨#[]⟩) (.int .i64 0) (.slice none 0 0) (.slice none 0 0)
    simpa using h)
  have HSZ : Hid (w.heap.size + 2 = W.heap.size) := Lib.hid (by rw [hW]; simp)
  have HTN : Hid (Calls Tryz.prog 6 #[.agg #[.string nm, .int .i64 m, .slice a1 uq.length c1, .slice a2 R.length c2]] W fun e w' => (∃ v, e = .returned v ∧ GT' W ⟨nm, m, uq, R⟩ v w') ∧ Below W.heap.size W w') := Lib.hid (rTwinT_any B ⟨nm, m, uq, R⟩ a1 a2 c1 c2 W (hv.below HW.out) hs)
  have HRV := Lib.hid (fun V (k : Below w.heap.size w V) => hr.below k)
  have HTW := Lib.hid (fun i (hi : i < R.length) ad cp V (hd : DV B V ad cp (rl R i).d) => rtw_any B (rl R i) ad cp V hd (by have h : (rl R i).d.length ≤ 100000 := (hs.each (rl R i) (rl_mem hi)).2.1; omega))
  unfold rv at HTW
  have r1 : (R.length : Int) ≤ 1000 := by omega
  have hsz := HSZ.out
  have x0 := HQ1.out.c0
  have x1 := HQ1.out.c1
  have x2 := HQ1.out.c2
  have x3 := HQ1.out.c3
  clear hv hs hr
  go_enter Tryz.func36, Tryz.ntmps36
  go_wp2_with fail
  rw [← hW]
  clear hW
  refine HTN.out.mono ?_
  rintro e w1 ⟨⟨v, rfl, hg⟩, b1⟩
  obtain ⟨ua, uc, va, n, vc, rfl, hgs⟩ := gs_box2 hg b1
  have HG := Lib.hid hgs
  clear hg hgs b1 HTN x0 x1 x2 x3
  go_wp2_with fail
  obtain ⟨q, hq⟩ : ∃ q, q = w1.heap.size := ⟨_, rfl⟩
  generalize w1.alloc (.cells #[.string nm, .int .i64 m, .slice ua uq.length uc, .slice none 0 0] 25) = w2 at HG ⊢
  rw [← hq] at HG ⊢
  clear hq
  go_loopw [6] (fun v6 wr => ∃ i : Nat, i ≤ R.length ∧ v6 = .int .i64 i ∧ Hid (∃ v P, GS W wr q nm m (.slice ua uq.length uc) v uq P ∧ P.map Prod.fst = ftR s (R.take i))) (fun v6 _ => R.length - (intOf v6).toNat)
  case atStart => exact ⟨0, Nat.zero_le _, rfl, Lib.hid ⟨_, [], HG.out, rfl⟩⟩
  case round =>
    obtain ⟨i, hi, rfl, HI⟩ := hrel
    obtain ⟨v, P, hg, hp⟩ := HI.out
    obtain ⟨va, vc, hv'⟩ := own_slice hg.r.row
    subst hv'
    have G := Lib.hid hg
    have HP := Lib.hid hp
    have HPL : Hid (P.length ≤ 1000) := Lib.hid (by have h := congrArg List.length hp; have := ft_len s (R.take i); rw [List.length_map] at h; rw [List.length_take] at this; omega)
    clear hg hp HI
    have Q1r := Lib.hid (HQ1.out.up G.out.bl)
    have x3 := Q1r.out.c3
    by_cases hlt : i < R.length
    · have hlt' : (i : Int) < R.length := by omega
      have hge : (0 : Int) ≤ i := by omega
      have HRr := Lib.hid (HRV.out wr (HW.out.trans (G.out.bl.mono HW.out.size)))
      obtain ⟨rb, ro, rfl⟩ := HRr.out.addr (by omega)
      obtain ⟨ai, ci, _, _, d0, d1, dv⟩ := HRr.out.at_ hlt
      have HTC := Lib.hid (HTW.out i hlt ai ci wr.drew (dv.below (Below.refl _ _).drew))
      have HTK := Lib.hid (take_rl hlt)
      obtain ⟨r0, hr0⟩ : ∃ r, r = rl R i := ⟨_, rfl⟩
      rw [← hr0] at d0 d1 HTC HTK
      have GD := Lib.hid (G.out.up (Below.refl wr.heap.size wr).drew)
      have y3 := G.out.bx.c3
      clear hr0 dv HTW HRV HRr
      by_cases he : r0.id = s
      · have hse : (r0.id.toList == s.toList) = true := by rw [str_is]; simpa using he
        have HFT : Hid (ftR s (R.take (i + 1)) = ftR s (R.take i)) := Lib.hid (by rw [HTK.out, ft_no he])
        clear he
        generalize r0.id = id0 at d0 hse
        go_wp2_with fail
        go_roundw
        case rel => exact ⟨i + 1, by omega, by go_num, Lib.hid ⟨_, _, G.out, by rw [HP.out, HFT.out]⟩⟩
        case measure => simp [intOf]; omega
      · have hse : (r0.id.toList == s.toList) = false := by rw [str_is]; simpa using he
        have HFT : Hid (ftR s (R.take (i + 1)) = ftR s (R.take i) ++ [r0]) := Lib.hid (by rw [HTK.out, ft_yes he])
        clear he
        go_wp2_with fail
        go_region_law (first
          | (refine step_rec rfl (.tmp 26) (.tmp 33) rfl (r0, ae, ce) w5.heap.size G5.out D5.out (by simp [Act.eval, Act.put]) (by simp [Act.eval, Act.put]) (heap_alloc_new _ _) HPL.out ?_; intro v' w6 bx6 gs6; obtain ⟨ra, rc, hv'⟩ := own_slice gs6.r.row; subst hv'; rw [show (P ++ [(r0, ae, ce)]).length = P.length + 1 by simp] at gs6; have G6 := Lib.hid gs6; have z3 := bx6.c3; have f3 := bx6.fz 3; clear bx6 gs6)
          | (go_simp; go_at_call 23; refine HTC.out.mono ?_; rintro e w5 ⟨ae, ce, rfl, d5, b5⟩; have G5' := Lib.hid (GD.out.up b5); have y5 := G5'.out.bx.c3; have G5 := Lib.hid (G5'.out.up ((Below.refl w5.heap.size w5).alloc (Nat.le_refl _) (.cells #[.string r0.id, .slice ae r0.d.length ce] 28))); have y6 := G5.out.bx.c3; have D5 : Hid (DOw W.heap.size (w5.alloc (.cells #[.string r0.id, .slice ae r0.d.length ce] 28)) (r0, ae, ce)) := Lib.hid (own_up (ownsRow_mono d5 GD.out.bl.size) ((Below.refl _ _).alloc (Nat.le_refl _) _)); clear d5 b5))
        all_goals
          clear HTC GD
          go_wp2_with fail
          go_roundw
          case rel => exact ⟨i + 1, by omega, by go_num, Lib.hid ⟨_, _, G6.out, by rw [List.map_append, HP.out, HFT.out]; rfl⟩⟩
          case measure => simp [intOf]; omega
    · have him : i = R.length := by omega
      subst him
      have hz : ¬ ((R.length : Int) < (R.length : Int)) := by omega
      have HPT : Hid (P.map Prod.fst = ftR s R) := Lib.hid (by rw [HP.out, List.take_length])
      have Q2r := Lib.hid (HQ2.out.up G.out.bl)
      have y0 := G.out.bx.c0
      have y1 := G.out.bx.c1
      have y2 := G.out.bx.c2
      have y3 := G.out.bx.c3
      have z0 := Q2r.out.c0
      have z1 := Q2r.out.c1
      have z2 := Q2r.out.c2
      have z3 := Q2r.out.c3
      have f0 := Q2r.out.fz 0
      have f1 := Q2r.out.fz 1
      have f2 := Q2r.out.fz 2
      have f3 := Q2r.out.fz 3
      have HF := Lib.hid (GT'.of G.out HPT.out)
      clear HTW HRV
      go_wp2_with fail
      exact ret_tabp Tryz.results36 rfl (Q2r.out.set4 _ _ _ _) ⟨⟨_, rfl, (HF.out.set4 Q2r.out _ _ _ _).base HW.out.size⟩, w4_below (HW.out.trans (G.out.bl.mono HW.out.size)) (by omega) _ _ _ _⟩
end Go.Proofs.YtfigebepeniikaaGreat
/- Layer 27: the document's Less. -/
namespace Go.Proofs.YtfigebepeniikaaGreat.Ls
open Go.RowKit Go.Proofs.YtfigebepeniikaaGreat.Ord
theorem less_nil_right (l : List UInt8) : Op.bytesLess l [] = false := by cases l <;> rfl
theorem drop_at (a : ByteArray) (k : Nat) (h : k < a.size) : a.data.toList.drop k = a[k] :: a.data.toList.drop (k + 1) := by
  rw [List.drop_eq_getElem_cons (by simpa using h)]; rfl
theorem drop_end (a : ByteArray) (k : Nat) (h : a.size ≤ k) : a.data.toList.drop k = [] := List.drop_eq_nil_of_le (by simpa using h)
theorem ret_bool {a b : Bool} (h : a = b) : Ending.returned (.bool a) = .returned (.bool b) := by rw [h]
theorem compare_less : ∀ a b : List UInt8, Lib.compareBytes a b = if Op.bytesLess a b then -1 else if Op.bytesLess b a then 1 else 0 := by
  intro a
  induction a with
  | nil => intro b; cases b <;> simp [Lib.compareBytes, Op.bytesLess]
  | cons x a ih =>
    intro b
    cases b with
    | nil => simp [Lib.compareBytes, Op.bytesLess]
    | cons y b =>
      simp only [Lib.compareBytes, Op.bytesLess]
      by_cases h1 : x < y
      · simp [h1]
      · by_cases h2 : y < x
        · have h3 : ¬ x = y := fun h => by subst h; exact h1 h2
          simp [h1, h2, h3]
        · have h3 : x = y := by
            rw [UInt8.lt_iff_toNat_lt] at h1 h2
            exact UInt8.toNat_inj.1 (by omega)
          subst h3
          simp [h1, ih b]

theorem less_cmp (a b : ByteArray) : Op.bytesLess a.data.toList b.data.toList = decide (cmpB a b < 0) := by
  unfold cmpB
  rw [compare_less]
  cases h : Op.bytesLess a.data.toList b.data.toList
  · cases h2 : Op.bytesLess b.data.toList a.data.toList <;> simp
  · simp
theorem less_q (a b : ByteArray) (w : World) (ha : a.size ≤ maxLen) (hb : b.size ≤ maxLen) :
    Calls Tryz.prog 49 #[.string a, .string b] w fun e w' => e = .returned (.bool (decide (cmpB a b < 0))) ∧ ∃ m, w' = w.drewN m := by
  unfold maxLen at ha hb
  have HLC := Lib.hid (less_cmp a b)
  go_enter Tryz.func49, Tryz.ntmps49
  go_wp2_with fail
  go_loopw [4, 5] (fun _ i wr => ∃ k n : Nat, k ≤ a.size ∧ k ≤ b.size ∧ i = .int .i64 k ∧ Op.bytesLess (a.data.toList.drop k) (b.data.toList.drop k) = Op.bytesLess a.data.toList b.data.toList ∧ w.drewN n = wr) (fun _ i _ => a.size - (intOf i).toNat)
  case atStart => exact ⟨0, 0, by omega, by omega, rfl, rfl, rfl⟩
  case round =>
    obtain ⟨k, n, hka, hkb, rfl, hl, rfl⟩ := hrel
    by_cases h1 : k < a.size
    · by_cases h2 : k < b.size
      · rw [drop_at a k h1, drop_at b k h2] at hl
        by_cases heq : a[k].toNat = b[k].toNat
        · have hne : (((a[k].toNat : Nat) : Int) != ((b[k].toNat : Nat) : Int)) = false := by simp [heq]
          have hu : a[k] = b[k] := UInt8.toNat_inj.1 heq
          have hl2 : Op.bytesLess (a.data.toList.drop (k + 1)) (b.data.toList.drop (k + 1)) = Op.bytesLess a.data.toList b.data.toList := by
            rw [← hl]; simp [Op.bytesLess, hu]
          have HL := Lib.hid hl2
          clear hl hl2 heq hu
          go_wp2_with fail
          go_quiet (fail)
          go_wp2_with fail
          go_roundw
          case rel => exact ⟨k + 1, _, by omega, by omega, by go_num, HL.out, rfl⟩
          case measure => simp [intOf]; omega
        · have hne : (((a[k].toNat : Nat) : Int) != ((b[k].toNat : Nat) : Int)) = true := by simp; omega
          have hl2 : decide (a[k].toNat < b[k].toNat) = Op.bytesLess a.data.toList b.data.toList := by
            rw [← hl]
            have hu : ¬ a[k] = b[k] := fun h => heq (by rw [h])
            simp [Op.bytesLess, hu, UInt8.lt_iff_toNat_lt]
          have HL := Lib.hid hl2
          clear hl hl2 heq
          go_wp2_with fail
          go_quiet (fail)
          go_wp2_with fail
          go_quiet (fail)
          go_wp2_with fail
          go_ret
          exact ⟨ret_bool (by rw [← HLC.out]; exact HL.out), _, by rw [World.drewN_drewN, World.drewN_drewN]⟩
      · rw [drop_end b k (by omega), less_nil_right] at hl
        have HL := Lib.hid hl
        clear hl
        have h3 : ¬ a.size < b.size := by omega
        go_wp2_with fail
        go_ret
        exact ⟨ret_bool (by rw [← HLC.out, ← HL.out]), _, rfl⟩
    · have HL : Hid (Op.bytesLess a.data.toList b.data.toList = decide (a.size < b.size)) := Lib.hid (by
        rw [← hl, drop_end a k (by omega)]
        by_cases h2 : k < b.size
        · rw [drop_at b k h2]; simp [Op.bytesLess]; omega
        · rw [drop_end b k (by omega), less_nil_right]; symm; simp; omega)
      clear hl
      go_wp2_with fail
      go_ret
      exact ⟨ret_bool (by rw [← HLC.out, HL.out]), _, rfl⟩
end Go.Proofs.YtfigebepeniikaaGreat.Ls

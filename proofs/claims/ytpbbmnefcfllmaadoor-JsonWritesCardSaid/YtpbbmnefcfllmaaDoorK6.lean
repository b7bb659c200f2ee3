import Derived.Test.YtpbbmnefcfllmaaDoorK5
import Derived.Test.YtpbbmnefcfllmaaDoorK1
import Derived.Laws.IdiomStrings
import Derived.Lib.BufferRead
import Derived.Deep.RegionWith
import Derived.Deep.QuietTactic
import Derived.BigQuiet
/- Layer 3: a value's parts put together again (plain); rows of lists and of names that were built. -/
namespace Go.Proofs.YtpbbmnefcfllmaaDoor
open Go.RowKit Go.Maps
/-- The items of a list have no names. -/
theorem items_bare {g : Nat → CR} {n r a e : Nat} (hr : r ≤ 16) (h : wk g n r a = some e) (hk : (g a).k = 6) : ∀ i, i < (g a).m.toNat → em (g (bd g n (a + 1) i)).nm = true := by
  have hc := (wk_open hr h).2.2.2
  have hb := (bd_chain _ _ _ hc).1
  cases r with
  | zero =>
    rw [wk_z] at h
    have : headP (g a) = true := by simp [headP, hk]
    rw [this] at h
    simp at h
  | succ r =>
    rw [wk_s] at h
    split at h
    · cases h
    · split at h
      · rw [if_pos (by simp [headP, hk]), hk] at h
        intro i hi
        have K : ∀ (m : Nat) (names : List ByteArray) (b : Nat → Nat), kidsF (wk g n r) g n false m names (b 0) = some e → (∀ i, i < m → wk g n 16 (b i) = some (b (i + 1))) → ∀ i, i < m → em (g (b i)).nm = true := by
          intro m
          induction m with
          | zero => intro _ _ _ _ i hi; omega
          | succ m ih =>
            intro names b hk hb i hi
            rw [kidsF] at hk
            split at hk
            · cases hk
            · split at hk
              · rename_i hnm
                cases hx : wk g n r (b 0) with
                | none => rw [hx] at hk; cases hk
                | some a' =>
                  rw [hx] at hk
                  have e1 := wk_up (r' := 16) (by omega) hx
                  rw [hb 0 (by omega)] at e1
                  simp only [Option.some.injEq] at e1
                  cases i with
                  | zero => simpa [namedP] using hnm
                  | succ i =>
                    rw [← e1] at hk
                    exact ih _ (fun t => b (t + 1)) hk (fun t ht => hb (t + 1) (by omega)) i (by omega)
              · cases hk
        exact K _ _ (bd g n (a + 1)) h hb i hi
      · cases h
def paF (g : Nat → CR) (n q i : Nat) : Nat := bd g n (q + 1) i
def paLen (g : Nat → CR) (n q i : Nat) : Nat := paF g n q (i + 1) - paF g n q i
def paG (g : Nat → CR) (n q i : Nat) : Nat → CR := gl (ren ⟨#[]⟩ (cut g (paF g n q i) (paF g n q (i + 1))))
def paS (g : Nat → CR) (n q i : Nat) : ByteArray := (g (paF g n q i)).nm
theorem cut_gl (L : List CR) (n : Nat) (h : L.length = n) : cut (gl L) 0 n = L := by
  refine gl_ext (by rw [cut_len]; omega) fun t ht => ?_
  rw [cut_len] at ht
  rw [cut_at _ _ _ _ (by omega), Nat.zero_add]
theorem cw_part {g : Nat → CR} {n a b : Nat} (h : CW n g) (hb : b ≤ n) : CW (b - a) (gl (ren ⟨#[]⟩ (cut g a b))) := by
  refine cw_small (by rw [ren_len, cut_len]) fun c hc => ?_
  have key : ∀ c, c ∈ cut g a b → c.k < 256 ∧ c.nm.size ≤ maxLen ∧ c.tx.size ≤ 1000000 ∧ -9223372036854775808 ≤ c.m ∧ c.m ≤ 9223372036854775807 := fun c hc => by
    unfold cut at hc
    obtain ⟨t, ht, rfl⟩ := List.mem_map.1 hc
    have ht' := List.mem_range.1 ht
    exact h (a + t) (by omega)
  cases hcl : cut g a b with
  | nil => rw [hcl] at hc; simp [ren] at hc
  | cons x r =>
    rw [hcl] at hc key
    rcases List.mem_cons.1 hc with rfl | hc
    · have := key x (by simp)
      exact ⟨this.1, by show (0 : Nat) ≤ maxLen; omega, this.2.2⟩
    · exact key c (by simp [hc])
theorem parts_facts {g : Nat → CR} {n q : Nat} (hc : ckC g n = true) (hq : q < n) :
    (∀ i, i < (g q).m.toNat → paF g n q i < n ∧ nx g n (paF g n q i) = paF g n q (i + 1) ∧ paF g n q i < paF g n q (i + 1) ∧ paF g n q (i + 1) ≤ n) ∧ paF g n q 0 = q + 1 ∧ paF g n q (g q).m.toNat = nx g n q ∧ (g q).m.toNat ≤ 2048 ∧ q < nx g n q ∧ nx g n q ≤ n ∧ ckL (ren ⟨#[]⟩ (cut g q (nx g n q))) = true ∧
    (∀ s, (g q).k = 6 → gE 6 (g q).m.toNat s (paLen g n q) (paG g n q) = 0 ∧ preL 6 (g q).m.toNat s (paLen g n q) (paG g n q) (g q).m.toNat = ren ⟨#[]⟩ (cut g q (nx g n q))) ∧
    ((g q).k = 7 → gE 7 (g q).m.toNat (paS g n q) (paLen g n q) (paG g n q) = 0 ∧ preL 7 (g q).m.toNat (paS g n q) (paLen g n q) (paG g n q) (g q).m.toNat = ren ⟨#[]⟩ (cut g q (nx g n q))) ∧
    ((g q).k ≠ 6 → (g q).k ≠ 7 → (g q).m.toNat = 0 ∧ nx g n q = q + 1) := by
  have hn := (ckC_parts hc).2.1
  obtain ⟨hw, hle⟩ := ck_at hc hq
  obtain ⟨o1, o2, o3, o4⟩ := wk_open (Nat.le_refl _) hw
  obtain ⟨b1, b2⟩ := bd_chain _ _ _ o4
  have hlt := wk_lt _ _ _ hw
  have hcl := Chain.le _ _ _ o4
  obtain ⟨m, hm⟩ : ∃ m, m = (g q).m.toNat := ⟨_, rfl⟩
  rw [← hm] at b1 b2 hcl ⊢
  have hS := sub_ck hw hn
  have hck : ∀ i, i < m → ckC (paG g n q i) (paLen g n q i) = true := fun i hi => by
    have := sub_ck (b1 i hi) hn
    unfold ckL at this
    rw [ren_len, cut_len] at this
    exact this
  have hcut : ∀ i, cut (paG g n q i) 0 (paLen g n q i) = ren ⟨#[]⟩ (cut g (paF g n q i) (paF g n q (i + 1))) := fun i => cut_gl _ _ (by rw [ren_len, cut_len]; rfl)
  have hU := parts_under hw ((List.range m).map fun i => cut g (bd g n (q + 1) i) (bd g n (q + 1) (i + 1))) (by simp [hm]) (fun i h1 => by simp)
  have hgen : ∀ (k : Nat) (s : Nat → ByteArray), (k = 6 ∨ k = 7) → (g q).k = k → (∀ i, i < m → lsF k s (paLen g n q) (paG g n q) i = cut g (paF g n q i) (paF g n q (i + 1))) →
      gE k m s (paLen g n q) (paG g n q) = 0 ∧ preL k m s (paLen g n q) (paG g n q) m = ren ⟨#[]⟩ (cut g q (nx g n q)) := fun k s hk hk2 hls => by
    have hp : preL k m s (paLen g n q) (paG g n q) m = ren ⟨#[]⟩ (cut g q (nx g n q)) := by
      rw [← hU]
      unfold preL under ren
      obtain ⟨h1, h2, h3, h4⟩ := one_head o2 (by unfold headP; rw [hk2]; rcases hk with e | e <;> simp [e])
      have e1 : hdC k m = { g q with nm := ⟨#[]⟩ } := by
        unfold hdC
        have := em_eq h2
        have hm' : ((m : Nat) : Int) = (g q).m := by omega
        rw [hm', ← hk2, ← this, ← h1]
      rw [e1]
      congr 2
      exact List.map_congr_left fun i hi => hls i (List.mem_range.1 hi)
    refine ⟨?_, hp⟩
    unfold gE
    rw [if_neg (by omega), if_pos (List.all_eq_true.2 fun i hi => hck i (List.mem_range.1 hi)), hp, hS]
    rfl
  have hpos : ∀ i, i < m → (cut g (paF g n q i) (paF g n q (i + 1))).length ≠ 0 ∧ (gl (cut g (paF g n q i) (paF g n q (i + 1))) 0) = g (paF g n q i) := fun i hi => by
    have := wk_lt _ _ _ (b1 i hi)
    have h2 : paF g n q i < paF g n q (i + 1) := this.1
    refine ⟨by rw [cut_len]; omega, ?_⟩
    rw [cut_at _ _ _ _ (by omega), Nat.add_zero]
  refine ⟨fun i hi => ⟨?_, rfl, ?_, ?_⟩, rfl, b2, by omega, hlt.1, hle, hS, fun s h6 => ?_, fun h7 => ?_, fun h6 h7 => ?_⟩
  · have := wk_lt _ _ _ (b1 i hi)
    show bd g n (q + 1) i < n
    omega
  · exact (wk_lt _ _ _ (b1 i hi)).1
  · exact (wk_lt _ _ _ (b1 i hi)).2
  · refine hgen 6 s (.inl rfl) h6 fun i hi => ?_
    unfold lsF
    rw [if_neg (by decide), hcut]
    refine ren_self ?_
    rw [(hpos i hi).2]
    exact em_eq (items_bare (Nat.le_refl 16) hw h6 i (by rw [← hm]; exact hi))
  · refine hgen 7 (paS g n q) (.inr rfl) h7 fun i hi => ?_
    unfold lsF
    rw [if_pos rfl, hcut, ren_ren]
    refine ren_self ?_
    rw [(hpos i hi).2]
    rfl
  · have := one_leaf o2 (by unfold headP; simp [h6, h7])
    have hm0 : m = 0 := by rw [hm, this]; rfl
    rw [hm0] at b2
    exact ⟨hm0, b2.symm⟩
/-- Rows of different kinds lie apart. -/
theorem own_apart {w : World} {B1 B2 s1 s2 n1 n2 : Nat} {e1 e2 : TypeId} {v1 v2 : Value} {x1 x2 : List Value} (h1 : w.ownsRow B1 e1 s1 v1 n1 x1) (h2 : w.ownsRow B2 e2 s2 v2 n2 x2) (he : e1 ≠ e2) : v1.ownBlock = none ∨ v1.ownBlock ≠ v2.ownBlock := by
  rcases h1.2 with ⟨rfl, _⟩ | ⟨q, cap, cur, rfl, _, hg, _⟩
  · exact .inl rfl
  · rcases h2.2 with ⟨rfl, _⟩ | ⟨q', cap', cur', rfl, _, hg', _⟩
    · exact .inr (by simp [Value.ownBlock])
    · refine .inr fun e => ?_
      simp only [Value.ownBlock, Option.some.injEq] at e
      rw [← e, hg] at hg'
      simp only [Option.some.injEq, Obj.cells.injEq] at hg'
      exact he hg'.2.1
theorem own_base {w : World} {B B' s n : Nat} {e : TypeId} {v : Value} {x : List Value} (h : w.ownsRow B e s v n x) (hb : B' ≤ B) : w.ownsRow B' e s v n x := by
  refine ⟨h.1, ?_⟩
  rcases h.2 with h | ⟨g', cap', cur, h', hb', rest⟩
  · exact .inl h
  · exact .inr ⟨g', cap', cur, h', Nat.le_trans hb hb', rest⟩
theorem own_below {w w' : World} {B s n : Nat} {e : TypeId} {v : Value} {x : List Value} (h : w.ownsRow B e s v n x) (b : Below w.heap.size w w') : w'.ownsRow B e s v n x :=
  h.kept (row := none) ⟨b.os, b.tape, b.output, b.size, fun k hk _ => b.block k hk⟩ (Classical.em _)
/-- A row of lists that was built. -/
def slL (ad : Nat → Option Addr) (len cp : Nat → Nat) (m : Nat) : List Value := (List.range m).map fun j => .slice (ad j) (len j) (cp j)
theorem slL_succ (ad : Nat → Option Addr) (len cp : Nat → Nat) (m : Nat) : slL ad len cp (m + 1) = slL ad len cp m ++ [.slice (ad m) (len m) (cp m)] := by unfold slL; rw [List.range_succ, List.map_append]; rfl
theorem slL_len (ad : Nat → Option Addr) (len cp : Nat → Nat) (m : Nat) : (slL ad len cp m).length = m := by simp [slL]
theorem slL_upd (ad : Nat → Option Addr) (len cp : Nat → Nat) (m : Nat) (a : Option Addr) (c : Nat) : slL (fun j => if j = m then a else ad j) len (fun j => if j = m then c else cp j) (m + 1) = slL ad len cp m ++ [.slice a (len m) c] := by
  rw [slL_succ, if_pos rfl, if_pos rfl]
  congr 1
  unfold slL
  refine List.map_congr_left fun j hj => ?_
  have := List.mem_range.1 hj
  show Value.slice (if j = m then a else ad j) (len j) (if j = m then c else cp j) = _
  rw [if_neg (by omega), if_neg (by omega)]
def stL (s : Nat → ByteArray) (m : Nat) : List Value := (List.range m).map fun j => .string (s j)
theorem stL_succ (s : Nat → ByteArray) (m : Nat) : stL s (m + 1) = stL s m ++ [.string (s m)] := by unfold stL; rw [List.range_succ, List.map_append]; rfl
theorem own_lin {w : World} {B m : Nat} {v : Value} {ad : Nat → Option Addr} {len cp : Nat → Nat} (h : w.ownsRow B 22 1 v m (slL ad len cp m)) : ∃ la lc, v = .slice la m lc ∧ ∀ i, i < m → ∃ b off, la = some ⟨b, off, none⟩ ∧ b < w.heap.size ∧ w.cell? ⟨b, off + i, none⟩ = some (.slice (ad i) (len i) (cp i)) := by
  rcases h.2 with ⟨rfl, hn⟩ | ⟨q, cap, cur, rfl, hg, hgg, h1, h2, h3, h4⟩
  · subst hn
    exact ⟨none, 0, rfl, fun i hi => by omega⟩
  · refine ⟨some ⟨q, 0, none⟩, cap, rfl, fun k hk => ⟨q, 0, rfl, (Array.getElem?_eq_some_iff.1 hgg).1, ?_⟩⟩
    rw [Nat.zero_add, h.cellAt k (by omega)]
    unfold slL
    rw [List.getElem?_map, List.getElem?_range hk]
    rfl
theorem own_nv {w : World} {B m : Nat} {v : Value} {s : Nat → ByteArray} (h : w.ownsRow B 9 1 v m (stL s m)) : ∃ na nc, v = .slice na m nc ∧ NV w na m s := by
  rcases h.2 with ⟨rfl, hn⟩ | ⟨q, cap, cur, rfl, hg, hgg, h1, h2, h3, h4⟩
  · subst hn
    exact ⟨none, 0, rfl, fun i hi => by omega⟩
  · refine ⟨some ⟨q, 0, none⟩, cap, rfl, fun k hk => ⟨q, 0, rfl, (Array.getElem?_eq_some_iff.1 hgg).1, ?_⟩⟩
    rw [Nat.zero_add, h.cellAt k (by omega)]
    unfold stL
    rw [List.getElem?_map, List.getElem?_range hk]
    rfl
theorem infoSl : ∃ i, Tryd.prog.info? 22 = some i ∧ i.zero = some (.slice none 0 0) ∧ i.size = 1 ∧ i.bytes = 24 := by
  have h := Tryd.typeInfo22 default
  unfold typeInfo at h
  cases hq : Tryd.prog.info? 22 with
  | none => simp [hq] at h
  | some i =>
    simp [hq] at h
    exact ⟨i, rfl, by rw [h]; rfl, by rw [h]; rfl, by rw [h]; rfl⟩
theorem infoStr : ∃ i, Tryd.prog.info? 9 = some i ∧ i.zero = some (.string ⟨#[]⟩) ∧ i.size = 1 ∧ i.bytes = 16 := by
  have h := Tryd.typeInfo9 default
  unfold typeInfo at h
  cases hq : Tryd.prog.info? 9 with
  | none => simp [hq] at h
  | some i =>
    simp [hq] at h
    exact ⟨i, rfl, by rw [h]; rfl, by rw [h]; rfl, by rw [h]; rfl⟩
end Go.Proofs.YtpbbmnefcfllmaaDoor
/- Plain facts of texts: the document's search for a code point (as in layer 1). -/
namespace Go.Proofs.YtpbbmnefcfllmaaDoor
open Go.RowKit
/-- Next, as numbers. -/
def nxE (s : ByteArray) (i : Int) : Int := if 0 ≤ i ∧ i < s.size then (if decIs s i.toNat then 0 else 10) else 2
def nxP (s : ByteArray) (i : Int) : Int := if 0 ≤ i ∧ i < s.size then decP s i.toNat else 0
def nxN (s : ByteArray) (i : Int) : Int := if 0 ≤ i ∧ i < s.size then decN s i.toNat else 0
theorem lead_cases (b : Int) (h0 : leadN b ≠ 0) : leadN b = 1 ∧ leadB b = b ∧ b < 128 ∨ leadN b = 2 ∧ leadB b = b % 32 ∧ 192 ≤ b ∧ b < 224 ∨ leadN b = 3 ∧ leadB b = b % 16 ∧ 224 ≤ b ∧ b < 240 ∨ leadN b = 4 ∧ leadB b = b % 8 ∧ 240 ≤ b ∧ b < 248 := by
  unfold leadN leadB at *
  by_cases h1 : b < 128
  · simp [h1]
  by_cases h2 : b < 192
  · simp [h1, h2] at h0
  by_cases h3 : b < 224
  · simp [h1, h2, h3]; omega
  by_cases h4 : b < 240
  · simp [h1, h2, h3, h4]; omega
  by_cases h5 : b < 248
  · simp [h1, h2, h3, h4, h5]; omega
  · simp [h1, h2, h3, h4, h5] at h0
theorem szOf_lo {p : Int} : (szOf p = 2 → 128 ≤ p) ∧ (szOf p = 3 → 2048 ≤ p) ∧ (szOf p = 4 → 65536 ≤ p) := by
  unfold szOf
  refine ⟨fun h => ?_, fun h => ?_, fun h => ?_⟩
  all_goals (split at h <;> first | omega | (split at h <;> first | omega | (split at h <;> omega)))
/-- The bytes of a code point. -/
def enc (p : Int) : List Int :=
  if p < 128 then [p] else if p < 2048 then [192 + p / 64, 128 + p % 64] else if p < 65536 then [224 + p / 4096, 128 + p / 64 % 64, 128 + p % 64]
  else [240 + p / 262144, 128 + p / 4096 % 64, 128 + p / 64 % 64, 128 + p % 64]
/-- Numbers as bytes. -/
def mkB (L : List Int) : ByteArray := ⟨(L.map (fun x => UInt8.ofNat x.toNat)).toArray⟩
theorem isPt_range {p : Int} (h : isPt p = true) : 0 ≤ p ∧ p < 1114112 := by
  simp only [isPt, decide_eq_true_eq] at h; omega
theorem enc_range {p : Int} (h0 : 0 ≤ p) (h1 : p < 1114112) : ∀ x ∈ enc p, 0 ≤ x ∧ x < 256 := by
  intro x hx
  unfold enc at hx
  split at hx
  · simp at hx; omega
  split at hx
  · simp at hx; omega
  split at hx
  · simp at hx; omega
  · simp at hx; omega
theorem enc_len (p : Int) : 1 ≤ (enc p).length ∧ (enc p).length ≤ 4 := by
  unfold enc; (repeat' split) <;> simp
theorem mkB_size (L : List Int) : (mkB L).size = L.length := by simp [mkB, ByteArray.size]
theorem mkB_byt (L : List Int) (i : Nat) (h : i < L.length) (hr : 0 ≤ L.getD i 0 ∧ L.getD i 0 < 256) : byt (mkB L) i = L.getD i 0 := by
  unfold byt
  rw [dif_pos (by rw [mkB_size]; exact h)]
  have e : (mkB L)[i]'(by rw [mkB_size]; exact h) = UInt8.ofNat (L.getD i 0).toNat := by
    show (mkB L).data[i]'_ = _
    simp [mkB, List.getD, h]
  rw [e, UInt8.toNat_ofNat']; omega

/-- The bytes of a code point are read as it. -/
theorem dec_enc {s : ByteArray} {a : Nat} {p : Int} (hp : isPt p = true) (hs : a + (enc p).length ≤ s.size) (hb : ∀ j, j < (enc p).length → byt s (a + j) = (enc p).getD j 0) :
    decIs s a = true ∧ decP s a = p ∧ leadN (byt s a) = (enc p).length := by
  have hr := isPt_range hp
  have key : leadN (byt s a) = (enc p).length ∧ conts s (a + 1) ((enc p).length - 1) = true ∧ acc s (a + 1) (leadB (byt s a)) ((enc p).length - 1) = p ∧ szOf p = (enc p).length := by
    by_cases c1 : p < 128
    · have e : enc p = [p] := by unfold enc; rw [if_pos c1]
      rw [e] at hb hs ⊢
      have b0 : byt s a = p := by simpa using hb 0 (by simp)
      rw [b0]
      exact ⟨by unfold leadN; rw [if_pos c1]; rfl, rfl, by unfold leadB; rw [if_pos c1]; rfl, by unfold szOf; rw [if_pos c1]; rfl⟩
    by_cases c2 : p < 2048
    · have e : enc p = [192 + p / 64, 128 + p % 64] := by unfold enc; rw [if_neg c1, if_pos c2]
      rw [e] at hb hs ⊢
      simp only [List.length_cons, List.length_nil] at hs hb ⊢
      have b0 : byt s a = 192 + p / 64 := by simpa using hb 0 (by simp)
      have b1 : byt s (a + 1) = 128 + p % 64 := by simpa using hb 1 (by simp)
      refine ⟨?_, ?_, ?_, ?_⟩
      · unfold leadN; rw [b0]; (repeat' split) <;> omega
      · simp only [conts, Nat.add_zero, b1, Bool.true_and, decide_eq_true_eq]; omega
      · simp only [acc, Nat.add_zero, b1, b0, leadB]; (repeat' split) <;> omega
      · unfold szOf; (repeat' split) <;> omega
    by_cases c3 : p < 65536
    · have e : enc p = [224 + p / 4096, 128 + p / 64 % 64, 128 + p % 64] := by unfold enc; rw [if_neg c1, if_neg c2, if_pos c3]
      rw [e] at hb hs ⊢
      simp only [List.length_cons, List.length_nil] at hs hb ⊢
      have b0 : byt s a = 224 + p / 4096 := by simpa using hb 0 (by simp)
      have b1 : byt s (a + 1) = 128 + p / 64 % 64 := by simpa using hb 1 (by simp)
      have b2 : byt s (a + 1 + 1) = 128 + p % 64 := by simpa using hb 2 (by simp)
      refine ⟨?_, ?_, ?_, ?_⟩
      · unfold leadN; rw [b0]; (repeat' split) <;> omega
      · simp only [conts, Nat.add_zero, b1, b2, Bool.true_and, Bool.and_eq_true, decide_eq_true_eq]; omega
      · simp only [acc, Nat.add_zero, b1, b2, b0, leadB]; (repeat' split) <;> omega
      · unfold szOf; (repeat' split) <;> omega
    · have e : enc p = [240 + p / 262144, 128 + p / 4096 % 64, 128 + p / 64 % 64, 128 + p % 64] := by unfold enc; rw [if_neg c1, if_neg c2, if_neg c3]
      rw [e] at hb hs ⊢
      simp only [List.length_cons, List.length_nil] at hs hb ⊢
      have b0 : byt s a = 240 + p / 262144 := by simpa using hb 0 (by simp)
      have b1 : byt s (a + 1) = 128 + p / 4096 % 64 := by simpa using hb 1 (by simp)
      have b2 : byt s (a + 1 + 1) = 128 + p / 64 % 64 := by simpa using hb 2 (by simp)
      have b3 : byt s (a + 1 + 2) = 128 + p % 64 := by simpa using hb 3 (by simp)
      refine ⟨?_, ?_, ?_, ?_⟩
      · unfold leadN; rw [b0]; (repeat' split) <;> omega
      · simp only [conts, Nat.add_zero, b1, b2, b3, Bool.true_and, Bool.and_eq_true, decide_eq_true_eq]; omega
      · simp only [acc, Nat.add_zero, b1, b2, b3, b0, leadB]; (repeat' split) <;> omega
      · unfold szOf; (repeat' split) <;> omega
  obtain ⟨k1, k2, k3, k4⟩ := key
  have hl := enc_len p
  have hd : decIs s a = true := by
    simp only [decIs, k1, k2, k3, hp, k4, Bool.and_eq_true, decide_eq_true_eq, and_true]
    omega
  exact ⟨hd, by unfold decP; rw [if_pos hd, k1, k3], k1⟩
def m0 (b : Int) (z : Nat) : Int := if z = 2 then b % 32 else if z = 3 then b % 16 else if z = 4 then b % 8 else b
def numN (s : ByteArray) (a z : Nat) : Int := acc s (a + 1) (m0 (byt s a) z) (z - 1)
def tpB (s : ByteArray) (a z : Nat) : Bool := isPt (numN s a z) && decide (mkB (enc (numN s a z)) = s.extract a (a + z))

theorem byt_ext {s t : ByteArray} (hs : s.size = t.size) (h : ∀ i, i < s.size → byt s i = byt t i) : s = t := by
  apply ByteArray.ext
  apply Array.ext
  · exact hs
  · intro i h1 h2
    have h1' : i < s.size := h1
    have h2' : i < t.size := h2
    have := h i h1'
    unfold byt at this
    rw [dif_pos h1', dif_pos h2'] at this
    have e : s[i].toNat = t[i].toNat := by omega
    exact UInt8.toNat_inj.1 e
theorem byt_extract {s : ByteArray} {a z : Nat} (h : a + z ≤ s.size) (j : Nat) (hj : j < z) : byt (s.extract a (a + z)) j = byt s (a + j) := by
  have hs : (s.extract a (a + z)).size = z := by simp; omega
  unfold byt
  rw [dif_pos (by omega), dif_pos (by omega)]
  simp [ByteArray.getElem_extract]
/-- The bytes where a code point begins are that code point's. -/
theorem enc_dec {s : ByteArray} {a : Nat} (h : decIs s a = true) : (enc (decP s a)).length = leadN (byt s a) ∧ ∀ j, j < leadN (byt s a) → byt s (a + j) = (enc (decP s a)).getD j 0 := by
  have hd := h
  have hP : decP s a = acc s (a + 1) (leadB (byt s a)) (leadN (byt s a) - 1) := by unfold decP; rw [if_pos h]
  simp only [decIs, Bool.and_eq_true, decide_eq_true_eq] at hd
  obtain ⟨⟨⟨h0, hc⟩, hp⟩, hz⟩ := hd
  rw [← hP] at hp hz
  have hr := isPt_range hp
  have hb := byt_range s a
  rcases lead_cases (byt s a) h0 with ⟨e1, e2, e3⟩ | ⟨e1, e2, e3, e4⟩ | ⟨e1, e2, e3, e4⟩ | ⟨e1, e2, e3, e4⟩
  · rw [e1] at hz hP ⊢
    simp only [acc, e2, Nat.sub_self] at hP
    have : enc (decP s a) = [decP s a] := by unfold enc; rw [if_pos (by omega)]
    rw [this]
    refine ⟨rfl, fun j hj => ?_⟩
    obtain rfl : j = 0 := by omega
    simp [hP]
  · rw [e1] at hz hP hc ⊢
    simp only [acc, e2, Nat.add_zero, show 2 - 1 = 1 from rfl] at hP
    simp only [conts, Nat.add_zero, show 2 - 1 = 1 from rfl, Bool.true_and, decide_eq_true_eq] at hc
    have lo := (szOf_lo (p := decP s a)).1 hz
    have hi : decP s a < 2048 := by unfold szOf at hz; (repeat' split at hz) <;> omega
    have : enc (decP s a) = [192 + decP s a / 64, 128 + decP s a % 64] := by unfold enc; rw [if_neg (by omega), if_pos hi]
    rw [this]
    refine ⟨rfl, fun j hj => ?_⟩
    match j, hj with
    | 0, _ => simp; omega
    | 1, _ => simp; omega
  · rw [e1] at hz hP hc ⊢
    simp only [acc, e2, Nat.add_zero, show 3 - 1 = 2 from rfl] at hP
    simp only [conts, Nat.add_zero, show 3 - 1 = 2 from rfl, Bool.true_and, Bool.and_eq_true, decide_eq_true_eq] at hc
    have lo := (szOf_lo (p := decP s a)).2.1 hz
    have hi : decP s a < 65536 := by unfold szOf at hz; (repeat' split at hz) <;> omega
    have : enc (decP s a) = [224 + decP s a / 4096, 128 + decP s a / 64 % 64, 128 + decP s a % 64] := by unfold enc; rw [if_neg (by omega), if_neg (by omega), if_pos hi]
    rw [this]
    refine ⟨rfl, fun j hj => ?_⟩
    match j, hj with
    | 0, _ => simp; omega
    | 1, _ => simp; omega
    | 2, _ => simp only [show a + 2 = a + 1 + 1 from rfl]; simp; omega
  · rw [e1] at hz hP hc ⊢
    simp only [acc, e2, Nat.add_zero, show 4 - 1 = 3 from rfl] at hP
    simp only [conts, Nat.add_zero, show 4 - 1 = 3 from rfl, Bool.true_and, Bool.and_eq_true, decide_eq_true_eq] at hc
    have lo := (szOf_lo (p := decP s a)).2.2 hz
    have : enc (decP s a) = [240 + decP s a / 262144, 128 + decP s a / 4096 % 64, 128 + decP s a / 64 % 64, 128 + decP s a % 64] := by unfold enc; rw [if_neg (by omega), if_neg (by omega), if_neg (by omega)]
    rw [this]
    refine ⟨rfl, fun j hj => ?_⟩
    match j, hj with
    | 0, _ => simp; omega
    | 1, _ => simp; omega
    | 2, _ => simp only [show a + 2 = a + 1 + 1 from rfl]; simp; omega
    | 3, _ => simp only [show a + 3 = a + 1 + 2 from rfl]; simp; omega
theorem m0_lead {s : ByteArray} {a : Nat} (h : decIs s a = true) : numN s a (leadN (byt s a)) = decP s a := by
  have hP : decP s a = acc s (a + 1) (leadB (byt s a)) (leadN (byt s a) - 1) := by unfold decP; rw [if_pos h]
  rw [hP]
  unfold numN
  congr 1
  rcases lead_cases (byt s a) (decIs_lead h).1 with ⟨e1, e2, e3⟩ | ⟨e1, e2, e3, e4⟩ | ⟨e1, e2, e3, e4⟩ | ⟨e1, e2, e3, e4⟩ <;> rw [e1, e2] <;> simp [m0]
/-- So many bytes are a code point's just where one begins that has so many. -/
theorem one_iff {s : ByteArray} {a z : Nat} (hz1 : 1 ≤ z) (hs : a + z ≤ s.size) : tpB s a z = (decIs s a && decide (leadN (byt s a) = z)) := by
  rw [Bool.eq_iff_iff]
  simp only [tpB, Bool.and_eq_true, decide_eq_true_eq]
  constructor
  · rintro ⟨hp, he⟩
    have hl : (enc (numN s a z)).length = z := by
      have := congrArg ByteArray.size he
      rw [mkB_size] at this
      rw [this]; simp; omega
    have hr := isPt_range hp
    have := dec_enc (s := s) (a := a) hp (by omega) (fun j hj => by
      have h1 := byt_extract hs j (by omega)
      rw [← he, mkB_byt _ _ hj (by
        have hm : (enc (numN s a z)).getD j 0 ∈ enc (numN s a z) := by
          simp only [List.getD, List.getElem?_eq_getElem hj, Option.getD_some]; exact List.getElem_mem hj
        exact enc_range hr.1 hr.2 _ hm)] at h1
      exact h1.symm)
    exact ⟨this.1, by rw [this.2.2, hl]⟩
  · rintro ⟨hd, hz⟩
    subst hz
    rw [m0_lead hd]
    have hp : isPt (decP s a) = true := by
      have hP : decP s a = acc s (a + 1) (leadB (byt s a)) (leadN (byt s a) - 1) := by unfold decP; rw [if_pos hd]
      have hd' := hd
      simp only [decIs, Bool.and_eq_true, decide_eq_true_eq] at hd'
      rw [hP]; exact hd'.1.2
    have hr := isPt_range hp
    have he := enc_dec hd
    refine ⟨hp, byt_ext ?_ (fun i hi => ?_)⟩
    · rw [mkB_size, he.1]; simp; omega
    · rw [mkB_size] at hi
      have hm : (enc (decP s a)).getD i 0 ∈ enc (decP s a) := by
        simp only [List.getD, List.getElem?_eq_getElem hi, Option.getD_some]; exact List.getElem_mem hi
      rw [mkB_byt _ _ hi (enc_range hr.1 hr.2 _ hm), byt_extract hs i (by rw [← he.1]; exact hi), he.2 i (by rw [← he.1]; exact hi)]
def tpP (s : ByteArray) (i : Int) (z : Nat) : Int := if 0 ≤ i ∧ i + z ≤ s.size then numN s i.toNat z else 0
def tpI (s : ByteArray) (i : Int) (z : Nat) : Bool := if 0 ≤ i ∧ i + z ≤ s.size then tpB s i.toNat z else false
theorem oneI_at {s : ByteArray} {a z : Nat} (ha : a < s.size) (hz : 1 ≤ z) : tpI s (a : Int) z = (decIs s a && decide (leadN (byt s a) = z)) := by
  unfold tpI
  by_cases h : a + z ≤ s.size
  · rw [if_pos (by omega), Int.toNat_natCast, one_iff hz h]
  · rw [if_neg (by omega)]
    cases hd : decIs s a
    · rfl
    · have := dec_in ha hd
      have : leadN (byt s a) ≠ z := by omega
      simp [this]
theorem oneP_at {s : ByteArray} {a z : Nat} (ha : a < s.size) (hz : 1 ≤ z) (h : tpI s (a : Int) z = true) : tpP s (a : Int) z = decP s a ∧ decIs s a = true ∧ leadN (byt s a) = z := by
  have h2 := h
  rw [oneI_at ha hz, Bool.and_eq_true, decide_eq_true_eq] at h2
  obtain ⟨hd, rfl⟩ := h2
  have := dec_in ha hd
  refine ⟨?_, hd, rfl⟩
  unfold tpP
  rw [if_pos (by omega), Int.toNat_natCast, m0_lead hd]
/-- What the search answers where one begins, and where none does. -/
theorem nx_found {s : ByteArray} {a z : Nat} (ha : a < s.size) (hz : 1 ≤ z) (h : tpI s (a : Int) z = true) : nxP s a = tpP s a z ∧ nxN s a = z ∧ nxE s a = 0 := by
  have := oneP_at ha hz h
  have hN := decN_eq s a
  rw [this.2.1] at hN
  simp at hN
  unfold nxP nxN nxE
  rw [if_pos (by omega), if_pos (by omega), if_pos (by omega), Int.toNat_natCast, this.2.1, this.1, hN.1, this.2.2]
  exact ⟨rfl, rfl, rfl⟩
theorem nx_lost {s : ByteArray} {a : Nat} (ha : a < s.size) (h : ∀ z, 1 ≤ z → z ≤ 4 → tpI s (a : Int) z = false) : nxP s a = 0 ∧ nxN s a = 0 ∧ nxE s a = 10 := by
  have hd : decIs s a = false := by
    cases hd : decIs s a
    · rfl
    · have h0 := (decIs_lead hd).1
      have h4 := leadN_le (byt s a)
      have := h (leadN (byt s a)) (by omega) h4
      rw [oneI_at ha (by omega), hd] at this
      simp at this
  have hn := dec_no hd
  unfold nxP nxN nxE
  rw [if_pos (by omega), if_pos (by omega), if_pos (by omega), Int.toNat_natCast, hd, hn.1, hn.2]
  exact ⟨rfl, rfl, rfl⟩
end Go.Proofs.YtpbbmnefcfllmaaDoor
/- The document's code points of a text: number, Is, Bytes, One (as in layer 1). -/
namespace Go.Proofs.YtpbbmnefcfllmaaDoor
open Go.RowKit
set_option maxRecDepth 20000 in
theorem below_drewN0 {B : Nat} {w w1 : World} (h : Below B w w1) (n : Nat) : Below B w (w1.drewN n) := ⟨h.os, h.tape, h.output, h.size, h.block⟩
set_option maxRecDepth 20000 in
theorem is_any (p : Int) (w : World) :
    Calls Tryd.prog 64 #[.int .i64 p] w fun e w' => e = .returned (.bool (isPt p)) ∧ w = w' := by
  go_enter Tryd.func64, Tryd.ntmps64
  go_wp2
  all_goals
    go_ret
    refine ⟨ret_bool ?_, rfl⟩
    unfold isPt
    rw [Bool.eq_iff_iff]
    simp only [Bool.or_eq_true, decide_eq_true_eq, true_iff, Bool.false_eq_true, false_iff]
    try omega

set_option maxRecDepth 20000 in
theorem bytes_any (p : Int) (w : World) (h0 : 0 ≤ p) (h1 : p < 1114112) :
    Calls Tryd.prog 65 #[.int .i64 p] w fun e w' => e = .returned (.slice (some ⟨w.heap.size, 0, none⟩) (enc p).length (enc p).length) ∧ (∃ cs : Array Value, cs.toList = (enc p).map (Value.int .u8) ∧ w' = w.alloc (.cells cs 5)) := by
  by_cases c1 : p < 128
  · have he : Hid (enc p = [p]) := Lib.hid (by unfold enc; rw [if_pos c1])
    go_enter Tryd.func65, Tryd.ntmps65
    go_wp2_with fail
    go_ret
    rw [he.out]
    refine ⟨rfl, _, ?_, rfl⟩
    simp
  by_cases c2 : p < 2048
  · have he : Hid (enc p = [192 + p / 64, 128 + p % 64]) := Lib.hid (by unfold enc; rw [if_neg c1, if_pos c2])
    go_enter Tryd.func65, Tryd.ntmps65
    go_wp2_with fail
    go_ret
    rw [he.out]
    refine ⟨rfl, _, ?_, rfl⟩
    rfl
  by_cases c3 : p < 65536
  · have he : Hid (enc p = [224 + p / 4096, 128 + p / 64 % 64, 128 + p % 64]) := Lib.hid (by unfold enc; rw [if_neg c1, if_neg c2, if_pos c3])
    go_enter Tryd.func65, Tryd.ntmps65
    go_wp2_with fail
    go_ret
    rw [he.out]
    exact ⟨rfl, _, rfl, rfl⟩
  · have he : Hid (enc p = [240 + p / 262144, 128 + p / 4096 % 64, 128 + p / 64 % 64, 128 + p % 64]) := Lib.hid (by unfold enc; rw [if_neg c1, if_neg c2, if_neg c3])
    go_enter Tryd.func65, Tryd.ntmps65
    go_wp2_with fail
    go_ret
    rw [he.out]
    exact ⟨rfl, _, rfl, rfl⟩

set_option maxRecDepth 20000 in
theorem conv_own {w : World} {B : Nat} {v : Value} {L : List Int} (h : w.ownsRow B 5 1 v L.length (L.map (Value.int .u8))) (hr : ∀ x ∈ L, 0 ≤ x ∧ x < 256) :
    (convert 34 9 v).run Tryd.prog w = .ok (.string (mkB L)) w := by
  rcases h.2 with ⟨rfl, hn⟩ | ⟨g, cap, cur, rfl, hg, hgg, h1, h2, h3, h4⟩
  · have : L = [] := by cases L <;> simp_all
    subst this
    exact Lib.run_convert_nil_bytes w 34 9 5 0 Tryd.underlying34 Tryd.underlying5 Tryd.underlying9
  · have k := run_convert_bytes_back (P := Tryd.prog) w 34 9 5 ⟨g, 0, none⟩ cap (L.map (fun x => UInt8.ofNat x.toNat)) Tryd.underlying34 Tryd.underlying5 Tryd.underlying9 (fun j hj => by
      have hj' : j < L.length := by simpa using hj
      have hx := hr L[j] (List.getElem_mem hj')
      rw [Addr.add_lit, Nat.zero_add, h.cellAt j (by omega)]
      simp only [List.getElem?_map, List.getElem?_eq_getElem hj', Option.map_some, List.getElem_map, Option.some.injEq, Value.int.injEq, true_and]
      rw [UInt8.toNat_ofNat']; omega)
    rw [List.length_map] at k
    exact k
set_option maxRecDepth 20000 in
theorem m0_range (s : ByteArray) (a z : Nat) : 0 ≤ m0 (byt s a) z ∧ m0 (byt s a) z < 256 := by
  have := byt_range s a
  unfold m0; (repeat' split) <;> omega
set_option maxRecDepth 20000 in
theorem acc_lt (s : ByteArray) (a : Nat) (p : Int) (h0 : 0 ≤ p) (h1 : p < 256) : ∀ k, k ≤ 3 → 0 ≤ acc s a p k ∧ acc s a p k < 67108864 := by
  intro k hk
  match k, hk with
  | 0, _ => simp [acc]; omega
  | 1, _ => simp only [acc]; omega
  | 2, _ => simp only [acc]; omega
  | 3, _ => simp only [acc]; omega

set_option maxRecDepth 20000 in
theorem number_any (s : ByteArray) (a z : Nat) (av zv : Int) (w : World) (hav : av = a) (hzv : zv = z) (hz1 : 1 ≤ z) (hz4 : z ≤ 4) (hs : s.size ≤ maxLen) (ha : a + z ≤ s.size) :
    Calls Tryd.prog 63 #[.string s, .int .i64 av, .int .i64 zv] w fun e w' => e = .returned (.int .i64 (numN s a z)) ∧ w = w' := by
  subst hav
  unfold maxLen at hs
  have hlt : a < s.size := by omega
  have hbk := byt_eq s a hlt
  have hbr := byt_range s a
  have HM0 := Lib.hid (m0_range s a z)
  obtain ⟨b, hb⟩ : ∃ b, b = byt s a := ⟨_, rfl⟩
  rw [← hb] at hbk hbr
  have HB := Lib.hid hb
  have HN : Hid (numN s a z = acc s (a + 1) (m0 b z) (z - 1)) := Lib.hid (by rw [hb]; rfl)
  have hMB : m0 b z = if z = 2 then b % 32 else if z = 3 then b % 16 else if z = 4 then b % 8 else b := rfl
  obtain ⟨m, hm⟩ : ∃ m, m = m0 b z := ⟨_, rfl⟩
  rw [← hm] at HN hMB
  have HMR : Hid (0 ≤ m ∧ m < 256) := Lib.hid (by rw [hm, hb]; exact HM0.out)
  clear hm hb HM0
  rcases (show z = 1 ∨ z = 2 ∨ z = 3 ∨ z = 4 by omega) with rfl | rfl | rfl | rfl
  · simp at hMB
    obtain rfl : zv = 1 := by omega
    have HMB := Lib.hid hMB
    clear hMB hzv
    go_enter Tryd.func63, Tryd.ntmps63
    go_wp2_with fail
    rw [← HMB.out]
    go_loopw [7, 8] (fun n i wr => ∃ j : Nat, j + 1 ≤ 1 ∧ i = .int .i64 ((j : Int) + 1) ∧ n = .int .i64 (acc s (a + 1) m j) ∧ w = wr) (fun _ i _ => 1 - (intOf i).toNat)
    case atStart => exact ⟨0, by omega, rfl, rfl, rfl⟩
    case round =>
      obtain ⟨j, hj, rfl, rfl, rfl⟩ := hrel
      by_cases hlt : j + 1 < 1
      · omega
      · obtain rfl : j = 0 := by omega
        go_wp2_with fail
        go_ret
        exact ⟨ret_int HN.out.symm, rfl⟩
  · simp at hMB
    obtain rfl : zv = 2 := by omega
    have HMB := Lib.hid hMB
    clear hMB hzv
    go_enter Tryd.func63, Tryd.ntmps63
    go_wp2_with fail
    rw [← HMB.out]
    go_loopw [7, 8] (fun n i wr => ∃ j : Nat, j + 1 ≤ 2 ∧ i = .int .i64 ((j : Int) + 1) ∧ n = .int .i64 (acc s (a + 1) m j) ∧ w = wr) (fun _ i _ => 2 - (intOf i).toNat)
    case atStart => exact ⟨0, by omega, rfl, rfl, rfl⟩
    case round =>
      obtain ⟨j, hj, rfl, rfl, rfl⟩ := hrel
      by_cases hlt : j + 1 < 2
      · have hin : a + 1 + j < s.size := by omega
        have hbj := byt_eq s (a + 1 + j) hin
        have hrj := byt_range s (a + 1 + j)
        have hac := acc_lt s (a + 1) m HMR.out.1 HMR.out.2 j (by omega)
        have hstep : acc s (a + 1) m (j + 1) = acc s (a + 1) m j * 64 + byt s (a + 1 + j) % 64 := rfl
        obtain ⟨x, hx⟩ : ∃ x, x = byt s (a + 1 + j) := ⟨_, rfl⟩
        obtain ⟨y, hy⟩ : ∃ y, y = acc s (a + 1) m j := ⟨_, rfl⟩
        rw [← hx] at hbj hrj hstep
        rw [← hy] at hac hstep
        rw [← hy]
        have HST := Lib.hid hstep
        have hlt' : (j : Int) + 1 < 2 := by omega
        have hnat : a + (j + 1) = a + 1 + j := by omega
        clear hx hy hstep
        go_wp2_with fail
        go_roundw
        case rel => exact ⟨j + 1, by omega, by go_num, by rw [HST.out]; go_num, trivial⟩
        case measure => simp [intOf]; omega
      · obtain rfl : j = 1 := by omega
        go_wp2_with fail
        go_ret
        exact ⟨ret_int HN.out.symm, rfl⟩
  · simp at hMB
    obtain rfl : zv = 3 := by omega
    have HMB := Lib.hid hMB
    clear hMB hzv
    go_enter Tryd.func63, Tryd.ntmps63
    go_wp2_with fail
    rw [← HMB.out]
    go_loopw [7, 8] (fun n i wr => ∃ j : Nat, j + 1 ≤ 3 ∧ i = .int .i64 ((j : Int) + 1) ∧ n = .int .i64 (acc s (a + 1) m j) ∧ w = wr) (fun _ i _ => 3 - (intOf i).toNat)
    case atStart => exact ⟨0, by omega, rfl, rfl, rfl⟩
    case round =>
      obtain ⟨j, hj, rfl, rfl, rfl⟩ := hrel
      by_cases hlt : j + 1 < 3
      · have hin : a + 1 + j < s.size := by omega
        have hbj := byt_eq s (a + 1 + j) hin
        have hrj := byt_range s (a + 1 + j)
        have hac := acc_lt s (a + 1) m HMR.out.1 HMR.out.2 j (by omega)
        have hstep : acc s (a + 1) m (j + 1) = acc s (a + 1) m j * 64 + byt s (a + 1 + j) % 64 := rfl
        obtain ⟨x, hx⟩ : ∃ x, x = byt s (a + 1 + j) := ⟨_, rfl⟩
        obtain ⟨y, hy⟩ : ∃ y, y = acc s (a + 1) m j := ⟨_, rfl⟩
        rw [← hx] at hbj hrj hstep
        rw [← hy] at hac hstep
        rw [← hy]
        have HST := Lib.hid hstep
        have hlt' : (j : Int) + 1 < 3 := by omega
        have hnat : a + (j + 1) = a + 1 + j := by omega
        clear hx hy hstep
        go_wp2_with fail
        go_roundw
        case rel => exact ⟨j + 1, by omega, by go_num, by rw [HST.out]; go_num, trivial⟩
        case measure => simp [intOf]; omega
      · obtain rfl : j = 2 := by omega
        go_wp2_with fail
        go_ret
        exact ⟨ret_int HN.out.symm, rfl⟩
  · simp at hMB
    obtain rfl : zv = 4 := by omega
    have HMB := Lib.hid hMB
    clear hMB hzv
    go_enter Tryd.func63, Tryd.ntmps63
    go_wp2_with fail
    rw [← HMB.out]
    go_loopw [7, 8] (fun n i wr => ∃ j : Nat, j + 1 ≤ 4 ∧ i = .int .i64 ((j : Int) + 1) ∧ n = .int .i64 (acc s (a + 1) m j) ∧ w = wr) (fun _ i _ => 4 - (intOf i).toNat)
    case atStart => exact ⟨0, by omega, rfl, rfl, rfl⟩
    case round =>
      obtain ⟨j, hj, rfl, rfl, rfl⟩ := hrel
      by_cases hlt : j + 1 < 4
      · have hin : a + 1 + j < s.size := by omega
        have hbj := byt_eq s (a + 1 + j) hin
        have hrj := byt_range s (a + 1 + j)
        have hac := acc_lt s (a + 1) m HMR.out.1 HMR.out.2 j (by omega)
        have hstep : acc s (a + 1) m (j + 1) = acc s (a + 1) m j * 64 + byt s (a + 1 + j) % 64 := rfl
        obtain ⟨x, hx⟩ : ∃ x, x = byt s (a + 1 + j) := ⟨_, rfl⟩
        obtain ⟨y, hy⟩ : ∃ y, y = acc s (a + 1) m j := ⟨_, rfl⟩
        rw [← hx] at hbj hrj hstep
        rw [← hy] at hac hstep
        rw [← hy]
        have HST := Lib.hid hstep
        have hlt' : (j : Int) + 1 < 4 := by omega
        have hnat : a + (j + 1) = a + 1 + j := by omega
        clear hx hy hstep
        go_wp2_with fail
        go_roundw
        case rel => exact ⟨j + 1, by omega, by go_num, by rw [HST.out]; go_num, trivial⟩
        case measure => simp [intOf]; omega
      · obtain rfl : j = 3 := by omega
        go_wp2_with fail
        go_ret
        exact ⟨ret_int HN.out.symm, rfl⟩
set_option maxRecDepth 20000 in
theorem str_eq (x y : ByteArray) : (x.toList == y.toList) = decide (x = y) := by
  rw [ByteArray.toList_eq, ByteArray.toList_eq, Bool.eq_iff_iff]
  simp only [beq_iff_eq, decide_eq_true_eq]
  exact ⟨fun h => ByteArray.ext (Array.toList_inj.1 h), fun h => by rw [h]⟩
set_option maxRecDepth 20000 in
theorem bytes_conv (p : Int) (w : World) (h0 : 0 ≤ p) (h1 : p < 1114112) :
    Calls Tryd.prog 65 #[.int .i64 p] w fun e w' => ∃ v, e = .returned v ∧ (convert 34 9 v).run Tryd.prog w' = .ok (.string (mkB (enc p))) w' ∧ (convert 34 9 v).run Tryd.prog w'.drew = .ok (.string (mkB (enc p))) w'.drew ∧ Hid (Below w.heap.size w w') := by
  refine (bytes_any p w h0 h1).mono ?_
  rintro e w' ⟨rfl, cs, hcs, rfl⟩
  have hl : cs.size = (enc p).length := by rw [← Array.length_toList, hcs, List.length_map]
  have ho := World.ownsRow_lit (base := w.heap.size) (e := 5) (size := 1) w cs (enc p).length (Nat.le_refl _) (by have := enc_len p; unfold maxLen; omega) (by rw [hl, Nat.mul_one])
  rw [hcs] at ho
  have hr := enc_range h0 h1
  exact ⟨_, rfl, conv_own ho hr, conv_own (World.ownsRow.drew ho) hr, (Below.refl _ w).alloc (Nat.le_refl _) _⟩

set_option maxRecDepth 20000 in
theorem one_end {n n' : Int} {x y : ByteArray} {g : Bool} {w w1 w' : World} (hn : n' = n) (hg : g = decide (x = y)) (hb : Hid (Below w.heap.size w w1)) (hd : w' = w1 ∨ w' = w1.drew) :
    Ending.returned (.tuple #[.int .i64 n, .bool (x.toList == y.toList)]) = .returned (.tuple #[.int .i64 n', .bool g]) ∧ Below w.heap.size w w' := by
  refine ⟨by rw [hn, hg, str_eq], ?_⟩
  rcases hd with rfl | rfl
  · exact hb.out
  · exact hb.out.drew

set_option maxRecDepth 20000 in
theorem one_out (s : ByteArray) (i : Int) (z : Nat) (w : World) (hz1 : 1 ≤ z) (hz4 : z ≤ 4) (hs : s.size ≤ maxLen) (i1 : i ≤ 9223372036854775800) (hin : ¬ (0 ≤ i ∧ i + z ≤ s.size)) :
    Calls Tryd.prog 62 #[.string s, .int .i64 i, .int .i64 (z : Int)] w fun e w' => e = .returned (.tuple #[.int .i64 0, .bool false]) ∧ Below w.heap.size w w' := by
  have hm := hs
  unfold maxLen at hm
  by_cases h0 : i < 0
  · clear hin
    go_enter Tryd.func62, Tryd.ntmps62
    go_wp2_with fail
    go_ret2
    exact ⟨rfl, Below.refl _ _⟩
  · have h1 : (s.size : Int) < i + (z : Int) := by omega
    have hw0 : IntKind.i64.wrap (i + (z : Int)) = i + (z : Int) := by rw [IntKind.wrap_i64]; omega
    clear hin
    go_enter Tryd.func62, Tryd.ntmps62
    go_wp2_with fail
    go_ret2
    exact ⟨rfl, Below.refl _ _⟩
set_option maxRecDepth 20000 in
theorem is_false (p : Int) (w : World) (h : isPt p = false) : Calls Tryd.prog 64 #[.int .i64 p] w fun e w' => e = .returned (.bool false) ∧ w' = w :=
  (is_any p w).mono fun _ _ hh => ⟨by rw [hh.1, h], hh.2.symm⟩
set_option maxRecDepth 20000 in
theorem one_no (s : ByteArray) (a z : Nat) (w : World) (hz1 : 1 ≤ z) (hz4 : z ≤ 4) (hs : s.size ≤ maxLen) (haz : a + z ≤ s.size) (hp : isPt (numN s a z) = false) :
    Calls Tryd.prog 62 #[.string s, .int .i64 (a : Int), .int .i64 (z : Int)] w fun e w' => e = .returned (.tuple #[.int .i64 (numN s a z), .bool (tpB s a z)]) ∧ Below w.heap.size w w' := by
  have hm := hs
  unfold maxLen at hm
  have hh1 : ¬ (s.size : Int) < (a : Int) + (z : Int) := by omega
  obtain ⟨n, hn⟩ : ∃ n, n = numN s a z := ⟨_, rfl⟩
  have HN : Hid (numN s a z = n) := hn.symm
  rw [← hn] at hp
  have HO : Hid (tpB s a z = false) := Lib.hid (by unfold tpB; rw [← hn, hp, Bool.false_and])
  have HPT := Lib.hid hp
  clear hn hp
  go_enter Tryd.func62, Tryd.ntmps62
  go_wp2_with fail
  refine (number_any s a z _ _ _ rfl rfl hz1 hz4 hs haz).mono ?_
  rintro e w1 ⟨rfl, rfl⟩
  rw [HN.out]
  clear hh1 haz hm
  go_wp2_with fail
  go_quiet (first | (go_at_call 64; exact Calls.quiet_of_same (is_false _ _ HPT.out)))
  go_wp2_with fail
  go_ret2
  exact ⟨by rw [HN.out, HO.out]; rfl, below_drewN0 (Below.refl _ _) _⟩
set_option maxHeartbeats 8000000 in
set_option maxRecDepth 20000 in
theorem one_yes (s : ByteArray) (a z : Nat) (w : World) (hz1 : 1 ≤ z) (hz4 : z ≤ 4) (hs : s.size ≤ maxLen) (haz : a + z ≤ s.size) (hp : isPt (numN s a z) = true) :
    Calls Tryd.prog 62 #[.string s, .int .i64 (a : Int), .int .i64 (z : Int)] w fun e w' => e = .returned (.tuple #[.int .i64 (numN s a z), .bool (tpB s a z)]) ∧ Below w.heap.size w w' := by
  have hm := hs
  unfold maxLen at hm
  have hh1 : ¬ (s.size : Int) < (a : Int) + (z : Int) := by omega
  obtain ⟨n, hn⟩ : ∃ n, n = numN s a z := ⟨_, rfl⟩
  have HN : Hid (numN s a z = n) := hn.symm
  rw [← hn] at hp
  have hr := isPt_range hp
  have HO : Hid (tpB s a z = ((mkB (enc n)).toList == (s.extract a (a + z)).toList)) := Lib.hid (by rw [str_eq]; unfold tpB; rw [← hn, hp, Bool.true_and])
  have HPT := Lib.hid hp
  clear hn hp
  go_enter Tryd.func62, Tryd.ntmps62
  go_wp2_with fail
  refine (number_any s a z _ _ _ rfl rfl hz1 hz4 hs haz).mono ?_
  rintro e w1 ⟨rfl, rfl⟩
  rw [HN.out]
  have hw0 : IntKind.i64.wrap ((a : Int) + (z : Int)) = ((a + z : Nat) : Int) := by rw [IntKind.wrap_i64]; omega
  have haz2 : a ≤ a + z := by omega
  go_wp2_with fail
  go_region_with (first | (go_at_call 64; refine (is_any _ _).mono ?_; rintro e w2 ⟨rfl, rfl⟩; rw [HPT.out]) | (go_at_call 65; refine (bytes_conv _ _ hr.1 hr.2).mono ?_; rintro e w2 ⟨v, rfl, hc1, hc2, hb⟩))
  all_goals (go_wp2_with fail)
  all_goals go_ret2
  all_goals refine ⟨by rw [HN.out, HO.out]; rfl, ?_⟩
  all_goals first | exact hb.out | exact hb.out.drew | exact (Below.refl _ w).drew.trans hb.out | exact ((Below.refl _ w).drew.trans hb.out).drew
set_option maxRecDepth 20000 in
theorem one_any (s : ByteArray) (i : Int) (z : Nat) (zv : Int) (w : World) (hzv : zv = z) (hz1 : 1 ≤ z) (hz4 : z ≤ 4) (hs : s.size ≤ maxLen) (_i0 : -9223372036854775808 ≤ i) (i1 : i ≤ 9223372036854775800) :
    Calls Tryd.prog 62 #[.string s, .int .i64 i, .int .i64 zv] w fun e w' => e = .returned (.tuple #[.int .i64 (tpP s i z), .bool (tpI s i z)]) ∧ Below w.heap.size w w' := by
  subst hzv
  by_cases hin : 0 ≤ i ∧ i + z ≤ s.size
  · have hP : tpP s i z = numN s i.toNat z := by unfold tpP; rw [if_pos hin]
    have hI : tpI s i z = tpB s i.toNat z := by unfold tpI; rw [if_pos hin]
    rw [hP, hI]
    obtain ⟨a, rfl⟩ := Int.eq_ofNat_of_zero_le hin.1
    rw [Int.toNat_natCast]
    cases hp : isPt (numN s a z)
    · exact one_no s a z w hz1 hz4 hs (by omega) hp
    · exact one_yes s a z w hz1 hz4 hs (by omega) hp
  · have hP : tpP s i z = 0 := by unfold tpP; rw [if_neg hin]
    have hI : tpI s i z = false := by unfold tpI; rw [if_neg hin]
    rw [hP, hI]
    exact one_out s i z w hz1 hz4 hs i1 hin
end Go.Proofs.YtpbbmnefcfllmaaDoor
/- The document's code points of a text: Next, Points (as in layer 1). -/
namespace Go.Proofs.YtpbbmnefcfllmaaDoor
open Go.RowKit
set_option maxRecDepth 20000 in
theorem ret3 {a b c d e f : Int} (h : a = b) (g : c = d) (k : e = f) : Ending.returned (.tuple #[.int .i64 a, .int .i64 c, .int .i64 e]) = .returned (.tuple #[.int .i64 b, .int .i64 d, .int .i64 f]) := by rw [h, g, k]
set_option maxRecDepth 20000 in
theorem rnext_any (s : ByteArray) (i : Int) (w : World) (hs : s.size ≤ 2000000) :
    Calls Tryd.prog 58 #[.string s, .int .i64 i] w fun e w' => e = .returned (.tuple #[.int .i64 (nxP s i), .int .i64 (nxN s i), .int .i64 (nxE s i)]) ∧ Below w.heap.size w w' := by
  have hm : s.size ≤ maxLen := by unfold maxLen; omega
  have HM := Lib.hid hm
  clear hm
  by_cases hin : 0 ≤ i ∧ i < s.size
  · obtain ⟨a, rfl⟩ := Int.eq_ofNat_of_zero_le hin.1
    have ha : a < s.size := by omega
    have HF := Lib.hid (fun z (h1 : 1 ≤ z) (h : tpI s (a : Int) z = true) => nx_found ha h1 h)
    have HX := Lib.hid (fun h => nx_lost ha h)
    have hge : ¬ (s.size : Int) ≤ (a : Int) := by omega
    clear hin
    go_enter Tryd.func58, Tryd.ntmps58
    go_wp2_with fail
    go_loopw [7] (fun zv wr => ∃ z : Nat, 1 ≤ z ∧ z ≤ 5 ∧ zv = .int .i64 z ∧ (∀ y, 1 ≤ y → y < z → tpI s (a : Int) y = false) ∧ Below w.heap.size w wr) (fun zv _ => 5 - (intOf zv).toNat)
    case atStart => exact ⟨1, by omega, by omega, rfl, fun y h1 h2 => by omega, Below.refl _ _⟩
    case round =>
      obtain ⟨z, hz1, hz5, rfl, hno, hb⟩ := hrel
      have HB := Lib.hid hb
      have HNO := Lib.hid hno
      clear hb hno
      by_cases hlt : z ≤ 4
      · have hlt' : (z : Int) ≤ 4 := by omega
        cases ho : tpI s (a : Int) z
        · have HO := Lib.hid ho
          have HN2 : Hid (∀ y, 1 ≤ y → y < z + 1 → tpI s (a : Int) y = false) := Lib.hid (fun y h1 h2 => by
            by_cases e : y = z
            · rw [e]; exact HO.out
            · exact HNO.out y h1 (by omega))
          clear ho
          go_wp2_with fail
          refine (one_any s a z _ _ rfl hz1 hlt HM.out (by omega) (by omega)).mono ?_
          rintro e w1 ⟨rfl, b1⟩
          rw [HO.out]
          have HB1 := Lib.hid (HB.out.trans (b1.mono HB.out.size))
          clear b1
          go_wp2_with fail
          go_roundw
          case rel => exact ⟨z + 1, by omega, by omega, by go_num, HN2.out, HB1.out⟩
          case measure => simp [intOf]; omega
        · have HO := Lib.hid ho
          have HR := Lib.hid (HF.out z hz1 ho)
          clear ho
          go_wp2_with fail
          refine (one_any s a z _ _ rfl hz1 hlt HM.out (by omega) (by omega)).mono ?_
          rintro e w1 ⟨rfl, b1⟩
          rw [HO.out]
          have HB1 := Lib.hid (HB.out.trans (b1.mono HB.out.size))
          clear b1
          go_wp2_with fail
          go_ret3
          exact ⟨ret3 HR.out.1.symm HR.out.2.1.symm HR.out.2.2.symm, HB1.out⟩
      · have HR := Lib.hid (HX.out (fun y h1 h2 => HNO.out y h1 (by omega)))
        have hlt' : ¬ (z : Int) ≤ 4 := by omega
        go_wp2_with fail
        go_ret3
        exact ⟨ret3 HR.out.1.symm HR.out.2.1.symm HR.out.2.2.symm, HB.out⟩
  · have HR : Hid (nxP s i = 0 ∧ nxN s i = 0 ∧ nxE s i = 2) := Lib.hid (by unfold nxP nxN nxE; rw [if_neg hin, if_neg hin, if_neg hin]; exact ⟨rfl, rfl, rfl⟩)
    by_cases h0 : i < 0
    · clear hin
      go_enter Tryd.func58, Tryd.ntmps58
      go_wp2_with fail
      go_ret3
      exact ⟨ret3 HR.out.1.symm HR.out.2.1.symm HR.out.2.2.symm, Below.refl _ _⟩
    · have h1 : (s.size : Int) ≤ i := by omega
      clear hin
      go_enter Tryd.func58, Tryd.ntmps58
      go_wp2_with fail
      go_ret3
      exact ⟨ret3 HR.out.1.symm HR.out.2.1.symm HR.out.2.2.symm, Below.refl _ _⟩
set_option maxRecDepth 20000 in
theorem nx_at {s : ByteArray} {a : Nat} (h : a < s.size) : nxP s a = decP s a ∧ nxN s a = decN s a ∧ nxE s a = if decIs s a then 0 else 10 := by
  unfold nxP nxN nxE
  rw [if_pos (by omega), if_pos (by omega), if_pos (by omega), Int.toNat_natCast]
  exact ⟨rfl, rfl, rfl⟩
set_option maxRecDepth 20000 in
theorem pts_end {v v' : Value} {g g' : Bool} (h : v = v') (k : g = g') : Ending.returned (.tuple #[v, .bool g]) = .returned (.tuple #[v', .bool g']) := by rw [h, k]
set_option maxRecDepth 20000 in
theorem rpoints_any (s : ByteArray) (w : World) (hs : s.size ≤ 2000000) :
    Calls Tryd.prog 48 #[.string s] w fun e w' => ∃ v, e = .returned (.tuple #[v, .bool (isTx s)]) ∧ Below w.heap.size w w' := by
  obtain ⟨i0, hi, hz0, hz1, hz2⟩ := infoI
  go_enter Tryd.func48, Tryd.ntmps48
  go_wp2_with fail
  go_loopg [4, 5] s.size (fun f v i wr => ∃ (a n : Nat), s.size - a ≤ f ∧ a ≤ s.size ∧ n ≤ a ∧ i = .int .i64 a ∧ txF s f a = isTx s ∧ (∃ xs, wr.ownsRow w.heap.size 3 1 v n xs) ∧ Below w.heap.size w wr)
  case atStart => exact ⟨0, 0, by omega, by omega, by omega, rfl, rfl, ⟨_, World.ownsRow_nil _ _ _ _⟩, Below.refl _ _⟩
  case round =>
    obtain ⟨a, n, hf, ha, hna, rfl, htx, ⟨xs, hown⟩, hb⟩ := hrel
    by_cases hlt : a < s.size
    · have hlt' : (a : Int) < (s.size : Int) := by omega
      rw [txF_step hlt hf] at htx
      have hnx := nx_at hlt
      have hsz := hb.size
      have HO := Lib.hid hown
      have HB := Lib.hid hb
      cases hd : decIs s a
      · rw [hd] at htx hnx
        simp at htx hnx
        have HT := Lib.hid htx
        have HE := Lib.hid hnx.2.2
        clear hown hb htx hnx hd
        go_wp2_with fail
        refine (rnext_any s a _ hs).mono ?_
        rintro e w1 ⟨rfl, b1⟩
        rw [HE.out]
        have HB1 := Lib.hid (HB.out.trans (b1.mono HB.out.size))
        clear b1
        go_wp2_with fail
        go_ret2
        exact ⟨_, pts_end rfl HT.out.symm, HB1.out⟩
      · have h0 := (decIs_lead hd).1
        have hin := dec_in hlt hd
        rw [hd] at htx hnx
        have hdn := decN_eq s a
        rw [hd] at hdn
        simp at hdn
        simp only [Bool.true_and] at htx
        have h4 := leadN_le (byt s a)
        have hn2 : nxN s a = leadN (byt s a) := by rw [hnx.2.1, hdn.1]
        have HE : Hid (nxE s a = 0) := Lib.hid (by rw [hnx.2.2]; rfl)
        obtain ⟨z, hz⟩ : ∃ z, z = leadN (byt s a) := ⟨_, rfl⟩
        rw [← hz] at h0 hin htx hn2 h4
        obtain ⟨p, hp⟩ : ∃ p, p = nxP s a := ⟨_, rfl⟩
        have HP := Lib.hid hp
        have HN := Lib.hid hn2
        have HT := Lib.hid htx
        have hxs : Hid (n + 1 ≤ 2000000) := Lib.hid (by omega)
        clear hown hb htx hnx hd hdn hn2 hz hp
        go_wp2_with fail
        refine (rnext_any s a _ hs).mono ?_
        rintro e w1 ⟨rfl, b1⟩
        rw [HE.out, HN.out, ← HP.out]
        have HB1 := Lib.hid (HB.out.trans (b1.mono HB.out.size))
        have HO1 := Lib.hid (own_below HO.out b1)
        have hsz1 : Hid (w.heap.size ≤ w1.heap.size + 1) := Lib.hid (by have := HB1.out.size; omega)
        clear b1
        go_wp2_with (at_builtin; refine wpList_append_own _ rfl _ _ 43 rfl w.heap.size 3 i0 (.int .i64 0) 1 8 Tryd.underlying43 hi hz0 hz1 hz2 rfl (by decide) _ n xs rfl (HO1.out.alloc _) ⟨w1.heap.size, 0, none⟩ 1 1 [.int .i64 p] rfl rfl (news_at _ _ _ _ rfl) (by intro u hu; simp at hu; subst hu; rfl) (by have := hxs.out; unfold maxLen; omega) (by have := hxs.out; omega) (by have := hsz1.out; simpa using this) ?_; intro v' w2 ho hg _)
        go_roundg (gk - 1)
        case rel =>
          refine ⟨a + z, n + 1, by omega, hin, by omega, by go_num, HT.out, ⟨_, ho⟩, (HB1.out.alloc HB1.out.size _).grown hg ?_ ?_⟩
          · have := hsz1.out; simpa using this
          · intro q hq; exact (HO1.out.lt q hq).1
        case measure => omega
    · obtain rfl : a = s.size := by omega
      rw [txF_end (Nat.le_refl _)] at htx
      have HT := Lib.hid htx
      have HB := Lib.hid hb
      clear htx hb hown
      go_wp2_with fail
      go_ret2
      exact ⟨_, pts_end rfl HT.out, HB.out⟩
set_option maxRecDepth 20000 in
theorem rtxt_any (s : ByteArray) (w : World) (hs : s.size ≤ 2000000) :
    Calls Tryd.prog 40 #[.string s] w fun e w' => e = .returned (.bool (ckB s)) ∧ Below w.heap.size w w' := by
  have HP := Lib.hid (fun W => rpoints_any s W hs)
  have hm : (s.size : Int) ≤ 2000000 := by omega
  obtain ⟨z, hz⟩ : ∃ z, z = ckB s := ⟨_, rfl⟩
  have hc : ckB s = (isTx s && decide (s.size ≤ 16384)) := by
    unfold ckB ckE
    by_cases h1 : 16384 < s.size
    · rw [if_pos h1, decide_eq_false (by omega : ¬ s.size ≤ 16384), Bool.and_false]; rfl
    · rw [if_neg h1, decide_eq_true (by omega : s.size ≤ 16384), Bool.and_true]
      cases isTx s <;> rfl
  rw [← hz]
  rw [hc] at hz
  have HZ := Lib.hid hz
  obtain ⟨t, ht⟩ : ∃ t, t = isTx s := ⟨_, rfl⟩
  rw [← ht] at HP HZ
  clear hz hc ht
  cases t with
  | false =>
    go_enter Tryd.func40, Tryd.ntmps40
    go_wp2_with fail
    with_reducible refine (HP.out w).mono ?_
    rintro e w1 ⟨v, rfl, b1⟩
    have B1 := Lib.hid b1
    clear b1
    go_wp2_with fail
    go_ret
    exact ⟨ret_bool (by rw [HZ.out]; rfl), B1.out⟩
  | true =>
    by_cases h1 : s.size ≤ 16384
    · have h1' : (s.size : Int) ≤ 16384 := by omega
      go_enter Tryd.func40, Tryd.ntmps40
      go_wp2_with fail
      with_reducible refine (HP.out w).mono ?_
      rintro e w1 ⟨v, rfl, b1⟩
      have B1 := Lib.hid b1
      clear b1
      go_wp2_with fail
      go_ret
      exact ⟨ret_bool (by rw [HZ.out]; simp [h1]), B1.out⟩
    · have h1' : ¬ (s.size : Int) ≤ 16384 := by omega
      go_enter Tryd.func40, Tryd.ntmps40
      go_wp2_with fail
      with_reducible refine (HP.out w).mono ?_
      rintro e w1 ⟨v, rfl, b1⟩
      have B1 := Lib.hid b1
      clear b1
      go_wp2_with fail
      go_ret
      exact ⟨ret_bool (by rw [HZ.out]; simp; omega), B1.out⟩
end Go.Proofs.YtpbbmnefcfllmaaDoor

import Derived.Test.YtfigebepeniikaaGreatK3
import Derived.Deep.LoopGhost
import Derived.OwnWalk
import Derived.ArgAppend
import Derived.Laws.StructEq
import Derived.WalkKit
import Derived.Lib.Bytealg
/- Layer 3: skip, place, End. -/
namespace Go.Proofs.YtfigebepeniikaaGreat
open Go.RowKit Go.Maps
theorem CV.at_ {w : World} {b off n : Nat} {g : Nat → CR} (h : CV w (some ⟨b, off, none⟩) n g) {i : Nat} (hi : i < n) : b < w.heap.size ∧ w.cell? ⟨b, off + i * 5, none⟩ = some (.int .u8 (g i).k) ∧ w.cell? ⟨b, off + i * 5 + 1, none⟩ = some (.string (g i).nm) ∧ w.cell? ⟨b, off + i * 5 + 2, none⟩ = some (.string (g i).tx) ∧ w.cell? ⟨b, off + i * 5 + 3, none⟩ = some (.int .i64 (g i).n) ∧ w.cell? ⟨b, off + i * 5 + 4, none⟩ = some (.int .i64 (g i).m) := by
  obtain ⟨b', off', e, k⟩ := h i hi
  cases e
  exact k
theorem CV.addr {w : World} {a : Option Addr} {n : Nat} {g : Nat → CR} (h : CV w a n g) (h0 : 0 < n) : ∃ b off, a = some ⟨b, off, none⟩ := by
  obtain ⟨b, off, e, _⟩ := h 0 h0
  exact ⟨b, off, e⟩
theorem ck_at {g : Nat → CR} {n p : Nat} (h : ckC g n = true) (hp : p < n) : wk g n 16 p = some (nx g n p) ∧ nx g n p ≤ n := by
  obtain ⟨_, _, _, h4⟩ := ckC_parts h
  obtain ⟨e', k1, k2⟩ := wk_at _ _ _ h4 p (Nat.zero_le _) hp
  rw [nx_some k1]
  exact ⟨k1, k2⟩
/-- The error of a place. -/
def plE (g : Nat → CR) (n : Nat) (p : Int) : Int := if ckC g n = true then (if 0 ≤ p ∧ p < n then 0 else 2) else 8
theorem pl_ok {g : Nat → CR} {n p : Nat} (hc : ckC g n = true) (hp : p < n) : plE g n (p : Nat) = 0 := by unfold plE; rw [if_pos hc, if_pos (by omega)]
end Go.Proofs.YtfigebepeniikaaGreat
/- Layer 3: kids, Kids, Member. -/
namespace Go.Proofs.YtfigebepeniikaaGreat
open Go.RowKit Go.Maps
theorem infoI : ∃ i, Tryz.prog.info? 3 = some i ∧ i.zero = some (.int .i64 0) ∧ i.size = 1 ∧ i.bytes = 8 := by
  have h := Tryz.typeInfo3 default
  unfold typeInfo at h
  cases hq : Tryz.prog.info? 3 with
  | none => simp [hq] at h
  | some i =>
    simp [hq] at h
    exact ⟨i, rfl, by rw [h]; rfl, by rw [h]; rfl, by rw [h]; rfl⟩
theorem news_at (w : World) (cs : Array Value) (t : TypeId) (L : List Value) (h : cs.toList = L) : ∀ j u, L[j]? = some u → (w.alloc (.cells cs t)).cell? ((⟨w.heap.size, 0, none⟩ : Addr).add j) = some u := by
  subst h
  intro j u hj
  simp only [Addr.add_lit, Nat.zero_add, World.cell?, heap_alloc_new]
  simpa using hj
def bdL (g : Nat → CR) (n a m : Nat) : List Value := (List.range m).map fun i => .int .i64 (bd g n a i : Nat)
theorem bdL_succ (g : Nat → CR) (n a m : Nat) : bdL g n a (m + 1) = bdL g n a m ++ [.int .i64 (bd g n a m : Nat)] := by unfold bdL; rw [List.range_succ, List.map_append]; rfl
theorem bdL_len (g : Nat → CR) (n a m : Nat) : (bdL g n a m).length = m := by simp [bdL]
/-- A row of places. -/
def IV (w : World) (a : Option Addr) (m : Nat) (f : Nat → Nat) : Prop := ∀ i, i < m → ∃ b off, a = some ⟨b, off, none⟩ ∧ b < w.heap.size ∧ w.cell? ⟨b, off + i, none⟩ = some (.int .i64 (f i : Nat))
theorem IV.below {w w' : World} {a : Option Addr} {m : Nat} {f : Nat → Nat} (h : IV w a m f) (hb : Below w.heap.size w w') : IV w' a m f := fun i hi => by
  obtain ⟨b, off, e, h1, h2⟩ := h i hi
  exact ⟨b, off, e, Nat.lt_of_lt_of_le h1 hb.size, (hb.cell (p := ⟨b, _, none⟩) h1).trans h2⟩
theorem own_iv {w : World} {B m : Nat} {v : Value} {g : Nat → CR} {n a : Nat} (h : w.ownsRow B 3 1 v m (bdL g n a m)) : ∃ ad cap, v = .slice ad m cap ∧ IV w ad m (bd g n a) ∧ (∀ b off, ad = some ⟨b, off, none⟩ → B ≤ b) := by
  rcases h.2 with ⟨rfl, hn⟩ | ⟨q, cap, cur, rfl, hg, hgg, h1, h2, h3, h4⟩
  · subst hn
    exact ⟨none, 0, rfl, fun i hi => by omega, fun b off e => by cases e⟩
  · refine ⟨some ⟨q, 0, none⟩, cap, rfl, fun k hk => ⟨q, 0, rfl, (Array.getElem?_eq_some_iff.1 hgg).1, ?_⟩, fun b off e => by cases e; exact hg⟩
    rw [Nat.zero_add, h.cellAt k (by omega)]
    unfold bdL
    rw [List.getElem?_map, List.getElem?_range hk]
    rfl
/-- The first of some places whose cell has that name. -/
def mbF (g : Nat → CR) (s : ByteArray) (f : Nat → Nat) (m : Nat) : Option Nat := ((List.range m).map f).find? fun q => decide ((g q).nm = s)
theorem mbF_none {g : Nat → CR} {s : ByteArray} {f : Nat → Nat} {m : Nat} (h : ∀ j, j < m → (g (f j)).nm ≠ s) : mbF g s f m = none := by
  unfold mbF
  rw [List.find?_eq_none]
  intro q hq
  obtain ⟨j, hj, rfl⟩ := List.mem_map.1 hq
  simpa using h j (List.mem_range.1 hj)
theorem mbF_some {g : Nat → CR} {s : ByteArray} {f : Nat → Nat} {m i : Nat} (hi : i < m) (h : ∀ j, j < i → (g (f j)).nm ≠ s) (hs : (g (f i)).nm = s) : mbF g s f m = some (f i) := by
  unfold mbF
  have e : List.range m = List.range i ++ (i :: (List.range (m - (i + 1))).map (fun x => i + 1 + x)) := by
    apply List.ext_getElem (by simp; omega)
    intro k h1 h2
    rw [List.getElem_range]
    by_cases hk : k < i
    · rw [List.getElem_append_left (by simpa using hk)]; simp
    · rw [List.getElem_append_right (by simpa using hk)]
      by_cases e : k = i
      · subst e; simp
      · simp only [List.length_range]
        rw [List.getElem_cons]
        rw [dif_neg (by omega)]
        simp; omega
  rw [e, List.map_append, List.find?_append]
  rw [show ((List.range i).map f).find? (fun q => decide ((g q).nm = s)) = none from mbF_none h]
  simp [hs]
theorem str_is {x y : ByteArray} : (x.toList == y.toList) = decide (x = y) := by
  rw [Bool.eq_iff_iff, beq_iff_eq, decide_eq_true_eq, ByteArray.toList_eq, ByteArray.toList_eq, Array.toList_inj]
  exact ⟨fun h => ByteArray.ext h, fun h => by rw [h]⟩
/-- What Member finds. -/
def memP (g : Nat → CR) (n : Nat) (p : Int) (s : ByteArray) : Option Nat := if plE g n p = 0 ∧ (g p.toNat).k = 7 then mbF g s (bd g n (p.toNat + 1)) (g p.toNat).m.toNat else none
theorem ret_mb {x y : Nat} {b c : Bool} (h : x = y) (k : b = c) : Ending.returned (.tuple #[.int .i64 (x : Nat), .bool b]) = .returned (.tuple #[.int .i64 (y : Nat), .bool c]) := by rw [h, k]
end Go.Proofs.YtfigebepeniikaaGreat
/- Layer 3: rows of cells that a call made; the chapter's object; alive. -/
namespace Go.Proofs.YtfigebepeniikaaGreat
open Go.RowKit Go.Maps
def rw5 (L : List CR) : List Value := L.flatMap fun c => [.int .u8 c.k, .string c.nm, .string c.tx, .int .i64 c.n, .int .i64 c.m]
theorem rw5_nil : rw5 [] = [] := rfl
theorem rw5_cons (c : CR) (L : List CR) : rw5 (c :: L) = .int .u8 c.k :: .string c.nm :: .string c.tx :: .int .i64 c.n :: .int .i64 c.m :: rw5 L := rfl
theorem rw5_app (L M : List CR) : rw5 (L ++ M) = rw5 L ++ rw5 M := by unfold rw5; rw [List.flatMap_append]
theorem rw5_len : ∀ L : List CR, (rw5 L).length = L.length * 5
  | [] => rfl
  | c :: L => by rw [rw5_cons]; simp [rw5_len L]; omega
theorem rw5_at : ∀ (L : List CR) (i : Nat), i < L.length → (rw5 L)[i * 5]? = some (.int .u8 (gl L i).k) ∧ (rw5 L)[i * 5 + 1]? = some (.string (gl L i).nm) ∧ (rw5 L)[i * 5 + 2]? = some (.string (gl L i).tx) ∧ (rw5 L)[i * 5 + 3]? = some (.int .i64 (gl L i).n) ∧ (rw5 L)[i * 5 + 4]? = some (.int .i64 (gl L i).m)
  | [], i, h => by simp at h
  | c :: L, 0, h => by
    rw [rw5_cons]
    exact ⟨rfl, rfl, rfl, rfl, rfl⟩
  | c :: L, i + 1, h => by
    have ih := rw5_at L i (by simpa using h)
    rw [rw5_cons, show (i + 1) * 5 = i * 5 + 5 by omega]
    exact ih
theorem cv_of {w : World} {q n : Nat} {L : List CR} (hl : L.length = n) (hq : q < w.heap.size) (h : ∀ j, j < n * 5 → w.cell? ⟨q, j, none⟩ = (rw5 L)[j]?) : CV w (some ⟨q, 0, none⟩) n (gl L) := fun i hi => by
  obtain ⟨a0, a1, a2, a3, a4⟩ := rw5_at L i (by omega)
  exact ⟨q, 0, rfl, hq, by rw [Nat.zero_add, h _ (by omega)]; exact a0, by rw [Nat.zero_add, h _ (by omega)]; exact a1, by rw [Nat.zero_add, h _ (by omega)]; exact a2, by rw [Nat.zero_add, h _ (by omega)]; exact a3, by rw [Nat.zero_add, h _ (by omega)]; exact a4⟩
theorem cv_block {w : World} {q : Nat} {cs : Array Value} {t : TypeId} {L : List CR} (hb : w.heap[q]? = some (.cells cs t)) (hc : cs.toList = rw5 L) : CV w (some ⟨q, 0, none⟩) L.length (gl L) :=
  cv_of rfl (Array.getElem?_eq_some_iff.1 hb).1 fun j hj => by
    unfold World.cell?
    rw [hb, ← hc, Array.getElem?_toList]
    rfl
theorem own_cv {w : World} {B n : Nat} {v : Value} {L : List CR} (hl : L.length = n) (h : w.ownsRow B 47 5 v n (rw5 L)) : ∃ ad cap, v = .slice ad n cap ∧ CV w ad n (gl L) ∧ (∀ b off, ad = some ⟨b, off, none⟩ → B ≤ b) ∧ (n = 0 → ad = none ∨ True) := by
  rcases h.2 with ⟨rfl, hn⟩ | ⟨q, cap, cur, rfl, hg, hgg, h1, h2, h3, h4⟩
  · subst hn
    exact ⟨none, 0, rfl, fun i hi => by omega, fun b off e => by (cases e), fun _ => .inl rfl⟩
  · exact ⟨some ⟨q, 0, none⟩, cap, rfl, cv_of hl (Array.getElem?_eq_some_iff.1 hgg).1 (fun j hj => h.cellAt j hj), fun b off e => by (cases e; exact hg), fun _ => .inr trivial⟩
def fiveL : List CR := [⟨7, ⟨#[]⟩, ⟨#[]⟩, 0, 2⟩, ⟨2, ⟨#[97]⟩, ⟨#[]⟩, 1, 0⟩, ⟨6, ⟨#[98]⟩, ⟨#[]⟩, 0, 2⟩, ⟨0, ⟨#[]⟩, ⟨#[]⟩, 0, 0⟩, ⟨3, ⟨#[]⟩, ⟨#[120]⟩, 0, 0⟩]
theorem five_ck : ckC (gl fiveL) 5 = true := by decide +kernel
theorem five_cw : CW 5 (gl fiveL) := by
  intro i hi
  rcases (by omega : i = 0 ∨ i = 1 ∨ i = 2 ∨ i = 3 ∨ i = 4) with rfl | rfl | rfl | rfl | rfl <;> exact ⟨by decide, by decide, by decide, by decide, by decide⟩
end Go.Proofs.YtfigebepeniikaaGreat
/- Layer 3: alive. -/
namespace Go.Proofs.YtfigebepeniikaaGreat
open Go.RowKit Go.Maps
end Go.Proofs.YtfigebepeniikaaGreat
/- Layer 3: append onto a row that is kept; CellNames. -/
namespace Go.Proofs.YtfigebepeniikaaGreat
open Go.RowKit Go.Maps
section
variable {P : Program}
theorem own_part {w : World} {base : Nat} {e : TypeId} {size g n m cap : Nat} {xs news : List Value} (hx : xs.length = n * size) (h : w.ownsRow base e size (.slice (some ⟨g, 0, none⟩) (n + m) cap) (n + m) (xs ++ news)) : w.ownsRow base e size (.slice (some ⟨g, 0, none⟩) n cap) n xs := by
  refine ⟨hx, ?_⟩
  rcases h.2 with ⟨h', _⟩ | ⟨g', cap', cur, h', hb, hg, h1, h2, h3, h4⟩
  · simp at h'
  · simp only [Value.slice.injEq, Option.some.injEq, Addr.mk.injEq, and_true, true_and] at h'
    obtain ⟨rfl, rfl⟩ := h'
    refine .inr ⟨g, cap, cur, rfl, hb, hg, by omega, h2, h3, ?_⟩
    have : cur.toList.take (n * size) = (cur.toList.take ((n + m) * size)).take (n * size) := by
      rw [List.take_take, Nat.min_eq_left (Nat.mul_le_mul_right _ (by omega))]
    rw [this, h4, ← hx, List.take_left]
theorem run_append_keep (w : World) (base : Nat) (t ty e : TypeId) (i : TypeInfo) (z : Value) (size bytes : Nat) (ht : P.underlying t = some (.slice e)) (hi : P.info? e = some i) (hz : i.zero = some z)
    (hsize : i.size = size) (hby : i.bytes = bytes) (hzs : z.cells.size = size) (hsz : 0 < size)
    (v : Value) (n : Nat) (xs : List Value) (hown : w.ownsRow base e size v n xs) (hn0 : 0 < n)
    (a : Addr) (m c : Nat) (news : List Value) (hl : news.length = m * size) (hnews : ∀ j u, news[j]? = some u → w.cell? (a.add j) = some u) (h1 : ∀ u ∈ news, u.oneCell' = true)
    (h63 : n + m ≤ maxLen) (hbytes : (n + m) * bytes ≤ 140737488355328) (hbase : base ≤ w.heap.size) :
    ∃ v' w', (Builtin.append_ #[t, t] ty #[v, .slice (some a) m c]).run P w = .ok v' w' ∧ w'.ownsRow base e size v' (n + m) (xs ++ news) ∧ w'.ownsRow base e size v n xs ∧ w.grownBy w' v.ownBlock := by
  rcases hown.2 with ⟨_, h0⟩ | ⟨g, cap, cur, rfl, hbg, hg, hnc, hcm, hcs, htake⟩
  · omega
  · by_cases hr : n + m ≤ cap
    · obtain ⟨w', r1, r2, r3⟩ := run_append_fits (P := P) w base t ty e i size ht hi hsize g n cap xs hown a m c news hl hnews h1 hr
      exact ⟨_, w', r1, r2, own_part hown.1 r2, by simpa [Value.ownBlock] using r3⟩
    · obtain ⟨v', w', r1, r2, r3⟩ := run_append_arg_grows (P := P) w t ty e i z size bytes ht hi hz hsize hby hzs hsz ⟨g, 0, none⟩ n cap xs hown.1 (fun j u hj => by
        rw [Addr.add_lit, Nat.zero_add, hown.cellAt j (by rw [← hown.1]; exact (List.getElem?_eq_some_iff.1 hj).1)]; exact hj) a m c news hl hnews (by omega) h63 hbytes
      refine ⟨v', w', r1, ?_, hown.kept r3 (.inr (by simp [Value.ownBlock])), ⟨r3.os, r3.tape, r3.output, r3.size, fun k hk _ => r3.block k hk (by simp)⟩⟩
      refine ⟨r2.1, ?_⟩
      rcases r2.2 with h | ⟨g', cap', cur', e', hb', rest⟩
      · exact .inl h
      · exact .inr ⟨g', cap', cur', e', Nat.le_trans hbase hb', rest⟩
theorem wpList_append_keep {w : World} {ops : Array Oper} {rest : List Oper} {o : Oper} {a : Act} {Q : Exit → Act → World → Prop} (hgd : Region.wanted o (yielded ops a.tmps) = true)
    (s x : Operand) (t : TypeId) (hop : o.op = Op.call { callee := Callee.builtin Builtin.append, args := #[s, x], argTypes := #[t, t] })
    (base : Nat) (e : TypeId) (i : TypeInfo) (z : Value) (size bytes : Nat) (ht : P.underlying t = some (.slice e)) (hi : P.info? e = some i) (hz : i.zero = some z)
    (hsize : i.size = size) (hby : i.bytes = bytes) (hzs : z.cells.size = size) (hsz : 0 < size)
    (v : Value) (n : Nat) (xs : List Value) (hs : a.eval s = v) (hown : w.ownsRow base e size v n xs) (hn0 : 0 < n)
    (ad : Addr) (m c : Nat) (news : List Value) (hx : a.eval x = .slice (some ad) m c) (hl : news.length = m * size) (hnews : ∀ j u, news[j]? = some u → w.cell? (ad.add j) = some u) (h1 : ∀ u ∈ news, u.oneCell' = true)
    (h63 : n + m ≤ maxLen) (hbytes : (n + m) * bytes ≤ 140737488355328) (hbase : base ≤ w.heap.size)
    (hK : ∀ v' w', w'.ownsRow base e size v' (n + m) (xs ++ news) → w'.ownsRow base e size v n xs → w.grownBy w' v.ownBlock → wpList P ops Q rest (a.put o.dst v') w') :
    wpList P ops Q (o :: rest) a w := by
  refine wpList_step fun K hK' => ?_
  rw [if_pos hgd]
  obtain ⟨v', w', hrun, r1, r2, r3⟩ := run_append_keep (P := P) w base t o.type e i z size bytes ht hi hz hsize hby hzs hsz v n xs hown hn0 ad m c news hl hnews h1 h63 hbytes hbase
  unfold Oper.wp
  simp [execOp, hop, resolve, invoke, builtin, hs, hx, hrun, Result.andThen]
  exact hK' _ _ (hK v' w' r1 r2 r3)
end
theorem infoC : ∃ i, Tryz.prog.info? 47 = some i ∧ i.zero = some (.agg #[.int .u8 0, .string ⟨#[]⟩, .string ⟨#[]⟩, .int .i64 0, .int .i64 0]) ∧ i.size = 5 ∧ i.bytes = 56 := by
  have h := Tryz.typeInfo47 default
  unfold typeInfo at h
  cases hq : Tryz.prog.info? 47 with
  | none => simp [hq] at h
  | some i =>
    simp [hq] at h
    exact ⟨i, rfl, by rw [h]; rfl, by rw [h]; rfl, by rw [h]; rfl⟩
def c6 : CR := ⟨6, ⟨#[]⟩, ⟨#[]⟩, 0, 1⟩
def c0 : CR := ⟨0, ⟨#[]⟩, ⟨#[]⟩, 0, 0⟩
def c60 : CR := ⟨6, ⟨#[]⟩, ⟨#[]⟩, 0, 0⟩
def deepL (i : Nat) : List CR := List.replicate i c6
theorem deep_succ (i : Nat) : rw5 (deepL (i + 1)) = rw5 (deepL i) ++ [.int .u8 6, .string ⟨#[]⟩, .string ⟨#[]⟩, .int .i64 0, .int .i64 1] := by
  unfold deepL
  rw [List.replicate_succ', rw5_app]; rfl
theorem cw_small {L : List CR} {n : Nat} (hn : n = L.length) (h : ∀ c ∈ L, c.k < 256 ∧ c.nm.size ≤ maxLen ∧ c.tx.size ≤ 1000000 ∧ -9223372036854775808 ≤ c.m ∧ c.m ≤ 9223372036854775807) : CW n (gl L) := fun i hi => by
  have : gl L i ∈ L := by
    unfold gl
    rw [List.getD_eq_getElem?_getD, List.getElem?_eq_getElem (by omega)]
    exact List.getElem_mem _
  exact h _ this
theorem c6_ok : c6.k < 256 ∧ c6.nm.size ≤ maxLen ∧ c6.tx.size ≤ 1000000 ∧ -9223372036854775808 ≤ c6.m ∧ c6.m ≤ 9223372036854775807 := by refine ⟨?_, ?_, ?_, ?_, ?_⟩ <;> decide
theorem c0_ok : c0.k < 256 ∧ c0.nm.size ≤ maxLen ∧ c0.tx.size ≤ 1000000 ∧ -9223372036854775808 ≤ c0.m ∧ c0.m ≤ 9223372036854775807 := by refine ⟨?_, ?_, ?_, ?_, ?_⟩ <;> decide
theorem c60_ok : c60.k < 256 ∧ c60.nm.size ≤ maxLen ∧ c60.tx.size ≤ 1000000 ∧ -9223372036854775808 ≤ c60.m ∧ c60.m ≤ 9223372036854775807 := by refine ⟨?_, ?_, ?_, ?_, ?_⟩ <;> decide
theorem check_lit (L : List CR) (n : Nat) (x : Int) (hn : L.length = n) (hcw : CW n (gl L)) (hx : eC (ckC (gl L) n) = x) (a : Option Addr) (c : Nat) (w : World) (hv : CV w a n (gl L)) : Calls Tryz.prog 53 #[.slice a n c] w fun e w' => e = .returned (.int .i64 x) ∧ Below w.heap.size w w' := by
  rw [← hx]; exact cCheck_any a n c (gl L) w hv hcw
end Go.Proofs.YtfigebepeniikaaGreat
/- Layer 3: how large cells are; whether two rows are the same. -/
namespace Go.Proofs.YtfigebepeniikaaGreat
open Go.RowKit Go.Maps
def bigC (c : CR) : Bool := decide (300 < c.nm.size) || decide (3000 < c.tx.size)
def grP (g : Nat → CR) (n most : Nat) : Bool := decide (most < n) || (List.range n).any fun i => bigC (g i)
theorem gr_big {g : Nat → CR} {n most i : Nat} (hi : i < n) (h : bigC (g i) = true) : grP g n most = true := by
  unfold grP
  rw [Bool.or_eq_true]
  exact .inr (List.any_eq_true.2 ⟨i, List.mem_range.2 hi, h⟩)
theorem gr_no {g : Nat → CR} {n most : Nat} (hn : n ≤ most) (h : ∀ j, j < n → bigC (g j) = false) : grP g n most = false := by
  unfold grP
  rw [Bool.or_eq_false_iff]
  refine ⟨by simpa using hn, ?_⟩
  rw [List.any_eq_false]
  intro i hi
  rw [h i (List.mem_range.1 hi)]
  simp
theorem gr_small {g : Nat → CR} {n most : Nat} (h : grP g n most = false) : n ≤ most ∧ ∀ i, i < n → (g i).nm.size ≤ 300 ∧ (g i).tx.size ≤ 3000 := by
  unfold grP at h
  rw [Bool.or_eq_false_iff] at h
  refine ⟨by simpa using h.1, fun i hi => ?_⟩
  have := (List.any_eq_false.1 h.2) i (List.mem_range.2 hi)
  unfold bigC at this
  simp only [Bool.or_eq_true, decide_eq_true_eq, not_or, Nat.not_lt] at this
  exact this
set_option maxRecDepth 20000 in
set_option maxHeartbeats 1000000 in
theorem great_any (a : Option Addr) (n cap most : Nat) (mv : Int) (hmv : mv = (most : Nat)) (g : Nat → CR) (w : World) (hv : CV w a n g) (hn : n ≤ maxLen) (hm : most ≤ 1000000) : Calls Tryz.prog 22 #[.slice a n cap, .int .i64 mv] w fun r w' => r = .returned (.bool (grP g n most)) ∧ w' = w := by
  subst hmv
  unfold maxLen at hn
  obtain ⟨x, hx⟩ : ∃ x, x = grP g n most := ⟨_, rfl⟩
  rw [← hx]
  replace hx := Lib.hid hx
  have HV := Lib.hid hv
  clear hv
  have hn' : (n : Int) ≤ 9223372036854775807 := by omega
  have hm' : (most : Int) ≤ 1000000 := by omega
  go_enter Tryz.func22, Tryz.ntmps22
  go_wp2_with fail
  go_loop [5] (fun v5 => ∃ i : Nat, i ≤ n ∧ i ≤ most ∧ v5 = .int .i64 i ∧ Hid (∀ j, j < i → bigC (g j) = false)) (fun v5 => n - (intOf v5).toNat)
  case atStart => exact ⟨0, Nat.zero_le _, Nat.zero_le _, rfl, Lib.hid (fun j hj => by omega)⟩
  case round =>
    obtain ⟨i, hi, him, rfl, HN⟩ := hrel
    by_cases h1 : i < n
    · by_cases h2 : i < most
      · obtain ⟨b, off, rfl⟩ := HV.out.addr (by omega)
        obtain ⟨_, _, c1, c2, _, _⟩ := HV.out.at_ h1
        have hg1 : (i : Int) < n := by omega
        have hg0 : (0 : Int) ≤ i := by omega
        have hg2 : (i : Int) < most := by omega
        obtain ⟨nm, hnm⟩ : ∃ s, s = (g i).nm := ⟨_, rfl⟩
        obtain ⟨tx, htx⟩ : ∃ s, s = (g i).tx := ⟨_, rfl⟩
        rw [← hnm] at c1
        rw [← htx] at c2
        have hbc : Hid (bigC (g i) = (decide (300 < nm.size) || decide (3000 < tx.size))) := Lib.hid (by rw [hnm, htx]; rfl)
        clear hnm htx
        by_cases k1 : (300 : Int) < nm.size
        · have HX : Hid (x = true) := Lib.hid (by rw [hx.out]; exact gr_big h1 (by rw [hbc.out, decide_eq_true (show 300 < nm.size by omega)]; rfl))
          clear HN hbc
          go_wp2_with fail
          go_ret
          exact ⟨ret_bool HX.out.symm, rfl⟩
        · by_cases k2 : (3000 : Int) < tx.size
          · have HX : Hid (x = true) := Lib.hid (by rw [hx.out]; exact gr_big h1 (by rw [hbc.out, decide_eq_true (show 3000 < tx.size by omega)]; simp))
            clear HN hbc
            go_wp2_with fail
            go_ret
            exact ⟨ret_bool HX.out.symm, rfl⟩
          · have HN2 : Hid (∀ j, j < i + 1 → bigC (g j) = false) := Lib.hid (fun j hj => by
              by_cases e : j = i
              · subst e; rw [hbc.out, decide_eq_false (show ¬ 300 < nm.size by omega), decide_eq_false (show ¬ 3000 < tx.size by omega)]; rfl
              · exact HN.out j (by omega))
            clear HN hbc
            go_wp2_with fail
            go_round
            case rel => exact ⟨i + 1, by omega, by omega, by go_num, HN2⟩
            case measure => simp [intOf]; omega
      · have e2 : i = most := by omega
        subst e2
        have HX : Hid (x = true) := Lib.hid (by rw [hx.out]; unfold grP; rw [decide_eq_true h1]; rfl)
        have hg1 : (i : Int) < n := by omega
        have hg2 : ¬ (i : Int) < i := by omega
        clear HN
        go_wp2_with fail
        go_ret
        exact ⟨ret_bool HX.out.symm, rfl⟩
    · have e1 : i = n := by omega
      subst e1
      have HX : Hid (x = false) := Lib.hid (by rw [hx.out]; exact gr_no him HN.out)
      have hg1 : ¬ (i : Int) < i := by omega
      have hg2 : ¬ (most : Int) < i := by omega
      clear HN
      go_wp2_with fail
      go_ret
      exact ⟨ret_bool HX.out.symm, rfl⟩
end Go.Proofs.YtfigebepeniikaaGreat
/- Layer 3: two cells against each other; two rows. -/
namespace Go.Proofs.YtfigebepeniikaaGreat
open Go.RowKit Go.Maps
deriving instance DecidableEq for CR
theorem cell_dec (k1 k2 : Nat) (a1 a2 b1 b2 : ByteArray) (n1 n2 m1 m2 : Int) : decide ((⟨k1, a1, b1, n1, m1⟩ : CR) = ⟨k2, a2, b2, n2, m2⟩) = (decide ((k1 : Int) = k2) && (decide (a1 = a2) && (decide (b1 = b2) && (decide (n1 = n2) && decide (m1 = m2))))) := by
  rw [Bool.eq_iff_iff]
  simp only [decide_eq_true_eq, Bool.and_eq_true, CR.mk.injEq]
  constructor
  · rintro ⟨h1, h2, h3, h4, h5⟩; exact ⟨by omega, h2, h3, h4, h5⟩
  · rintro ⟨h1, h2, h3, h4, h5⟩; exact ⟨by omega, h2, h3, h4, h5⟩
theorem neq_cell (c d : CR) (w : World) : (binOp .neq 47 (cv c) (cv d)).run Tryz.prog w = .ok (.bool !(decide (c = d))) w := by
  obtain ⟨k1, a1, b1, n1, m1⟩ := c
  obtain ⟨k2, a2, b2, n2, m2⟩ := d
  rw [cell_dec]
  unfold cv
  have a3 := Tryz.isAgg5
  have a4 := Tryz.isAgg9
  have a5 := Tryz.isAgg2
  have a6 := Tryz.isAgg3
  have z3 := Tryz.sizeOf5
  have z4 := Tryz.sizeOf9
  have z5 := Tryz.sizeOf2
  have z6 := Tryz.sizeOf3
  have u3 := Tryz.underlying5
  have u4 := Tryz.underlying9
  have u5 := Tryz.underlying2
  have u6 := Tryz.underlying3
  have hS : Tryz.prog.underlying 47 = some (.struct (Tryz.prog.fieldsOf 47)) := by kernel_rfl
  have hp : Tryz.prog.stoodInHeld 47 = false := by kernel_rfl
  rw [run_neq_struct, show (10000 : Nat) = 9999 + 1 from rfl, run_equalIn_agg w 9999 47 _ _ hS hp]
  simp only [Program.fieldsOf, Tryz.underlying47]
  have e1 : (a1.toList == a2.toList) = decide (a1 = a2) := str_is
  have e2 : (b1.toList == b2.toList) = decide (b1 = b2) := str_is
  go_simp
  by_cases h1 : (k1 : Int) = k2 <;> by_cases h2 : a1 = a2 <;> by_cases h3 : b1 = b2 <;> by_cases h4 : n1 = n2 <;> by_cases h5 : m1 = m2 <;> simp [h1, h2, h3, h4, h5, e1, e2]
/-- Are two rows the same? -/
def smB (g1 : Nat → CR) (n1 : Nat) (g2 : Nat → CR) (n2 : Nat) : Bool := decide (n1 = n2) && (List.range n1).all fun i => decide (g1 i = g2 i)
theorem sm_no {g1 g2 : Nat → CR} {n i : Nat} (hi : i < n) (h : g1 i ≠ g2 i) : smB g1 n g2 n = false := by
  unfold smB
  rw [Bool.and_eq_false_iff]
  refine .inr (List.all_eq_false.2 ⟨i, List.mem_range.2 hi, by simpa using h⟩)
theorem sm_yes {g1 g2 : Nat → CR} {n : Nat} (h : ∀ j, j < n → g1 j = g2 j) : smB g1 n g2 n = true := by
  unfold smB
  rw [Bool.and_eq_true]
  exact ⟨by simp, List.all_eq_true.2 fun i hi => by simpa using h i (List.mem_range.1 hi)⟩
theorem sm_lists {L M : List CR} (h : L = M) : smB (gl L) L.length (gl M) M.length = true := by subst h; exact sm_yes fun _ _ => rfl
theorem sm_eq {g1 g2 : Nat → CR} {n1 n2 : Nat} (h : smB g1 n1 g2 n2 = true) : n1 = n2 ∧ ∀ i, i < n1 → g1 i = g2 i := by
  unfold smB at h
  simp only [Bool.and_eq_true, decide_eq_true_eq, List.all_eq_true, List.mem_range] at h
  exact h
set_option maxRecDepth 20000 in
set_option maxHeartbeats 1000000 in
theorem rsame_any (a1 a2 : Option Addr) (n1 n2 c1 c2 : Nat) (g1 g2 : Nat → CR) (w : World) (hv1 : CV w a1 n1 g1) (hv2 : CV w a2 n2 g2) (hn : n1 ≤ maxLen) : Calls Tryz.prog 37 #[.slice a1 n1 c1, .slice a2 n2 c2] w fun r w' => r = .returned (.bool (smB g1 n1 g2 n2)) ∧ Below w.heap.size w w' := by
  unfold maxLen at hn
  obtain ⟨x, hx⟩ : ∃ x, x = smB g1 n1 g2 n2 := ⟨_, rfl⟩
  rw [← hx]
  replace hx := Lib.hid hx
  by_cases he : n1 = n2
  · subst he
    have HV1 := Lib.hid hv1
    have HV2 := Lib.hid hv2
    clear hv1 hv2
    have hn' : (n1 : Int) ≤ 9223372036854775807 := by omega
    have hne : ((n1 : Int) != n1) = false := by simp
    go_enter Tryz.func37, Tryz.ntmps37
    go_wp2_with fail
    go_loopw [5] (fun v5 wr => ∃ i : Nat, i ≤ n1 ∧ v5 = .int .i64 i ∧ Hid (∀ j, j < i → g1 j = g2 j) ∧ Hid (Below w.heap.size w wr)) (fun v5 _ => n1 - (intOf v5).toNat)
    case atStart => exact ⟨0, Nat.zero_le _, rfl, Lib.hid (fun j hj => by omega), Lib.hid (Below.refl _ _)⟩
    case round =>
      obtain ⟨i, hi, rfl, HN, HB⟩ := hrel
      by_cases h1 : i < n1
      · obtain ⟨b, off, rfl⟩ := HV1.out.addr (by omega)
        obtain ⟨b', off', rfl⟩ := HV2.out.addr (by omega)
        obtain ⟨_, d0, d1, d2, d3, d4⟩ := (HV1.out.below HB.out).at_ h1
        obtain ⟨_, e0, e1, e2, e3, e4⟩ := (HV2.out.below HB.out).at_ h1
        have hg1 : (i : Int) < n1 := by omega
        have hg0 : (0 : Int) ≤ i := by omega
        obtain ⟨c, hc⟩ : ∃ c, c = g1 i := ⟨_, rfl⟩
        obtain ⟨d, hd⟩ : ∃ d, d = g2 i := ⟨_, rfl⟩
        rw [← hc] at d0 d1 d2 d3 d4
        rw [← hd] at e0 e1 e2 e3 e4
        have hq := neq_cell c d
        unfold cv at hq
        have hgd : ∀ (op : BinOp) (x y : Operand) (xs ys : Array Value) (W : World), (eqGuard op 47 x y (.agg xs) (.agg ys)).run Tryz.prog W = .ok () W := fun op x y xs ys W => run_eqGuard_agg W op _ x y xs ys (by kernel_rfl)
        by_cases hcd : c = d
        · have HN2 : Hid (∀ j, j < i + 1 → g1 j = g2 j) := Lib.hid (fun j hj => by
            by_cases e : j = i
            · subst e; rw [← hc, ← hd]; exact hcd
            · exact HN.out j (by omega))
          rw [decide_eq_true hcd] at hq
          clear HN hc hd hcd
          go_wp2_with fail
          go_quiet (fail)
          go_wp2_with fail
          go_roundw
          case rel => exact ⟨i + 1, by omega, by go_num, HN2, Lib.hid ⟨HB.out.os, HB.out.tape, HB.out.output, HB.out.size, HB.out.block⟩⟩
          case measure => simp [intOf]; omega
        · have HX : Hid (x = false) := Lib.hid (by rw [hx.out]; exact sm_no h1 (by rw [← hc, ← hd]; exact hcd))
          rw [decide_eq_false hcd] at hq
          clear HN hc hd hcd
          go_wp2_with fail
          go_quiet (fail)
          go_wp2_with fail
          go_ret
          exact ⟨ret_bool HX.out.symm, ⟨HB.out.os, HB.out.tape, HB.out.output, HB.out.size, HB.out.block⟩⟩
      · have e1 : i = n1 := by omega
        subst e1
        have HX : Hid (x = true) := Lib.hid (by rw [hx.out]; exact sm_yes HN.out)
        have hg1 : ¬ (i : Int) < i := by omega
        clear HN
        go_wp2_with fail
        go_ret
        exact ⟨ret_bool HX.out.symm, HB.out⟩
  · have HX : Hid (x = false) := Lib.hid (by rw [hx.out]; unfold smB; rw [decide_eq_false he]; rfl)
    have hne : ((n1 : Int) != n2) = true := by simp; omega
    have hne2 : ((n1 : Int) == n2) = false := by rw [beq_eq_false_iff_ne]; omega
    clear he
    go_enter Tryz.func37, Tryz.ntmps37
    go_wp2_with fail
    go_ret
    exact ⟨ret_bool HX.out.symm, Below.refl _ _⟩
end Go.Proofs.YtfigebepeniikaaGreat
/- Plain facts for layer 5: the order of bytes is one. No program in sight. -/
namespace Go.Proofs.YtfigebepeniikaaGreat.Ord
open Go.RowKit

theorem cb_range : ∀ a b : List UInt8, -1 ≤ Lib.compareBytes a b ∧ Lib.compareBytes a b ≤ 1
  | [], [] => by simp [Lib.compareBytes]
  | [], _ :: _ => by simp [Lib.compareBytes]
  | _ :: _, [] => by simp [Lib.compareBytes]
  | x :: a, y :: b => by
    simp only [Lib.compareBytes]
    have := cb_range a b
    (repeat' split) <;> omega
theorem u8_tri (x y : UInt8) : (x < y ∧ ¬ y < x ∧ x ≠ y) ∨ (¬ x < y ∧ y < x ∧ x ≠ y) ∨ (¬ x < y ∧ ¬ y < x ∧ x = y) := by
  simp only [UInt8.lt_iff_toNat_lt, ne_eq, ← UInt8.toNat_inj]; omega
theorem cb_swap : ∀ a b : List UInt8, Lib.compareBytes b a = - Lib.compareBytes a b
  | [], [] => by simp [Lib.compareBytes]
  | [], _ :: _ => by simp [Lib.compareBytes]
  | _ :: _, [] => by simp [Lib.compareBytes]
  | x :: a, y :: b => by
    simp only [Lib.compareBytes]
    have := cb_swap a b
    rcases u8_tri x y with ⟨h1, h2, _⟩ | ⟨h1, h2, _⟩ | ⟨h1, h2, _⟩ <;> simp [h1, h2, this]
theorem cb_zero : ∀ a b : List UInt8, Lib.compareBytes a b = 0 ↔ a = b
  | [], [] => by simp [Lib.compareBytes]
  | [], _ :: _ => by simp [Lib.compareBytes]
  | _ :: _, [] => by simp [Lib.compareBytes]
  | x :: a, y :: b => by
    simp only [Lib.compareBytes]
    have := cb_zero a b
    rcases u8_tri x y with ⟨h1, h2, h3⟩ | ⟨h1, h2, h3⟩ | ⟨h1, h2, h3⟩ <;> simp [h1, h2, h3, this]
theorem cb_trans : ∀ a b c : List UInt8, Lib.compareBytes a b ≤ 0 → Lib.compareBytes b c ≤ 0 → Lib.compareBytes a c = min (Lib.compareBytes a b) (Lib.compareBytes b c) := by
  intro a
  induction a with
  | nil =>
    intro b c h1 h2
    cases b with
    | nil =>
      cases c with
      | nil => rfl
      | cons z c => rfl
    | cons y b =>
      cases c with
      | nil => simp [Lib.compareBytes] at h2
      | cons z c =>
        have r := cb_range (y :: b) (z :: c)
        have e1 : Lib.compareBytes [] (y :: b) = -1 := rfl
        have e2 : Lib.compareBytes [] (z :: c) = -1 := rfl
        rw [e1, e2]; omega
  | cons x a ih =>
    intro b c h1 h2
    cases b with
    | nil => simp [Lib.compareBytes] at h1
    | cons y b =>
      cases c with
      | nil => simp [Lib.compareBytes] at h2
      | cons z c =>
        simp only [Lib.compareBytes] at h1 h2 ⊢
        have r1 := cb_range a b
        have r2 := cb_range b c
        have := ih b c
        rcases u8_tri x y with ⟨p1, p2, p3⟩ | ⟨p1, p2, p3⟩ | ⟨p1, p2, p3⟩
        · rcases u8_tri y z with ⟨q1, q2, q3⟩ | ⟨q1, q2, q3⟩ | ⟨q1, q2, q3⟩
          · have hxz : x < z := by simp only [UInt8.lt_iff_toNat_lt] at *; omega
            simp [p1, q1, hxz]
          · simp [q1, q2] at h2
          · subst q3
            simp [p1, q1] at h2 ⊢
            omega
        · simp [p1, p2] at h1
        · subst p3
          rcases u8_tri x z with ⟨q1, q2, q3⟩ | ⟨q1, q2, q3⟩ | ⟨q1, q2, q3⟩
          · simp [p1, q1] at h1 ⊢
            omega
          · simp [q1, q2] at h2
          · subst q3
            simp [p1] at h1 h2 ⊢
            exact this h1 h2
theorem cb_prefix : ∀ p a b : List UInt8, Lib.compareBytes (p ++ a) (p ++ b) = Lib.compareBytes a b
  | [], _, _ => rfl
  | x :: p, a, b => by
    have h : ¬ x < x := by simp
    simp only [List.cons_append, Lib.compareBytes, h, if_false]
    exact cb_prefix p a b

/-- The order of two strings. -/
def cmpB (a b : ByteArray) : Int := Lib.compareBytes a.data.toList b.data.toList
theorem cmp_range (a b : ByteArray) : -1 ≤ cmpB a b ∧ cmpB a b ≤ 1 := cb_range _ _
theorem cmp_swap (a b : ByteArray) : cmpB b a = - cmpB a b := cb_swap _ _
theorem cmp_zero (a b : ByteArray) : cmpB a b = 0 ↔ a = b := by
  unfold cmpB
  rw [cb_zero]
  constructor
  · intro h; exact ByteArray.ext (Array.toList_inj.1 h)
  · intro h; rw [h]
theorem cmp_trans (a b c : ByteArray) (h1 : cmpB a b ≤ 0) (h2 : cmpB b c ≤ 0) : cmpB a c = min (cmpB a b) (cmpB b c) := cb_trans _ _ _ h1 h2
theorem cmp_prefix (p a b : ByteArray) : cmpB (p ++ a) (p ++ b) = cmpB a b := by
  unfold cmpB
  simp only [ByteArray.data_append, Array.toList_append]
  exact cb_prefix _ _ _

def nth (L : List ByteArray) (k : Nat) : ByteArray := L.getD k ⟨#[]⟩
/-- Do the first k + 1 strings rise? -/
def rises (L : List ByteArray) : Nat → Bool
  | 0 => true
  | k + 1 => rises L k && decide (cmpB (nth L k) (nth L (k + 1)) < 0)
def chE (L : List ByteArray) : Int := if 4096 < L.length then 8 else if rises L (L.length - 1) then 0 else 8
theorem rises_le {L : List ByteArray} {j k : Nat} (hjk : j ≤ k) (h : rises L k = true) : rises L j = true := by
  induction k with
  | zero => obtain rfl : j = 0 := by omega
            exact h
  | succ k ih =>
    by_cases e : j = k + 1
    · subst e; exact h
    · simp only [rises, Bool.and_eq_true] at h
      exact ih (by omega) h.1
theorem rises_lt {L : List ByteArray} {j : Nat} : ∀ k, j < k → rises L k = true → cmpB (nth L j) (nth L k) < 0 := by
  intro k
  induction k with
  | zero => intro h; omega
  | succ k ih =>
    intro h hr
    simp only [rises, Bool.and_eq_true, decide_eq_true_eq] at hr
    by_cases e : j = k
    · subst e; exact hr.2
    · have := ih (by omega) hr.1
      rw [cmp_trans (nth L j) (nth L k) (nth L (k + 1)) (by omega) (by omega)]
      omega
/-- Where a string is, or would be. -/
def At (L : List ByteArray) (s : ByteArray) (at_ : Nat) (is : Bool) : Prop :=
  at_ ≤ L.length ∧ (∀ j, j < at_ → cmpB (nth L j) s < 0) ∧ (is = true → at_ < L.length ∧ nth L at_ = s) ∧ (is = false → ∀ j, at_ ≤ j → j < L.length → 0 < cmpB (nth L j) s)
theorem low_step {L : List ByteArray} {s : ByteArray} {m : Nat} (hr : rises L (L.length - 1) = true) (hm : m < L.length) (h : cmpB (nth L m) s ≤ 0) : ∀ j, j < m → cmpB (nth L j) s < 0 := by
  intro j hj
  have := rises_lt m hj (rises_le (by omega) hr)
  rw [cmp_trans (nth L j) (nth L m) s (by omega) h]; omega
theorem high_step {L : List ByteArray} {s : ByteArray} {m : Nat} (hr : rises L (L.length - 1) = true) (h : 0 < cmpB (nth L m) s) : ∀ j, m ≤ j → j < L.length → 0 < cmpB (nth L j) s := by
  intro j hj hl
  by_cases e : j = m
  · subst e; exact h
  · have h1 := rises_lt j (show m < j by omega) (rises_le (by omega) hr)
    have s1 := cmp_swap (nth L m) s
    have s2 := cmp_swap (nth L j) s
    have s3 := cmp_trans s (nth L m) (nth L j) (by omega) (by omega)
    omega
end Go.Proofs.YtfigebepeniikaaGreat.Ord
/- Plain facts for layer 5: a string put in its place, and dropped again. No program in sight. -/
namespace Go.Proofs.YtfigebepeniikaaGreat.Ord
open Go.RowKit

def insL (L : List ByteArray) (s : ByteArray) (k : Nat) : List ByteArray := L.take k ++ (s :: L.drop k)
def del (L : List ByteArray) (k : Nat) : List ByteArray := L.take k ++ L.drop (k + 1)
theorem chOk {L : List ByteArray} (h : chE L = 0) : L.length ≤ 4096 ∧ rises L (L.length - 1) = true := by
  unfold chE at h
  by_cases h1 : 4096 < L.length
  · rw [if_pos h1] at h; omega
  · rw [if_neg h1] at h
    refine ⟨by omega, ?_⟩
    cases hr : rises L (L.length - 1)
    · rw [hr] at h; simp at h
    · rfl
theorem rises_of {L : List ByteArray} : ∀ n, (∀ j, j < n → cmpB (nth L j) (nth L (j + 1)) < 0) → rises L n = true := by
  intro n
  induction n with
  | zero => intro _; rfl
  | succ n ih =>
    intro h
    simp only [rises, Bool.and_eq_true, decide_eq_true_eq]
    exact ⟨ih (fun j hj => h j (by omega)), h n (by omega)⟩
theorem rises_at {L : List ByteArray} {n j : Nat} (h : rises L n = true) (hj : j < n) : cmpB (nth L j) (nth L (j + 1)) < 0 := rises_lt (j + 1) (by omega) (rises_le (by omega) h)
theorem insL_len {L : List ByteArray} {s : ByteArray} {k : Nat} (hk : k ≤ L.length) : (insL L s k).length = L.length + 1 := by simp [insL]; omega
theorem insL_nth {L : List ByteArray} {s : ByteArray} {k : Nat} (hk : k ≤ L.length) (j : Nat) : nth (insL L s k) j = if j < k then nth L j else if j = k then s else nth L (j - 1) := by
  unfold nth insL
  have ht : (L.take k).length = k := by rw [List.length_take]; omega
  by_cases h1 : j < k
  · rw [if_pos h1]
    simp only [List.getD, List.getElem?_append_left (show j < (L.take k).length by omega)]
    simp [h1]
  · rw [if_neg h1]
    simp only [List.getD, List.getElem?_append_right (show (L.take k).length ≤ j by omega), ht]
    by_cases h2 : j = k
    · subst h2; simp
    · rw [if_neg h2]
      obtain ⟨d, hd⟩ : ∃ d, j - k = d + 1 := ⟨j - k - 1, by omega⟩
      rw [hd, List.getElem?_cons_succ, List.getElem?_drop]
      rw [show k + d = j - 1 by omega]
theorem insL_ok {L : List ByteArray} {s : ByteArray} {k : Nat} (hc : chE L = 0) (hl : L.length < 4096) (ha : At L s k false) : chE (insL L s k) = 0 := by
  obtain ⟨h1, h2, _, h4⟩ := ha
  have h4 := h4 rfl
  have hr := (chOk hc).2
  have hlen := insL_len (s := s) h1
  unfold chE
  rw [if_neg (by omega), rises_of]
  · rfl
  · intro j hj
    rw [insL_nth h1, insL_nth h1]
    by_cases c1 : j + 1 < k
    · rw [if_pos (by omega), if_pos c1]
      exact rises_at hr (by omega)
    · by_cases c2 : j + 1 = k
      · rw [if_pos (by omega), if_neg (by omega), if_pos c2]
        exact h2 j (by omega)
      · rw [if_neg (by omega)]
        rw [if_neg (show ¬ (j + 1 < k) from c1), if_neg c2]
        by_cases c3 : j = k
        · rw [if_pos c3, show j + 1 - 1 = j by omega]
          have := h4 j (by omega) (by omega)
          have := cmp_swap s (nth L j)
          omega
        · rw [if_neg c3]
          have := rises_at hr (j := j - 1) (by omega)
          rw [show j - 1 + 1 = j by omega] at this
          rw [show j + 1 - 1 = j by omega]
          exact this
/-- What is found is there. -/
theorem at_iff {L : List ByteArray} {s : ByteArray} {k : Nat} {is : Bool} (h : At L s k is) : is = true ↔ ∃ j, j < L.length ∧ nth L j = s := by
  obtain ⟨h1, h2, h3, h4⟩ := h
  constructor
  · intro hi; exact ⟨k, h3 hi⟩
  · rintro ⟨j, hj, he⟩
    cases is
    · exfalso
      have hz := (cmp_zero (nth L j) s).2 he
      by_cases hjk : j < k
      · have := h2 j hjk; omega
      · have := h4 rfl j (by omega) hj; omega
    · rfl
theorem insL_has {L : List ByteArray} {s o : ByteArray} {k : Nat} (hk : k ≤ L.length) (ho : o ≠ s) : (∃ j, j < (insL L s k).length ∧ nth (insL L s k) j = o) ↔ ∃ j, j < L.length ∧ nth L j = o := by
  rw [insL_len hk]
  constructor
  · rintro ⟨j, hj, he⟩
    rw [insL_nth hk] at he
    by_cases c1 : j < k
    · rw [if_pos c1] at he; exact ⟨j, by omega, he⟩
    · rw [if_neg c1] at he
      by_cases c2 : j = k
      · rw [if_pos c2] at he; exact absurd he.symm ho
      · rw [if_neg c2] at he; exact ⟨j - 1, by omega, he⟩
  · rintro ⟨j, hj, he⟩
    by_cases c1 : j < k
    · exact ⟨j, by omega, by rw [insL_nth hk, if_pos c1]; exact he⟩
    · exact ⟨j + 1, by omega, by rw [insL_nth hk, if_neg (by omega), if_neg (by omega)]; exact he⟩
theorem insL_at {L : List ByteArray} {s : ByteArray} {k : Nat} (hk : k ≤ L.length) : k < (insL L s k).length ∧ nth (insL L s k) k = s := by
  rw [insL_len hk, insL_nth hk, if_neg (by omega), if_pos rfl]
  exact ⟨by omega, rfl⟩
/-- Each stands once. -/
theorem rises_inj {L : List ByteArray} {i j : Nat} (hc : chE L = 0) (hi : i < L.length) (hj : j < L.length) (he : nth L i = nth L j) : i = j := by
  have hr := (chOk hc).2
  have hz := (cmp_zero (nth L i) (nth L j)).2 he
  have hz' := (cmp_zero (nth L j) (nth L i)).2 he.symm
  rcases Nat.lt_trichotomy i j with h | h | h
  · have := rises_lt j h (rises_le (by omega) hr); omega
  · exact h
  · have := rises_lt i h (rises_le (by omega) hr); omega
theorem del_insL {L : List ByteArray} {s : ByteArray} {k : Nat} (hk : k ≤ L.length) : del (insL L s k) k = L := by
  unfold del insL
  have ht : (L.take k).length = k := by rw [List.length_take]; omega
  rw [List.take_append_of_le_length (by omega), List.take_of_length_le (by omega)]
  rw [List.drop_append, List.drop_of_length_le (by omega), ht, show k + 1 - k = 1 by omega]
  simp
/-- Where a string is, or would be: there is such a place, and one. -/
theorem at_some {L : List ByteArray} (hc : chE L = 0) (s : ByteArray) : ∃ k is, At L s k is := by
  have hr := (chOk hc).2
  have key : ∀ n, n ≤ L.length → (∀ j, j < n → cmpB (nth L j) s < 0) ∨ ∃ k, k < n ∧ (∀ j, j < k → cmpB (nth L j) s < 0) ∧ 0 ≤ cmpB (nth L k) s := by
    intro n
    induction n with
    | zero => intro _; exact .inl (fun j hj => by omega)
    | succ n ih =>
      intro hn
      rcases ih (by omega) with h | ⟨k, hk, h1, h2⟩
      · by_cases hz : cmpB (nth L n) s < 0
        · refine .inl (fun j hj => ?_)
          by_cases e : j = n
          · rw [e]; exact hz
          · exact h j (by omega)
        · exact .inr ⟨n, by omega, h, by omega⟩
      · exact .inr ⟨k, by omega, h1, h2⟩
  rcases key L.length (Nat.le_refl _) with h | ⟨k, hk, h1, h2⟩
  · exact ⟨L.length, false, Nat.le_refl _, h, fun h => by simp at h, fun _ j h1 h2 => by omega⟩
  · by_cases hz : cmpB (nth L k) s = 0
    · exact ⟨k, true, by omega, h1, fun _ => ⟨hk, (cmp_zero _ _).1 hz⟩, fun h => by simp at h⟩
    · exact ⟨k, false, by omega, h1, fun h => by simp at h, fun _ => high_step hr (by omega)⟩
theorem at_uniq {L : List ByteArray} {s : ByteArray} {k k' : Nat} {is is' : Bool} (h : At L s k is) (h' : At L s k' is') : k' = k ∧ is' = is := by
  have hi : is' = is := by rw [Bool.eq_iff_iff, at_iff h, at_iff h']
  refine ⟨?_, hi⟩
  subst hi
  have up : ∀ {a b : Nat}, At L s a is' → At L s b is' → ¬ a < b := by
    intro a b ha hb hab
    have h1 := hb.2.1 a hab
    have hbl := hb.1
    cases is'
    · have := ha.2.2.2 rfl a (Nat.le_refl _) (by omega); omega
    · have hz := (cmp_zero (nth L a) s).2 (ha.2.2.1 rfl).2; omega
  have := up h h'
  have := up h' h
  omega
theorem at_insL {L : List ByteArray} {s : ByteArray} {k : Nat} (h : At L s k false) : At (insL L s k) s k true := by
  have hk := h.1
  refine ⟨by rw [insL_len hk]; omega, fun j hj => ?_, fun _ => insL_at hk, fun h => by simp at h⟩
  rw [insL_nth hk, if_pos hj]
  exact h.2.1 j hj
theorem at_same {L M : List ByteArray} {o : ByteArray} {k k' : Nat} {is is' : Bool} (h : At L o k is) (h' : At M o k' is') (hh : (∃ j, j < M.length ∧ nth M j = o) ↔ ∃ j, j < L.length ∧ nth L j = o) : is' = is := by
  rw [Bool.eq_iff_iff, at_iff h, at_iff h', hh]
end Go.Proofs.YtfigebepeniikaaGreat.Ord
/- Plain facts for layer 5: sorted, each once. No program in sight. -/
namespace Go.Proofs.YtfigebepeniikaaGreat.Ord
open Go.RowKit

def inL (L : List ByteArray) (s : ByteArray) : Prop := ∃ j, j < L.length ∧ nth L j = s
theorem inL_mem {L : List ByteArray} {s : ByteArray} : inL L s ↔ s ∈ L := by
  constructor
  · rintro ⟨j, hj, rfl⟩
    unfold nth
    rw [List.getD, List.getElem?_eq_getElem hj]
    exact List.getElem_mem hj
  · intro h
    obtain ⟨j, hj, rfl⟩ := List.getElem_of_mem h
    exact ⟨j, hj, by unfold nth; rw [List.getD, List.getElem?_eq_getElem hj]; rfl⟩
theorem rises_mono {L : List ByteArray} (h : rises L (L.length - 1) = true) {i j : Nat} (hij : i < j) (hj : j < L.length) : cmpB (nth L i) (nth L j) < 0 :=
  rises_lt j hij (rises_le (by omega) h)
theorem cmp_asymm {a b : ByteArray} (h : cmpB a b < 0) : ¬ cmpB b a < 0 := by
  rw [cmp_swap]; omega
theorem cmp_lt_le {a b c : ByteArray} (h1 : cmpB a b < 0) (h2 : cmpB b c ≤ 0) : cmpB a c < 0 := by
  have := cmp_trans a b c (by omega) h2
  omega
theorem cmp_le_lt {a b c : ByteArray} (h1 : cmpB a b ≤ 0) (h2 : cmpB b c < 0) : cmpB a c < 0 := by
  have := cmp_trans a b c h1 (by omega)
  omega
/-- Two rising lists of the same strings are one. -/
theorem rises_uniq {L M : List ByteArray} (hL : rises L (L.length - 1) = true) (hM : rises M (M.length - 1) = true) (h : ∀ s, inL L s ↔ inL M s) : L = M := by
  have key : ∀ (L M : List ByteArray), rises L (L.length - 1) = true → rises M (M.length - 1) = true → (∀ s, inL L s ↔ inL M s) → ∀ k, k < L.length → k < M.length ∧ nth L k = nth M k := by
    intro L M hL hM h k
    induction k using Nat.strongRecOn with
    | ind k ih =>
      intro hk
      obtain ⟨j, hj, hjk⟩ := (h (nth L k)).1 ⟨k, hk, rfl⟩
      -- j is at least k
      have h1 : k ≤ j := by
        apply Nat.le_of_not_lt
        intro hlt
        have := (ih j hlt (by omega)).2
        rw [hjk] at this
        have h2 := rises_mono hL hlt hk
        rw [this] at h2
        have := (cmp_zero (nth L k) (nth L k)).2 rfl
        omega
      refine ⟨by omega, ?_⟩
      by_cases e : j = k
      · rw [← e, hjk, e]
      · exfalso
        have hlt : k < j := by omega
        obtain ⟨i, hi, hik⟩ := (h (nth M k)).2 ⟨k, by omega, rfl⟩
        have hm := rises_mono hM hlt hj
        rw [hjk, ← hik] at hm
        -- nth L i < nth L k, so i < k
        have hi2 : i < k := by
          apply Nat.lt_of_not_le
          intro hle
          by_cases e2 : i = k
          · rw [e2] at hm
            have := (cmp_zero (nth L k) (nth L k)).2 rfl
            omega
          · have := rises_mono hL (show k < i by omega) hi
            exact cmp_asymm hm this
        have h3 := (ih i hi2 hi)
        have h4 := rises_mono hM hi2 (by omega)
        rw [← h3.2, hik] at h4
        have := (cmp_zero (nth M k) (nth M k)).2 rfl
        omega
  have hl : L.length = M.length := by
    apply Nat.le_antisymm
    · by_cases h0 : L.length = 0
      · omega
      · have := (key L M hL hM h (L.length - 1) (by omega)).1; omega
    · by_cases h0 : M.length = 0
      · omega
      · have := (key M L hM hL (fun s => (h s).symm) (M.length - 1) (by omega)).1; omega
  apply List.ext_getElem hl
  intro k h1 h2
  have := (key L M hL hM h k h1).2
  unfold nth at this
  rw [List.getD, List.getD, List.getElem?_eq_getElem h1, List.getElem?_eq_getElem h2] at this
  exact this
/-- What the walk keeps of a sorted list: each string once. -/
def ddk (S : List ByteArray) : Nat → List ByteArray
  | 0 => []
  | k + 1 => if k = 0 ∨ nth S k ≠ nth S (k - 1) then ddk S k ++ [nth S k] else ddk S k
theorem ddk_len (S : List ByteArray) : ∀ k, (ddk S k).length ≤ k
  | 0 => Nat.le_refl _
  | k + 1 => by
    have := ddk_len S k
    simp only [ddk]
    split
    · simp; omega
    · omega
theorem nth_append_last (A : List ByteArray) (x : ByteArray) : nth (A ++ [x]) A.length = x := by
  unfold nth; simp
theorem nth_append_lt (A : List ByteArray) (x : ByteArray) {j : Nat} (h : j < A.length) : nth (A ++ [x]) j = nth A j := by
  unfold nth; simp [List.getD, List.getElem?_append_left h]
theorem ddk_inv {S : List ByteArray} (hs : ∀ i j, i ≤ j → j < S.length → cmpB (nth S i) (nth S j) ≤ 0) : ∀ k, k ≤ S.length →
    rises (ddk S k) ((ddk S k).length - 1) = true ∧ (∀ s, inL (ddk S k) s ↔ ∃ j, j < k ∧ nth S j = s) ∧ (0 < k → 0 < (ddk S k).length ∧ nth (ddk S k) ((ddk S k).length - 1) = nth S (k - 1)) := by
  intro k
  induction k with
  | zero =>
    intro _
    refine ⟨rfl, fun s => ⟨?_, ?_⟩, fun h => absurd h (Nat.lt_irrefl 0)⟩
    · rintro ⟨j, hj, _⟩; simp [ddk] at hj
    · rintro ⟨j, hj, _⟩; omega
  | succ k ih =>
    intro hk
    obtain ⟨h1, h2, h3⟩ := ih (by omega)
    simp only [ddk]
    by_cases hc : k = 0 ∨ nth S k ≠ nth S (k - 1)
    · rw [if_pos hc]
      refine ⟨?_, ?_, fun _ => ?_⟩
      · apply rises_of
        intro j hj
        simp only [List.length_append, List.length_singleton] at hj
        by_cases e : j + 1 = (ddk S k).length
        · rw [e, nth_append_last, nth_append_lt _ _ (by omega)]
          have k0 : 0 < k := by
            apply Nat.pos_of_ne_zero
            intro hz; subst hz; simp [ddk] at e
          have h4 := (h3 k0).2
          rw [show (ddk S k).length - 1 = j by omega] at h4
          rw [h4]
          have hle := hs (k - 1) k (by omega) (by omega)
          have hne : nth S k ≠ nth S (k - 1) := by
            rcases hc with hz | hne
            · omega
            · exact hne
          have : cmpB (nth S (k - 1)) (nth S k) ≠ 0 := fun e0 => hne ((cmp_zero _ _).1 e0).symm
          omega
        · rw [nth_append_lt _ _ (by omega), nth_append_lt _ _ (by omega)]
          exact rises_at h1 (by omega)
      · intro s
        rw [inL_mem, List.mem_append, List.mem_singleton, ← inL_mem, h2 s]
        constructor
        · rintro (⟨j, hj, e⟩ | e)
          · exact ⟨j, by omega, e⟩
          · exact ⟨k, by omega, e.symm⟩
        · rintro ⟨j, hj, e⟩
          by_cases ejk : j = k
          · right; rw [← e, ejk]
          · left; exact ⟨j, by omega, e⟩
      · refine ⟨by simp, ?_⟩
        rw [show (ddk S k ++ [nth S k]).length - 1 = (ddk S k).length by simp, nth_append_last, Nat.add_sub_cancel]
    · rw [if_neg hc]
      have hk0 : k ≠ 0 := fun e => hc (.inl e)
      have heq : nth S k = nth S (k - 1) := Classical.byContradiction fun e => hc (.inr e)
      refine ⟨h1, fun s => ?_, fun _ => ?_⟩
      · rw [h2 s]
        constructor
        · rintro ⟨j, hj, e⟩; exact ⟨j, by omega, e⟩
        · rintro ⟨j, hj, e⟩
          by_cases ejk : j = k
          · exact ⟨k - 1, by omega, by rw [← heq, ← ejk]; exact e⟩
          · exact ⟨j, by omega, e⟩
      · have := h3 (by omega)
        exact ⟨this.1, by rw [this.2, Nat.add_sub_cancel, heq]⟩
def leB (x y : ByteArray) : Bool := decide (cmpB x y ≤ 0)
def srt (L : List ByteArray) : List ByteArray := L.mergeSort leB
theorem leB_trans (a b c : ByteArray) (h1 : leB a b = true) (h2 : leB b c = true) : leB a c = true := by
  unfold leB at *
  simp only [decide_eq_true_eq] at *
  have := cmp_trans a b c h1 h2
  omega
theorem leB_total (a b : ByteArray) : (leB a b || leB b a) = true := by
  unfold leB
  have := cmp_swap a b
  simp only [Bool.or_eq_true, decide_eq_true_eq]
  omega
theorem srt_len (L : List ByteArray) : (srt L).length = L.length := List.length_mergeSort L
theorem srt_sorted (L : List ByteArray) : ∀ i j, i ≤ j → j < (srt L).length → cmpB (nth (srt L) i) (nth (srt L) j) ≤ 0 := by
  have h := List.pairwise_mergeSort leB_trans leB_total L
  intro i j hij hj
  by_cases e : i = j
  · subst e
    have := (cmp_zero (nth (srt L) i) (nth (srt L) i)).2 rfl
    omega
  · have := List.pairwise_iff_getElem.1 h i j (by unfold srt at hj; omega) hj (by omega)
    unfold leB at this
    simp only [decide_eq_true_eq] at this
    unfold nth
    rw [List.getD, List.getD, List.getElem?_eq_getElem (show i < (srt L).length by omega), List.getElem?_eq_getElem hj]
    exact this
def sortL (L : List ByteArray) : List ByteArray := ddk (srt L) (srt L).length
theorem sort_len (L : List ByteArray) : (sortL L).length ≤ L.length := by
  have := ddk_len (srt L) (srt L).length
  rw [srt_len] at this
  unfold sortL; rw [srt_len]; exact this
theorem sort_ok (L : List ByteArray) (h : L.length ≤ 4096) : chE (sortL L) = 0 := by
  have h1 := (ddk_inv (srt_sorted L) _ (Nat.le_refl _)).1
  have h2 := sort_len L
  unfold chE
  rw [if_neg (by omega)]
  unfold sortL
  rw [if_pos h1]
theorem sort_in (L : List ByteArray) (s : ByteArray) : inL (sortL L) s ↔ inL L s := by
  have h2 := (ddk_inv (srt_sorted L) _ (Nat.le_refl _)).2.1 s
  unfold sortL
  rw [h2]
  have : (∃ j, j < (srt L).length ∧ nth (srt L) j = s) ↔ inL (srt L) s := Iff.rfl
  rw [this, inL_mem, inL_mem]
  exact List.mem_mergeSort
theorem sort_uniq {L M : List ByteArray} (hL : L.length ≤ 4096) (hM : chE M = 0) (h : ∀ s, inL M s ↔ inL L s) : M = sortL L :=
  rises_uniq (chOk hM).2 (chOk (sort_ok L hL)).2 (fun s => (h s).trans (sort_in L s).symm)
theorem sort_idem (L : List ByteArray) (h : L.length ≤ 4096) : sortL (sortL L) = sortL L :=
  (sort_uniq (by have := sort_len L; omega) (sort_ok L h) (fun _ => Iff.rfl)).symm
end Go.Proofs.YtfigebepeniikaaGreat.Ord

import Derived.Test.YtolegmlfmlfbhaaDoorK5
/- Layer 31, ServeWrites: rows of texts, joined. -/
namespace Go.Proofs.YtolegmlfmlfbhaaDoor
open Go.RowKit
theorem infoS : ∃ i, Tryd.prog.info? 9 = some i ∧ i.zero = some (.string ⟨#[]⟩) ∧ i.size = 1 ∧ i.bytes = 16 := by
  have h := Tryd.typeInfo9 default
  unfold typeInfo at h
  cases hq : Tryd.prog.info? 9 with
  | none => simp [hq] at h
  | some i =>
    simp [hq] at h
    exact ⟨i, rfl, by rw [h]; rfl, by rw [h]; rfl, by rw [h]; rfl⟩
/-- A row of texts of the call's own. -/
def SO (B : Nat) (w : World) (v : Value) (L : List ByteArray) : Prop := w.ownsRow B 9 1 v L.length (L.map Value.string) ∧ B ≤ w.heap.size
theorem SO.nil (w : World) : SO w.heap.size w (.slice none 0 0) [] := ⟨World.ownsRow_nil _ _ _ _, Nat.le_refl _⟩
theorem SO.alloc {B : Nat} {w : World} {v : Value} {L : List ByteArray} (h : SO B w v L) (o : Obj) : SO B (w.alloc o) v L := ⟨h.1.alloc o, by simp; have := h.2; omega⟩
theorem SO.drew {B : Nat} {w : World} {v : Value} {L : List ByteArray} (h : SO B w v L) : SO B w.drew v L := ⟨h.1.drew, h.2⟩
theorem SO.up {B : Nat} {w w' : World} {v : Value} {L : List ByteArray} (h : SO B w v L) (hb : Below w.heap.size w w') : SO B w' v L := ⟨own_below h.1 hb, Nat.le_trans h.2 hb.size⟩
theorem SO.base {B C : Nat} {w : World} {v : Value} {L : List ByteArray} (h : SO B w v L) (hc : C ≤ B) : SO C w v L := by
  refine ⟨⟨h.1.1, ?_⟩, Nat.le_trans hc h.2⟩
  rcases h.1.2 with h1 | ⟨g, cap, cur, e, hg, rest⟩
  · exact .inl h1
  · exact .inr ⟨g, cap, cur, e, Nat.le_trans hc hg, rest⟩
theorem news_str {w : World} {b : Nat} {M : List ByteArray} (hb : w.heap[b]? = some (.cells (M.map Value.string).toArray 9)) : ∀ j u, (M.map Value.string)[j]? = some u → w.cell? ((⟨b, 0, none⟩ : Addr).add j) = some u := fun j u hj => by
  rw [Addr.add_lit]
  simp [World.cell?, hb]
  simpa using hj
theorem so_run {B : Nat} {w : World} {v : Value} {L M : List ByteArray} {b : Nat} (ty : TypeId) (hO : SO B w v L) (hb : w.heap[b]? = some (.cells (M.map Value.string).toArray 9)) (hL : L.length + M.length ≤ 1000000000) :
    ∃ v' w', (Builtin.append_ #[35, 35] ty #[v, .slice (some ⟨b, 0, none⟩) M.length M.length]).run Tryd.prog w = .ok v' w' ∧ SO B w' v' (L ++ M) ∧ w.grownBy w' v.ownBlock := by
  obtain ⟨i, h2, h3, h4, h5⟩ := infoS
  obtain ⟨v', w', hrun, r1, r2, _⟩ := run_append_own (P := Tryd.prog) (w := w) B 35 ty 9 i _ 1 16 Tryd.underlying35 h2 h3 h4 h5 rfl (by decide) v L.length (L.map Value.string) hO.1 ⟨b, 0, none⟩ M.length M.length (M.map Value.string) (by simp) (news_str hb) (by intro u hu; obtain ⟨x, _, rfl⟩ := List.mem_map.1 hu; rfl) (by unfold maxLen; omega) (by omega) hO.2
  refine ⟨v', w', hrun, ⟨?_, Nat.le_trans hO.2 r2.size⟩, r2⟩
  rw [List.length_append, List.map_append]; exact r1
theorem app_str {ops : Array Oper} {rest : List Oper} {o : Oper} {a : Act} {B : Nat} {w : World} {Q : Exit → Act → World → Prop} (hgd : o.guard = none) (s x : Operand)
    (ho : o.op = .call { callee := .builtin .append, args := #[s, x], argTypes := #[35, 35] }) (v : Value) (L M : List ByteArray) (b : Nat) (hs : a.eval s = v) (hx : a.eval x = .slice (some ⟨b, 0, none⟩) M.length M.length) (hO : SO B w v L) (hb : w.heap[b]? = some (.cells (M.map Value.string).toArray 9)) (hL : L.length + M.length ≤ 1000000000)
    (h : ∀ v' w', SO B w' v' (L ++ M) → w.grownBy w' v.ownBlock → wpList Tryd.prog ops Q rest (a.put o.dst v') w') : wpList Tryd.prog ops Q (o :: rest) a w := by
  obtain ⟨v', w', hrun, hB, hg⟩ := so_run o.type hO hb hL
  refine wpList_plain hgd fun K hK => ?_
  unfold Oper.wp
  simp [execOp, ho, resolve, invoke, builtin, hs, hx, hrun, Result.andThen]
  exact hK _ _ (h v' w' hB hg)
theorem step_str {ops : Array Oper} {o : Oper} {a : Act} {B : Nat} {w : World} {K : Act → World → Prop} {Q : Exit → Act → World → Prop} {E : Prop} (hgd : o.guard = none) (s x : Operand)
    (ho : o.op = .call { callee := .builtin .append, args := #[s, x], argTypes := #[35, 35] }) (v : Value) (L M : List ByteArray) (b : Nat) (hs : a.eval s = v) (hx : a.eval x = .slice (some ⟨b, 0, none⟩) M.length M.length) (hO : SO B w v L) (hb : w.heap[b]? = some (.cells (M.map Value.string).toArray 9)) (hL : L.length + M.length ≤ 1000000000)
    (hK : ∀ v' w', SO B w' v' (L ++ M) → w.grownBy w' v.ownBlock → K (a.put o.dst v') w') : if Region.wanted o (yielded ops a.tmps) = true then Oper.wp Tryd.prog o a w K Q else E := by
  have hw : Region.wanted o (yielded ops a.tmps) = true := by simp [Region.wanted, hgd]
  rw [if_pos hw]
  obtain ⟨v', w', hrun, hB, hg⟩ := so_run o.type hO hb hL
  unfold Oper.wp
  simp [execOp, ho, resolve, invoke, builtin, hs, hx, hrun, Result.andThen]
  exact hK v' w' hB hg
/-- What append did left all below the row's base. -/
theorem SO.below {B : Nat} {w w' : World} {v : Value} {L : List ByteArray} (h : SO B w v L) (hg : w.grownBy w' v.ownBlock) : Below B w w' :=
  (Below.refl B w).grown hg h.2 (fun k hk => by
    rcases h.1.2 with ⟨rfl, _⟩ | ⟨g, cap, cur, rfl, hg, _⟩
    · cases hk
    · simp only [Value.ownBlock, Option.some.injEq] at hk
      subst hk; exact hg)
/-- Texts joined by commas. -/
def jnT (L : List ByteArray) : ByteArray := ⟨(Lib.join (L.map (·.data.toList)) [44]).toArray⟩
theorem jnT_nil : jnT [] = ⟨#[]⟩ := rfl
theorem jnT_one (x : ByteArray) : jnT [x] = x := by
  unfold jnT
  rw [List.map_cons, List.map_nil, Lib.join_one]
theorem jnT_snoc (L : List ByteArray) (x : ByteArray) (h : L ≠ []) : jnT (L ++ [x]) = jnT L ++ ⟨#[44]⟩ ++ x := by
  cases L with
  | nil => exact absurd rfl h
  | cons y r =>
    apply ByteArray.ext
    apply Array.toList_inj.1
    unfold jnT
    rw [List.cons_append, List.map_cons, List.map_append, List.map_cons, List.map_nil, Lib.join_cons, List.map_cons, Lib.join_cons]
    simp [Lib.joinTail]
theorem jnT_cat (L : List ByteArray) (x : ByteArray) : jnT (L ++ [x]) = (if 0 < L.length then jnT L ++ ⟨#[44]⟩ else jnT L) ++ x := by
  by_cases h : L = []
  · subst h
    rw [List.nil_append, jnT_one]
    rw [if_neg (by simp), jnT_nil]
    apply ByteArray.ext
    simp
  · rw [jnT_snoc L x h, if_pos (List.length_pos_iff.2 h)]
theorem join_any {B : Nat} {v : Value} {L : List ByteArray} {w : World} (h : SO B w v L) (hn : L.length ≤ 1000000) (hl : (jnT L).size ≤ 1000000000000) :
    Calls Tryd.prog 10 #[v, .string ⟨#[44]⟩] w fun e w' => e = .returned (.string (jnT L)) ∧ Below w.heap.size w w' := by
  rcases h.1.2 with ⟨rfl, hz⟩ | ⟨g, cap, cur, rfl, hg, hc, h1, h2, h3, h4⟩
  · have e : L = [] := List.length_eq_zero_iff.1 hz
    subst e
    refine (Tryd.strings_Join_none none 0 _ w).mono ?_
    rintro e w' ⟨rfl, rfl⟩
    exact ⟨rfl, Below.refl _ _⟩
  · have hcell : ∀ (j : Nat) x, L[j]? = some x → w.cell? ⟨g, 0 + j, none⟩ = some (.string x) := fun j x hj => by
      have hlt : j < L.length := (List.getElem?_eq_some_iff.1 hj).1
      have e : cur.toList[j]? = some (.string x) := by
        have : (cur.toList.take (L.length * 1))[j]? = (L.map Value.string)[j]? := by rw [h4]
        rw [List.getElem?_take, if_pos (by omega)] at this
        rw [this, List.getElem?_map, hj]; rfl
      rw [Nat.zero_add]
      simp [World.cell?, hc]
      simpa using e
    refine (Tryd.strings_Join g 0 cap L ⟨#[44]⟩ w hcell (Array.getElem?_eq_some_iff.1 hc).1 (by omega) h1 ?_).mono ?_
    · have : (jnT L).size = (Lib.join (L.map (·.data.toList)) [44]).length := rfl
      show (Lib.join (L.map (·.data.toList)) [44]).length ≤ _
      omega
    · rintro e w' ⟨rfl, hb⟩
      exact ⟨rfl, hb⟩
end Go.Proofs.YtolegmlfmlfbhaaDoor
/- Layer 31, ServeWrites: the program's path. -/
namespace Go.Proofs.YtolegmlfmlfbhaaDoor
open Go.RowKit Go.Maps
def stone (x : StR) : ByteArray := if x.nm.toList = [] then itT x.ix else sqT x.nm
def stepsL (st : Nat → StR) : Nat → List ByteArray
  | 0 => []
  | k + 1 => stepsL st k ++ [stone (st k)]
theorem stepsL_len (st : Nat → StR) (k : Nat) : (stepsL st k).length = k := by
  induction k with
  | zero => rfl
  | succ k ih => unfold stepsL; rw [List.length_append, ih]; rfl
theorem stepsL_jn (st : Nat → StR) (k : Nat) : jnT (stepsL st k) = pthW st k := by
  induction k with
  | zero => rfl
  | succ k ih => unfold stepsL; rw [jnT_cat, stepsL_len, ih]; rfl
set_option maxRecDepth 20000 in
set_option maxHeartbeats 2000000 in
theorem spath_any (a : Option Addr) (n cap : Nat) (st : Nat → StR) (w : World) (t : Tabs w) (hs : SmS st n) (hn : n ≤ 1000) (h0 : 0 < n) (hv : StV w a n st) : Calls Tryd.prog 18 #[.slice a n cap] w fun e w' => e = .returned (.string (⟨#[91]⟩ ++ pthW st n ++ ⟨#[93]⟩)) ∧ Below w.heap.size w w' := by
  obtain ⟨b, off, rfl⟩ := hv.addr h0
  have HV := Lib.hid (fun V (k : Below w.heap.size w V) => hv.below k)
  have HT := Lib.hid (fun V (k : Below w.heap.size w V) => t.later k)
  have HS := Lib.hid hs
  have HSZ := Lib.hid (pthW_size (st := st) n hs)
  have HL := Lib.hid (fun k => stepsL_len st k)
  have HJ := Lib.hid (stepsL_jn st n)
  clear hv hs t
  go_enter Tryd.func18, Tryd.ntmps18
  go_wp2_with fail
  go_loopw [3, 5, 8] (fun v3 _ v8 wr => ∃ (i : Nat) (v : Value), i ≤ n ∧ v8 = .int .i64 i ∧ v = v3 ∧ Hid (SO w.heap.size wr v (stepsL st i)) ∧ Hid (Below w.heap.size w wr)) (fun _ _ v8 _ => n - (intOf v8).toNat)
  case atStart => exact ⟨0, _, Nat.zero_le _, rfl, rfl, Lib.hid (SO.nil w), Lib.hid (Below.refl _ _)⟩
  case round =>
    obtain ⟨i, v, hi, rfl, rfl, HO, HB⟩ := hrel
    by_cases hin : i < n
    · have hii : (i : Int) < n := by omega
      have hi0 : (0 : Int) ≤ i := by omega
      obtain ⟨_, d0, d1⟩ := (HV.out _ HB.out).at_ hin
      have hsm := HS.out i hin
      have HLi := Lib.hid (HL.out i)
      obtain ⟨X, hX⟩ : ∃ X, X = st i := ⟨_, rfl⟩
      have HN : Hid (stepsL st (i + 1) = stepsL st i ++ [stone X]) := Lib.hid (by rw [hX]; rfl)
      rw [← hX] at d0 d1 hsm
      clear hX
      obtain ⟨W, hW⟩ : ∃ W, W = wr.alloc (.cells #[.string X.nm, .int .i64 X.ix] 30) := ⟨_, rfl⟩
      have HW : Hid (Below w.heap.size w W) := Lib.hid (by rw [hW]; exact HB.out.alloc HB.out.size _)
      have HOW : Hid (SO w.heap.size W v (stepsL st i)) := Lib.hid (by rw [hW]; exact HO.out.alloc _)
      have HQ := Lib.hid (fun V => squote_any X.nm V (by omega))
      have HI := Lib.hid (fun V (k : Below w.heap.size w V) => swrite_any X.ix V (HT.out V k) hsm.2)
      by_cases he : X.nm.toList = []
      · have HE : Hid (stone X = itT X.ix) := Lib.hid (by unfold stone; rw [if_pos he])
        rw [HE.out] at HN
        obtain ⟨T, hT⟩ : ∃ T, T = itT X.ix := ⟨_, rfl⟩
        rw [← hT] at HN HI
        clear hT HE
        go_wp2_with fail
        rw [← hW]
        refine (HI.out _ HW.out).mono ?_
        rintro e w1 ⟨rfl, b1⟩
        have HB1 := Lib.hid (HW.out.trans (b1.mono HW.out.size))
        have HO1 := Lib.hid (HOW.out.up b1)
        clear b1
        go_wp2_with (at_builtin; refine app_str rfl (.tmp 15) (.tmp 19) rfl v (stepsL st i) [T] w1.heap.size (by simp [Act.eval, Act.put]) (by simp [Act.eval, Act.put]) (HO1.out.alloc _) (heap_alloc_new _ _) (by have := HLi.out; simp; omega) ?_; intro v2 w2 o2 g2; have B2 := Lib.hid ((HB1.out.alloc HB1.out.size _).trans ((HO1.out.alloc _).below g2)); rw [← HN.out] at o2; have O2 := Lib.hid o2; clear o2 g2)
        go_roundw
        case rel => exact ⟨i + 1, _, by omega, by go_num, rfl, O2, B2⟩
        case measure => (simp [intOf]; omega)
      · have HE : Hid (stone X = sqT X.nm) := Lib.hid (by unfold stone; rw [if_neg he])
        have he2 := List.isEmpty_eq_false_iff.2 he
        rw [HE.out] at HN
        obtain ⟨T, hT⟩ : ∃ T, T = sqT X.nm := ⟨_, rfl⟩
        rw [← hT] at HN HQ
        clear hT HE he
        go_wp2_with fail
        rw [← hW]
        refine (HQ.out _).mono ?_
        rintro e w1 ⟨rfl, b1⟩
        have HB1 := Lib.hid (HW.out.trans (b1.mono HW.out.size))
        have HO1 := Lib.hid (HOW.out.up b1)
        clear b1
        go_wp2_with (at_builtin; refine app_str rfl (.tmp 21) (.tmp 25) rfl v (stepsL st i) [T] w1.heap.size (by simp [Act.eval, Act.put]) (by simp [Act.eval, Act.put]) (HO1.out.alloc _) (heap_alloc_new _ _) (by have := HLi.out; simp; omega) ?_; intro v2 w2 o2 g2; have B2 := Lib.hid ((HB1.out.alloc HB1.out.size _).trans ((HO1.out.alloc _).below g2)); rw [← HN.out] at o2; have O2 := Lib.hid o2; clear o2 g2)
        go_roundw
        case rel => exact ⟨i + 1, _, by omega, by go_num, rfl, O2, B2⟩
        case measure => (simp [intOf]; omega)
    · have hie : i = n := by omega
      subst hie
      have hz : ¬ ((i : Int) < (i : Int)) := by omega
      have HC := Lib.hid (join_any HO.out (by have := HL.out i; omega) (by rw [HJ.out]; have := HSZ.out; omega))
      rw [HJ.out] at HC
      obtain ⟨P, hP⟩ : ∃ P, P = pthW st i := ⟨_, rfl⟩
      have hps := HSZ.out
      rw [← hP] at HC hps
      have HP := Lib.hid hP
      clear hP HJ HSZ
      have hl2 : ¬ 9223372036854775807 < 1 + P.size := by omega
      have hl3 : ¬ 9223372036854775807 < 1 + P.size + 1 := by omega
      clear hps
      go_wp2_with fail
      refine HC.out.mono ?_
      rintro e w1 ⟨rfl, b1⟩
      have HB1 := Lib.hid (HB.out.trans (b1.mono HB.out.size))
      clear b1
      go_wp2_with fail
      go_ret
      exact ⟨by rw [HP.out] <;> rfl, HB1.out⟩
end Go.Proofs.YtolegmlfmlfbhaaDoor
/- Layer 31, ServeWrites: an error's member put. -/
namespace Go.Proofs.YtolegmlfmlfbhaaDoor
open Go.RowKit Go.Maps
/-- The members: a row of texts in a box. -/
def MB (B b : Nat) (L : List ByteArray) (W : World) : Prop := B ≤ b ∧ ∃ v, W.heap[b]? = some (.cells #[v] 35) ∧ SO B W v L
theorem MB.up {B b : Nat} {L : List ByteArray} {w w' : World} (h : MB B b L w) (hb : Below w.heap.size w w') : MB B b L w' := by
  obtain ⟨h1, v, h2, h3⟩ := h
  exact ⟨h1, v, (hb.block b (Array.getElem?_eq_some_iff.1 h2).1).trans h2, h3.up hb⟩
theorem SO.own_ne {B : Nat} {w : World} {v : Value} {L : List ByteArray} {b : Nat} {c : Array Value} {z : Nat × Nat} (h : SO B w v L) (hb : w.heap[b]? = some (.cells c 35 z)) : ∀ k, v.ownBlock = some k → k ≠ b := fun k hk e => by
  subst e
  rcases h.1.2 with ⟨rfl, _⟩ | ⟨g, cap, cur, rfl, hg, hc, _⟩
  · cases hk
  · simp only [Value.ownBlock, Option.some.injEq] at hk
    subst hk
    rw [hb] at hc
    have := Option.some.inj hc
    simp at this
theorem MB.put {B b : Nat} {w : World} {v v' : Value} {L : List ByteArray} (hB : B ≤ b) (hb : w.heap[b]? = some (.cells #[v] 35)) (hS : SO B w v' L) : MB B b L (w.setCell ⟨b, 0, none⟩ v') := by
  refine ⟨hB, v', ?_, ?_, ?_⟩
  · unfold World.setCell
    simp only [Array.getElem?_modify, if_true, hb, Option.map_some]
    rfl
  · refine ⟨hS.1.1, ?_⟩
    have hne := hS.own_ne hb
    rcases hS.1.2 with h1 | ⟨g, cap, cur, e, hg, hc, rest⟩
    · exact .inl h1
    · have hgb : g ≠ b := hne g (by rw [e]; rfl)
      exact .inr ⟨g, cap, cur, e, hg, by rw [Below.heap_setCell _ _ _ _ hgb]; exact hc, rest⟩
  · have : (w.setCell ⟨b, 0, none⟩ v').heap.size = w.heap.size := by simp [World.setCell]
    rw [this]; exact hS.2
theorem grown_block {w w' : World} {row : Option Nat} (h : w.grownBy w' row) {b : Nat} {o : Obj} (hb : w.heap[b]? = some o) (hn : ∀ k, row = some k → k ≠ b) : w'.heap[b]? = some o := by
  rw [h.block b (Array.getElem?_eq_some_iff.1 hb).1 (fun e => hn b e.symm rfl)]
  exact hb
theorem SO.slice {B : Nat} {w : World} {v : Value} {L : List ByteArray} (h : SO B w v L) : ∃ ad c, v = .slice ad L.length c := by
  rcases h.1.2 with ⟨rfl, hn⟩ | ⟨g, cap, cur, rfl, _⟩
  · exact ⟨none, 0, by rw [hn]⟩
  · exact ⟨_, _, rfl⟩
theorem put_step {B b : Nat} {w1 w2 : World} {v : Value} {L : List ByteArray} {o : Obj} (hO : SO B w1 v L) (hb : w1.heap[b]? = some (.cells #[v] 35)) (g : (w1.alloc o).grownBy w2 v.ownBlock) : w2.heap[b]? = some (.cells #[v] 35) ∧ Below B w1 w2 := by
  have hlt := (Array.getElem?_eq_some_iff.1 hb).1
  have hb1 : (w1.alloc o).heap[b]? = some (.cells #[v] 35) := (Below.heap_alloc w1 o b hlt).trans hb
  have hb2 := (Below.refl B w1).alloc hO.2 o
  exact ⟨grown_block g hb1 ((hO.alloc o).own_ne hb1), hb2.trans ((hO.alloc o).below g)⟩
set_option maxRecDepth 20000 in
set_option maxHeartbeats 2000000 in
theorem sput_any (is : Bool) (n x : ByteArray) (B b : Nat) (L : List ByteArray) (w : World) (h : MB B b L w) (hn : n.size ≤ 3000) (hx : x.size ≤ 1000000000000) (hL : L.length ≤ 1000) :
    Calls Tryd.prog 15 #[.bool is, .string n, .string x, .pointer (some ⟨b, 0, none⟩)] w fun e w' => e = .returned (.tuple #[]) ∧ MB B b (if is = true then L ++ [memT n x] else L) w' ∧ Below B w w' := by
  have HM := Lib.hid (fun V => smember_any n x V hn hx)
  obtain ⟨T, hT⟩ : ∃ T, T = memT n x := ⟨_, rfl⟩
  rw [← hT] at HM ⊢
  clear hT
  cases is with
  | false =>
    have H := Lib.hid h
    clear h
    go_enter Tryd.func15, Tryd.ntmps15
    go_wp2_with fail
    go_end0
    exact ⟨rfl, H.out, Below.refl _ _⟩
  | true =>
    obtain ⟨hB, v, hb, hO⟩ := h
    have c0 : w.cell? ⟨b, 0, none⟩ = some v := by simp [World.cell?, hb]
    have HO := Lib.hid hO
    have HBB := Lib.hid hB
    have Hb := Lib.hid hb
    clear hO hB hb
    go_enter Tryd.func15, Tryd.ntmps15
    go_wp2_with fail
    go_region_law (first
      | (go_simp; refine (HM.out _).mono ?_; rintro e w1 ⟨rfl, b1⟩; have HO1 := Lib.hid (SO.up (w := w.drew) HO.out.drew b1); have Hb1 : Hid (w1.heap[b]? = some (.cells #[v] 35)) := Lib.hid ((b1.block b (Array.getElem?_eq_some_iff.1 Hb.out).1).trans Hb.out); have B1 : Hid (Below B w w1) := Lib.hid (((Below.refl B w).drew).trans (b1.mono (show B ≤ w.drew.heap.size from HO.out.2))); have c1 : w1.cell? ⟨b, 0, none⟩ = some v := (by simp [World.cell?, Hb1.out]); have c1a : ∀ o, (w1.alloc o).cell? ⟨b, 0, none⟩ = some v := (fun o => by simp [World.cell?, Below.heap_alloc w1 o b (Array.getElem?_eq_some_iff.1 Hb1.out).1, Hb1.out]); clear b1)
      | (refine step_str rfl (.tmp 8) (.tmp 12) rfl v L [T] w1.heap.size (by simp [Act.eval, Act.put]) (by simp [Act.eval, Act.put]) (HO1.out.alloc _) (heap_alloc_new _ _) (by simp; omega) ?_; intro v2 w2 o2 g2; obtain ⟨ad2, cp2, rfl⟩ := o2.slice; have HP2 := Lib.hid (put_step HO1.out Hb1.out g2); have O2 : Hid (SO B w2 (.slice ad2 (L.length + 1) cp2) (L ++ [T])) := Lib.hid (by simpa using o2); have c2 : w2.cell? ⟨b, 0, none⟩ = some v := (by simp [World.cell?, HP2.out.1]); have f2 : w2.frozen? ⟨b, 0, none⟩ = false := (by simp [World.frozen?, HP2.out.1]); clear o2 g2))
    all_goals
      go_wp2_with fail
      go_end0
      exact ⟨rfl, MB.put HBB.out HP2.out.1 O2.out, (B1.out.trans HP2.out.2).setCell (p := ⟨b, 0, none⟩) HBB.out _⟩
end Go.Proofs.YtolegmlfmlfbhaaDoor

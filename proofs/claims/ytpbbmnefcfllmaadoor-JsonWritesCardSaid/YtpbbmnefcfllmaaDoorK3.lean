import Derived.Test.YtpbbmnefcfllmaaDoorK2
import Derived.Maps.OwnSet
import Derived.Maps.AppendAt
import Derived.Laws.ResultCell
import Derived.Laws.EntriesVeiled
import Derived.StringKeys
import Derived.IntWalk
/- Layer 3: the array of the checks; the names that an object's members have had. -/
namespace Go.Proofs.YtpbbmnefcfllmaaDoor
open Go.RowKit Go.Maps Go.WideMaps
theorem infoRules : (Tryd.prog.info? 48).map (·.size) = some 8 := by
  have h := Tryd.typeInfo48 default
  unfold typeInfo at h
  cases hq : Tryd.prog.info? 48 with
  | none => simp [hq] at h
  | some i =>
    simp [hq] at h
    rw [h]; rfl
theorem ret_rules {R : Ending → World → Prop} {fn : Func} {tmps : Array Value} {w : World} {g : Nat} {cs : Array Value} (hr : fn.results = #[.cell 0 48]) (h2 : tmps.getD 0 undef = .pointer (some ⟨g, 0, none⟩)) (hg : w.heap[g]? = some (.cells cs 48)) (hs : cs.size = 8)
    (hR : R (.returned (.agg cs)) w) : bodyPost Tryd.prog fn R .ret ⟨tmps, []⟩ w := by
  refine bodyPost_ret (v := .agg cs) ?_ rfl hR
  exact results_cell_row hr tmps w g 48 cs (0, 0) _ h2 hg Tryd.underlying48 rfl (by rw [infoRules, hs])
set_option maxRecDepth 20000 in
theorem rules_any (w : World) : Calls Tryd.prog 21 #[] w fun e w' => e = .returned (.agg rulesA) ∧ Below w.heap.size w w' := by
  have HA := Lib.hid (heap_alloc_new w (.cells rulesA 48))
  unfold rulesA fo at HA ⊢
  go_enter Tryd.func21, Tryd.ntmps21
  go_wp2_with fail

  exact ret_rules Tryd.results21 rfl HA.out rfl ⟨rfl, (Below.refl _ w).alloc (Nat.le_refl _) _⟩
theorem law9 : Keyed Tryd.prog 9 := string_keyed Tryd.underlying9
theorem zeroU (w : World) : (zeroValue 59).run Tryd.prog w = .ok (.agg #[]) w := by kernel_rfl
def keyL (s : ByteArray) : Lit := .string s.data.toList
def setN (names : List ByteArray) : DataW Unit := setOf (.agg []) (names.reverse.map keyL)
theorem setN_cons (s : ByteArray) (names : List ByteArray) : setN (s :: names) = (setN names).put (keyL s) (.agg []) := by
  unfold setN
  rw [List.reverse_cons, List.map_append]
  exact setOf_snoc _ _ _
theorem has_setN (names : List ByteArray) (s : ByteArray) : Maps.has (setN names) (keyL s) = names.any (fun x => decide (x = s)) := by
  unfold setN
  rw [has_setOf _ _ _ (fun x hx => by obtain ⟨y, _, rfl⟩ := List.mem_map.1 hx; trivial)]
  rw [List.any_map, Bool.eq_iff_iff, List.any_eq_true, List.any_eq_true]
  have e : ∀ x : ByteArray, ((fun x => x.sameKey (keyL s)) ∘ keyL) x = decide (x = s) := fun x => by
    rw [Bool.eq_iff_iff, decide_eq_true_eq]
    show (x.data.toList == s.data.toList) = true ↔ _
    rw [beq_iff_eq, Array.toList_inj]
    exact ⟨fun h => ByteArray.ext h, fun h => by rw [h]⟩
  constructor
  · rintro ⟨x, hx, h⟩
    rw [e] at h
    exact ⟨x, List.mem_reverse.1 hx, h⟩
  · rintro ⟨x, hx, h⟩
    exact ⟨x, List.mem_reverse.2 hx, by rw [e]; exact h⟩
/-- A map that holds the names met. -/
def Met (w : World) (b n : Nat) (names : List ByteArray) : Prop := w.ownsMap Tryd.prog 9 (unitElem (H := Unit)) b n (setN names)
set_option maxRecDepth 20000 in
theorem named_item (m : Value) (s : ByteArray) (w : World) : Calls Tryd.prog 24 #[m, .int .u8 6, .string s] w fun e w' => e = .returned (.bool (namedP false [] s)) ∧ w' = w := by
  cases h : em s with
  | true =>
    have HB := Lib.hid (show namedP false [] s = true by unfold namedP; exact h)
    obtain ⟨r, hr⟩ : ∃ r, r = namedP false [] s := ⟨_, rfl⟩
    rw [← hr] at HB ⊢
    clear hr
    obtain rfl := em_yes h
    clear h
    go_enter Tryd.func24, Tryd.ntmps24
    go_wp2_with fail
    go_ret
    exact ⟨ret_bool HB.out.symm, rfl⟩
  | false =>
    have HB := Lib.hid (show namedP false [] s = false by unfold namedP; exact h)
    obtain ⟨r, hr⟩ : ∃ r, r = namedP false [] s := ⟨_, rfl⟩
    rw [← hr] at HB ⊢
    clear hr
    have g := em_no h
    clear h
    go_enter Tryd.func24, Tryd.ntmps24
    go_wp2_with fail
    go_ret
    exact ⟨ret_bool HB.out.symm, rfl⟩
set_option maxRecDepth 20000 in
set_option maxHeartbeats 1000000 in
theorem named_obj (b n : Nat) (names : List ByteArray) (s : ByteArray) (w : World) (hs : s.size ≤ maxLen) (hown : Met w b n names) (hn : n ≤ 1000000) :
    Calls Tryd.prog 24 #[.map (some b), .int .u8 7, .string s] w fun e w' => e = .returned (.bool (namedP true names s)) ∧ Met w' b (n + 1) (s :: names) ∧ w.grownBy w' (some b) := by
  obtain ⟨r, hr⟩ : ∃ r, r = namedP true names s := ⟨_, rfl⟩
  rw [← hr]
  have HK := Lib.hid (fun W => check_any s W hs)
  obtain ⟨z, hz⟩ : ∃ z, z = ckE s := ⟨_, rfl⟩
  rw [← hz] at HK
  have hkey : keyOf Tryd.prog 9 (.string s) = some (keyL s) := keyOf_string_mk Tryd.underlying9 hs
  have hh := has_setN names s
  obtain ⟨t, ht⟩ : ∃ t, t = names.any (fun x => decide (x = s)) := ⟨_, rfl⟩
  rw [← ht] at hh
  have HR : Hid (r = (!t && !em s && ckB s)) := Lib.hid (by rw [hr, ht]; rfl)
  have HZ : Hid (ckB s = decide (z = 0)) := Lib.hid (by unfold ckB; rw [hz])
  have HKEY := Lib.hid hkey
  have HH := Lib.hid hh
  have HOWN := Lib.hid hown
  clear hr hz hkey hh ht hown hs
  have base : ∀ W : World, W.ownsMap Tryd.prog 9 (unitElem (H := Unit)) b (n + 1) ((setN names).put (keyL s) (.agg [])) → Met W b (n + 1) (s :: names) := fun W h => by unfold Met; rw [setN_cons]; exact h
  have BASE := Lib.hid base
  clear base
  cases t with
  | true =>
    have HB := Lib.hid (show r = false by rw [HR.out]; rfl)
    clear HR HZ HK
    go_enter Tryd.func24, Tryd.ntmps24
    go_wp2_with (first
      | (at_lookup; refine wpList_lookup_own_unit _ rfl _ _ 51 rfl 9 59 law9 Tryd.underlying51 (zeroU _) b n _ rfl HOWN.out _ _ rfl HKEY.out ?_; rw [HH.out])
      | (at_mapUpdate; refine wpList_mapUpdate_own _ rfl _ _ _ 51 rfl 9 59 law9 Tryd.underlying51 (unitElem (H := Unit)) b n _ rfl (HOWN.out.alloc _) (by unfold maxLen; omega) _ _ _ rfl rfl HKEY.out _ [] unitElem_mk ?_; intro w1 hown1 hg1; have M1 := Lib.hid (BASE.out _ hown1); have G1 : Hid (w.grownBy w1 (some b)) := Lib.hid ((World.grownBy_alloc w _ _).trans hg1); clear hown1 hg1))
    go_ret
    exact ⟨ret_bool HB.out.symm, M1.out, G1.out⟩
  | false =>
    cases h : em s with
    | true =>
      have HB := Lib.hid (show r = false by rw [HR.out, h]; rfl)
      obtain rfl := em_yes h
      clear h HR HZ HK
      go_enter Tryd.func24, Tryd.ntmps24
      go_wp2_with (first
        | (at_lookup; refine wpList_lookup_own_unit _ rfl _ _ 51 rfl 9 59 law9 Tryd.underlying51 (zeroU _) b n _ rfl HOWN.out _ _ rfl HKEY.out ?_; rw [HH.out])
        | (at_mapUpdate; refine wpList_mapUpdate_own _ rfl _ _ _ 51 rfl 9 59 law9 Tryd.underlying51 (unitElem (H := Unit)) b n _ rfl (HOWN.out.alloc _) (by unfold maxLen; omega) _ _ _ rfl rfl HKEY.out _ [] unitElem_mk ?_; intro w1 hown1 hg1; have M1 := Lib.hid (BASE.out _ hown1); have G1 : Hid (w.grownBy w1 (some b)) := Lib.hid ((World.grownBy_alloc w _ _).trans hg1); clear hown1 hg1))
      go_ret
      exact ⟨ret_bool HB.out.symm, M1.out, G1.out⟩
    | false =>
      have g := em_no h
      have HB := Lib.hid (show r = decide (z = 0) by rw [HR.out, h, HZ.out]; simp)
      clear h HR HZ
      go_enter Tryd.func24, Tryd.ntmps24
      go_wp2_with (first
        | (at_lookup; refine wpList_lookup_own_unit _ rfl _ _ 51 rfl 9 59 law9 Tryd.underlying51 (zeroU _) b n _ rfl HOWN.out _ _ rfl HKEY.out ?_; rw [HH.out])
        | (at_mapUpdate; refine wpList_mapUpdate_own _ rfl _ _ _ 51 rfl 9 59 law9 Tryd.underlying51 (unitElem (H := Unit)) b n _ rfl (HOWN.out.alloc _) (by unfold maxLen; omega) _ _ _ rfl rfl HKEY.out _ [] unitElem_mk ?_; intro w1 hown1 hg1; have M1 := Lib.hid (BASE.out _ hown1); have G1 : Hid (w.grownBy w1 (some b)) := Lib.hid ((World.grownBy_alloc w _ _).trans hg1); clear hown1 hg1))
      with_reducible refine (HK.out w1).mono ?_
      rintro e w2 ⟨rfl, b2⟩
      have G2 : Hid (w1.grownBy w2 none) := Lib.hid ⟨b2.os, b2.tape, b2.output, b2.size, fun k hk _ => b2.block k hk⟩
      have M2 : Hid (Met w2 b (n + 1) (s :: names)) := Lib.hid (M1.out.kept G2.out (by simp))
      have G3 : Hid (w.grownBy w2 (some b)) := Lib.hid (G1.out.trans ⟨b2.os, b2.tape, b2.output, b2.size, fun k hk _ => b2.block k hk⟩)
      clear b2 M1 G1 HK
      by_cases hz : z = 0
      · subst hz
        go_wp2_with fail
        go_ret
        exact ⟨ret_bool HB.out.symm, M2.out, G3.out⟩
      · have gz : (z == 0) = false := by rw [beq_eq_false_iff_ne]; exact hz
        replace HB := Lib.hid (HB.out.trans (decide_eq_false hz))
        clear hz
        go_wp2_with fail
        go_ret
        exact ⟨ret_bool HB.out.symm, M2.out, G3.out⟩
end Go.Proofs.YtpbbmnefcfllmaaDoor
/- Layer 3: cells in memory; what the closure of Check finds. -/
namespace Go.Proofs.YtpbbmnefcfllmaaDoor
open Go.RowKit Go.Maps
/-- A row of cells reads so. -/
def CV (w : World) (a : Option Addr) (n : Nat) (g : Nat → CR) : Prop :=
  ∀ i, i < n → ∃ b off, a = some ⟨b, off, none⟩ ∧ b < w.heap.size ∧ w.cell? ⟨b, off + i * 5, none⟩ = some (.int .u8 (g i).k) ∧ w.cell? ⟨b, off + i * 5 + 1, none⟩ = some (.string (g i).nm) ∧ w.cell? ⟨b, off + i * 5 + 2, none⟩ = some (.string (g i).tx) ∧ w.cell? ⟨b, off + i * 5 + 3, none⟩ = some (.int .i64 (g i).n) ∧ w.cell? ⟨b, off + i * 5 + 4, none⟩ = some (.int .i64 (g i).m)
/-- How large they are. -/
def CW (n : Nat) (g : Nat → CR) : Prop := ∀ i, i < n → (g i).k < 256 ∧ (g i).nm.size ≤ maxLen ∧ (g i).tx.size ≤ 1000000 ∧ -9223372036854775808 ≤ (g i).m ∧ (g i).m ≤ 9223372036854775807
theorem CV.same {w w' : World} {a : Option Addr} {n : Nat} {g : Nat → CR} (h : CV w a n g) (hs : w.heap.size ≤ w'.heap.size) (hb : ∀ b off, a = some ⟨b, off, none⟩ → b < w.heap.size → w'.heap[b]? = w.heap[b]?) : CV w' a n g := fun i hi => by
  obtain ⟨b, off, e, h0, h1, h2, h3, h4, h5⟩ := h i hi
  have hh := hb b off e h0
  have c : ∀ o, w'.cell? ⟨b, o, none⟩ = w.cell? ⟨b, o, none⟩ := fun o => World.cell?_of_block hh
  exact ⟨b, off, e, by omega, by rw [c]; exact h1, by rw [c]; exact h2, by rw [c]; exact h3, by rw [c]; exact h4, by rw [c]; exact h5⟩
theorem CV.below {w w' : World} {a : Option Addr} {n : Nat} {g : Nat → CR} (h : CV w a n g) (hb : Below w.heap.size w w') : CV w' a n g :=
  h.same hb.size fun b _ _ hl => hb.block b hl
theorem World.grownBy.far {w w1 w2 : World} {p : Option Nat} {b : Nat} (h : w.grownBy w1 p) (k : w1.grownBy w2 (some b)) (hb : w.heap.size ≤ b) : w.grownBy w2 p :=
  ⟨k.os.trans h.os, k.tape.trans h.tape, k.output.trans h.output, Nat.le_trans h.size k.size, fun i hi hne => (k.block i (Nat.lt_of_lt_of_le hi h.size) (fun e => by cases e; omega)).trans (h.block i hi hne)⟩
theorem Below.grown' {w w1 w2 : World} {p : Option Nat} (h : w.grownBy w1 p) (k : Below w1.heap.size w1 w2) : w.grownBy w2 p :=
  ⟨k.os.trans h.os, k.tape.trans h.tape, k.output.trans h.output, Nat.le_trans h.size k.size, fun i hi hne => (k.block i (Nat.lt_of_lt_of_le hi h.size)).trans (h.block i hi hne)⟩
/-- What the closure has captured, but for where it is. -/
structure Env (W : World) (pa pv pr pw : Nat) (a : Option Addr) (n cap : Nat) (g : Nat → CR) : Prop where
  v : W.cell? ⟨pv, 0, none⟩ = some (.slice a n cap)
  rules : ∀ k, k < 8 → W.cell? ⟨pr, k, none⟩ = some (.func (.func (fo k)) #[] #[])
  walk : W.cell? ⟨pw, 0, none⟩ = some (.func (.func 22) #[] #[.pointer (some ⟨pa, 0, none⟩), .pointer (some ⟨pv, 0, none⟩), .pointer (some ⟨pr, 0, none⟩), .pointer (some ⟨pw, 0, none⟩)])
  cv : CV W a n g
  n1 : pv ≠ pa
  n2 : pr ≠ pa
  n3 : pw ≠ pa
  n4 : ∀ b off, a = some ⟨b, off, none⟩ → b ≠ pa
theorem Env.up {W W' : World} {pa pv pr pw : Nat} {a : Option Addr} {n cap : Nat} {g : Nat → CR} (h : Env W pa pv pr pw a n cap g) (k : W.grownBy W' (some pa)) : Env W' pa pv pr pw a n cap g :=
  have f : ∀ {q : Nat} {o : Nat} {x : Value}, q ≠ pa → W.cell? ⟨q, o, none⟩ = some x → W'.cell? ⟨q, o, none⟩ = some x := fun hq hx => k.cell hx (fun e => hq (by cases e; rfl))
  ⟨f h.n1 h.v, fun i hi => f h.n2 (h.rules i hi), f h.n3 h.walk, h.cv.same k.size (fun b off e hl => k.block b hl (fun q => h.n4 b off e (by cases q; rfl))), h.n1, h.n2, h.n3, h.n4⟩
/-- Where it is. -/
def At (W : World) (pa p : Nat) : Prop := W.heap[pa]? = some (.cells #[.int .i64 (p : Nat)] 3)
theorem At.c {W : World} {pa p : Nat} (h : At W pa p) : W.cell? ⟨pa, 0, none⟩ = some (.int .i64 (p : Nat)) := by simp [World.cell?, show W.heap[pa]? = _ from h]
theorem At.f {W : World} {pa p : Nat} (h : At W pa p) : W.frozen? ⟨pa, 0, none⟩ = false := by simp [World.frozen?, show W.heap[pa]? = _ from h]
theorem At.lt {W : World} {pa p : Nat} (h : At W pa p) : pa < W.heap.size := (Array.getElem?_eq_some_iff.1 h).1
theorem At.set {W : World} {pa p : Nat} (h : At W pa p) (q : Nat) : At (W.setCell ⟨pa, 0, none⟩ (.int .i64 (q : Nat))) pa q := by
  unfold At at h ⊢
  simp [World.setCell, Array.getElem?_modify, h]
theorem At.keep {W W' : World} {pa p : Nat} {row : Option Nat} (h : At W pa p) (k : W.grownBy W' row) (hne : some pa ≠ row) : At W' pa p := (k.block pa h.lt hne).trans h
theorem grown_set (W : World) (pa : Nat) (v : Value) : W.grownBy (W.setCell ⟨pa, 0, none⟩ v) (some pa) :=
  ⟨rfl, rfl, rfl, by simp [World.setCell], fun i _ hne => RowKit.Below.heap_setCell _ _ _ _ (fun e => hne (by rw [show i = pa from e]))⟩
theorem grown_drew {W W' : World} {row : Option Nat} (h : W.grownBy W' row) (d : Nat) : W.grownBy (W'.drewN d) row := ⟨h.os, h.tape, h.output, h.size, h.block⟩
theorem grown_drew1 {W W' : World} {row : Option Nat} (h : W.grownBy W' row) : W.grownBy W'.drew row := ⟨h.os, h.tape, h.output, h.size, h.block⟩
theorem grown_refl (W : World) (row : Option Nat) : W.grownBy W row := ⟨rfl, rfl, rfl, Nat.le_refl _, fun _ _ _ => rfl⟩
end Go.Proofs.YtpbbmnefcfllmaaDoor
/- Layer 3: the closure of Check: what ends it at once. -/
namespace Go.Proofs.YtpbbmnefcfllmaaDoor
open Go.RowKit Go.Maps
def WkPost (W : World) (pa : Nat) (res : Option Nat) (e : Ending) (W' : World) : Prop :=
  e = .returned (.bool res.isSome) ∧ W.grownBy W' (some pa) ∧ ∃ q, At W' pa q ∧ ∀ e', res = some e' → q = e'
/-- What holds while a cell's copy is looked at. -/
def FS (W : World) (pa p B pr fk : Nat) (c : CR) (w' : World) : Prop :=
  w'.cell? ⟨B, 0, none⟩ = some (.int .u8 c.k) ∧ w'.cell? ⟨B, 1, none⟩ = some (.string c.nm) ∧ w'.cell? ⟨B, 2, none⟩ = some (.string c.tx) ∧ w'.cell? ⟨B, 3, none⟩ = some (.int .i64 c.n) ∧ w'.cell? ⟨B, 4, none⟩ = some (.int .i64 c.m) ∧ w'.cell? ⟨pr, c.k, none⟩ = some (.func (.func fk) #[] #[]) ∧ W.grownBy w' (some pa) ∧ At w' pa p
theorem FS.up {W : World} {pa p B pr fk : Nat} {c : CR} {w w' : World} (h : FS W pa p B pr fk c w) (b : Below w.heap.size w w') : FS W pa p B pr fk c w' := by
  obtain ⟨h0, h1, h2, h3, h4, h5, h6, h7⟩ := h
  have f : ∀ {q o : Nat} {x : Value}, w.cell? ⟨q, o, none⟩ = some x → w'.cell? ⟨q, o, none⟩ = some x := fun hx => (b.cell (World.block_lt_of_cell? _ _ hx)).trans hx
  exact ⟨f h0, f h1, f h2, f h3, f h4, f h5, Below.grown' h6 b, (b.block pa h7.lt).trans h7⟩
theorem WkPost.no {W W' : World} {pa q : Nat} {res : Option Nat} {b : Bool} (hr : res = none) (hb : b = false) (hg : W.grownBy W' (some pa)) (ha : At W' pa q) : WkPost W pa res (.returned (.bool b)) W' := by
  subst hr hb; exact ⟨rfl, hg, q, ha, fun e' h => by cases h⟩
theorem WkPost.yes {W W' : World} {pa q : Nat} {res : Option Nat} {b : Bool} (hr : res = some q) (hb : b = true) (hg : W.grownBy W' (some pa)) (ha : At W' pa q) : WkPost W pa res (.returned (.bool b)) W' := by
  subst hr hb; exact ⟨rfl, hg, q, ha, fun e' h => by cases h; rfl⟩
theorem fo_call (k : Nat) (hk : k < 8) (args : Array Value) (w : World) : (callFunc (fo k) args).run Tryd.prog w = .ok (.enter (fo k) args) w := by
  rcases (by omega : k = 0 ∨ k = 1 ∨ k = 2 ∨ k = 3 ∨ k = 4 ∨ k = 5 ∨ k = 6 ∨ k = 7) with rfl | rfl | rfl | rfl | rfl | rfl | rfl | rfl <;> kernel_rfl
set_option maxRecDepth 20000 in
theorem walk_end (d : Int) (W : World) {pa pv pr pw : Nat} {a : Option Addr} {n cap : Nat} {g : Nat → CR} (E : Env W pa pv pr pw a n cap g) {p : Nat} (A : At W pa p) (hp : n ≤ p) (r : Nat) :
    Calls Tryd.prog 22 #[.int .i64 d, .pointer (some ⟨pa, 0, none⟩), .pointer (some ⟨pv, 0, none⟩), .pointer (some ⟨pr, 0, none⟩), .pointer (some ⟨pw, 0, none⟩)] W (WkPost W pa (wk g n r p)) := by
  have HR : Hid (wk g n r p = none) := Lib.hid (by cases r with
    | zero => rw [wk_z, if_pos hp]
    | succ r => rw [wk_s, if_pos hp])
  obtain ⟨res, hres⟩ : ∃ x, x = wk g n r p := ⟨_, rfl⟩
  rw [← hres] at HR ⊢
  clear hres
  have c0 := A.c
  have c1 := E.v
  have hp' : (n : Int) ≤ p := by omega
  have HA := Lib.hid A
  clear A E hp
  go_enter Tryd.func22, Tryd.ntmps22
  go_wp2_with fail
  go_ret
  exact WkPost.no HR.out rfl (grown_refl _ _) HA.out
set_option maxRecDepth 20000 in
set_option maxHeartbeats 1000000 in
theorem walk_bad8 (d : Int) (W : World) {pa pv pr pw : Nat} {a : Option Addr} {n cap : Nat} {g : Nat → CR} (E : Env W pa pv pr pw a n cap g) (hcw : CW n g) {p : Nat} (A : At W pa p) (hp : p < n) (hm : n ≤ 2048) (r : Nat) (h8 : 8 ≤ (g p).k) :
    Calls Tryd.prog 22 #[.int .i64 d, .pointer (some ⟨pa, 0, none⟩), .pointer (some ⟨pv, 0, none⟩), .pointer (some ⟨pr, 0, none⟩), .pointer (some ⟨pw, 0, none⟩)] W (WkPost W pa (wk g n r p)) := by
  have ho : oneP (g p) = false := by
    unfold oneP
    rw [if_neg (by omega), if_neg (by omega), if_neg (by omega), if_neg (by omega), if_neg (by omega), if_neg (by omega)]
  have HR : Hid (wk g n r p = none) := Lib.hid (by cases r with
    | zero => rw [wk_z, if_neg (by omega), ho]; rfl
    | succ r => rw [wk_s, if_neg (by omega), ho]; rfl)
  obtain ⟨res, hres⟩ : ∃ x, x = wk g n r p := ⟨_, rfl⟩
  rw [← hres] at HR ⊢
  clear hres ho
  have c0 := A.c
  have c1 := E.v
  obtain ⟨b, off, rfl, hb, k0, k1, k2, k3, k4⟩ := E.cv p hp
  have hk := (hcw p hp).1
  obtain ⟨c, hc⟩ : ∃ c, c = g p := ⟨_, rfl⟩
  rw [← hc] at k0 k1 k2 k3 k4 h8 hk
  clear hc
  have hp1 : (0 : Int) ≤ p := by omega
  have hp2 : (p : Int) < n := by omega
  have h8' : (8 : Int) ≤ (c.k : Int) := by omega
  have HA := Lib.hid A
  have hlt := A.lt
  clear A E hp h8
  go_enter Tryd.func22, Tryd.ntmps22
  go_wp2_with fail
  go_quiet (fail)
  go_wp2_with fail
  go_ret
  exact WkPost.no HR.out rfl (grown_drew (World.grownBy_alloc _ _ _) _) (HA.out.keep (row := none) (grown_drew (World.grownBy_alloc _ _ _) _) (by simp))
set_option maxRecDepth 20000 in
set_option maxHeartbeats 2000000 in
theorem walk_misfit (d : Int) (W : World) {pa pv pr pw : Nat} {a : Option Addr} {n cap : Nat} {g : Nat → CR} (E : Env W pa pv pr pw a n cap g) (hcw : CW n g) {p : Nat} (A : At W pa p) (hp : p < n) (hm : n ≤ 2048) (r : Nat) (h8 : (g p).k < 8) (ho : oneP (g p) = false) :
    Calls Tryd.prog 22 #[.int .i64 d, .pointer (some ⟨pa, 0, none⟩), .pointer (some ⟨pv, 0, none⟩), .pointer (some ⟨pr, 0, none⟩), .pointer (some ⟨pw, 0, none⟩)] W (WkPost W pa (wk g n r p)) := by
  have HR : Hid (wk g n r p = none) := Lib.hid (by cases r with
    | zero => rw [wk_z, if_neg (by omega), ho]; rfl
    | succ r => rw [wk_s, if_neg (by omega), ho]; rfl)
  obtain ⟨res, hres⟩ : ∃ x, x = wk g n r p := ⟨_, rfl⟩
  rw [← hres] at HR ⊢
  clear hres
  have c0 := A.c
  have c1 := E.v
  have hmm := (hcw p hp).2.2.2
  obtain ⟨b, off, rfl, hb, k0, k1, k2, k3, k4⟩ := E.cv p hp
  have HF := Lib.hid (fun W' => fit_any (g p) W' h8 (hcw p hp).2.2.1)
  rw [ho] at HF
  obtain ⟨c, hc⟩ : ∃ c, c = g p := ⟨_, rfl⟩
  rw [← hc] at k0 k1 k2 k3 k4 h8 HF hmm
  clear hc ho
  have r0 := E.rules c.k h8
  have hp1 : (0 : Int) ≤ p := by omega
  have hp2 : (p : Int) < n := by omega
  have hp3 : (n : Int) ≤ 2048 := by omega
  have h8a : (0 : Int) ≤ (c.k : Int) := by omega
  have h8b : (c.k : Int) < 8 := by omega
  have h8c : decide (8 ≤ c.k) = false := by simpa using h8
  have h8e : decide ((8 : Int) ≤ (c.k : Int)) = false := by simp; omega
  have h8w : IntKind.i64.wrap (c.k : Int) = (c.k : Int) := IntWalk.i64_in _ (by omega)
  have HA := Lib.hid A
  have HE := Lib.hid E
  have hlt := A.lt
  unfold cv at HF
  obtain ⟨fk, hfk⟩ : ∃ x, x = fo c.k := ⟨_, rfl⟩
  have hcall := fo_call c.k h8
  rw [← hfk] at r0 HF hcall
  have hn2 := E.n2
  have hprl := World.block_lt_of_cell? _ _ r0
  clear A E hp h8 hfk
  go_enter Tryd.func22, Tryd.ntmps22
  go_wp2_with fail
  obtain ⟨W1, hW1⟩ : ∃ x, x = W.alloc (.cells #[.int .u8 c.k, .string c.nm, .string c.tx, .int .i64 c.n, .int .i64 c.m] 33) := ⟨_, rfl⟩
  have G1 : Hid (W.grownBy W1 (some pa)) := Lib.hid (by rw [hW1]; exact World.grownBy_alloc _ _ _)
  have d0 : W1.cell? ⟨W.heap.size, 0, none⟩ = some (.int .u8 c.k) := by rw [hW1]; simp
  have d1 : W1.cell? ⟨W.heap.size, 1, none⟩ = some (.string c.nm) := by rw [hW1]; simp
  have d2 : W1.cell? ⟨W.heap.size, 2, none⟩ = some (.string c.tx) := by rw [hW1]; simp
  have d3 : W1.cell? ⟨W.heap.size, 3, none⟩ = some (.int .i64 c.n) := by rw [hW1]; simp
  have d4 : W1.cell? ⟨W.heap.size, 4, none⟩ = some (.int .i64 c.m) := by rw [hW1]; simp
  have r1 : W1.cell? ⟨pr, c.k, none⟩ = some (.func (.func fk) #[] #[]) := G1.out.cell r0 (fun e => hn2 (by cases e; rfl))
  have A1 := Lib.hid (HA.out.keep (row := none) (show W.grownBy W1 none by rw [hW1]; exact World.grownBy_alloc _ _ _) (by simp))
  rw [← hW1]
  clear hW1 c0 c1 k0 k1 k2 k3 k4 r0
  obtain ⟨B, hB⟩ : ∃ x, x = W.heap.size := ⟨_, rfl⟩
  rw [← hB] at d0 d1 d2 d3 d4 ⊢
  replace hB := Lib.hid hB
  have hSS : FS W pa p B pr fk c W1.drew := ⟨d0, d1, d2, d3, d4, r1, grown_drew1 G1.out, A1.out⟩
  have HC : Hid (∀ w', FS W pa p B pr fk c w' → Calls Tryd.prog fk #[.agg #[.int .u8 c.k, .string c.nm, .string c.tx, .int .i64 c.n, .int .i64 c.m]] w' fun e w2 => e = .returned (.bool false) ∧ FS W pa p B pr fk c w2) := Lib.hid (fun w' h => (HF.out w').mono fun e w2 ⟨h1, h2⟩ => ⟨h1, h.up h2⟩)
  clear HF G1 A1
  go_region_held3 (fun w' => w'.cell? ⟨B, 0, none⟩ = some (.int .u8 c.k) ∧ w'.cell? ⟨B, 1, none⟩ = some (.string c.nm) ∧ w'.cell? ⟨B, 2, none⟩ = some (.string c.tx) ∧ w'.cell? ⟨B, 3, none⟩ = some (.int .i64 c.n) ∧ w'.cell? ⟨B, 4, none⟩ = some (.int .i64 c.m) ∧ w'.cell? ⟨pr, c.k, none⟩ = some (.func (.func fk) #[] #[]) ∧ W.grownBy w' (some pa) ∧ At w' pa p)
    ((first | exact hSS | assumption))
    (first | ((with_reducible refine (HC.out _ (by assumption)).mono ?_); rintro e w' ⟨rfl, hS2⟩; unfold FS at hS2))
  rename_i hH
  clear hH
  clear d0 d1 d2 d3 d4 r1 hSS HC hcall h8w h8e h8c
  obtain ⟨d0, d1, d2, d3, d4, r1, G2, A2⟩ := hS2
  replace G2 := Lib.hid G2
  replace A2 := Lib.hid A2
  clear r1
  go_wp2_with fail
  go_ret
  exact WkPost.no HR.out rfl G2.out A2.out
set_option maxRecDepth 20000 in
set_option maxHeartbeats 2000000 in
theorem walk_leaf (d : Int) (W : World) {pa pv pr pw : Nat} {a : Option Addr} {n cap : Nat} {g : Nat → CR} (E : Env W pa pv pr pw a n cap g) (hcw : CW n g) {p : Nat} (A : At W pa p) (hp : p < n) (hm : n ≤ 2048) (r : Nat) (h8 : (g p).k < 8) (ho : oneP (g p) = true) (hhead : headP (g p) = false) :
    Calls Tryd.prog 22 #[.int .i64 d, .pointer (some ⟨pa, 0, none⟩), .pointer (some ⟨pv, 0, none⟩), .pointer (some ⟨pr, 0, none⟩), .pointer (some ⟨pw, 0, none⟩)] W (WkPost W pa (wk g n r p)) := by
  have HR : Hid (wk g n r p = some (p + 1)) := Lib.hid (by 
    have hh : headP (g p) = false := hhead
    cases r with
    | zero => rw [wk_z, if_neg (by omega), ho, hh]; rfl
    | succ r => rw [wk_s, if_neg (by omega), ho, hh]; rfl)
  obtain ⟨res, hres⟩ : ∃ x, x = wk g n r p := ⟨_, rfl⟩
  rw [← hres] at HR ⊢
  clear hres
  have c0 := A.c
  have c1 := E.v
  have hmm := (hcw p hp).2.2.2
  obtain ⟨b, off, rfl, hb, k0, k1, k2, k3, k4⟩ := E.cv p hp
  have HF := Lib.hid (fun W' => fit_any (g p) W' h8 (hcw p hp).2.2.1)
  rw [ho] at HF
  have HM := Lib.hid (fun W' => more_any (g p) W')
  rw [show (decide ((g p).k = 6) || decide ((g p).k = 7)) = false from hhead] at HM
  obtain ⟨c, hc⟩ : ∃ c, c = g p := ⟨_, rfl⟩
  rw [← hc] at k0 k1 k2 k3 k4 h8 HF hmm HM
  clear hc ho hhead
  have r0 := E.rules c.k h8
  have hp1 : (0 : Int) ≤ p := by omega
  have hp2 : (p : Int) < n := by omega
  have hp3 : (n : Int) ≤ 2048 := by omega
  have h8a : (0 : Int) ≤ (c.k : Int) := by omega
  have h8b : (c.k : Int) < 8 := by omega
  have h8c : decide (8 ≤ c.k) = false := by simpa using h8
  have h8e : decide ((8 : Int) ≤ (c.k : Int)) = false := by simp; omega
  have h8w : IntKind.i64.wrap (c.k : Int) = (c.k : Int) := IntWalk.i64_in _ (by omega)
  have HA := Lib.hid A
  have HE := Lib.hid E
  have hlt := A.lt
  unfold cv at HF HM
  obtain ⟨fk, hfk⟩ : ∃ x, x = fo c.k := ⟨_, rfl⟩
  have hcall := fo_call c.k h8
  rw [← hfk] at r0 HF hcall
  have hn2 := E.n2
  have hprl := World.block_lt_of_cell? _ _ r0
  clear A E hp h8 hfk
  go_enter Tryd.func22, Tryd.ntmps22
  go_wp2_with fail
  obtain ⟨W1, hW1⟩ : ∃ x, x = W.alloc (.cells #[.int .u8 c.k, .string c.nm, .string c.tx, .int .i64 c.n, .int .i64 c.m] 33) := ⟨_, rfl⟩
  have G1 : Hid (W.grownBy W1 (some pa)) := Lib.hid (by rw [hW1]; exact World.grownBy_alloc _ _ _)
  have d0 : W1.cell? ⟨W.heap.size, 0, none⟩ = some (.int .u8 c.k) := by rw [hW1]; simp
  have d1 : W1.cell? ⟨W.heap.size, 1, none⟩ = some (.string c.nm) := by rw [hW1]; simp
  have d2 : W1.cell? ⟨W.heap.size, 2, none⟩ = some (.string c.tx) := by rw [hW1]; simp
  have d3 : W1.cell? ⟨W.heap.size, 3, none⟩ = some (.int .i64 c.n) := by rw [hW1]; simp
  have d4 : W1.cell? ⟨W.heap.size, 4, none⟩ = some (.int .i64 c.m) := by rw [hW1]; simp
  have r1 : W1.cell? ⟨pr, c.k, none⟩ = some (.func (.func fk) #[] #[]) := G1.out.cell r0 (fun e => hn2 (by cases e; rfl))
  have A1 := Lib.hid (HA.out.keep (row := none) (show W.grownBy W1 none by rw [hW1]; exact World.grownBy_alloc _ _ _) (by simp))
  rw [← hW1]
  clear hW1 c0 c1 k0 k1 k2 k3 k4 r0
  obtain ⟨B, hB⟩ : ∃ x, x = W.heap.size := ⟨_, rfl⟩
  rw [← hB] at d0 d1 d2 d3 d4 ⊢
  replace hB := Lib.hid hB
  have hSS : FS W pa p B pr fk c W1.drew := ⟨d0, d1, d2, d3, d4, r1, grown_drew1 G1.out, A1.out⟩
  have HC : Hid (∀ w', FS W pa p B pr fk c w' → Calls Tryd.prog fk #[.agg #[.int .u8 c.k, .string c.nm, .string c.tx, .int .i64 c.n, .int .i64 c.m]] w' fun e w2 => e = .returned (.bool true) ∧ FS W pa p B pr fk c w2) := Lib.hid (fun w' h => (HF.out w').mono fun e w2 ⟨h1, h2⟩ => ⟨h1, h.up h2⟩)
  clear HF G1 A1
  go_region_held3 (fun w' => w'.cell? ⟨B, 0, none⟩ = some (.int .u8 c.k) ∧ w'.cell? ⟨B, 1, none⟩ = some (.string c.nm) ∧ w'.cell? ⟨B, 2, none⟩ = some (.string c.tx) ∧ w'.cell? ⟨B, 3, none⟩ = some (.int .i64 c.n) ∧ w'.cell? ⟨B, 4, none⟩ = some (.int .i64 c.m) ∧ w'.cell? ⟨pr, c.k, none⟩ = some (.func (.func fk) #[] #[]) ∧ W.grownBy w' (some pa) ∧ At w' pa p)
    ((first | exact hSS | assumption))
    (first | ((with_reducible refine (HC.out _ (by assumption)).mono ?_); rintro e w' ⟨rfl, hS2⟩; unfold FS at hS2))
  rename_i hH
  clear hH
  clear d0 d1 d2 d3 d4 r1 hSS HC hcall h8w h8e h8c
  obtain ⟨d0, d1, d2, d3, d4, r1, G2, A2⟩ := hS2
  have c2 := A2.c
  have f2 := A2.f
  replace G2 := Lib.hid G2
  replace A2 := Lib.hid A2
  clear r1
  have hpa : B ≠ pa := by rw [hB.out]; omega
  obtain ⟨W3, hW3⟩ : ∃ x, x = w'.setCell ⟨pa, 0, none⟩ (.int .i64 ((p : Int) + 1)) := ⟨_, rfl⟩
  have hS3 : Hid (At W3 pa (p + 1) ∧ W.grownBy W3 (some pa) ∧ w'.grownBy W3 (some pa)) := Lib.hid (by
    rw [hW3]
    have g := grown_set w' pa (.int .i64 ((p : Int) + 1))
    exact ⟨A2.out.set (p + 1), G2.out.trans g, g⟩)
  have e0 := hS3.out.2.2.cell d0 (fun e => hpa (by cases e; rfl))
  have e1 := hS3.out.2.2.cell d1 (fun e => hpa (by cases e; rfl))
  have e2 := hS3.out.2.2.cell d2 (fun e => hpa (by cases e; rfl))
  have e3 := hS3.out.2.2.cell d3 (fun e => hpa (by cases e; rfl))
  have e4 := hS3.out.2.2.cell d4 (fun e => hpa (by cases e; rfl))
  have HW3 := Lib.hid hW3
  rw [hW3] at e0 e1 e2 e3 e4
  clear hW3 d0 d1 d2 d3 d4 A2 G2 hpa
  go_wp2_with fail
  rw [← HW3.out] at e0 e1 e2 e3 e4 ⊢
  clear HW3 c2 f2
  with_reducible refine (HM.out W3).mono ?_
  rintro e w4 ⟨rfl, b4⟩
  have S4 : Hid (At w4 pa (p + 1) ∧ W.grownBy w4 (some pa) ∧ W3.heap.size ≤ w4.heap.size) := Lib.hid ⟨(b4.block pa hS3.out.1.lt).trans hS3.out.1, Below.grown' hS3.out.2.1 b4, b4.size⟩
  have q0 := (b4.cell (World.block_lt_of_cell? _ _ e0)).trans e0
  have q4 := (b4.cell (World.block_lt_of_cell? _ _ e4)).trans e4
  clear b4 e0 e1 e2 e3 e4 HM
  go_wp2_with fail
  go_ret
  exact WkPost.yes HR.out rfl S4.out.2.1 S4.out.1
set_option maxRecDepth 20000 in
set_option maxHeartbeats 2000000 in
theorem walk_deep (d : Int) (W : World) {pa pv pr pw : Nat} {a : Option Addr} {n cap : Nat} {g : Nat → CR} (E : Env W pa pv pr pw a n cap g) (hcw : CW n g) {p : Nat} (A : At W pa p) (hp : p < n) (hm : n ≤ 2048) (r : Nat) (h8 : (g p).k < 8) (ho : oneP (g p) = true) (hhead : headP (g p) = true) (hr : r = 0) (hd : d = 16) :
    Calls Tryd.prog 22 #[.int .i64 d, .pointer (some ⟨pa, 0, none⟩), .pointer (some ⟨pv, 0, none⟩), .pointer (some ⟨pr, 0, none⟩), .pointer (some ⟨pw, 0, none⟩)] W (WkPost W pa (wk g n r p)) := by
  have HR : Hid (wk g n r p = none) := Lib.hid (by 
    subst hr
    rw [wk_z, if_neg (by omega), ho, hhead]; rfl)
  obtain ⟨res, hres⟩ : ∃ x, x = wk g n r p := ⟨_, rfl⟩
  rw [← hres] at HR ⊢
  clear hres
  have c0 := A.c
  have c1 := E.v
  have hmm := (hcw p hp).2.2.2
  obtain ⟨b, off, rfl, hb, k0, k1, k2, k3, k4⟩ := E.cv p hp
  have HF := Lib.hid (fun W' => fit_any (g p) W' h8 (hcw p hp).2.2.1)
  rw [ho] at HF
  have HM := Lib.hid (fun W' => more_any (g p) W')
  rw [show (decide ((g p).k = 6) || decide ((g p).k = 7)) = true from hhead] at HM
  obtain ⟨c, hc⟩ : ∃ c, c = g p := ⟨_, rfl⟩
  rw [← hc] at k0 k1 k2 k3 k4 h8 HF hmm HM
  clear hc ho hhead hr
  subst hd
  have r0 := E.rules c.k h8
  have hp1 : (0 : Int) ≤ p := by omega
  have hp2 : (p : Int) < n := by omega
  have hp3 : (n : Int) ≤ 2048 := by omega
  have h8a : (0 : Int) ≤ (c.k : Int) := by omega
  have h8b : (c.k : Int) < 8 := by omega
  have h8c : decide (8 ≤ c.k) = false := by simpa using h8
  have h8e : decide ((8 : Int) ≤ (c.k : Int)) = false := by simp; omega
  have h8w : IntKind.i64.wrap (c.k : Int) = (c.k : Int) := IntWalk.i64_in _ (by omega)
  have HA := Lib.hid A
  have HE := Lib.hid E
  have hlt := A.lt
  unfold cv at HF HM
  obtain ⟨fk, hfk⟩ : ∃ x, x = fo c.k := ⟨_, rfl⟩
  have hcall := fo_call c.k h8
  rw [← hfk] at r0 HF hcall
  have hn2 := E.n2
  have hprl := World.block_lt_of_cell? _ _ r0
  clear A E hp h8 hfk
  go_enter Tryd.func22, Tryd.ntmps22
  go_wp2_with fail
  obtain ⟨W1, hW1⟩ : ∃ x, x = W.alloc (.cells #[.int .u8 c.k, .string c.nm, .string c.tx, .int .i64 c.n, .int .i64 c.m] 33) := ⟨_, rfl⟩
  have G1 : Hid (W.grownBy W1 (some pa)) := Lib.hid (by rw [hW1]; exact World.grownBy_alloc _ _ _)
  have d0 : W1.cell? ⟨W.heap.size, 0, none⟩ = some (.int .u8 c.k) := by rw [hW1]; simp
  have d1 : W1.cell? ⟨W.heap.size, 1, none⟩ = some (.string c.nm) := by rw [hW1]; simp
  have d2 : W1.cell? ⟨W.heap.size, 2, none⟩ = some (.string c.tx) := by rw [hW1]; simp
  have d3 : W1.cell? ⟨W.heap.size, 3, none⟩ = some (.int .i64 c.n) := by rw [hW1]; simp
  have d4 : W1.cell? ⟨W.heap.size, 4, none⟩ = some (.int .i64 c.m) := by rw [hW1]; simp
  have r1 : W1.cell? ⟨pr, c.k, none⟩ = some (.func (.func fk) #[] #[]) := G1.out.cell r0 (fun e => hn2 (by cases e; rfl))
  have A1 := Lib.hid (HA.out.keep (row := none) (show W.grownBy W1 none by rw [hW1]; exact World.grownBy_alloc _ _ _) (by simp))
  rw [← hW1]
  clear hW1 c0 c1 k0 k1 k2 k3 k4 r0
  obtain ⟨B, hB⟩ : ∃ x, x = W.heap.size := ⟨_, rfl⟩
  rw [← hB] at d0 d1 d2 d3 d4 ⊢
  replace hB := Lib.hid hB
  have hSS : FS W pa p B pr fk c W1.drew := ⟨d0, d1, d2, d3, d4, r1, grown_drew1 G1.out, A1.out⟩
  have HC : Hid (∀ w', FS W pa p B pr fk c w' → Calls Tryd.prog fk #[.agg #[.int .u8 c.k, .string c.nm, .string c.tx, .int .i64 c.n, .int .i64 c.m]] w' fun e w2 => e = .returned (.bool true) ∧ FS W pa p B pr fk c w2) := Lib.hid (fun w' h => (HF.out w').mono fun e w2 ⟨h1, h2⟩ => ⟨h1, h.up h2⟩)
  clear HF G1 A1
  go_region_held3 (fun w' => w'.cell? ⟨B, 0, none⟩ = some (.int .u8 c.k) ∧ w'.cell? ⟨B, 1, none⟩ = some (.string c.nm) ∧ w'.cell? ⟨B, 2, none⟩ = some (.string c.tx) ∧ w'.cell? ⟨B, 3, none⟩ = some (.int .i64 c.n) ∧ w'.cell? ⟨B, 4, none⟩ = some (.int .i64 c.m) ∧ w'.cell? ⟨pr, c.k, none⟩ = some (.func (.func fk) #[] #[]) ∧ W.grownBy w' (some pa) ∧ At w' pa p)
    ((first | exact hSS | assumption))
    (first | ((with_reducible refine (HC.out _ (by assumption)).mono ?_); rintro e w' ⟨rfl, hS2⟩; unfold FS at hS2))
  rename_i hH
  clear hH
  clear d0 d1 d2 d3 d4 r1 hSS HC hcall h8w h8e h8c
  obtain ⟨d0, d1, d2, d3, d4, r1, G2, A2⟩ := hS2
  have c2 := A2.c
  have f2 := A2.f
  replace G2 := Lib.hid G2
  replace A2 := Lib.hid A2
  clear r1
  have hpa : B ≠ pa := by rw [hB.out]; omega
  obtain ⟨W3, hW3⟩ : ∃ x, x = w'.setCell ⟨pa, 0, none⟩ (.int .i64 ((p : Int) + 1)) := ⟨_, rfl⟩
  have hS3 : Hid (At W3 pa (p + 1) ∧ W.grownBy W3 (some pa) ∧ w'.grownBy W3 (some pa)) := Lib.hid (by
    rw [hW3]
    have g := grown_set w' pa (.int .i64 ((p : Int) + 1))
    exact ⟨A2.out.set (p + 1), G2.out.trans g, g⟩)
  have e0 := hS3.out.2.2.cell d0 (fun e => hpa (by cases e; rfl))
  have e1 := hS3.out.2.2.cell d1 (fun e => hpa (by cases e; rfl))
  have e2 := hS3.out.2.2.cell d2 (fun e => hpa (by cases e; rfl))
  have e3 := hS3.out.2.2.cell d3 (fun e => hpa (by cases e; rfl))
  have e4 := hS3.out.2.2.cell d4 (fun e => hpa (by cases e; rfl))
  have HW3 := Lib.hid hW3
  rw [hW3] at e0 e1 e2 e3 e4
  clear hW3 d0 d1 d2 d3 d4 A2 G2 hpa
  go_wp2_with fail
  rw [← HW3.out] at e0 e1 e2 e3 e4 ⊢
  clear HW3 c2 f2
  with_reducible refine (HM.out W3).mono ?_
  rintro e w4 ⟨rfl, b4⟩
  have S4 : Hid (At w4 pa (p + 1) ∧ W.grownBy w4 (some pa) ∧ W3.heap.size ≤ w4.heap.size) := Lib.hid ⟨(b4.block pa hS3.out.1.lt).trans hS3.out.1, Below.grown' hS3.out.2.1 b4, b4.size⟩
  have q0 := (b4.cell (World.block_lt_of_cell? _ _ e0)).trans e0
  have q4 := (b4.cell (World.block_lt_of_cell? _ _ e4)).trans e4
  clear b4 e0 e1 e2 e3 e4 HM
  go_wp2_with fail
  go_ret
  exact WkPost.no HR.out rfl S4.out.2.1 S4.out.1
end Go.Proofs.YtpbbmnefcfllmaaDoor

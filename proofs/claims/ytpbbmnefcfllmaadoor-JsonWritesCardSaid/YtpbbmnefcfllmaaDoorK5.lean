import Derived.Test.YtpbbmnefcfllmaaDoorK4
import Derived.Deep.LoopGhost
import Derived.OwnWalk
import Derived.ArgAppend
import Derived.Laws.StructEq
import Derived.Laws.AppendOwnNone
/- Layer 3: Check, whole. -/
namespace Go.Proofs.YtpbbmnefcfllmaaDoor
open Go.RowKit Go.Maps
theorem env_of (w1 : World) (pv : Nat) (a : Option Addr) (n cap : Nat) (g : Nat → CR) (hv : w1.cell? ⟨pv, 0, none⟩ = some (.slice a n cap)) (hcv : CV w1 a n g) (ha : ∀ b off, a = some ⟨b, off, none⟩ → b < w1.heap.size) :
    Env (((w1.alloc (.cells rulesA 48)).alloc (.cells #[.int .i64 0] 3)).alloc (.cells #[.func (.func 22) #[] #[.pointer (some ⟨w1.heap.size + 1, 0, none⟩), .pointer (some ⟨pv, 0, none⟩), .pointer (some ⟨w1.heap.size, 0, none⟩), .pointer (some ⟨w1.heap.size + 1 + 1, 0, none⟩)]] 50)) (w1.heap.size + 1) pv w1.heap.size (w1.heap.size + 1 + 1) a n cap g ∧
    At (((w1.alloc (.cells rulesA 48)).alloc (.cells #[.int .i64 0] 3)).alloc (.cells #[.func (.func 22) #[] #[.pointer (some ⟨w1.heap.size + 1, 0, none⟩), .pointer (some ⟨pv, 0, none⟩), .pointer (some ⟨w1.heap.size, 0, none⟩), .pointer (some ⟨w1.heap.size + 1 + 1, 0, none⟩)]] 50)) (w1.heap.size + 1) 0 := by
  have hpv := World.block_lt_of_cell? _ _ hv
  have hpv' : pv < w1.heap.size := hpv
  refine ⟨⟨?_, ?_, ?_, ?_, by omega, by omega, by omega, fun b off e => by have := ha b off e; omega⟩, ?_⟩
  · have b3 : Below w1.heap.size w1 (((w1.alloc (.cells rulesA 48)).alloc (.cells #[.int .i64 0] 3)).alloc (.cells #[.func (.func 22) #[] #[.pointer (some ⟨w1.heap.size + 1, 0, none⟩), .pointer (some ⟨pv, 0, none⟩), .pointer (some ⟨w1.heap.size, 0, none⟩), .pointer (some ⟨w1.heap.size + 1 + 1, 0, none⟩)]] 50)) := (((Below.refl _ _).alloc (Nat.le_refl _) _).alloc (by simp) _).alloc (by simp; omega) _
    rw [b3.cell (p := ⟨pv, 0, none⟩) hpv]; exact hv
  · intro k hk
    rcases (by omega : k = 0 ∨ k = 1 ∨ k = 2 ∨ k = 3 ∨ k = 4 ∨ k = 5 ∨ k = 6 ∨ k = 7) with rfl | rfl | rfl | rfl | rfl | rfl | rfl | rfl
    all_goals
      refine ((World.grownBy_alloc (w1.alloc (.cells rulesA 48)) (.cells #[.int .i64 0] 3) none).trans (World.grownBy_alloc _ _ none)).cell (a := ⟨w1.heap.size, _, none⟩) ?_ (by simp)
      simp [rulesA]
  · have h1 := heap_alloc_new ((w1.alloc (.cells rulesA 48)).alloc (.cells #[.int .i64 0] 3)) (.cells #[.func (.func 22) #[] #[.pointer (some ⟨w1.heap.size + 1, 0, none⟩), .pointer (some ⟨pv, 0, none⟩), .pointer (some ⟨w1.heap.size, 0, none⟩), .pointer (some ⟨w1.heap.size + 1 + 1, 0, none⟩)]] 50)
    rw [show ((w1.alloc (.cells rulesA 48)).alloc (.cells #[.int .i64 0] 3)).heap.size = w1.heap.size + 1 + 1 by simp] at h1
    unfold World.cell?
    rw [h1]
    rfl
  · exact hcv.below ((((Below.refl _ _).alloc (Nat.le_refl _) _).alloc (by simp) _).alloc (by simp; omega) _)
  · unfold At
    have h1 := heap_alloc_new (w1.alloc (.cells rulesA 48)) (.cells #[.int .i64 0] 3)
    have h2 : (w1.alloc (.cells rulesA 48)).heap.size = w1.heap.size + 1 := by simp
    rw [h2] at h1
    rw [(World.grownBy_alloc _ _ none).block _ (by simp) (by simp)]
    exact h1
set_option maxRecDepth 20000 in
set_option maxHeartbeats 1000000 in
theorem check_main (a : Option Addr) (n cap : Nat) (g : Nat → CR) (w : World) (hv : CV w a n g) (hcw : CW n g) (h0 : 0 < n) (hn : n ≤ 2048) (he : em (g 0).nm = true) : Calls Tryd.prog 13 #[.slice a n cap] w fun e w' => e = .returned (.int .i64 (eC (decide (wk g n 16 0 = some n)))) ∧ Below w.heap.size w w' := by
  have h1 : ¬ (2048 : Int) < (n : Int) := by omega
  have h2 : ((n : Int) == 0) = false := by rw [beq_eq_false_iff_ne]; omega
  have h3 : (0 : Int) < n := by omega
  have HV := Lib.hid hv
  obtain ⟨b, off, rfl, hb, _, c1, _, _, _⟩ := hv 0 h0
  rw [em_yes he, Nat.zero_mul, Nat.add_zero] at c1
  have HC := Lib.hid (fun pa pv pr pw W => cwalk_any (pa := pa) (pv := pv) (pr := pr) (pw := pw) (a := some ⟨b, off, none⟩) (cap := cap) hcw hn 16 0 (by decide) (by decide) 0 W)
  obtain ⟨res, hres⟩ : ∃ x, x = wk g n 16 0 := ⟨_, rfl⟩
  rw [← hres] at HC ⊢
  clear hres he
  obtain ⟨z, hz⟩ : ∃ z, z = eC (decide (res = some n)) := ⟨_, rfl⟩
  rw [← hz]
  replace hz := Lib.hid hz
  have hmf : ∀ (fn : Fn) (first cap : Array Value) (w : World), (Instr.makeFunc fn first cap).run Tryd.prog w = .ok (.func fn first cap) w := fun _ _ _ _ => rfl
  go_enter Tryd.func13, Tryd.ntmps13
  go_wp2_with fail
  with_reducible refine (rules_any _).mono ?_
  rintro e w1 ⟨rfl, b1⟩
  have B1 := Lib.hid (((Below.refl w.heap.size w).alloc (Nat.le_refl _) (.cells #[.slice (some ⟨b, off, none⟩) n cap] 22)).trans (b1.mono (by simp)))
  have v1 : w1.cell? ⟨w.heap.size, 0, none⟩ = some (.slice (some ⟨b, off, none⟩) n cap) := by rw [b1.cell (p := ⟨w.heap.size, 0, none⟩) (by simp)]; simp
  clear b1
  unfold rulesA
  go_wp2_with fail
  have HE := Lib.hid (env_of w1 w.heap.size (some ⟨b, off, none⟩) n cap g v1 (HV.out.same B1.out.size (fun b' off' e hl => B1.out.block b' hl)) (fun b' off' e => by cases e; have := B1.out.size; omega))
  have HL := Lib.hid (show w.heap.size < w1.heap.size from World.block_lt_of_cell? _ _ v1)
  unfold rulesA at HE
  have BX : Hid (Below w.heap.size w (((w1.alloc (.cells #[.func (.func (fo 0)) #[] #[], .func (.func (fo 1)) #[] #[], .func (.func (fo 2)) #[] #[], .func (.func (fo 3)) #[] #[], .func (.func (fo 4)) #[] #[], .func (.func (fo 5)) #[] #[], .func (.func (fo 6)) #[] #[], .func (.func (fo 7)) #[] #[]] 48)).alloc (.cells #[.int .i64 0] 3)).alloc (.cells #[.func (.func 22) #[] #[.pointer (some ⟨w1.heap.size + 1, 0, none⟩), .pointer (some ⟨w.heap.size, 0, none⟩), .pointer (some ⟨w1.heap.size, 0, none⟩), .pointer (some ⟨w1.heap.size + 1 + 1, 0, none⟩)]] 50))) := Lib.hid (((B1.out.alloc B1.out.size _).alloc (by have := B1.out.size; simp; omega) _).alloc (by have := B1.out.size; simp; omega) _)
  clear HV hcw v1 hmf B1 hv
  obtain ⟨X, hX⟩ : ∃ x, x = ((w1.alloc (.cells #[.func (.func (fo 0)) #[] #[], .func (.func (fo 1)) #[] #[], .func (.func (fo 2)) #[] #[], .func (.func (fo 3)) #[] #[], .func (.func (fo 4)) #[] #[], .func (.func (fo 5)) #[] #[], .func (.func (fo 6)) #[] #[], .func (.func (fo 7)) #[] #[]] 48)).alloc (.cells #[.int .i64 0] 3)).alloc (.cells #[.func (.func 22) #[] #[.pointer (some ⟨w1.heap.size + 1, 0, none⟩), .pointer (some ⟨w.heap.size, 0, none⟩), .pointer (some ⟨w1.heap.size, 0, none⟩), .pointer (some ⟨w1.heap.size + 1 + 1, 0, none⟩)]] 50) := ⟨_, rfl⟩
  rw [← hX] at HE BX ⊢
  clear hX
  have K := HC.out _ _ _ _ X HE.out.1 HE.out.2 (Nat.zero_le _)
  with_reducible refine K.mono ?_
  rintro e w2 ⟨rfl, g2, q, A2, hq⟩
  have c2 := A2.c
  have c3 := (HE.out.1.up g2).v
  have B2 : Hid (Below w.heap.size w w2) := Lib.hid (BX.out.trans ⟨g2.os, g2.tape, g2.output, g2.size, fun k hk => g2.block k (Nat.lt_of_lt_of_le hk BX.out.size) (fun e => by cases e; have := HL.out; omega)⟩)
  replace HE := trivial
  cases res with
  | none =>
    have hv' : Hid (z = 8) := Lib.hid (by rw [hz.out]; simp [eC])
    clear hq g2 A2 K hz HC BX
    rw [show (none : Option Nat).isSome = false from rfl]
    go_wp2_with fail
    go_ret
    exact ⟨ret_int hv'.out.symm, B2.out⟩
  | some e1 =>
    obtain rfl := hq e1 rfl
    rw [show (some q : Option Nat).isSome = true from rfl]
    by_cases hqn : q = n
    · have hv' : Hid (z = 0) := Lib.hid (by rw [hz.out, hqn]; simp [eC])
      have g1 : ((q : Int) != (n : Int)) = false := by rw [hqn]; simp
      subst hqn
      clear hq g2 A2 K hz HC BX
      go_wp2_with fail
      go_ret
      exact ⟨ret_int hv'.out.symm, B2.out⟩
    · have hv' : Hid (z = 8) := Lib.hid (by rw [hz.out]; simp [eC, hqn])
      have g1 : ((q : Int) != (n : Int)) = true := by simp; omega
      clear hq g2 A2 K hz HC BX
      go_wp2_with fail
      go_ret
      exact ⟨ret_int hv'.out.symm, B2.out⟩
theorem cCheck_any (a : Option Addr) (n cap : Nat) (g : Nat → CR) (w : World) (hv : CV w a n g) (hcw : CW n g) : Calls Tryd.prog 13 #[.slice a n cap] w fun e w' => e = .returned (.int .i64 (eC (ckC g n))) ∧ Below w.heap.size w w' := by
  by_cases h0 : n = 0
  · subst h0
    rw [show eC (ckC g 0) = 8 from rfl]
    exact check_zero a cap w
  · by_cases hn : 2048 < n
    · have : ckC g n = false := by unfold ckC; rw [decide_eq_false (show ¬ n ≤ 2048 by omega)]; simp
      rw [this]
      exact check_great a n cap w hn
    · cases he : em (g 0).nm with
      | false =>
        have : ckC g n = false := by unfold ckC; rw [he]; simp
        rw [this]
        exact check_named a n cap g w hv (by omega) (by omega) he
      | true =>
        have : ckC g n = decide (wk g n 16 0 = some n) := by unfold ckC; rw [he, decide_eq_true (show 0 < n by omega), decide_eq_true (show n ≤ 2048 by omega)]; simp
        rw [this]
        exact check_main a n cap g w hv hcw (by omega) (by omega) he
end Go.Proofs.YtpbbmnefcfllmaaDoor
/- Layer 3: skip, place, End. -/
namespace Go.Proofs.YtpbbmnefcfllmaaDoor
open Go.RowKit Go.Maps
theorem CV.at_ {w : World} {b off n : Nat} {g : Nat → CR} (h : CV w (some ⟨b, off, none⟩) n g) {i : Nat} (hi : i < n) : b < w.heap.size ∧ w.cell? ⟨b, off + i * 5, none⟩ = some (.int .u8 (g i).k) ∧ w.cell? ⟨b, off + i * 5 + 1, none⟩ = some (.string (g i).nm) ∧ w.cell? ⟨b, off + i * 5 + 2, none⟩ = some (.string (g i).tx) ∧ w.cell? ⟨b, off + i * 5 + 3, none⟩ = some (.int .i64 (g i).n) ∧ w.cell? ⟨b, off + i * 5 + 4, none⟩ = some (.int .i64 (g i).m) := by
  obtain ⟨b', off', e, k⟩ := h i hi
  cases e
  exact k
theorem CV.addr {w : World} {a : Option Addr} {n : Nat} {g : Nat → CR} (h : CV w a n g) (h0 : 0 < n) : ∃ b off, a = some ⟨b, off, none⟩ := by
  obtain ⟨b, off, e, _⟩ := h 0 h0
  exact ⟨b, off, e⟩
theorem ck_at {g : Nat → CR} {n p : Nat} (h : ckC g n = true) (hp : p < n) : wk g n 16 p = some (nx g n p) ∧ nx g n p ≤ n := by
  obtain ⟨_, _, _, h4⟩ := ckC_parts h
  obtain ⟨e', k1, k2⟩ := wk_at _ _ _ h4 p (Nat.zero_le _) hp
  rw [nx_some k1]
  exact ⟨k1, k2⟩
/-- The error of a place. -/
def plE (g : Nat → CR) (n : Nat) (p : Int) : Int := if ckC g n = true then (if 0 ≤ p ∧ p < n then 0 else 2) else 8
theorem pl_ok {g : Nat → CR} {n p : Nat} (hc : ckC g n = true) (hp : p < n) : plE g n (p : Nat) = 0 := by unfold plE; rw [if_pos hc, if_pos (by omega)]
end Go.Proofs.YtpbbmnefcfllmaaDoor
/- Layer 3: kids, Kids, Member. -/
namespace Go.Proofs.YtpbbmnefcfllmaaDoor
open Go.RowKit Go.Maps
theorem infoI : ∃ i, Tryd.prog.info? 3 = some i ∧ i.zero = some (.int .i64 0) ∧ i.size = 1 ∧ i.bytes = 8 := by
  have h := Tryd.typeInfo3 default
  unfold typeInfo at h
  cases hq : Tryd.prog.info? 3 with
  | none => simp [hq] at h
  | some i =>
    simp [hq] at h
    exact ⟨i, rfl, by rw [h]; rfl, by rw [h]; rfl, by rw [h]; rfl⟩
theorem news_at (w : World) (cs : Array Value) (t : TypeId) (L : List Value) (h : cs.toList = L) : ∀ j u, L[j]? = some u → (w.alloc (.cells cs t)).cell? ((⟨w.heap.size, 0, none⟩ : Addr).add j) = some u := by
  subst h
  intro j u hj
  simp only [Addr.add_lit, Nat.zero_add, World.cell?, heap_alloc_new]
  simpa using hj
def bdL (g : Nat → CR) (n a m : Nat) : List Value := (List.range m).map fun i => .int .i64 (bd g n a i : Nat)
theorem bdL_succ (g : Nat → CR) (n a m : Nat) : bdL g n a (m + 1) = bdL g n a m ++ [.int .i64 (bd g n a m : Nat)] := by unfold bdL; rw [List.range_succ, List.map_append]; rfl
theorem bdL_len (g : Nat → CR) (n a m : Nat) : (bdL g n a m).length = m := by simp [bdL]
/-- A row of places. -/
def IV (w : World) (a : Option Addr) (m : Nat) (f : Nat → Nat) : Prop := ∀ i, i < m → ∃ b off, a = some ⟨b, off, none⟩ ∧ b < w.heap.size ∧ w.cell? ⟨b, off + i, none⟩ = some (.int .i64 (f i : Nat))
theorem IV.below {w w' : World} {a : Option Addr} {m : Nat} {f : Nat → Nat} (h : IV w a m f) (hb : Below w.heap.size w w') : IV w' a m f := fun i hi => by
  obtain ⟨b, off, e, h1, h2⟩ := h i hi
  exact ⟨b, off, e, Nat.lt_of_lt_of_le h1 hb.size, (hb.cell (p := ⟨b, _, none⟩) h1).trans h2⟩
theorem own_iv {w : World} {B m : Nat} {v : Value} {g : Nat → CR} {n a : Nat} (h : w.ownsRow B 3 1 v m (bdL g n a m)) : ∃ ad cap, v = .slice ad m cap ∧ IV w ad m (bd g n a) ∧ (∀ b off, ad = some ⟨b, off, none⟩ → B ≤ b) := by
  rcases h.2 with ⟨rfl, hn⟩ | ⟨q, cap, cur, rfl, hg, hgg, h1, h2, h3, h4⟩
  · subst hn
    exact ⟨none, 0, rfl, fun i hi => by omega, fun b off e => by cases e⟩
  · refine ⟨some ⟨q, 0, none⟩, cap, rfl, fun k hk => ⟨q, 0, rfl, (Array.getElem?_eq_some_iff.1 hgg).1, ?_⟩, fun b off e => by cases e; exact hg⟩
    rw [Nat.zero_add, h.cellAt k (by omega)]
    unfold bdL
    rw [List.getElem?_map, List.getElem?_range hk]
    rfl
/-- The first of some places whose cell has that name. -/
def mbF (g : Nat → CR) (s : ByteArray) (f : Nat → Nat) (m : Nat) : Option Nat := ((List.range m).map f).find? fun q => decide ((g q).nm = s)
theorem mbF_none {g : Nat → CR} {s : ByteArray} {f : Nat → Nat} {m : Nat} (h : ∀ j, j < m → (g (f j)).nm ≠ s) : mbF g s f m = none := by
  unfold mbF
  rw [List.find?_eq_none]
  intro q hq
  obtain ⟨j, hj, rfl⟩ := List.mem_map.1 hq
  simpa using h j (List.mem_range.1 hj)
theorem mbF_some {g : Nat → CR} {s : ByteArray} {f : Nat → Nat} {m i : Nat} (hi : i < m) (h : ∀ j, j < i → (g (f j)).nm ≠ s) (hs : (g (f i)).nm = s) : mbF g s f m = some (f i) := by
  unfold mbF
  have e : List.range m = List.range i ++ (i :: (List.range (m - (i + 1))).map (fun x => i + 1 + x)) := by
    apply List.ext_getElem (by simp; omega)
    intro k h1 h2
    rw [List.getElem_range]
    by_cases hk : k < i
    · rw [List.getElem_append_left (by simpa using hk)]; simp
    · rw [List.getElem_append_right (by simpa using hk)]
      by_cases e : k = i
      · subst e; simp
      · simp only [List.length_range]
        rw [List.getElem_cons]
        rw [dif_neg (by omega)]
        simp; omega
  rw [e, List.map_append, List.find?_append]
  rw [show ((List.range i).map f).find? (fun q => decide ((g q).nm = s)) = none from mbF_none h]
  simp [hs]
theorem str_is {x y : ByteArray} : (x.toList == y.toList) = decide (x = y) := by
  rw [Bool.eq_iff_iff, beq_iff_eq, decide_eq_true_eq, ByteArray.toList_eq, ByteArray.toList_eq, Array.toList_inj]
  exact ⟨fun h => ByteArray.ext h, fun h => by rw [h]⟩
/-- What Member finds. -/
def memP (g : Nat → CR) (n : Nat) (p : Int) (s : ByteArray) : Option Nat := if plE g n p = 0 ∧ (g p.toNat).k = 7 then mbF g s (bd g n (p.toNat + 1)) (g p.toNat).m.toNat else none
theorem ret_mb {x y : Nat} {b c : Bool} (h : x = y) (k : b = c) : Ending.returned (.tuple #[.int .i64 (x : Nat), .bool b]) = .returned (.tuple #[.int .i64 (y : Nat), .bool c]) := by rw [h, k]
end Go.Proofs.YtpbbmnefcfllmaaDoor
/- Layer 3: rows of cells that a call made; the chapter's object; alive. -/
namespace Go.Proofs.YtpbbmnefcfllmaaDoor
open Go.RowKit Go.Maps
def rw5 (L : List CR) : List Value := L.flatMap fun c => [.int .u8 c.k, .string c.nm, .string c.tx, .int .i64 c.n, .int .i64 c.m]
theorem rw5_nil : rw5 [] = [] := rfl
theorem rw5_cons (c : CR) (L : List CR) : rw5 (c :: L) = .int .u8 c.k :: .string c.nm :: .string c.tx :: .int .i64 c.n :: .int .i64 c.m :: rw5 L := rfl
theorem rw5_app (L M : List CR) : rw5 (L ++ M) = rw5 L ++ rw5 M := by unfold rw5; rw [List.flatMap_append]
theorem rw5_len : ∀ L : List CR, (rw5 L).length = L.length * 5
  | [] => rfl
  | c :: L => by rw [rw5_cons]; simp [rw5_len L]; omega
theorem rw5_at : ∀ (L : List CR) (i : Nat), i < L.length → (rw5 L)[i * 5]? = some (.int .u8 (gl L i).k) ∧ (rw5 L)[i * 5 + 1]? = some (.string (gl L i).nm) ∧ (rw5 L)[i * 5 + 2]? = some (.string (gl L i).tx) ∧ (rw5 L)[i * 5 + 3]? = some (.int .i64 (gl L i).n) ∧ (rw5 L)[i * 5 + 4]? = some (.int .i64 (gl L i).m)
  | [], i, h => by simp at h
  | c :: L, 0, h => by
    rw [rw5_cons]
    exact ⟨rfl, rfl, rfl, rfl, rfl⟩
  | c :: L, i + 1, h => by
    have ih := rw5_at L i (by simpa using h)
    rw [rw5_cons, show (i + 1) * 5 = i * 5 + 5 by omega]
    exact ih
theorem cv_of {w : World} {q n : Nat} {L : List CR} (hl : L.length = n) (hq : q < w.heap.size) (h : ∀ j, j < n * 5 → w.cell? ⟨q, j, none⟩ = (rw5 L)[j]?) : CV w (some ⟨q, 0, none⟩) n (gl L) := fun i hi => by
  obtain ⟨a0, a1, a2, a3, a4⟩ := rw5_at L i (by omega)
  exact ⟨q, 0, rfl, hq, by rw [Nat.zero_add, h _ (by omega)]; exact a0, by rw [Nat.zero_add, h _ (by omega)]; exact a1, by rw [Nat.zero_add, h _ (by omega)]; exact a2, by rw [Nat.zero_add, h _ (by omega)]; exact a3, by rw [Nat.zero_add, h _ (by omega)]; exact a4⟩
theorem cv_block {w : World} {q : Nat} {cs : Array Value} {t : TypeId} {L : List CR} (hb : w.heap[q]? = some (.cells cs t)) (hc : cs.toList = rw5 L) : CV w (some ⟨q, 0, none⟩) L.length (gl L) :=
  cv_of rfl (Array.getElem?_eq_some_iff.1 hb).1 fun j hj => by
    unfold World.cell?
    rw [hb, ← hc, Array.getElem?_toList]
    rfl
theorem own_cv {w : World} {B n : Nat} {v : Value} {L : List CR} (hl : L.length = n) (h : w.ownsRow B 33 5 v n (rw5 L)) : ∃ ad cap, v = .slice ad n cap ∧ CV w ad n (gl L) ∧ (∀ b off, ad = some ⟨b, off, none⟩ → B ≤ b) ∧ (n = 0 → ad = none ∨ True) := by
  rcases h.2 with ⟨rfl, hn⟩ | ⟨q, cap, cur, rfl, hg, hgg, h1, h2, h3, h4⟩
  · subst hn
    exact ⟨none, 0, rfl, fun i hi => by omega, fun b off e => by (cases e), fun _ => .inl rfl⟩
  · exact ⟨some ⟨q, 0, none⟩, cap, rfl, cv_of hl (Array.getElem?_eq_some_iff.1 hgg).1 (fun j hj => h.cellAt j hj), fun b off e => by (cases e; exact hg), fun _ => .inr trivial⟩
def fiveL : List CR := [⟨7, ⟨#[]⟩, ⟨#[]⟩, 0, 2⟩, ⟨2, ⟨#[97]⟩, ⟨#[]⟩, 1, 0⟩, ⟨6, ⟨#[98]⟩, ⟨#[]⟩, 0, 2⟩, ⟨0, ⟨#[]⟩, ⟨#[]⟩, 0, 0⟩, ⟨3, ⟨#[]⟩, ⟨#[120]⟩, 0, 0⟩]
theorem five_ck : ckC (gl fiveL) 5 = true := by decide +kernel
theorem five_cw : CW 5 (gl fiveL) := by
  intro i hi
  rcases (by omega : i = 0 ∨ i = 1 ∨ i = 2 ∨ i = 3 ∨ i = 4) with rfl | rfl | rfl | rfl | rfl <;> exact ⟨by decide, by decide, by decide, by decide, by decide⟩
end Go.Proofs.YtpbbmnefcfllmaaDoor
/- Layer 3: alive. -/
namespace Go.Proofs.YtpbbmnefcfllmaaDoor
open Go.RowKit Go.Maps
end Go.Proofs.YtpbbmnefcfllmaaDoor
/- Layer 3: append onto a row that is kept; CellNames. -/
namespace Go.Proofs.YtpbbmnefcfllmaaDoor
open Go.RowKit Go.Maps
section
variable {P : Program}
theorem own_part {w : World} {base : Nat} {e : TypeId} {size g n m cap : Nat} {xs news : List Value} (hx : xs.length = n * size) (h : w.ownsRow base e size (.slice (some ⟨g, 0, none⟩) (n + m) cap) (n + m) (xs ++ news)) : w.ownsRow base e size (.slice (some ⟨g, 0, none⟩) n cap) n xs := by
  refine ⟨hx, ?_⟩
  rcases h.2 with ⟨h', _⟩ | ⟨g', cap', cur, h', hb, hg, h1, h2, h3, h4⟩
  · simp at h'
  · simp only [Value.slice.injEq, Option.some.injEq, Addr.mk.injEq, and_true, true_and] at h'
    obtain ⟨rfl, rfl⟩ := h'
    refine .inr ⟨g, cap, cur, rfl, hb, hg, by omega, h2, h3, ?_⟩
    have : cur.toList.take (n * size) = (cur.toList.take ((n + m) * size)).take (n * size) := by
      rw [List.take_take, Nat.min_eq_left (Nat.mul_le_mul_right _ (by omega))]
    rw [this, h4, ← hx, List.take_left]
theorem run_append_keep (w : World) (base : Nat) (t ty e : TypeId) (i : TypeInfo) (z : Value) (size bytes : Nat) (ht : P.underlying t = some (.slice e)) (hi : P.info? e = some i) (hz : i.zero = some z)
    (hsize : i.size = size) (hby : i.bytes = bytes) (hzs : z.cells.size = size) (hsz : 0 < size)
    (v : Value) (n : Nat) (xs : List Value) (hown : w.ownsRow base e size v n xs) (hn0 : 0 < n)
    (a : Addr) (m c : Nat) (news : List Value) (hl : news.length = m * size) (hnews : ∀ j u, news[j]? = some u → w.cell? (a.add j) = some u) (h1 : ∀ u ∈ news, u.oneCell' = true)
    (h63 : n + m ≤ maxLen) (hbytes : (n + m) * bytes ≤ 140737488355328) (hbase : base ≤ w.heap.size) :
    ∃ v' w', (Builtin.append_ #[t, t] ty #[v, .slice (some a) m c]).run P w = .ok v' w' ∧ w'.ownsRow base e size v' (n + m) (xs ++ news) ∧ w'.ownsRow base e size v n xs ∧ w.grownBy w' v.ownBlock := by
  rcases hown.2 with ⟨_, h0⟩ | ⟨g, cap, cur, rfl, hbg, hg, hnc, hcm, hcs, htake⟩
  · omega
  · by_cases hr : n + m ≤ cap
    · obtain ⟨w', r1, r2, r3⟩ := run_append_fits (P := P) w base t ty e i size ht hi hsize g n cap xs hown a m c news hl hnews h1 hr
      exact ⟨_, w', r1, r2, own_part hown.1 r2, by simpa [Value.ownBlock] using r3⟩
    · obtain ⟨v', w', r1, r2, r3⟩ := run_append_arg_grows (P := P) w t ty e i z size bytes ht hi hz hsize hby hzs hsz ⟨g, 0, none⟩ n cap xs hown.1 (fun j u hj => by
        rw [Addr.add_lit, Nat.zero_add, hown.cellAt j (by rw [← hown.1]; exact (List.getElem?_eq_some_iff.1 hj).1)]; exact hj) a m c news hl hnews (by omega) h63 hbytes
      refine ⟨v', w', r1, ?_, hown.kept r3 (.inr (by simp [Value.ownBlock])), ⟨r3.os, r3.tape, r3.output, r3.size, fun k hk _ => r3.block k hk (by simp)⟩⟩
      refine ⟨r2.1, ?_⟩
      rcases r2.2 with h | ⟨g', cap', cur', e', hb', rest⟩
      · exact .inl h
      · exact .inr ⟨g', cap', cur', e', Nat.le_trans hbase hb', rest⟩
theorem wpList_append_keep {w : World} {ops : Array Oper} {rest : List Oper} {o : Oper} {a : Act} {Q : Exit → Act → World → Prop} (hgd : Region.wanted o (yielded ops a.tmps) = true)
    (s x : Operand) (t : TypeId) (hop : o.op = Op.call { callee := Callee.builtin Builtin.append, args := #[s, x], argTypes := #[t, t] })
    (base : Nat) (e : TypeId) (i : TypeInfo) (z : Value) (size bytes : Nat) (ht : P.underlying t = some (.slice e)) (hi : P.info? e = some i) (hz : i.zero = some z)
    (hsize : i.size = size) (hby : i.bytes = bytes) (hzs : z.cells.size = size) (hsz : 0 < size)
    (v : Value) (n : Nat) (xs : List Value) (hs : a.eval s = v) (hown : w.ownsRow base e size v n xs) (hn0 : 0 < n)
    (ad : Addr) (m c : Nat) (news : List Value) (hx : a.eval x = .slice (some ad) m c) (hl : news.length = m * size) (hnews : ∀ j u, news[j]? = some u → w.cell? (ad.add j) = some u) (h1 : ∀ u ∈ news, u.oneCell' = true)
    (h63 : n + m ≤ maxLen) (hbytes : (n + m) * bytes ≤ 140737488355328) (hbase : base ≤ w.heap.size)
    (hK : ∀ v' w', w'.ownsRow base e size v' (n + m) (xs ++ news) → w'.ownsRow base e size v n xs → w.grownBy w' v.ownBlock → wpList P ops Q rest (a.put o.dst v') w') :
    wpList P ops Q (o :: rest) a w := by
  refine wpList_step fun K hK' => ?_
  rw [if_pos hgd]
  obtain ⟨v', w', hrun, r1, r2, r3⟩ := run_append_keep (P := P) w base t o.type e i z size bytes ht hi hz hsize hby hzs hsz v n xs hown hn0 ad m c news hl hnews h1 h63 hbytes hbase
  unfold Oper.wp
  simp [execOp, hop, resolve, invoke, builtin, hs, hx, hrun, Result.andThen]
  exact hK' _ _ (hK v' w' r1 r2 r3)
end
theorem infoC : ∃ i, Tryd.prog.info? 33 = some i ∧ i.zero = some (.agg #[.int .u8 0, .string ⟨#[]⟩, .string ⟨#[]⟩, .int .i64 0, .int .i64 0]) ∧ i.size = 5 ∧ i.bytes = 56 := by
  have h := Tryd.typeInfo33 default
  unfold typeInfo at h
  cases hq : Tryd.prog.info? 33 with
  | none => simp [hq] at h
  | some i =>
    simp [hq] at h
    exact ⟨i, rfl, by rw [h]; rfl, by rw [h]; rfl, by rw [h]; rfl⟩
def c6 : CR := ⟨6, ⟨#[]⟩, ⟨#[]⟩, 0, 1⟩
def c0 : CR := ⟨0, ⟨#[]⟩, ⟨#[]⟩, 0, 0⟩
def c60 : CR := ⟨6, ⟨#[]⟩, ⟨#[]⟩, 0, 0⟩
def deepL (i : Nat) : List CR := List.replicate i c6
theorem deep_succ (i : Nat) : rw5 (deepL (i + 1)) = rw5 (deepL i) ++ [.int .u8 6, .string ⟨#[]⟩, .string ⟨#[]⟩, .int .i64 0, .int .i64 1] := by
  unfold deepL
  rw [List.replicate_succ', rw5_app]; rfl
theorem cw_small {L : List CR} {n : Nat} (hn : n = L.length) (h : ∀ c ∈ L, c.k < 256 ∧ c.nm.size ≤ maxLen ∧ c.tx.size ≤ 1000000 ∧ -9223372036854775808 ≤ c.m ∧ c.m ≤ 9223372036854775807) : CW n (gl L) := fun i hi => by
  have : gl L i ∈ L := by
    unfold gl
    rw [List.getD_eq_getElem?_getD, List.getElem?_eq_getElem (by omega)]
    exact List.getElem_mem _
  exact h _ this
theorem c6_ok : c6.k < 256 ∧ c6.nm.size ≤ maxLen ∧ c6.tx.size ≤ 1000000 ∧ -9223372036854775808 ≤ c6.m ∧ c6.m ≤ 9223372036854775807 := by refine ⟨?_, ?_, ?_, ?_, ?_⟩ <;> decide
theorem c0_ok : c0.k < 256 ∧ c0.nm.size ≤ maxLen ∧ c0.tx.size ≤ 1000000 ∧ -9223372036854775808 ≤ c0.m ∧ c0.m ≤ 9223372036854775807 := by refine ⟨?_, ?_, ?_, ?_, ?_⟩ <;> decide
theorem c60_ok : c60.k < 256 ∧ c60.nm.size ≤ maxLen ∧ c60.tx.size ≤ 1000000 ∧ -9223372036854775808 ≤ c60.m ∧ c60.m ≤ 9223372036854775807 := by refine ⟨?_, ?_, ?_, ?_, ?_⟩ <;> decide
theorem check_lit (L : List CR) (n : Nat) (x : Int) (hn : L.length = n) (hcw : CW n (gl L)) (hx : eC (ckC (gl L) n) = x) (a : Option Addr) (c : Nat) (w : World) (hv : CV w a n (gl L)) : Calls Tryd.prog 13 #[.slice a n c] w fun e w' => e = .returned (.int .i64 x) ∧ Below w.heap.size w w' := by
  rw [← hx]; exact cCheck_any a n c (gl L) w hv hcw
end Go.Proofs.YtpbbmnefcfllmaaDoor
/- Layer 3: how large cells are; whether two rows are the same. -/
namespace Go.Proofs.YtpbbmnefcfllmaaDoor
open Go.RowKit Go.Maps
def bigC (c : CR) : Bool := decide (300 < c.nm.size) || decide (3000 < c.tx.size)
def grP (g : Nat → CR) (n most : Nat) : Bool := decide (most < n) || (List.range n).any fun i => bigC (g i)
theorem gr_big {g : Nat → CR} {n most i : Nat} (hi : i < n) (h : bigC (g i) = true) : grP g n most = true := by
  unfold grP
  rw [Bool.or_eq_true]
  exact .inr (List.any_eq_true.2 ⟨i, List.mem_range.2 hi, h⟩)
theorem gr_no {g : Nat → CR} {n most : Nat} (hn : n ≤ most) (h : ∀ j, j < n → bigC (g j) = false) : grP g n most = false := by
  unfold grP
  rw [Bool.or_eq_false_iff]
  refine ⟨by simpa using hn, ?_⟩
  rw [List.any_eq_false]
  intro i hi
  rw [h i (List.mem_range.1 hi)]
  simp
theorem gr_small {g : Nat → CR} {n most : Nat} (h : grP g n most = false) : n ≤ most ∧ ∀ i, i < n → (g i).nm.size ≤ 300 ∧ (g i).tx.size ≤ 3000 := by
  unfold grP at h
  rw [Bool.or_eq_false_iff] at h
  refine ⟨by simpa using h.1, fun i hi => ?_⟩
  have := (List.any_eq_false.1 h.2) i (List.mem_range.2 hi)
  unfold bigC at this
  simp only [Bool.or_eq_true, decide_eq_true_eq, not_or, Nat.not_lt] at this
  exact this
set_option maxRecDepth 20000 in
set_option maxHeartbeats 1000000 in
theorem great_any (a : Option Addr) (n cap most : Nat) (mv : Int) (hmv : mv = (most : Nat)) (g : Nat → CR) (w : World) (hv : CV w a n g) (hn : n ≤ maxLen) (hm : most ≤ 1000000) : Calls Tryd.prog 4 #[.slice a n cap, .int .i64 mv] w fun r w' => r = .returned (.bool (grP g n most)) ∧ w' = w := by
  subst hmv
  unfold maxLen at hn
  obtain ⟨x, hx⟩ : ∃ x, x = grP g n most := ⟨_, rfl⟩
  rw [← hx]
  replace hx := Lib.hid hx
  have HV := Lib.hid hv
  clear hv
  have hn' : (n : Int) ≤ 9223372036854775807 := by omega
  have hm' : (most : Int) ≤ 1000000 := by omega
  go_enter Tryd.func4, Tryd.ntmps4
  go_wp2_with fail
  go_loop [5] (fun v5 => ∃ i : Nat, i ≤ n ∧ i ≤ most ∧ v5 = .int .i64 i ∧ Hid (∀ j, j < i → bigC (g j) = false)) (fun v5 => n - (intOf v5).toNat)
  case atStart => exact ⟨0, Nat.zero_le _, Nat.zero_le _, rfl, Lib.hid (fun j hj => by omega)⟩
  case round =>
    obtain ⟨i, hi, him, rfl, HN⟩ := hrel
    by_cases h1 : i < n
    · by_cases h2 : i < most
      · obtain ⟨b, off, rfl⟩ := HV.out.addr (by omega)
        obtain ⟨_, _, c1, c2, _, _⟩ := HV.out.at_ h1
        have hg1 : (i : Int) < n := by omega
        have hg0 : (0 : Int) ≤ i := by omega
        have hg2 : (i : Int) < most := by omega
        obtain ⟨nm, hnm⟩ : ∃ s, s = (g i).nm := ⟨_, rfl⟩
        obtain ⟨tx, htx⟩ : ∃ s, s = (g i).tx := ⟨_, rfl⟩
        rw [← hnm] at c1
        rw [← htx] at c2
        have hbc : Hid (bigC (g i) = (decide (300 < nm.size) || decide (3000 < tx.size))) := Lib.hid (by rw [hnm, htx]; rfl)
        clear hnm htx
        by_cases k1 : (300 : Int) < nm.size
        · have HX : Hid (x = true) := Lib.hid (by rw [hx.out]; exact gr_big h1 (by rw [hbc.out, decide_eq_true (show 300 < nm.size by omega)]; rfl))
          clear HN hbc
          go_wp2_with fail
          go_ret
          exact ⟨ret_bool HX.out.symm, rfl⟩
        · by_cases k2 : (3000 : Int) < tx.size
          · have HX : Hid (x = true) := Lib.hid (by rw [hx.out]; exact gr_big h1 (by rw [hbc.out, decide_eq_true (show 3000 < tx.size by omega)]; simp))
            clear HN hbc
            go_wp2_with fail
            go_ret
            exact ⟨ret_bool HX.out.symm, rfl⟩
          · have HN2 : Hid (∀ j, j < i + 1 → bigC (g j) = false) := Lib.hid (fun j hj => by
              by_cases e : j = i
              · subst e; rw [hbc.out, decide_eq_false (show ¬ 300 < nm.size by omega), decide_eq_false (show ¬ 3000 < tx.size by omega)]; rfl
              · exact HN.out j (by omega))
            clear HN hbc
            go_wp2_with fail
            go_round
            case rel => exact ⟨i + 1, by omega, by omega, by go_num, HN2⟩
            case measure => simp [intOf]; omega
      · have e2 : i = most := by omega
        subst e2
        have HX : Hid (x = true) := Lib.hid (by rw [hx.out]; unfold grP; rw [decide_eq_true h1]; rfl)
        have hg1 : (i : Int) < n := by omega
        have hg2 : ¬ (i : Int) < i := by omega
        clear HN
        go_wp2_with fail
        go_ret
        exact ⟨ret_bool HX.out.symm, rfl⟩
    · have e1 : i = n := by omega
      subst e1
      have HX : Hid (x = false) := Lib.hid (by rw [hx.out]; exact gr_no him HN.out)
      have hg1 : ¬ (i : Int) < i := by omega
      have hg2 : ¬ (most : Int) < i := by omega
      clear HN
      go_wp2_with fail
      go_ret
      exact ⟨ret_bool HX.out.symm, rfl⟩
end Go.Proofs.YtpbbmnefcfllmaaDoor
/- Layer 3: two cells against each other; two rows. -/
namespace Go.Proofs.YtpbbmnefcfllmaaDoor
open Go.RowKit Go.Maps
deriving instance DecidableEq for CR
theorem cell_dec (k1 k2 : Nat) (a1 a2 b1 b2 : ByteArray) (n1 n2 m1 m2 : Int) : decide ((⟨k1, a1, b1, n1, m1⟩ : CR) = ⟨k2, a2, b2, n2, m2⟩) = (decide ((k1 : Int) = k2) && (decide (a1 = a2) && (decide (b1 = b2) && (decide (n1 = n2) && decide (m1 = m2))))) := by
  rw [Bool.eq_iff_iff]
  simp only [decide_eq_true_eq, Bool.and_eq_true, CR.mk.injEq]
  constructor
  · rintro ⟨h1, h2, h3, h4, h5⟩; exact ⟨by omega, h2, h3, h4, h5⟩
  · rintro ⟨h1, h2, h3, h4, h5⟩; exact ⟨by omega, h2, h3, h4, h5⟩
theorem neq_cell (c d : CR) (w : World) : (binOp .neq 33 (cv c) (cv d)).run Tryd.prog w = .ok (.bool !(decide (c = d))) w := by
  obtain ⟨k1, a1, b1, n1, m1⟩ := c
  obtain ⟨k2, a2, b2, n2, m2⟩ := d
  rw [cell_dec]
  unfold cv
  have a3 := Tryd.isAgg5
  have a4 := Tryd.isAgg9
  have a5 := Tryd.isAgg2
  have a6 := Tryd.isAgg3
  have z3 := Tryd.sizeOf5
  have z4 := Tryd.sizeOf9
  have z5 := Tryd.sizeOf2
  have z6 := Tryd.sizeOf3
  have u3 := Tryd.underlying5
  have u4 := Tryd.underlying9
  have u5 := Tryd.underlying2
  have u6 := Tryd.underlying3
  have hS : Tryd.prog.underlying 33 = some (.struct (Tryd.prog.fieldsOf 33)) := by kernel_rfl
  have hp : Tryd.prog.stoodInHeld 33 = false := by kernel_rfl
  rw [run_neq_struct, show (10000 : Nat) = 9999 + 1 from rfl, run_equalIn_agg w 9999 33 _ _ hS hp]
  simp only [Program.fieldsOf, Tryd.underlying33]
  have e1 : (a1.toList == a2.toList) = decide (a1 = a2) := str_is
  have e2 : (b1.toList == b2.toList) = decide (b1 = b2) := str_is
  go_simp
  by_cases h1 : (k1 : Int) = k2 <;> by_cases h2 : a1 = a2 <;> by_cases h3 : b1 = b2 <;> by_cases h4 : n1 = n2 <;> by_cases h5 : m1 = m2 <;> simp [h1, h2, h3, h4, h5, e1, e2]
/-- Are two rows the same? -/
def smB (g1 : Nat → CR) (n1 : Nat) (g2 : Nat → CR) (n2 : Nat) : Bool := decide (n1 = n2) && (List.range n1).all fun i => decide (g1 i = g2 i)
theorem sm_no {g1 g2 : Nat → CR} {n i : Nat} (hi : i < n) (h : g1 i ≠ g2 i) : smB g1 n g2 n = false := by
  unfold smB
  rw [Bool.and_eq_false_iff]
  refine .inr (List.all_eq_false.2 ⟨i, List.mem_range.2 hi, by simpa using h⟩)
theorem sm_yes {g1 g2 : Nat → CR} {n : Nat} (h : ∀ j, j < n → g1 j = g2 j) : smB g1 n g2 n = true := by
  unfold smB
  rw [Bool.and_eq_true]
  exact ⟨by simp, List.all_eq_true.2 fun i hi => by simpa using h i (List.mem_range.1 hi)⟩
theorem sm_lists {L M : List CR} (h : L = M) : smB (gl L) L.length (gl M) M.length = true := by subst h; exact sm_yes fun _ _ => rfl
theorem sm_eq {g1 g2 : Nat → CR} {n1 n2 : Nat} (h : smB g1 n1 g2 n2 = true) : n1 = n2 ∧ ∀ i, i < n1 → g1 i = g2 i := by
  unfold smB at h
  simp only [Bool.and_eq_true, decide_eq_true_eq, List.all_eq_true, List.mem_range] at h
  exact h
set_option maxRecDepth 20000 in
set_option maxHeartbeats 1000000 in
theorem rsame_any (a1 a2 : Option Addr) (n1 n2 c1 c2 : Nat) (g1 g2 : Nat → CR) (w : World) (hv1 : CV w a1 n1 g1) (hv2 : CV w a2 n2 g2) (hn : n1 ≤ maxLen) : Calls Tryd.prog 8 #[.slice a1 n1 c1, .slice a2 n2 c2] w fun r w' => r = .returned (.bool (smB g1 n1 g2 n2)) ∧ Below w.heap.size w w' := by
  unfold maxLen at hn
  obtain ⟨x, hx⟩ : ∃ x, x = smB g1 n1 g2 n2 := ⟨_, rfl⟩
  rw [← hx]
  replace hx := Lib.hid hx
  by_cases he : n1 = n2
  · subst he
    have HV1 := Lib.hid hv1
    have HV2 := Lib.hid hv2
    clear hv1 hv2
    have hn' : (n1 : Int) ≤ 9223372036854775807 := by omega
    have hne : ((n1 : Int) != n1) = false := by simp
    go_enter Tryd.func8, Tryd.ntmps8
    go_wp2_with fail
    go_loopw [5] (fun v5 wr => ∃ i : Nat, i ≤ n1 ∧ v5 = .int .i64 i ∧ Hid (∀ j, j < i → g1 j = g2 j) ∧ Hid (Below w.heap.size w wr)) (fun v5 _ => n1 - (intOf v5).toNat)
    case atStart => exact ⟨0, Nat.zero_le _, rfl, Lib.hid (fun j hj => by omega), Lib.hid (Below.refl _ _)⟩
    case round =>
      obtain ⟨i, hi, rfl, HN, HB⟩ := hrel
      by_cases h1 : i < n1
      · obtain ⟨b, off, rfl⟩ := HV1.out.addr (by omega)
        obtain ⟨b', off', rfl⟩ := HV2.out.addr (by omega)
        obtain ⟨_, d0, d1, d2, d3, d4⟩ := (HV1.out.below HB.out).at_ h1
        obtain ⟨_, e0, e1, e2, e3, e4⟩ := (HV2.out.below HB.out).at_ h1
        have hg1 : (i : Int) < n1 := by omega
        have hg0 : (0 : Int) ≤ i := by omega
        obtain ⟨c, hc⟩ : ∃ c, c = g1 i := ⟨_, rfl⟩
        obtain ⟨d, hd⟩ : ∃ d, d = g2 i := ⟨_, rfl⟩
        rw [← hc] at d0 d1 d2 d3 d4
        rw [← hd] at e0 e1 e2 e3 e4
        have hq := neq_cell c d
        unfold cv at hq
        have hgd : ∀ (op : BinOp) (x y : Operand) (xs ys : Array Value) (W : World), (eqGuard op 33 x y (.agg xs) (.agg ys)).run Tryd.prog W = .ok () W := fun op x y xs ys W => run_eqGuard_agg W op _ x y xs ys (by kernel_rfl)
        by_cases hcd : c = d
        · have HN2 : Hid (∀ j, j < i + 1 → g1 j = g2 j) := Lib.hid (fun j hj => by
            by_cases e : j = i
            · subst e; rw [← hc, ← hd]; exact hcd
            · exact HN.out j (by omega))
          rw [decide_eq_true hcd] at hq
          clear HN hc hd hcd
          go_wp2_with fail
          go_quiet (fail)
          go_wp2_with fail
          go_roundw
          case rel => exact ⟨i + 1, by omega, by go_num, HN2, Lib.hid ⟨HB.out.os, HB.out.tape, HB.out.output, HB.out.size, HB.out.block⟩⟩
          case measure => simp [intOf]; omega
        · have HX : Hid (x = false) := Lib.hid (by rw [hx.out]; exact sm_no h1 (by rw [← hc, ← hd]; exact hcd))
          rw [decide_eq_false hcd] at hq
          clear HN hc hd hcd
          go_wp2_with fail
          go_quiet (fail)
          go_wp2_with fail
          go_ret
          exact ⟨ret_bool HX.out.symm, ⟨HB.out.os, HB.out.tape, HB.out.output, HB.out.size, HB.out.block⟩⟩
      · have e1 : i = n1 := by omega
        subst e1
        have HX : Hid (x = true) := Lib.hid (by rw [hx.out]; exact sm_yes HN.out)
        have hg1 : ¬ (i : Int) < i := by omega
        clear HN
        go_wp2_with fail
        go_ret
        exact ⟨ret_bool HX.out.symm, HB.out⟩
  · have HX : Hid (x = false) := Lib.hid (by rw [hx.out]; unfold smB; rw [decide_eq_false he]; rfl)
    have hne : ((n1 : Int) != n2) = true := by simp; omega
    have hne2 : ((n1 : Int) == n2) = false := by rw [beq_eq_false_iff_ne]; omega
    clear he
    go_enter Tryd.func8, Tryd.ntmps8
    go_wp2_with fail
    go_ret
    exact ⟨ret_bool HX.out.symm, Below.refl _ _⟩
end Go.Proofs.YtpbbmnefcfllmaaDoor
/- Layer 3: Twin, Sub. -/
namespace Go.Proofs.YtpbbmnefcfllmaaDoor
open Go.RowKit Go.Maps
theorem cv_news {w : World} {b off n : Nat} {g : Nat → CR} (h : CV w (some ⟨b, off, none⟩) n g) : ∀ j u, (rw5 (cut g 0 n))[j]? = some u → w.cell? ((⟨b, off, none⟩ : Addr).add j) = some u := by
  intro j u hj
  have hlt := (List.getElem?_eq_some_iff.1 hj).1
  rw [rw5_len, cut_len, Nat.sub_zero] at hlt
  have hi : j / 5 < n := by omega
  obtain ⟨_, c0, c1, c2, c3, c4⟩ := h.at_ hi
  obtain ⟨a0, a1, a2, a3, a4⟩ := rw5_at (cut g 0 n) (j / 5) (by rw [cut_len]; omega)
  have eg : gl (cut g 0 n) (j / 5) = g (j / 5) := by rw [cut_at g 0 n _ (by omega), Nat.zero_add]
  rw [eg] at a0 a1 a2 a3 a4
  rw [Addr.add_lit]
  show w.cell? ⟨b, off + j, none⟩ = some u
  rcases (by omega : j = j / 5 * 5 ∨ j = j / 5 * 5 + 1 ∨ j = j / 5 * 5 + 2 ∨ j = j / 5 * 5 + 3 ∨ j = j / 5 * 5 + 4) with e | e | e | e | e
  · rw [e] at hj ⊢; rw [a0] at hj; rw [c0]; exact hj
  · rw [e] at hj ⊢; rw [a1] at hj; rw [← Nat.add_assoc, c1]; exact hj
  · rw [e] at hj ⊢; rw [a2] at hj; rw [← Nat.add_assoc, c2]; exact hj
  · rw [e] at hj ⊢; rw [a3] at hj; rw [← Nat.add_assoc, c3]; exact hj
  · rw [e] at hj ⊢; rw [a4] at hj; rw [← Nat.add_assoc, c4]; exact hj
theorem rw5_one (L : List CR) : ∀ u ∈ rw5 L, u.oneCell' = true := by
  intro u hu
  unfold rw5 at hu
  obtain ⟨c, _, hc⟩ := List.mem_flatMap.1 hu
  simp at hc
  rcases hc with rfl | rfl | rfl | rfl | rfl <;> rfl
/-- Twin, whichever of the two. -/
def TwinPost (w : World) (n : Nat) (g : Nat → CR) (r : Ending) (w' : World) : Prop := ∃ v, r = .returned v ∧ w'.ownsRow w.heap.size 33 5 v n (rw5 (cut g 0 n)) ∧ Below w.heap.size w w'
set_option maxRecDepth 20000 in
theorem rtwin_any (a : Option Addr) (n cap : Nat) (g : Nat → CR) (w : World) (hv : CV w a n g) (hn : n ≤ 1000000) (ha : a = none → n = 0 ∧ cap = 0) : Calls Tryd.prog 5 #[.slice a n cap] w (TwinPost w n g) := by
  obtain ⟨i0, hi, hz0, hz1, hz2⟩ := infoC
  have HO := Lib.hid (World.ownsRow_nil w w.heap.size 33 5)
  cases a with
  | none =>
    obtain ⟨rfl, rfl⟩ := ha rfl
    clear hv ha
    go_enter Tryd.func5, Tryd.ntmps5
    go_wp2_with (at_builtin; refine wpList_append_own_none rfl _ _ 22 rfl w.heap.size 33 i0 5 Tryd.underlying22 hi hz1 (.slice none 0 0) 0 [] rfl HO.out rfl ?_)
    go_ret
    exact ⟨_, rfl, HO.out, Below.refl _ _⟩
  | some ad =>
    by_cases h0 : n = 0
    · subst h0
      clear hv ha
      go_enter Tryd.func5, Tryd.ntmps5
      go_wp2_with (at_builtin; refine wpList_append_own _ rfl _ _ 22 rfl w.heap.size 33 i0 (.agg #[.int .u8 0, .string ⟨#[]⟩, .string ⟨#[]⟩, .int .i64 0, .int .i64 0]) 5 56 Tryd.underlying22 hi hz0 hz1 hz2 rfl (by decide) (.slice none 0 0) 0 [] rfl HO.out ad 0 cap [] rfl rfl (fun j u hj => by simp at hj) (fun u hu => by simp at hu) (by decide) (by decide) (Nat.le_refl _) ?_; intro v1 w1 ho1 hg1 _)
      have B1 : Hid (Below w.heap.size w w1) := Lib.hid ((Below.refl w.heap.size w).grown hg1 (Nat.le_refl _) (fun q hq => by simp [Value.ownBlock] at hq))
      go_wp2_with fail
      go_ret
      exact ⟨_, rfl, ho1, B1.out⟩
    · obtain ⟨b, off, he⟩ := hv.addr (by omega)
      cases he
      have HN := Lib.hid (cv_news hv)
      have HL : Hid ((rw5 (cut g 0 n)).length = n * 5) := Lib.hid (by rw [rw5_len, cut_len, Nat.sub_zero])
      have H1 := Lib.hid (rw5_one (cut g 0 n))
      obtain ⟨L, hL⟩ : ∃ L, L = rw5 (cut g 0 n) := ⟨_, rfl⟩
      rw [← hL] at HN HL H1
      replace hL := Lib.hid hL
      clear hv ha
      go_enter Tryd.func5, Tryd.ntmps5
      go_wp2_with (at_builtin; refine wpList_append_own _ rfl _ _ 22 rfl w.heap.size 33 i0 (.agg #[.int .u8 0, .string ⟨#[]⟩, .string ⟨#[]⟩, .int .i64 0, .int .i64 0]) 5 56 Tryd.underlying22 hi hz0 hz1 hz2 rfl (by decide) (.slice none 0 0) 0 [] rfl HO.out ⟨b, off, none⟩ n cap L rfl HL.out HN.out H1.out (by unfold maxLen; omega) (by omega) (Nat.le_refl _) ?_; intro v1 w1 ho1 hg1 _)
      have B1 : Hid (Below w.heap.size w w1) := Lib.hid ((Below.refl w.heap.size w).grown hg1 (Nat.le_refl _) (fun q hq => by simp [Value.ownBlock] at hq))
      have O1 : Hid (w1.ownsRow w.heap.size 33 5 v1 n (rw5 (cut g 0 n))) := Lib.hid (by rw [← hL.out]; simpa using ho1)
      clear ho1 hg1
      go_wp2_with fail
      go_ret
      exact ⟨_, rfl, O1.out, B1.out⟩
end Go.Proofs.YtpbbmnefcfllmaaDoor
/- Layer 3: a name written into a row; Sub. -/
namespace Go.Proofs.YtpbbmnefcfllmaaDoor
open Go.RowKit Go.Maps
/-- The cells, one's name aside. -/
def setNm (L : List CR) (i : Nat) (s : ByteArray) : List CR := L.modify i fun c => { c with nm := s }
theorem setNm_len (L : List CR) (i : Nat) (s : ByteArray) : (setNm L i s).length = L.length := by simp [setNm]
theorem setNm_zero (L : List CR) (s : ByteArray) : setNm L 0 s = ren s L := by cases L <;> rfl
theorem rw5_set : ∀ (L : List CR) (i : Nat) (s : ByteArray), i < L.length → (rw5 L).set (i * 5 + 1) (.string s) = rw5 (setNm L i s)
  | [], i, s, h => by simp at h
  | c :: L, 0, s, h => by
    unfold setNm
    rw [rw5_cons]
    rfl
  | c :: L, i + 1, s, h => by
    have ih := rw5_set L i s (by simpa using h)
    have e : setNm (c :: L) (i + 1) s = c :: setNm L i s := rfl
    rw [e, rw5_cons, rw5_cons, ← ih, show (i + 1) * 5 + 1 = (i * 5 + 1) + 5 by omega]
    rfl
theorem own_set {w : World} {B q n cap i : Nat} {L : List CR} (h : w.ownsRow B 33 5 (.slice (some ⟨q, 0, none⟩) n cap) n (rw5 L)) (hl : L.length = n) (hi : i < n) (s : ByteArray) :
    (w.setCell ⟨q, i * 5 + 1, none⟩ (.string s)).ownsRow B 33 5 (.slice (some ⟨q, 0, none⟩) n cap) n (rw5 (setNm L i s)) := by
  refine ⟨by rw [rw5_len, setNm_len, hl], ?_⟩
  rcases h.2 with ⟨h', _⟩ | ⟨g', cap', cur, h', hb, hg, h1, h2, h3, h4⟩
  · simp at h'
  · simp only [Value.slice.injEq, Option.some.injEq, Addr.mk.injEq, and_true, true_and] at h'
    obtain ⟨rfl, rfl⟩ := h'
    refine .inr ⟨q, cap, cur.setIfInBounds (i * 5 + 1) (.string s), rfl, hb, ?_, h1, h2, by simpa using h3, ?_⟩
    · simp [World.setCell, Array.getElem?_modify, hg]
    · rw [Array.toList_setIfInBounds, List.take_set, h4]
      exact rw5_set L i s (by omega)
theorem own_cellq {w : World} {B q n cap i : Nat} {L : List CR} (h : w.ownsRow B 33 5 (.slice (some ⟨q, 0, none⟩) n cap) n (rw5 L)) (hi : i < n) (hl : L.length = n) : w.cell? ⟨q, i * 5 + 1, none⟩ = some (.string (gl L i).nm) ∧ w.frozen? ⟨q, i * 5 + 1, none⟩ = false := by
  refine ⟨?_, ?_⟩
  · rw [h.cellAt _ (by omega)]
    exact (rw5_at L i (by omega)).2.1
  · rcases h.2 with ⟨h', _⟩ | ⟨g', cap', cur, h', hb, hg, h1, h2, h3, h4⟩
    · simp at h'
    · simp only [Value.slice.injEq, Option.some.injEq, Addr.mk.injEq, and_true, true_and] at h'
      obtain ⟨rfl, rfl⟩ := h'
      simp [World.frozen?, hg]
theorem own_addr {w : World} {B n : Nat} {v : Value} {xs : List Value} {e : TypeId} {sz : Nat} (h : w.ownsRow B e sz v n xs) (h0 : 0 < n) : ∃ q cap, v = .slice (some ⟨q, 0, none⟩) n cap ∧ B ≤ q ∧ q < w.heap.size := by
  rcases h.2 with ⟨_, hn⟩ | ⟨q, cap, cur, rfl, hb, hg, _⟩
  · omega
  · exact ⟨q, cap, rfl, hb, (Array.getElem?_eq_some_iff.1 hg).1⟩
theorem CV.part {w : World} {b off n : Nat} {g : Nat → CR} (h : CV w (some ⟨b, off, none⟩) n g) (p e : Nat) (he : e ≤ n) : CV w (some ⟨b, off + p * 5, none⟩) (e - p) (fun i => g (p + i)) := fun i hi => by
  obtain ⟨h0, c0, c1, c2, c3, c4⟩ := h.at_ (i := p + i) (by omega)
  rw [show off + (p + i) * 5 = off + p * 5 + i * 5 by omega] at c0 c1 c2 c3 c4
  exact ⟨b, off + p * 5, rfl, h0, c0, c1, c2, c3, c4⟩
theorem cut_part (g : Nat → CR) (p e : Nat) : cut (fun i => g (p + i)) 0 (e - p) = cut g p e := by
  unfold cut
  simp
end Go.Proofs.YtpbbmnefcfllmaaDoor
/- Layer 3: gather. -/
namespace Go.Proofs.YtpbbmnefcfllmaaDoor
open Go.RowKit Go.Maps
/-- Values that came in. -/
structure LIn (w : World) (la : Option Addr) (ln : Nat) (ad : Nat → Option Addr) (len cp : Nat → Nat) (G : Nat → Nat → CR) : Prop where
  at_ : ∀ i, i < ln → ∃ b off, la = some ⟨b, off, none⟩ ∧ b < w.heap.size ∧ w.cell? ⟨b, off + i, none⟩ = some (.slice (ad i) (len i) (cp i))
  cv : ∀ i, i < ln → CV w (ad i) (len i) (G i)
theorem LIn.below {w w' : World} {la : Option Addr} {ln : Nat} {ad : Nat → Option Addr} {len cp : Nat → Nat} {G : Nat → Nat → CR} (h : LIn w la ln ad len cp G) (hb : Below w.heap.size w w') : LIn w' la ln ad len cp G :=
  ⟨fun i hi => by
    obtain ⟨b, off, e, h1, h2⟩ := h.at_ i hi
    exact ⟨b, off, e, Nat.lt_of_lt_of_le h1 hb.size, (hb.cell (p := ⟨b, _, none⟩) h1).trans h2⟩, fun i hi => (h.cv i hi).below hb⟩
/-- Names that came in. -/
def NV (w : World) (a : Option Addr) (n : Nat) (s : Nat → ByteArray) : Prop := ∀ i, i < n → ∃ b off, a = some ⟨b, off, none⟩ ∧ b < w.heap.size ∧ w.cell? ⟨b, off + i, none⟩ = some (.string (s i))
theorem NV.below {w w' : World} {a : Option Addr} {n : Nat} {s : Nat → ByteArray} (h : NV w a n s) (hb : Below w.heap.size w w') : NV w' a n s := fun i hi => by
  obtain ⟨b, off, e, h1, h2⟩ := h i hi
  exact ⟨b, off, e, Nat.lt_of_lt_of_le h1 hb.size, (hb.cell (p := ⟨b, _, none⟩) h1).trans h2⟩
/-- The i-th value, under its name. -/
def lsF (k : Nat) (s : Nat → ByteArray) (len : Nat → Nat) (G : Nat → Nat → CR) (i : Nat) : List CR := if k = 7 then ren (s i) (cut (G i) 0 (len i)) else cut (G i) 0 (len i)
def hdC (k ln : Nat) : CR := ⟨k, ⟨#[]⟩, ⟨#[]⟩, 0, ln⟩
def preL (k ln : Nat) (s : Nat → ByteArray) (len : Nat → Nat) (G : Nat → Nat → CR) (i : Nat) : List CR := hdC k ln :: ((List.range i).map (lsF k s len G)).flatten
theorem pre_succ (k ln : Nat) (s : Nat → ByteArray) (len : Nat → Nat) (G : Nat → Nat → CR) (i : Nat) : preL k ln s len G (i + 1) = preL k ln s len G i ++ lsF k s len G i := by
  unfold preL
  rw [List.range_succ, List.map_append, List.flatten_append]
  simp
theorem ls_len (k : Nat) (s : Nat → ByteArray) (len : Nat → Nat) (G : Nat → Nat → CR) (i : Nat) : (lsF k s len G i).length = len i := by
  unfold lsF
  split
  · rw [ren_len, cut_len, Nat.sub_zero]
  · rw [cut_len, Nat.sub_zero]
theorem set_app (L M : List CR) (s : ByteArray) : setNm (L ++ M) L.length s = L ++ ren s M := by
  induction L with
  | nil => cases M <;> rfl
  | cons x L ih =>
    show x :: setNm (L ++ M) L.length s = x :: (L ++ ren s M)
    rw [ih]
/-- The error of gather. -/
def gE (k ln : Nat) (s : Nat → ByteArray) (len : Nat → Nat) (G : Nat → Nat → CR) : Int :=
  if 2048 < ln then 4 else if (List.range ln).all (fun i => ckC (G i) (len i)) then eC (ckL (preL k ln s len G ln)) else 8
def GP (w : World) (e : Int) (L : List CR) (r : Ending) (w' : World) : Prop :=
  ∃ v, r = .returned (.tuple #[v, .int .i64 e]) ∧ (e ≠ 0 → v = .slice none 0 0) ∧ (e = 0 → w'.ownsRow w.heap.size 33 5 v L.length (rw5 L)) ∧ Below w.heap.size w w'
theorem GP.bad {w w' : World} {e z : Int} {L : List CR} (he : e = z) (hz : z ≠ 0) (hb : Below w.heap.size w w') : GP w e L (.returned (.tuple #[.slice none 0 0, .int .i64 z])) w' := by
  subst he; exact ⟨_, rfl, fun _ => rfl, fun h => absurd h hz, hb⟩
theorem GP.ok {w w' : World} {e : Int} {L : List CR} {v : Value} (he : e = 0) (ho : w'.ownsRow w.heap.size 33 5 v L.length (rw5 L)) (hb : Below w.heap.size w w') : GP w e L (.returned (.tuple #[v, .int .i64 0])) w' := by
  subst he; exact ⟨_, rfl, fun h => absurd rfl h, fun _ => ho, hb⟩
end Go.Proofs.YtpbbmnefcfllmaaDoor
/- Layer 3: what is put together of values, taken apart again (plain); Items, Members. -/
namespace Go.Proofs.YtpbbmnefcfllmaaDoor
open Go.RowKit Go.Maps
theorem ck_cut {g : Nat → CR} {n : Nat} (h : ckC g n = true) : ckL (cut g 0 n) = true := by
  obtain ⟨k1, k2, k3, k4⟩ := ckC_parts h
  have hl : (cut g 0 n).length = n := by rw [cut_len, Nat.sub_zero]
  have hat : ∀ t, t < n → gl (cut g 0 n) t = g t := fun t ht => by rw [cut_at g 0 n t (by omega), Nat.zero_add]
  unfold ckL
  rw [hl]
  refine ckC_mk k1 k2 (by rw [hat 0 k1]; exact k3) ?_
  have k := wk_shift (g1 := g) (n1 := n) (s1 := 0) (g2 := gl (cut g 0 n)) (n2 := n) (s2 := 0) 16 0 n (by simpa using k4) ?_ (by omega)
  · simpa using k
  · intro t _ ht
    rw [Nat.add_zero, hat t ht]
    exact ⟨rfl, rfl, rfl, rfl, fun _ => rfl⟩
/-- The values' lists; the same under their names. -/
def vsL (ln : Nat) (len : Nat → Nat) (G : Nat → Nat → CR) : List (List CR) := (List.range ln).map fun i => cut (G i) 0 (len i)
def lsL (k ln : Nat) (s : Nat → ByteArray) (len : Nat → Nat) (G : Nat → Nat → CR) : List (List CR) := (List.range ln).map (lsF k s len G)
theorem pre_under (k ln : Nat) (s : Nat → ByteArray) (len : Nat → Nat) (G : Nat → Nat → CR) : preL k ln s len G ln = under (hdC k ln) (lsL k ln s len G) := rfl
theorem vs_len (ln : Nat) (len : Nat → Nat) (G : Nat → Nat → CR) : (vsL ln len G).length = ln := by simp [vsL]
theorem ls_len2 (k ln : Nat) (s : Nat → ByteArray) (len : Nat → Nat) (G : Nat → Nat → CR) : (lsL k ln s len G).length = ln := by simp [lsL]
theorem vs_at (ln : Nat) (len : Nat → Nat) (G : Nat → Nat → CR) (i : Nat) (h : i < (vsL ln len G).length) : (vsL ln len G)[i] = cut (G i) 0 (len i) := by simp [vsL]
theorem ls_at (k ln : Nat) (s : Nat → ByteArray) (len : Nat → Nat) (G : Nat → Nat → CR) (i : Nat) (h : i < (lsL k ln s len G).length) : (lsL k ln s len G)[i] = lsF k s len G i := by simp [lsL]
/-- Where the i-th begins, in what was put together. -/
def plF (k ln : Nat) (s : Nat → ByteArray) (len : Nat → Nat) (G : Nat → Nat → CR) (i : Nat) : Nat := bd (gl (preL k ln s len G ln)) (preL k ln s len G ln).length (0 + 1) i
theorem put_facts (k : Nat) (hk : k = 6 ∨ k = 7) (ln : Nat) (s : Nat → ByteArray) (len : Nat → Nat) (G : Nat → Nat → CR) (hck : ∀ i, i < ln → ckC (G i) (len i) = true) (hL : ckL (preL k ln s len G ln) = true) :
    (gl (preL k ln s len G ln) 0).m.toNat = ln ∧ (gl (preL k ln s len G ln) 0).k = k ∧ ∀ i, i < ln → plF k ln s len G i < (preL k ln s len G ln).length ∧ ren ⟨#[]⟩ (cut (gl (preL k ln s len G ln)) (plF k ln s len G i) (nx (gl (preL k ln s len G ln)) (preL k ln s len G ln).length (plF k ln s len G i))) = cut (G i) 0 (len i) ∧ nx (gl (preL k ln s len G ln)) (preL k ln s len G ln).length (plF k ln s len G i) - plF k ln s len G i = len i ∧ (k = 7 → memP (gl (preL k ln s len G ln)) (preL k ln s len G ln).length 0 (s i) = some (plF k ln s len G i)) := by
  have hm : (gl (preL k ln s len G ln) 0).m.toNat = ln := by
    show ((ln : Int)).toNat = ln
    exact Int.toNat_natCast _
  have hk0 : (gl (preL k ln s len G ln) 0).k = k := rfl
  refine ⟨hm, hk0, ?_⟩
  have hvs : ∀ i (h2 : i < (vsL ln len G).length), ckL (vsL ln len G)[i] = true := fun i h2 => by
    rw [vs_at]
    exact ck_cut (hck i (by rw [vs_len] at h2; exact h2))
  have hl : (lsL k ln s len G).length = (vsL ln len G).length := by rw [ls_len2, vs_len]
  have hr : ∀ i (h1 : i < (lsL k ln s len G).length) (h2 : i < (vsL ln len G).length), ∃ t, (lsL k ln s len G)[i] = ren t (vsL ln len G)[i] := fun i h1 h2 => by
    rw [ls_at, vs_at]
    unfold lsF
    rcases hk with e | e
    · rw [if_neg (by omega)]
      refine ⟨⟨#[]⟩, (ren_self ?_).symm⟩
      have := hvs i h2
      rw [vs_at] at this
      exact em_eq (ckC_parts this).2.2.1
    · rw [if_pos e]
      exact ⟨s i, rfl⟩
  have e1 : ∀ i, i ≤ ln → plF k ln s len G i = st 1 (lsL k ln s len G) i := fun i hi => by
    unfold plF
    rw [pre_under]
    exact under_bd (hdC k ln) (vsL ln len G) (lsL k ln s len G) hl hr hvs i (by rw [ls_len2]; exact hi)
  have w1 := under_wk (hdC k ln) (vsL ln len G) (lsL k ln s len G) hl hr hvs
  rw [← pre_under] at w1
  intro i hi
  have hi2 : i < (lsL k ln s len G).length := by rw [ls_len2]; exact hi
  have hi3 : i < (vsL ln len G).length := by rw [vs_len]; exact hi
  have hw := w1 i hi2
  have hlt := wk_lt _ _ _ hw
  have hn : nx (gl (preL k ln s len G ln)) (preL k ln s len G ln).length (plF k ln s len G i) = st 1 (lsL k ln s len G) (i + 1) := e1 (i + 1) (by omega)
  have hsub := under_sub (hdC k ln) (vsL ln len G) (lsL k ln s len G) hl hr hvs i hi2 hi3
  rw [← pre_under, vs_at] at hsub
  rw [hn, e1 i (by omega)]
  refine ⟨by omega, hsub, ?_, ?_⟩
  · have := congrArg List.length hsub
    rw [ren_len, cut_len, cut_len] at this
    omega
  · intro h7
    obtain ⟨c1, c2, c3, c4⟩ := ckC_parts hL
    unfold memP
    have hp0 : plE (gl (preL k ln s len G ln)) (preL k ln s len G ln).length 0 = 0 := by
      unfold plE
      have hL' : ckC (gl (preL k ln s len G ln)) (preL k ln s len G ln).length = true := hL
      rw [if_pos hL', if_pos (by omega)]
    rw [if_pos ⟨hp0, by show k = 7; exact h7⟩]
    show mbF _ _ (plF k ln s len G) (gl (preL k ln s len G ln) 0).m.toNat = _
    have nmAt : ∀ j, j < ln → (gl (preL k ln s len G ln) (plF k ln s len G j)).nm = s j := fun j hj => by
      have hj2 : j < (lsL k ln s len G).length := by rw [ls_len2]; exact hj
      have hj3 : j < (vsL ln len G).length := by rw [vs_len]; exact hj
      have hw' := wk_lt _ _ _ (w1 j hj2)
      have hpos := (ckC_parts (hvs j hj3)).1
      rw [vs_at, cut_len, Nat.sub_zero] at hpos
      rw [e1 j (by omega), pre_under]
      have u := under_at (hdC k ln) (lsL k ln s len G) j 0 hj2 (by rw [ls_at, ls_len]; exact hpos)
      rw [Nat.add_zero] at u
      rw [u, ls_at]
      unfold lsF
      rw [if_pos h7]
      exact ren_nm _ _ (by rw [cut_len, Nat.sub_zero]; exact hpos)
    have hap := names_apart (Nat.le_refl 16) c4 (by show k = 7; exact h7) i (by rw [hm]; exact hi)
    rw [hm, mbF_some (i := i) hi (fun j hj => ?_) (nmAt i hi)]
    · rw [← e1 i (by omega)]
    · have := hap.2 j hj
      intro hh
      exact this (hh.trans (nmAt i hi).symm)
theorem gE_ok {k ln : Nat} {s : Nat → ByteArray} {len : Nat → Nat} {G : Nat → Nat → CR} (h : gE k ln s len G = 0) : ln ≤ 2048 ∧ (∀ i, i < ln → ckC (G i) (len i) = true) ∧ ckL (preL k ln s len G ln) = true := by
  unfold gE at h
  split at h
  · cases h
  · rename_i h1
    split at h
    · rename_i h2
      refine ⟨by omega, fun i hi => List.all_eq_true.1 h2 i (List.mem_range.2 hi), ?_⟩
      cases hc : ckL (preL k ln s len G ln) with
      | true => rfl
      | false => rw [hc] at h; cases h
    · cases h
theorem own_cvc {w : World} {B n : Nat} {v : Value} {L : List CR} (hl : L.length = n) (h : w.ownsRow B 33 5 v n (rw5 L)) (h0 : 0 < n) : ∃ q cap, v = .slice (some ⟨q, 0, none⟩) n cap ∧ n ≤ cap ∧ CV w (some ⟨q, 0, none⟩) n (gl L) ∧ B ≤ q ∧ q < w.heap.size := by
  rcases h.2 with ⟨rfl, hn⟩ | ⟨q, cap, cur, rfl, hg, hgg, h1, h2, h3, h4⟩
  · omega
  · exact ⟨q, cap, rfl, h1, cv_of hl (Array.getElem?_eq_some_iff.1 hgg).1 (fun j hj => h.cellAt j hj), hg, (Array.getElem?_eq_some_iff.1 hgg).1⟩
/-- The error of Members. -/
def mE (nn ln : Nat) (s : Nat → ByteArray) (len : Nat → Nat) (G : Nat → Nat → CR) : Int := if nn = ln then gE 7 ln s len G else 2
end Go.Proofs.YtpbbmnefcfllmaaDoor

import Derived.Test.YtfigebepeniikaaGreatK4
import Derived.Laws.AppendOwnNone
import Derived.Test.YtfigebepeniikaaGreatShelf
import Derived.WalkKit
import Derived.WalkSpells
import Derived.WalkLawsBesides
import Derived.Outline
import Derived.Below
import Derived.Lib.Hide
import Derived.BigQuiet
import Derived.Deep.QuietTactic
import Derived.Deep.LoopGhost
import Derived.ScopeJumps
import Derived.WalkMore
/- Layer 27, plain: tables, and what is put into them. No program in sight. -/
namespace Go.Proofs.YtfigebepeniikaaGreat
open Go.RowKit
instance decMem (s : ByteArray) (L : List ByteArray) : Decidable (s ∈ L) := decidable_of_iff (L.any (fun x => decide (x = s)) = true) (by simp)
structure RC where
  id : ByteArray
  d : List CR
deriving DecidableEq
instance : Inhabited RC := ⟨⟨⟨#[]⟩, []⟩⟩
structure TM where
  name : ByteArray
  most : Int
  uq : List ByteArray
  rows : List RC
deriving DecidableEq
def idS : ByteArray := ⟨#[105, 100]⟩
/-- Where a member begins. -/
def mI (d : List CR) (s : ByteArray) : Option Nat := ((List.range (gl d 0).m.toNat).map (bd (gl d) d.length 1)).find? fun q => decide ((gl d q).nm = s)
/-- A member's value, its name with it. -/
def mV (d : List CR) (s : ByteArray) : Option (List CR) := (mI d s).map fun p => cut (gl d) p (nx (gl d) d.length p)
def hasVar (d : List CR) : Bool := d.any fun c => decide (c.k = 5)
def idOk (r : RC) : Bool := match mI r.d idS with
  | some p => decide ((gl r.d p).k = 3) && decide ((gl r.d p).tx = r.id)
  | none => false
/-- May a record be? -/
def recOk (r : RC) : Bool := !(hasVar r.d) && ckL r.d && decide ((gl r.d 0).k = 7) && idOk r
def clash (a b : RC) (s : ByteArray) : Bool := match mV a.d s, mV b.d s with
  | some x, some y => decide ((gl x 0).k ≠ 0) && decide (x = y)
  | _, _ => false
theorem clash_comm (a b : RC) (s : ByteArray) : clash a b s = clash b a s := by
  unfold clash
  cases mV a.d s with
  | none => cases mV b.d s <;> rfl
  | some x =>
    cases mV b.d s with
    | none => rfl
    | some y =>
      by_cases h : x = y
      · subst h; rfl
      · have h' : ¬ y = x := fun e => h e.symm
        simp [h, h']
def clT (T : TM) (r : RC) : Bool := T.rows.any fun w => decide (w.id ≠ r.id) && T.uq.any fun s => clash w r s
theorem clT_no {T : TM} {r : RC} : clT T r = false ↔ ∀ w ∈ T.rows, w.id ≠ r.id → ∀ s ∈ T.uq, clash w r s = false := by
  unfold clT
  rw [List.any_eq_false]
  constructor
  · intro h w hw hne s hs
    have := h w hw
    simp only [decide_eq_true hne, Bool.true_and, Bool.not_eq_true, List.any_eq_false] at this
    exact this s hs
  · intro h w hw
    by_cases hne : w.id ≠ r.id
    · simp only [decide_eq_true hne, Bool.true_and, Bool.not_eq_true, List.any_eq_false]
      exact h w hw hne
    · simp [hne]
def idsR (L : List RC) : List ByteArray := L.map RC.id
theorem idsR_len (L : List RC) : (idsR L).length = L.length := by simp [idsR]
theorem idsR_nth (L : List RC) (j : Nat) (h : j < L.length) : Ord.nth (idsR L) j = (L[j]).id := by
  unfold Ord.nth idsR
  rw [List.getD_eq_getElem?_getD, List.getElem?_map, List.getElem?_eq_getElem h]
  rfl
theorem idsR_mem (L : List RC) (s : ByteArray) : s ∈ idsR L ↔ ∃ r ∈ L, r.id = s := by simp [idsR]
/-- May a table be? -/
def tabOk (T : TM) : Bool := decide (1 ≤ T.most) && decide (T.most ≤ 64) && decide ((T.rows.length : Int) ≤ T.most) && decide (Ord.chE (idsR T.rows) = 0) && decide T.uq.Nodup && T.rows.all recOk && !(T.rows.any (clT T))
structure TabOk (T : TM) : Prop where
  m1 : 1 ≤ T.most
  m2 : T.most ≤ 64
  len : (T.rows.length : Int) ≤ T.most
  up : Ord.chE (idsR T.rows) = 0
  uq : T.uq.Nodup
  rcs : ∀ r ∈ T.rows, recOk r = true
  cl : ∀ w ∈ T.rows, ∀ v ∈ T.rows, v.id ≠ w.id → ∀ s ∈ T.uq, clash v w s = false
theorem tabOk_iff {T : TM} : tabOk T = true ↔ TabOk T := by
  unfold tabOk
  simp only [Bool.and_eq_true, decide_eq_true_eq, List.all_eq_true, Bool.not_eq_true', List.any_eq_false, Bool.not_eq_true, clT_no]
  constructor
  · rintro ⟨⟨⟨⟨⟨⟨h1, h2⟩, h3⟩, h4⟩, h5⟩, h6⟩, h7⟩
    exact ⟨h1, h2, h3, h4, h5, h6, h7⟩
  · rintro ⟨h1, h2, h3, h4, h5, h6, h7⟩
    exact ⟨⟨⟨⟨⟨⟨h1, h2⟩, h3⟩, h4⟩, h5⟩, h6⟩, h7⟩
def zT : TM := ⟨⟨#[]⟩, 0, [], []⟩
theorem zT_no : tabOk zT = false := by decide +kernel
def ltR (r w : RC) : Bool := decide (Ord.cmpB w.id r.id < 0)
def insR (L : List RC) (r : RC) : List RC := L.takeWhile (ltR r) ++ r :: L.dropWhile (ltR r)
def putT (T : TM) (r : RC) : TM × Int := if (tabOk T && recOk r) = false then (zT, 8) else if (decide (r.id ∈ idsR T.rows) || clT T r) = true then (zT, 271) else if (T.rows.length : Int) = T.most then (zT, 272) else ({ T with rows := insR T.rows r }, 0)
def repR (r w : RC) : RC := if w.id = r.id then r else w
def setT (T : TM) (r : RC) : TM × Int := if (tabOk T && recOk r) = false then (zT, 8) else if ¬ r.id ∈ idsR T.rows then (zT, 270) else if clT T r = true then (zT, 271) else ({ T with rows := T.rows.map (repR r) }, 0)
def dropT (T : TM) (s : ByteArray) : TM × Int := if tabOk T = false then (zT, 8) else if ¬ s ∈ idsR T.rows then (zT, 270) else ({ T with rows := T.rows.filter fun w => decide (w.id ≠ s) }, 0)
def fndR (L : List RC) (s : ByteArray) : Option RC := L.find? fun w => decide (w.id = s)
def getT (T : TM) (s : ByteArray) : Option RC := if tabOk T = true then fndR T.rows s else none
theorem tw_at {p : RC → Bool} : ∀ (L : List RC) (k : Nat), k ≤ L.length → (∀ j (h : j < L.length), j < k → p L[j] = true) → (∀ h : k < L.length, p L[k] = false) → L.takeWhile p = L.take k ∧ L.dropWhile p = L.drop k
  | [], k, _, _, _ => by simp
  | x :: L, 0, _, _, h2 => by
    have := h2 (by simp)
    simp only [List.getElem_cons_zero] at this
    simp [this]
  | x :: L, k + 1, hk, h1, h2 => by
    have e := h1 0 (by simp) (by omega)
    simp only [List.getElem_cons_zero] at e
    have ih := tw_at L k (by simpa using hk) (fun j h hj => by have := h1 (j + 1) (by simpa using h) (by omega); simpa using this) (fun h => by have := h2 (by simpa using h); simpa using this)
    rw [List.takeWhile_cons, List.dropWhile_cons, e]
    simp [ih.1, ih.2]
theorem insR_at {L : List RC} {r : RC} {k : Nat} {is : Bool} (h : Ord.At (idsR L) r.id k is) : insR L r = L.take k ++ r :: L.drop k := by
  obtain ⟨h0, h1, h2, h3⟩ := h
  rw [idsR_len] at h0
  have t := tw_at (p := ltR r) L k h0 (fun j hj hk => by
    unfold ltR
    have := h1 j hk
    rw [idsR_nth L j hj] at this
    simpa using this) (fun hk => by
    unfold ltR
    cases is with
    | true =>
      have := (h2 rfl).2
      rw [idsR_nth L k hk] at this
      rw [this]
      have := (Ord.cmp_zero r.id r.id).2 rfl
      simp [this]
    | false =>
      have := h3 rfl k (Nat.le_refl _) (by rw [idsR_len]; exact hk)
      rw [idsR_nth L k hk] at this
      simp; omega)
  unfold insR
  rw [t.1, t.2]
theorem idsR_ins (L : List RC) (r : RC) (k : Nat) : idsR (L.take k ++ r :: L.drop k) = Ord.insL (idsR L) r.id k := by
  unfold idsR Ord.insL
  simp [List.map_take, List.map_drop]
theorem insR_mem {L : List RC} {r w : RC} : w ∈ insR L r ↔ w = r ∨ w ∈ L := by
  unfold insR
  rw [List.mem_append, List.mem_cons]
  conv => rhs; rw [show L = L.takeWhile (ltR r) ++ L.dropWhile (ltR r) from List.takeWhile_append_dropWhile.symm]
  rw [List.mem_append]
  constructor
  · rintro (h | h | h)
    · exact .inr (.inl h)
    · exact .inl h
    · exact .inr (.inr h)
  · rintro (h | h | h)
    · exact .inr (.inl h)
    · exact .inl h
    · exact .inr (.inr h)
theorem insR_len (L : List RC) (r : RC) : (insR L r).length = L.length + 1 := by
  unfold insR
  have := congrArg List.length (List.takeWhile_append_dropWhile (p := ltR r) (l := L))
  rw [List.length_append] at this
  rw [List.length_append, List.length_cons]
  omega
theorem at_mem {L : List ByteArray} {s : ByteArray} {k : Nat} {is : Bool} (h : Ord.At L s k is) : is = decide (s ∈ L) := by
  have := Ord.at_iff h
  rw [Bool.eq_iff_iff, this, decide_eq_true_eq]
  exact Ord.inL_mem
theorem uniq_id {L : List RC} (hc : Ord.chE (idsR L) = 0) {v w : RC} (hv : v ∈ L) (hw : w ∈ L) (h : v.id = w.id) : v = w := by
  obtain ⟨i, hi, rfl⟩ := List.getElem_of_mem hv
  obtain ⟨j, hj, rfl⟩ := List.getElem_of_mem hw
  have := Ord.rises_inj (L := idsR L) (i := i) (j := j) hc (by rw [idsR_len]; exact hi) (by rw [idsR_len]; exact hj) (by rw [idsR_nth L i hi, idsR_nth L j hj]; exact h)
  subst this
  rfl
theorem fnd_some {L : List RC} {s : ByteArray} {r : RC} (hc : Ord.chE (idsR L) = 0) : fndR L s = some r ↔ r ∈ L ∧ r.id = s := by
  unfold fndR
  constructor
  · intro h
    exact ⟨List.mem_of_find?_eq_some h, by simpa using List.find?_some h⟩
  · rintro ⟨h1, h2⟩
    cases hf : L.find? fun w => decide (w.id = s) with
    | none => exact absurd (by simpa using h2) (List.find?_eq_none.1 hf r h1)
    | some q =>
      have q1 := List.mem_of_find?_eq_some hf
      have q2 : q.id = s := by simpa using List.find?_some hf
      rw [uniq_id hc q1 h1 (by rw [q2, h2])]
theorem fnd_none {L : List RC} {s : ByteArray} : fndR L s = none ↔ ¬ s ∈ idsR L := by
  unfold fndR
  rw [List.find?_eq_none, idsR_mem]
  constructor
  · rintro h ⟨r, h1, h2⟩; exact h r h1 (by simpa using h2)
  · intro h r h1; simp only [decide_eq_true_eq]; exact fun h2 => h ⟨r, h1, h2⟩
/-- Two rows of rising ids with the same records are the same. -/
theorem rows_ext {L M : List RC} (hL : Ord.chE (idsR L) = 0) (hM : Ord.chE (idsR M) = 0) (h : ∀ w, w ∈ L ↔ w ∈ M) : L = M := by
  have e : idsR L = idsR M := Ord.rises_uniq (Ord.chOk hL).2 (Ord.chOk hM).2 (fun s => by
    rw [Ord.inL_mem, Ord.inL_mem, idsR_mem, idsR_mem]
    exact ⟨fun ⟨r, h1, h2⟩ => ⟨r, (h r).1 h1, h2⟩, fun ⟨r, h1, h2⟩ => ⟨r, (h r).2 h1, h2⟩⟩)
  have el : L.length = M.length := by have := congrArg List.length e; rwa [idsR_len, idsR_len] at this
  refine List.ext_getElem el fun i h1 h2 => ?_
  refine uniq_id hM ((h _).1 (List.getElem_mem h1)) (List.getElem_mem h2) ?_
  rw [← idsR_nth L i h1, ← idsR_nth M i h2, e]
theorem chE_ins {L : List RC} {r : RC} (hc : Ord.chE (idsR L) = 0) (hl : L.length < 4096) (hn : ¬ r.id ∈ idsR L) : Ord.chE (idsR (insR L r)) = 0 := by
  obtain ⟨k, is, ha⟩ := Ord.at_some hc r.id
  have hi := at_mem ha
  rw [decide_eq_false hn] at hi
  subst hi
  rw [insR_at ha, idsR_ins]
  exact Ord.insL_ok hc (by rw [idsR_len]; exact hl) ha
theorem put_ok {T X : TM} {r : RC} (h : putT T r = (X, 0)) : TabOk T ∧ recOk r = true ∧ ¬ r.id ∈ idsR T.rows ∧ clT T r = false ∧ (T.rows.length : Int) ≠ T.most ∧ X = { T with rows := insR T.rows r } := by
  unfold putT at h
  split at h
  · simp at h
  · rename_i h1
    split at h
    · simp at h
    · rename_i h2
      split at h
      · simp at h
      · rename_i h3
        simp only [Bool.not_eq_false, Bool.and_eq_true] at h1
        simp only [Bool.or_eq_true, decide_eq_true_eq, not_or, Bool.not_eq_true] at h2
        simp only [Prod.mk.injEq, and_true] at h
        exact ⟨tabOk_iff.1 h1.1, h1.2, h2.1, h2.2, h3, h.symm⟩
theorem put_mk {T : TM} {r : RC} (h1 : TabOk T) (h2 : recOk r = true) (h3 : ¬ r.id ∈ idsR T.rows) (h4 : clT T r = false) (h5 : (T.rows.length : Int) ≠ T.most) : putT T r = ({ T with rows := insR T.rows r }, 0) := by
  unfold putT
  rw [tabOk_iff.2 h1, h2, decide_eq_false h3, h4, if_neg (by simp), if_neg (by simp), if_neg h5]
theorem put_tab {T : TM} {r : RC} (h1 : TabOk T) (h2 : recOk r = true) (h3 : ¬ r.id ∈ idsR T.rows) (h4 : clT T r = false) (h5 : (T.rows.length : Int) ≠ T.most) : TabOk { T with rows := insR T.rows r } := by
  obtain ⟨m1, m2, len, up, uq, rc, cl⟩ := h1
  rw [clT_no] at h4
  refine ⟨m1, m2, by show (((insR T.rows r).length : Nat) : Int) ≤ T.most; rw [insR_len]; omega, chE_ins up (by omega) h3, uq, fun w hw => ?_, fun w hw v hv hne s hs => ?_⟩
  · rcases insR_mem.1 hw with e | e
    · rw [e]; exact h2
    · exact rc w e
  · rcases insR_mem.1 hw with e | e
    · rcases insR_mem.1 hv with f | f
      · exact absurd (by rw [e, f]) hne
      · rw [e] at hne ⊢; exact h4 v f hne s hs
    · rcases insR_mem.1 hv with f | f
      · rw [f] at hne ⊢; rw [clash_comm]; exact h4 w e (fun e => hne e.symm) s hs
      · exact cl w e v f hne s hs
theorem back_law {T X : TM} {r : RC} (h : putT T r = (X, 0)) : tabOk X = true ∧ getT X r.id = some r ∧ dropT X r.id = (T, 0) ∧ (putT X r).2 = 271 ∧ ∀ s, s ≠ r.id → getT X s = getT T s := by
  obtain ⟨h1, h2, h3, h4, h5, rfl⟩ := put_ok h
  have hX := put_tab h1 h2 h3 h4 h5
  have tX := tabOk_iff.2 hX
  have hin : r ∈ insR T.rows r := insR_mem.2 (.inl rfl)
  have hid : r.id ∈ idsR (insR T.rows r) := (idsR_mem _ _).2 ⟨r, hin, rfl⟩
  refine ⟨tX, ?_, ?_, ?_, fun s hs => ?_⟩
  · unfold getT
    rw [if_pos tX]
    exact (fnd_some hX.up).2 ⟨hin, rfl⟩
  · unfold dropT
    rw [tX, if_neg (by simp), if_neg (by simpa using hid)]
    have e : (insR T.rows r).filter (fun w => decide (w.id ≠ r.id)) = T.rows := by
      unfold insR
      rw [List.filter_append, List.filter_cons, if_neg (by simp), ← List.filter_append, List.takeWhile_append_dropWhile, List.filter_eq_self]
      intro w hw
      simp only [ne_eq, decide_not, Bool.not_eq_eq_eq_not, Bool.not_true, decide_eq_false_iff_not]
      exact fun e => h3 ((idsR_mem _ _).2 ⟨w, hw, e⟩)
    show (({ T with rows := (insR T.rows r).filter fun w => decide (w.id ≠ r.id) } : TM), (0 : Int)) = _
    rw [e]
  · unfold putT
    rw [tX, h2, decide_eq_true hid, if_neg (by simp), if_pos (by simp)]
  · unfold getT
    rw [if_pos tX, if_pos (tabOk_iff.2 h1)]
    show fndR (insR T.rows r) s = fndR T.rows s
    unfold fndR insR
    rw [List.find?_append, List.find?_cons_of_neg (by simpa using fun e => hs e.symm), ← List.find?_append, List.takeWhile_append_dropWhile]
theorem set_ok {T X : TM} {r : RC} (h : setT T r = (X, 0)) : TabOk T ∧ recOk r = true ∧ r.id ∈ idsR T.rows ∧ clT T r = false ∧ X = { T with rows := T.rows.map (repR r) } := by
  unfold setT at h
  split at h
  · simp at h
  · rename_i h1
    split at h
    · simp at h
    · rename_i h2
      split at h
      · simp at h
      · rename_i h3
        simp only [Bool.not_eq_false, Bool.and_eq_true] at h1
        simp only [Prod.mk.injEq, and_true] at h
        exact ⟨tabOk_iff.1 h1.1, h1.2, by simpa using h2, by simpa using h3, h.symm⟩
theorem rep_id (r w : RC) : (repR r w).id = w.id := by
  unfold repR
  split
  · rename_i h; exact h.symm
  · rfl
theorem rep_ids (L : List RC) (r : RC) : idsR (L.map (repR r)) = idsR L := by
  unfold idsR
  rw [List.map_map]
  exact List.map_congr_left fun w _ => rep_id r w
theorem set_tab {T : TM} {r : RC} (h1 : TabOk T) (h2 : recOk r = true) (h4 : clT T r = false) : TabOk { T with rows := T.rows.map (repR r) } := by
  obtain ⟨m1, m2, len, up, uq, rc, cl⟩ := h1
  rw [clT_no] at h4
  refine ⟨m1, m2, by show (((T.rows.map (repR r)).length : Nat) : Int) ≤ T.most; rw [List.length_map]; exact len, by show Ord.chE (idsR (T.rows.map (repR r))) = 0; rw [rep_ids]; exact up, uq, fun w hw => ?_, fun w hw v hv hne s hs => ?_⟩
  · obtain ⟨w', hw', rfl⟩ := List.mem_map.1 hw
    unfold repR
    split
    · exact h2
    · exact rc w' hw'
  · obtain ⟨w', hw', rfl⟩ := List.mem_map.1 hw
    obtain ⟨v', hv', rfl⟩ := List.mem_map.1 hv
    rw [rep_id, rep_id] at hne
    unfold repR
    split
    · rename_i e1
      split
      · rename_i e2; exact absurd (e1.trans e2.symm) hne
      · rename_i e2; rw [clash_comm]; exact h4 w' hw' e2 s hs
    · rename_i e1
      split
      · exact h4 v' hv' e1 s hs
      · exact cl w' hw' v' hv' hne s hs
theorem sets_law {T X : TM} {r : RC} (h : setT T r = (X, 0)) : tabOk X = true ∧ X.rows.length = T.rows.length ∧ getT X r.id = some r ∧ (∃ old, getT T r.id = some old ∧ setT X old = (T, 0)) ∧ ∀ s, s ≠ r.id → getT X s = getT T s := by
  obtain ⟨h1, h2, h3, h4, rfl⟩ := set_ok h
  have hX := set_tab h1 h2 h4
  have tX := tabOk_iff.2 hX
  have tT := tabOk_iff.2 h1
  obtain ⟨old, ho1, ho2⟩ := (idsR_mem _ _).1 h3
  refine ⟨tX, by simp, ?_, ⟨old, ?_, ?_⟩, fun s hs => ?_⟩
  · unfold getT
    rw [if_pos tX]
    refine (fnd_some hX.up).2 ⟨List.mem_map.2 ⟨old, ho1, ?_⟩, rfl⟩
    unfold repR; rw [if_pos ho2]
  · unfold getT
    rw [if_pos tT]
    exact (fnd_some h1.up).2 ⟨ho1, ho2⟩
  · unfold setT
    have c : clT { T with rows := T.rows.map (repR r) } old = false := by
      rw [clT_no]
      intro w hw hne s hs
      obtain ⟨w', hw', rfl⟩ := List.mem_map.1 hw
      rw [rep_id] at hne
      unfold repR
      rw [if_neg (fun e => hne (e.trans ho2.symm))]
      exact h1.cl old ho1 w' hw' hne s hs
    rw [tX, h1.rcs old ho1, c, if_neg (by simp), if_neg (by show ¬ ¬ old.id ∈ idsR (T.rows.map (repR r)); rw [rep_ids, ho2]; simpa using h3), if_neg (by simp)]
    show (({ T with rows := (T.rows.map (repR r)).map (repR old) } : TM), (0 : Int)) = _
    have e : (T.rows.map (repR r)).map (repR old) = T.rows := by
      rw [List.map_map]
      conv => rhs; rw [← List.map_id T.rows]
      refine List.map_congr_left fun w hw => ?_
      show repR old (repR r w) = w
      unfold repR
      by_cases e1 : w.id = r.id
      · rw [if_pos e1, if_pos ho2.symm]
        exact (uniq_id h1.up hw ho1 (e1.trans ho2.symm)).symm
      · rw [if_neg e1, if_neg (fun e => e1 (e.trans ho2))]
    rw [e]
  · unfold getT
    rw [if_pos tX, if_pos tT]
    show fndR (T.rows.map (repR r)) s = fndR T.rows s
    unfold fndR
    rw [List.find?_map]
    have e : ((fun w : RC => decide (w.id = s)) ∘ repR r) = fun w : RC => decide (w.id = s) := by
      funext w
      show decide ((repR r w).id = s) = _
      rw [rep_id]
    rw [e]
    cases hf : T.rows.find? (fun w : RC => decide (w.id = s)) with
    | none => rfl
    | some q =>
      have q2 : q.id = s := by simpa using List.find?_some hf
      show some (repR r q) = some q
      unfold repR
      rw [if_neg (fun e => hs (q2.symm.trans e))]
theorem order_law {T X Y : TM} {a b : RC} (h : putT T a = (X, 0)) (k : putT X b = (Y, 0)) : ∃ Z, putT T b = (Z, 0) ∧ putT Z a = (Y, 0) := by
  obtain ⟨h1, h2, h3, h4, h5, rfl⟩ := put_ok h
  obtain ⟨k1, k2, k3, k4, k5, rfl⟩ := put_ok k
  have hab : b.id ≠ a.id := fun e => k3 ((idsR_mem _ _).2 ⟨a, insR_mem.2 (.inl rfl), e.symm⟩)
  have h5' : (T.rows.length : Int) < T.most := by have := h1.len; omega
  have k5' : (T.rows.length : Int) + 1 ≠ T.most := by
    have : (((insR T.rows a).length : Nat) : Int) ≠ T.most := k5
    rw [insR_len] at this; simpa using this
  have hb : ¬ b.id ∈ idsR T.rows := fun e => by
    obtain ⟨w, hw, e2⟩ := (idsR_mem _ _).1 e
    exact k3 ((idsR_mem _ _).2 ⟨w, insR_mem.2 (.inr hw), e2⟩)
  rw [clT_no] at h4 k4
  have cb : clT T b = false := clT_no.2 fun w hw hne s hs => k4 w (insR_mem.2 (.inr hw)) hne s hs
  have hZ := put_tab h1 k2 hb cb (by omega)
  have ha : ¬ a.id ∈ idsR (insR T.rows b) := fun e => by
    obtain ⟨w, hw, e2⟩ := (idsR_mem _ _).1 e
    rcases insR_mem.1 hw with rfl | hw
    · exact hab e2
    · exact h3 ((idsR_mem _ _).2 ⟨w, hw, e2⟩)
  have ca : clT { T with rows := insR T.rows b } a = false := clT_no.2 fun w hw hne s hs => by
    rcases insR_mem.1 hw with rfl | hw
    · rw [clash_comm]; exact k4 a (insR_mem.2 (.inl rfl)) (fun e => hab e.symm) s hs
    · exact h4 w hw hne s hs
  refine ⟨_, put_mk h1 k2 hb cb (by omega), ?_⟩
  have lz : (({ T with rows := insR T.rows b } : TM).rows.length : Int) ≠ T.most := by
    show (((insR T.rows b).length : Nat) : Int) ≠ T.most
    rw [insR_len]; simpa using k5'
  rw [put_mk hZ h2 ha ca lz]
  have hY := put_tab k1 k2 k3 (clT_no.2 k4) k5
  have hW := put_tab hZ h2 ha ca lz
  have e : insR (insR T.rows b) a = insR (insR T.rows a) b := rows_ext hW.up hY.up fun w => by
    rw [insR_mem, insR_mem, insR_mem, insR_mem]
    constructor
    · rintro (h | h | h)
      · exact .inr (.inl h)
      · exact .inl h
      · exact .inr (.inr h)
    · rintro (h | h | h)
      · exact .inr (.inl h)
      · exact .inl h
      · exact .inr (.inr h)
  show (({ T with rows := insR (insR T.rows b) a } : TM), (0 : Int)) = _
  rw [e]
/-- The errors of Put. -/
theorem put_err (T : TM) (r : RC) : (putT T r).2 ≠ 0 → (putT T r).1 = zT := by
  unfold putT
  split
  · intro _; rfl
  · split
    · intro _; rfl
    · split
      · intro _; rfl
      · intro h; exact absurd rfl h
theorem set_err (T : TM) (r : RC) : (setT T r).2 ≠ 0 → (setT T r).1 = zT := by
  unfold setT
  split
  · intro _; rfl
  · split
    · intro _; rfl
    · split
      · intro _; rfl
      · intro h; exact absurd rfl h
theorem put_z (r : RC) : putT zT r = (zT, 8) := by
  unfold putT
  rw [zT_no, if_pos (by simp)]
end Go.Proofs.YtfigebepeniikaaGreat
/- Layer 3: Twin, Sub. -/
namespace Go.Proofs.YtfigebepeniikaaGreat
open Go.RowKit Go.Maps
theorem cv_news {w : World} {b off n : Nat} {g : Nat → CR} (h : CV w (some ⟨b, off, none⟩) n g) : ∀ j u, (rw5 (cut g 0 n))[j]? = some u → w.cell? ((⟨b, off, none⟩ : Addr).add j) = some u := by
  intro j u hj
  have hlt := (List.getElem?_eq_some_iff.1 hj).1
  rw [rw5_len, cut_len, Nat.sub_zero] at hlt
  have hi : j / 5 < n := by omega
  obtain ⟨_, c0, c1, c2, c3, c4⟩ := h.at_ hi
  obtain ⟨a0, a1, a2, a3, a4⟩ := rw5_at (cut g 0 n) (j / 5) (by rw [cut_len]; omega)
  have eg : gl (cut g 0 n) (j / 5) = g (j / 5) := by rw [cut_at g 0 n _ (by omega), Nat.zero_add]
  rw [eg] at a0 a1 a2 a3 a4
  rw [Addr.add_lit]
  show w.cell? ⟨b, off + j, none⟩ = some u
  rcases (by omega : j = j / 5 * 5 ∨ j = j / 5 * 5 + 1 ∨ j = j / 5 * 5 + 2 ∨ j = j / 5 * 5 + 3 ∨ j = j / 5 * 5 + 4) with e | e | e | e | e
  · rw [e] at hj ⊢; rw [a0] at hj; rw [c0]; exact hj
  · rw [e] at hj ⊢; rw [a1] at hj; rw [← Nat.add_assoc, c1]; exact hj
  · rw [e] at hj ⊢; rw [a2] at hj; rw [← Nat.add_assoc, c2]; exact hj
  · rw [e] at hj ⊢; rw [a3] at hj; rw [← Nat.add_assoc, c3]; exact hj
  · rw [e] at hj ⊢; rw [a4] at hj; rw [← Nat.add_assoc, c4]; exact hj
theorem rw5_one (L : List CR) : ∀ u ∈ rw5 L, u.oneCell' = true := by
  intro u hu
  unfold rw5 at hu
  obtain ⟨c, _, hc⟩ := List.mem_flatMap.1 hu
  simp at hc
  rcases hc with rfl | rfl | rfl | rfl | rfl <;> rfl
/-- Twin, whichever of the two. -/
def TwinPost (w : World) (n : Nat) (g : Nat → CR) (r : Ending) (w' : World) : Prop := ∃ v, r = .returned v ∧ w'.ownsRow w.heap.size 47 5 v n (rw5 (cut g 0 n)) ∧ Below w.heap.size w w'
set_option maxRecDepth 20000 in
theorem rtwin_any (a : Option Addr) (n cap : Nat) (g : Nat → CR) (w : World) (hv : CV w a n g) (hn : n ≤ 1000000) (ha : a = none → n = 0 ∧ cap = 0) : Calls Tryz.prog 47 #[.slice a n cap] w (TwinPost w n g) := by
  obtain ⟨i0, hi, hz0, hz1, hz2⟩ := infoC
  have HO := Lib.hid (World.ownsRow_nil w w.heap.size 47 5)
  cases a with
  | none =>
    obtain ⟨rfl, rfl⟩ := ha rfl
    clear hv ha
    go_enter Tryz.func47, Tryz.ntmps47
    go_wp2_with (at_builtin; refine wpList_append_own_none rfl _ _ 26 rfl w.heap.size 47 i0 5 Tryz.underlying26 hi hz1 (.slice none 0 0) 0 [] rfl HO.out rfl ?_)
    go_ret
    exact ⟨_, rfl, HO.out, Below.refl _ _⟩
  | some ad =>
    by_cases h0 : n = 0
    · subst h0
      clear hv ha
      go_enter Tryz.func47, Tryz.ntmps47
      go_wp2_with (at_builtin; refine wpList_append_own _ rfl _ _ 26 rfl w.heap.size 47 i0 (.agg #[.int .u8 0, .string ⟨#[]⟩, .string ⟨#[]⟩, .int .i64 0, .int .i64 0]) 5 56 Tryz.underlying26 hi hz0 hz1 hz2 rfl (by decide) (.slice none 0 0) 0 [] rfl HO.out ad 0 cap [] rfl rfl (fun j u hj => by simp at hj) (fun u hu => by simp at hu) (by decide) (by decide) (Nat.le_refl _) ?_; intro v1 w1 ho1 hg1 _)
      have B1 : Hid (Below w.heap.size w w1) := Lib.hid ((Below.refl w.heap.size w).grown hg1 (Nat.le_refl _) (fun q hq => by simp [Value.ownBlock] at hq))
      go_wp2_with fail
      go_ret
      exact ⟨_, rfl, ho1, B1.out⟩
    · obtain ⟨b, off, he⟩ := hv.addr (by omega)
      cases he
      have HN := Lib.hid (cv_news hv)
      have HL : Hid ((rw5 (cut g 0 n)).length = n * 5) := Lib.hid (by rw [rw5_len, cut_len, Nat.sub_zero])
      have H1 := Lib.hid (rw5_one (cut g 0 n))
      obtain ⟨L, hL⟩ : ∃ L, L = rw5 (cut g 0 n) := ⟨_, rfl⟩
      rw [← hL] at HN HL H1
      replace hL := Lib.hid hL
      clear hv ha
      go_enter Tryz.func47, Tryz.ntmps47
      go_wp2_with (at_builtin; refine wpList_append_own _ rfl _ _ 26 rfl w.heap.size 47 i0 (.agg #[.int .u8 0, .string ⟨#[]⟩, .string ⟨#[]⟩, .int .i64 0, .int .i64 0]) 5 56 Tryz.underlying26 hi hz0 hz1 hz2 rfl (by decide) (.slice none 0 0) 0 [] rfl HO.out ⟨b, off, none⟩ n cap L rfl HL.out HN.out H1.out (by unfold maxLen; omega) (by omega) (Nat.le_refl _) ?_; intro v1 w1 ho1 hg1 _)
      have B1 : Hid (Below w.heap.size w w1) := Lib.hid ((Below.refl w.heap.size w).grown hg1 (Nat.le_refl _) (fun q hq => by simp [Value.ownBlock] at hq))
      have O1 : Hid (w1.ownsRow w.heap.size 47 5 v1 n (rw5 (cut g 0 n))) := Lib.hid (by rw [← hL.out]; simpa using ho1)
      clear ho1 hg1
      go_wp2_with fail
      go_ret
      exact ⟨_, rfl, O1.out, B1.out⟩
end Go.Proofs.YtfigebepeniikaaGreat
/- Layer 3: a name written into a row; Sub. -/
namespace Go.Proofs.YtfigebepeniikaaGreat
open Go.RowKit Go.Maps
/-- The cells, one's name aside. -/
def setNm (L : List CR) (i : Nat) (s : ByteArray) : List CR := L.modify i fun c => { c with nm := s }
theorem setNm_len (L : List CR) (i : Nat) (s : ByteArray) : (setNm L i s).length = L.length := by simp [setNm]
theorem setNm_zero (L : List CR) (s : ByteArray) : setNm L 0 s = ren s L := by cases L <;> rfl
theorem rw5_set : ∀ (L : List CR) (i : Nat) (s : ByteArray), i < L.length → (rw5 L).set (i * 5 + 1) (.string s) = rw5 (setNm L i s)
  | [], i, s, h => by simp at h
  | c :: L, 0, s, h => by
    unfold setNm
    rw [rw5_cons]
    rfl
  | c :: L, i + 1, s, h => by
    have ih := rw5_set L i s (by simpa using h)
    have e : setNm (c :: L) (i + 1) s = c :: setNm L i s := rfl
    rw [e, rw5_cons, rw5_cons, ← ih, show (i + 1) * 5 + 1 = (i * 5 + 1) + 5 by omega]
    rfl
theorem own_set {w : World} {B q n cap i : Nat} {L : List CR} (h : w.ownsRow B 47 5 (.slice (some ⟨q, 0, none⟩) n cap) n (rw5 L)) (hl : L.length = n) (hi : i < n) (s : ByteArray) :
    (w.setCell ⟨q, i * 5 + 1, none⟩ (.string s)).ownsRow B 47 5 (.slice (some ⟨q, 0, none⟩) n cap) n (rw5 (setNm L i s)) := by
  refine ⟨by rw [rw5_len, setNm_len, hl], ?_⟩
  rcases h.2 with ⟨h', _⟩ | ⟨g', cap', cur, h', hb, hg, h1, h2, h3, h4⟩
  · simp at h'
  · simp only [Value.slice.injEq, Option.some.injEq, Addr.mk.injEq, and_true, true_and] at h'
    obtain ⟨rfl, rfl⟩ := h'
    refine .inr ⟨q, cap, cur.setIfInBounds (i * 5 + 1) (.string s), rfl, hb, ?_, h1, h2, by simpa using h3, ?_⟩
    · simp [World.setCell, Array.getElem?_modify, hg]
    · rw [Array.toList_setIfInBounds, List.take_set, h4]
      exact rw5_set L i s (by omega)
theorem own_cellq {w : World} {B q n cap i : Nat} {L : List CR} (h : w.ownsRow B 47 5 (.slice (some ⟨q, 0, none⟩) n cap) n (rw5 L)) (hi : i < n) (hl : L.length = n) : w.cell? ⟨q, i * 5 + 1, none⟩ = some (.string (gl L i).nm) ∧ w.frozen? ⟨q, i * 5 + 1, none⟩ = false := by
  refine ⟨?_, ?_⟩
  · rw [h.cellAt _ (by omega)]
    exact (rw5_at L i (by omega)).2.1
  · rcases h.2 with ⟨h', _⟩ | ⟨g', cap', cur, h', hb, hg, h1, h2, h3, h4⟩
    · simp at h'
    · simp only [Value.slice.injEq, Option.some.injEq, Addr.mk.injEq, and_true, true_and] at h'
      obtain ⟨rfl, rfl⟩ := h'
      simp [World.frozen?, hg]
theorem own_addr {w : World} {B n : Nat} {v : Value} {xs : List Value} {e : TypeId} {sz : Nat} (h : w.ownsRow B e sz v n xs) (h0 : 0 < n) : ∃ q cap, v = .slice (some ⟨q, 0, none⟩) n cap ∧ B ≤ q ∧ q < w.heap.size := by
  rcases h.2 with ⟨_, hn⟩ | ⟨q, cap, cur, rfl, hb, hg, _⟩
  · omega
  · exact ⟨q, cap, rfl, hb, (Array.getElem?_eq_some_iff.1 hg).1⟩
theorem CV.part {w : World} {b off n : Nat} {g : Nat → CR} (h : CV w (some ⟨b, off, none⟩) n g) (p e : Nat) (he : e ≤ n) : CV w (some ⟨b, off + p * 5, none⟩) (e - p) (fun i => g (p + i)) := fun i hi => by
  obtain ⟨h0, c0, c1, c2, c3, c4⟩ := h.at_ (i := p + i) (by omega)
  rw [show off + (p + i) * 5 = off + p * 5 + i * 5 by omega] at c0 c1 c2 c3 c4
  exact ⟨b, off + p * 5, rfl, h0, c0, c1, c2, c3, c4⟩
theorem cut_part (g : Nat → CR) (p e : Nat) : cut (fun i => g (p + i)) 0 (e - p) = cut g p e := by
  unfold cut
  simp
end Go.Proofs.YtfigebepeniikaaGreat
/- Layer 3: gather. -/
namespace Go.Proofs.YtfigebepeniikaaGreat
open Go.RowKit Go.Maps
/-- Values that came in. -/
structure LIn (w : World) (la : Option Addr) (ln : Nat) (ad : Nat → Option Addr) (len cp : Nat → Nat) (G : Nat → Nat → CR) : Prop where
  at_ : ∀ i, i < ln → ∃ b off, la = some ⟨b, off, none⟩ ∧ b < w.heap.size ∧ w.cell? ⟨b, off + i, none⟩ = some (.slice (ad i) (len i) (cp i))
  cv : ∀ i, i < ln → CV w (ad i) (len i) (G i)
theorem LIn.below {w w' : World} {la : Option Addr} {ln : Nat} {ad : Nat → Option Addr} {len cp : Nat → Nat} {G : Nat → Nat → CR} (h : LIn w la ln ad len cp G) (hb : Below w.heap.size w w') : LIn w' la ln ad len cp G :=
  ⟨fun i hi => by
    obtain ⟨b, off, e, h1, h2⟩ := h.at_ i hi
    exact ⟨b, off, e, Nat.lt_of_lt_of_le h1 hb.size, (hb.cell (p := ⟨b, _, none⟩) h1).trans h2⟩, fun i hi => (h.cv i hi).below hb⟩
/-- Names that came in. -/
def NV (w : World) (a : Option Addr) (n : Nat) (s : Nat → ByteArray) : Prop := ∀ i, i < n → ∃ b off, a = some ⟨b, off, none⟩ ∧ b < w.heap.size ∧ w.cell? ⟨b, off + i, none⟩ = some (.string (s i))
theorem NV.below {w w' : World} {a : Option Addr} {n : Nat} {s : Nat → ByteArray} (h : NV w a n s) (hb : Below w.heap.size w w') : NV w' a n s := fun i hi => by
  obtain ⟨b, off, e, h1, h2⟩ := h i hi
  exact ⟨b, off, e, Nat.lt_of_lt_of_le h1 hb.size, (hb.cell (p := ⟨b, _, none⟩) h1).trans h2⟩
/-- The i-th value, under its name. -/
def lsF (k : Nat) (s : Nat → ByteArray) (len : Nat → Nat) (G : Nat → Nat → CR) (i : Nat) : List CR := if k = 7 then ren (s i) (cut (G i) 0 (len i)) else cut (G i) 0 (len i)
def hdC (k ln : Nat) : CR := ⟨k, ⟨#[]⟩, ⟨#[]⟩, 0, ln⟩
def preL (k ln : Nat) (s : Nat → ByteArray) (len : Nat → Nat) (G : Nat → Nat → CR) (i : Nat) : List CR := hdC k ln :: ((List.range i).map (lsF k s len G)).flatten
theorem pre_succ (k ln : Nat) (s : Nat → ByteArray) (len : Nat → Nat) (G : Nat → Nat → CR) (i : Nat) : preL k ln s len G (i + 1) = preL k ln s len G i ++ lsF k s len G i := by
  unfold preL
  rw [List.range_succ, List.map_append, List.flatten_append]
  simp
theorem ls_len (k : Nat) (s : Nat → ByteArray) (len : Nat → Nat) (G : Nat → Nat → CR) (i : Nat) : (lsF k s len G i).length = len i := by
  unfold lsF
  split
  · rw [ren_len, cut_len, Nat.sub_zero]
  · rw [cut_len, Nat.sub_zero]
theorem set_app (L M : List CR) (s : ByteArray) : setNm (L ++ M) L.length s = L ++ ren s M := by
  induction L with
  | nil => cases M <;> rfl
  | cons x L ih =>
    show x :: setNm (L ++ M) L.length s = x :: (L ++ ren s M)
    rw [ih]
/-- The error of gather. -/
def gE (k ln : Nat) (s : Nat → ByteArray) (len : Nat → Nat) (G : Nat → Nat → CR) : Int :=
  if 2048 < ln then 4 else if (List.range ln).all (fun i => ckC (G i) (len i)) then eC (ckL (preL k ln s len G ln)) else 8
def GP (w : World) (e : Int) (L : List CR) (r : Ending) (w' : World) : Prop :=
  ∃ v, r = .returned (.tuple #[v, .int .i64 e]) ∧ (e ≠ 0 → v = .slice none 0 0) ∧ (e = 0 → w'.ownsRow w.heap.size 47 5 v L.length (rw5 L)) ∧ Below w.heap.size w w'
theorem GP.bad {w w' : World} {e z : Int} {L : List CR} (he : e = z) (hz : z ≠ 0) (hb : Below w.heap.size w w') : GP w e L (.returned (.tuple #[.slice none 0 0, .int .i64 z])) w' := by
  subst he; exact ⟨_, rfl, fun _ => rfl, fun h => absurd h hz, hb⟩
theorem GP.ok {w w' : World} {e : Int} {L : List CR} {v : Value} (he : e = 0) (ho : w'.ownsRow w.heap.size 47 5 v L.length (rw5 L)) (hb : Below w.heap.size w w') : GP w e L (.returned (.tuple #[v, .int .i64 0])) w' := by
  subst he; exact ⟨_, rfl, fun h => absurd rfl h, fun _ => ho, hb⟩
end Go.Proofs.YtfigebepeniikaaGreat
/- Layer 3: what is put together of values, taken apart again (plain); Items, Members. -/
namespace Go.Proofs.YtfigebepeniikaaGreat
open Go.RowKit Go.Maps
theorem ck_cut {g : Nat → CR} {n : Nat} (h : ckC g n = true) : ckL (cut g 0 n) = true := by
  obtain ⟨k1, k2, k3, k4⟩ := ckC_parts h
  have hl : (cut g 0 n).length = n := by rw [cut_len, Nat.sub_zero]
  have hat : ∀ t, t < n → gl (cut g 0 n) t = g t := fun t ht => by rw [cut_at g 0 n t (by omega), Nat.zero_add]
  unfold ckL
  rw [hl]
  refine ckC_mk k1 k2 (by rw [hat 0 k1]; exact k3) ?_
  have k := wk_shift (g1 := g) (n1 := n) (s1 := 0) (g2 := gl (cut g 0 n)) (n2 := n) (s2 := 0) 16 0 n (by simpa using k4) ?_ (by omega)
  · simpa using k
  · intro t _ ht
    rw [Nat.add_zero, hat t ht]
    exact ⟨rfl, rfl, rfl, rfl, fun _ => rfl⟩
/-- The values' lists; the same under their names. -/
def vsL (ln : Nat) (len : Nat → Nat) (G : Nat → Nat → CR) : List (List CR) := (List.range ln).map fun i => cut (G i) 0 (len i)
def lsL (k ln : Nat) (s : Nat → ByteArray) (len : Nat → Nat) (G : Nat → Nat → CR) : List (List CR) := (List.range ln).map (lsF k s len G)
theorem pre_under (k ln : Nat) (s : Nat → ByteArray) (len : Nat → Nat) (G : Nat → Nat → CR) : preL k ln s len G ln = under (hdC k ln) (lsL k ln s len G) := rfl
theorem vs_len (ln : Nat) (len : Nat → Nat) (G : Nat → Nat → CR) : (vsL ln len G).length = ln := by simp [vsL]
theorem ls_len2 (k ln : Nat) (s : Nat → ByteArray) (len : Nat → Nat) (G : Nat → Nat → CR) : (lsL k ln s len G).length = ln := by simp [lsL]
theorem vs_at (ln : Nat) (len : Nat → Nat) (G : Nat → Nat → CR) (i : Nat) (h : i < (vsL ln len G).length) : (vsL ln len G)[i] = cut (G i) 0 (len i) := by simp [vsL]
theorem ls_at (k ln : Nat) (s : Nat → ByteArray) (len : Nat → Nat) (G : Nat → Nat → CR) (i : Nat) (h : i < (lsL k ln s len G).length) : (lsL k ln s len G)[i] = lsF k s len G i := by simp [lsL]
/-- Where the i-th begins, in what was put together. -/
def plF (k ln : Nat) (s : Nat → ByteArray) (len : Nat → Nat) (G : Nat → Nat → CR) (i : Nat) : Nat := bd (gl (preL k ln s len G ln)) (preL k ln s len G ln).length (0 + 1) i
theorem put_facts (k : Nat) (hk : k = 6 ∨ k = 7) (ln : Nat) (s : Nat → ByteArray) (len : Nat → Nat) (G : Nat → Nat → CR) (hck : ∀ i, i < ln → ckC (G i) (len i) = true) (hL : ckL (preL k ln s len G ln) = true) :
    (gl (preL k ln s len G ln) 0).m.toNat = ln ∧ (gl (preL k ln s len G ln) 0).k = k ∧ ∀ i, i < ln → plF k ln s len G i < (preL k ln s len G ln).length ∧ ren ⟨#[]⟩ (cut (gl (preL k ln s len G ln)) (plF k ln s len G i) (nx (gl (preL k ln s len G ln)) (preL k ln s len G ln).length (plF k ln s len G i))) = cut (G i) 0 (len i) ∧ nx (gl (preL k ln s len G ln)) (preL k ln s len G ln).length (plF k ln s len G i) - plF k ln s len G i = len i ∧ (k = 7 → memP (gl (preL k ln s len G ln)) (preL k ln s len G ln).length 0 (s i) = some (plF k ln s len G i)) := by
  have hm : (gl (preL k ln s len G ln) 0).m.toNat = ln := by
    show ((ln : Int)).toNat = ln
    exact Int.toNat_natCast _
  have hk0 : (gl (preL k ln s len G ln) 0).k = k := rfl
  refine ⟨hm, hk0, ?_⟩
  have hvs : ∀ i (h2 : i < (vsL ln len G).length), ckL (vsL ln len G)[i] = true := fun i h2 => by
    rw [vs_at]
    exact ck_cut (hck i (by rw [vs_len] at h2; exact h2))
  have hl : (lsL k ln s len G).length = (vsL ln len G).length := by rw [ls_len2, vs_len]
  have hr : ∀ i (h1 : i < (lsL k ln s len G).length) (h2 : i < (vsL ln len G).length), ∃ t, (lsL k ln s len G)[i] = ren t (vsL ln len G)[i] := fun i h1 h2 => by
    rw [ls_at, vs_at]
    unfold lsF
    rcases hk with e | e
    · rw [if_neg (by omega)]
      refine ⟨⟨#[]⟩, (ren_self ?_).symm⟩
      have := hvs i h2
      rw [vs_at] at this
      exact em_eq (ckC_parts this).2.2.1
    · rw [if_pos e]
      exact ⟨s i, rfl⟩
  have e1 : ∀ i, i ≤ ln → plF k ln s len G i = st 1 (lsL k ln s len G) i := fun i hi => by
    unfold plF
    rw [pre_under]
    exact under_bd (hdC k ln) (vsL ln len G) (lsL k ln s len G) hl hr hvs i (by rw [ls_len2]; exact hi)
  have w1 := under_wk (hdC k ln) (vsL ln len G) (lsL k ln s len G) hl hr hvs
  rw [← pre_under] at w1
  intro i hi
  have hi2 : i < (lsL k ln s len G).length := by rw [ls_len2]; exact hi
  have hi3 : i < (vsL ln len G).length := by rw [vs_len]; exact hi
  have hw := w1 i hi2
  have hlt := wk_lt _ _ _ hw
  have hn : nx (gl (preL k ln s len G ln)) (preL k ln s len G ln).length (plF k ln s len G i) = st 1 (lsL k ln s len G) (i + 1) := e1 (i + 1) (by omega)
  have hsub := under_sub (hdC k ln) (vsL ln len G) (lsL k ln s len G) hl hr hvs i hi2 hi3
  rw [← pre_under, vs_at] at hsub
  rw [hn, e1 i (by omega)]
  refine ⟨by omega, hsub, ?_, ?_⟩
  · have := congrArg List.length hsub
    rw [ren_len, cut_len, cut_len] at this
    omega
  · intro h7
    obtain ⟨c1, c2, c3, c4⟩ := ckC_parts hL
    unfold memP
    have hp0 : plE (gl (preL k ln s len G ln)) (preL k ln s len G ln).length 0 = 0 := by
      unfold plE
      have hL' : ckC (gl (preL k ln s len G ln)) (preL k ln s len G ln).length = true := hL
      rw [if_pos hL', if_pos (by omega)]
    rw [if_pos ⟨hp0, by show k = 7; exact h7⟩]
    show mbF _ _ (plF k ln s len G) (gl (preL k ln s len G ln) 0).m.toNat = _
    have nmAt : ∀ j, j < ln → (gl (preL k ln s len G ln) (plF k ln s len G j)).nm = s j := fun j hj => by
      have hj2 : j < (lsL k ln s len G).length := by rw [ls_len2]; exact hj
      have hj3 : j < (vsL ln len G).length := by rw [vs_len]; exact hj
      have hw' := wk_lt _ _ _ (w1 j hj2)
      have hpos := (ckC_parts (hvs j hj3)).1
      rw [vs_at, cut_len, Nat.sub_zero] at hpos
      rw [e1 j (by omega), pre_under]
      have u := under_at (hdC k ln) (lsL k ln s len G) j 0 hj2 (by rw [ls_at, ls_len]; exact hpos)
      rw [Nat.add_zero] at u
      rw [u, ls_at]
      unfold lsF
      rw [if_pos h7]
      exact ren_nm _ _ (by rw [cut_len, Nat.sub_zero]; exact hpos)
    have hap := names_apart (Nat.le_refl 16) c4 (by show k = 7; exact h7) i (by rw [hm]; exact hi)
    rw [hm, mbF_some (i := i) hi (fun j hj => ?_) (nmAt i hi)]
    · rw [← e1 i (by omega)]
    · have := hap.2 j hj
      intro hh
      exact this (hh.trans (nmAt i hi).symm)
theorem gE_ok {k ln : Nat} {s : Nat → ByteArray} {len : Nat → Nat} {G : Nat → Nat → CR} (h : gE k ln s len G = 0) : ln ≤ 2048 ∧ (∀ i, i < ln → ckC (G i) (len i) = true) ∧ ckL (preL k ln s len G ln) = true := by
  unfold gE at h
  split at h
  · cases h
  · rename_i h1
    split at h
    · rename_i h2
      refine ⟨by omega, fun i hi => List.all_eq_true.1 h2 i (List.mem_range.2 hi), ?_⟩
      cases hc : ckL (preL k ln s len G ln) with
      | true => rfl
      | false => rw [hc] at h; cases h
    · cases h
theorem own_cvc {w : World} {B n : Nat} {v : Value} {L : List CR} (hl : L.length = n) (h : w.ownsRow B 47 5 v n (rw5 L)) (h0 : 0 < n) : ∃ q cap, v = .slice (some ⟨q, 0, none⟩) n cap ∧ n ≤ cap ∧ CV w (some ⟨q, 0, none⟩) n (gl L) ∧ B ≤ q ∧ q < w.heap.size := by
  rcases h.2 with ⟨rfl, hn⟩ | ⟨q, cap, cur, rfl, hg, hgg, h1, h2, h3, h4⟩
  · omega
  · exact ⟨q, cap, rfl, h1, cv_of hl (Array.getElem?_eq_some_iff.1 hgg).1 (fun j hj => h.cellAt j hj), hg, (Array.getElem?_eq_some_iff.1 hgg).1⟩
/-- The error of Members. -/
def mE (nn ln : Nat) (s : Nat → ByteArray) (len : Nat → Nat) (G : Nat → Nat → CR) : Int := if nn = ln then gE 7 ln s len G else 2
end Go.Proofs.YtfigebepeniikaaGreat
/- Layer 5's calls: Compare, Check, find, Find. -/
namespace Go.Proofs.YtfigebepeniikaaGreat.Ord
open Go.RowKit Go.Shelf
theorem compare_any (a b : ByteArray) (w : World) :
    Calls Tryz.prog 65 #[.string a, .string b] w fun e w' => e = .returned (.int .i64 (Lib.compareBytes a.data.toList b.data.toList)) ∧ w = w' := by
  go_enter Tryz.func65, Tryz.ntmps65
  go_wp2_with (first | (go_at_call 94; refine (Any.strings_Compare Tryz.compareS a b _).mono ?_; rintro e w' ⟨rfl, rfl⟩) | go_in)
  go_ret
  exact ⟨rfl, rfl⟩
theorem ret_int {k : IntKind} {a b : Int} (h : a = b) : Ending.returned (.int k a) = .returned (.int k b) := by rw [h]
theorem ret_bool {a b : Bool} (h : a = b) : Ending.returned (.bool a) = .returned (.bool b) := by rw [h]

/-- A slice of strings that can be read. -/
def SView (w : World) (a : Option Addr) (len : Nat) (L : List ByteArray) : Prop :=
  L.length = len ∧ ∀ k, k < len → ∃ b off, a = some ⟨b, off, none⟩ ∧ b < w.heap.size ∧ w.cell? ⟨b, off + k, none⟩ = some (.string (nth L k))
theorem SView.below {w w' : World} {a : Option Addr} {len : Nat} {L : List ByteArray} (h : SView w a len L) (hb : Below w.heap.size w w') : SView w' a len L := by
  refine ⟨h.1, fun k hk => ?_⟩
  obtain ⟨b, off, he, hlt, hx⟩ := h.2 k hk
  exact ⟨b, off, he, Nat.lt_of_lt_of_le hlt hb.size, (hb.cell (p := ⟨b, off + k, none⟩) hlt).trans hx⟩
theorem cmp_any (a b : ByteArray) (w : World) : Calls Tryz.prog 65 #[.string a, .string b] w fun e w' => e = .returned (.int .i64 (cmpB a b)) ∧ w = w' := compare_any a b w
theorem cmp_same (a b : ByteArray) (w : World) : Calls Tryz.prog 65 #[.string a, .string b] w fun e w' => e = .returned (.int .i64 (cmpB a b)) ∧ w' = w := (compare_any a b w).mono fun _ _ h => ⟨h.1, h.2.symm⟩
theorem check_any (a : Option Addr) (len cap : Nat) (L : List ByteArray) (w : World) (hv : SView w a len L) :
    Calls Tryz.prog 39 #[.slice a len cap] w fun e w' => e = .returned (.int .i64 (chE L)) ∧ Below w.heap.size w w' := by
  obtain ⟨hL, hc⟩ := hv
  by_cases h1 : 4096 < len
  · have hE := Lib.hid (show chE L = 8 by unfold chE; rw [if_pos (by omega)])
    clear hc hL
    go_enter Tryz.func39, Tryz.ntmps39
    go_wp2_with fail
    go_ret
    exact ⟨ret_int hE.out.symm, Below.refl _ _⟩
  by_cases hz : len ≤ 1
  · have hE := Lib.hid (show chE L = 0 by unfold chE; rw [if_neg (by omega), show L.length - 1 = 0 by omega]; rfl)
    clear hc hL
    go_enter Tryz.func39, Tryz.ntmps39
    go_wp2_with fail
    refine wp_loop_rounds 1 ?_
    rw [rounds_succ]
    go_wp2_with fail
    go_ret
    exact ⟨ret_int hE.out.symm, Below.refl _ _⟩
  · obtain ⟨b, off, rfl, hxb, _⟩ := hc 0 (by omega)
    have HC : Hid (∀ k, k < len → w.cell? ⟨b, off + k, none⟩ = some (.string (nth L k))) := Lib.hid (fun k hk => by
      obtain ⟨b', off', he, _, hx⟩ := hc k hk
      simp only [Option.some.injEq, Addr.mk.injEq, and_true] at he
      obtain ⟨rfl, rfl⟩ := he
      exact hx)
    have HG : Hid (rises L (len - 1) = true → chE L = 0) := Lib.hid (fun h => by unfold chE; rw [if_neg (by omega), hL, h]; rfl)
    have HN : Hid (rises L (len - 1) = false → chE L = 8) := Lib.hid (fun h => by unfold chE; rw [if_neg (by omega), hL, h]; rfl)
    clear hc hL
    go_enter Tryz.func39, Tryz.ntmps39
    go_wp2_with fail
    go_loopw [3] (fun i wr => ∃ k : Nat, k + 1 ≤ len ∧ i = .int .i64 ((k : Int) + 1) ∧ rises L k = true ∧ Below w.heap.size w wr) (fun i _ => len - (intOf i).toNat)
    case atStart => exact ⟨0, by omega, rfl, rfl, Below.refl _ _⟩
    case round =>
      obtain ⟨k, hk, rfl, hr, hb⟩ := hrel
      by_cases hlt : k + 1 < len
      · have c0 := (hb.cell (p := ⟨b, off + k, none⟩) hxb).trans (HC.out k (by omega))
        have c1 := (hb.cell (p := ⟨b, off + (k + 1), none⟩) hxb).trans (HC.out (k + 1) hlt)
        obtain ⟨x, hx⟩ : ∃ x, x = nth L k := ⟨_, rfl⟩
        obtain ⟨y, hy⟩ : ∃ y, y = nth L (k + 1) := ⟨_, rfl⟩
        rw [← hx] at c0
        rw [← hy] at c1
        by_cases hlt2 : cmpB x y < 0
        · have HR : Hid (rises L (k + 1) = true) := Lib.hid (by simp only [rises, hr, ← hx, ← hy, Bool.true_and, decide_eq_true_eq]; exact hlt2)
          have hd : decide (0 ≤ cmpB x y) = false := by simp; omega
          have HB := Lib.hid hb
          clear hx hy hb hr hlt2
          have hk0 : k < len := by omega
          have hk2 : len ≤ 4096 := by omega
          have hw : IntKind.i64.wrap ((k : Int) + 1 - 1) = k := by rw [IntKind.wrap_i64]; omega
          go_wp2_with fail
          go_quiet (first | (go_at_call 65; exact Calls.quiet_of_same (cmp_same _ _ _)))
          go_wp2_with fail
          go_roundw
          case rel => exact ⟨k + 1, by omega, by go_num, HR.out, below_drewN HB.out _⟩
          case measure => simp [intOf]; omega
        · have HR : Hid (rises L (len - 1) = false) := Lib.hid (by
            cases hh : rises L (len - 1)
            · rfl
            · have := rises_le (j := k + 1) (by omega) hh
              simp only [rises, Bool.and_eq_true, decide_eq_true_eq, ← hx, ← hy] at this
              exact absurd this.2 hlt2)
          have hd : decide (0 ≤ cmpB x y) = true := by simp; omega
          have HB := Lib.hid hb
          clear hx hy hb hr hlt2
          have hk0 : k < len := by omega
          have hk2 : len ≤ 4096 := by omega
          have hw : IntKind.i64.wrap ((k : Int) + 1 - 1) = k := by rw [IntKind.wrap_i64]; omega
          go_wp2_with fail
          go_quiet (first | (go_at_call 65; exact Calls.quiet_of_same (cmp_same _ _ _)))
          go_wp2_with fail
          go_ret
          exact ⟨ret_int (HN.out HR.out).symm, below_drewN HB.out _⟩
      · obtain rfl : len = k + 1 := by omega
        have HB := Lib.hid hb
        have HR := Lib.hid hr
        clear hb hr
        go_wp2_with fail
        go_ret
        exact ⟨ret_int (HG.out HR.out).symm, HB.out⟩
set_option maxHeartbeats 1600000 in
theorem find_any (a : Option Addr) (len cap : Nat) (L : List ByteArray) (s : ByteArray) (w : World) (hv : SView w a len L) (hlen : len ≤ 4096) (hr : rises L (L.length - 1) = true) :
    Calls Tryz.prog 67 #[.slice a len cap, .string s] w fun e w' => (∃ (k : Nat) (is : Bool), e = .returned (.tuple #[.int .i64 (k : Int), .bool is]) ∧ At L s k is) ∧ w = w' := by
  obtain ⟨hL, hc⟩ := hv
  by_cases hz : len = 0
  · subst hz
    have HA : Hid (At L s 0 false) := Lib.hid ⟨by omega, fun j hj => by omega, fun h => by simp at h, fun _ j _ hj => by omega⟩
    clear hc hL hr
    go_enter Tryz.func67, Tryz.ntmps67
    go_wp2_with fail
    go_step3
    go_wp2_with fail
    go_step3
    go_wp2_with fail
    rw [Exit.noGoto_ret]
    go_ret2
    exact ⟨⟨0, false, rfl, HA.out⟩, rfl⟩
  · obtain ⟨b, off, rfl, hxb, _⟩ := hc 0 (by omega)
    have HC : Hid (∀ k, k < len → w.cell? ⟨b, off + k, none⟩ = some (.string (nth L k))) := Lib.hid (fun k hk => by
      obtain ⟨b', off', he, _, hx⟩ := hc k hk
      simp only [Option.some.injEq, Addr.mk.injEq, and_true] at he
      obtain ⟨rfl, rfl⟩ := he
      exact hx)
    have HR := Lib.hid hr
    have HL := Lib.hid hL
    clear hc hL hr
    go_enter Tryz.func67, Tryz.ntmps67
    go_wp2_with fail
    refine wp_scope_jumps 0 (fun a' w' => w' = w ∧ ∃ (f t : Nat) (u2 u3 u4 u5 u8 u9 u10 u11 u12 u13 u14 u15 u16 u17 u18 u19 u20 u21 u22 u23 u24 u25 u26 u27 u28 u29 u30 u31 u32 u33 u34 : Value), a' = { tmps := #[.slice (some ⟨b, off, none⟩) len cap, .string s, u2, u3, u4, u5, .int .i64 (f : Int), .int .i64 (t : Int), u8, u9, u10, u11, u12, u13, u14, u15, u16, u17, u18, u19, u20, u21, u22, u23, u24, u25, u26, u27, u28, u29, u30, u31, u32, u33, u34], defers := [] } ∧ f ≤ t ∧ t ≤ len ∧ (∀ j, j < f → cmpB (nth L j) s < 0) ∧ (∀ j, t ≤ j → j < len → 0 < cmpB (nth L j) s)) (fun a' _ => (intOf (a'.tmps.getD 7 undef)).toNat - (intOf (a'.tmps.getD 6 undef)).toNat) rfl ?_ ?_
    · skip
      obtain ⟨d, hd, hd2⟩ : ∃ d : Nat, ((len : Nat) : Int).tdiv 2 = (d : Int) ∧ d < len := ⟨len / 2, by rw [Int.tdiv_eq_ediv_of_nonneg (by omega)]; omega, by omega⟩
      have hx := HC.out d (by omega)
      obtain ⟨x, hxx⟩ : ∃ x, x = nth L d := ⟨_, rfl⟩
      rw [← hxx] at hx
      have HX : Hid (x = nth L d) := hxx
      clear hxx
      have hne : ((0 : Int) == (len : Int)) = false := by simp; omega
      rcases (show cmpB x s = -1 ∨ cmpB x s = 1 ∨ cmpB x s = 0 by have := cmp_range x s; omega) with hcmp | hcmp | hcmp
      · have HCM := Lib.hid hcmp
        clear hcmp
        go_wp2_with fail
        go_step3
        go_wp2_with fail
        refine (cmp_any _ _ _).mono ?_
        rintro e w1 ⟨rfl, rfl⟩
        rw [HCM.out]
        go_wp2_with fail
        go_step3
        have hlo := low_step (s := s) HR.out (by rw [HL.out]; exact hd2) (by rw [← HX.out, HCM.out]; decide)
        exact ⟨rfl, rfl, d + 1, len, _, _, _, _, _, _, _, _, _, _, _, _, _, _, _, _, _, _, _, _, _, _, _, _, _, _, _, _, _, _, _, rfl, by omega, by omega, fun j hj => (by by_cases e : j = d; (· rw [e, ← HX.out, HCM.out]; decide); (· exact hlo j (by omega))), fun j h1 h2 => by omega⟩
      · have HCM := Lib.hid hcmp
        clear hcmp
        go_wp2_with fail
        go_step3
        go_wp2_with fail
        refine (cmp_any _ _ _).mono ?_
        rintro e w1 ⟨rfl, rfl⟩
        rw [HCM.out]
        go_wp2_with fail
        go_step3
        have hhi := high_step (s := s) HR.out (m := d) (by rw [← HX.out, HCM.out]; decide)
        exact ⟨rfl, rfl, 0, d, _, _, _, _, _, _, _, _, _, _, _, _, _, _, _, _, _, _, _, _, _, _, _, _, _, _, _, _, _, _, _, rfl, by omega, by omega, fun j hj => by omega, fun j h1 h2 => hhi j h1 (by rw [HL.out]; exact h2)⟩
      · have HCM := Lib.hid hcmp
        clear hcmp
        go_wp2_with fail
        go_step3
        go_wp2_with fail
        refine (cmp_any _ _ _).mono ?_
        rintro e w1 ⟨rfl, rfl⟩
        rw [HCM.out]
        go_wp2_with fail
        simp only [Exit.jump]
        go_ret2
        have hlo := low_step (s := s) HR.out (by rw [HL.out]; exact hd2) (by rw [← HX.out, HCM.out]; decide)
        exact ⟨⟨d, true, rfl, by rw [HL.out]; omega, hlo, fun _ => ⟨by rw [HL.out]; exact hd2, by rw [← HX.out]; exact (cmp_zero _ _).1 HCM.out⟩, fun h => by simp at h⟩, rfl⟩
    · rintro a' w' ⟨rfl, f, t, u2, u3, u4, u5, u8, u9, u10, u11, u12, u13, u14, u15, u16, u17, u18, u19, u20, u21, u22, u23, u24, u25, u26, u27, u28, u29, u30, u31, u32, u33, u34, rfl, hft0, htl, hlo0, hhi0⟩
      have HLO := Lib.hid hlo0
      have HHI := Lib.hid hhi0
      clear hlo0 hhi0
      by_cases hft : f = t
      · subst hft
        have HA : Hid (At L s f false) := Lib.hid ⟨by rw [HL.out]; exact htl, HLO.out, fun h => by simp at h, fun _ j h1 h2 => HHI.out j h1 (by rw [← HL.out]; exact h2)⟩
        go_wp2_with fail
        simp only [Exit.jump]
        go_ret2
        exact ⟨⟨f, false, rfl, HA.out⟩, rfl⟩
      · obtain ⟨d, hd, hd2⟩ : ∃ d : Nat, ((t : Int) - (f : Int)).tdiv 2 = (d : Int) ∧ f + d < t := ⟨(t - f) / 2, by rw [Int.tdiv_eq_ediv_of_nonneg (by omega)]; omega, by omega⟩
        have hx := HC.out (f + d) (by omega)
        obtain ⟨x, hxx⟩ : ∃ x, x = nth L (f + d) := ⟨_, rfl⟩
        rw [← hxx] at hx
        have HX : Hid (x = nth L (f + d)) := hxx
        clear hxx
        have hne : ((f : Int) == (t : Int)) = false := by simp; omega
        have hin : f + d < len := by omega
        rcases (show cmpB x s = -1 ∨ cmpB x s = 1 ∨ cmpB x s = 0 by have := cmp_range x s; omega) with hcmp | hcmp | hcmp
        · have HCM := Lib.hid hcmp
          clear hcmp
          go_wp2_with fail
          refine (cmp_any _ _ _).mono ?_
          rintro e w1 ⟨rfl, rfl⟩
          rw [HCM.out]
          go_wp2_with fail
          go_step3
          have hlo := low_step (s := s) HR.out (by rw [HL.out]; exact hin) (by rw [← HX.out, HCM.out]; decide)
          exact ⟨rfl, ⟨rfl, f + d + 1, t, _, _, _, _, _, _, _, _, _, _, _, _, _, _, _, _, _, _, _, _, _, _, _, _, _, _, _, _, _, _, _, rfl, by omega, by omega, fun j hj => (by by_cases e : j = f + d; (· rw [e, ← HX.out, HCM.out]; decide); (· exact hlo j (by omega))), HHI.out⟩, by simp [intOf]; omega⟩
        · have HCM := Lib.hid hcmp
          clear hcmp
          go_wp2_with fail
          refine (cmp_any _ _ _).mono ?_
          rintro e w1 ⟨rfl, rfl⟩
          rw [HCM.out]
          go_wp2_with fail
          go_step3
          have hhi := high_step (s := s) HR.out (m := f + d) (by rw [← HX.out, HCM.out]; decide)
          exact ⟨rfl, ⟨rfl, f, f + d, _, _, _, _, _, _, _, _, _, _, _, _, _, _, _, _, _, _, _, _, _, _, _, _, _, _, _, _, _, _, _, rfl, by omega, by omega, HLO.out, fun j h1 h2 => hhi j h1 (by rw [HL.out]; exact h2)⟩, by simp [intOf]; omega⟩
        · have HCM := Lib.hid hcmp
          clear hcmp
          go_wp2_with fail
          refine (cmp_any _ _ _).mono ?_
          rintro e w1 ⟨rfl, rfl⟩
          rw [HCM.out]
          go_wp2_with fail
          simp only [Exit.jump]
          go_ret2
          have hlo := low_step (s := s) HR.out (by rw [HL.out]; exact hin) (by rw [← HX.out, HCM.out]; decide)
          exact ⟨⟨f + d, true, rfl, by rw [HL.out]; omega, hlo, fun _ => ⟨by rw [HL.out]; exact hin, by rw [← HX.out]; exact (cmp_zero _ _).1 HCM.out⟩, fun h => by simp at h⟩, rfl⟩
theorem ret_ib {a b : Int} {c d : Bool} (h : a = b) (g : c = d) : Ending.returned (.tuple #[.int .i64 a, .bool c]) = .returned (.tuple #[.int .i64 b, .bool d]) := by rw [h, g]
theorem ch_ok {L : List ByteArray} (h : chE L = 0) : L.length ≤ 4096 ∧ rises L (L.length - 1) = true := by
  unfold chE at h
  by_cases h1 : 4096 < L.length
  · rw [if_pos h1] at h; omega
  · rw [if_neg h1] at h
    refine ⟨by omega, ?_⟩
    cases hr : rises L (L.length - 1)
    · rw [hr] at h; simp at h
    · rfl
/-- Find, of a list that rises. -/
theorem findOf_any (a : Option Addr) (len cap : Nat) (L : List ByteArray) (s : ByteArray) (w : World) (hv : SView w a len L) (hc : chE L = 0) :
    Calls Tryz.prog 48 #[.slice a len cap, .string s] w fun e w' => (∃ (k : Nat) (is : Bool), e = .returned (.tuple #[.int .i64 (k : Int), .bool is]) ∧ At L s k is) ∧ Below w.heap.size w w' := by
  have HV := Lib.hid hv
  have HC := Lib.hid hc
  have HO := Lib.hid (ch_ok hc)
  have HL : Hid (L.length = len) := hv.1
  clear hv hc
  go_enter Tryz.func48, Tryz.ntmps48
  go_wp2_with fail
  refine (check_any _ len cap L _ HV.out).mono ?_
  rintro e w1 ⟨rfl, b1⟩
  rw [HC.out]
  go_wp2_with fail
  refine (find_any _ len cap L s _ (HV.out.below b1) (by rw [← HL.out]; exact HO.out.1) HO.out.2).mono ?_
  rintro e w2 ⟨⟨k, is, rfl, hat⟩, rfl⟩
  have HAT := Lib.hid hat
  clear hat
  go_wp2_with fail
  go_ret2
  exact ⟨⟨k, is, rfl, HAT.out⟩, b1⟩

end Go.Proofs.YtfigebepeniikaaGreat.Ord
/- Layer 27: records and tables in memory. -/
namespace Go.Proofs.YtfigebepeniikaaGreat
open Go.RowKit Go.Maps
/-- Cells at a slice, none of its blocks below B. -/
def DV (B : Nat) (w : World) (ad : Option Addr) (cp : Nat) (d : List CR) : Prop :=
  CV w ad d.length (gl d) ∧ d.length ≤ cp ∧ cp ≤ maxLen ∧ (ad = none → d.length = 0 ∧ cp = 0) ∧ ∀ b off, ad = some ⟨b, off, none⟩ → B ≤ b
theorem DV.below {B : Nat} {w w' : World} {ad : Option Addr} {cp : Nat} {d : List CR} (h : DV B w ad cp d) (k : Below w.heap.size w w') : DV B w' ad cp d := ⟨h.1.below k, h.2⟩
theorem DV.mono {B B' : Nat} {w : World} {ad : Option Addr} {cp : Nat} {d : List CR} (h : DV B w ad cp d) (hb : B' ≤ B) : DV B' w ad cp d := ⟨h.1, h.2.1, h.2.2.1, h.2.2.2.1, fun b off e => Nat.le_trans hb (h.2.2.2.2 b off e)⟩
def rl (R : List RC) (i : Nat) : RC := R.getD i default
theorem rl_get {R : List RC} {i : Nat} (h : i < R.length) : rl R i = R[i] := by unfold rl; rw [List.getD_eq_getElem?_getD, List.getElem?_eq_getElem h]; rfl
theorem rl_mem {R : List RC} {i : Nat} (h : i < R.length) : rl R i ∈ R := by rw [rl_get h]; exact List.getElem_mem h
/-- A record at a place. -/
def RAt (B : Nat) (w : World) (a : Option Addr) (i : Nat) (r : RC) : Prop := ∃ b off ad cp, a = some ⟨b, off, none⟩ ∧ B ≤ b ∧ b < w.heap.size ∧ w.cell? ⟨b, off + i * 2, none⟩ = some (.string r.id) ∧ w.cell? ⟨b, off + i * 2 + 1, none⟩ = some (.slice ad r.d.length cp) ∧ DV B w ad cp r.d
theorem RAt.below {B : Nat} {w w' : World} {a : Option Addr} {i : Nat} {r : RC} (h : RAt B w a i r) (k : Below w.heap.size w w') : RAt B w' a i r := by
  obtain ⟨b, off, ad, cp, e, h1, h2, h3, h4, h5⟩ := h
  exact ⟨b, off, ad, cp, e, h1, Nat.lt_of_lt_of_le h2 k.size, (k.cell (p := ⟨b, _, none⟩) h2).trans h3, (k.cell (p := ⟨b, _, none⟩) h2).trans h4, h5.below k⟩
theorem RAt.mono {B B' : Nat} {w : World} {a : Option Addr} {i : Nat} {r : RC} (h : RAt B w a i r) (hb : B' ≤ B) : RAt B' w a i r := by
  obtain ⟨b, off, ad, cp, e, h1, h2, h3, h4, h5⟩ := h
  exact ⟨b, off, ad, cp, e, Nat.le_trans hb h1, h2, h3, h4, h5.mono hb⟩
/-- A row of records. -/
def RV (B : Nat) (w : World) (a : Option Addr) (R : List RC) : Prop := ∀ i, i < R.length → RAt B w a i (rl R i)
theorem RV.below {B : Nat} {w w' : World} {a : Option Addr} {R : List RC} (h : RV B w a R) (k : Below w.heap.size w w') : RV B w' a R := fun i hi => (h i hi).below k
theorem RV.mono {B B' : Nat} {w : World} {a : Option Addr} {R : List RC} (h : RV B w a R) (hb : B' ≤ B) : RV B' w a R := fun i hi => (h i hi).mono hb
theorem RV.addr {B : Nat} {w : World} {a : Option Addr} {R : List RC} (h : RV B w a R) (h0 : 0 < R.length) : ∃ b off, a = some ⟨b, off, none⟩ := by
  obtain ⟨b, off, _, _, e, _⟩ := h 0 h0
  exact ⟨b, off, e⟩
theorem RV.at_ {B b off : Nat} {w : World} {R : List RC} (h : RV B w (some ⟨b, off, none⟩) R) {i : Nat} (hi : i < R.length) : ∃ ad cp, B ≤ b ∧ b < w.heap.size ∧ w.cell? ⟨b, off + i * 2, none⟩ = some (.string (rl R i).id) ∧ w.cell? ⟨b, off + i * 2 + 1, none⟩ = some (.slice ad (rl R i).d.length cp) ∧ DV B w ad cp (rl R i).d := by
  obtain ⟨b', off', ad, cp, e, h1, h2, h3, h4, h5⟩ := h i hi
  simp only [Option.some.injEq, Addr.mk.injEq, and_true] at e
  obtain ⟨rfl, rfl⟩ := e
  exact ⟨ad, cp, h1, h2, h3, h4, h5⟩
/-- What a table's slices tell. -/
structure TVs (B : Nat) (w : World) (T : TM) (a1 : Option Addr) (c1 : Nat) (a2 : Option Addr) (c2 : Nat) : Prop where
  u : Ord.SView w a1 T.uq.length T.uq
  u1 : T.uq.length ≤ c1
  u2 : c1 ≤ maxLen
  un : a1 = none → T.uq.length = 0 ∧ c1 = 0
  ub : ∀ b off, a1 = some ⟨b, off, none⟩ → B ≤ b
  r : RV B w a2 T.rows
  r1 : T.rows.length ≤ c2
  r2 : c2 ≤ maxLen
  rn : a2 = none → T.rows.length = 0 ∧ c2 = 0
theorem TVs.below {B : Nat} {w w' : World} {T : TM} {a1 a2 : Option Addr} {c1 c2 : Nat} (h : TVs B w T a1 c1 a2 c2) (k : Below w.heap.size w w') : TVs B w' T a1 c1 a2 c2 :=
  ⟨h.u.below k, h.u1, h.u2, h.un, h.ub, h.r.below k, h.r1, h.r2, h.rn⟩
theorem TVs.mono {B B' : Nat} {w : World} {T : TM} {a1 a2 : Option Addr} {c1 c2 : Nat} (h : TVs B w T a1 c1 a2 c2) (hb : B' ≤ B) : TVs B' w T a1 c1 a2 c2 :=
  ⟨h.u, h.u1, h.u2, h.un, fun b off e => Nat.le_trans hb (h.ub b off e), h.r.mono hb, h.r1, h.r2, h.rn⟩
def tv (T : TM) (a1 : Option Addr) (c1 : Nat) (a2 : Option Addr) (c2 : Nat) : Value := .agg #[.string T.name, .int .i64 T.most, .slice a1 T.uq.length c1, .slice a2 T.rows.length c2]
def rv (r : RC) (ad : Option Addr) (cp : Nat) : Value := .agg #[.string r.id, .slice ad r.d.length cp]
def TV (B : Nat) (w : World) (v : Value) (T : TM) : Prop := ∃ a1 c1 a2 c2, v = tv T a1 c1 a2 c2 ∧ TVs B w T a1 c1 a2 c2
def RVal (B : Nat) (w : World) (v : Value) (r : RC) : Prop := ∃ ad cp, v = rv r ad cp ∧ DV B w ad cp r.d
/-- How large. -/
def SmR (r : RC) : Prop := CW r.d.length (gl r.d) ∧ r.d.length ≤ 100000 ∧ r.id.size ≤ 1000000
structure SmT (T : TM) : Prop where
  rows : T.rows.length ≤ 1000
  uq : T.uq.length ≤ 1000
  each : ∀ r ∈ T.rows, SmR r
  us : ∀ s ∈ T.uq, s.size ≤ 1000000
theorem SmT.at_ {T : TM} (h : SmT T) {i : Nat} (hi : i < T.rows.length) : SmR (rl T.rows i) := h.each _ (rl_mem hi)
/-- Boxes. -/
def Bx4 (w : World) (q : Nat) (t : TypeId) (x0 x1 x2 x3 : Value) : Prop := w.heap[q]? = some (.cells #[x0, x1, x2, x3] t)
theorem Bx4.lt {w : World} {q t : Nat} {x0 x1 x2 x3 : Value} (h : Bx4 w q t x0 x1 x2 x3) : q < w.heap.size := (Array.getElem?_eq_some_iff.1 h).1
theorem Bx4.up {w w' : World} {q t : Nat} {x0 x1 x2 x3 : Value} (h : Bx4 w q t x0 x1 x2 x3) (k : Below w.heap.size w w') : Bx4 w' q t x0 x1 x2 x3 := by
  unfold Bx4 at h ⊢
  rw [k.block q (Array.getElem?_eq_some_iff.1 h).1]; exact h
theorem Bx4.c0 {w : World} {q t : Nat} {x0 x1 x2 x3 : Value} (h : Bx4 w q t x0 x1 x2 x3) : w.cell? ⟨q, 0, none⟩ = some x0 := by unfold Bx4 at h; simp [World.cell?, h]
theorem Bx4.c1 {w : World} {q t : Nat} {x0 x1 x2 x3 : Value} (h : Bx4 w q t x0 x1 x2 x3) : w.cell? ⟨q, 1, none⟩ = some x1 := by unfold Bx4 at h; simp [World.cell?, h]
theorem Bx4.c2 {w : World} {q t : Nat} {x0 x1 x2 x3 : Value} (h : Bx4 w q t x0 x1 x2 x3) : w.cell? ⟨q, 2, none⟩ = some x2 := by unfold Bx4 at h; simp [World.cell?, h]
theorem Bx4.c3 {w : World} {q t : Nat} {x0 x1 x2 x3 : Value} (h : Bx4 w q t x0 x1 x2 x3) : w.cell? ⟨q, 3, none⟩ = some x3 := by unfold Bx4 at h; simp [World.cell?, h]
theorem Bx4.fz {w : World} {q t : Nat} {x0 x1 x2 x3 : Value} (h : Bx4 w q t x0 x1 x2 x3) (i : Nat) : w.frozen? ⟨q, i, none⟩ = false := by unfold Bx4 at h; simp [World.frozen?, h]
theorem bx4_new (w : World) (t : TypeId) (x0 x1 x2 x3 : Value) : Bx4 (w.alloc (.cells #[x0, x1, x2, x3] t)) w.heap.size t x0 x1 x2 x3 := heap_alloc_new w _
theorem set_heap (w : World) (q k : Nat) (v : Value) (cs : Array Value) (t : TypeId) (h : w.heap[q]? = some (.cells cs t)) : (w.setCell ⟨q, k, none⟩ v).heap[q]? = some (.cells (cs.setIfInBounds k v) t) := by
  have hq := (Array.getElem?_eq_some_iff.1 h).1
  have e : w.heap[q] = .cells cs t := by
    rw [Array.getElem?_eq_getElem hq] at h
    exact Option.some.inj h
  simp [World.setCell, hq]
  rw [Array.getElem_modify_self, e]
theorem Bx4.set2 {w : World} {q t : Nat} {x0 x1 x2 x3 : Value} (h : Bx4 w q t x0 x1 x2 x3) (v : Value) : Bx4 (w.setCell ⟨q, 2, none⟩ v) q t x0 x1 v x3 := by
  have := set_heap w q 2 v _ _ h
  simpa [Bx4] using this
theorem Bx4.set3 {w : World} {q t : Nat} {x0 x1 x2 x3 : Value} (h : Bx4 w q t x0 x1 x2 x3) (v : Value) : Bx4 (w.setCell ⟨q, 3, none⟩ v) q t x0 x1 x2 v := by
  have := set_heap w q 3 v _ _ h
  simpa [Bx4] using this
theorem Bx4.other {w : World} {q t p k : Nat} {x0 x1 x2 x3 : Value} (h : Bx4 w q t x0 x1 x2 x3) (hne : p ≠ q) (v : Value) : Bx4 (w.setCell ⟨p, k, none⟩ v) q t x0 x1 x2 x3 := by
  unfold Bx4 at h ⊢
  rw [RowKit.Below.heap_setCell _ _ _ _ (fun e => hne e.symm)]; exact h
def Bx2 (w : World) (q : Nat) (x0 x1 : Value) : Prop := w.heap[q]? = some (.cells #[x0, x1] 28)
theorem Bx2.lt {w : World} {q : Nat} {x0 x1 : Value} (h : Bx2 w q x0 x1) : q < w.heap.size := (Array.getElem?_eq_some_iff.1 h).1
theorem Bx2.up {w w' : World} {q : Nat} {x0 x1 : Value} (h : Bx2 w q x0 x1) (k : Below w.heap.size w w') : Bx2 w' q x0 x1 := by
  unfold Bx2 at h ⊢
  rw [k.block q (Array.getElem?_eq_some_iff.1 h).1]; exact h
theorem Bx2.c0 {w : World} {q : Nat} {x0 x1 : Value} (h : Bx2 w q x0 x1) : w.cell? ⟨q, 0, none⟩ = some x0 := by unfold Bx2 at h; simp [World.cell?, h]
theorem Bx2.c1 {w : World} {q : Nat} {x0 x1 : Value} (h : Bx2 w q x0 x1) : w.cell? ⟨q, 1, none⟩ = some x1 := by unfold Bx2 at h; simp [World.cell?, h]
theorem bx2_new (w : World) (x0 x1 : Value) : Bx2 (w.alloc (.cells #[x0, x1] 28)) w.heap.size x0 x1 := heap_alloc_new w _
theorem infoN : ∃ i, Tryz.prog.info? 9 = some i ∧ i.zero = some (.string ⟨#[]⟩) ∧ i.size = 1 ∧ i.bytes = 16 := by
  have h := Tryz.typeInfo9 default
  unfold typeInfo at h
  cases hq : Tryz.prog.info? 9 with
  | none => simp [hq] at h
  | some i =>
    simp [hq] at h
    exact ⟨i, rfl, by rw [h]; rfl, by rw [h]; rfl, by rw [h]; rfl⟩
theorem infoR : ∃ i, Tryz.prog.info? 28 = some i ∧ i.zero = some (.agg #[.string ⟨#[]⟩, .slice none 0 0]) ∧ i.size = 2 ∧ i.bytes = 40 := by
  have h := Tryz.typeInfo28 default
  unfold typeInfo at h
  cases hq : Tryz.prog.info? 28 with
  | none => simp [hq] at h
  | some i =>
    simp [hq] at h
    exact ⟨i, rfl, by rw [h]; rfl, by rw [h]; rfl, by rw [h]; rfl⟩
theorem sview_own {w : World} {B : Nat} {v : Value} {L : List ByteArray} (h : w.ownsRow B 9 1 v L.length (L.map .string)) : ∃ ad cap, v = .slice ad L.length cap ∧ L.length ≤ cap ∧ cap ≤ maxLen ∧ Ord.SView w ad L.length L ∧ (ad = none → L.length = 0 ∧ cap = 0) ∧ ∀ b off, ad = some ⟨b, off, none⟩ → B ≤ b := by
  rcases h.2 with ⟨rfl, hn⟩ | ⟨q, cap, cur, rfl, hg, hgg, h1, h2, h3, h4⟩
  · have e : L = [] := List.length_eq_zero_iff.1 hn
    subst e
    exact ⟨none, 0, rfl, Nat.le_refl _, Nat.zero_le _, ⟨rfl, fun k hk => absurd hk (Nat.not_lt_zero k)⟩, fun _ => ⟨rfl, rfl⟩, fun b off e => by cases e⟩
  · refine ⟨some ⟨q, 0, none⟩, cap, rfl, h1, h2, ⟨rfl, fun k hk => ⟨q, 0, rfl, (Array.getElem?_eq_some_iff.1 hgg).1, ?_⟩⟩, fun e => (by cases e), fun b off e => (by cases e; exact hg)⟩
    rw [Nat.zero_add, h.cellAt k (by simpa using hk)]
    unfold Ord.nth
    rw [List.getElem?_map, List.getD_eq_getElem?_getD, List.getElem?_eq_getElem hk]
    rfl
end Go.Proofs.YtfigebepeniikaaGreat

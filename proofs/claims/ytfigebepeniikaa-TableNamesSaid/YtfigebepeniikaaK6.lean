import Derived.Test.YtfigebepeniikaaK5
import Derived.Laws.AppendOwnNone
/- Plain facts for layer 5: sorted, each once. No program in sight. -/
namespace Go.Proofs.Ytfigebepeniikaa.Ord
open Go.RowKit

def inL (L : List ByteArray) (s : ByteArray) : Prop := ∃ j, j < L.length ∧ nth L j = s
theorem inL_mem {L : List ByteArray} {s : ByteArray} : inL L s ↔ s ∈ L := by
  constructor
  · rintro ⟨j, hj, rfl⟩
    unfold nth
    rw [List.getD, List.getElem?_eq_getElem hj]
    exact List.getElem_mem hj
  · intro h
    obtain ⟨j, hj, rfl⟩ := List.getElem_of_mem h
    exact ⟨j, hj, by unfold nth; rw [List.getD, List.getElem?_eq_getElem hj]; rfl⟩
theorem rises_mono {L : List ByteArray} (h : rises L (L.length - 1) = true) {i j : Nat} (hij : i < j) (hj : j < L.length) : cmpB (nth L i) (nth L j) < 0 :=
  rises_lt j hij (rises_le (by omega) h)
theorem cmp_asymm {a b : ByteArray} (h : cmpB a b < 0) : ¬ cmpB b a < 0 := by
  rw [cmp_swap]; omega
theorem cmp_lt_le {a b c : ByteArray} (h1 : cmpB a b < 0) (h2 : cmpB b c ≤ 0) : cmpB a c < 0 := by
  have := cmp_trans a b c (by omega) h2
  omega
theorem cmp_le_lt {a b c : ByteArray} (h1 : cmpB a b ≤ 0) (h2 : cmpB b c < 0) : cmpB a c < 0 := by
  have := cmp_trans a b c h1 (by omega)
  omega
/-- Two rising lists of the same strings are one. -/
theorem rises_uniq {L M : List ByteArray} (hL : rises L (L.length - 1) = true) (hM : rises M (M.length - 1) = true) (h : ∀ s, inL L s ↔ inL M s) : L = M := by
  have key : ∀ (L M : List ByteArray), rises L (L.length - 1) = true → rises M (M.length - 1) = true → (∀ s, inL L s ↔ inL M s) → ∀ k, k < L.length → k < M.length ∧ nth L k = nth M k := by
    intro L M hL hM h k
    induction k using Nat.strongRecOn with
    | ind k ih =>
      intro hk
      obtain ⟨j, hj, hjk⟩ := (h (nth L k)).1 ⟨k, hk, rfl⟩
      -- j is at least k
      have h1 : k ≤ j := by
        apply Nat.le_of_not_lt
        intro hlt
        have := (ih j hlt (by omega)).2
        rw [hjk] at this
        have h2 := rises_mono hL hlt hk
        rw [this] at h2
        have := (cmp_zero (nth L k) (nth L k)).2 rfl
        omega
      refine ⟨by omega, ?_⟩
      by_cases e : j = k
      · rw [← e, hjk, e]
      · exfalso
        have hlt : k < j := by omega
        obtain ⟨i, hi, hik⟩ := (h (nth M k)).2 ⟨k, by omega, rfl⟩
        have hm := rises_mono hM hlt hj
        rw [hjk, ← hik] at hm
        -- nth L i < nth L k, so i < k
        have hi2 : i < k := by
          apply Nat.lt_of_not_le
          intro hle
          by_cases e2 : i = k
          · rw [e2] at hm
            have := (cmp_zero (nth L k) (nth L k)).2 rfl
            omega
          · have := rises_mono hL (show k < i by omega) hi
            exact cmp_asymm hm this
        have h3 := (ih i hi2 hi)
        have h4 := rises_mono hM hi2 (by omega)
        rw [← h3.2, hik] at h4
        have := (cmp_zero (nth M k) (nth M k)).2 rfl
        omega
  have hl : L.length = M.length := by
    apply Nat.le_antisymm
    · by_cases h0 : L.length = 0
      · omega
      · have := (key L M hL hM h (L.length - 1) (by omega)).1; omega
    · by_cases h0 : M.length = 0
      · omega
      · have := (key M L hM hL (fun s => (h s).symm) (M.length - 1) (by omega)).1; omega
  apply List.ext_getElem hl
  intro k h1 h2
  have := (key L M hL hM h k h1).2
  unfold nth at this
  rw [List.getD, List.getD, List.getElem?_eq_getElem h1, List.getElem?_eq_getElem h2] at this
  exact this
/-- What the walk keeps of a sorted list: each string once. -/
def ddk (S : List ByteArray) : Nat → List ByteArray
  | 0 => []
  | k + 1 => if k = 0 ∨ nth S k ≠ nth S (k - 1) then ddk S k ++ [nth S k] else ddk S k
theorem ddk_len (S : List ByteArray) : ∀ k, (ddk S k).length ≤ k
  | 0 => Nat.le_refl _
  | k + 1 => by
    have := ddk_len S k
    simp only [ddk]
    split
    · simp; omega
    · omega
theorem nth_append_last (A : List ByteArray) (x : ByteArray) : nth (A ++ [x]) A.length = x := by
  unfold nth; simp
theorem nth_append_lt (A : List ByteArray) (x : ByteArray) {j : Nat} (h : j < A.length) : nth (A ++ [x]) j = nth A j := by
  unfold nth; simp [List.getD, List.getElem?_append_left h]
theorem ddk_inv {S : List ByteArray} (hs : ∀ i j, i ≤ j → j < S.length → cmpB (nth S i) (nth S j) ≤ 0) : ∀ k, k ≤ S.length →
    rises (ddk S k) ((ddk S k).length - 1) = true ∧ (∀ s, inL (ddk S k) s ↔ ∃ j, j < k ∧ nth S j = s) ∧ (0 < k → 0 < (ddk S k).length ∧ nth (ddk S k) ((ddk S k).length - 1) = nth S (k - 1)) := by
  intro k
  induction k with
  | zero =>
    intro _
    refine ⟨rfl, fun s => ⟨?_, ?_⟩, fun h => absurd h (Nat.lt_irrefl 0)⟩
    · rintro ⟨j, hj, _⟩; simp [ddk] at hj
    · rintro ⟨j, hj, _⟩; omega
  | succ k ih =>
    intro hk
    obtain ⟨h1, h2, h3⟩ := ih (by omega)
    simp only [ddk]
    by_cases hc : k = 0 ∨ nth S k ≠ nth S (k - 1)
    · rw [if_pos hc]
      refine ⟨?_, ?_, fun _ => ?_⟩
      · apply rises_of
        intro j hj
        simp only [List.length_append, List.length_singleton] at hj
        by_cases e : j + 1 = (ddk S k).length
        · rw [e, nth_append_last, nth_append_lt _ _ (by omega)]
          have k0 : 0 < k := by
            apply Nat.pos_of_ne_zero
            intro hz; subst hz; simp [ddk] at e
          have h4 := (h3 k0).2
          rw [show (ddk S k).length - 1 = j by omega] at h4
          rw [h4]
          have hle := hs (k - 1) k (by omega) (by omega)
          have hne : nth S k ≠ nth S (k - 1) := by
            rcases hc with hz | hne
            · omega
            · exact hne
          have : cmpB (nth S (k - 1)) (nth S k) ≠ 0 := fun e0 => hne ((cmp_zero _ _).1 e0).symm
          omega
        · rw [nth_append_lt _ _ (by omega), nth_append_lt _ _ (by omega)]
          exact rises_at h1 (by omega)
      · intro s
        rw [inL_mem, List.mem_append, List.mem_singleton, ← inL_mem, h2 s]
        constructor
        · rintro (⟨j, hj, e⟩ | e)
          · exact ⟨j, by omega, e⟩
          · exact ⟨k, by omega, e.symm⟩
        · rintro ⟨j, hj, e⟩
          by_cases ejk : j = k
          · right; rw [← e, ejk]
          · left; exact ⟨j, by omega, e⟩
      · refine ⟨by simp, ?_⟩
        rw [show (ddk S k ++ [nth S k]).length - 1 = (ddk S k).length by simp, nth_append_last, Nat.add_sub_cancel]
    · rw [if_neg hc]
      have hk0 : k ≠ 0 := fun e => hc (.inl e)
      have heq : nth S k = nth S (k - 1) := Classical.byContradiction fun e => hc (.inr e)
      refine ⟨h1, fun s => ?_, fun _ => ?_⟩
      · rw [h2 s]
        constructor
        · rintro ⟨j, hj, e⟩; exact ⟨j, by omega, e⟩
        · rintro ⟨j, hj, e⟩
          by_cases ejk : j = k
          · exact ⟨k - 1, by omega, by rw [← heq, ← ejk]; exact e⟩
          · exact ⟨j, by omega, e⟩
      · have := h3 (by omega)
        exact ⟨this.1, by rw [this.2, Nat.add_sub_cancel, heq]⟩
def leB (x y : ByteArray) : Bool := decide (cmpB x y ≤ 0)
def srt (L : List ByteArray) : List ByteArray := L.mergeSort leB
theorem leB_trans (a b c : ByteArray) (h1 : leB a b = true) (h2 : leB b c = true) : leB a c = true := by
  unfold leB at *
  simp only [decide_eq_true_eq] at *
  have := cmp_trans a b c h1 h2
  omega
theorem leB_total (a b : ByteArray) : (leB a b || leB b a) = true := by
  unfold leB
  have := cmp_swap a b
  simp only [Bool.or_eq_true, decide_eq_true_eq]
  omega
theorem srt_len (L : List ByteArray) : (srt L).length = L.length := List.length_mergeSort L
theorem srt_sorted (L : List ByteArray) : ∀ i j, i ≤ j → j < (srt L).length → cmpB (nth (srt L) i) (nth (srt L) j) ≤ 0 := by
  have h := List.pairwise_mergeSort leB_trans leB_total L
  intro i j hij hj
  by_cases e : i = j
  · subst e
    have := (cmp_zero (nth (srt L) i) (nth (srt L) i)).2 rfl
    omega
  · have := List.pairwise_iff_getElem.1 h i j (by unfold srt at hj; omega) hj (by omega)
    unfold leB at this
    simp only [decide_eq_true_eq] at this
    unfold nth
    rw [List.getD, List.getD, List.getElem?_eq_getElem (show i < (srt L).length by omega), List.getElem?_eq_getElem hj]
    exact this
def sortL (L : List ByteArray) : List ByteArray := ddk (srt L) (srt L).length
theorem sort_len (L : List ByteArray) : (sortL L).length ≤ L.length := by
  have := ddk_len (srt L) (srt L).length
  rw [srt_len] at this
  unfold sortL; rw [srt_len]; exact this
theorem sort_ok (L : List ByteArray) (h : L.length ≤ 4096) : chE (sortL L) = 0 := by
  have h1 := (ddk_inv (srt_sorted L) _ (Nat.le_refl _)).1
  have h2 := sort_len L
  unfold chE
  rw [if_neg (by omega)]
  unfold sortL
  rw [if_pos h1]
theorem sort_in (L : List ByteArray) (s : ByteArray) : inL (sortL L) s ↔ inL L s := by
  have h2 := (ddk_inv (srt_sorted L) _ (Nat.le_refl _)).2.1 s
  unfold sortL
  rw [h2]
  have : (∃ j, j < (srt L).length ∧ nth (srt L) j = s) ↔ inL (srt L) s := Iff.rfl
  rw [this, inL_mem, inL_mem]
  exact List.mem_mergeSort
theorem sort_uniq {L M : List ByteArray} (hL : L.length ≤ 4096) (hM : chE M = 0) (h : ∀ s, inL M s ↔ inL L s) : M = sortL L :=
  rises_uniq (chOk hM).2 (chOk (sort_ok L hL)).2 (fun s => (h s).trans (sort_in L s).symm)
theorem sort_idem (L : List ByteArray) (h : L.length ≤ 4096) : sortL (sortL L) = sortL L :=
  (sort_uniq (by have := sort_len L; omega) (sort_ok L h) (fun _ => Iff.rfl)).symm
end Go.Proofs.Ytfigebepeniikaa.Ord
/- Layer 27, plain: tables, and what is put into them. No program in sight. -/
namespace Go.Proofs.Ytfigebepeniikaa
open Go.RowKit
instance decMem (s : ByteArray) (L : List ByteArray) : Decidable (s ∈ L) := decidable_of_iff (L.any (fun x => decide (x = s)) = true) (by simp)
structure RC where
  id : ByteArray
  d : List CR
deriving DecidableEq
instance : Inhabited RC := ⟨⟨⟨#[]⟩, []⟩⟩
structure TM where
  name : ByteArray
  most : Int
  uq : List ByteArray
  rows : List RC
deriving DecidableEq
def idS : ByteArray := ⟨#[105, 100]⟩
/-- Where a member begins. -/
def mI (d : List CR) (s : ByteArray) : Option Nat := ((List.range (gl d 0).m.toNat).map (bd (gl d) d.length 1)).find? fun q => decide ((gl d q).nm = s)
/-- A member's value, its name with it. -/
def mV (d : List CR) (s : ByteArray) : Option (List CR) := (mI d s).map fun p => cut (gl d) p (nx (gl d) d.length p)
def hasVar (d : List CR) : Bool := d.any fun c => decide (c.k = 5)
def idOk (r : RC) : Bool := match mI r.d idS with
  | some p => decide ((gl r.d p).k = 3) && decide ((gl r.d p).tx = r.id)
  | none => false
/-- May a record be? -/
def recOk (r : RC) : Bool := !(hasVar r.d) && ckL r.d && decide ((gl r.d 0).k = 7) && idOk r
def clash (a b : RC) (s : ByteArray) : Bool := match mV a.d s, mV b.d s with
  | some x, some y => decide ((gl x 0).k ≠ 0) && decide (x = y)
  | _, _ => false
theorem clash_comm (a b : RC) (s : ByteArray) : clash a b s = clash b a s := by
  unfold clash
  cases mV a.d s with
  | none => cases mV b.d s <;> rfl
  | some x =>
    cases mV b.d s with
    | none => rfl
    | some y =>
      by_cases h : x = y
      · subst h; rfl
      · have h' : ¬ y = x := fun e => h e.symm
        simp [h, h']
def clT (T : TM) (r : RC) : Bool := T.rows.any fun w => decide (w.id ≠ r.id) && T.uq.any fun s => clash w r s
theorem clT_no {T : TM} {r : RC} : clT T r = false ↔ ∀ w ∈ T.rows, w.id ≠ r.id → ∀ s ∈ T.uq, clash w r s = false := by
  unfold clT
  rw [List.any_eq_false]
  constructor
  · intro h w hw hne s hs
    have := h w hw
    simp only [decide_eq_true hne, Bool.true_and, Bool.not_eq_true, List.any_eq_false] at this
    exact this s hs
  · intro h w hw
    by_cases hne : w.id ≠ r.id
    · simp only [decide_eq_true hne, Bool.true_and, Bool.not_eq_true, List.any_eq_false]
      exact h w hw hne
    · simp [hne]
def idsR (L : List RC) : List ByteArray := L.map RC.id
theorem idsR_len (L : List RC) : (idsR L).length = L.length := by simp [idsR]
theorem idsR_nth (L : List RC) (j : Nat) (h : j < L.length) : Ord.nth (idsR L) j = (L[j]).id := by
  unfold Ord.nth idsR
  rw [List.getD_eq_getElem?_getD, List.getElem?_map, List.getElem?_eq_getElem h]
  rfl
theorem idsR_mem (L : List RC) (s : ByteArray) : s ∈ idsR L ↔ ∃ r ∈ L, r.id = s := by simp [idsR]
/-- May a table be? -/
def tabOk (T : TM) : Bool := decide (1 ≤ T.most) && decide (T.most ≤ 64) && decide ((T.rows.length : Int) ≤ T.most) && decide (Ord.chE (idsR T.rows) = 0) && decide T.uq.Nodup && T.rows.all recOk && !(T.rows.any (clT T))
structure TabOk (T : TM) : Prop where
  m1 : 1 ≤ T.most
  m2 : T.most ≤ 64
  len : (T.rows.length : Int) ≤ T.most
  up : Ord.chE (idsR T.rows) = 0
  uq : T.uq.Nodup
  rcs : ∀ r ∈ T.rows, recOk r = true
  cl : ∀ w ∈ T.rows, ∀ v ∈ T.rows, v.id ≠ w.id → ∀ s ∈ T.uq, clash v w s = false
theorem tabOk_iff {T : TM} : tabOk T = true ↔ TabOk T := by
  unfold tabOk
  simp only [Bool.and_eq_true, decide_eq_true_eq, List.all_eq_true, Bool.not_eq_true', List.any_eq_false, Bool.not_eq_true, clT_no]
  constructor
  · rintro ⟨⟨⟨⟨⟨⟨h1, h2⟩, h3⟩, h4⟩, h5⟩, h6⟩, h7⟩
    exact ⟨h1, h2, h3, h4, h5, h6, h7⟩
  · rintro ⟨h1, h2, h3, h4, h5, h6, h7⟩
    exact ⟨⟨⟨⟨⟨⟨h1, h2⟩, h3⟩, h4⟩, h5⟩, h6⟩, h7⟩
def zT : TM := ⟨⟨#[]⟩, 0, [], []⟩
theorem zT_no : tabOk zT = false := by decide +kernel
def ltR (r w : RC) : Bool := decide (Ord.cmpB w.id r.id < 0)
def insR (L : List RC) (r : RC) : List RC := L.takeWhile (ltR r) ++ r :: L.dropWhile (ltR r)
def putT (T : TM) (r : RC) : TM × Int := if (tabOk T && recOk r) = false then (zT, 8) else if (decide (r.id ∈ idsR T.rows) || clT T r) = true then (zT, 271) else if (T.rows.length : Int) = T.most then (zT, 272) else ({ T with rows := insR T.rows r }, 0)
def repR (r w : RC) : RC := if w.id = r.id then r else w
def setT (T : TM) (r : RC) : TM × Int := if (tabOk T && recOk r) = false then (zT, 8) else if ¬ r.id ∈ idsR T.rows then (zT, 270) else if clT T r = true then (zT, 271) else ({ T with rows := T.rows.map (repR r) }, 0)
def dropT (T : TM) (s : ByteArray) : TM × Int := if tabOk T = false then (zT, 8) else if ¬ s ∈ idsR T.rows then (zT, 270) else ({ T with rows := T.rows.filter fun w => decide (w.id ≠ s) }, 0)
def fndR (L : List RC) (s : ByteArray) : Option RC := L.find? fun w => decide (w.id = s)
def getT (T : TM) (s : ByteArray) : Option RC := if tabOk T = true then fndR T.rows s else none
theorem tw_at {p : RC → Bool} : ∀ (L : List RC) (k : Nat), k ≤ L.length → (∀ j (h : j < L.length), j < k → p L[j] = true) → (∀ h : k < L.length, p L[k] = false) → L.takeWhile p = L.take k ∧ L.dropWhile p = L.drop k
  | [], k, _, _, _ => by simp
  | x :: L, 0, _, _, h2 => by
    have := h2 (by simp)
    simp only [List.getElem_cons_zero] at this
    simp [this]
  | x :: L, k + 1, hk, h1, h2 => by
    have e := h1 0 (by simp) (by omega)
    simp only [List.getElem_cons_zero] at e
    have ih := tw_at L k (by simpa using hk) (fun j h hj => by have := h1 (j + 1) (by simpa using h) (by omega); simpa using this) (fun h => by have := h2 (by simpa using h); simpa using this)
    rw [List.takeWhile_cons, List.dropWhile_cons, e]
    simp [ih.1, ih.2]
theorem insR_at {L : List RC} {r : RC} {k : Nat} {is : Bool} (h : Ord.At (idsR L) r.id k is) : insR L r = L.take k ++ r :: L.drop k := by
  obtain ⟨h0, h1, h2, h3⟩ := h
  rw [idsR_len] at h0
  have t := tw_at (p := ltR r) L k h0 (fun j hj hk => by
    unfold ltR
    have := h1 j hk
    rw [idsR_nth L j hj] at this
    simpa using this) (fun hk => by
    unfold ltR
    cases is with
    | true =>
      have := (h2 rfl).2
      rw [idsR_nth L k hk] at this
      rw [this]
      have := (Ord.cmp_zero r.id r.id).2 rfl
      simp [this]
    | false =>
      have := h3 rfl k (Nat.le_refl _) (by rw [idsR_len]; exact hk)
      rw [idsR_nth L k hk] at this
      simp; omega)
  unfold insR
  rw [t.1, t.2]
theorem idsR_ins (L : List RC) (r : RC) (k : Nat) : idsR (L.take k ++ r :: L.drop k) = Ord.insL (idsR L) r.id k := by
  unfold idsR Ord.insL
  simp [List.map_take, List.map_drop]
theorem insR_mem {L : List RC} {r w : RC} : w ∈ insR L r ↔ w = r ∨ w ∈ L := by
  unfold insR
  rw [List.mem_append, List.mem_cons]
  conv => rhs; rw [show L = L.takeWhile (ltR r) ++ L.dropWhile (ltR r) from List.takeWhile_append_dropWhile.symm]
  rw [List.mem_append]
  constructor
  · rintro (h | h | h)
    · exact .inr (.inl h)
    · exact .inl h
    · exact .inr (.inr h)
  · rintro (h | h | h)
    · exact .inr (.inl h)
    · exact .inl h
    · exact .inr (.inr h)
theorem insR_len (L : List RC) (r : RC) : (insR L r).length = L.length + 1 := by
  unfold insR
  have := congrArg List.length (List.takeWhile_append_dropWhile (p := ltR r) (l := L))
  rw [List.length_append] at this
  rw [List.length_append, List.length_cons]
  omega
theorem at_mem {L : List ByteArray} {s : ByteArray} {k : Nat} {is : Bool} (h : Ord.At L s k is) : is = decide (s ∈ L) := by
  have := Ord.at_iff h
  rw [Bool.eq_iff_iff, this, decide_eq_true_eq]
  exact Ord.inL_mem
theorem uniq_id {L : List RC} (hc : Ord.chE (idsR L) = 0) {v w : RC} (hv : v ∈ L) (hw : w ∈ L) (h : v.id = w.id) : v = w := by
  obtain ⟨i, hi, rfl⟩ := List.getElem_of_mem hv
  obtain ⟨j, hj, rfl⟩ := List.getElem_of_mem hw
  have := Ord.rises_inj (L := idsR L) (i := i) (j := j) hc (by rw [idsR_len]; exact hi) (by rw [idsR_len]; exact hj) (by rw [idsR_nth L i hi, idsR_nth L j hj]; exact h)
  subst this
  rfl
theorem fnd_some {L : List RC} {s : ByteArray} {r : RC} (hc : Ord.chE (idsR L) = 0) : fndR L s = some r ↔ r ∈ L ∧ r.id = s := by
  unfold fndR
  constructor
  · intro h
    exact ⟨List.mem_of_find?_eq_some h, by simpa using List.find?_some h⟩
  · rintro ⟨h1, h2⟩
    cases hf : L.find? fun w => decide (w.id = s) with
    | none => exact absurd (by simpa using h2) (List.find?_eq_none.1 hf r h1)
    | some q =>
      have q1 := List.mem_of_find?_eq_some hf
      have q2 : q.id = s := by simpa using List.find?_some hf
      rw [uniq_id hc q1 h1 (by rw [q2, h2])]
theorem fnd_none {L : List RC} {s : ByteArray} : fndR L s = none ↔ ¬ s ∈ idsR L := by
  unfold fndR
  rw [List.find?_eq_none, idsR_mem]
  constructor
  · rintro h ⟨r, h1, h2⟩; exact h r h1 (by simpa using h2)
  · intro h r h1; simp only [decide_eq_true_eq]; exact fun h2 => h ⟨r, h1, h2⟩
/-- Two rows of rising ids with the same records are the same. -/
theorem rows_ext {L M : List RC} (hL : Ord.chE (idsR L) = 0) (hM : Ord.chE (idsR M) = 0) (h : ∀ w, w ∈ L ↔ w ∈ M) : L = M := by
  have e : idsR L = idsR M := Ord.rises_uniq (Ord.chOk hL).2 (Ord.chOk hM).2 (fun s => by
    rw [Ord.inL_mem, Ord.inL_mem, idsR_mem, idsR_mem]
    exact ⟨fun ⟨r, h1, h2⟩ => ⟨r, (h r).1 h1, h2⟩, fun ⟨r, h1, h2⟩ => ⟨r, (h r).2 h1, h2⟩⟩)
  have el : L.length = M.length := by have := congrArg List.length e; rwa [idsR_len, idsR_len] at this
  refine List.ext_getElem el fun i h1 h2 => ?_
  refine uniq_id hM ((h _).1 (List.getElem_mem h1)) (List.getElem_mem h2) ?_
  rw [← idsR_nth L i h1, ← idsR_nth M i h2, e]
theorem chE_ins {L : List RC} {r : RC} (hc : Ord.chE (idsR L) = 0) (hl : L.length < 4096) (hn : ¬ r.id ∈ idsR L) : Ord.chE (idsR (insR L r)) = 0 := by
  obtain ⟨k, is, ha⟩ := Ord.at_some hc r.id
  have hi := at_mem ha
  rw [decide_eq_false hn] at hi
  subst hi
  rw [insR_at ha, idsR_ins]
  exact Ord.insL_ok hc (by rw [idsR_len]; exact hl) ha
theorem put_ok {T X : TM} {r : RC} (h : putT T r = (X, 0)) : TabOk T ∧ recOk r = true ∧ ¬ r.id ∈ idsR T.rows ∧ clT T r = false ∧ (T.rows.length : Int) ≠ T.most ∧ X = { T with rows := insR T.rows r } := by
  unfold putT at h
  split at h
  · simp at h
  · rename_i h1
    split at h
    · simp at h
    · rename_i h2
      split at h
      · simp at h
      · rename_i h3
        simp only [Bool.not_eq_false, Bool.and_eq_true] at h1
        simp only [Bool.or_eq_true, decide_eq_true_eq, not_or, Bool.not_eq_true] at h2
        simp only [Prod.mk.injEq, and_true] at h
        exact ⟨tabOk_iff.1 h1.1, h1.2, h2.1, h2.2, h3, h.symm⟩
theorem put_mk {T : TM} {r : RC} (h1 : TabOk T) (h2 : recOk r = true) (h3 : ¬ r.id ∈ idsR T.rows) (h4 : clT T r = false) (h5 : (T.rows.length : Int) ≠ T.most) : putT T r = ({ T with rows := insR T.rows r }, 0) := by
  unfold putT
  rw [tabOk_iff.2 h1, h2, decide_eq_false h3, h4, if_neg (by simp), if_neg (by simp), if_neg h5]
theorem put_tab {T : TM} {r : RC} (h1 : TabOk T) (h2 : recOk r = true) (h3 : ¬ r.id ∈ idsR T.rows) (h4 : clT T r = false) (h5 : (T.rows.length : Int) ≠ T.most) : TabOk { T with rows := insR T.rows r } := by
  obtain ⟨m1, m2, len, up, uq, rc, cl⟩ := h1
  rw [clT_no] at h4
  refine ⟨m1, m2, by show (((insR T.rows r).length : Nat) : Int) ≤ T.most; rw [insR_len]; omega, chE_ins up (by omega) h3, uq, fun w hw => ?_, fun w hw v hv hne s hs => ?_⟩
  · rcases insR_mem.1 hw with e | e
    · rw [e]; exact h2
    · exact rc w e
  · rcases insR_mem.1 hw with e | e
    · rcases insR_mem.1 hv with f | f
      · exact absurd (by rw [e, f]) hne
      · rw [e] at hne ⊢; exact h4 v f hne s hs
    · rcases insR_mem.1 hv with f | f
      · rw [f] at hne ⊢; rw [clash_comm]; exact h4 w e (fun e => hne e.symm) s hs
      · exact cl w e v f hne s hs
theorem back_law {T X : TM} {r : RC} (h : putT T r = (X, 0)) : tabOk X = true ∧ getT X r.id = some r ∧ dropT X r.id = (T, 0) ∧ (putT X r).2 = 271 ∧ ∀ s, s ≠ r.id → getT X s = getT T s := by
  obtain ⟨h1, h2, h3, h4, h5, rfl⟩ := put_ok h
  have hX := put_tab h1 h2 h3 h4 h5
  have tX := tabOk_iff.2 hX
  have hin : r ∈ insR T.rows r := insR_mem.2 (.inl rfl)
  have hid : r.id ∈ idsR (insR T.rows r) := (idsR_mem _ _).2 ⟨r, hin, rfl⟩
  refine ⟨tX, ?_, ?_, ?_, fun s hs => ?_⟩
  · unfold getT
    rw [if_pos tX]
    exact (fnd_some hX.up).2 ⟨hin, rfl⟩
  · unfold dropT
    rw [tX, if_neg (by simp), if_neg (by simpa using hid)]
    have e : (insR T.rows r).filter (fun w => decide (w.id ≠ r.id)) = T.rows := by
      unfold insR
      rw [List.filter_append, List.filter_cons, if_neg (by simp), ← List.filter_append, List.takeWhile_append_dropWhile, List.filter_eq_self]
      intro w hw
      simp only [ne_eq, decide_not, Bool.not_eq_eq_eq_not, Bool.not_true, decide_eq_false_iff_not]
      exact fun e => h3 ((idsR_mem _ _).2 ⟨w, hw, e⟩)
    show (({ T with rows := (insR T.rows r).filter fun w => decide (w.id ≠ r.id) } : TM), (0 : Int)) = _
    rw [e]
  · unfold putT
    rw [tX, h2, decide_eq_true hid, if_neg (by simp), if_pos (by simp)]
  · unfold getT
    rw [if_pos tX, if_pos (tabOk_iff.2 h1)]
    show fndR (insR T.rows r) s = fndR T.rows s
    unfold fndR insR
    rw [List.find?_append, List.find?_cons_of_neg (by simpa using fun e => hs e.symm), ← List.find?_append, List.takeWhile_append_dropWhile]
theorem set_ok {T X : TM} {r : RC} (h : setT T r = (X, 0)) : TabOk T ∧ recOk r = true ∧ r.id ∈ idsR T.rows ∧ clT T r = false ∧ X = { T with rows := T.rows.map (repR r) } := by
  unfold setT at h
  split at h
  · simp at h
  · rename_i h1
    split at h
    · simp at h
    · rename_i h2
      split at h
      · simp at h
      · rename_i h3
        simp only [Bool.not_eq_false, Bool.and_eq_true] at h1
        simp only [Prod.mk.injEq, and_true] at h
        exact ⟨tabOk_iff.1 h1.1, h1.2, by simpa using h2, by simpa using h3, h.symm⟩
theorem rep_id (r w : RC) : (repR r w).id = w.id := by
  unfold repR
  split
  · rename_i h; exact h.symm
  · rfl
theorem rep_ids (L : List RC) (r : RC) : idsR (L.map (repR r)) = idsR L := by
  unfold idsR
  rw [List.map_map]
  exact List.map_congr_left fun w _ => rep_id r w
theorem set_tab {T : TM} {r : RC} (h1 : TabOk T) (h2 : recOk r = true) (h4 : clT T r = false) : TabOk { T with rows := T.rows.map (repR r) } := by
  obtain ⟨m1, m2, len, up, uq, rc, cl⟩ := h1
  rw [clT_no] at h4
  refine ⟨m1, m2, by show (((T.rows.map (repR r)).length : Nat) : Int) ≤ T.most; rw [List.length_map]; exact len, by show Ord.chE (idsR (T.rows.map (repR r))) = 0; rw [rep_ids]; exact up, uq, fun w hw => ?_, fun w hw v hv hne s hs => ?_⟩
  · obtain ⟨w', hw', rfl⟩ := List.mem_map.1 hw
    unfold repR
    split
    · exact h2
    · exact rc w' hw'
  · obtain ⟨w', hw', rfl⟩ := List.mem_map.1 hw
    obtain ⟨v', hv', rfl⟩ := List.mem_map.1 hv
    rw [rep_id, rep_id] at hne
    unfold repR
    split
    · rename_i e1
      split
      · rename_i e2; exact absurd (e1.trans e2.symm) hne
      · rename_i e2; rw [clash_comm]; exact h4 w' hw' e2 s hs
    · rename_i e1
      split
      · exact h4 v' hv' e1 s hs
      · exact cl w' hw' v' hv' hne s hs
theorem sets_law {T X : TM} {r : RC} (h : setT T r = (X, 0)) : tabOk X = true ∧ X.rows.length = T.rows.length ∧ getT X r.id = some r ∧ (∃ old, getT T r.id = some old ∧ setT X old = (T, 0)) ∧ ∀ s, s ≠ r.id → getT X s = getT T s := by
  obtain ⟨h1, h2, h3, h4, rfl⟩ := set_ok h
  have hX := set_tab h1 h2 h4
  have tX := tabOk_iff.2 hX
  have tT := tabOk_iff.2 h1
  obtain ⟨old, ho1, ho2⟩ := (idsR_mem _ _).1 h3
  refine ⟨tX, by simp, ?_, ⟨old, ?_, ?_⟩, fun s hs => ?_⟩
  · unfold getT
    rw [if_pos tX]
    refine (fnd_some hX.up).2 ⟨List.mem_map.2 ⟨old, ho1, ?_⟩, rfl⟩
    unfold repR; rw [if_pos ho2]
  · unfold getT
    rw [if_pos tT]
    exact (fnd_some h1.up).2 ⟨ho1, ho2⟩
  · unfold setT
    have c : clT { T with rows := T.rows.map (repR r) } old = false := by
      rw [clT_no]
      intro w hw hne s hs
      obtain ⟨w', hw', rfl⟩ := List.mem_map.1 hw
      rw [rep_id] at hne
      unfold repR
      rw [if_neg (fun e => hne (e.trans ho2.symm))]
      exact h1.cl old ho1 w' hw' hne s hs
    rw [tX, h1.rcs old ho1, c, if_neg (by simp), if_neg (by show ¬ ¬ old.id ∈ idsR (T.rows.map (repR r)); rw [rep_ids, ho2]; simpa using h3), if_neg (by simp)]
    show (({ T with rows := (T.rows.map (repR r)).map (repR old) } : TM), (0 : Int)) = _
    have e : (T.rows.map (repR r)).map (repR old) = T.rows := by
      rw [List.map_map]
      conv => rhs; rw [← List.map_id T.rows]
      refine List.map_congr_left fun w hw => ?_
      show repR old (repR r w) = w
      unfold repR
      by_cases e1 : w.id = r.id
      · rw [if_pos e1, if_pos ho2.symm]
        exact (uniq_id h1.up hw ho1 (e1.trans ho2.symm)).symm
      · rw [if_neg e1, if_neg (fun e => e1 (e.trans ho2))]
    rw [e]
  · unfold getT
    rw [if_pos tX, if_pos tT]
    show fndR (T.rows.map (repR r)) s = fndR T.rows s
    unfold fndR
    rw [List.find?_map]
    have e : ((fun w : RC => decide (w.id = s)) ∘ repR r) = fun w : RC => decide (w.id = s) := by
      funext w
      show decide ((repR r w).id = s) = _
      rw [rep_id]
    rw [e]
    cases hf : T.rows.find? (fun w : RC => decide (w.id = s)) with
    | none => rfl
    | some q =>
      have q2 : q.id = s := by simpa using List.find?_some hf
      show some (repR r q) = some q
      unfold repR
      rw [if_neg (fun e => hs (q2.symm.trans e))]
theorem order_law {T X Y : TM} {a b : RC} (h : putT T a = (X, 0)) (k : putT X b = (Y, 0)) : ∃ Z, putT T b = (Z, 0) ∧ putT Z a = (Y, 0) := by
  obtain ⟨h1, h2, h3, h4, h5, rfl⟩ := put_ok h
  obtain ⟨k1, k2, k3, k4, k5, rfl⟩ := put_ok k
  have hab : b.id ≠ a.id := fun e => k3 ((idsR_mem _ _).2 ⟨a, insR_mem.2 (.inl rfl), e.symm⟩)
  have h5' : (T.rows.length : Int) < T.most := by have := h1.len; omega
  have k5' : (T.rows.length : Int) + 1 ≠ T.most := by
    have : (((insR T.rows a).length : Nat) : Int) ≠ T.most := k5
    rw [insR_len] at this; simpa using this
  have hb : ¬ b.id ∈ idsR T.rows := fun e => by
    obtain ⟨w, hw, e2⟩ := (idsR_mem _ _).1 e
    exact k3 ((idsR_mem _ _).2 ⟨w, insR_mem.2 (.inr hw), e2⟩)
  rw [clT_no] at h4 k4
  have cb : clT T b = false := clT_no.2 fun w hw hne s hs => k4 w (insR_mem.2 (.inr hw)) hne s hs
  have hZ := put_tab h1 k2 hb cb (by omega)
  have ha : ¬ a.id ∈ idsR (insR T.rows b) := fun e => by
    obtain ⟨w, hw, e2⟩ := (idsR_mem _ _).1 e
    rcases insR_mem.1 hw with rfl | hw
    · exact hab e2
    · exact h3 ((idsR_mem _ _).2 ⟨w, hw, e2⟩)
  have ca : clT { T with rows := insR T.rows b } a = false := clT_no.2 fun w hw hne s hs => by
    rcases insR_mem.1 hw with rfl | hw
    · rw [clash_comm]; exact k4 a (insR_mem.2 (.inl rfl)) (fun e => hab e.symm) s hs
    · exact h4 w hw hne s hs
  refine ⟨_, put_mk h1 k2 hb cb (by omega), ?_⟩
  have lz : (({ T with rows := insR T.rows b } : TM).rows.length : Int) ≠ T.most := by
    show (((insR T.rows b).length : Nat) : Int) ≠ T.most
    rw [insR_len]; simpa using k5'
  rw [put_mk hZ h2 ha ca lz]
  have hY := put_tab k1 k2 k3 (clT_no.2 k4) k5
  have hW := put_tab hZ h2 ha ca lz
  have e : insR (insR T.rows b) a = insR (insR T.rows a) b := rows_ext hW.up hY.up fun w => by
    rw [insR_mem, insR_mem, insR_mem, insR_mem]
    constructor
    · rintro (h | h | h)
      · exact .inr (.inl h)
      · exact .inl h
      · exact .inr (.inr h)
    · rintro (h | h | h)
      · exact .inr (.inl h)
      · exact .inl h
      · exact .inr (.inr h)
  show (({ T with rows := insR (insR T.rows b) a } : TM), (0 : Int)) = _
  rw [e]
/-- The errors of Put. -/
theorem put_err (T : TM) (r : RC) : (putT T r).2 ≠ 0 → (putT T r).1 = zT := by
  unfold putT
  split
  · intro _; rfl
  · split
    · intro _; rfl
    · split
      · intro _; rfl
      · intro h; exact absurd rfl h
theorem set_err (T : TM) (r : RC) : (setT T r).2 ≠ 0 → (setT T r).1 = zT := by
  unfold setT
  split
  · intro _; rfl
  · split
    · intro _; rfl
    · split
      · intro _; rfl
      · intro h; exact absurd rfl h
theorem put_z (r : RC) : putT zT r = (zT, 8) := by
  unfold putT
  rw [zT_no, if_pos (by simp)]
end Go.Proofs.Ytfigebepeniikaa
/- Layer 3: Twin, Sub. -/
namespace Go.Proofs.Ytfigebepeniikaa
open Go.RowKit Go.Maps
theorem cv_news {w : World} {b off n : Nat} {g : Nat → CR} (h : CV w (some ⟨b, off, none⟩) n g) : ∀ j u, (rw5 (cut g 0 n))[j]? = some u → w.cell? ((⟨b, off, none⟩ : Addr).add j) = some u := by
  intro j u hj
  have hlt := (List.getElem?_eq_some_iff.1 hj).1
  rw [rw5_len, cut_len, Nat.sub_zero] at hlt
  have hi : j / 5 < n := by omega
  obtain ⟨_, c0, c1, c2, c3, c4⟩ := h.at_ hi
  obtain ⟨a0, a1, a2, a3, a4⟩ := rw5_at (cut g 0 n) (j / 5) (by rw [cut_len]; omega)
  have eg : gl (cut g 0 n) (j / 5) = g (j / 5) := by rw [cut_at g 0 n _ (by omega), Nat.zero_add]
  rw [eg] at a0 a1 a2 a3 a4
  rw [Addr.add_lit]
  show w.cell? ⟨b, off + j, none⟩ = some u
  rcases (by omega : j = j / 5 * 5 ∨ j = j / 5 * 5 + 1 ∨ j = j / 5 * 5 + 2 ∨ j = j / 5 * 5 + 3 ∨ j = j / 5 * 5 + 4) with e | e | e | e | e
  · rw [e] at hj ⊢; rw [a0] at hj; rw [c0]; exact hj
  · rw [e] at hj ⊢; rw [a1] at hj; rw [← Nat.add_assoc, c1]; exact hj
  · rw [e] at hj ⊢; rw [a2] at hj; rw [← Nat.add_assoc, c2]; exact hj
  · rw [e] at hj ⊢; rw [a3] at hj; rw [← Nat.add_assoc, c3]; exact hj
  · rw [e] at hj ⊢; rw [a4] at hj; rw [← Nat.add_assoc, c4]; exact hj
theorem rw5_one (L : List CR) : ∀ u ∈ rw5 L, u.oneCell' = true := by
  intro u hu
  unfold rw5 at hu
  obtain ⟨c, _, hc⟩ := List.mem_flatMap.1 hu
  simp at hc
  rcases hc with rfl | rfl | rfl | rfl | rfl <;> rfl
/-- Twin, whichever of the two. -/
def TwinPost (w : World) (n : Nat) (g : Nat → CR) (r : Ending) (w' : World) : Prop := ∃ v, r = .returned v ∧ w'.ownsRow w.heap.size 53 5 v n (rw5 (cut g 0 n)) ∧ Below w.heap.size w w'
end Go.Proofs.Ytfigebepeniikaa
/- Layer 3: a name written into a row; Sub. -/
namespace Go.Proofs.Ytfigebepeniikaa
open Go.RowKit Go.Maps
/-- The cells, one's name aside. -/
def setNm (L : List CR) (i : Nat) (s : ByteArray) : List CR := L.modify i fun c => { c with nm := s }
theorem setNm_len (L : List CR) (i : Nat) (s : ByteArray) : (setNm L i s).length = L.length := by simp [setNm]
theorem setNm_zero (L : List CR) (s : ByteArray) : setNm L 0 s = ren s L := by cases L <;> rfl
theorem rw5_set : ∀ (L : List CR) (i : Nat) (s : ByteArray), i < L.length → (rw5 L).set (i * 5 + 1) (.string s) = rw5 (setNm L i s)
  | [], i, s, h => by simp at h
  | c :: L, 0, s, h => by
    unfold setNm
    rw [rw5_cons]
    rfl
  | c :: L, i + 1, s, h => by
    have ih := rw5_set L i s (by simpa using h)
    have e : setNm (c :: L) (i + 1) s = c :: setNm L i s := rfl
    rw [e, rw5_cons, rw5_cons, ← ih, show (i + 1) * 5 + 1 = (i * 5 + 1) + 5 by omega]
    rfl
theorem own_set {w : World} {B q n cap i : Nat} {L : List CR} (h : w.ownsRow B 53 5 (.slice (some ⟨q, 0, none⟩) n cap) n (rw5 L)) (hl : L.length = n) (hi : i < n) (s : ByteArray) :
    (w.setCell ⟨q, i * 5 + 1, none⟩ (.string s)).ownsRow B 53 5 (.slice (some ⟨q, 0, none⟩) n cap) n (rw5 (setNm L i s)) := by
  refine ⟨by rw [rw5_len, setNm_len, hl], ?_⟩
  rcases h.2 with ⟨h', _⟩ | ⟨g', cap', cur, h', hb, hg, h1, h2, h3, h4⟩
  · simp at h'
  · simp only [Value.slice.injEq, Option.some.injEq, Addr.mk.injEq, and_true, true_and] at h'
    obtain ⟨rfl, rfl⟩ := h'
    refine .inr ⟨q, cap, cur.setIfInBounds (i * 5 + 1) (.string s), rfl, hb, ?_, h1, h2, by simpa using h3, ?_⟩
    · simp [World.setCell, Array.getElem?_modify, hg]
    · rw [Array.toList_setIfInBounds, List.take_set, h4]
      exact rw5_set L i s (by omega)
theorem own_cellq {w : World} {B q n cap i : Nat} {L : List CR} (h : w.ownsRow B 53 5 (.slice (some ⟨q, 0, none⟩) n cap) n (rw5 L)) (hi : i < n) (hl : L.length = n) : w.cell? ⟨q, i * 5 + 1, none⟩ = some (.string (gl L i).nm) ∧ w.frozen? ⟨q, i * 5 + 1, none⟩ = false := by
  refine ⟨?_, ?_⟩
  · rw [h.cellAt _ (by omega)]
    exact (rw5_at L i (by omega)).2.1
  · rcases h.2 with ⟨h', _⟩ | ⟨g', cap', cur, h', hb, hg, h1, h2, h3, h4⟩
    · simp at h'
    · simp only [Value.slice.injEq, Option.some.injEq, Addr.mk.injEq, and_true, true_and] at h'
      obtain ⟨rfl, rfl⟩ := h'
      simp [World.frozen?, hg]
theorem own_addr {w : World} {B n : Nat} {v : Value} {xs : List Value} {e : TypeId} {sz : Nat} (h : w.ownsRow B e sz v n xs) (h0 : 0 < n) : ∃ q cap, v = .slice (some ⟨q, 0, none⟩) n cap ∧ B ≤ q ∧ q < w.heap.size := by
  rcases h.2 with ⟨_, hn⟩ | ⟨q, cap, cur, rfl, hb, hg, _⟩
  · omega
  · exact ⟨q, cap, rfl, hb, (Array.getElem?_eq_some_iff.1 hg).1⟩
theorem CV.part {w : World} {b off n : Nat} {g : Nat → CR} (h : CV w (some ⟨b, off, none⟩) n g) (p e : Nat) (he : e ≤ n) : CV w (some ⟨b, off + p * 5, none⟩) (e - p) (fun i => g (p + i)) := fun i hi => by
  obtain ⟨h0, c0, c1, c2, c3, c4⟩ := h.at_ (i := p + i) (by omega)
  rw [show off + (p + i) * 5 = off + p * 5 + i * 5 by omega] at c0 c1 c2 c3 c4
  exact ⟨b, off + p * 5, rfl, h0, c0, c1, c2, c3, c4⟩
theorem cut_part (g : Nat → CR) (p e : Nat) : cut (fun i => g (p + i)) 0 (e - p) = cut g p e := by
  unfold cut
  simp
end Go.Proofs.Ytfigebepeniikaa
/- Layer 3: gather. -/
namespace Go.Proofs.Ytfigebepeniikaa
open Go.RowKit Go.Maps
/-- Values that came in. -/
structure LIn (w : World) (la : Option Addr) (ln : Nat) (ad : Nat → Option Addr) (len cp : Nat → Nat) (G : Nat → Nat → CR) : Prop where
  at_ : ∀ i, i < ln → ∃ b off, la = some ⟨b, off, none⟩ ∧ b < w.heap.size ∧ w.cell? ⟨b, off + i, none⟩ = some (.slice (ad i) (len i) (cp i))
  cv : ∀ i, i < ln → CV w (ad i) (len i) (G i)
theorem LIn.below {w w' : World} {la : Option Addr} {ln : Nat} {ad : Nat → Option Addr} {len cp : Nat → Nat} {G : Nat → Nat → CR} (h : LIn w la ln ad len cp G) (hb : Below w.heap.size w w') : LIn w' la ln ad len cp G :=
  ⟨fun i hi => by
    obtain ⟨b, off, e, h1, h2⟩ := h.at_ i hi
    exact ⟨b, off, e, Nat.lt_of_lt_of_le h1 hb.size, (hb.cell (p := ⟨b, _, none⟩) h1).trans h2⟩, fun i hi => (h.cv i hi).below hb⟩
/-- Names that came in. -/
def NV (w : World) (a : Option Addr) (n : Nat) (s : Nat → ByteArray) : Prop := ∀ i, i < n → ∃ b off, a = some ⟨b, off, none⟩ ∧ b < w.heap.size ∧ w.cell? ⟨b, off + i, none⟩ = some (.string (s i))
theorem NV.below {w w' : World} {a : Option Addr} {n : Nat} {s : Nat → ByteArray} (h : NV w a n s) (hb : Below w.heap.size w w') : NV w' a n s := fun i hi => by
  obtain ⟨b, off, e, h1, h2⟩ := h i hi
  exact ⟨b, off, e, Nat.lt_of_lt_of_le h1 hb.size, (hb.cell (p := ⟨b, _, none⟩) h1).trans h2⟩
/-- The i-th value, under its name. -/
def lsF (k : Nat) (s : Nat → ByteArray) (len : Nat → Nat) (G : Nat → Nat → CR) (i : Nat) : List CR := if k = 7 then ren (s i) (cut (G i) 0 (len i)) else cut (G i) 0 (len i)
def hdC (k ln : Nat) : CR := ⟨k, ⟨#[]⟩, ⟨#[]⟩, 0, ln⟩
def preL (k ln : Nat) (s : Nat → ByteArray) (len : Nat → Nat) (G : Nat → Nat → CR) (i : Nat) : List CR := hdC k ln :: ((List.range i).map (lsF k s len G)).flatten
theorem pre_succ (k ln : Nat) (s : Nat → ByteArray) (len : Nat → Nat) (G : Nat → Nat → CR) (i : Nat) : preL k ln s len G (i + 1) = preL k ln s len G i ++ lsF k s len G i := by
  unfold preL
  rw [List.range_succ, List.map_append, List.flatten_append]
  simp
theorem ls_len (k : Nat) (s : Nat → ByteArray) (len : Nat → Nat) (G : Nat → Nat → CR) (i : Nat) : (lsF k s len G i).length = len i := by
  unfold lsF
  split
  · rw [ren_len, cut_len, Nat.sub_zero]
  · rw [cut_len, Nat.sub_zero]
theorem set_app (L M : List CR) (s : ByteArray) : setNm (L ++ M) L.length s = L ++ ren s M := by
  induction L with
  | nil => cases M <;> rfl
  | cons x L ih =>
    show x :: setNm (L ++ M) L.length s = x :: (L ++ ren s M)
    rw [ih]
/-- The error of gather. -/
def gE (k ln : Nat) (s : Nat → ByteArray) (len : Nat → Nat) (G : Nat → Nat → CR) : Int :=
  if 2048 < ln then 4 else if (List.range ln).all (fun i => ckC (G i) (len i)) then eC (ckL (preL k ln s len G ln)) else 8
def GP (w : World) (e : Int) (L : List CR) (r : Ending) (w' : World) : Prop :=
  ∃ v, r = .returned (.tuple #[v, .int .i64 e]) ∧ (e ≠ 0 → v = .slice none 0 0) ∧ (e = 0 → w'.ownsRow w.heap.size 53 5 v L.length (rw5 L)) ∧ Below w.heap.size w w'
theorem GP.bad {w w' : World} {e z : Int} {L : List CR} (he : e = z) (hz : z ≠ 0) (hb : Below w.heap.size w w') : GP w e L (.returned (.tuple #[.slice none 0 0, .int .i64 z])) w' := by
  subst he; exact ⟨_, rfl, fun _ => rfl, fun h => absurd h hz, hb⟩
theorem GP.ok {w w' : World} {e : Int} {L : List CR} {v : Value} (he : e = 0) (ho : w'.ownsRow w.heap.size 53 5 v L.length (rw5 L)) (hb : Below w.heap.size w w') : GP w e L (.returned (.tuple #[v, .int .i64 0])) w' := by
  subst he; exact ⟨_, rfl, fun h => absurd rfl h, fun _ => ho, hb⟩
set_option maxRecDepth 20000 in
theorem gather_many (kv : Int) (na la : Option Addr) (nn nc ln lc : Nat) (k : Nat) (s : Nat → ByteArray) (len : Nat → Nat) (G : Nat → Nat → CR) (w : World) (hl : 2048 < ln) : Calls Try.prog 44 #[.int .u8 kv, .slice na nn nc, .slice la ln lc] w (GP w (gE k ln s len G) (preL k ln s len G ln)) := by
  have HE := Lib.hid (show gE k ln s len G = 4 by unfold gE; rw [if_pos hl])
  obtain ⟨z, hz⟩ : ∃ z, z = gE k ln s len G := ⟨_, rfl⟩
  rw [← hz] at HE ⊢
  have h1 : (2048 : Int) < (ln : Int) := by omega
  clear hl hz
  go_enter Try.func44, Try.ntmps44
  go_wp2_with fail
  go_ret2
  exact GP.bad HE.out (by decide) (Below.refl _ _)
set_option maxRecDepth 20000 in
set_option maxHeartbeats 4000000 in
theorem gather_any (k : Nat) (hk : k = 6 ∨ k = 7) (na la : Option Addr) (nn nc ln lc : Nat) (s : Nat → ByteArray) (ad : Nat → Option Addr) (len cp : Nat → Nat) (G : Nat → Nat → CR) (w : World) (hl : ln ≤ 2048) (hin : LIn w la ln ad len cp G) (hcw : ∀ i, i < ln → CW (len i) (G i)) (hnv : k = 7 → NV w na ln s) (hnn : k = 7 → nn = ln) (hsz : k = 7 → ∀ i, i < ln → (s i).size ≤ maxLen) :
    Calls Try.prog 44 #[.int .u8 k, .slice na nn nc, .slice la ln lc] w (GP w (gE k ln s len G) (preL k ln s len G ln)) := by
  obtain ⟨i0, hi, hz0, hz1, hz2⟩ := infoC
  have HE : Hid (gE k ln s len G = if (List.range ln).all (fun i => ckC (G i) (len i)) then eC (ckL (preL k ln s len G ln)) else 8) := Lib.hid (by unfold gE; rw [if_neg (by omega)])
  obtain ⟨z, hz⟩ : ∃ z, z = gE k ln s len G := ⟨_, rfl⟩
  rw [← hz] at HE ⊢
  clear hz
  have HP := Lib.hid (pre_succ k ln s len G)
  have HLS := Lib.hid (fun i => show lsF k s len G i = if k = 7 then ren (s i) (cut (G i) 0 (len i)) else cut (G i) 0 (len i) from rfl)
  have HLL := Lib.hid (ls_len k s len G)
  have HIN := Lib.hid hin
  have HNV := Lib.hid hnv
  have HCW := Lib.hid hcw
  have h1 : ¬ (2048 : Int) < (ln : Int) := by omega
  have hk0 : (0 : Int) ≤ k := by omega
  have P0 := Lib.hid (show preL k ln s len G 0 = [hdC k ln] from rfl)
  have O0 : Hid ((w.alloc (.cells #[.int .u8 k, .string ⟨#[]⟩, .string ⟨#[]⟩, .int .i64 0, .int .i64 ln] 53)).ownsRow w.heap.size 53 5 (.slice (some ⟨w.heap.size, 0, none⟩) 1 1) 1 (rw5 (preL k ln s len G 0))) := Lib.hid (World.ownsRow_lit (base := w.heap.size) (e := 53) (size := 5) w #[.int .u8 k, .string ⟨#[]⟩, .string ⟨#[]⟩, .int .i64 0, .int .i64 ln] 1 (Nat.le_refl _) (by decide) rfl)
  obtain ⟨pre, hpre⟩ : ∃ p, p = preL k ln s len G := ⟨_, rfl⟩
  have hp1 : Hid ((pre 0).length = 1) := Lib.hid (by rw [hpre]; rfl)
  have HCWP : Hid (∀ i, i ≤ ln → (∀ j, j < i → ckC (G j) (len j) = true) → CW (pre i).length (gl (pre i))) := Lib.hid (fun i hi hck => by
    refine cw_small rfl fun c hc => ?_
    rw [hpre] at hc
    unfold preL at hc
    rcases List.mem_cons.1 hc with rfl | hc
    · refine ⟨by show k < 256; omega, by show (0 : Nat) ≤ maxLen; omega, by show (0 : Nat) ≤ 1000000; omega, by show -9223372036854775808 ≤ (ln : Int); omega, by show (ln : Int) ≤ 9223372036854775807; omega⟩
    · obtain ⟨l, hl1, hl2⟩ := List.mem_flatten.1 hc
      obtain ⟨j, hj, rfl⟩ := List.mem_map.1 hl1
      have hj' := List.mem_range.1 hj
      have key : ∀ c, c ∈ cut (G j) 0 (len j) → c.k < 256 ∧ c.nm.size ≤ maxLen ∧ c.tx.size ≤ 1000000 ∧ -9223372036854775808 ≤ c.m ∧ c.m ≤ 9223372036854775807 := fun c hc => by
        unfold cut at hc
        obtain ⟨t, ht, rfl⟩ := List.mem_map.1 hc
        have ht' := List.mem_range.1 ht
        exact HCW.out j (by omega) (0 + t) (by omega)
      unfold lsF at hl2
      split at hl2
      · rename_i h7
        cases hcl : cut (G j) 0 (len j) with
        | nil => rw [hcl] at hl2; simp [ren] at hl2
        | cons x r =>
          rw [hcl] at hl2 key
          rcases List.mem_cons.1 hl2 with rfl | hl2
          · have := key x (by simp)
            exact ⟨this.1, hsz h7 j (by omega), this.2.2⟩
          · exact key c (by simp [hl2])
      · exact key c hl2)
  rw [← hpre] at HP HE O0 ⊢
  clear hpre P0 hin hnv hcw hsz
  have B0 := Lib.hid ((Below.refl w.heap.size w).alloc (Nat.le_refl _) (.cells #[.int .u8 k, .string ⟨#[]⟩, .string ⟨#[]⟩, .int .i64 0, .int .i64 ln] 53))
  go_enter Try.func44, Try.ntmps44
  go_wp2_with fail
  go_loopw [8, 24] (fun v8 v24 wr => ∃ i : Nat, i ≤ ln ∧ v24 = .int .i64 i ∧ Hid (wr.ownsRow w.heap.size 53 5 v8 (pre i).length (rw5 (pre i))) ∧ Hid (Below w.heap.size w wr) ∧ Hid (∀ j, j < i → ckC (G j) (len j) = true) ∧ Hid (1 ≤ (pre i).length ∧ (pre i).length ≤ 1 + 2048 * i)) (fun _ v24 _ => ln - (intOf v24).toNat)
  case atStart => exact ⟨0, Nat.zero_le _, rfl, by rw [hp1.out]; exact O0, B0, Lib.hid (fun j hj => by omega), Lib.hid (by rw [hp1.out]; omega)⟩
  case round =>
    obtain ⟨i, hi1, rfl, HO, HB, HK, HN⟩ := hrel
    clear O0 B0
    by_cases hlt : i < ln
    · obtain ⟨b, off, rfl, hbl, cl⟩ := (HIN.out.below HB.out).at_ i hlt
      have hg0 : (0 : Int) ≤ i := by omega
      have hg1 : (i : Int) < ln := by omega
      have HC := Lib.hid (fun W hv => cCheck_any (ad i) (len i) (cp i) (G i) W hv (HCW.out i hlt))
      have HCV := Lib.hid ((HIN.out.below HB.out).cv i hlt)
      cases hck : ckC (G i) (len i) with
      | false =>
        rw [hck, show eC false = 8 from rfl] at HC
        have HZ : Hid (z = 8) := Lib.hid (by
          rw [HE.out, if_neg]
          intro h
          have := List.all_eq_true.1 h i (List.mem_range.2 hlt)
          rw [hck] at this; cases this)
        clear hck HO HK HN
        go_wp2_with fail
        with_reducible refine (HC.out _ HCV.out).mono ?_
        rintro e w1 ⟨rfl, b1⟩
        have B1 := Lib.hid (HB.out.trans (b1.mono HB.out.size))
        clear b1
        go_wp2_with fail
        go_ret2
        exact GP.bad HZ.out (by decide) B1.out
      | true =>
        rw [hck, show eC true = 0 from rfl] at HC
        have hlen := ckC_parts hck
        have hm1 : 0 < len i := hlen.1
        have hm2 : len i ≤ 2048 := hlen.2.1
        have HK2 : Hid (∀ j, j < i + 1 → ckC (G j) (len j) = true) := Lib.hid (fun j hj => by
          by_cases e : j = i
          · subst e; exact hck
          · exact HK.out j (by omega))
        obtain ⟨b2, off2, he2⟩ := HCV.out.addr hm1
        rw [he2] at HC HCV cl
        obtain ⟨q, cq, rfl, hq1, hq2⟩ := own_addr HO.out (by have := HN.out; omega)
        obtain ⟨np, hnp⟩ : ∃ np, np = (pre i).length := ⟨_, rfl⟩
        have hnp1 := HN.out
        rw [← hnp] at HO hnp1 ⊢
        obtain ⟨hnp2, hnp3⟩ := hnp1
        replace hnp := Lib.hid hnp
        clear hck hlen HK
        go_wp2_with fail
        with_reducible refine (HC.out _ HCV.out).mono ?_
        rintro e w1 ⟨rfl, b1⟩
        have B1 := Lib.hid (HB.out.trans (b1.mono HB.out.size))
        have O1 := Lib.hid (HO.out.kept (row := none) ⟨b1.os, b1.tape, b1.output, b1.size, fun k hk _ => b1.block k hk⟩ (Classical.em _))
        have N1 := Lib.hid (cv_news (HCV.out.below b1))
        have H1 := Lib.hid (rw5_one (cut (G i) 0 (len i)))
        have HL1 : Hid ((rw5 (cut (G i) 0 (len i))).length = len i * 5) := Lib.hid (by rw [rw5_len, cut_len, Nat.sub_zero])
        have hs1 : w.heap.size ≤ w1.heap.size := B1.out.size
        have hile : i < 2048 := by omega
        clear b1 HO HCV HC hbl cl
        have HLN : Hid ((pre i ++ cut (G i) 0 (len i)).length = np + len i) := Lib.hid (by rw [List.length_append, ← hnp.out, cut_len, Nat.sub_zero])
        rcases hk with hk | hk
        · have hk7 : ((k : Int) == 7) = false := by rw [beq_eq_false_iff_ne]; omega
          have hpi : Hid (pre (i + 1) = pre i ++ cut (G i) 0 (len i)) := Lib.hid (by rw [HP.out, HLS.out, if_neg (by omega)])
          replace hk := Lib.hid hk
          go_wp2_with (at_builtin; refine wpList_append_own _ rfl _ _ 30 rfl w.heap.size 53 i0 (.agg #[.int .u8 0, .string ⟨#[]⟩, .string ⟨#[]⟩, .int .i64 0, .int .i64 0]) 5 56 Try.underlying30 hi hz0 hz1 hz2 rfl (by decide) _ _ _ rfl O1.out ⟨b2, off2, none⟩ (len i) (cp i) (rw5 (cut (G i) 0 (len i))) rfl HL1.out N1.out H1.out (by unfold maxLen; omega) (by omega) hs1 ?_; intro v2 w2 ho2 hg2 _; obtain ⟨q2, c2, rfl, hq3, hq4⟩ := own_addr ho2 (by omega); have B2 : Hid (Below w.heap.size w w2) := Lib.hid (B1.out.grown hg2 hs1 (fun r hr => (O1.out.lt r hr).1)); have O2 : Hid (w2.ownsRow w.heap.size 53 5 (.slice (some ⟨q2, 0, none⟩) (np + len i) c2) (np + len i) (rw5 (pre i ++ cut (G i) 0 (len i)))) := Lib.hid (by rw [rw5_app]; exact ho2); clear ho2 hg2)
          go_roundw
          case rel => exact ⟨i + 1, by omega, by go_num, Lib.hid (by rw [hpi.out, HLN.out]; exact O2.out), B2, HK2, Lib.hid (by rw [hpi.out, HLN.out]; omega)⟩
          case measure => simp [intOf]; omega
        · have hk7 : ((k : Int) == 7) = true := by rw [beq_iff_eq]; omega
          have hpi : Hid (pre (i + 1) = pre i ++ ren (s i) (cut (G i) 0 (len i))) := Lib.hid (by rw [HP.out, HLS.out, if_pos hk])
          obtain ⟨bn, on, rfl, _, _⟩ := (HNV.out hk) i hlt
          have hnl := hnn hk
          subst hnl
          replace hk := Lib.hid hk
          have hset : Hid (setNm (pre i ++ cut (G i) 0 (len i)) np (s i) = pre (i + 1)) := Lib.hid (by rw [hpi.out, hnp.out]; exact set_app _ _ _)
          have HLN3 : Hid ((pre (i + 1)).length = np + len i) := Lib.hid (by rw [hpi.out, List.length_append, ren_len, ← hnp.out, cut_len, Nat.sub_zero])
          obtain ⟨sn, hsn⟩ : ∃ x, x = s i := ⟨_, rfl⟩
          replace hsn := Lib.hid hsn.symm
          have hj0 : (0 : Int) ≤ np := by omega
          have hj1 : (np : Int) < ((np + len i : Nat) : Int) := by omega
          have hj2 : (np : Int) < (np : Int) + (len i : Int) := by omega
          go_wp2_with (at_builtin; refine wpList_append_own _ rfl _ _ 30 rfl w.heap.size 53 i0 (.agg #[.int .u8 0, .string ⟨#[]⟩, .string ⟨#[]⟩, .int .i64 0, .int .i64 0]) 5 56 Try.underlying30 hi hz0 hz1 hz2 rfl (by decide) _ _ _ rfl O1.out ⟨b2, off2, none⟩ (len i) (cp i) (rw5 (cut (G i) 0 (len i))) rfl HL1.out N1.out H1.out (by unfold maxLen; omega) (by omega) hs1 ?_; intro v2 w2 ho2 hg2 _; obtain ⟨q2, c2, rfl, hq3, hq4⟩ := own_addr ho2 (by omega); have B2 : Hid (Below w.heap.size w w2) := Lib.hid (B1.out.grown hg2 hs1 (fun r hr => (O1.out.lt r hr).1)); have O2 : Hid (w2.ownsRow w.heap.size 53 5 (.slice (some ⟨q2, 0, none⟩) (np + len i) c2) (np + len i) (rw5 (pre i ++ cut (G i) 0 (len i)))) := Lib.hid (by rw [rw5_app]; exact ho2); clear ho2 hg2; obtain ⟨x1, x2⟩ := own_cellq O2.out (i := np) (by omega) HLN.out; have O3 := Lib.hid (own_set O2.out HLN.out (i := np) (by omega) (s i)); rw [hset.out] at O3; have B3 : Hid (Below w.heap.size w (w2.setCell ⟨q2, np * 5 + 1, none⟩ (.string (s i)))) := Lib.hid (B2.out.setCell hq3 _); obtain ⟨bn', on', he', hbn', cn⟩ := ((HNV.out hk.out).below B2.out) i hlt; cases he'; rw [hsn.out] at cn O3 B3; clear O2)
          go_roundw
          case rel => exact ⟨i + 1, by omega, by go_num, Lib.hid (by rw [HLN3.out]; exact O3.out), B3, HK2, Lib.hid (by rw [HLN3.out]; omega)⟩
          case measure => simp [intOf]; omega
    · have e1 : i = ln := by omega
      subst e1
      have hge : ¬ (i : Int) < i := by omega
      have HZ : Hid (z = eC (ckL (pre i))) := Lib.hid (by
        rw [HE.out, if_pos]
        rw [List.all_eq_true]
        intro j hj
        exact HK.out j (List.mem_range.1 hj))
      obtain ⟨q, cq, rfl, hq1, hq2⟩ := own_addr HO.out (by have := HN.out; omega)
      obtain ⟨ad2, cap2, hv2, cv2, _, _⟩ := own_cv rfl HO.out
      cases hv2
      have HC := Lib.hid (cCheck_any _ (pre i).length cq (gl (pre i)) wr cv2 (HCWP.out i (Nat.le_refl _) HK.out))
      have HZ2 : Hid (z = eC (ckC (gl (pre i)) (pre i).length)) := HZ
      clear cv2 HZ HK HE HCWP
      cases hck : ckC (gl (pre i)) (pre i).length with
      | false =>
        rw [hck, show eC false = 8 from rfl] at HC HZ2
        clear hck
        go_wp2_with fail
        with_reducible refine HC.out.mono ?_
        rintro e w1 ⟨rfl, b1⟩
        have B1 := Lib.hid (HB.out.trans (b1.mono HB.out.size))
        clear b1
        go_wp2_with fail
        go_ret2
        exact GP.bad HZ2.out (by decide) B1.out
      | true =>
        rw [hck, show eC true = 0 from rfl] at HC HZ2
        clear hck
        go_wp2_with fail
        with_reducible refine HC.out.mono ?_
        rintro e w1 ⟨rfl, b1⟩
        have B1 := Lib.hid (HB.out.trans (b1.mono HB.out.size))
        have O1 := Lib.hid (HO.out.kept (row := none) ⟨b1.os, b1.tape, b1.output, b1.size, fun k hk _ => b1.block k hk⟩ (Classical.em _))
        clear b1
        go_wp2_with fail
        go_ret2
        exact GP.ok HZ2.out O1.out B1.out
end Go.Proofs.Ytfigebepeniikaa

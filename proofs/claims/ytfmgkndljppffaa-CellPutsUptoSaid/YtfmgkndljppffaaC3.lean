/- Layer 3: the array of the checks; the names that an object's members have had. -/
import Derived.Test.YtfmgkndljppffaaC2
import Derived.Maps.OwnSet
import Derived.Maps.AppendAt
import Derived.Laws.ResultCell
import Derived.Laws.EntriesVeiled
import Derived.StringKeys
namespace Go.Proofs.Ytfmgkndljppffaa
open Go.RowKit Go.Maps Go.WideMaps
theorem infoRules : (Try.prog.info? 64).map (·.size) = some 8 := by
  have h := Try.typeInfo64 default
  unfold typeInfo at h
  cases hq : Try.prog.info? 64 with
  | none => simp [hq] at h
  | some i =>
    simp [hq] at h
    rw [h]; rfl
theorem ret_rules {R : Ending → World → Prop} {fn : Func} {tmps : Array Value} {w : World} {g : Nat} {cs : Array Value} (hr : fn.results = #[.cell 0 64]) (h2 : tmps.getD 0 undef = .pointer (some ⟨g, 0, none⟩)) (hg : w.heap[g]? = some (.cells cs 64)) (hs : cs.size = 8)
    (hR : R (.returned (.agg cs)) w) : bodyPost Try.prog fn R .ret ⟨tmps, []⟩ w := by
  refine bodyPost_ret (v := .agg cs) ?_ rfl hR
  exact results_cell_row hr tmps w g 64 cs (0, 0) _ h2 hg Try.underlying64 rfl (by rw [infoRules, hs])
set_option maxRecDepth 20000 in
theorem rules_any (w : World) : Calls Try.prog 35 #[] w fun e w' => e = .returned (.agg rulesA) ∧ Below w.heap.size w w' := by
  have HA := Lib.hid (heap_alloc_new w (.cells rulesA 64))
  unfold rulesA fo at HA ⊢
  go_enter Try.func35, Try.ntmps35
  go_wp2_with fail

  exact ret_rules Try.results35 rfl HA.out rfl ⟨rfl, (Below.refl _ w).alloc (Nat.le_refl _) _⟩
theorem law9 : Keyed Try.prog 9 := string_keyed Try.underlying9
theorem zeroU (w : World) : (zeroValue 78).run Try.prog w = .ok (.agg #[]) w := by kernel_rfl
def keyL (s : ByteArray) : Lit := .string s.data.toList
def setN (names : List ByteArray) : DataW Unit := setOf (.agg []) (names.reverse.map keyL)
theorem setN_cons (s : ByteArray) (names : List ByteArray) : setN (s :: names) = (setN names).put (keyL s) (.agg []) := by
  unfold setN
  rw [List.reverse_cons, List.map_append]
  exact setOf_snoc _ _ _
theorem has_setN (names : List ByteArray) (s : ByteArray) : Maps.has (setN names) (keyL s) = names.any (fun x => decide (x = s)) := by
  unfold setN
  rw [has_setOf _ _ _ (fun x hx => by obtain ⟨y, _, rfl⟩ := List.mem_map.1 hx; trivial)]
  rw [List.any_map, Bool.eq_iff_iff, List.any_eq_true, List.any_eq_true]
  have e : ∀ x : ByteArray, ((fun x => x.sameKey (keyL s)) ∘ keyL) x = decide (x = s) := fun x => by
    rw [Bool.eq_iff_iff, decide_eq_true_eq]
    show (x.data.toList == s.data.toList) = true ↔ _
    rw [beq_iff_eq, Array.toList_inj]
    exact ⟨fun h => ByteArray.ext h, fun h => by rw [h]⟩
  constructor
  · rintro ⟨x, hx, h⟩
    rw [e] at h
    exact ⟨x, List.mem_reverse.1 hx, h⟩
  · rintro ⟨x, hx, h⟩
    exact ⟨x, List.mem_reverse.2 hx, by rw [e]; exact h⟩
/-- A map that holds the names met. -/
def Met (w : World) (b n : Nat) (names : List ByteArray) : Prop := w.ownsMap Try.prog 9 (unitElem (H := Unit)) b n (setN names)
set_option maxRecDepth 20000 in
theorem named_item (m : Value) (s : ByteArray) (w : World) : Calls Try.prog 38 #[m, .int .u8 6, .string s] w fun e w' => e = .returned (.bool (namedP false [] s)) ∧ w' = w := by
  cases h : em s with
  | true =>
    have HB := Lib.hid (show namedP false [] s = true by unfold namedP; exact h)
    obtain ⟨r, hr⟩ : ∃ r, r = namedP false [] s := ⟨_, rfl⟩
    rw [← hr] at HB ⊢
    clear hr
    obtain rfl := em_yes h
    clear h
    go_enter Try.func38, Try.ntmps38
    go_wp2_with fail
    go_ret
    exact ⟨ret_bool HB.out.symm, rfl⟩
  | false =>
    have HB := Lib.hid (show namedP false [] s = false by unfold namedP; exact h)
    obtain ⟨r, hr⟩ : ∃ r, r = namedP false [] s := ⟨_, rfl⟩
    rw [← hr] at HB ⊢
    clear hr
    have g := em_no h
    clear h
    go_enter Try.func38, Try.ntmps38
    go_wp2_with fail
    go_ret
    exact ⟨ret_bool HB.out.symm, rfl⟩
set_option maxRecDepth 20000 in
set_option maxHeartbeats 1000000 in
theorem named_obj (b n : Nat) (names : List ByteArray) (s : ByteArray) (w : World) (hs : s.size ≤ maxLen) (hown : Met w b n names) (hn : n ≤ 1000000) :
    Calls Try.prog 38 #[.map (some b), .int .u8 7, .string s] w fun e w' => e = .returned (.bool (namedP true names s)) ∧ Met w' b (n + 1) (s :: names) ∧ w.grownBy w' (some b) := by
  obtain ⟨r, hr⟩ : ∃ r, r = namedP true names s := ⟨_, rfl⟩
  rw [← hr]
  have HK := Lib.hid (fun W => check_any s W hs)
  obtain ⟨z, hz⟩ : ∃ z, z = ckE s := ⟨_, rfl⟩
  rw [← hz] at HK
  have hkey : keyOf Try.prog 9 (.string s) = some (keyL s) := keyOf_string_mk Try.underlying9 hs
  have hh := has_setN names s
  obtain ⟨t, ht⟩ : ∃ t, t = names.any (fun x => decide (x = s)) := ⟨_, rfl⟩
  rw [← ht] at hh
  have HR : Hid (r = (!t && !em s && ckB s)) := Lib.hid (by rw [hr, ht]; rfl)
  have HZ : Hid (ckB s = decide (z = 0)) := Lib.hid (by unfold ckB; rw [hz])
  have HKEY := Lib.hid hkey
  have HH := Lib.hid hh
  have HOWN := Lib.hid hown
  clear hr hz hkey hh ht hown hs
  have base : ∀ W : World, W.ownsMap Try.prog 9 (unitElem (H := Unit)) b (n + 1) ((setN names).put (keyL s) (.agg [])) → Met W b (n + 1) (s :: names) := fun W h => by unfold Met; rw [setN_cons]; exact h
  have BASE := Lib.hid base
  clear base
  cases t with
  | true =>
    have HB := Lib.hid (show r = false by rw [HR.out]; rfl)
    clear HR HZ HK
    go_enter Try.func38, Try.ntmps38
    go_wp2_with (first
      | (at_lookup; refine wpList_lookup_own_unit _ rfl _ _ 67 rfl 9 78 law9 Try.underlying67 (zeroU _) b n _ rfl HOWN.out _ _ rfl HKEY.out ?_; rw [HH.out])
      | (at_mapUpdate; refine wpList_mapUpdate_own _ rfl _ _ _ 67 rfl 9 78 law9 Try.underlying67 (unitElem (H := Unit)) b n _ rfl (HOWN.out.alloc _) (by unfold maxLen; omega) _ _ _ rfl rfl HKEY.out _ [] unitElem_mk ?_; intro w1 hown1 hg1; have M1 := Lib.hid (BASE.out _ hown1); have G1 : Hid (w.grownBy w1 (some b)) := Lib.hid ((World.grownBy_alloc w _ _).trans hg1); clear hown1 hg1))
    go_ret
    exact ⟨ret_bool HB.out.symm, M1.out, G1.out⟩
  | false =>
    cases h : em s with
    | true =>
      have HB := Lib.hid (show r = false by rw [HR.out, h]; rfl)
      obtain rfl := em_yes h
      clear h HR HZ HK
      go_enter Try.func38, Try.ntmps38
      go_wp2_with (first
        | (at_lookup; refine wpList_lookup_own_unit _ rfl _ _ 67 rfl 9 78 law9 Try.underlying67 (zeroU _) b n _ rfl HOWN.out _ _ rfl HKEY.out ?_; rw [HH.out])
        | (at_mapUpdate; refine wpList_mapUpdate_own _ rfl _ _ _ 67 rfl 9 78 law9 Try.underlying67 (unitElem (H := Unit)) b n _ rfl (HOWN.out.alloc _) (by unfold maxLen; omega) _ _ _ rfl rfl HKEY.out _ [] unitElem_mk ?_; intro w1 hown1 hg1; have M1 := Lib.hid (BASE.out _ hown1); have G1 : Hid (w.grownBy w1 (some b)) := Lib.hid ((World.grownBy_alloc w _ _).trans hg1); clear hown1 hg1))
      go_ret
      exact ⟨ret_bool HB.out.symm, M1.out, G1.out⟩
    | false =>
      have g := em_no h
      have HB := Lib.hid (show r = decide (z = 0) by rw [HR.out, h, HZ.out]; simp)
      clear h HR HZ
      go_enter Try.func38, Try.ntmps38
      go_wp2_with (first
        | (at_lookup; refine wpList_lookup_own_unit _ rfl _ _ 67 rfl 9 78 law9 Try.underlying67 (zeroU _) b n _ rfl HOWN.out _ _ rfl HKEY.out ?_; rw [HH.out])
        | (at_mapUpdate; refine wpList_mapUpdate_own _ rfl _ _ _ 67 rfl 9 78 law9 Try.underlying67 (unitElem (H := Unit)) b n _ rfl (HOWN.out.alloc _) (by unfold maxLen; omega) _ _ _ rfl rfl HKEY.out _ [] unitElem_mk ?_; intro w1 hown1 hg1; have M1 := Lib.hid (BASE.out _ hown1); have G1 : Hid (w.grownBy w1 (some b)) := Lib.hid ((World.grownBy_alloc w _ _).trans hg1); clear hown1 hg1))
      with_reducible refine (HK.out w1).mono ?_
      rintro e w2 ⟨rfl, b2⟩
      have G2 : Hid (w1.grownBy w2 none) := Lib.hid ⟨b2.os, b2.tape, b2.output, b2.size, fun k hk _ => b2.block k hk⟩
      have M2 : Hid (Met w2 b (n + 1) (s :: names)) := Lib.hid (M1.out.kept G2.out (by simp))
      have G3 : Hid (w.grownBy w2 (some b)) := Lib.hid (G1.out.trans ⟨b2.os, b2.tape, b2.output, b2.size, fun k hk _ => b2.block k hk⟩)
      clear b2 M1 G1 HK
      by_cases hz : z = 0
      · subst hz
        go_wp2_with fail
        go_ret
        exact ⟨ret_bool HB.out.symm, M2.out, G3.out⟩
      · have gz : (z == 0) = false := by rw [beq_eq_false_iff_ne]; exact hz
        replace HB := Lib.hid (HB.out.trans (decide_eq_false hz))
        clear hz
        go_wp2_with fail
        go_ret
        exact ⟨ret_bool HB.out.symm, M2.out, G3.out⟩
end Go.Proofs.Ytfmgkndljppffaa

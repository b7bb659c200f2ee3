import Derived.Test.YtcnafgelfkfekaaE19
import Derived.Laws.OwnMore
namespace Go.Proofs.Ytcnafgelfkfekaa
open Go.RowKit

theorem append_sv {w : World} {B : Nat} {v : Value} {K : List ByteArray} (hown : w.ownsRow B 9 1 v K.length (K.map Value.string)) {a : Option Addr} {l c : Nat} {M : List ByteArray} (hv : SView w a l M) (hn : a = none → l = 0 ∧ c = 0) (hl : l ≤ 100000) (hk : K.length ≤ 100000) (hB : B ≤ w.heap.size) (ty : TypeId) :
    ∃ v' w', (Builtin.append_ #[22, 22] ty #[v, .slice a l c]).run Try.prog w = .ok v' w' ∧ w'.ownsRow B 9 1 v' (K ++ M).length ((K ++ M).map Value.string) ∧ w.grownBy w' v.ownBlock := by
  obtain ⟨i0, hi, hz0, hz1, hz2⟩ := info_parts info9
  cases a with
  | none =>
    obtain ⟨rfl, rfl⟩ := hn rfl
    have : M = [] := List.length_eq_zero_iff.1 hv.1
    subst this
    refine ⟨v, w, run_append_owned_none (P := Try.prog) w B 22 ty 9 i0 1 Try.underlying22 hi v _ _ hown, by simpa using hown, ⟨rfl, rfl, rfl, Nat.le_refl _, fun _ _ _ => rfl⟩⟩
  | some x =>
    obtain ⟨v', w', hrun, r1, r2, _⟩ := run_append_own (P := Try.prog) (w := w) B 22 ty 9 i0 (.string ⟨#[]⟩) 1 16 Try.underlying22 hi hz0 hz1 hz2 rfl (by decide) v _ _ hown x l c (M.map Value.string) (by rw [List.length_map, hv.1]; omega) (view_cells hv) (by intro u hu; obtain ⟨y, _, rfl⟩ := List.mem_map.1 hu; rfl) (by unfold maxLen; omega) (by omega) hB
    exact ⟨v', w', hrun, by rw [List.length_append, hv.1, List.map_append]; exact r1, r2⟩
theorem wpList_append_sv {w : World} {ops : Array Oper} {rest : List Oper} {o : Oper} {a : Act} {Q : Exit → Act → World → Prop}
    {B : Nat} {v : Value} {K : List ByteArray} {ad : Option Addr} {l c : Nat} {M : List ByteArray}
    (hg : o.guard = none) (s x : Operand) (hop : o.op = Op.call { callee := Callee.builtin Builtin.append, args := #[s, x], argTypes := #[22, 22] })
    (hs : a.eval s = v) (hown : w.ownsRow B 9 1 v K.length (K.map Value.string)) (hx : a.eval x = .slice ad l c) (hv : SView w ad l M) (hn : ad = none → l = 0 ∧ c = 0) (hl : l ≤ 100000) (hk : K.length ≤ 100000) (hB : B ≤ w.heap.size)
    (hK : ∀ (v' : Value) (w' : World), w'.ownsRow B 9 1 v' (K ++ M).length ((K ++ M).map Value.string) → w.grownBy w' v.ownBlock → wpList Try.prog ops Q rest (a.put o.dst v') w') :
    wpList Try.prog ops Q (o :: rest) a w := by
  refine wpList_plain hg fun KK hKK => ?_
  obtain ⟨v', w', hrun, r1, r2⟩ := append_sv hown hv hn hl hk hB o.type
  unfold Oper.wp
  simp [-List.length_append, execOp, hop, resolve, invoke, builtin, hs, hx, hrun, Result.andThen]
  exact hKK _ _ (hK v' w' r1 r2)
def withL (L : List ByteArray) (s : ByteArray) (k : Nat) (is : Bool) : List ByteArray := (L.take k ++ [s]) ++ L.drop (if is then k + 1 else k)
theorem withL_ins (L : List ByteArray) (s : ByteArray) (k : Nat) : withL L s k false = insL L s k := by
  unfold withL insL; simp
theorem withL_had {L : List ByteArray} {s : ByteArray} {k : Nat} (h : At L s k true) : withL L s k true = L := by
  obtain ⟨h1, h2⟩ := h.2.2.1 rfl
  have e : s = L[k] := by
    rw [← h2]; unfold nth; rw [List.getD, List.getElem?_eq_getElem h1]; rfl
  unfold withL
  simp only [if_true]
  rw [e, List.append_assoc, List.singleton_append, ← List.drop_eq_getElem_cons h1, List.take_append_drop]
theorem twin_any (a : Option Addr) (len cap : Nat) (L : List ByteArray) (w : World) (hv : SView w a len L) (hn : a = none → len = 0 ∧ cap = 0) (hl : len ≤ 100000) :
    Calls Try.prog 16 #[.slice a len cap] w fun e w' => ∃ v, e = .returned v ∧ w'.ownsRow w.heap.size 9 1 v L.length (L.map Value.string) ∧ Below w.heap.size w w' := by
  have HV := Lib.hid hv
  have HN := Lib.hid hn
  clear hv hn
  go_enter Try.func16, Try.ntmps16
  go_wp2_with (at_builtin; refine wpList_append_sv (B := w.heap.size) (K := []) (M := L) rfl (.tmp 4) (.tmp 5) rfl rfl (World.ownsRow_nil _ _ _ _) rfl HV.out HN.out hl (by simp) (Nat.le_refl _) ?_; intro v1 w1 ho1 hg1; have HO1 := Lib.hid ho1; have HB1 : Hid (Below w.heap.size w w1) := Lib.hid ((Below.refl _ w).grown hg1 (Nat.le_refl _) (fun k hk => ((World.ownsRow_nil w w.heap.size 9 1).lt k hk).1)); clear ho1 hg1)
  go_ret
  exact ⟨_, rfl, HO1.out, HB1.out⟩
set_option maxRecDepth 10000 in
set_option maxHeartbeats 2000000 in
theorem with_some (b off len cap k : Nat) (is : Bool) (L : List ByteArray) (s : ByteArray) (w : World) (hv : SView w (some ⟨b, off, none⟩) len L) (hlc : len ≤ cap) (hs : Short L) (hss : s.size ≤ maxLen) (hm : len ≤ 90000) (hat : At L s k is) :
    Calls Try.prog 34 #[.slice (some ⟨b, off, none⟩) len cap, .string s] w fun e w' => ∃ v, e = .returned v ∧ w'.ownsRow w.heap.size 9 1 v (withL L s k is).length ((withL L s k is).map Value.string) ∧ Below w.heap.size w w' := by
  have hmm : len ≤ maxLen := by unfold maxLen; omega
  have HBF := Lib.hid (before_any _ len cap k is L s w hv hs hss hmm hat)
  have HHA := Lib.hid (fun (W : World) (h : SView W (some ⟨b, off, none⟩) len L) => has_any _ len cap k is L s W h hs hss hmm hat)
  have hL := hv.1
  have hk : k ≤ len := by rw [← hL]; exact hat.1
  have HIS : Hid (is = true → k + 1 ≤ len) := Lib.hid (fun h => by subst h; have := (hat.2.2.1 rfl).1; omega)
  have HV := Lib.hid hv
  have HTK := Lib.hid (hv.take hk)
  have HTL : Hid ((L.take k).length ≤ 90000) := Lib.hid (by simp; omega)
  have hkc : k ≤ cap := by omega
  clear hv hs hss hmm hat hL
  go_enter Try.func34, Try.ntmps34
  go_wp2_with fail
  refine HBF.out.mono ?_
  rintro e w1 ⟨rfl, b1⟩
  have B1 := Lib.hid b1
  have HT1 := Lib.hid (HTK.out.below b1)
  clear b1
  go_upto_region 5 with (first
    | (at_builtin; refine wpList_append_sv (B := w.heap.size) (K := []) (M := L.take k) rfl (.tmp 10) (.tmp 13) rfl rfl (World.ownsRow_nil _ _ _ _) rfl HT1.out (fun e => by cases e) (by omega) (by simp) B1.out.size ?_; intro v2 w2 ho2 hg2; have HO2 := Lib.hid (show w2.ownsRow w.heap.size 9 1 v2 (L.take k).length ((L.take k).map Value.string) from ho2); have B2 : Hid (Below w.heap.size w w2) := Lib.hid (B1.out.grown hg2 B1.out.size (fun k hk => ((World.ownsRow_nil w1 w.heap.size 9 1).lt k hk).1)); clear ho2 hg2)
    | (at_builtin; refine wpList_append_sv (B := w.heap.size) (K := L.take k) (M := [s]) rfl (.tmp 15) (.tmp 17) rfl rfl (HO2.out.alloc _) rfl (one_view (by simp) (by simp)) (fun e => by cases e) (by omega) (by have := HTL.out; omega) (by have := B2.out.size; simp; omega) ?_; intro v3 w3 ho3 hg3; have HO3 := Lib.hid ho3; have B3 : Hid (Below w.heap.size w w3) := Lib.hid ((B2.out.alloc B2.out.size _).grown hg3 (by have := B2.out.size; simp; omega) (fun k hk => (HO2.out.lt k hk).1)); clear ho3 hg3))
  go_wp2_with fail
  refine (HHA.out _ (HV.out.below B3.out)).mono ?_
  rintro e w4 ⟨rfl, b4⟩
  have B4 : Hid (Below w.heap.size w w4) := Lib.hid (B3.out.trans (b4.mono B3.out.size))
  have HO4 := Lib.hid (own_below HO3.out b4)
  clear b4
  have HWL : Hid (withL L s k is = (L.take k ++ [s]) ++ L.drop (if is then k + 1 else k)) := Lib.hid rfl
  have HKL : Hid ((L.take k ++ [s]).length ≤ 100000) := Lib.hid (by have := HTL.out; simp; omega)
  cases is
  · obtain ⟨A, hA, hAk⟩ : ∃ A : Addr, (if cap = k then some (⟨b, off, none⟩ : Addr) else some ⟨b, off + k, none⟩) = some A ∧ Hid (k < len → A = ⟨b, off + k, none⟩) := by
      by_cases h : cap = k
      · exact ⟨⟨b, off, none⟩, by rw [if_pos h], fun h' => by omega⟩
      · exact ⟨⟨b, off + k, none⟩, by rw [if_neg h], fun _ => rfl⟩
    have HD := Lib.hid ((HV.out.below B4.out).drop hAk.out)
    go_wp2_with (at_builtin; refine wpList_append_sv (B := w.heap.size) (K := L.take k ++ [s]) (M := L.drop k) rfl (.tmp 24) (.tmp 27) rfl rfl HO4.out rfl HD.out (fun e => by cases e) (by omega) HKL.out B4.out.size ?_; intro v5 w5 ho5 hg5; have HO5 := Lib.hid ho5; have B5 : Hid (Below w.heap.size w w5) := Lib.hid (B4.out.grown hg5 B4.out.size (fun k hk => (HO4.out.lt k hk).1)); clear ho5 hg5)
    go_ret
    exact ⟨_, rfl, by rw [HWL.out]; exact HO5.out, B5.out⟩
  · have hk1 : k + 1 ≤ len := HIS.out rfl
    have hkc1 : k + 1 ≤ cap := by omega
    obtain ⟨A, hA, hAk⟩ : ∃ A : Addr, (if cap = k + 1 then some (⟨b, off, none⟩ : Addr) else some ⟨b, off + (k + 1), none⟩) = some A ∧ Hid (k + 1 < len → A = ⟨b, off + (k + 1), none⟩) := by
      by_cases h : cap = k + 1
      · exact ⟨⟨b, off, none⟩, by rw [if_pos h], fun h' => by omega⟩
      · exact ⟨⟨b, off + (k + 1), none⟩, by rw [if_neg h], fun _ => rfl⟩
    have HD := Lib.hid ((HV.out.below B4.out).drop hAk.out)
    go_wp2_with (at_builtin; refine wpList_append_sv (B := w.heap.size) (K := L.take k ++ [s]) (M := L.drop (k + 1)) rfl (.tmp 24) (.tmp 27) rfl rfl HO4.out rfl HD.out (fun e => by cases e) (by omega) HKL.out B4.out.size ?_; intro v5 w5 ho5 hg5; have HO5 := Lib.hid ho5; have B5 : Hid (Below w.heap.size w w5) := Lib.hid (B4.out.grown hg5 B4.out.size (fun k hk => (HO4.out.lt k hk).1)); clear ho5 hg5)
    go_ret
    exact ⟨_, rfl, by rw [HWL.out]; exact HO5.out, B5.out⟩
end Go.Proofs.Ytcnafgelfkfekaa

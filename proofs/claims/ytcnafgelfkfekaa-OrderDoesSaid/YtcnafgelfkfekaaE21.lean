import Derived.Test.YtcnafgelfkfekaaE20
import Derived.Test.YtcnafgelfkfekaaE18
namespace Go.Proofs.Ytcnafgelfkfekaa
open Go.RowKit

/-- A slice of one's own, in memory that is newer than B. -/
def Own (B : Nat) (w : World) (v : Value) (L : List ByteArray) : Prop := w.ownsRow B 9 1 v L.length (L.map Value.string)
theorem Own.mono {B C : Nat} {w : World} {v : Value} {L : List ByteArray} (h : Own C w v L) (hb : B ≤ C) : Own B w v L := by
  refine ⟨h.1, ?_⟩
  rcases h.2 with hn | ⟨g, cap, cur, rfl, hg, rest⟩
  · exact .inl hn
  · exact .inr ⟨g, cap, cur, rfl, Nat.le_trans hb hg, rest⟩
theorem Own.below {B : Nat} {w w' : World} {v : Value} {L : List ByteArray} (h : Own B w v L) (hb : Below w.heap.size w w') : Own B w' v L := own_below h hb
theorem Own.holds {B : Nat} {w : World} {v : Value} {L : List ByteArray} (h : Own B w v L) : Holds w v L := holds_of_own h
theorem own_nil (B : Nat) (w : World) : Own B w (.slice none 0 0) [] := World.ownsRow_nil _ _ _ _

theorem join_own (a : Option Addr) (n cap : Nat) (PS : List (List ByteArray)) (w : World) (hv : PView w a n PS) (hn : n ≤ 1000) (ht : (flat PS n).length ≤ 100000) :
    Calls Try.prog 29 #[.slice a n cap] w fun e w' => ∃ v, e = .returned v ∧ Own w.heap.size w' v (flat PS n) ∧ Below w.heap.size w w' := by
  have HV := Lib.hid hv
  have HT := Lib.hid ht
  clear hv ht
  go_enter Try.func29, Try.ntmps29
  go_wp2_with fail
  refine (concat_any a n cap PS _ HV.out hn HT.out).mono ?_
  rintro e w1 ⟨v, rfl, ho, b1⟩
  go_wp2_with fail
  go_ret
  exact ⟨_, rfl, ho, b1⟩

theorem join_callO (b off len cap c2 k : Nat) (A : Addr) (L : List ByteArray) (s : ByteArray) (w : World) (hv : SView w (some ⟨b, off, none⟩) len L) (hA : k < len → A = ⟨b, off + k, none⟩) (hk : k ≤ len) (hl : len ≤ 5000) :
    Calls Try.prog 29 #[.slice (some ⟨w.heap.size + 1, 0, none⟩) 3 3] ((w.alloc (.cells #[.string s] 9)).alloc (.cells #[.slice (some ⟨b, off, none⟩) k cap, .slice (some ⟨w.heap.size, 0, none⟩) 1 1, .slice (some A) (len - k) c2] 22)).drew
      fun e w' => ∃ v, e = .returned v ∧ Own w.heap.size w' v (ins L s k) ∧ Below w.heap.size w w' := by
  obtain ⟨W, hW⟩ : ∃ W, W = ((w.alloc (.cells #[.string s] 9)).alloc (.cells #[.slice (some ⟨b, off, none⟩) k cap, .slice (some ⟨w.heap.size, 0, none⟩) 1 1, .slice (some A) (len - k) c2] 22)).drew := ⟨_, rfl⟩
  have b1 : Below w.heap.size w (w.alloc (.cells #[.string s] 9)) := (Below.refl _ w).alloc (Nat.le_refl _) _
  have b2 : Below w.heap.size w W := by rw [hW]; exact (b1.alloc (by simp) _).drew
  have hsz : W.heap.size = w.heap.size + 2 := by rw [hW]; simp [World.drew]
  have hc : ∀ j u, [Value.slice (some ⟨b, off, none⟩) k cap, .slice (some ⟨w.heap.size, 0, none⟩) 1 1, .slice (some A) (len - k) c2][j]? = some u → W.cell? ⟨w.heap.size + 1, j, none⟩ = some u := by
    intro j u hj
    have hblk : W.heap[w.heap.size + 1]? = some (.cells #[.slice (some ⟨b, off, none⟩) k cap, .slice (some ⟨w.heap.size, 0, none⟩) 1 1, .slice (some A) (len - k) c2] 22) := by
      rw [hW]
      have := heap_alloc_new (w.alloc (.cells #[.string s] 9)) (.cells #[.slice (some ⟨b, off, none⟩) k cap, .slice (some ⟨w.heap.size, 0, none⟩) 1 1, .slice (some A) (len - k) c2] 22)
      simpa [World.drew] using this
    simp only [World.cell?, hblk]
    simpa using hj
  have hs : W.cell? ⟨w.heap.size, 0, none⟩ = some (.string s) := by
    have hblk : W.heap[w.heap.size]? = some (.cells #[.string s] 9) := by
      rw [hW]
      have h1 := heap_alloc_new w (.cells #[.string s] 9)
      have h2 := Below.heap_alloc (w.alloc (.cells #[.string s] 9)) (.cells #[.slice (some ⟨b, off, none⟩) k cap, .slice (some ⟨w.heap.size, 0, none⟩) 1 1, .slice (some A) (len - k) c2] 22) w.heap.size (by simp)
      exact h2.trans h1
    simp only [World.cell?, hblk]
    rfl
  rw [← hW]
  have hp : PView W (some ⟨w.heap.size + 1, 0, none⟩) 3 [L.take k, [s], L.drop k] := by
    refine ⟨w.heap.size + 1, 0, rfl, by omega, fun j hj => ?_⟩
    rw [Nat.zero_add]
    match j, hj with
    | 0, _ => exact ⟨_, _, _, hc 0 _ rfl, (hv.below b2).take hk, fun h => by simp at h⟩
    | 1, _ => exact ⟨_, _, _, hc 1 _ rfl, one_view (by omega) hs, fun h => by simp at h⟩
    | 2, _ => exact ⟨_, _, _, hc 2 _ rfl, (hv.below b2).drop hA, fun h => by simp at h⟩
  have hfl := ins_flat L s k
  have hlen : (ins L s k).length ≤ 100000 := by simp [ins, hv.1]; omega
  refine (join_own _ 3 3 _ W hp (by omega) (by rw [hfl]; exact hlen)).mono ?_
  rintro e w' ⟨v, rfl, hh, hb⟩
  rw [hfl] at hh
  exact ⟨v, rfl, hh.mono (by omega), b2.trans (hb.mono (by omega))⟩

theorem put_newO (b off len cap k : Nat) (L : List ByteArray) (s : ByteArray) (w : World) (hv : SView w (some ⟨b, off, none⟩) len L) (hlc : len ≤ cap) (_hcm : cap ≤ maxLen) (hlen : len < 4096) (h0 : 0 < len) (hce : chE L = 0) (hat : ∀ w : World, SView w (some ⟨b, off, none⟩) len L → Calls Try.prog 28 #[.slice (some ⟨b, off, none⟩) len cap, .string s] w fun e w' => e = .returned (.tuple #[.int .i64 (k : Int), .bool false]) ∧ w = w') (hk : k ≤ len) :
    Calls Try.prog 19 #[.slice (some ⟨b, off, none⟩) len cap, .string s] w fun e w' => ∃ v, e = .returned (.tuple #[v, .int .i64 0]) ∧ Own w.heap.size w' v (ins L s k) ∧ Below w.heap.size w w' := by
  have HV := Lib.hid hv
  have HE := Lib.hid hce
  have HA := Lib.hid hat
  skip
  have hne : ((len : Int) == 4096) = false := by simp; omega
  clear hv hce hat
  go_enter Try.func19, Try.ntmps19
  go_wp2_with fail
  refine (check_any _ len cap L _ HV.out).mono ?_
  rintro e w1 ⟨rfl, b1⟩
  rw [HE.out]
  go_wp2_with fail
  refine (HA.out _ (HV.out.below b1)).mono ?_
  rintro e w2 ⟨rfl, rfl⟩
  have B1 := Lib.hid b1
  clear b1
  have hkc : k ≤ cap := by omega
  obtain ⟨A, hA, hAk⟩ : ∃ A : Addr, (if cap = k then some (⟨b, off, none⟩ : Addr) else some ⟨b, off + k, none⟩) = some A ∧ Hid (k < len → A = ⟨b, off + k, none⟩) := by
    by_cases h : cap = k
    · exact ⟨⟨b, off, none⟩, by rw [if_pos h], fun h' => by omega⟩
    · exact ⟨⟨b, off + k, none⟩, by rw [if_neg h], fun _ => rfl⟩
  have J := Lib.hid (join_callO b off len cap (cap - k) k A L s w1 (HV.out.below B1.out) hAk.out hk (by omega))
  go_wp2_with fail
  go_region_with (go_at_call 29; refine J.out.mono ?_; rintro e w2 ⟨v, rfl, hh, b2⟩; have HH := Lib.hid hh; have B2 := Lib.hid b2; clear hh b2)
  all_goals (go_wp2_with fail)
  all_goals go_ret2
  all_goals exact ⟨_, rfl, Own.mono (Hid.out (by assumption : Hid (Own w1.heap.size _ _ _))) B1.out.size, B1.out.trans ((Hid.out (by assumption : Hid (Below w1.heap.size w1 _))).mono B1.out.size)⟩
theorem put_hadO (b off len cap k : Nat) (L : List ByteArray) (s : ByteArray) (w : World) (hv : SView w (some ⟨b, off, none⟩) len L) (hl : len ≤ 4096) (hc : chE L = 0) (hat : At L s k true) :
    Calls Try.prog 19 #[.slice (some ⟨b, off, none⟩) len cap, .string s] w fun e w' => ∃ v, e = .returned (.tuple #[v, .int .i64 0]) ∧ Own w.heap.size w' v L ∧ Below w.heap.size w w' := by
  have HV := Lib.hid hv
  have HL : Hid (L.length = len) := hv.1
  have HC := Lib.hid hc
  have HA := Lib.hid hat
  clear hv hc hat
  go_enter Try.func19, Try.ntmps19
  go_wp2_with fail
  refine (check_any _ len cap L _ HV.out).mono ?_
  rintro e w1 ⟨rfl, b1⟩
  rw [HC.out]
  go_wp2_with fail
  refine (findD _ len cap k true L s _ (HV.out.below b1) HC.out HA.out).mono ?_
  rintro e w2 ⟨rfl, rfl⟩
  have HV1 := Lib.hid (HV.out.below b1)
  have HB := Lib.hid b1
  clear b1
  go_wp2_with fail
  refine (Try.slices_Clone_string b off len cap L _ (by rw [HL.out]; exact Nat.le_refl _) (by omega) (fun j hj => ?_)).mono ?_
  · obtain ⟨b', off', he, _, hx⟩ := HV1.out.2 j (by rw [← HL.out]; exact hj)
    simp only [Option.some.injEq, Addr.mk.injEq, and_true] at he
    obtain ⟨rfl, rfl⟩ := he
    exact hx
  rintro e w2 ⟨v, rfl, ho, _, b2⟩
  have ho2 : w2.ownsRow w1.heap.size 9 1 v L.length (L.map Value.string) := by
    rw [HL.out]
    rw [List.take_of_length_le (by rw [HL.out]; exact Nat.le_refl _)] at ho
    exact ho
  have HO : Hid (Own w.heap.size w2 v L) := Lib.hid (Own.mono ho2 HB.out.size)
  have HB2 := Lib.hid b2
  clear ho ho2 b2
  go_wp2_with fail
  go_ret2
  exact ⟨_, rfl, HO.out, HB.out.trans (HB2.out.mono HB.out.size)⟩
theorem drop_callO (b off len cap c2 k : Nat) (A : Addr) (L : List ByteArray) (w : World) (hv : SView w (some ⟨b, off, none⟩) len L) (hA : k + 1 < len → A = ⟨b, off + (k + 1), none⟩) (hk : k < len) (hl : len ≤ 5000) :
    Calls Try.prog 29 #[.slice (some ⟨w.heap.size, 0, none⟩) 2 2] ((w.alloc (.cells #[.slice (some ⟨b, off, none⟩) k cap, .slice (some A) (len - (k + 1)) c2] 22)).drew)
      fun e w' => ∃ v, e = .returned v ∧ Own w.heap.size w' v (del L k) ∧ Below w.heap.size w w' := by
  obtain ⟨W, hW⟩ : ∃ W, W = ((w.alloc (.cells #[.slice (some ⟨b, off, none⟩) k cap, .slice (some A) (len - (k + 1)) c2] 22)).drew) := ⟨_, rfl⟩
  have b2 : Below w.heap.size w W := by rw [hW]; exact ((Below.refl _ w).alloc (Nat.le_refl _) _).drew
  have hsz : W.heap.size = w.heap.size + 1 := by rw [hW]; simp [World.drew]
  have hc : ∀ j u, [Value.slice (some ⟨b, off, none⟩) k cap, .slice (some A) (len - (k + 1)) c2][j]? = some u → W.cell? ⟨w.heap.size, j, none⟩ = some u := by
    intro j u hj
    have hblk : W.heap[w.heap.size]? = some (.cells #[.slice (some ⟨b, off, none⟩) k cap, .slice (some A) (len - (k + 1)) c2] 22) := by
      rw [hW]
      exact heap_alloc_new w (.cells #[.slice (some ⟨b, off, none⟩) k cap, .slice (some A) (len - (k + 1)) c2] 22)
    simp only [World.cell?, hblk]
    simpa using hj
  rw [← hW]
  have hp : PView W (some ⟨w.heap.size, 0, none⟩) 2 [L.take k, L.drop (k + 1)] := by
    refine ⟨w.heap.size, 0, rfl, by omega, fun j hj => ?_⟩
    rw [Nat.zero_add]
    match j, hj with
    | 0, _ => exact ⟨_, _, _, hc 0 _ rfl, (hv.below b2).take (by omega), fun h => by simp at h⟩
    | 1, _ => exact ⟨_, _, _, hc 1 _ rfl, (hv.below b2).drop hA, fun h => by simp at h⟩
  have hfl := flat_pair (L.take k) (L.drop (k + 1))
  have hlen : (L.take k ++ L.drop (k + 1)).length ≤ 100000 := by simp [hv.1]; omega
  refine (join_own _ 2 2 _ W hp (by omega) (by rw [hfl]; exact hlen)).mono ?_
  rintro e w' ⟨v, rfl, hh, hb⟩
  rw [hfl] at hh
  exact ⟨v, rfl, hh.mono (by omega), b2.trans (hb.mono (by omega))⟩

theorem drop_anyO (b off len cap k : Nat) (L : List ByteArray) (s : ByteArray) (w : World) (hv : SView w (some ⟨b, off, none⟩) len L) (hlc : len ≤ cap) (hlen : len ≤ 4096) (hce : chE L = 0) (hat : At L s k true) :
    Calls Try.prog 10 #[.slice (some ⟨b, off, none⟩) len cap, .string s] w fun e w' => ∃ v, e = .returned (.tuple #[v, .int .i64 0]) ∧ Own w.heap.size w' v (del L k) ∧ Below w.heap.size w w' := by
  have hk : k < len := by rw [← hv.1]; exact (hat.2.2.1 rfl).1
  have HV := Lib.hid hv
  have HE := Lib.hid hce
  have HA := Lib.hid hat
  clear hv hce hat
  go_enter Try.func10, Try.ntmps10
  go_wp2_with fail
  refine (check_any _ len cap L _ HV.out).mono ?_
  rintro e w1 ⟨rfl, b1⟩
  rw [HE.out]
  go_wp2_with fail
  refine (findD _ len cap k true L s _ (HV.out.below b1) HE.out HA.out).mono ?_
  rintro e w2 ⟨rfl, rfl⟩
  have B1 := Lib.hid b1
  clear b1
  have hkc : k ≤ cap := by omega
  have hk1 : k + 1 ≤ len := by omega
  have hw : IntKind.i64.wrap ((k : Int) + 1) = (k : Int) + 1 := by rw [IntKind.wrap_i64]; omega
  obtain ⟨A, hA, hAk⟩ : ∃ A : Addr, (if cap = k + 1 then some (⟨b, off, none⟩ : Addr) else some ⟨b, off + (k + 1), none⟩) = some A ∧ Hid (k + 1 < len → A = ⟨b, off + (k + 1), none⟩) := by
    by_cases h : cap = k + 1
    · exact ⟨⟨b, off, none⟩, by rw [if_pos h], fun h' => by omega⟩
    · exact ⟨⟨b, off + (k + 1), none⟩, by rw [if_neg h], fun _ => rfl⟩
  have J := Lib.hid (drop_callO b off len cap (cap - (k + 1)) k A L w1 (HV.out.below B1.out) hAk.out hk (by omega))
  go_wp2_with fail
  go_region_with (go_at_call 29; refine J.out.mono ?_; rintro e w2 ⟨v, rfl, hh, b2⟩; have HH := Lib.hid hh; have B2 := Lib.hid b2; clear hh b2)
  all_goals (go_wp2_with fail)
  all_goals go_ret2
  all_goals exact ⟨_, rfl, Own.mono (Hid.out (by assumption : Hid (Own w1.heap.size _ _ _))) B1.out.size, B1.out.trans ((Hid.out (by assumption : Hid (Below w1.heap.size w1 _))).mono B1.out.size)⟩

theorem empty_callO (x1 x3 : Option Addr) (c1 c3 : Nat) (s : ByteArray) (w : World) (h1 : x1 = none → c1 = 0) (h3 : x3 = none → c3 = 0) :
    Calls Try.prog 29 #[.slice (some ⟨w.heap.size + 1, 0, none⟩) 3 3] ((w.alloc (.cells #[.string s] 9)).alloc (.cells #[.slice x1 0 c1, .slice (some ⟨w.heap.size, 0, none⟩) 1 1, .slice x3 0 c3] 22)).drew
      fun e w' => ∃ v, e = .returned v ∧ Own w.heap.size w' v [s] ∧ Below w.heap.size w w' := by
  obtain ⟨W, hW⟩ : ∃ W, W = ((w.alloc (.cells #[.string s] 9)).alloc (.cells #[.slice x1 0 c1, .slice (some ⟨w.heap.size, 0, none⟩) 1 1, .slice x3 0 c3] 22)).drew := ⟨_, rfl⟩
  have b1 : Below w.heap.size w (w.alloc (.cells #[.string s] 9)) := (Below.refl _ w).alloc (Nat.le_refl _) _
  have b2 : Below w.heap.size w W := by rw [hW]; exact (b1.alloc (by simp) _).drew
  have hsz : W.heap.size = w.heap.size + 2 := by rw [hW]; simp [World.drew]
  have hc : ∀ j u, [Value.slice x1 0 c1, .slice (some ⟨w.heap.size, 0, none⟩) 1 1, .slice x3 0 c3][j]? = some u → W.cell? ⟨w.heap.size + 1, j, none⟩ = some u := by
    intro j u hj
    have hblk : W.heap[w.heap.size + 1]? = some (.cells #[.slice x1 0 c1, .slice (some ⟨w.heap.size, 0, none⟩) 1 1, .slice x3 0 c3] 22) := by
      rw [hW]
      have := heap_alloc_new (w.alloc (.cells #[.string s] 9)) (.cells #[.slice x1 0 c1, .slice (some ⟨w.heap.size, 0, none⟩) 1 1, .slice x3 0 c3] 22)
      simpa [World.drew] using this
    simp only [World.cell?, hblk]
    simpa using hj
  have hs : W.cell? ⟨w.heap.size, 0, none⟩ = some (.string s) := by
    have hblk : W.heap[w.heap.size]? = some (.cells #[.string s] 9) := by
      rw [hW]
      have e1 := heap_alloc_new w (.cells #[.string s] 9)
      have e2 := Below.heap_alloc (w.alloc (.cells #[.string s] 9)) (.cells #[.slice x1 0 c1, .slice (some ⟨w.heap.size, 0, none⟩) 1 1, .slice x3 0 c3] 22) w.heap.size (by simp)
      exact e2.trans e1
    simp only [World.cell?, hblk]
    rfl
  rw [← hW]
  have hp : PView W (some ⟨w.heap.size + 1, 0, none⟩) 3 [[], [s], []] := by
    refine ⟨w.heap.size + 1, 0, rfl, by omega, fun j hj => ?_⟩
    rw [Nat.zero_add]
    match j, hj with
    | 0, _ => exact ⟨_, _, _, hc 0 _ rfl, ⟨rfl, fun k hk => by omega⟩, fun h => ⟨rfl, h1 h⟩⟩
    | 1, _ => exact ⟨_, _, _, hc 1 _ rfl, one_view (by omega) hs, fun h => by simp at h⟩
    | 2, _ => exact ⟨_, _, _, hc 2 _ rfl, ⟨rfl, fun k hk => by omega⟩, fun h => ⟨rfl, h3 h⟩⟩
  refine (join_own _ 3 3 _ W hp (by omega) (by simp [flat, part])).mono ?_
  rintro e w' ⟨v, rfl, hh, hb⟩
  exact ⟨v, rfl, hh.mono (by omega), b2.trans (hb.mono (by omega))⟩

theorem put_emptyO (a : Option Addr) (cap : Nat) (s : ByteArray) (w : World) (hnil : a = none → cap = 0) :
    Calls Try.prog 19 #[.slice a 0 cap, .string s] w fun e w' => ∃ v, e = .returned (.tuple #[v, .int .i64 0]) ∧ Own w.heap.size w' v [s] ∧ Below w.heap.size w w' := by
  have hat : At [] s 0 false := ⟨Nat.le_refl _, fun j hj => by omega, fun h => by simp at h, fun _ j _ hj => by simp at hj⟩
  have hv : ∀ w' : World, SView w' a 0 [] := fun w' => ⟨rfl, fun k hk => by omega⟩
  have HV := Lib.hid hv
  have HA := Lib.hid hat
  clear hv hat
  cases a with
  | none =>
    obtain rfl := hnil rfl
    go_enter Try.func19, Try.ntmps19
    go_wp2_with fail
    refine (check_any _ 0 0 [] _ (HV.out _)).mono ?_
    rintro e w1 ⟨rfl, b1⟩
    rw [show chE [] = 0 from rfl]
    go_wp2_with fail
    refine (findD _ 0 0 0 false [] s _ (HV.out _) rfl HA.out).mono ?_
    rintro e w2 ⟨rfl, rfl⟩
    have B1 := Lib.hid b1
    clear b1
    go_wp2_with fail
    have J := Lib.hid (empty_callO none none 0 0 s w1 (fun _ => rfl) (fun _ => rfl))
    go_region_with (go_at_call 29; refine J.out.mono ?_; rintro e w2 ⟨v, rfl, hh, b2⟩; have HH := Lib.hid hh; have B2 := Lib.hid b2; clear hh b2)
    all_goals (go_wp2_with fail)
    all_goals go_ret2
    all_goals exact ⟨_, rfl, Own.mono (Hid.out (by assumption : Hid (Own w1.heap.size _ _ _))) B1.out.size, B1.out.trans ((Hid.out (by assumption : Hid (Below w1.heap.size w1 _))).mono B1.out.size)⟩
  | some ad =>
    go_enter Try.func19, Try.ntmps19
    go_wp2_with fail
    refine (check_any _ 0 cap [] _ (HV.out _)).mono ?_
    rintro e w1 ⟨rfl, b1⟩
    rw [show chE [] = 0 from rfl]
    go_wp2_with fail
    refine (findD _ 0 cap 0 false [] s _ (HV.out _) rfl HA.out).mono ?_
    rintro e w2 ⟨rfl, rfl⟩
    have B1 := Lib.hid b1
    clear b1
    go_wp2_with fail
    have J := Lib.hid (empty_callO (some ad) (some ad) cap cap s w1 (fun h => by simp at h) (fun h => by simp at h))
    go_region_with (go_at_call 29; refine J.out.mono ?_; rintro e w2 ⟨v, rfl, hh, b2⟩; have HH := Lib.hid hh; have B2 := Lib.hid b2; clear hh b2)
    all_goals (go_wp2_with fail)
    all_goals go_ret2
    all_goals exact ⟨_, rfl, Own.mono (Hid.out (by assumption : Hid (Own w1.heap.size _ _ _))) B1.out.size, B1.out.trans ((Hid.out (by assumption : Hid (Below w1.heap.size w1 _))).mono B1.out.size)⟩
set_option maxRecDepth 10000 in
set_option maxHeartbeats 4000000 in
theorem sort_okO (a : Option Addr) (len cap : Nat) (L : List ByteArray) (w : World) (hv : SView w a len L) (hlen : len ≤ 4096) :
    Calls Try.prog 9 #[.slice a len cap] w fun e w' => ∃ v, e = .returned (.tuple #[v, .int .i64 0]) ∧ Own w.heap.size w' v (sortL L) ∧ Below w.heap.size w w' := by
  obtain ⟨i0, hi, hz0, hz1, hz2⟩ := info_parts info45
  obtain ⟨j0, hj, hy0, hy1, hy2⟩ := info_parts info9
  have HV := Lib.hid hv
  have HL : Hid (L.length = len) := Lib.hid hv.1
  have hb16 : i0.bytes * len ≤ 281474976710656 := by rw [hz2]; omega
  clear hv
  go_enter Try.func9, Try.ntmps9
  go_wp2_with (at_make; refine wpList_make_own _ rfl _ _ 44 rfl w.heap.size 45 i0 (.string ⟨#[]⟩) 1 Try.underlying44 hi hz0 hz1 .i64 .i64 len len rfl rfl rfl hb16 (by unfold maxLen; omega) (Nat.le_refl _) ?_; intro w1 ho1 hg1)
  have HB1 : Hid (Below w.heap.size w w1) := Lib.hid ((Below.refl _ w).grown hg1 (Nat.le_refl _) (fun k hk => by cases hk))
  have HO1 := Lib.hid ho1
  clear ho1 hg1 hb16
  go_loopg [4, 18] len (fun f s i wr => ∃ k : Nat, f + k = len ∧ i = .int .i64 k ∧ wr.ownsRow w.heap.size 45 1 s k ((L.take k).map Value.string) ∧ s ≠ .slice none 0 0 ∧ Below w.heap.size w wr)
  case atStart => exact ⟨0, rfl, rfl, HO1.out, by simp, HB1.out⟩
  case round =>
    obtain ⟨k, hf, rfl, ho, hnn, hbw⟩ := hrel
    have HF := Lib.hid hf
    have HO := Lib.hid ho
    have HNN := Lib.hid hnn
    have HBW := Lib.hid hbw
    clear ho hnn hbw
    cases gk with
    | zero =>
      obtain rfl : k = len := by omega
      clear hf
      rcases HO.out.2 with ⟨rfl, _⟩ | ⟨g, cap2, cur, rfl, hg0, hgg, _⟩
      · exact absurd rfl HNN.out
      have HS := Lib.hid (fun h5 => sort26 g cap2 k L w.heap.size wr (by have := HO.out; rw [List.take_of_length_le (by rw [HL.out]; exact Nat.le_refl _)] at this; exact this) h5 (Array.getElem?_eq_some_iff.1 hgg).1)
      have HG0 := Lib.hid hg0
      clear hg0 hgg
      go_wp2_with fail
      refine (HS.out (by omega)).mono ?_
      rintro e w2 ⟨rfl, hsv, b2⟩
      have HB2 : Hid (Below w.heap.size w w2) := Lib.hid (HBW.out.trans (b2.mono HG0.out))
      obtain ⟨S, hS⟩ : ∃ S, S = srt L := ⟨_, rfl⟩
      rw [← hS] at hsv
      have HSV := Lib.hid hsv
      have HSS := Lib.hid hS
      have HSL : Hid (S.length = k) := Lib.hid hsv.1
      clear b2 hsv hS
      go_wp2_with fail
      go_loopg [7, 31] k (fun f out i wr => ∃ j : Nat, f + j = k ∧ i = .int .i64 j ∧ wr.ownsRow w2.heap.size 9 1 out (ddk S j).length ((ddk S j).map Value.string) ∧ Below w2.heap.size w2 wr)
      case atStart => exact ⟨0, rfl, rfl, World.ownsRow_nil _ _ _ _, Below.refl _ _⟩
      case round =>
        obtain ⟨j, hf, rfl, ho, hbw⟩ := hrel
        have HF := Lib.hid hf
        have HQ := Lib.hid ho
        have HBQ := Lib.hid hbw
        clear ho hbw
        cases gk with
        | zero =>
          obtain rfl : j = k := by omega
          have HFIN : Hid (ddk S j = sortL L) := Lib.hid (by unfold sortL; rw [← HSS.out, HSL.out])
          clear hf
          go_wp2_with fail
          go_ret2
          exact ⟨_, rfl, Own.mono (C := w2.heap.size) (by rw [← HFIN.out]; exact HQ.out) HB2.out.size, HB2.out.trans (HBQ.out.mono HB2.out.size)⟩
        | succ f =>
          have hk : j < k := by omega
          have hk' : (j : Int) < (k : Int) := by omega
          obtain ⟨b, off, e0, hb, hc⟩ := (HSV.out.below HBQ.out).2 j hk
          simp only [Option.some.injEq, Addr.mk.injEq, and_true] at e0
          obtain ⟨rfl, rfl⟩ := e0
          rw [Nat.zero_add] at hc
          have HM : Hid ((ddk S j).length ≤ 4096) := Lib.hid (by have := ddk_len S j; omega)
          have HD : Hid (ddk S (j + 1) = if j = 0 ∨ nth S j ≠ nth S (j - 1) then ddk S j ++ [nth S j] else ddk S j) := Lib.hid rfl
          by_cases j0' : j = 0
          · subst j0'
            obtain ⟨x, hx⟩ : ∃ x, x = nth S 0 := ⟨_, rfl⟩
            rw [← hx] at hc HD
            have HD2 : Hid (ddk S (0 + 1) = ddk S 0 ++ [x]) := Lib.hid (by rw [HD.out, if_pos (.inl rfl)])
            clear hx hb hf HD
            go_wp2_with (at_builtin; refine wpList_append_own _ rfl _ _ 22 rfl w2.heap.size 9 j0 (.string ⟨#[]⟩) 1 16 Try.underlying22 hj hy0 hy1 hy2 rfl (by decide) _ _ _ rfl (HQ.out.alloc _) ⟨wr.heap.size, 0, none⟩ 1 1 [.string x] rfl rfl (str_news _ _ _) (by intro u hu; simp at hu; subst hu; rfl) (by have := HM.out; unfold maxLen; omega) (by have := HM.out; omega) (by have := HBQ.out.size; simp; omega) ?_; intro v3 w3 ho3 hg3 _; have HB3 : Hid (Below w2.heap.size w2 w3) := Lib.hid ((HBQ.out.alloc HBQ.out.size _).grown hg3 (by have := HBQ.out.size; simp; omega) (fun q hq => (HQ.out.lt q hq).1)); have HO3 := Lib.hid ho3; clear ho3 hg3)
            go_roundg f
            case rel => exact ⟨0 + 1, by have := HF.out; omega, by go_num, by rw [HD2.out, List.length_append, List.map_append]; exact HO3.out, HB3.out⟩
            case measure => omega
          · obtain ⟨q, rfl⟩ : ∃ q, j = q + 1 := ⟨j - 1, by omega⟩
            obtain ⟨b', off', e0', hb', hc'⟩ := (HSV.out.below HBQ.out).2 q (by omega)
            simp only [Option.some.injEq, Addr.mk.injEq, and_true] at e0'
            obtain ⟨rfl, rfl⟩ := e0'
            rw [Nat.zero_add] at hc'
            obtain ⟨x, hx⟩ : ∃ x, x = nth S (q + 1) := ⟨_, rfl⟩
            obtain ⟨y, hy⟩ : ∃ y, y = nth S q := ⟨_, rfl⟩
            rw [Nat.add_sub_cancel] at HD
            rw [← hx] at hc HD
            rw [← hy] at hc' HD
            have hq : (q : Int) < (k : Int) := by omega
            have hse := str_eq x y
            clear hx hy hb hb' hf j0'
            by_cases hxy : x = y
            · have HD2 : Hid (ddk S (q + 1 + 1) = ddk S (q + 1)) := Lib.hid (by rw [HD.out, if_neg (by intro h; rcases h with h | h; exact Nat.succ_ne_zero q h; exact h hxy)])
              have g1 : (x.toList == y.toList) = true := by rw [hse]; simpa using hxy
              have g2 : (x.toList != y.toList) = false := by simp [bne, g1]
              clear hse HD
              subst hxy
              go_wp2_with fail
              go_roundg f
              case rel => exact ⟨q + 1 + 1, by have := HF.out; omega, by go_num, by rw [HD2.out]; exact HQ.out, HBQ.out⟩
              case measure => omega
            · have HD2 : Hid (ddk S (q + 1 + 1) = ddk S (q + 1) ++ [x]) := Lib.hid (by rw [HD.out, if_pos (.inr hxy)])
              have g1 : (x.toList == y.toList) = false := by rw [hse]; simpa using hxy
              have g2 : (x.toList != y.toList) = true := by simp [bne, g1]
              clear hse HD hxy
              go_wp2_with (at_builtin; refine wpList_append_own _ rfl _ _ 22 rfl w2.heap.size 9 j0 (.string ⟨#[]⟩) 1 16 Try.underlying22 hj hy0 hy1 hy2 rfl (by decide) _ _ _ rfl (HQ.out.alloc _) ⟨wr.heap.size, 0, none⟩ 1 1 [.string x] rfl rfl (str_news _ _ _) (by intro u hu; simp at hu; subst hu; rfl) (by have := HM.out; unfold maxLen; omega) (by have := HM.out; omega) (by have := HBQ.out.size; simp; omega) ?_; intro v3 w3 ho3 hg3 _; have HB3 : Hid (Below w2.heap.size w2 w3) := Lib.hid ((HBQ.out.alloc HBQ.out.size _).grown hg3 (by have := HBQ.out.size; simp; omega) (fun q hq => (HQ.out.lt q hq).1)); have HO3 := Lib.hid ho3; clear ho3 hg3)
              go_roundg f
              case rel => exact ⟨q + 1 + 1, by have := HF.out; omega, by go_num, by rw [HD2.out, List.length_append, List.map_append]; exact HO3.out, HB3.out⟩
              case measure => omega
    | succ f =>
      have hk : k < len := by omega
      have hk' : (k : Int) < (len : Int) := by omega
      obtain ⟨b, off, rfl, hb, hc⟩ := (HV.out.below (by exact (show Below w.heap.size w wr from HBW.out))).2 k hk
      have HT := Lib.hid (take_nth L k (by rw [HL.out]; exact hk))
      obtain ⟨x, hx⟩ : ∃ x, x = nth L k := ⟨_, rfl⟩
      rw [← hx] at hc HT
      clear hx hb hf
      go_wp2_with (at_builtin; refine wpList_append_own _ rfl _ _ 44 rfl w.heap.size 45 i0 (.string ⟨#[]⟩) 1 16 Try.underlying44 hi hz0 hz1 hz2 rfl (by decide) _ _ _ rfl (HO.out.alloc _) ⟨wr.heap.size, 0, none⟩ 1 1 [.string x] rfl rfl (str_news _ _ _) (by intro u hu; simp at hu; subst hu; rfl) (by unfold maxLen; omega) (by omega) (by have := HBW.out.size; simp; omega) ?_; intro v3 w3 ho3 hg3 hn3; have HB3 : Hid (Below w.heap.size w w3) := Lib.hid ((HBW.out.alloc HBW.out.size _).grown hg3 (by have := HBW.out.size; simp; omega) (fun q hq => (HO.out.lt q hq).1)); have HO3 := Lib.hid ho3; have HN3 : Hid (v3 ≠ .slice none 0 0) := Lib.hid (fun e => by have := (hn3.1 e).2; omega); clear ho3 hg3 hn3)
      go_roundg f
      case rel => exact ⟨k + 1, by have := HF.out; omega, by go_num, by rw [HT.out]; exact HO3.out, HN3.out, HB3.out⟩
      case measure => omega
end Go.Proofs.Ytcnafgelfkfekaa

import Derived.Test.YtcnafgelfkfekaaE9
namespace Go.Proofs.Ytcnafgelfkfekaa
open Go.RowKit

theorem flat_pair (A B : List ByteArray) : flat [A, B] 2 = A ++ B := by simp [flat, part]
theorem drop_call (b off len cap c2 k : Nat) (A : Addr) (L : List ByteArray) (w : World) (hv : SView w (some ⟨b, off, none⟩) len L) (hA : k + 1 < len → A = ⟨b, off + (k + 1), none⟩) (hk : k < len) (hl : len ≤ 5000) :
    Calls Try.prog 29 #[.slice (some ⟨w.heap.size, 0, none⟩) 2 2] ((w.alloc (.cells #[.slice (some ⟨b, off, none⟩) k cap, .slice (some A) (len - (k + 1)) c2] 22)).drew)
      fun e w' => ∃ v, e = .returned v ∧ Holds w' v (del L k) ∧ Below w.heap.size w w' := by
  obtain ⟨W, hW⟩ : ∃ W, W = ((w.alloc (.cells #[.slice (some ⟨b, off, none⟩) k cap, .slice (some A) (len - (k + 1)) c2] 22)).drew) := ⟨_, rfl⟩
  have b2 : Below w.heap.size w W := by rw [hW]; exact ((Below.refl _ w).alloc (Nat.le_refl _) _).drew
  have hsz : W.heap.size = w.heap.size + 1 := by rw [hW]; simp [World.drew]
  have hc : ∀ j u, [Value.slice (some ⟨b, off, none⟩) k cap, .slice (some A) (len - (k + 1)) c2][j]? = some u → W.cell? ⟨w.heap.size, j, none⟩ = some u := by
    intro j u hj
    have hblk : W.heap[w.heap.size]? = some (.cells #[.slice (some ⟨b, off, none⟩) k cap, .slice (some A) (len - (k + 1)) c2] 22) := by
      rw [hW]
      exact heap_alloc_new w (.cells #[.slice (some ⟨b, off, none⟩) k cap, .slice (some A) (len - (k + 1)) c2] 22)
    simp only [World.cell?, hblk]
    simpa using hj
  rw [← hW]
  have hp : PView W (some ⟨w.heap.size, 0, none⟩) 2 [L.take k, L.drop (k + 1)] := by
    refine ⟨w.heap.size, 0, rfl, by omega, fun j hj => ?_⟩
    rw [Nat.zero_add]
    match j, hj with
    | 0, _ => exact ⟨_, _, _, hc 0 _ rfl, (hv.below b2).take (by omega), fun h => by simp at h⟩
    | 1, _ => exact ⟨_, _, _, hc 1 _ rfl, (hv.below b2).drop hA, fun h => by simp at h⟩
  have hfl := flat_pair (L.take k) (L.drop (k + 1))
  have hlen : (L.take k ++ L.drop (k + 1)).length ≤ 100000 := by simp [hv.1]; omega
  refine (join_any _ 2 2 _ W hp (by omega) (by rw [hfl]; exact hlen)).mono ?_
  rintro e w' ⟨v, rfl, hh, hb⟩
  rw [hfl] at hh
  exact ⟨v, rfl, hh, b2.trans (hb.mono (by omega))⟩

theorem drop_any (b off len cap k : Nat) (L : List ByteArray) (s : ByteArray) (w : World) (hv : SView w (some ⟨b, off, none⟩) len L) (hlc : len ≤ cap) (hlen : len ≤ 4096) (hce : chE L = 0) (hat : At L s k true) :
    Calls Try.prog 10 #[.slice (some ⟨b, off, none⟩) len cap, .string s] w fun e w' => ∃ v, e = .returned (.tuple #[v, .int .i64 0]) ∧ Holds w' v (del L k) ∧ Below w.heap.size w w' := by
  have hk : k < len := by rw [← hv.1]; exact (hat.2.2.1 rfl).1
  have HV := Lib.hid hv
  have HE := Lib.hid hce
  have HA := Lib.hid hat
  clear hv hce hat
  go_enter Try.func10, Try.ntmps10
  go_wp2_with fail
  refine (check_any _ len cap L _ HV.out).mono ?_
  rintro e w1 ⟨rfl, b1⟩
  rw [HE.out]
  go_wp2_with fail
  refine (findD _ len cap k true L s _ (HV.out.below b1) HE.out HA.out).mono ?_
  rintro e w2 ⟨rfl, rfl⟩
  have B1 := Lib.hid b1
  clear b1
  have hkc : k ≤ cap := by omega
  have hk1 : k + 1 ≤ len := by omega
  have hw : IntKind.i64.wrap ((k : Int) + 1) = (k : Int) + 1 := by rw [IntKind.wrap_i64]; omega
  obtain ⟨A, hA, hAk⟩ : ∃ A : Addr, (if cap = k + 1 then some (⟨b, off, none⟩ : Addr) else some ⟨b, off + (k + 1), none⟩) = some A ∧ Hid (k + 1 < len → A = ⟨b, off + (k + 1), none⟩) := by
    by_cases h : cap = k + 1
    · exact ⟨⟨b, off, none⟩, by rw [if_pos h], fun h' => by omega⟩
    · exact ⟨⟨b, off + (k + 1), none⟩, by rw [if_neg h], fun _ => rfl⟩
  have J := Lib.hid (drop_call b off len cap (cap - (k + 1)) k A L w1 (HV.out.below B1.out) hAk.out hk (by omega))
  go_wp2_with fail
  go_region_with (go_at_call 29; refine J.out.mono ?_; rintro e w2 ⟨v, rfl, hh, b2⟩; have HH := Lib.hid hh; have B2 := Lib.hid b2; clear hh b2)
  all_goals (go_wp2_with fail)
  all_goals go_ret2
  all_goals exact ⟨_, rfl, Hid.out (by assumption), B1.out.trans ((Hid.out (by assumption : Hid (Below w1.heap.size w1 _))).mono B1.out.size)⟩

theorem empty_call (x1 x3 : Option Addr) (c1 c3 : Nat) (s : ByteArray) (w : World) (h1 : x1 = none → c1 = 0) (h3 : x3 = none → c3 = 0) :
    Calls Try.prog 29 #[.slice (some ⟨w.heap.size + 1, 0, none⟩) 3 3] ((w.alloc (.cells #[.string s] 9)).alloc (.cells #[.slice x1 0 c1, .slice (some ⟨w.heap.size, 0, none⟩) 1 1, .slice x3 0 c3] 22)).drew
      fun e w' => ∃ v, e = .returned v ∧ Holds w' v [s] ∧ Below w.heap.size w w' := by
  obtain ⟨W, hW⟩ : ∃ W, W = ((w.alloc (.cells #[.string s] 9)).alloc (.cells #[.slice x1 0 c1, .slice (some ⟨w.heap.size, 0, none⟩) 1 1, .slice x3 0 c3] 22)).drew := ⟨_, rfl⟩
  have b1 : Below w.heap.size w (w.alloc (.cells #[.string s] 9)) := (Below.refl _ w).alloc (Nat.le_refl _) _
  have b2 : Below w.heap.size w W := by rw [hW]; exact (b1.alloc (by simp) _).drew
  have hsz : W.heap.size = w.heap.size + 2 := by rw [hW]; simp [World.drew]
  have hc : ∀ j u, [Value.slice x1 0 c1, .slice (some ⟨w.heap.size, 0, none⟩) 1 1, .slice x3 0 c3][j]? = some u → W.cell? ⟨w.heap.size + 1, j, none⟩ = some u := by
    intro j u hj
    have hblk : W.heap[w.heap.size + 1]? = some (.cells #[.slice x1 0 c1, .slice (some ⟨w.heap.size, 0, none⟩) 1 1, .slice x3 0 c3] 22) := by
      rw [hW]
      have := heap_alloc_new (w.alloc (.cells #[.string s] 9)) (.cells #[.slice x1 0 c1, .slice (some ⟨w.heap.size, 0, none⟩) 1 1, .slice x3 0 c3] 22)
      simpa [World.drew] using this
    simp only [World.cell?, hblk]
    simpa using hj
  have hs : W.cell? ⟨w.heap.size, 0, none⟩ = some (.string s) := by
    have hblk : W.heap[w.heap.size]? = some (.cells #[.string s] 9) := by
      rw [hW]
      have e1 := heap_alloc_new w (.cells #[.string s] 9)
      have e2 := Below.heap_alloc (w.alloc (.cells #[.string s] 9)) (.cells #[.slice x1 0 c1, .slice (some ⟨w.heap.size, 0, none⟩) 1 1, .slice x3 0 c3] 22) w.heap.size (by simp)
      exact e2.trans e1
    simp only [World.cell?, hblk]
    rfl
  rw [← hW]
  have hp : PView W (some ⟨w.heap.size + 1, 0, none⟩) 3 [[], [s], []] := by
    refine ⟨w.heap.size + 1, 0, rfl, by omega, fun j hj => ?_⟩
    rw [Nat.zero_add]
    match j, hj with
    | 0, _ => exact ⟨_, _, _, hc 0 _ rfl, ⟨rfl, fun k hk => by omega⟩, fun h => ⟨rfl, h1 h⟩⟩
    | 1, _ => exact ⟨_, _, _, hc 1 _ rfl, one_view (by omega) hs, fun h => by simp at h⟩
    | 2, _ => exact ⟨_, _, _, hc 2 _ rfl, ⟨rfl, fun k hk => by omega⟩, fun h => ⟨rfl, h3 h⟩⟩
  refine (join_any _ 3 3 _ W hp (by omega) (by simp [flat, part])).mono ?_
  rintro e w' ⟨v, rfl, hh, hb⟩
  exact ⟨v, rfl, hh, b2.trans (hb.mono (by omega))⟩

theorem put_empty (a : Option Addr) (cap : Nat) (s : ByteArray) (w : World) (hnil : a = none → cap = 0) :
    Calls Try.prog 19 #[.slice a 0 cap, .string s] w fun e w' => ∃ v, e = .returned (.tuple #[v, .int .i64 0]) ∧ Holds w' v [s] ∧ Below w.heap.size w w' := by
  have hat : At [] s 0 false := ⟨Nat.le_refl _, fun j hj => by omega, fun h => by simp at h, fun _ j _ hj => by simp at hj⟩
  have hv : ∀ w' : World, SView w' a 0 [] := fun w' => ⟨rfl, fun k hk => by omega⟩
  have HV := Lib.hid hv
  have HA := Lib.hid hat
  clear hv hat
  cases a with
  | none =>
    obtain rfl := hnil rfl
    go_enter Try.func19, Try.ntmps19
    go_wp2_with fail
    refine (check_any _ 0 0 [] _ (HV.out _)).mono ?_
    rintro e w1 ⟨rfl, b1⟩
    rw [show chE [] = 0 from rfl]
    go_wp2_with fail
    refine (findD _ 0 0 0 false [] s _ (HV.out _) rfl HA.out).mono ?_
    rintro e w2 ⟨rfl, rfl⟩
    have B1 := Lib.hid b1
    clear b1
    go_wp2_with fail
    have J := Lib.hid (empty_call none none 0 0 s w1 (fun _ => rfl) (fun _ => rfl))
    go_region_with (go_at_call 29; refine J.out.mono ?_; rintro e w2 ⟨v, rfl, hh, b2⟩; have HH := Lib.hid hh; have B2 := Lib.hid b2; clear hh b2)
    all_goals (go_wp2_with fail)
    all_goals go_ret2
    all_goals exact ⟨_, rfl, Hid.out (by assumption), B1.out.trans ((Hid.out (by assumption : Hid (Below w1.heap.size w1 _))).mono B1.out.size)⟩
  | some ad =>
    go_enter Try.func19, Try.ntmps19
    go_wp2_with fail
    refine (check_any _ 0 cap [] _ (HV.out _)).mono ?_
    rintro e w1 ⟨rfl, b1⟩
    rw [show chE [] = 0 from rfl]
    go_wp2_with fail
    refine (findD _ 0 cap 0 false [] s _ (HV.out _) rfl HA.out).mono ?_
    rintro e w2 ⟨rfl, rfl⟩
    have B1 := Lib.hid b1
    clear b1
    go_wp2_with fail
    have J := Lib.hid (empty_call (some ad) (some ad) cap cap s w1 (fun h => by simp at h) (fun h => by simp at h))
    go_region_with (go_at_call 29; refine J.out.mono ?_; rintro e w2 ⟨v, rfl, hh, b2⟩; have HH := Lib.hid hh; have B2 := Lib.hid b2; clear hh b2)
    all_goals (go_wp2_with fail)
    all_goals go_ret2
    all_goals exact ⟨_, rfl, Hid.out (by assumption), B1.out.trans ((Hid.out (by assumption : Hid (Below w1.heap.size w1 _))).mono B1.out.size)⟩
end Go.Proofs.Ytcnafgelfkfekaa

import Derived.Test.YtcnafgelfkfekaaE4
import Derived.Deep.RegionWith
namespace Go.Proofs.Ytcnafgelfkfekaa
open Go.RowKit

/-- A slice value that holds these strings. -/
def Holds (w : World) (v : Value) (L : List ByteArray) : Prop := ∃ a cap, v = .slice a L.length cap ∧ SView w a L.length L ∧ L.length ≤ cap ∧ cap ≤ maxLen ∧ (a = none → L.length = 0 ∧ cap = 0)
theorem Holds.below {w w' : World} {v : Value} {L : List ByteArray} (h : Holds w v L) (hb : Below w.heap.size w w') : Holds w' v L := by
  obtain ⟨a, cap, rfl, h1, h2⟩ := h
  exact ⟨a, cap, rfl, h1.below hb, h2⟩
theorem holds_of_own {w : World} {B : Nat} {v : Value} {L : List ByteArray} (h : w.ownsRow B 9 1 v L.length (L.map Value.string)) : Holds w v L := by
  rcases h.2 with ⟨rfl, hn⟩ | ⟨g, cap, cur, rfl, hg, hgg, h1, h2, h3, h4⟩
  · have : L = [] := List.length_eq_zero_iff.1 hn
    subst this
    exact ⟨none, 0, rfl, ⟨rfl, fun k hk => by simp at hk⟩, Nat.le_refl _, Nat.zero_le _, fun _ => ⟨rfl, rfl⟩⟩
  · refine ⟨some ⟨g, 0, none⟩, cap, rfl, ⟨rfl, fun k hk => ⟨g, 0, rfl, (Array.getElem?_eq_some_iff.1 hgg).1, ?_⟩⟩, h1, h2, fun h => by simp at h⟩
    rw [Nat.zero_add, h.cellAt k (by omega)]
    simp [nth, List.getD, hk]

theorem join_any (a : Option Addr) (n cap : Nat) (PS : List (List ByteArray)) (w : World) (hv : PView w a n PS) (hn : n ≤ 1000) (ht : (flat PS n).length ≤ 100000) :
    Calls Try.prog 29 #[.slice a n cap] w fun e w' => ∃ v, e = .returned v ∧ Holds w' v (flat PS n) ∧ Below w.heap.size w w' := by
  have HV := Lib.hid hv
  have HT := Lib.hid ht
  clear hv ht
  go_enter Try.func29, Try.ntmps29
  go_wp2_with fail
  refine (concat_any a n cap PS _ HV.out hn HT.out).mono ?_
  rintro e w1 ⟨v, rfl, ho, b1⟩
  go_wp2_with fail
  go_ret
  exact ⟨_, rfl, holds_of_own ho, b1⟩

def ins (L : List ByteArray) (s : ByteArray) (k : Nat) : List ByteArray := L.take k ++ (s :: L.drop k)

theorem SView.take {w : World} {b off len k : Nat} {L : List ByteArray} (h : SView w (some ⟨b, off, none⟩) len L) (hk : k ≤ len) : SView w (some ⟨b, off, none⟩) k (L.take k) := by
  refine ⟨by rw [List.length_take, h.1]; omega, fun j hj => ?_⟩
  obtain ⟨b', off', he, hlt, hc⟩ := h.2 j (by omega)
  refine ⟨b', off', he, hlt, ?_⟩
  rw [hc]; simp [nth, List.getD, hj]
theorem SView.drop {w : World} {b off len k : Nat} {L : List ByteArray} {A : Addr} (h : SView w (some ⟨b, off, none⟩) len L) (hA : k < len → A = ⟨b, off + k, none⟩) : SView w (some A) (len - k) (L.drop k) := by
  refine ⟨by rw [List.length_drop, h.1], fun j hj => ?_⟩
  obtain ⟨b', off', he, hlt, hc⟩ := h.2 (k + j) (by omega)
  simp only [Option.some.injEq, Addr.mk.injEq, and_true] at he
  obtain ⟨rfl, rfl⟩ := he
  refine ⟨b, off + k, by rw [hA (by omega)], hlt, ?_⟩
  rw [Nat.add_assoc, hc]; simp [nth, List.getD]
theorem one_view {w : World} {b : Nat} {s : ByteArray} (hb : b < w.heap.size) (h : w.cell? ⟨b, 0, none⟩ = some (.string s)) : SView w (some ⟨b, 0, none⟩) 1 [s] := by
  refine ⟨rfl, fun q hq => ?_⟩
  obtain rfl : q = 0 := by omega
  exact ⟨b, 0, rfl, hb, h⟩
theorem ins_flat (L : List ByteArray) (s : ByteArray) (k : Nat) : flat [L.take k, [s], L.drop k] 3 = ins L s k := by
  simp [flat, part, ins]

theorem join_call (b off len cap c2 k : Nat) (A : Addr) (L : List ByteArray) (s : ByteArray) (w : World) (hv : SView w (some ⟨b, off, none⟩) len L) (hA : k < len → A = ⟨b, off + k, none⟩) (hk : k ≤ len) (hl : len ≤ 5000) :
    Calls Try.prog 29 #[.slice (some ⟨w.heap.size + 1, 0, none⟩) 3 3] ((w.alloc (.cells #[.string s] 9)).alloc (.cells #[.slice (some ⟨b, off, none⟩) k cap, .slice (some ⟨w.heap.size, 0, none⟩) 1 1, .slice (some A) (len - k) c2] 22)).drew
      fun e w' => ∃ v, e = .returned v ∧ Holds w' v (ins L s k) ∧ Below w.heap.size w w' := by
  obtain ⟨W, hW⟩ : ∃ W, W = ((w.alloc (.cells #[.string s] 9)).alloc (.cells #[.slice (some ⟨b, off, none⟩) k cap, .slice (some ⟨w.heap.size, 0, none⟩) 1 1, .slice (some A) (len - k) c2] 22)).drew := ⟨_, rfl⟩
  have b1 : Below w.heap.size w (w.alloc (.cells #[.string s] 9)) := (Below.refl _ w).alloc (Nat.le_refl _) _
  have b2 : Below w.heap.size w W := by rw [hW]; exact (b1.alloc (by simp) _).drew
  have hsz : W.heap.size = w.heap.size + 2 := by rw [hW]; simp [World.drew]
  have hc : ∀ j u, [Value.slice (some ⟨b, off, none⟩) k cap, .slice (some ⟨w.heap.size, 0, none⟩) 1 1, .slice (some A) (len - k) c2][j]? = some u → W.cell? ⟨w.heap.size + 1, j, none⟩ = some u := by
    intro j u hj
    have hblk : W.heap[w.heap.size + 1]? = some (.cells #[.slice (some ⟨b, off, none⟩) k cap, .slice (some ⟨w.heap.size, 0, none⟩) 1 1, .slice (some A) (len - k) c2] 22) := by
      rw [hW]
      have := heap_alloc_new (w.alloc (.cells #[.string s] 9)) (.cells #[.slice (some ⟨b, off, none⟩) k cap, .slice (some ⟨w.heap.size, 0, none⟩) 1 1, .slice (some A) (len - k) c2] 22)
      simpa [World.drew] using this
    simp only [World.cell?, hblk]
    simpa using hj
  have hs : W.cell? ⟨w.heap.size, 0, none⟩ = some (.string s) := by
    have hblk : W.heap[w.heap.size]? = some (.cells #[.string s] 9) := by
      rw [hW]
      have h1 := heap_alloc_new w (.cells #[.string s] 9)
      have h2 := Below.heap_alloc (w.alloc (.cells #[.string s] 9)) (.cells #[.slice (some ⟨b, off, none⟩) k cap, .slice (some ⟨w.heap.size, 0, none⟩) 1 1, .slice (some A) (len - k) c2] 22) w.heap.size (by simp)
      exact h2.trans h1
    simp only [World.cell?, hblk]
    rfl
  rw [← hW]
  have hp : PView W (some ⟨w.heap.size + 1, 0, none⟩) 3 [L.take k, [s], L.drop k] := by
    refine ⟨w.heap.size + 1, 0, rfl, by omega, fun j hj => ?_⟩
    rw [Nat.zero_add]
    match j, hj with
    | 0, _ => exact ⟨_, _, _, hc 0 _ rfl, (hv.below b2).take hk, fun h => by simp at h⟩
    | 1, _ => exact ⟨_, _, _, hc 1 _ rfl, one_view (by omega) hs, fun h => by simp at h⟩
    | 2, _ => exact ⟨_, _, _, hc 2 _ rfl, (hv.below b2).drop hA, fun h => by simp at h⟩
  have hfl := ins_flat L s k
  have hlen : (ins L s k).length ≤ 100000 := by simp [ins, hv.1]; omega
  refine (join_any _ 3 3 _ W hp (by omega) (by rw [hfl]; exact hlen)).mono ?_
  rintro e w' ⟨v, rfl, hh, hb⟩
  rw [hfl] at hh
  exact ⟨v, rfl, hh, b2.trans (hb.mono (by omega))⟩

theorem put_new (b off len cap k : Nat) (L : List ByteArray) (s : ByteArray) (w : World) (hv : SView w (some ⟨b, off, none⟩) len L) (hlc : len ≤ cap) (_hcm : cap ≤ maxLen) (hlen : len < 4096) (h0 : 0 < len) (hce : chE L = 0) (hat : ∀ w : World, SView w (some ⟨b, off, none⟩) len L → Calls Try.prog 28 #[.slice (some ⟨b, off, none⟩) len cap, .string s] w fun e w' => e = .returned (.tuple #[.int .i64 (k : Int), .bool false]) ∧ w = w') (hk : k ≤ len) :
    Calls Try.prog 19 #[.slice (some ⟨b, off, none⟩) len cap, .string s] w fun e w' => ∃ v, e = .returned (.tuple #[v, .int .i64 0]) ∧ Holds w' v (ins L s k) ∧ Below w.heap.size w w' := by
  have HV := Lib.hid hv
  have HE := Lib.hid hce
  have HA := Lib.hid hat
  skip
  have hne : ((len : Int) == 4096) = false := by simp; omega
  clear hv hce hat
  go_enter Try.func19, Try.ntmps19
  go_wp2_with fail
  refine (check_any _ len cap L _ HV.out).mono ?_
  rintro e w1 ⟨rfl, b1⟩
  rw [HE.out]
  go_wp2_with fail
  refine (HA.out _ (HV.out.below b1)).mono ?_
  rintro e w2 ⟨rfl, rfl⟩
  have B1 := Lib.hid b1
  clear b1
  have hkc : k ≤ cap := by omega
  obtain ⟨A, hA, hAk⟩ : ∃ A : Addr, (if cap = k then some (⟨b, off, none⟩ : Addr) else some ⟨b, off + k, none⟩) = some A ∧ Hid (k < len → A = ⟨b, off + k, none⟩) := by
    by_cases h : cap = k
    · exact ⟨⟨b, off, none⟩, by rw [if_pos h], fun h' => by omega⟩
    · exact ⟨⟨b, off + k, none⟩, by rw [if_neg h], fun _ => rfl⟩
  have J := Lib.hid (join_call b off len cap (cap - k) k A L s w1 (HV.out.below B1.out) hAk.out hk (by omega))
  go_wp2_with fail
  go_region_with (go_at_call 29; refine J.out.mono ?_; rintro e w2 ⟨v, rfl, hh, b2⟩; have HH := Lib.hid hh; have B2 := Lib.hid b2; clear hh b2)
  all_goals (go_wp2_with fail)
  all_goals go_ret2
  all_goals exact ⟨_, rfl, Hid.out (by assumption), B1.out.trans ((Hid.out (by assumption : Hid (Below w1.heap.size w1 _))).mono B1.out.size)⟩
end Go.Proofs.Ytcnafgelfkfekaa

import Derived.Test.YtcnafgelfkfekaaE3
import Derived.Laws.AppendOwnNone
namespace Go.Proofs.Ytcnafgelfkfekaa
open Go.RowKit

theorem grow_any (n : Nat) (w : World) (hn : n ≤ 1000000) :
    Calls Try.prog 52 #[.slice none 0 0, .int .i64 n] w fun e w' => ∃ v, e = .returned v ∧ w'.ownsRow w.heap.size 9 1 v 0 [] ∧ Below w.heap.size w w' := by
  by_cases h0 : n = 0
  · subst h0
    go_enter Try.func52, Try.ntmps52
    go_wp2_with fail
    go_ret
    exact ⟨_, rfl, World.ownsRow_nil _ _ _ _, Below.refl _ _⟩
  · exact grow_nil n w (by omega) hn

theorem own_below {w w' : World} {B e size n : Nat} {v : Value} {xs : List Value} (h : w.ownsRow B e size v n xs) (hb : Below w.heap.size w w') : w'.ownsRow B e size v n xs := by
  refine ⟨h.1, ?_⟩
  rcases h.2 with hn | ⟨g, cap, cur, rfl, hg, hgg, rest⟩
  · exact .inl hn
  · exact .inr ⟨g, cap, cur, rfl, hg, by rw [hb.block g (Array.getElem?_eq_some_iff.1 hgg).1]; exact hgg, rest⟩

def part (PS : List (List ByteArray)) (k : Nat) : List ByteArray := PS.getD k []
/-- The strings of the first k parts. -/
def flat (PS : List (List ByteArray)) : Nat → List ByteArray
  | 0 => []
  | k + 1 => flat PS k ++ part PS k
theorem flat_mono (PS : List (List ByteArray)) {j : Nat} : ∀ k, j ≤ k → (flat PS j).length ≤ (flat PS k).length := by
  intro k
  induction k with
  | zero => intro h; obtain rfl : j = 0 := by omega
            exact Nat.le_refl _
  | succ k ih =>
    intro h
    by_cases e : j = k + 1
    · subst e; exact Nat.le_refl _
    · have := ih (by omega)
      simp only [flat, List.length_append]; omega
/-- A slice of slices of strings that can be read. -/
def PView (w : World) (a : Option Addr) (n : Nat) (PS : List (List ByteArray)) : Prop :=
  ∃ b off, a = some ⟨b, off, none⟩ ∧ b < w.heap.size ∧ ∀ k, k < n → ∃ ak lk ck, w.cell? ⟨b, off + k, none⟩ = some (.slice ak lk ck) ∧ SView w ak lk (part PS k) ∧ (ak = none → lk = 0 ∧ ck = 0)

theorem view_cells {w : World} {ad : Addr} {m : Nat} {L : List ByteArray} (h : SView w (some ad) m L) : ∀ j u, (L.map Value.string)[j]? = some u → w.cell? (ad.add j) = some u := by
  intro j u hj
  simp only [List.getElem?_map, Option.map_eq_some_iff] at hj
  obtain ⟨x, hx, rfl⟩ := hj
  have hlt := (List.getElem?_eq_some_iff.1 hx).1
  obtain ⟨b, off, he, _, hc⟩ := h.2 j (by rw [← h.1]; exact hlt)
  simp only [Option.some.injEq] at he
  subst he
  rw [Addr.add_lit, hc]
  simp [nth, List.getD, hx]

theorem concat_any (a : Option Addr) (n cap : Nat) (PS : List (List ByteArray)) (w : World) (hv : PView w a n PS) (hn : n ≤ 1000) (ht : (flat PS n).length ≤ 100000) :
    Calls Try.prog 40 #[.slice a n cap] w fun e w' => ∃ v, e = .returned v ∧ w'.ownsRow w.heap.size 9 1 v (flat PS n).length ((flat PS n).map Value.string) ∧ Below w.heap.size w w' := by
  obtain ⟨i0, hi, hz0, hz1, hz2⟩ := info_parts info9
  obtain ⟨b, off, rfl, hxb, hc⟩ := hv
  have HC := Lib.hid hc
  have HM := Lib.hid (fun j (h : j ≤ n) => flat_mono PS n h)
  have HT := Lib.hid ht
  clear hc ht
  go_enter Try.func40, Try.ntmps40
  go_wp2_with fail
  go_loopw [3, 11] (fun z i wr => ∃ k : Nat, k ≤ n ∧ i = .int .i64 k ∧ z = .int .i64 ((flat PS k).length : Nat) ∧ w = wr) (fun _ i _ => n - (intOf i).toNat)
  case atStart => exact ⟨0, by omega, rfl, rfl, rfl⟩
  case round =>
    obtain ⟨k, hk, rfl, rfl, rfl⟩ := hrel
    by_cases hlt : k < n
    · obtain ⟨ak, lk, ck, hcell, hsv, _⟩ := HC.out k hlt
      have hl : (flat PS k).length + lk = (flat PS (k + 1)).length := by rw [← hsv.1]; simp [flat]
      have hm := HM.out (k + 1) (by omega)
      have hT := HT.out
      obtain ⟨z1, hz1'⟩ : ∃ z, z = (flat PS k).length := ⟨_, rfl⟩
      obtain ⟨z2, hz2'⟩ : ∃ z, z = (flat PS (k + 1)).length := ⟨_, rfl⟩
      rw [← hz1', ← hz2'] at hl
      rw [← hz1']
      have hb2 : z2 ≤ 100000 := by omega
      have HZ2 := Lib.hid hz2'
      clear hsv hm hT hz1' hz2'
      go_wp2_with fail
      go_roundw
      case rel => exact ⟨k + 1, by omega, by go_num, by rw [← HZ2.out, ← hl]; go_num, trivial⟩
      case measure => simp [intOf]; omega
    · obtain rfl : k = n := by omega
      have hT := HT.out
      obtain ⟨z1, hz1'⟩ : ∃ z, z = (flat PS k).length := ⟨_, rfl⟩
      rw [← hz1'] at hT ⊢
      have HZ1 := Lib.hid hz1'
      clear hz1'
      go_wp2_with fail
      refine (grow_any z1 _ (by omega)).mono ?_
      rintro e w1 ⟨v1, rfl, ho1, b1⟩
      have HO1 := Lib.hid ho1
      have HB1 := Lib.hid b1
      clear ho1 b1
      go_wp2_with fail
      go_loopw [6, 27] (fun v i wr => ∃ j : Nat, j ≤ k ∧ i = .int .i64 j ∧ wr.ownsRow w.heap.size 9 1 v (flat PS j).length ((flat PS j).map Value.string) ∧ Below w.heap.size w wr) (fun _ i _ => k - (intOf i).toNat)
      case atStart => exact ⟨0, by omega, rfl, HO1.out, HB1.out⟩
      case round =>
        obtain ⟨j, hj, rfl, hown, hb⟩ := hrel
        by_cases hlt2 : j < k
        · obtain ⟨ak, lk, ck, hcell0, hsv0, hnil⟩ := HC.out j hlt2
          have hcell := (hb.cell (p := ⟨b, off + j, none⟩) hxb).trans hcell0
          have hsv := hsv0.below hb
          have hm := HM.out (j + 1) (by omega)
          have hT := HT.out
          have hfl : (flat PS (j + 1)).length = (flat PS j).length + lk := by rw [← hsv.1]; simp [flat]
          have HO := Lib.hid hown
          have HB := Lib.hid hb
          have hsz := hb.size
          have hbnd : (flat PS j).length + lk ≤ 100000 := by omega
          cases ak with
          | none =>
            obtain ⟨rfl, rfl⟩ := hnil rfl
            have hpe : Hid (flat PS (j + 1) = flat PS j) := Lib.hid (by
              have : part PS j = [] := List.length_eq_zero_iff.1 hsv.1
              simp [flat, this])
            clear hown hb hcell0 hsv0 hsv hnil hm hT hfl hbnd
            go_wp2_with (at_builtin; refine wpList_append_own_none rfl _ _ 22 rfl w.heap.size 9 i0 1 Try.underlying22 hi _ _ _ rfl HO.out rfl ?_)
            go_roundw
            case rel => exact ⟨j + 1, by omega, by go_num, by rw [hpe.out]; exact HO.out, HB.out⟩
            case measure => simp [intOf]; omega
          | some ad =>
            have HV := Lib.hid (view_cells hsv)
            have HL : Hid ((part PS j).length = lk) := hsv.1
            have HF : Hid (flat PS (j + 1) = flat PS j ++ part PS j) := Lib.hid rfl
            have HFL := Lib.hid hfl
            have HBND := Lib.hid hbnd
            clear hown hb hcell0 hsv0 hsv hnil hm hT hfl hbnd
            go_wp2_with (at_builtin; refine wpList_append_own _ rfl _ _ 22 rfl w.heap.size 9 i0 (.string ⟨#[]⟩) 1 16 Try.underlying22 hi hz0 hz1 hz2 rfl (by decide) _ _ _ rfl HO.out ad lk ck ((part PS j).map Value.string) rfl ?h1 HV.out ?h2 ?h3 ?h4 ?h5 ?_; rotate_right; intro v' w' ho hg _)
            case h1 => rw [List.length_map, HL.out, Nat.mul_one]
            case h2 => intro u hu; simp only [List.mem_map] at hu; obtain ⟨x, _, rfl⟩ := hu; rfl
            case h3 => have := HBND.out; unfold maxLen; omega
            case h4 => have := HBND.out; omega
            case h5 => exact hsz
            go_roundw
            case rel => exact ⟨j + 1, by omega, by go_num, by rw [HFL.out, HF.out, List.map_append]; exact ho, HB.out.grown hg hsz (fun q hq => (HO.out.lt q hq).1)⟩
            case measure => simp [intOf]; omega
        · obtain rfl : j = k := by omega
          have HO := Lib.hid hown
          have HB := Lib.hid hb
          clear hown hb
          go_wp2_with fail
          go_ret
          exact ⟨_, rfl, HO.out, HB.out⟩
end Go.Proofs.Ytcnafgelfkfekaa

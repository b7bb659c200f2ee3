import Derived.Test.YtepjehneembakaaE14
import Derived.Test.YtepjehneembakaaE17
namespace Go.Proofs.Ytepjehneembakaa
open Go.RowKit

def IsPts (s : ByteArray) (v : Value) : Prop := isTx s = true → ∃ a cap, v = .slice a (cntF s s.size 0) cap
theorem nx_at {s : ByteArray} {a : Nat} (h : a < s.size) : nxP s a = decP s a ∧ nxN s a = decN s a ∧ nxE s a = if decIs s a then 0 else 10 := by
  unfold nxP nxN nxE
  rw [if_pos (by omega), if_pos (by omega), if_pos (by omega), Int.toNat_natCast]
  exact ⟨rfl, rfl, rfl⟩
theorem own_slice {w : World} {B e size n : Nat} {v : Value} {xs : List Value} (h : w.ownsRow B e size v n xs) : ∃ a cap, v = .slice a n cap := by
  rcases h.2 with ⟨rfl, hn⟩ | ⟨g, cap, cur, rfl, _⟩
  · exact ⟨none, 0, by have := h.1; simp_all⟩
  · exact ⟨_, _, rfl⟩
theorem pts_end {v v' : Value} {g g' : Bool} (h : v = v') (k : g = g') : Ending.returned (.tuple #[v, .bool g]) = .returned (.tuple #[v', .bool g']) := by rw [h, k]
theorem rpoints_any (s : ByteArray) (w : World) (hs : s.size ≤ 1000000) :
    Calls Try.prog 30 #[.string s] w fun e w' => ∃ v, e = .returned (.tuple #[v, .bool (isTx s)]) ∧ IsPts s v ∧ Below w.heap.size w w' := by
  obtain ⟨i0, hi, hz0, hz1, hz2⟩ := info_parts info3
  go_enter Try.func30, Try.ntmps30
  go_wp2_with fail
  go_loopg [4, 5] s.size (fun f v i wr => ∃ (a n : Nat), s.size - a ≤ f ∧ a ≤ s.size ∧ n ≤ a ∧ i = .int .i64 a ∧ txF s f a = isTx s ∧ (isTx s = true → n + cntF s f a = cntF s s.size 0) ∧ (∃ xs, wr.ownsRow w.heap.size 3 1 v n xs) ∧ Below w.heap.size w wr)
  case atStart => exact ⟨0, 0, by omega, by omega, by omega, rfl, rfl, fun _ => by omega, ⟨_, World.ownsRow_nil _ _ _ _⟩, Below.refl _ _⟩
  case round =>
    obtain ⟨a, n, hf, ha, hna, rfl, htx, hcn, ⟨xs, hown⟩, hb⟩ := hrel
    by_cases hlt : a < s.size
    · have hlt' : (a : Int) < (s.size : Int) := by omega
      rw [txF_step hlt hf] at htx
      rw [cntF_step hlt hf] at hcn
      have hnx := nx_at hlt
      have hsz := hb.size
      have HO := Lib.hid hown
      have HB := Lib.hid hb
      cases hd : decIs s a
      · rw [hd] at htx hnx
        simp at htx hnx
        have HT := Lib.hid htx
        have HE := Lib.hid hnx.2.2
        clear hown hb htx hcn hnx hd
        go_wp2_with fail
        refine (rnext_any s a _ hs).mono ?_
        rintro e w1 ⟨rfl, b1⟩
        rw [HE.out]
        have HB1 := Lib.hid (HB.out.trans (b1.mono HB.out.size))
        clear b1
        go_wp2_with fail
        go_ret2
        exact ⟨_, pts_end rfl HT.out.symm, (fun h => by rw [HT.out] at h; cases h), HB1.out⟩
      · have h0 := (decIs_lead hd).1
        have hin := dec_in hlt hd
        rw [hd] at htx hnx
        have hdn := decN_eq s a
        rw [hd] at hdn
        simp at hdn
        simp only [Bool.true_and] at htx
        have h4 := leadN_le (byt s a)
        have hn2 : nxN s a = leadN (byt s a) := by rw [hnx.2.1, hdn.1]
        have HE : Hid (nxE s a = 0) := Lib.hid (by rw [hnx.2.2]; rfl)
        obtain ⟨z, hz⟩ : ∃ z, z = leadN (byt s a) := ⟨_, rfl⟩
        rw [← hz] at h0 hin htx hcn hn2 h4
        obtain ⟨p, hp⟩ : ∃ p, p = nxP s a := ⟨_, rfl⟩
        have HP := Lib.hid hp
        have HN := Lib.hid hn2
        have HT := Lib.hid htx
        have HC := Lib.hid hcn
        have hxs : Hid (n + 1 ≤ 1000000) := Lib.hid (by omega)
        clear hown hb htx hcn hnx hd hdn hn2 hz hp
        go_wp2_with fail
        refine (rnext_any s a _ hs).mono ?_
        rintro e w1 ⟨rfl, b1⟩
        rw [HE.out, HN.out, ← HP.out]
        have HB1 := Lib.hid (HB.out.trans (b1.mono HB.out.size))
        have HO1 := Lib.hid (own_below HO.out b1)
        have hsz1 : Hid (w.heap.size ≤ w1.heap.size + 1) := Lib.hid (by have := HB1.out.size; omega)
        clear b1
        go_wp2_with (at_builtin; refine wpList_append_own _ rfl _ _ 27 rfl w.heap.size 3 i0 (.int .i64 0) 1 8 Try.underlying27 hi hz0 hz1 hz2 rfl (by decide) _ n xs rfl (HO1.out.alloc _) ⟨w1.heap.size, 0, none⟩ 1 1 [.int .i64 p] rfl rfl (cell_news _ _ _ _ rfl) (by intro u hu; simp at hu; subst hu; rfl) (by have := hxs.out; unfold maxLen; omega) (by have := hxs.out; omega) (by have := hsz1.out; simpa using this) ?_; intro v' w2 ho hg _)
        go_roundg (gk - 1)
        case rel =>
          have hC := HC.out
          refine ⟨a + z, n + 1, by omega, hin, by omega, by go_num, HT.out, fun h => by have := hC h; omega, ⟨_, ho⟩, (HB1.out.alloc HB1.out.size _).grown hg ?_ ?_⟩
          · have := hsz1.out; simpa using this
          · intro q hq; exact (HO1.out.lt q hq).1
        case measure => omega
    · obtain rfl : a = s.size := by omega
      rw [txF_end (Nat.le_refl _)] at htx
      rw [cntF_end (Nat.le_refl _)] at hcn
      obtain ⟨ad, cap, rfl⟩ := own_slice hown
      have HT := Lib.hid htx
      have HC := Lib.hid hcn
      have HB := Lib.hid hb
      clear htx hcn hb hown
      go_wp2_with fail
      go_ret2
      refine ⟨_, pts_end rfl HT.out, fun h => ⟨ad, cap, ?_⟩, HB.out⟩
      have := HC.out h
      rw [← this]; rfl
end Go.Proofs.Ytepjehneembakaa

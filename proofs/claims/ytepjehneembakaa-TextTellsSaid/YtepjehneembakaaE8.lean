import Derived.Test.YtepjehneembakaaE7
namespace Go.Proofs.Ytepjehneembakaa
open Go.RowKit

theorem ret_si {a b : ByteArray} {c d : Int} (h : a = b) (g : c = d) : Ending.returned (.tuple #[.string a, .int .i64 c]) = .returned (.tuple #[.string b, .int .i64 d]) := by rw [h, g]
/-- A slice of Ints that can be read. -/
def View (w : World) (a : Option Addr) (len : Nat) (L : List Int) : Prop :=
  L.length = len ∧ ∀ k, k < len → ∃ b off, a = some ⟨b, off, none⟩ ∧ b < w.heap.size ∧ w.cell? ⟨b, off + k, none⟩ = some (.int .i64 (L.getD k 0))
theorem put_any (a : Option Addr) (len cap : Nat) (L : List Int) (w : World) (hv : View w a len L) (hm : len ≤ maxLen) :
    Calls Try.prog 10 #[.slice a len cap] w fun e w' => e = .returned (.tuple #[.string (putS L), .int .i64 (putE L)]) ∧ Below w.heap.size w w' := by
  unfold maxLen at hm
  obtain ⟨hL, hc⟩ := hv
  by_cases h1 : 16384 < len
  · have hp := Lib.hid (put_many (L := L) (by omega))
    go_enter Try.func10, Try.ntmps10
    go_wp2_with fail
    go_ret2
    exact ⟨ret_si hp.out.2.symm hp.out.1.symm, Below.refl _ _⟩
  by_cases hz : len = 0
  · subst hz
    have hE : encs L L.length = [] := by rw [hL]; rfl
    have HG := Lib.hid (put_good (L := L) (by omega) (by rw [hL]; rfl))
    have hcv := conv_own (L := []) (World.ownsRow_nil w w.heap.size 5 1) (fun x hx => by simp at hx)
    clear hc hL
    go_enter Try.func10, Try.ntmps10
    go_wp2_with fail
    refine wp_loop_rounds 1 ?_
    rw [rounds_succ]
    go_wp2_with fail
    go_ret2
    exact ⟨ret_si (by rw [HG.out.2, hE]) HG.out.1.symm, Below.refl _ _⟩
  · obtain ⟨b, off, rfl, hxb, _⟩ := hc 0 (by omega)
    have HC : Hid (∀ k, k < len → w.cell? ⟨b, off + k, none⟩ = some (.int .i64 (L.getD k 0))) := Lib.hid (fun k hk => by
      obtain ⟨b', off', he, _, hx⟩ := hc k hk
      simp only [Option.some.injEq, Addr.mk.injEq, and_true] at he
      obtain ⟨rfl, rfl⟩ := he
      exact hx)
    have HP := Lib.hid (put_bad (L := L) (by omega))
    have HG := Lib.hid (put_good (L := L) (by omega))
    have HL := Lib.hid hL
    clear hc hL
    go_enter Try.func10, Try.ntmps10
    go_wp2_with fail
    go_loopw [4, 12] (fun v i wr => ∃ k : Nat, k ≤ len ∧ i = .int .i64 k ∧ allPt L k = true ∧ wr.ownsRow w.heap.size 5 1 v (encs L k).length ((encs L k).map (Value.int .u8)) ∧ Below w.heap.size w wr) (fun _ i _ => len - (intOf i).toNat)
    case atStart => exact ⟨0, by omega, rfl, rfl, World.ownsRow_nil _ _ _ _, Below.refl _ _⟩
    case round =>
      obtain ⟨k, hk, rfl, ha, hown, hb⟩ := hrel
      by_cases hlt : k < len
      · have hcx := (hb.cell (p := ⟨b, off + k, none⟩) hxb).trans (HC.out k hlt)
        obtain ⟨p, hp⟩ : ∃ p, p = L.getD k 0 := ⟨_, rfl⟩
        rw [← hp] at hcx
        have HK : Hid (p = L.getD k 0) := hp
        clear hp
        by_cases hpt : isPt p = true
        · have HA : Hid (allPt L (k + 1) = true) := Lib.hid (by simp only [allPt, ha, Bool.true_and, ← HK.out]; exact hpt)
          have hr := isPt_range hpt
          have HPT := Lib.hid hpt
          have hle := encs_len L k
          have HO := Lib.hid hown
          have HB := Lib.hid hb
          have hsz := hb.size
          clear hb hown ha hpt
          go_wp2_with fail
          refine (isPoint_any p _).mono ?_
          rintro e w1 ⟨rfl, rfl⟩
          rw [HPT.out]
          go_wp2_with fail
          refine (encode_any p w.heap.size _ _ _ _ hr.1 hr.2 HO.out hsz (by omega)).mono ?_
          rintro e w1 ⟨v', rfl, ho, b1⟩
          go_wp2_with fail
          go_roundw
          case rel => exact ⟨k + 1, by omega, by go_num, HA.out, by simp only [encs, ← HK.out, List.length_append, List.map_append]; exact ho, HB.out.trans b1⟩
          case measure => simp [intOf]; omega
        · have HA : Hid (allPt L L.length = false) := Lib.hid (by
            cases hh : allPt L L.length
            · rfl
            · have := allPt_le (j := k + 1) (by rw [HL.out]; omega) hh
              simp only [allPt, Bool.and_eq_true] at this
              rw [HK.out] at hpt
              exact absurd this.2 hpt)
          have hpf : isPt p = false := by simpa using hpt
          have HPT := Lib.hid hpf
          have HB := Lib.hid hb
          clear hb hown ha hpt hpf
          go_wp2_with fail
          refine (isPoint_any p _).mono ?_
          rintro e w1 ⟨rfl, rfl⟩
          rw [HPT.out]
          go_wp2_with fail
          go_ret2
          have := HP.out HA.out
          exact ⟨ret_si this.2.symm this.1.symm, HB.out⟩
      · obtain rfl : k = len := by omega
        have hcv := conv_own hown (encs_range L k ha)
        have HA := Lib.hid ha
        have HB := Lib.hid hb
        clear ha hb hown
        go_wp2_with fail
        go_ret2
        have := HG.out (by rw [HL.out]; exact HA.out)
        exact ⟨ret_si (by rw [this.2, HL.out]) this.1.symm, HB.out⟩
end Go.Proofs.Ytepjehneembakaa

import Derived.Test.YtepjehneembakaaE12
import Derived.BigQuiet
import Derived.Deep.QuietTactic
namespace Go.Proofs.Ytepjehneembakaa
open Go.RowKit

theorem rput_any (a : Option Addr) (len cap : Nat) (L : List Int) (w : World) (hv : View w a len L) (hm : len ≤ maxLen) :
    Calls Try.prog 22 #[.slice a len cap] w fun e w' => e = .returned (.tuple #[.string (putS L), .int .i64 (putE L)]) ∧ Below w.heap.size w w' := by
  unfold maxLen at hm
  have HV := Lib.hid hv
  obtain ⟨hL, hc⟩ := hv
  by_cases h1 : 16384 < len
  · have hp := Lib.hid (put_many (L := L) (by omega))
    clear hc hL
    go_enter Try.func22, Try.ntmps22
    go_wp2_with fail
    go_ret2
    exact ⟨ret_si hp.out.2.symm hp.out.1.symm, Below.refl _ _⟩
  have HP := Lib.hid (put_bad (L := L) (by omega))
  have HG := Lib.hid (put_good (L := L) (by omega))
  have HL := Lib.hid hL
  by_cases hz : len = 0
  · subst hz
    have HR := Lib.hid (HG.out (by rw [hL]; rfl))
    clear hc hL
    go_enter Try.func22, Try.ntmps22
    go_wp2_with fail
    refine wp_loop_rounds 1 ?_
    rw [rounds_succ]
    go_wp2_with fail
    refine (rtext_any a 0 cap L _ HV.out (by omega) rfl).mono ?_
    rintro e w1 ⟨rfl, b1⟩
    have HB := Lib.hid b1
    clear b1
    go_wp2_with fail
    go_ret2
    exact ⟨ret_si (by rw [HR.out.2, HL.out]) HR.out.1.symm, HB.out⟩
  · obtain ⟨b, off, rfl, hxb, _⟩ := hc 0 (by omega)
    have HC : Hid (∀ k, k < len → w.cell? ⟨b, off + k, none⟩ = some (.int .i64 (L.getD k 0))) := Lib.hid (fun k hk => by
      obtain ⟨b', off', he, _, hx⟩ := hc k hk
      simp only [Option.some.injEq, Addr.mk.injEq, and_true] at he
      obtain ⟨rfl, rfl⟩ := he
      exact hx)
    clear hc hL
    go_enter Try.func22, Try.ntmps22
    go_wp2_with fail
    go_loopw [4] (fun i wr => ∃ k : Nat, k ≤ len ∧ i = .int .i64 k ∧ allPt L k = true ∧ w = wr) (fun i _ => len - (intOf i).toNat)
    case atStart => exact ⟨0, by omega, rfl, rfl, rfl⟩
    case round =>
      obtain ⟨k, hk, rfl, ha, rfl⟩ := hrel
      by_cases hlt : k < len
      · have hcx := HC.out k hlt
        obtain ⟨p, hp⟩ : ∃ p, p = L.getD k 0 := ⟨_, rfl⟩
        rw [← hp] at hcx
        have HK : Hid (p = L.getD k 0) := hp
        clear hp
        by_cases hpt : isPt p = true
        · have HA : Hid (allPt L (k + 1) = true) := Lib.hid (by simp only [allPt, ha, Bool.true_and, ← HK.out]; exact hpt)
          have HPT := Lib.hid hpt
          clear ha hpt
          go_wp2_with fail
          refine (is_any p _).mono ?_
          rintro e w1 ⟨rfl, rfl⟩
          rw [HPT.out]
          go_wp2_with fail
          go_roundw
          case rel => exact ⟨k + 1, by omega, by go_num, HA.out, trivial⟩
          case measure => simp [intOf]; omega
        · have HA : Hid (allPt L L.length = false) := Lib.hid (by
            cases hh : allPt L L.length
            · rfl
            · have := allPt_at (k := k) (by rw [HL.out]; exact hlt) hh
              rw [← HK.out] at this
              exact absurd this hpt)
          have hpf : isPt p = false := by simpa using hpt
          have HPT := Lib.hid hpf
          clear ha hpt hpf
          go_wp2_with fail
          refine (is_any p _).mono ?_
          rintro e w1 ⟨rfl, rfl⟩
          rw [HPT.out]
          go_wp2_with fail
          go_ret2
          have := HP.out HA.out
          exact ⟨ret_si this.2.symm this.1.symm, Below.refl _ _⟩
      · obtain rfl : k = len := by omega
        have HA := Lib.hid ha
        clear ha
        have HR := Lib.hid (HG.out (by rw [HL.out]; exact HA.out))
        go_wp2_with fail
        refine (rtext_any _ k cap L _ HV.out (by omega) HA.out).mono ?_
        rintro e w1 ⟨rfl, b1⟩
        have HB := Lib.hid b1
        clear b1
        go_wp2_with fail
        go_ret2
        exact ⟨ret_si (by rw [HR.out.2, HL.out]) HR.out.1.symm, HB.out⟩
end Go.Proofs.Ytepjehneembakaa

import Derived.Test.YtepjehneembakaaE9
namespace Go.Proofs.Ytepjehneembakaa
open Go.RowKit

def IsRow (k : IntKind) (w : World) (a : Option Addr) (len cap : Nat) (zs : List Int) : Prop :=
  (a = none ∧ len = 0 ∧ cap = 0 ∧ zs = []) ∨
  ∃ x, a = some x ∧ len ≤ cap ∧ cap ≤ maxLen ∧ zs.length = cap ∧ (∀ i, i < zs.length → w.cell? (x.add i) = some (.int k (zs.getD i 0))) ∧ ∀ n ∈ zs, (Lit.int k n).wf = true

theorem View.below {w w' : World} {a : Option Addr} {len : Nat} {L : List Int} (h : View w a len L) (hb : Below w.heap.size w w') : View w' a len L := by
  refine ⟨h.1, fun k hk => ?_⟩
  obtain ⟨b, off, he, hlt, hx⟩ := h.2 k hk
  exact ⟨b, off, he, Nat.lt_of_lt_of_le hlt hb.size, (hb.cell (p := ⟨b, off + k, none⟩) hlt).trans hx⟩

set_option maxHeartbeats 1000000 in
theorem there0 (a : Option Addr) (len cap : Nat) (L : List Int) (w : World) (hv : View w a len L) (hm : len ≤ maxLen) :
    Calls Try.prog 6 #[.slice a len cap] w fun e w' => e = .returned (.bool true) ∧ Below w.heap.size w w' := by
  have hm0 := hm
  unfold maxLen at hm
  by_cases h1 : 1000 < len
  · go_enter Try.func6, Try.ntmps6
    go_wp2_with fail
    refine (alive_true _).mono ?_
    rintro e w1 ⟨rfl, b1⟩
    go_wp2_with fail
    go_ret
    exact ⟨rfl, b1⟩
  have HV := Lib.hid hv
  have HM := Lib.hid hm0
  obtain ⟨hL, hc⟩ := hv
  by_cases hz : allPt L L.length = true
  · have HG := Lib.hid (put_good (L := L) (by omega) hz)
    have HCK := Lib.hid (ck_encs (L := L) hz (by omega))
    have HT := Lib.hid (fun k => there_at (L := L) (k := k) hz)
    have hsz := mkB_size (encs L L.length)
    have hle := encs_len L L.length
    have hsm : (mkB (encs L L.length)).size ≤ 4000 := by omega
    have HSZ := Lib.hid hsz
    have HL := Lib.hid hL
    by_cases h0 : len = 0
    · subst h0
      have hs0 : (mkB (encs L L.length)).size = 0 := by rw [hsz, hL]; rfl
      obtain ⟨S, hS⟩ : ∃ S, S = mkB (encs L L.length) := ⟨_, rfl⟩
      have HF : Hid (putE L = 0 ∧ putS L = S ∧ ckE S = 0 ∧ cntN S = 0) := Lib.hid ⟨HG.out.1, by rw [hS]; exact HG.out.2, by rw [hS]; exact HCK.out.1, by rw [hS, HCK.out.2, hL]; rfl⟩
      rw [← hS] at hs0
      clear hz hsz hle hc hL HG HCK HT hsm HSZ HL hS
      go_enter Try.func6, Try.ntmps6
      go_wp2_with fail
      refine (alive_true _).mono ?_
      rintro e w1 ⟨rfl, b1⟩
      go_wp2_with fail
      refine (put_any a 0 cap L _ (HV.out.below b1) HM.out).mono ?_
      rintro e w2 ⟨rfl, b2⟩
      rw [HF.out.1, HF.out.2.1]
      go_wp2_with fail
      refine (count_any _ _ (by unfold maxLen; omega)).mono ?_
      rintro e w3 ⟨rfl, b3⟩
      rw [HF.out.2.2.1, HF.out.2.2.2]
      go_wp2_with fail
      refine wp_loop_rounds 1 ?_
      rw [rounds_succ]
      go_wp2_with fail
      go_ret
      exact ⟨rfl, (b1.trans (b2.mono b1.size)).trans (b3.mono (Nat.le_trans b1.size b2.size))⟩
    · obtain ⟨b, off, rfl, hxb, _⟩ := hc 0 (by omega)
      have HC : Hid (∀ k, k < len → w.cell? ⟨b, off + k, none⟩ = some (.int .i64 (L.getD k 0))) := Lib.hid (fun k hk => by
        obtain ⟨b', off', he, _, hx⟩ := hc k hk
        simp only [Option.some.injEq, Addr.mk.injEq, and_true] at he
        obtain ⟨rfl, rfl⟩ := he
        exact hx)
      obtain ⟨S, hS⟩ : ∃ S, S = mkB (encs L L.length) := ⟨_, rfl⟩
      have HF : Hid (putE L = 0 ∧ putS L = S ∧ ckE S = 0 ∧ cntN S = len) := Lib.hid ⟨HG.out.1, by rw [hS]; exact HG.out.2, by rw [hS]; exact HCK.out.1, by rw [hS, HCK.out.2, hL]⟩
      have HEND : Hid ((encs L len).length = S.size) := Lib.hid (by rw [hS, hsz, hL])
      have HTS : Hid (∀ k, k < len → nxE S ((encs L k).length : Nat) = 0 ∧ nxP S ((encs L k).length : Nat) = L.getD k 0 ∧ ((encs L k).length : Int) + nxN S ((encs L k).length : Nat) = ((encs L (k + 1)).length : Nat) ∧
        bkE S ((encs L (k + 1)).length : Nat) = 0 ∧ bkP S ((encs L (k + 1)).length : Nat) = L.getD k 0 ∧ bkN S ((encs L (k + 1)).length : Nat) = nxN S ((encs L k).length : Nat)) := Lib.hid (fun k hk => by rw [hS]; exact HT.out k (by omega))
      rw [← hS] at hsm
      clear hz hsz hle hc hL HG HCK HT HSZ HL hS
      go_enter Try.func6, Try.ntmps6
      go_wp2_with fail
      refine (alive_true _).mono ?_
      rintro e w1 ⟨rfl, b1⟩
      go_wp2_with fail
      refine (put_any _ len cap L _ (HV.out.below b1) HM.out).mono ?_
      rintro e w2 ⟨rfl, b2⟩
      rw [HF.out.1, HF.out.2.1]
      go_wp2_with fail
      refine (count_any _ _ (by unfold maxLen; omega)).mono ?_
      rintro e w3 ⟨rfl, b3⟩
      rw [HF.out.2.2.1, HF.out.2.2.2]
      have hb123 := (b1.trans (b2.mono b1.size)).trans (b3.mono (Nat.le_trans b1.size b2.size))
      have HB123 := Lib.hid hb123
      clear hb123 b1 b2 b3
      go_wp2_with fail
      go_loopw [8, 9] (fun at_ i wr => ∃ k : Nat, k ≤ len ∧ i = .int .i64 k ∧ at_ = .int .i64 ((encs L k).length : Nat) ∧ Below w.heap.size w wr) (fun _ i _ => len - (intOf i).toNat)
      case atStart => exact ⟨0, by omega, rfl, rfl, HB123.out⟩
      case round =>
        obtain ⟨k, hk, rfl, rfl, hb⟩ := hrel
        by_cases hlt : k < len
        · have hcx := (hb.cell (p := ⟨b, off + k, none⟩) hxb).trans (HC.out k hlt)
          have ht := HTS.out k hlt
          obtain ⟨p, hp⟩ : ∃ p, p = L.getD k 0 := ⟨_, rfl⟩
          obtain ⟨z, hz⟩ : ∃ z, z = nxN S ((encs L k).length : Nat) := ⟨_, rfl⟩
          rw [← hp] at hcx
          have hsum : ((encs L k).length : Int) + z = ((encs L (k + 1)).length : Nat) := by rw [hz]; exact ht.2.2.1
          have hF : nxP S ((encs L k).length : Nat) = p ∧ nxN S ((encs L k).length : Nat) = z ∧ nxE S ((encs L k).length : Nat) = 0 ∧ bkP S ((encs L (k + 1)).length : Nat) = p ∧ bkN S ((encs L (k + 1)).length : Nat) = z ∧ bkE S ((encs L (k + 1)).length : Nat) = 0 :=
            ⟨ht.2.1.trans hp.symm, hz.symm, ht.1, ht.2.2.2.2.1.trans hp.symm, ht.2.2.2.2.2.trans hz.symm, ht.2.2.2.1⟩
          have HFF := Lib.hid hF
          have HSUM := Lib.hid hsum
          have l1 := encs_len L k
          have l2 := encs_len L (k + 1)
          have HB := Lib.hid hb
          clear ht hp hz hF hsum hb
          go_wp2_with fail
          refine (next_any S _ _ (by unfold maxLen; omega)).mono ?_
          rintro e w4 ⟨rfl, b4⟩
          rw [HFF.out.1, HFF.out.2.1, HFF.out.2.2.1]
          have hcx4 := (b4.cell (p := ⟨b, off + k, none⟩) (Nat.lt_of_lt_of_le hxb HB.out.size)).trans hcx
          have hwr : IntKind.i64.wrap (((encs L k).length : Int) + z) = ((encs L (k + 1)).length : Nat) := by rw [HSUM.out, IntKind.wrap_i64]; omega
          go_wp2_with fail
          refine (back_any S _ _ (by unfold maxLen; omega)).mono ?_
          rintro e w5 ⟨rfl, b5⟩
          rw [HFF.out.2.2.2.1, HFF.out.2.2.2.2.1, HFF.out.2.2.2.2.2]
          have hcx5 := (b5.cell (p := ⟨b, off + k, none⟩) (Nat.lt_of_lt_of_le hxb (Nat.le_trans HB.out.size b4.size))).trans hcx4
          go_wp2_with fail
          go_roundw
          case rel => exact ⟨k + 1, by omega, by go_num, rfl, (HB.out.trans (b4.mono HB.out.size)).trans (b5.mono (Nat.le_trans HB.out.size b4.size))⟩
          case measure => simp [intOf]; omega
        · obtain rfl : k = len := by omega
          have he := HEND.out
          have HB := Lib.hid hb
          clear hb
          go_wp2_with fail
          go_ret
          exact ⟨rfl, HB.out⟩
  · have hz' : allPt L L.length = false := by simpa using hz
    have HG := Lib.hid (put_bad (L := L) (by omega) hz')
    clear hz hz' hc hL
    go_enter Try.func6, Try.ntmps6
    go_wp2_with fail
    refine (alive_true _).mono ?_
    rintro e w1 ⟨rfl, b1⟩
    go_wp2_with fail
    refine (put_any a len cap L _ (HV.out.below b1) HM.out).mono ?_
    rintro e w2 ⟨rfl, b2⟩
    rw [HG.out.1, HG.out.2]
    go_wp2_with fail
    go_ret
    exact ⟨rfl, b1.trans (b2.mono b1.size)⟩

theorem view_of_row {w : World} {a : Option Addr} {len cap : Nat} {z : List Int} (h : IsRow .i64 w a len cap z) : View w a len (z.take len) ∧ len ≤ maxLen := by
  rcases h with ⟨rfl, rfl, rfl, rfl⟩ | ⟨x, rfl, hl, hm, hz, hc, _⟩
  · exact ⟨⟨rfl, fun k hk => by omega⟩, by unfold maxLen; omega⟩
  · refine ⟨⟨by simp; omega, fun k hk => ?_⟩, by omega⟩
    obtain ⟨b, off, spot⟩ := x
    have h0 := hc 0 (by omega)
    have hspot : spot = none := by simpa [Addr.add] using World.cell?_spot h0
    subst hspot
    have hk' := hc k (by omega)
    rw [Addr.add_lit] at hk'
    refine ⟨b, off, rfl, World.block_lt_of_cell? _ _ hk', ?_⟩
    rw [hk']
    simp [List.getD, hk]
theorem there_walk (a : Option Addr) (len cap : Nat) (z : List Int) (w : World) (h : IsRow .i64 w a len cap z) :
    Calls Try.prog 6 #[.slice a len cap] w fun e w' => e = .returned (.bool true) ∧ Below w.heap.size w w' :=
  there0 a len cap (z.take len) w (view_of_row h).1 (view_of_row h).2
end Go.Proofs.Ytepjehneembakaa

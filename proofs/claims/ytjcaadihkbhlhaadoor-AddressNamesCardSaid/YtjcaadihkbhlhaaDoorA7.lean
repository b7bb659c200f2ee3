import Derived.Test.YtjcaadihkbhlhaaDoorA6
namespace Go.Proofs.YtjcaadihkbhlhaaDoor
open Go.RowKit
def OfAt (w : World) (a0 a1 a2 a3 : Int) (s : ByteArray) (may : UInt8 → Bool) (v : Value) (W : World) : Prop := ∃ i : Nat, i ≤ s.size ∧ v = .int .i64 i ∧ IP w a0 a1 a2 a3 W ∧ ofP may (s.data.toList.drop i) = ofP may s.data.toList
set_option maxRecDepth 20000 in
set_option maxHeartbeats 1000000 in
theorem isOf_any (s : ByteArray) (L : List UInt8) (may : UInt8 → Bool) (hmay : ∀ b, L.contains b = may b) (hs : s.size ≤ 1000000) (w : World) :
    Calls Tryd.prog 36 #[.string s, setV L] w fun e w' => e = .returned (.bool (ofP may s.data.toList)) ∧ Below w.heap.size w w' := by
  have HC := Lib.hid (fun b w => has_any L b w)
  unfold setV setC at HC ⊢
  obtain ⟨a0, h0⟩ : ∃ a : Int, a = ((wd L 0 : Nat) : Int) := ⟨_, rfl⟩
  obtain ⟨a1, h1⟩ : ∃ a : Int, a = ((wd L 1 : Nat) : Int) := ⟨_, rfl⟩
  obtain ⟨a2, h2⟩ : ∃ a : Int, a = ((wd L 2 : Nat) : Int) := ⟨_, rfl⟩
  obtain ⟨a3, h3⟩ : ∃ a : Int, a = ((wd L 3 : Nat) : Int) := ⟨_, rfl⟩
  rw [← h0, ← h1, ← h2, ← h3] at HC ⊢
  clear h0 h1 h2 h3
  have P0 := Lib.hid (IP.new w a0 a1 a2 a3)
  have HMAY := Lib.hid hmay
  clear hmay
  go_enter Tryd.func36, Tryd.ntmps36
  go_wp2_with fail
  obtain ⟨w0, hw0⟩ : ∃ w0, w0 = w.alloc (.cells #[.int .u64 a0, .int .u64 a1, .int .u64 a2, .int .u64 a3] 60) := ⟨_, rfl⟩
  rw [← hw0] at P0 ⊢
  clear hw0
  go_loopw [5] (fun s5 wr => OfAt w a0 a1 a2 a3 s may s5 wr) (fun s5 _ => s.size - (intOf s5).toNat)
  case atStart => exact ⟨0, Nat.zero_le _, rfl, P0.out, by rw [List.drop_zero]⟩
  case round =>
    obtain ⟨i, hi, rfl, hip, hall⟩ := hrel
    have HP := Lib.hid hip
    have HA := Lib.hid hall
    clear hip hall
    by_cases hlt : i < s.size
    · have hlt' : (i : Int) < s.size := by omega
      have HAT := Lib.hid (ofP_at may s i hlt)
      obtain ⟨b, hb⟩ : ∃ b, b = s[i] := ⟨_, rfl⟩
      rw [← hb] at HAT
      have k0 : ∀ q : i < s.size, (s[i].toNat : Int) = (b.toNat : Nat) := fun q => by rw [hb]
      have CB : Hid (∀ W, IP w a0 a1 a2 a3 W → Calls Tryd.prog 49 #[.agg #[.int .u64 a0, .int .u64 a1, .int .u64 a2, .int .u64 a3], .int .u8 (b.toNat : Nat)] W fun e w' => e = .returned (.bool (may b)) ∧ IP w a0 a1 a2 a3 w') :=
        Lib.hid (fun W h => (HC.out b W).mono fun e w' z => ⟨by rw [z.1, HMAY.out b], h.up z.2⟩)
      have CE := Lib.hid (fun W => escaped_any s i hlt hs W)
      clear hb
      have hSS : IP w a0 a1 a2 a3 wr.drew := HP.out.up ((Below.refl _ _).drew)
      obtain ⟨g, hg⟩ : ∃ g, g = may b := ⟨_, rfl⟩
      rw [← hg] at CB HAT
      obtain ⟨z, hz⟩ : ∃ z, z = esc (s.data.toList.drop i) := ⟨_, rfl⟩
      have HZ := Lib.hid hz
      rw [← hz] at CE HAT
      clear hz
      clear hg
      unfold IP at hSS
      go_wp2_with fail
      go_region_held3 (fun w' => w'.cell? ⟨w.heap.size, 0, none⟩ = some (.int .u64 a0) ∧ w'.cell? ⟨w.heap.size, 1, none⟩ = some (.int .u64 a1) ∧ w'.cell? ⟨w.heap.size, 2, none⟩ = some (.int .u64 a2) ∧ w'.cell? ⟨w.heap.size, 3, none⟩ = some (.int .u64 a3) ∧ w.heap.size < w'.heap.size ∧ Below w.heap.size w w')
        ((first | exact hSS | assumption))
        (first | (go_at_call 49; refine (CB.out _ (by assumption)).mono ?_; rintro e w' ⟨rfl, hS2⟩; unfold IP at hS2))
      cases g with
      | true =>
        go_wp2_with fail
        go_roundw
        case rel => exact ⟨i + 1, by omega, by go_num, by assumption, by rw [← HA.out, HAT.out, if_pos rfl]⟩
        case measure => simp [intOf]; omega
      | false =>
        have HP2 : Hid (IP w a0 a1 a2 a3 w') := Lib.hid hS2
        clear hS2 hSS
        go_wp2_with fail
        refine (CE.out _).mono ?_
        rintro e w1 ⟨⟨x, hx0, hx1, rfl⟩, b1⟩
        have HP3 := Lib.hid (HP2.out.up b1)
        clear b1
        cases z with
        | true =>
          have HI := Lib.hid (esc_first hlt HZ.out.symm).2
          have hi3 := HI.out
          go_wp2_with fail
          go_roundw
          case rel => exact ⟨i + 3, by omega, by go_num, HP3.out, by rw [← HA.out, HAT.out]; rfl⟩
          case measure => simp [intOf]; omega
        | false =>
          go_wp2_with fail
          go_ret
          exact ⟨rbool (by rw [← HA.out, HAT.out]; rfl), HP3.out.2.2.2.2.2⟩
    · obtain rfl : i = s.size := by omega
      go_wp2_with fail
      go_ret
      exact ⟨rbool (by rw [← HA.out, drop_end, ofP_nil]), HP.out.2.2.2.2.2⟩
end Go.Proofs.YtjcaadihkbhlhaaDoor

import Derived.Test.YtjcaadihkbhlhaaDoorA5
namespace Go.Proofs.YtjcaadihkbhlhaaDoor
open Go.RowKit
/-- A set in its box. -/
def IP (w : World) (a0 a1 a2 a3 : Int) (w' : World) : Prop := w'.cell? ⟨w.heap.size, 0, none⟩ = some (.int .u64 a0) ∧ w'.cell? ⟨w.heap.size, 1, none⟩ = some (.int .u64 a1) ∧ w'.cell? ⟨w.heap.size, 2, none⟩ = some (.int .u64 a2) ∧ w'.cell? ⟨w.heap.size, 3, none⟩ = some (.int .u64 a3) ∧ w.heap.size < w'.heap.size ∧ Below w.heap.size w w'
theorem IP.up {w w1 w2 : World} {a0 a1 a2 a3 : Int} (h : IP w a0 a1 a2 a3 w1) (hb : Below w1.heap.size w1 w2) : IP w a0 a1 a2 a3 w2 := by
  obtain ⟨c0, c1, c2, c3, hs, h0⟩ := h
  exact ⟨(hb.cell (p := ⟨w.heap.size, 0, none⟩) hs).trans c0, (hb.cell (p := ⟨w.heap.size, 1, none⟩) hs).trans c1, (hb.cell (p := ⟨w.heap.size, 2, none⟩) hs).trans c2, (hb.cell (p := ⟨w.heap.size, 3, none⟩) hs).trans c3, Nat.lt_of_lt_of_le hs hb.size, h0.trans (hb.mono h0.size)⟩
theorem IP.new (w : World) (a0 a1 a2 a3 : Int) : IP w a0 a1 a2 a3 (w.alloc (.cells #[.int .u64 a0, .int .u64 a1, .int .u64 a2, .int .u64 a3] 60)) := by
  refine ⟨?_, ?_, ?_, ?_, by simp, (Below.refl _ w).alloc (Nat.le_refl _) _⟩
  · exact World.cell?_alloc_mark w _ _ _ 0
  · exact World.cell?_alloc_mark w _ _ _ 1
  · exact World.cell?_alloc_mark w _ _ _ 2
  · exact World.cell?_alloc_mark w _ _ _ 3
def PlainAt (w : World) (a0 a1 a2 a3 : Int) (s : ByteArray) (may : UInt8 → Bool) (v : Value) (W : World) : Prop := ∃ i : Nat, i ≤ s.size ∧ v = .int .i64 i ∧ IP w a0 a1 a2 a3 W ∧ (s.data.toList.drop i).all may = s.data.toList.all may
set_option maxRecDepth 20000 in
set_option maxHeartbeats 1000000 in
theorem isPlain_any (s : ByteArray) (L : List UInt8) (may : UInt8 → Bool) (hmay : ∀ b, L.contains b = may b) (hs : s.size ≤ 1000000) (w : World) :
    Calls Tryd.prog 38 #[.string s, setV L] w fun e w' => e = .returned (.bool (s.data.toList.all may)) ∧ Below w.heap.size w w' := by
  have HC := Lib.hid (fun b w => has_any L b w)
  unfold setV setC at HC ⊢
  obtain ⟨a0, h0⟩ : ∃ a : Int, a = ((wd L 0 : Nat) : Int) := ⟨_, rfl⟩
  obtain ⟨a1, h1⟩ : ∃ a : Int, a = ((wd L 1 : Nat) : Int) := ⟨_, rfl⟩
  obtain ⟨a2, h2⟩ : ∃ a : Int, a = ((wd L 2 : Nat) : Int) := ⟨_, rfl⟩
  obtain ⟨a3, h3⟩ : ∃ a : Int, a = ((wd L 3 : Nat) : Int) := ⟨_, rfl⟩
  rw [← h0, ← h1, ← h2, ← h3] at HC ⊢
  clear h0 h1 h2 h3
  have P0 := Lib.hid (IP.new w a0 a1 a2 a3)
  have HMAY := Lib.hid hmay
  clear hmay
  go_enter Tryd.func38, Tryd.ntmps38
  go_wp2_with fail
  obtain ⟨w0, hw0⟩ : ∃ w0, w0 = w.alloc (.cells #[.int .u64 a0, .int .u64 a1, .int .u64 a2, .int .u64 a3] 60) := ⟨_, rfl⟩
  rw [← hw0] at P0 ⊢
  clear hw0
  go_loopw [5] (fun s5 wr => PlainAt w a0 a1 a2 a3 s may s5 wr) (fun s5 _ => s.size - (intOf s5).toNat)
  case atStart => exact ⟨0, Nat.zero_le _, rfl, P0.out, by rw [List.drop_zero]⟩
  case round =>
    obtain ⟨i, hi, rfl, hip, hall⟩ := hrel
    have HP := Lib.hid hip
    have HA := Lib.hid hall
    clear hip hall
    by_cases hlt : i < s.size
    · have hlt' : (i : Int) < s.size := by omega
      have HAT := Lib.hid (all_at may s i hlt)
      obtain ⟨b, hb⟩ : ∃ b, b = s[i] := ⟨_, rfl⟩
      rw [← hb] at HAT
      have k0 : ∀ q : i < s.size, (s[i].toNat : Int) = (b.toNat : Nat) := fun q => by rw [hb]
      have CB : Hid (∀ W, IP w a0 a1 a2 a3 W → Calls Tryd.prog 49 #[.agg #[.int .u64 a0, .int .u64 a1, .int .u64 a2, .int .u64 a3], .int .u8 (b.toNat : Nat)] W fun e w' => e = .returned (.bool (may b)) ∧ IP w a0 a1 a2 a3 w') :=
        Lib.hid (fun W h => (HC.out b W).mono fun e w' z => ⟨by rw [z.1, HMAY.out b], h.up z.2⟩)
      clear hb
      have hSS : IP w a0 a1 a2 a3 wr.drew := HP.out.up ((Below.refl _ _).drew)
      obtain ⟨g, hg⟩ : ∃ g, g = may b := ⟨_, rfl⟩
      rw [← hg] at CB HAT
      clear hg
      unfold IP at hSS
      go_wp2_with fail
      go_region_held3 (fun w' => w'.cell? ⟨w.heap.size, 0, none⟩ = some (.int .u64 a0) ∧ w'.cell? ⟨w.heap.size, 1, none⟩ = some (.int .u64 a1) ∧ w'.cell? ⟨w.heap.size, 2, none⟩ = some (.int .u64 a2) ∧ w'.cell? ⟨w.heap.size, 3, none⟩ = some (.int .u64 a3) ∧ w.heap.size < w'.heap.size ∧ Below w.heap.size w w')
        ((first | exact hSS | assumption))
        (first | (go_at_call 49; refine (CB.out _ (by assumption)).mono ?_; rintro e w' ⟨rfl, hS2⟩; unfold IP at hS2))
      cases g with
      | true =>
        go_wp2_with fail
        go_roundw
        case rel => exact ⟨i + 1, by omega, by go_num, by assumption, by rw [← HA.out, HAT.out, Bool.true_and]⟩
        case measure => simp [intOf]; omega
      | false =>
        go_wp2_with fail
        go_ret
        exact ⟨rbool (by rw [← HA.out, HAT.out, Bool.false_and]), hS2.2.2.2.2.2⟩
    · obtain rfl : i = s.size := by omega
      go_wp2_with fail
      go_ret
      exact ⟨rbool (by rw [← HA.out, drop_end]; rfl), HP.out.2.2.2.2.2⟩
end Go.Proofs.YtjcaadihkbhlhaaDoor

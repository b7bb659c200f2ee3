import Derived.Test.YtfphejndbnmfeaaDoorU9
import Derived.Deep.QuietTactic
namespace Go.Proofs.YtfphejndbnmfeaaDoor
open Go.RowKit

theorem below_drewN {B : Nat} {w w1 : World} (h : Below B w w1) (n : Nat) : Below B w (w1.drewN n) := by
  induction n with
  | zero => exact h
  | succ n ih => exact ih.drew
theorem cn_tx {L : List Int} (h : okB L) (hl : L.length = 16) : cnS (txS L) = txS L ∧ upE (txS L) = 0 ∧ upL (txS L) = L := by
  have hb := back_text h hl
  refine ⟨?_, hb.2, hb.1⟩
  unfold cnS; rw [if_pos (back_ok h), hb.1]
set_option maxRecDepth 10000 in
set_option maxHeartbeats 1000000 in
theorem back_walk (B : List Int) (s : ByteArray) (w : World) (hp : Prt w) (hl : B.length = 16) (hok : okB B) (hs : s.size ≤ maxLen) :
    Calls Tryd.prog 12 #[arV B, .string s] w fun e w' => e = .returned (.bool true) ∧ Below w.heap.size w w' := by
  have HP := Lib.hid hp
  have sB : (arC B).size = 16 := by rw [arC_size, hl]
  have HX := Lib.hid (cn_tx hok hl)
  have HSZ := Lib.hid (txS_size B)
  have hst := fun w => store_new w B hl
  have HOK := Lib.hid hok
  have HL := Lib.hid hl
  have HS := Lib.hid hs
  have hA := arr_new w B 50 hl
  have hB0 : Below w.heap.size w (w.alloc (.cells (arC B) 50)) := (Below.refl _ w).alloc (Nat.le_refl _) _
  have HB0 := Lib.hid hB0
  have HA := Lib.hid hA
  clear hp hok hl hs hA hB0
  unfold arV
  go_enter Tryd.func12, Tryd.ntmps12
  go_wp2_with fail
  refine (alive_true _ (HP.out.below HB0.out HP.out.1)).mono ?_
  rintro e w1 ⟨rfl, b1⟩
  have HA1 : Hid (Arr w1 w.heap.size B) := Lib.hid (HA.out.below b1 (by simp))
  have B1 : Hid (Below w.heap.size w w1) := Lib.hid (HB0.out.trans (b1.mono HB0.out.size))
  clear b1
  obtain ⟨G2, hG2⟩ : ∃ G : Nat → Int, G = fun i => B.getD i 0 := ⟨_, rfl⟩
  have HG2 := Lib.hid hG2
  have HGB : Hid ((#[.int .u8 (G2 0), .int .u8 (G2 1), .int .u8 (G2 2), .int .u8 (G2 3), .int .u8 (G2 4), .int .u8 (G2 5), .int .u8 (G2 6), .int .u8 (G2 7), .int .u8 (G2 8), .int .u8 (G2 9), .int .u8 (G2 10), .int .u8 (G2 11), .int .u8 (G2 12), .int .u8 (G2 13), .int .u8 (G2 14), .int .u8 (G2 15)] : Array Value) = arC B) := Lib.hid (by
    have h := fold16 sB
    rw [← h, hG2]
    apply Array.ext
    · rfl
    · intro i h1 h2
      have hi : i < 16 := by simpa using h1
      have e1 := lit_at (fun i => B.getD i 0) i hi
      have e2 := arC_at (L := B) (k := i) (by rw [HL.out]; exact hi)
      rw [← h] at e2
      rw [Array.getElem?_eq_getElem h1] at e1
      rw [Array.getElem?_eq_getElem h2] at e2
      rw [Option.some.injEq] at e1 e2
      exact e1.trans e2.symm)
  have c1 : ∀ i, i < 16 → w1.cell? ⟨w.heap.size, i, none⟩ = some (.int .u8 (G2 i)) := fun i hi => by rw [hG2]; exact HA1.out.2 i hi
  clear hG2
  go_wp2_with fail
  rw [HGB.out]
  refine (text_any B HL.out HOK.out _ (HP.out.below B1.out HP.out.1)).mono ?_
  rintro e w2 ⟨rfl, b2⟩
  have HA2 : Hid (Arr w2 w.heap.size B) := Lib.hid (HA1.out.below b2 HA1.out.1)
  have B2 : Hid (Below w.heap.size w w2) := Lib.hid (B1.out.trans (b2.mono B1.out.size))
  clear b2 c1
  obtain ⟨T, hT⟩ : ∃ T, T = txS B := ⟨_, rfl⟩
  rw [← hT] at HX HSZ ⊢
  have HT := Lib.hid hT
  have hsz := HSZ.out
  clear hT
  go_wp2_with fail
  refine (parse_any T _).mono ?_
  rintro e w3 ⟨rfl, b3⟩
  rw [HX.out.2.1, HX.out.2.2]
  have HA3 : Hid (Arr w3 w.heap.size B) := Lib.hid (HA2.out.below b3 HA2.out.1)
  have B3 : Hid (Below w.heap.size w w3) := Lib.hid (B2.out.trans (b3.mono B2.out.size))
  clear b3
  unfold arV
  go_wp2_with fail
  have HA4 : Hid (Arr (w3.alloc (.cells (arC B) 50)) w.heap.size B) := Lib.hid (HA3.out.alloc _)
  have HN4 : Hid (Arr (w3.alloc (.cells (arC B) 50)) w3.heap.size B) := Lib.hid (arr_new w3 B 50 HL.out)
  have B4 : Hid (Below w.heap.size w (w3.alloc (.cells (arC B) 50))) := Lib.hid (B3.out.alloc B3.out.size _)
  refine (canon_any T _ (HP.out.below B4.out HP.out.1)).mono ?_
  rintro e w5 ⟨rfl, b5⟩
  rw [HX.out.1, HX.out.2.1]
  have ha5 : Arr w5 w.heap.size B := HA4.out.below b5 HA4.out.1
  have hn5 : Arr w5 w3.heap.size B := HN4.out.below b5 HN4.out.1
  have B5 : Hid (Below w.heap.size w w5) := Lib.hid (B4.out.trans (b5.mono B4.out.size))
  have c1 : ∀ i, i < 16 → w5.cell? ⟨w.heap.size, i, none⟩ = some (.int .u8 (G2 i)) := fun i hi => by rw [HG2.out]; exact ha5.2 i hi
  have c2 : ∀ i, i < 16 → w5.cell? ⟨w3.heap.size, i, none⟩ = some (.int .u8 (G2 i)) := fun i hi => by rw [HG2.out]; exact hn5.2 i hi
  have q1 : ∀ w, (Op.equalIn 10000 50 (.agg #[.int .u8 (G2 0), .int .u8 (G2 1), .int .u8 (G2 2), .int .u8 (G2 3), .int .u8 (G2 4), .int .u8 (G2 5), .int .u8 (G2 6), .int .u8 (G2 7), .int .u8 (G2 8), .int .u8 (G2 9), .int .u8 (G2 10), .int .u8 (G2 11), .int .u8 (G2 12), .int .u8 (G2 13), .int .u8 (G2 14), .int .u8 (G2 15)]) (.agg #[.int .u8 (G2 0), .int .u8 (G2 1), .int .u8 (G2 2), .int .u8 (G2 3), .int .u8 (G2 4), .int .u8 (G2 5), .int .u8 (G2 6), .int .u8 (G2 7), .int .u8 (G2 8), .int .u8 (G2 9), .int .u8 (G2 10), .int .u8 (G2 11), .int .u8 (G2 12), .int .u8 (G2 13), .int .u8 (G2 14), .int .u8 (G2 15)])).run Tryd.prog w = .ok true w := fun w => by
    have h := eq_lit G2 G2 w
    rw [(same16_iff _ _).2 (fun i hi => rfl)] at h
    exact h
  clear b5 ha5 hn5
  go_wp2_with fail
  clear c1 c2 q1
  refine (canon_any s _ (HP.out.below B5.out HP.out.1)).mono ?_
  rintro e w6 ⟨rfl, b6⟩
  have B6 : Hid (Below w.heap.size w w6) := Lib.hid (B5.out.trans (b6.mono B5.out.size))
  clear b6
  rcases upE_cases s with ⟨h0, h1, h2⟩ | ⟨h0, h1, h2, h3⟩
  · have hC : (cnS s).size = 36 := by rw [h2, txS_size]
    have hs36 := (okS_parts h0).1
    have HCB := Lib.hid (fun k (hk : k < 36) => by have := canon_byte h0 hk; rw [← h2] at this; exact this)
    rw [h1]
    obtain ⟨C, hCC⟩ : ∃ C, C = cnS s := ⟨_, rfl⟩
    rw [← hCC] at hC HCB ⊢
    have HC36 := Lib.hid hC
    have HS36 := Lib.hid hs36
    clear h0 h1 h2 hCC
    go_wp2_with fail
    clear hC hs36
    go_loopw [13] (fun i wr => ∃ k : Nat, k ≤ 36 ∧ i = .int .i64 k ∧ Below w.heap.size w wr) (fun i _ => 36 - (intOf i).toNat)
    case atStart => exact ⟨0, by omega, rfl, B6.out⟩
    case round =>
      obtain ⟨k, hk, rfl, hb⟩ := hrel
      have HBK := Lib.hid hb
      clear hb
      by_cases hlt : k < 36
      · have hk1 : k < s.size := by rw [HS36.out]; exact hlt
        have hk2 : k < C.size := by rw [HC36.out]; exact hlt
        have hk3 : (k : Int) < (s.size : Int) := by omega
        have hk4 : (k : Int) < (C.size : Int) := by omega
        have hbs := byt_eq s k hk1
        have hbc := byt_eq C k hk2
        have hrb := byt_range s k
        have hcb := HCB.out k hlt
        obtain ⟨b, hb⟩ : ∃ b, b = byt s k := ⟨_, rfl⟩
        obtain ⟨y, hy⟩ : ∃ y, y = byt C k := ⟨_, rfl⟩
        rw [← hb] at hbs hrb hcb
        rw [← hy] at hbc hcb
        clear hb hy
        rcases hcb with rfl | ⟨h65, h70, rfl⟩
        · by_cases c1 : y < 65
          · have d1 : decide ((65 : Int) ≤ y) = false := by simp; omega
            go_wp2_with fail
            go_quiet (fail)
            go_wp2_with fail
            go_quiet (fail)
            go_wp2_with fail
            go_roundw
            case rel => exact ⟨k + 1, by omega, by go_num, (by first | exact below_drewN HBK.out _ | exact below_drewN (below_drewN HBK.out _) _)⟩
            case measure => simp [intOf]; omega
          · by_cases c2 : y ≤ 70
            · have d1 : (65 : Int) ≤ y := by omega
              have d3 : (y == y + 32) = false := by simp; omega
              go_wp2_with fail
              go_quiet (fail)
              go_wp2_with fail
              go_quiet (fail)
              go_wp2_with fail
              go_roundw
              case rel => exact ⟨k + 1, by omega, by go_num, (by first | exact below_drewN HBK.out _ | exact below_drewN (below_drewN HBK.out _) _)⟩
              case measure => simp [intOf]; omega
            · have d1 : (65 : Int) ≤ y := by omega
              have d2 : decide (y ≤ 70) = false := by simp; omega
              go_wp2_with fail
              go_quiet (fail)
              go_wp2_with fail
              go_quiet (fail)
              go_wp2_with fail
              go_roundw
              case rel => exact ⟨k + 1, by omega, by go_num, (by first | exact below_drewN HBK.out _ | exact below_drewN (below_drewN HBK.out _) _)⟩
              case measure => simp [intOf]; omega
        · have d4 : (b + 32 != b) = true := by simp; omega
          go_wp2_with fail
          go_quiet (fail)
          go_wp2_with fail
          go_quiet (fail)
          go_wp2_with fail
          go_roundw
          case rel => exact ⟨k + 1, by omega, by go_num, (by first | exact below_drewN HBK.out _ | exact below_drewN (below_drewN HBK.out _) _)⟩
          case measure => simp [intOf]; omega
      · obtain rfl : k = 36 := by omega
        have hk3 : ¬ ((36 : Nat) : Int) < (s.size : Int) := by rw [HS36.out]; omega
        go_wp2_with fail
        go_ret
        exact ⟨rfl, HBK.out⟩
  · rw [h1, h2]
    clear h0 h1 h2 h3
    go_wp2_with fail
    go_ret
    exact ⟨rfl, B6.out⟩
end Go.Proofs.YtfphejndbnmfeaaDoor

import Derived.Test.YtfphejndbnmfeaaDoorU9
namespace Go.Proofs.YtfphejndbnmfeaaDoor
open Go.RowKit

set_option maxRecDepth 10000 in
theorem none_true (s : ByteArray) (w : World) (hp : Prt w) (hs : okS s = false) :
    Calls Tryd.prog 30 #[.string s] w fun e w' => e = .returned (.bool true) ∧ Below w.heap.size w w' := by
  have HU : Hid (upE s = 130 ∧ cnS s = ⟨#[]⟩ ∧ upL s = z16) := Lib.hid (by
    rcases upE_cases s with ⟨h0, _⟩ | ⟨_, h⟩
    · rw [hs] at h0; cases h0
    · exact h)
  have HP := Lib.hid hp
  have hz := fun w => store_new w z16 rfl
  obtain ⟨Z, hZ⟩ : ∃ Z, Z = z16 := ⟨_, rfl⟩
  rw [← hZ] at hz
  have HZ := Lib.hid hZ
  have sZ : (arC Z).size = 16 := by rw [hZ]; rfl
  clear hZ hp hs
  go_enter Tryd.func30, Tryd.ntmps30
  go_wp2_with fail
  refine (parse_any s _).mono ?_
  rintro e w1 ⟨rfl, b1⟩
  rw [HU.out.1, HU.out.2.2, ← HZ.out]
  have HB1 := Lib.hid b1
  clear b1
  unfold arV
  go_wp2_with fail
  have HB2 : Hid (Below w.heap.size w (w1.alloc (.cells (arC Z) 50))) := Lib.hid (HB1.out.alloc HB1.out.size _)
  refine (canon_any s _ (HP.out.below HB2.out HP.out.1)).mono ?_
  rintro e w2 ⟨rfl, b2⟩
  rw [HU.out.1, HU.out.2.1]
  have HB3 : Hid (Below w.heap.size w w2) := Lib.hid (HB2.out.trans (b2.mono HB2.out.size))
  have ha1 : Arr w2 w1.heap.size Z := (arr_new w1 Z 50 (by rw [HZ.out]; rfl)).below (b2.mono (Nat.le_refl _)) (by simp)
  obtain ⟨G1, hG1⟩ : ∃ G : Nat → Int, G = fun i => Z.getD i 0 := ⟨_, rfl⟩
  have c1 : ∀ i, i < 16 → w2.cell? ⟨w1.heap.size, i, none⟩ = some (.int .u8 (G1 i)) := fun i hi => by rw [hG1]; exact ha1.2 i hi
  have q1 : ∀ w, (Op.equalIn 10000 50 (.agg #[.int .u8 (G1 0), .int .u8 (G1 1), .int .u8 (G1 2), .int .u8 (G1 3), .int .u8 (G1 4), .int .u8 (G1 5), .int .u8 (G1 6), .int .u8 (G1 7), .int .u8 (G1 8), .int .u8 (G1 9), .int .u8 (G1 10), .int .u8 (G1 11), .int .u8 (G1 12), .int .u8 (G1 13), .int .u8 (G1 14), .int .u8 (G1 15)]) (.agg #[.int .u8 0, .int .u8 0, .int .u8 0, .int .u8 0, .int .u8 0, .int .u8 0, .int .u8 0, .int .u8 0, .int .u8 0, .int .u8 0, .int .u8 0, .int .u8 0, .int .u8 0, .int .u8 0, .int .u8 0, .int .u8 0])).run Tryd.prog w = .ok true w := fun w => by
    have h := eq_lit G1 (fun _ => 0) w
    rw [(same16_iff _ _).2 (fun i hi => by rw [hG1, HZ.out]; exact z16_at i)] at h
    exact h
  clear ha1 hG1 b2 sZ hz
  go_wp2_with fail
  go_ret
  exact ⟨rfl, HB3.out⟩

def sF : ByteArray := ⟨#[48, 49, 50, 51, 65, 66, 67, 68, 45, 52, 53, 54, 55, 45, 56, 57, 101, 102, 45, 48, 48, 48, 48, 45, 48, 48, 48, 48, 48, 48, 48, 48, 48, 48, 70, 70]⟩
def nS : List ByteArray := [⟨#[]⟩, ⟨#[48, 48, 48, 48, 48, 48, 48, 48, 48, 48, 48, 48, 48, 48, 48, 48, 48, 48, 48, 48, 48, 48, 48, 48, 48, 48, 48, 48, 48, 48, 48, 48]⟩, ⟨#[123, 48, 48, 48, 48, 48, 48, 48, 45, 48, 48, 48, 48, 45, 48, 48, 48, 48, 45, 48, 48, 48, 48, 45, 48, 48, 48, 48, 48, 48, 48, 48, 48, 48, 48, 125]⟩, ⟨#[48, 48, 48, 48, 48, 48, 48, 45, 48, 48, 48, 48, 48, 45, 48, 48, 48, 48, 45, 48, 48, 48, 48, 45, 48, 48, 48, 48, 48, 48, 48, 48, 48, 48, 48, 48]⟩, ⟨#[48, 48, 48, 48, 48, 48, 48, 48, 45, 48, 48, 48, 48, 45, 48, 48, 48, 48, 45, 48, 48, 48, 48, 45, 48, 48, 48, 48, 48, 48, 48, 48, 48, 48, 48]⟩, ⟨#[48, 48, 48, 48, 48, 48, 48, 103, 45, 48, 48, 48, 48, 45, 48, 48, 48, 48, 45, 48, 48, 48, 48, 45, 48, 48, 48, 48, 48, 48, 48, 48, 48, 48, 48, 48]⟩]
theorem bad_all : ∀ s ∈ nS, okS s = false := by decide +kernel
theorem cnF : upE sF = 0 ∧ (cnS sF).toList = [48, 49, 50, 51, 97, 98, 99, 100, 45, 52, 53, 54, 55, 45, 56, 57, 101, 102, 45, 48, 48, 48, 48, 45, 48, 48, 48, 48, 48, 48, 48, 48, 48, 48, 102, 102] := by decide +kernel
set_option maxRecDepth 10000 in
theorem names_walk (w : World) (hp : Prt w) :
    Calls Tryd.prog 10 #[] w fun e w' => e = .returned (.bool true) ∧ Below w.heap.size w w' := by
  have HP := Lib.hid hp
  clear hp
  have none_at := fun (s : ByteArray) (v : World) (hs : s ∈ nS) (hb : Below w.heap.size w v) => none_true s v (HP.out.below hb HP.out.1) (bad_all s hs)
  have HN := Lib.hid none_at
  clear none_at
  go_enter Tryd.func10, Tryd.ntmps10
  go_wp2_with fail
  refine (canon_any sF _ HP.out).mono ?_
  rintro e w1 ⟨rfl, b1⟩
  rw [cnF.1]
  have B1 := Lib.hid b1
  clear b1
  have hc := cnF.2
  obtain ⟨C, hC⟩ : ∃ C, C = cnS sF := ⟨_, rfl⟩
  rw [← hC] at hc ⊢
  clear hC
  go_wp2_with fail
  refine (alive_true _ (HP.out.below B1.out HP.out.1)).mono ?_
  rintro e w2 ⟨rfl, b2⟩
  have B2 := Lib.hid (B1.out.trans (b2.mono B1.out.size))
  clear b2
  go_wp2_with fail
  refine (HN.out _ _ (by simp [nS]) B2.out).mono ?_
  rintro e w3 ⟨rfl, b3⟩
  have B3 := Lib.hid (B2.out.trans (b3.mono B2.out.size))
  clear b3
  go_wp2_with fail
  refine (HN.out _ _ (by simp [nS]) B3.out).mono ?_
  rintro e w4 ⟨rfl, b4⟩
  have B4 := Lib.hid (B3.out.trans (b4.mono B3.out.size))
  clear b4
  go_wp2_with fail
  refine (HN.out _ _ (by simp [nS]) B4.out).mono ?_
  rintro e w5 ⟨rfl, b5⟩
  have B5 := Lib.hid (B4.out.trans (b5.mono B4.out.size))
  clear b5
  go_wp2_with fail
  refine (HN.out _ _ (by simp [nS]) B5.out).mono ?_
  rintro e w6 ⟨rfl, b6⟩
  have B6 := Lib.hid (B5.out.trans (b6.mono B5.out.size))
  clear b6
  go_wp2_with fail
  refine (HN.out _ _ (by simp [nS]) B6.out).mono ?_
  rintro e w7 ⟨rfl, b7⟩
  have B7 := Lib.hid (B6.out.trans (b7.mono B6.out.size))
  clear b7
  go_wp2_with fail
  refine (HN.out _ _ (by simp [nS]) B7.out).mono ?_
  rintro e w8 ⟨rfl, b8⟩
  have B8 := Lib.hid (B7.out.trans (b8.mono B7.out.size))
  clear b8
  go_wp2_with fail
  go_ret
  exact ⟨rfl, B8.out⟩
end Go.Proofs.YtfphejndbnmfeaaDoor

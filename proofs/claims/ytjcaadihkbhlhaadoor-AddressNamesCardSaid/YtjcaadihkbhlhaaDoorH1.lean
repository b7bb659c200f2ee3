import Derived.Test.YtjcaadihkbhlhaaDoorA5
namespace Go.Proofs.YtjcaadihkbhlhaaDoor
open Go.RowKit
def hexN (n : Nat) : Nat := (hexV n).toNat
/-- What an escape tells. -/
def escV : List UInt8 → Nat
  | _ :: h :: l :: _ => 16 * hexN h.toNat + hexN l.toNat
  | _ => 0
theorem hexN_lt (n : Nat) : hexN n < 16 := by
  unfold hexN
  rcases hexV_range n with h | h <;> omega
theorem escV_lt (l : List UInt8) : escV l < 256 := by
  unfold escV
  split
  · rename_i h l _
    have := hexN_lt h.toNat
    have := hexN_lt l.toNat
    omega
  · omega
theorem or_hex {x y : Nat} (hx : x < 16) (hy : y < 16) : bits BinOp.or IntKind.i64 (wrap64 ((x : Int) * 16)) (y : Int) % 256 = ((16 * x + y : Nat) : Int) := by
  have h : ∀ a b : Fin 16, bits BinOp.or IntKind.i64 (wrap64 (((a : Nat) : Int) * 16)) ((b : Nat) : Int) % 256 = ((16 * (a : Nat) + (b : Nat) : Nat) : Int) := by decide +kernel
  exact h ⟨x, hx⟩ ⟨y, hy⟩
set_option maxRecDepth 20000 in
set_option maxHeartbeats 1000000 in
theorem escaped_yes (s : ByteArray) (i : Nat) (he : esc (s.data.toList.drop i) = true) (hs : s.size ≤ 1000000) (w : World) : Calls Tryd.prog 47 #[.string s, .int .i64 i] w fun e w' => e = .returned (.tuple #[.int .u8 (escV (s.data.toList.drop i) : Nat), .bool true]) ∧ Below w.heap.size w w' := by
  have h2 : i + 2 < s.size := by
    rw [esc_at] at he
    split at he
    · assumption
    · cases he
  have HE := he
  rw [esc_at, dif_pos h2] at HE
  have HV : Hid (escV (s.data.toList.drop i) = 16 * hexN s[i + 1].toNat + hexN s[i + 2].toNat) := Lib.hid (by
    rw [drop_at s i (by omega), drop_at s (i + 1) (by omega), drop_at s (i + 2) (by omega)]
    rfl)
  obtain ⟨V, hV⟩ : ∃ V, V = escV (s.data.toList.drop i) := ⟨_, rfl⟩
  rw [← hV] at HV ⊢
  clear he hV
  simp only [Bool.and_eq_true, beq_iff_eq] at HE
  obtain ⟨e0, e1, e2⟩ := HE
  obtain ⟨a, ha⟩ : ∃ a, a = s[i] := ⟨_, rfl⟩
  obtain ⟨b, hb⟩ : ∃ a, a = s[i + 1] := ⟨_, rfl⟩
  obtain ⟨c, hc⟩ : ∃ a, a = s[i + 2] := ⟨_, rfl⟩
  rw [← ha] at e0
  rw [← hb] at e1 HV
  rw [← hc] at e2 HV
  subst e0
  have k0 : ∀ q : i < s.size, (s[i].toNat : Int) = 37 := fun q => by rw [← ha]; rfl
  have k1 : ∀ q : i + 1 < s.size, (s[i + 1].toNat : Int) = (b.toNat : Nat) := fun q => by rw [hb]
  have k2 : ∀ q : i + 2 < s.size, (s[i + 2].toNat : Int) = (c.toNat : Nat) := fun q => by rw [hc]
  have g1 : ¬ ((s.size : Int) ≤ i + 2) := by omega
  have g2 : (i : Int) < s.size := by omega
  have g3 : (i : Int) + 1 < s.size := by omega
  have g4 : (i : Int) + 2 < s.size := by omega
  have t1 : ((i : Int) + 1).toNat = i + 1 := by omega
  have t2 : ((i : Int) + 2).toNat = i + 2 := by omega
  have HX := Lib.hid (fun (b : UInt8) w => hex_any b.toNat (UInt8.toNat_lt b) w)
  unfold hexB at e1 e2
  have n1 : 0 ≤ hexV b.toNat := by simpa using e1
  have n2 : 0 ≤ hexV c.toNat := by simpa using e2
  have m1 := hexN_lt b.toNat
  have m2 := hexN_lt c.toNat
  have q1 : hexV b.toNat = (hexN b.toNat : Nat) := by unfold hexN; omega
  have q2 : hexV c.toNat = (hexN c.toNat : Nat) := by unfold hexN; omega
  have HF : Hid (bits BinOp.or IntKind.i64 (wrap64 (hexV b.toNat * 16)) (hexV c.toNat) % 256 = (V : Int)) := Lib.hid (by
    rw [q1, q2, HV.out]; exact or_hex m1 m2)
  have l1 : ¬ (hexV b.toNat < 0) := by omega
  have l2 : ¬ (hexV c.toNat < 0) := by omega
  clear ha hb hc q1 q2 n1 n2 e1 e2 m1 m2
  go_enter Tryd.func47, Tryd.ntmps47
  go_wp2_with (go_quiet (first | (go_at_call 66; exact Calls.quiet_of_same (HX.out _ _))))
  go_ret2
  refine ⟨?_, below_dr (Below.refl _ _) _⟩
  show Ending.returned (.tuple #[.int .u8 (bits BinOp.or IntKind.i64 (wrap64 (hexV b.toNat * 16)) (hexV c.toNat) % 256), .bool true]) = _
  rw [HF.out]
end Go.Proofs.YtjcaadihkbhlhaaDoor

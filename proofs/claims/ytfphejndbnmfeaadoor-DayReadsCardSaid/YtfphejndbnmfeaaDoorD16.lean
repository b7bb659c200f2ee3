import Derived.Test.YtfphejndbnmfeaaDoorD15
import Derived.Test.YtfphejndbnmfeaaDoorShelf
namespace Go.Proofs.YtfphejndbnmfeaaDoor
open Go.RowKit

/-- Does one of some marks stand at a place? -/
def okM (s : ByteArray) (p : Nat) (l : List Int) : Bool := l.contains (bt s p)
/-- Marks that strings.Contains tells as a list does. -/
def Marks (M : ByteArray) (l : List Int) : Prop := M.size < 4294967281 ∧ l.contains 0 = false ∧ ∀ x : Int, 0 < x → x < 256 → Lib.contains M.data.toList (Utf8.encode x).data.toList = l.contains x
theorem marks_of {M : ByteArray} {l : List Int} (h1 : M.size < 4294967281) (h0 : l.contains 0 = false) (h : ((List.range 255).all fun n => Lib.contains M.data.toList (Utf8.encode ((n + 1 : Nat) : Int)).data.toList == l.contains ((n + 1 : Nat) : Int)) = true) : Marks M l := by
  refine ⟨h1, h0, fun x hx1 hx2 => ?_⟩
  obtain ⟨n, rfl⟩ : ∃ n : Nat, x = ((n + 1 : Nat) : Int) := ⟨(x - 1).toNat, by omega⟩
  have := List.all_eq_true.1 h n (List.mem_range.2 (by omega))
  simpa using this
theorem mDash : Marks ⟨#[45]⟩ [45] := marks_of (by decide) (by decide) (by decide +kernel)
theorem mColon : Marks ⟨#[58]⟩ [58] := marks_of (by decide) (by decide) (by decide +kernel)
theorem mT : Marks ⟨#[84, 116]⟩ [84, 116] := marks_of (by decide) (by decide) (by decide +kernel)
theorem mZ : Marks ⟨#[90, 122, 43, 45]⟩ [90, 122, 43, 45] := marks_of (by decide) (by decide) (by decide +kernel)
/-- bytealg.MaxLen holds some number. -/
def ML (w : World) : Prop := ∃ m, w.cell? ⟨2, 0, none⟩ = some (.int .i64 m)
theorem ML.below {w w' : World} {B : Nat} (h : ML w) (hb : Below B w w') (hB : 2 < B) : ML w' := by
  obtain ⟨m, hm⟩ := h
  exact ⟨m, (hb.cell (p := ⟨2, 0, none⟩) hB).trans hm⟩
def MarkPost (B : Nat) (s : ByteArray) (l : List Int) (p : Nat) (b : Bool) (w : World) (e : Ending) (w' : World) : Prop :=
  e = .returned (.int .u8 (if okM s p l then bt s p else 0)) ∧ R w' B s (if okM s p l then p + 1 else p) (b || !okM s p l) ∧ Below B w w' ∧ (okM s p l = true → p < s.size)
theorem mark_any (B : Nat) (s M : ByteArray) (l : List Int) (hM : Marks M l) (p : Nat) (b : Bool) (w : World) (hL : ML w) (hB : 2 < B) (hR : R w B s p b) (hs : s.size ≤ maxLen) (hp : p ≤ s.size) :
    Calls Tryd.prog 39 #[.pointer (some ⟨B, 0, none⟩), .string M] w (MarkPost B s l p b w) := by
  have HP := Lib.hid (peek_any B s p b w hR hs hp)
  have hp2 := hs
  unfold maxLen at hp2
  have hin : okM s p l = true → p < s.size := fun h => bt_in s p (fun h0 => by unfold okM at h; rw [h0, hM.2.1] at h; cases h)
  have HLI := Lib.hid hin
  obtain ⟨x, hx⟩ : ∃ x : Int, x = bt s p := ⟨_, rfl⟩
  have hb : (0 : Int) ≤ x ∧ x < 256 := by rw [hx]; exact bt_range s p
  have hok : okM s p l = l.contains x := by unfold okM; rw [hx]
  obtain ⟨hb1, hb2⟩ := hb
  have HX := Lib.hid hx
  rw [← hx] at HP
  have HL := Lib.hid hL
  clear hR hx hin hs
  by_cases h0 : x = 0
  · have HO : Hid (okM s p l = false) := Lib.hid (by rw [hok, h0]; exact hM.2.1)
    subst h0
    clear hok hM
    go_enter Tryd.func39, Tryd.ntmps39
    go_wp2_with fail
    refine HP.out.mono ?_
    rintro e w1 ⟨rfl, r1, b1⟩
    have R1 := Lib.hid r1
    have B1 := Lib.hid b1
    obtain ⟨c0, c1, c2, f1, f2, hz⟩ := r1
    clear b1
    go_wp2_with fail
    go_ret
    refine ⟨?_, ?_, B1.out.setCell (Nat.le_refl _) _, HLI.out⟩
    · rw [HO.out]; rfl
    · rw [HO.out, Bool.not_false, Bool.or_true]; exact R1.out.setb
  · have g0 : (x == 0) = false := by simpa using h0
    have HC := Lib.hid (hM.2.2 x (by omega) hb2)
    have HMs := Lib.hid hM.1
    have HF := Lib.hid (fun (W : World) (hW : ML W) => show Calls Tryd.prog 63 #[.string M, .string (Utf8.encode x)] W (fun e w' => e = .returned (.bool (l.contains x)) ∧ w' = W) by
      obtain ⟨m, hm⟩ := hW
      have := Tryd.strings_Contains M (Utf8.encode x) m W HMs.out hm
      rwa [HC.out] at this)
    obtain ⟨k, hk⟩ : ∃ k, k = l.contains x := ⟨_, rfl⟩
    rw [← hk] at HF hok
    have HO := Lib.hid hok
    clear h0 hM hk hok
    cases k with
    | false =>
      go_enter Tryd.func39, Tryd.ntmps39
      go_wp2_with fail
      refine HP.out.mono ?_
      rintro e w1 ⟨rfl, r1, b1⟩
      have R1 := Lib.hid r1
      have B1 := Lib.hid b1
      obtain ⟨c0, c1, c2, f1, f2, hz⟩ := r1
      clear b1
      go_wp2_with fail
      refine (HF.out _ (HL.out.below B1.out hB)).mono ?_
      rintro e w2 ⟨rfl, rfl⟩
      go_wp2_with fail
      go_ret
      refine ⟨?_, ?_, B1.out.setCell (Nat.le_refl _) _, HLI.out⟩
      · rw [HO.out]; rfl
      · rw [HO.out, Bool.not_false, Bool.or_true]; exact R1.out.setb
    | true =>
      have hlt : p < s.size := HLI.out HO.out
      go_enter Tryd.func39, Tryd.ntmps39
      go_wp2_with fail
      refine HP.out.mono ?_
      rintro e w1 ⟨rfl, r1, b1⟩
      have R1 := Lib.hid r1
      have B1 := Lib.hid b1
      obtain ⟨c0, c1, c2, f1, f2, hz⟩ := r1
      clear b1
      go_wp2_with fail
      refine (HF.out _ (HL.out.below B1.out hB)).mono ?_
      rintro e w2 ⟨rfl, rfl⟩
      go_wp2_with fail
      go_ret
      refine ⟨?_, ?_, B1.out.setCell (Nat.le_refl _) _, HLI.out⟩
      · rw [HO.out, if_pos rfl]; exact ru8 HX.out
      · rw [HO.out, Bool.not_true, Bool.or_false, if_pos rfl]; exact R1.out.setp (p + 1)
end Go.Proofs.YtfphejndbnmfeaaDoor

import Derived.Test.YtjcaadihkbhlhaaDoorI1
namespace Go.Proofs.YtjcaadihkbhlhaaDoor
open Go.RowKit
/-- What the walks want of the world: bytealg's variable holds some number. -/
def ML (w : World) : Prop := ∃ m, w.cell? ⟨0, 0, none⟩ = some (.int .i64 m)
theorem ML.lt {w : World} (h : ML w) : 0 < w.heap.size := by
  obtain ⟨m, hm⟩ := h
  exact World.block_lt_of_cell? _ _ hm
theorem ML.below {w W : World} (h : ML w) (hb : Below w.heap.size w W) : ML W := by
  have h0 := h.lt
  obtain ⟨m, hm⟩ := h
  exact ⟨m, (hb.cell (p := ⟨0, 0, none⟩) h0).trans hm⟩
theorem parse_yes (t : ByteArray) (s u h p a q : ByteArray) (hu hq : Bool) (ho : okP t = true) (hp : adP t = adV s u h p a q hu hq) (w : World) (hm : ML w) :
    Calls Tryd.prog 10 #[.string t] w fun e w' => e = .returned (.tuple #[adV s u h p a q hu hq, .int .i64 0]) ∧ Below w.heap.size w w' := by
  obtain ⟨m, hm⟩ := hm
  have C := parse_any t m w hm
  rw [ho, hp, numE_true] at C
  exact C
theorem parse_not (t : ByteArray) (ho : okP t = false) (w : World) (hm : ML w) :
    Calls Tryd.prog 10 #[.string t] w fun e w' => e = .returned (.tuple #[adZ, .int .i64 150]) ∧ Below w.heap.size w w' := by
  obtain ⟨m, hm⟩ := hm
  have C := parse_any t m w hm
  have e : adP t = adZ := by unfold adP; rw [ho]; rfl
  rw [ho, e, numE_false] at C
  exact C
set_option maxRecDepth 20000 in
set_option maxHeartbeats 1000000 in
theorem tells_true (t : ByteArray) (s u h p a q : ByteArray) (hu hq : Bool) (ho : okP t = true) (hp : adP t = adV s u h p a q hu hq) (w : World) (hm : ML w) :
    Calls Tryd.prog 7 #[.string t, adV s u h p a q hu hq] w fun e w' => e = .returned (.bool true) ∧ Below w.heap.size w w' := by
  have HP := Lib.hid (fun W (hb : Below w.heap.size w W) => parse_yes t s u h p a q hu hq ho hp W (hm.below hb))
  have P0 := Lib.hid (CB.up (k := w.heap.size) (w := w) (W := w.alloc (.cells #[.string s, .string u, .string h, .string p, .string a, .string q, .bool hu, .bool hq] 24)) ⟨VB.new w #[.string s, .string u, .string h, .string p, .string a, .string q, .bool hu, .bool hq] 24, (Below.refl _ w).alloc (Nat.le_refl _) _, Nat.le_refl _⟩ (Below.refl _ _))
  unfold adV at HP ⊢
  clear ho hp hm
  go_enter Tryd.func7, Tryd.ntmps7
  go_wp2_with fail
  have HPW := HP.out _ P0.out.2.1
  with_reducible refine HPW.mono ?_
  rintro e w1 ⟨rfl, b1⟩
  have P1 := Lib.hid (P0.out.up b1)
  have P2 := Lib.hid (P1.out.up ((Below.refl _ w1).alloc (Nat.le_refl _) (.cells #[.string s, .string u, .string h, .string p, .string a, .string q, .bool hu, .bool hq] 24)))
  have c0 := P1.out.c0
  have c1 := P1.out.c1
  have c2 := P1.out.c2
  have c3 := P1.out.c3
  have c4 := P1.out.c4
  have c5 := P1.out.c5
  have c6 := P1.out.c6
  have c7 := P1.out.c7
  have hlt := P1.out.1.lt
  clear b1 P0 HPW
  go_wp2_with fail
  go_ret
  exact ⟨rfl, P2.out.2.1⟩
set_option maxRecDepth 20000 in
set_option maxHeartbeats 1000000 in
theorem none_true (t : ByteArray) (ho : okP t = false) (w : World) (hm : ML w) :
    Calls Tryd.prog 8 #[.string t] w fun e w' => e = .returned (.bool true) ∧ Below w.heap.size w w' := by
  have HP := Lib.hid (parse_not t ho w hm)
  unfold adZ adV at HP
  clear ho hm
  go_enter Tryd.func8, Tryd.ntmps8
  go_wp2_with fail
  with_reducible refine HP.out.mono ?_
  rintro e w1 ⟨rfl, b1⟩
  have B1 := Lib.hid b1
  clear b1
  go_wp2_with fail
  go_ret
  exact ⟨rfl, B1.out.alloc B1.out.size _⟩
end Go.Proofs.YtjcaadihkbhlhaaDoor

import Derived.Test.YtjcaadihkbhlhaaDoorH4
import Derived.Laws.IdiomStrings
namespace Go.Proofs.YtjcaadihkbhlhaaDoor
open Go.RowKit
/-- A letter turned about. -/
def tnB (b : UInt8) : UInt8 := if 97 ≤ b.toNat ∧ b.toNat ≤ 122 then b - 32 else if 65 ≤ b.toNat ∧ b.toNat ≤ 90 then b + 32 else b
theorem tn_small (b : UInt8) (h1 : 97 ≤ b.toNat) (h2 : b.toNat ≤ 122) : ((tnB b).toNat : Int) = (b.toNat : Int) - 32 := by
  have := by256 (P := fun z => !(decide (97 ≤ z.toNat) && decide (z.toNat ≤ 122)) || decide (((tnB z).toNat : Int) = (z.toNat : Int) - 32)) (by decide +kernel) b
  simpa [h1, h2] using this
theorem tn_great (b : UInt8) (h1 : 65 ≤ b.toNat) (h2 : b.toNat ≤ 90) : ((tnB b).toNat : Int) = (b.toNat : Int) + 32 := by
  have := by256 (P := fun z => !(decide (65 ≤ z.toNat) && decide (z.toNat ≤ 90)) || decide (((tnB z).toNat : Int) = (z.toNat : Int) + 32)) (by decide +kernel) b
  simpa [h1, h2] using this
theorem tn_else (b : UInt8) (h1 : ¬ (97 ≤ b.toNat ∧ b.toNat ≤ 122)) (h2 : ¬ (65 ≤ b.toNat ∧ b.toNat ≤ 90)) : tnB b = b := by
  unfold tnB; rw [if_neg h1, if_neg h2]
/-- Bytes in a row of the call's own. -/
def BL (w : World) (M : List UInt8) (W : World) : Prop := (∀ j x, M[j]? = some x → W.cell? ⟨w.heap.size, j, none⟩ = some (.int .u8 (x.toNat : Int)) ∧ W.frozen? ⟨w.heap.size, j, none⟩ = false) ∧ w.heap.size < W.heap.size ∧ Below w.heap.size w W
theorem BL.new (w : World) (s : ByteArray) (cap : Nat) : BL w s.data.toList (w.drew.alloc (.cells (bytesRow s cap) 5 ((bytesRow s cap).size, (bytesRow s cap).size + 1))) := by
  refine ⟨fun j x hj => ?_, by simp, (Below.refl _ _).drew.alloc (Nat.le_refl _) _⟩
  have hlt : j < s.data.size := by have := (List.getElem?_eq_some_iff.1 hj).1; simpa using this
  have hx : s.data[j] = x := by
    have := (List.getElem?_eq_some_iff.1 hj).2
    simpa using this
  constructor
  · have := World.cell?_alloc_mark w.drew (bytesRow s cap) 5 ((bytesRow s cap).size, (bytesRow s cap).size + 1) j
    rw [bytesRow_at s cap j hlt, hx] at this
    exact this
  · have := World.frozen?_alloc_mark w.drew (bytesRow s cap) 5 (bytesRow s cap).size ((bytesRow s cap).size + 1) j
    have hs : (bytesRow s cap).size ≤ j → False := fun q => by
      have : s.data.size ≤ (bytesRow s cap).size := by unfold bytesRow; simp
      omega
    have hd : decide ((bytesRow s cap).size ≤ j) = false := by rw [decide_eq_false_iff_not]; exact hs
    rw [hd, Bool.false_and] at this
    exact this
theorem BL.put {w W : World} {M : List UInt8} (h : BL w M W) (i : Nat) (hi : i < M.length) (y : UInt8) (v : Int) (hv : v = (y.toNat : Int)) : BL w (M.set i y) (W.setCell ⟨w.heap.size, i, none⟩ (.int .u8 v)) := by
  refine ⟨fun j x hj => ⟨?_, (World.frozen?_setCell _ _ _ _).trans ?_⟩, by simpa [World.setCell] using h.2.1, h.2.2.setCell (Nat.le_refl _) _⟩
  · by_cases e : i = j
    · subst e
      rw [List.getElem?_set_self hi] at hj
      cases hj
      rw [hv]
      exact World.cell?_setCell_same _ _ _ (h.1 i M[i] (List.getElem?_eq_getElem hi)).1
    · rw [List.getElem?_set_ne e] at hj
      exact (World.cell?_setCell_other _ _ _ _ (by simp [e])).trans (h.1 j x hj).1
  · have hjl : j < M.length := by have := (List.getElem?_eq_some_iff.1 hj).1; simpa using this
    exact (h.1 j M[j] (List.getElem?_eq_getElem hjl)).2
/-- Turned up to a place. -/
def tnL (l : List UInt8) (i : Nat) : List UInt8 := (l.take i).map tnB ++ l.drop i
theorem tnL_len (l : List UInt8) (i : Nat) : (tnL l i).length = l.length := by unfold tnL; simp; omega
theorem tnL_at (l : List UInt8) (i : Nat) (h : i < l.length) : (tnL l i)[i]? = some l[i] := by
  unfold tnL
  rw [List.getElem?_append_right (by simp; omega)]
  simp [Nat.min_eq_left (Nat.le_of_lt h)]
theorem tnL_succ (l : List UInt8) (i : Nat) (h : i < l.length) : tnL l (i + 1) = (tnL l i).set i (tnB l[i]) := by
  unfold tnL
  rw [List.set_append_right _ _ (by simp; omega)]
  have e : i - ((l.take i).map tnB).length = 0 := by simp; omega
  rw [e, List.drop_eq_getElem_cons h, List.set_cons_zero, List.take_succ_eq_append_getElem h, List.map_append]
  simp
theorem tnL_same (l : List UInt8) (i : Nat) (h : i < l.length) (hs : tnB l[i] = l[i]) : tnL l (i + 1) = tnL l i := by
  rw [tnL_succ l i h, hs]
  have := tnL_at l i h
  apply List.ext_getElem?
  intro k
  rw [List.getElem?_set]
  split
  · rename_i e
    subst e
    rw [if_pos (by rw [tnL_len]; exact h), this]
  · rfl
set_option maxRecDepth 20000 in
set_option maxHeartbeats 1000000 in
theorem turned_any (s : ByteArray) (h1 : 1 ≤ s.size) (hs : s.size ≤ 1000000) (w : World) :
    Calls Tryd.prog 15 #[.string s] w fun e w' => e = .returned (.string ⟨(s.data.toList.map tnB).toArray⟩) ∧ Below w.heap.size w w' := by
  have hcv := run_bytes_of_string (P := Tryd.prog) w 9 49 5 s Tryd.underlying9 Tryd.underlying49 Tryd.underlying5
  have P0 := BL.new w s (grownCap w s.size 0 5)
  have hlen : s.data.toList.length = s.size := by rw [← Lib.size_eq]
  obtain ⟨l, hl⟩ : ∃ l, l = s.data.toList := ⟨_, rfl⟩
  rw [← hl] at P0 hlen ⊢
  clear hl
  go_enter Tryd.func15, Tryd.ntmps15
  go_wp2_with fail
  clear hcv
  obtain ⟨cap, hcap⟩ : ∃ cap, cap = grownCap w s.size 0 5 := ⟨_, rfl⟩
  rw [← hcap] at P0 ⊢
  obtain ⟨w1, hw1⟩ : ∃ x, x = w.drew.alloc (.cells (bytesRow s cap) 5 ((bytesRow s cap).size, (bytesRow s cap).size + 1)) := ⟨_, rfl⟩
  have hw1' : w1 = (w.alloc (.cells (bytesRow s cap) 5 ((bytesRow s cap).size, (bytesRow s cap).size + 1))).drew := hw1
  first | rw [← hw1] | rw [← hw1']
  rw [← hw1] at P0
  clear hw1 hw1' hcap
  replace P0 := Lib.hid P0
  obtain ⟨n, hn⟩ : ∃ n, n = s.size := ⟨_, rfl⟩
  rw [← hn] at hlen h1 hs ⊢
  clear hn
  replace hlen := Lib.hid hlen
  go_loopw [4] (fun s4 wr => ∃ i : Nat, i ≤ n ∧ s4 = .int .i64 i ∧ BL w (tnL l i) wr) (fun s4 _ => n - (intOf s4).toNat)
  case atStart => exact ⟨0, Nat.zero_le _, rfl, by show BL w (([] : List UInt8) ++ l) w1; exact P0.out⟩
  case round =>
    obtain ⟨i, hi, rfl, hb⟩ := hrel
    by_cases hlt : i < n
    · have hil : i < l.length := by rw [hlen.out]; exact hlt
      have hlt' : (i : Int) < n := by omega
      have hat := hb.1 i l[i] (tnL_at l i hil)
      have T1 := Lib.hid (tnL_succ l i hil)
      have T2 := Lib.hid (tnL_same l i hil)
      have L1 := Lib.hid (show i < (tnL l i).length from by rw [tnL_len]; exact hil)
      have HB := Lib.hid hb
      obtain ⟨x, hx⟩ : ∃ x, x = l[i] := ⟨_, rfl⟩
      rw [← hx] at hat T1 T2
      clear hx hb
      obtain ⟨hc, hf⟩ := hat
      have hx0 : (0 : Int) ≤ x.toNat := by omega
      have hx1 := UInt8.toNat_lt x
      have hx2 : (x.toNat : Int) ≤ 255 := by omega
      by_cases s1 : 97 ≤ x.toNat ∧ x.toNat ≤ 122
      · have g1 : (97 : Int) ≤ (x.toNat : Int) := by omega
        have g2 : (x.toNat : Int) ≤ 122 := by omega
        have V := Lib.hid (tn_small x s1.1 s1.2).symm
        clear s1
        go_wp2_with fail
        go_roundw
        case rel => exact ⟨i + 1, by omega, by go_num, by rw [T1.out]; exact HB.out.put i L1.out _ _ V.out⟩
        case measure => simp [intOf]; omega
      · by_cases s2 : 65 ≤ x.toNat ∧ x.toNat ≤ 90
        · have g1 : (65 : Int) ≤ (x.toNat : Int) := by omega
          have g2 : (x.toNat : Int) ≤ 90 := by omega
          have g3 : ¬ (97 : Int) ≤ (x.toNat : Int) := by omega
          have V := Lib.hid (tn_great x s2.1 s2.2).symm
          clear s1 s2
          go_wp2_with fail
          go_roundw
          case rel => exact ⟨i + 1, by omega, by go_num, by rw [T1.out]; exact HB.out.put i L1.out _ _ V.out⟩
          case measure => simp [intOf]; omega
        · have hsame := Lib.hid (T2.out (tn_else x s1 s2))
          by_cases g3 : (97 : Int) ≤ (x.toNat : Int)
          · have g4 : ¬ (x.toNat : Int) ≤ 122 := by omega
            have g5 : (65 : Int) ≤ (x.toNat : Int) := by omega
            have g6 : ¬ (x.toNat : Int) ≤ 90 := by omega
            clear s1 s2
            go_wp2_with fail
            go_roundw
            case rel => exact ⟨i + 1, by omega, by go_num, by rw [hsame.out]; exact HB.out⟩
            case measure => simp [intOf]; omega
          · by_cases g5 : (65 : Int) ≤ (x.toNat : Int)
            · have g6 : ¬ (x.toNat : Int) ≤ 90 := by omega
              clear s1 s2
              go_wp2_with fail
              go_roundw
              case rel => exact ⟨i + 1, by omega, by go_num, by rw [hsame.out]; exact HB.out⟩
              case measure => simp [intOf]; omega
            · clear s1 s2
              go_wp2_with fail
              go_roundw
              case rel => exact ⟨i + 1, by omega, by go_num, by rw [hsame.out]; exact HB.out⟩
              case measure => simp [intOf]; omega
    · obtain rfl : i = n := by omega
      have e1 : tnL l i = l.map tnB := by unfold tnL; rw [← hlen.out, List.take_length, List.drop_length, List.append_nil]
      rw [e1] at hb
      have hml : (l.map tnB).length = i := by rw [List.length_map]; exact hlen.out
      have hcv := run_convert_bytes_back (P := Tryd.prog) wr 49 9 5 ⟨w.heap.size, 0, none⟩ cap (l.map tnB) Tryd.underlying49 Tryd.underlying5 Tryd.underlying9 (fun j hj => by
        have := (hb.1 j _ (List.getElem?_eq_getElem hj)).1
        rw [Addr.add_lit, Nat.zero_add]; exact this)
      rw [hml] at hcv
      have HB := Lib.hid hb.2.2
      clear hb e1 hml
      go_wp2_with fail
      go_ret
      exact ⟨rfl, HB.out⟩
end Go.Proofs.YtjcaadihkbhlhaaDoor

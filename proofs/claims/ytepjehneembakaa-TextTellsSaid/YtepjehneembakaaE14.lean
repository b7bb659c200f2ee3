import Derived.Test.YtepjehneembakaaE13
import Derived.Laws.AppendOwnNone
namespace Go.Proofs.Ytepjehneembakaa
open Go.RowKit

theorem info3 : (Try.prog.info? 3).map (fun i => (i.zero, i.size, i.bytes)) = some (some (.int .i64 0), 1, 8) := by kernel_rfl
theorem view_of_own {w : World} {B : Nat} {v : Value} {L : List Int} (h : w.ownsRow B 3 1 v L.length (L.map (Value.int .i64))) : ∃ a cap, v = .slice a L.length cap ∧ View w a L.length L := by
  rcases h.2 with ⟨rfl, hn⟩ | ⟨g, cap, cur, rfl, hg, hgg, h1, h2, h3, h4⟩
  · have : L = [] := List.length_eq_zero_iff.1 hn
    subst this
    exact ⟨none, 0, rfl, ⟨rfl, fun k hk => by simp at hk⟩⟩
  · refine ⟨some ⟨g, 0, none⟩, cap, rfl, ⟨rfl, fun k hk => ⟨g, 0, rfl, (Array.getElem?_eq_some_iff.1 hgg).1, ?_⟩⟩⟩
    rw [Nat.zero_add, h.cellAt k (by omega)]
    simp [List.getD, hk]
theorem view_cells {w : World} {ad : Addr} {m : Nat} {L : List Int} (h : View w (some ad) m L) : ∀ j u, (L.map (Value.int .i64))[j]? = some u → w.cell? (ad.add j) = some u := by
  intro j u hj
  simp only [List.getElem?_map, Option.map_eq_some_iff] at hj
  obtain ⟨x, hx, rfl⟩ := hj
  have hlt := (List.getElem?_eq_some_iff.1 hx).1
  obtain ⟨b, off, he, _, hc⟩ := h.2 j (by rw [← h.1]; exact hlt)
  simp only [Option.some.injEq] at he
  subst he
  rw [Addr.add_lit, hc]
  simp [List.getD, hx]

set_option maxHeartbeats 4000000 in
theorem puts0 (a : Option Addr) (len cap : Nat) (L : List Int) (w : World) (hv : View w a len L) (hm : len ≤ maxLen) (hnil : a = none → len = 0 ∧ cap = 0) :
    Calls Try.prog 5 #[.slice a len cap] w fun e w' => e = .returned (.bool true) ∧ Below w.heap.size w w' := by
  have hm0 := hm
  unfold maxLen at hm
  have HV := Lib.hid hv
  have HL : Hid (L.length = len) := hv.1
  obtain ⟨i0, hi, hz0, hz1, hz2⟩ := info_parts info3
  by_cases h1 : 3000 < len ∧ len ≤ 16384 ∨ 17000 < len
  · clear hv
    rcases h1 with ⟨h1, h2⟩ | h1
    · go_enter Try.func5, Try.ntmps5
      go_wp2_with fail
      go_ret
      exact ⟨rfl, Below.refl _ _⟩
    · go_enter Try.func5, Try.ntmps5
      go_wp2_with fail
      go_ret
      exact ⟨rfl, Below.refl _ _⟩
  · have h17 : len ≤ 17000 := by omega
    have hor : len ≤ 3000 ∨ 16384 < len := by omega
    have hown : (w.alloc (.cells #[] 3)).ownsRow w.heap.size 3 1 (.slice (some ⟨w.heap.size, 0, none⟩) 0 0) 0 [] := World.ownsRow_lit w #[] 0 (Nat.le_refl _) (Nat.zero_le _) rfl
    have b0 : Below w.heap.size w (w.alloc (.cells #[] 3)) := (Below.refl _ w).alloc (Nat.le_refl _) _
    have HO := Lib.hid hown
    have HB0 := Lib.hid b0
    clear hown b0 hv
    cases a with
    | none =>
      obtain ⟨rfl, rfl⟩ := hnil rfl
      go_enter Try.func5, Try.ntmps5
      go_wp2_with (at_builtin; refine wpList_append_own_none rfl _ _ 27 rfl w.heap.size 3 i0 1 Try.underlying27 hi _ _ _ rfl HO.out rfl ?_)
      have hv' : View (w.alloc (.cells #[] 3)) (some ⟨w.heap.size, 0, none⟩) 0 L := ⟨HL.out, fun k hk => by omega⟩
      refine (put_any _ 0 0 L _ hv' (by unfold maxLen; omega)).mono ?_
      rintro e w2 ⟨rfl, b2⟩
      have B2 := Lib.hid (HB0.out.trans (b2.mono HB0.out.size))
      have b2' := Lib.hid b2
      clear b2
      go_wp2_with fail
      refine (rput_any _ 0 0 L _ (HV.out.below B2.out) (by unfold maxLen; omega)).mono ?_
      rintro e w3 ⟨rfl, b3⟩
      have B3 := Lib.hid (B2.out.trans (b3.mono B2.out.size))
      have b3' := Lib.hid b3
      clear b3
      go_wp2_with fail
      refine wp_loop_rounds 1 ?_
      rw [rounds_succ]
      go_wp2_with fail
      go_ret
      exact ⟨rfl, B3.out⟩
    | some ad =>
      have HC := Lib.hid (view_cells (HV.out.below HB0.out))
      by_cases hz : len = 0
      · subst hz
        go_enter Try.func5, Try.ntmps5
        go_wp2_with (at_builtin; refine wpList_append_own _ rfl _ _ 27 rfl w.heap.size 3 i0 (.int .i64 0) 1 8 Try.underlying27 hi hz0 hz1 hz2 rfl (by decide) _ _ _ rfl HO.out ad 0 cap (L.map (Value.int .i64)) rfl ?k11 HC.out ?k12 ?k13 ?k14 ?k15 ?_; rotate_right; intro v' w1 ho hg _)
        case k11 => exact List.length_eq_zero_iff.1 HL.out
        case k12 => first | (intro x hx; rfl) | (intro u hu; simp only [List.mem_map] at hu; obtain ⟨x, _, rfl⟩ := hu; rfl)
        have ho2 : w1.ownsRow w.heap.size 3 1 v' L.length (L.map (Value.int .i64)) := by rw [HL.out]; simpa using ho
        obtain ⟨a', c', rfl, hv'⟩ := view_of_own ho2
        rw [HL.out] at hv'
        rw [HL.out]
        have HB1 := Lib.hid (HB0.out.grown hg HB0.out.size (fun q hq => (HO.out.lt q hq).1))
        have HV1 := Lib.hid hv'
        clear ho ho2 hg hv'
        refine (put_any a' 0 c' L _ HV1.out (by unfold maxLen; omega)).mono ?_
        rintro e w2 ⟨rfl, b2⟩
        have B2 := Lib.hid (HB1.out.trans (b2.mono HB1.out.size))
        have b2' := Lib.hid b2
        clear b2
        go_wp2_with fail
        refine (rput_any _ 0 cap L _ (HV.out.below B2.out) (by unfold maxLen; omega)).mono ?_
        rintro e w3 ⟨rfl, b3⟩
        have B3 := Lib.hid (B2.out.trans (b3.mono B2.out.size))
        have b3' := Lib.hid b3
        clear b3
        go_wp2_with fail
        refine wp_loop_rounds 1 ?_
        rw [rounds_succ]
        go_wp2_with fail
        go_ret
        exact ⟨rfl, B3.out⟩
      obtain ⟨b, off, had, hxb, _⟩ := HV.out.2 0 (by omega)
      simp only [Option.some.injEq] at had
      subst had
      have HCL : Hid (∀ k, k < len → w.cell? ⟨b, off + k, none⟩ = some (.int .i64 (L.getD k 0))) := Lib.hid (fun k hk => by
        obtain ⟨b', off', he, _, hx⟩ := HV.out.2 k hk
        simp only [Option.some.injEq, Addr.mk.injEq, and_true] at he
        obtain ⟨rfl, rfl⟩ := he
        exact hx)
      rcases hor with hs | hs
      · go_enter Try.func5, Try.ntmps5
        go_wp2_with (at_builtin; refine wpList_append_own _ rfl _ _ 27 rfl w.heap.size 3 i0 (.int .i64 0) 1 8 Try.underlying27 hi hz0 hz1 hz2 rfl (by decide) _ _ _ rfl HO.out ⟨b, off, none⟩ len cap (L.map (Value.int .i64)) rfl ?k21 HC.out ?k22 ?k23 ?k24 ?k25 ?_; rotate_right; intro v' w1 ho hg _)
        case k21 => first | exact HL.out | (rw [List.length_map, HL.out, Nat.mul_one])
        case k22 => first | (intro x hx; rfl) | (intro u hu; simp only [List.mem_map] at hu; obtain ⟨x, _, rfl⟩ := hu; rfl)
        case k24 => omega
        have ho2 : w1.ownsRow w.heap.size 3 1 v' L.length (L.map (Value.int .i64)) := by rw [HL.out]; simpa using ho
        obtain ⟨a', c', rfl, hv'⟩ := view_of_own ho2
        rw [HL.out] at hv'
        rw [HL.out]
        have HB1 := Lib.hid (HB0.out.grown hg HB0.out.size (fun q hq => (HO.out.lt q hq).1))
        have HV1 := Lib.hid hv'
        clear ho ho2 hg hv'
        refine (put_any a' len c' L _ HV1.out (by unfold maxLen; omega)).mono ?_
        rintro e w2 ⟨rfl, b2⟩
        have B2 := Lib.hid (HB1.out.trans (b2.mono HB1.out.size))
        have b2' := Lib.hid b2
        clear b2
        go_wp2_with fail
        refine (rput_any _ len cap L _ (HV.out.below B2.out) (by unfold maxLen; omega)).mono ?_
        rintro e w3 ⟨rfl, b3⟩
        have B3 := Lib.hid (B2.out.trans (b3.mono B2.out.size))
        have b3' := Lib.hid b3
        clear b3
        go_wp2_with fail
        obtain ⟨g, go, rfl, hgb, _⟩ := HV1.out.2 0 (by omega)
        have HCO : Hid (∀ k, k < len → w3.cell? ⟨g, go + k, none⟩ = some (.int .i64 (L.getD k 0))) := Lib.hid (fun k hk => by
          obtain ⟨b', off', he, hlt', hx⟩ := ((HV1.out.below b2'.out).below b3'.out).2 k hk
          simp only [Option.some.injEq, Addr.mk.injEq, and_true] at he
          obtain ⟨rfl, rfl⟩ := he
          exact hx)
        have hgb3 : g < w3.heap.size := Nat.lt_of_lt_of_le hgb (Nat.le_trans b2'.out.size b3'.out.size)
        go_loopw [8] (fun i wr => ∃ k : Nat, k ≤ len ∧ i = .int .i64 k ∧ Below w3.heap.size w3 wr) (fun i _ => len - (intOf i).toNat)
        case atStart => exact ⟨0, by omega, rfl, Below.refl _ _⟩
        case round =>
          obtain ⟨k, hk, rfl, hb⟩ := hrel
          by_cases hlt : k < len
          · have k1 := (hb.cell (p := ⟨g, go + k, none⟩) hgb3).trans (HCO.out k hlt)
            have k2 := (hb.cell (p := ⟨b, off + k, none⟩) (Nat.lt_of_lt_of_le hxb B3.out.size)).trans ((B3.out.cell (p := ⟨b, off + k, none⟩) hxb).trans (HCL.out k hlt))
            obtain ⟨x, hx⟩ : ∃ x, x = L.getD k 0 := ⟨_, rfl⟩
            rw [← hx] at k1 k2
            have HB := Lib.hid hb
            clear hb hx
            go_wp2_with fail
            go_quiet (fail)
            go_wp2_with fail
            go_roundw
            case rel => exact ⟨k + 1, by omega, by go_num, below_drewN HB.out _⟩
            case measure => simp [intOf]; omega
          · obtain rfl : k = len := by omega
            have HB := Lib.hid hb
            clear hb
            go_wp2_with fail
            go_ret
            exact ⟨rfl, B3.out.trans (HB.out.mono B3.out.size)⟩
      · go_enter Try.func5, Try.ntmps5
        go_wp2_with (at_builtin; refine wpList_append_own _ rfl _ _ 27 rfl w.heap.size 3 i0 (.int .i64 0) 1 8 Try.underlying27 hi hz0 hz1 hz2 rfl (by decide) _ _ _ rfl HO.out ⟨b, off, none⟩ len cap (L.map (Value.int .i64)) rfl ?k31 HC.out ?k32 ?k33 ?k34 ?k35 ?_; rotate_right; intro v' w1 ho hg _)
        case k31 => first | exact HL.out | (rw [List.length_map, HL.out, Nat.mul_one])
        case k32 => first | (intro x hx; rfl) | (intro u hu; simp only [List.mem_map] at hu; obtain ⟨x, _, rfl⟩ := hu; rfl)
        case k33 => unfold maxLen; omega
        case k34 => omega
        case k35 => exact HB0.out.size
        have ho2 : w1.ownsRow w.heap.size 3 1 v' L.length (L.map (Value.int .i64)) := by rw [HL.out]; simpa using ho
        obtain ⟨a', c', rfl, hv'⟩ := view_of_own ho2
        rw [HL.out] at hv'
        rw [HL.out]
        have HB1 := Lib.hid (HB0.out.grown hg HB0.out.size (fun q hq => (HO.out.lt q hq).1))
        have HV1 := Lib.hid hv'
        clear ho ho2 hg hv'
        refine (put_any a' len c' L _ HV1.out (by unfold maxLen; omega)).mono ?_
        rintro e w2 ⟨rfl, b2⟩
        have B2 := Lib.hid (HB1.out.trans (b2.mono HB1.out.size))
        have b2' := Lib.hid b2
        clear b2
        go_wp2_with fail
        refine (rput_any _ len cap L _ (HV.out.below B2.out) (by unfold maxLen; omega)).mono ?_
        rintro e w3 ⟨rfl, b3⟩
        have B3 := Lib.hid (B2.out.trans (b3.mono B2.out.size))
        have b3' := Lib.hid b3
        clear b3
        go_wp2_with fail
        obtain ⟨g, go, rfl, hgb, _⟩ := HV1.out.2 0 (by omega)
        have HCO : Hid (∀ k, k < len → w3.cell? ⟨g, go + k, none⟩ = some (.int .i64 (L.getD k 0))) := Lib.hid (fun k hk => by
          obtain ⟨b', off', he, hlt', hx⟩ := ((HV1.out.below b2'.out).below b3'.out).2 k hk
          simp only [Option.some.injEq, Addr.mk.injEq, and_true] at he
          obtain ⟨rfl, rfl⟩ := he
          exact hx)
        have hgb3 : g < w3.heap.size := Nat.lt_of_lt_of_le hgb (Nat.le_trans b2'.out.size b3'.out.size)
        go_loopw [8] (fun i wr => ∃ k : Nat, k ≤ len ∧ i = .int .i64 k ∧ Below w3.heap.size w3 wr) (fun i _ => len - (intOf i).toNat)
        case atStart => exact ⟨0, by omega, rfl, Below.refl _ _⟩
        case round =>
          obtain ⟨k, hk, rfl, hb⟩ := hrel
          by_cases hlt : k < len
          · have k1 := (hb.cell (p := ⟨g, go + k, none⟩) hgb3).trans (HCO.out k hlt)
            have k2 := (hb.cell (p := ⟨b, off + k, none⟩) (Nat.lt_of_lt_of_le hxb B3.out.size)).trans ((B3.out.cell (p := ⟨b, off + k, none⟩) hxb).trans (HCL.out k hlt))
            obtain ⟨x, hx⟩ : ∃ x, x = L.getD k 0 := ⟨_, rfl⟩
            rw [← hx] at k1 k2
            have HB := Lib.hid hb
            clear hb hx
            go_wp2_with fail
            go_quiet (fail)
            go_wp2_with fail
            go_roundw
            case rel => exact ⟨k + 1, by omega, by go_num, below_drewN HB.out _⟩
            case measure => simp [intOf]; omega
          · obtain rfl : k = len := by omega
            have HB := Lib.hid hb
            clear hb
            go_wp2_with fail
            go_ret
            exact ⟨rfl, B3.out.trans (HB.out.mono B3.out.size)⟩

theorem puts_walk (a : Option Addr) (len cap : Nat) (z : List Int) (w : World) (h : IsRow .i64 w a len cap z) :
    Calls Try.prog 5 #[.slice a len cap] w fun e w' => e = .returned (.bool true) ∧ Below w.heap.size w w' :=
  puts0 a len cap (z.take len) w (view_of_row h).1 (view_of_row h).2 (fun ha => by
    rcases h with ⟨_, h1, h2, _⟩ | ⟨x, hx, _⟩
    · exact ⟨h1, h2⟩
    · rw [ha] at hx; simp at hx)
end Go.Proofs.Ytepjehneembakaa
